/- Part 17 of the proof: OuF, OuI, FlO. -/
import Derived.RangeFuncKeeps
import Derived.RangeFuncCalls
import Derived.RangeFuncLeaves
import Derived.Shelf.Abstract
import Derived.Shelf.RegionOpen
import Derived.WalkKit
import Derived.OwnWalkIn
import Derived.TacticsInMore
import Derived.LoopNIn
import Derived.LoopIn
import Derived.Test.YtlacjifnniahhaaCFl15

namespace Go.Proofs.Ytlacjifnniahhaa
open Go Go.RowKit

theorem stepX_add (L : List Pt) (a : Int) : stepX L (a + L.length) = stepX L a := by
  unfold stepX
  rw [show a + (L.length : Int) - 1 = (a - 1) + L.length by omega, kd_add, kd_add, ringP_add, ringP_add]
theorem exK_unroll (L : List Pt) (i : Nat) : exK L (L.length + i) = exE L ++ exK L i := by
  unfold exE exK
  rw [List.range_add, List.flatMap_append, List.flatMap_map]
  congr 1
  refine congrArg (fun f => List.flatMap f (List.range i)) (funext fun j => ?_)
  rw [show (st L : Int) + ((L.length + j : Nat) : Int) = ((st L : Int) + j) + L.length by omega, stepX_add]
theorem exK_prefix (L : List Pt) (i : Nat) : ∀ j, ∃ X, exK L (i + j) = exK L i ++ X
  | 0 => ⟨[], by simp⟩
  | j + 1 => by
    obtain ⟨X, hX⟩ := exK_prefix L i j
    exact ⟨X ++ stepX L ((st L : Int) + ((i + j : Nat) : Int)), by rw [show i + (j + 1) = (i + j) + 1 by omega, exK_succ, hX, List.append_assoc]⟩
theorem ring_unroll {L : List Pt} (h0 : 0 < (exE L).length) : ∀ (m k i : Nat) (p : Pt), k ≤ m → (exK L i)[k]? = some p → ringP (exE L) (k : Int) = p
  | m, k, i, p, hm, hp => by
    have hp' : (exE L ++ exK L i)[k]? = some p := by
      obtain ⟨X, hX⟩ := exK_prefix L i L.length
      rw [← exK_unroll, Nat.add_comm, hX, List.getElem?_append_left (List.getElem?_eq_some_iff.1 hp).1]
      exact hp
    by_cases hk : k < (exE L).length
    · rw [List.getElem?_append_left hk] at hp'
      exact ringP_nat hp'
    · rw [List.getElem?_append_right (by omega)] at hp'
      cases m with
      | zero => omega
      | succ m =>
        have := ring_unroll h0 m (k - (exE L).length) i p (by omega) hp'
        rw [show ((k - (exE L).length : Nat) : Int) = (k : Int) - (exE L).length by omega, ringP_sub] at this
        exact this
theorem hd_at (L : List Pt) (i : Nat) : (exK L (i + 1))[(exK L i).length]? = some (hd L ((st L : Int) + i)) := by
  rw [exK_succ, List.getElem?_append_right (Nat.le_refl _), Nat.sub_self]
  rcases stepX_cases L ((st L : Int) + i) with ⟨h, _⟩ | ⟨h, _⟩ <;> rw [h] <;> rfl
/-- A place in the unrolled ring: one point for one point, or a middle and a point. -/
inductive At' (L : List Pt) (k : Nat) : Prop
  | one (i : Nat) (a : Int) (ha : a = (st L : Int) + i) (hk : k = (exK L i).length) (hk1 : k + 1 = (exK L (i + 1)).length) (h : hd L a = ringP L a) (h2 : ¬ (kd L (a - 1) = 2 ∧ kd L a = 2))
  | mid (i : Nat) (a : Int) (ha : a = (st L : Int) + i) (hk : k = (exK L i).length) (hk2 : k + 2 = (exK L (i + 1)).length) (hp : (exK L (i + 1))[k + 1]? = some (ringP L a)) (h1 : (hd L a).2.2 = 1) (h2 : kd L a = 2)
  | two (i : Nat) (a : Int) (ha : a = (st L : Int) + i) (hk1 : k + 1 = (exK L (i + 1)).length) (hp : (exK L (i + 1))[k]? = some (ringP L a)) (h2 : kd L a = 2)
theorem at_of (L : List Pt) : ∀ k, At' L k := by
  have start : ∀ i k, k = (exK L i).length → At' L k := fun i k hk => by
    rcases stepX_cases L ((st L : Int) + i) with ⟨h1, h2, h3⟩ | ⟨h1, h2, h3, h4⟩
    · exact .one i _ rfl hk (by rw [exK_succ, h1, List.length_append, hk]; rfl) h2 h3
    · refine .mid i _ rfl hk (by rw [exK_succ, h1, List.length_append, hk]; rfl) ?_ h2 h4
      rw [exK_succ, h1, hk, List.getElem?_append_right (by omega), show (exK L i).length + 1 - (exK L i).length = 1 by omega]; rfl
  intro k
  induction k with
  | zero => exact start 0 0 (by simp [exK])
  | succ k ih =>
    cases ih with
    | one i a ha hk hk1 h h2 => exact start (i + 1) _ hk1
    | mid i a ha hk hk2 hp h1 h2 => exact .two i a ha hk2 hp h2
    | two i a ha hk1 hp h2 => exact start (i + 1) _ hk1
theorem hd_plain {L : List Pt} (a : Int) (h2 : kd L a ≠ 2) : hd L (a + 1) = ringP L (a + 1) := by
  rcases stepX_cases L (a + 1) with ⟨_, h3, _⟩ | ⟨_, _, h3, _⟩
  · exact h3
  · rw [show a + 1 - 1 = a by omega] at h3; exact absurd h3 h2
section
variable {L : List Pt} (h : mayC L = true)
include h
theorem kd_head (k i : Nat) (hk : k = (exK L i).length) : kd (exE L) (k : Int) = (hd L ((st L : Int) + i)).2.2 := by
  unfold kd
  rw [ring_unroll (ex_pos h) k k (i + 1) _ (Nat.le_refl _) (by rw [hk]; exact hd_at L i)]
theorem two_next (a : Int) (h2 : kd L a = 2) : (hd L (a + 1)).2.2 = 1 := by
  rcases stepX_cases L (a + 1) with ⟨_, h3, h4⟩ | ⟨_, h3, _⟩
  · rw [show a + 1 - 1 = a by omega] at h4
    rw [h3]
    show kd L (a + 1) = 1
    rcases (kinds_of h).ring (may_pos h) (a + 1) with e | e | e
    · exact e
    · exact absurd ⟨h2, e⟩ h4
    · have := pairK_iff.1 ((okA_ring h (a + 1)).2 e)
      rw [show a + 1 - 1 = a by omega, h2] at this
      omega
  · exact h3
theorem ex_quad (k : Nat) (h1 : kd (exE L) (k : Int) = 1) (h2 : kd (exE L) ((k : Int) + 1) = 2) : kd (exE L) ((k : Int) + 2) = 1 := by
  cases at_of L k with
  | one i a ha hk hk1 hh hn =>
    have e1 := kd_head h (k + 1) (i + 1) hk1
    rw [show ((k + 1 : Nat) : Int) = (k : Int) + 1 by omega, h2, show (st L : Int) + ((i + 1 : Nat) : Int) = a + 1 by omega] at e1
    rcases stepX_cases L (a + 1) with ⟨h3, h4, _⟩ | ⟨_, h4, _⟩
    · have e2 : k + 2 = (exK L (i + 2)).length := by
        rw [exK_succ, show (st L : Int) + ((i + 1 : Nat) : Int) = a + 1 by omega, h3, List.length_append, ← hk1]; rfl
      have e3 := kd_head h (k + 2) (i + 2) e2
      rw [show ((k + 2 : Nat) : Int) = (k : Int) + 2 by omega, show (st L : Int) + ((i + 2 : Nat) : Int) = (a + 1) + 1 by omega] at e3
      rw [e3]
      exact two_next h _ (by rw [h4] at e1; exact e1.symm)
    · omega
  | mid i a ha hk hk2 hp hm hq =>
    have e3 := kd_head h (k + 2) (i + 1) hk2
    rw [show ((k + 2 : Nat) : Int) = (k : Int) + 2 by omega, show (st L : Int) + ((i + 1 : Nat) : Int) = a + 1 by omega] at e3
    rw [e3]
    exact two_next h _ hq
  | two i a ha hk1 hp hq =>
    have e := ring_unroll (ex_pos h) k k (i + 1) _ (Nat.le_refl _) hp
    unfold kd at h1 hq
    rw [e, hq] at h1
    omega
theorem ex_cubic (k : Nat) (h1 : kd (exE L) (k : Int) = 1) (h2 : kd (exE L) ((k : Int) + 1) = 3) : kd (exE L) ((k : Int) + 2) = 3 ∧ kd (exE L) ((k : Int) + 3) = 1 := by
  cases at_of L k with
  | one i a ha hk hk1 hh hn =>
    have e0 := kd_head h k i hk
    rw [h1, ← ha, hh] at e0
    have k0 : kd L a = 1 := e0.symm
    have e1 := kd_head h (k + 1) (i + 1) hk1
    rw [show ((k + 1 : Nat) : Int) = (k : Int) + 1 by omega, h2, show (st L : Int) + ((i + 1 : Nat) : Int) = a + 1 by omega] at e1
    have p1 := hd_plain (L := L) a (by omega)
    rw [p1] at e1
    have k1 : kd L (a + 1) = 3 := e1.symm
    have q1 := pairK_iff.1 ((okA_ring h (a + 1)).2 k1)
    rw [show a + 1 - 1 = a by omega, show a + 1 + 1 = a + 2 by omega, k0] at q1
    have k2 : kd L (a + 2) = 3 := by omega
    have q2 := pairK_iff.1 ((okA_ring h (a + 2)).2 k2)
    rw [show a + 2 - 1 = a + 1 by omega, show a + 2 + 1 = a + 3 by omega, k1] at q2
    have k3 : kd L (a + 3) = 1 := by omega
    have p2 := hd_plain (L := L) (a + 1) (by omega)
    have p3 := hd_plain (L := L) (a + 2) (by omega)
    rw [show a + 1 + 1 = a + 2 by omega] at p2
    rw [show a + 2 + 1 = a + 3 by omega] at p3
    have s1 : stepX L (a + 1) = [hd L (a + 1)] := by
      rcases stepX_cases L (a + 1) with ⟨h3, _⟩ | ⟨_, _, _, h3⟩
      · exact h3
      · omega
    have s2 : stepX L (a + 2) = [hd L (a + 2)] := by
      rcases stepX_cases L (a + 2) with ⟨h3, _⟩ | ⟨_, _, _, h3⟩
      · exact h3
      · omega
    have l2 : k + 2 = (exK L (i + 2)).length := by
      rw [exK_succ, show (st L : Int) + ((i + 1 : Nat) : Int) = a + 1 by omega, s1, List.length_append, ← hk1]; rfl
    have l3 : k + 3 = (exK L (i + 3)).length := by
      rw [exK_succ, show (st L : Int) + ((i + 2 : Nat) : Int) = a + 2 by omega, s2, List.length_append, ← l2]; rfl
    have f2 := kd_head h (k + 2) (i + 2) l2
    have f3 := kd_head h (k + 3) (i + 3) l3
    rw [show ((k + 2 : Nat) : Int) = (k : Int) + 2 by omega, show (st L : Int) + ((i + 2 : Nat) : Int) = a + 2 by omega, p2] at f2
    rw [show ((k + 3 : Nat) : Int) = (k : Int) + 3 by omega, show (st L : Int) + ((i + 3 : Nat) : Int) = a + 3 by omega, p3] at f3
    exact ⟨f2.trans k2, f3.trans k3⟩
  | mid i a ha hk hk2 hp hm hq =>
    have e := ring_unroll (ex_pos h) (k + 1) (k + 1) (i + 1) _ (Nat.le_refl _) hp
    rw [show ((k + 1 : Nat) : Int) = (k : Int) + 1 by omega] at e
    unfold kd at h2 hq
    rw [e, hq] at h2
    omega
  | two i a ha hk1 hp hq =>
    have e := ring_unroll (ex_pos h) k k (i + 1) _ (Nat.le_refl _) hp
    unfold kd at h1 hq
    rw [e, hq] at h1
    omega
end

/-- What the law keeps of the curves so far: where the contour began, where the last curve ended. -/
def goCv (s : Option (Pt × Pt)) (c : Cv) : Option (Option (Pt × Pt)) :=
  match s with
  | none => some (some (c.2.1, c.2.2.2.2))
  | some (f, l) => if c.2.1 = l then some (some (f, c.2.2.2.2)) else if l = f then some (some (c.2.1, c.2.2.2.2)) else none
def goCvs (s : Option (Pt × Pt)) : List Cv → Option (Option (Pt × Pt))
  | [] => some s
  | c :: r => (goCv s c).bind fun t => goCvs t r
theorem goCvs_append (s : Option (Pt × Pt)) : ∀ (a b : List Cv), goCvs s (a ++ b) = (goCvs s a).bind fun t => goCvs t b := by
  intro a
  induction a generalizing s with
  | nil => intro b; rfl
  | cons c r ih =>
    intro b
    show (goCv s c).bind _ = ((goCv s c).bind _).bind _
    cases goCv s c with
    | none => rfl
    | some t => exact ih t b
theorem goCvs_one (s : Option (Pt × Pt)) (c : Cv) : goCvs s [c] = goCv s c := by
  show (goCv s c).bind _ = _
  cases goCv s c <;> rfl
/-- At a contour's end: nothing yet, or it has closed. -/
def Closed (s : Option (Pt × Pt)) : Prop := s = none ∨ ∃ f, s = some (f, f)
theorem cvAt_A (L : List Pt) (k : Nat) : (cvAt L k).2.1 = ringP L k := by
  unfold cvAt
  split
  · rfl
  · split <;> rfl
/-- The next point on the contour. -/
def Next (L : List Pt) (j q : Nat) : Prop := j ≤ q ∧ kd L (q : Int) = 1 ∧ ∀ r, j ≤ r → r < q → kd L (r : Int) ≠ 1
theorem cvAt_D {L : List Pt} (h : mayC L = true) (k : Nat) (h1 : kd (exE L) (k : Int) = 1) : ∃ q, Next (exE L) (k + 1) q ∧ (cvAt (exE L) k).2.2.2.2 = ringP (exE L) (q : Int) := by
  have c1 : ((k + 1 : Nat) : Int) = (k : Int) + 1 := by omega
  have c2 : ((k + 2 : Nat) : Int) = (k : Int) + 2 := by omega
  have c3 : ((k + 3 : Nat) : Int) = (k : Int) + 3 := by omega
  rcases (ex_kinds h).ring (ex_pos h) ((k : Int) + 1) with e | e | e
  · refine ⟨k + 1, ⟨Nat.le_refl _, by rw [c1]; exact e, fun r h1 h2 => by omega⟩, ?_⟩
    unfold cvAt; simp [e, c1]
  · have h3 := ex_quad h k h1 e
    refine ⟨k + 2, ⟨by omega, by rw [c2]; exact h3, fun r h1 h2 => ?_⟩, ?_⟩
    · obtain rfl : r = k + 1 := by omega
      rw [c1]; omega
    · unfold cvAt; simp [e, c2]
  · obtain ⟨h3, h4⟩ := ex_cubic h k h1 e
    refine ⟨k + 3, ⟨by omega, by rw [c3]; exact h4, fun r h1 h2 => ?_⟩, ?_⟩
    · rcases (show r = k + 1 ∨ r = k + 2 by omega) with rfl | rfl
      · rw [c1]; omega
      · rw [c2]; omega
    · unfold cvAt; simp [e, c3]
theorem ex_on {L : List Pt} (h : mayC L = true) : kd (exE L) 0 = 1 := by
  have h1 := ring_unroll (ex_pos h) 0 0 1 _ (Nat.le_refl _) (hd_at L 0)
  obtain ⟨h2, h3⟩ := ex_head h
  have h4 := ringP_nat h2
  unfold kd
  rw [show (0 : Int) = ((0 : Nat) : Int) from rfl, h4, h3]
theorem cvK_go {L : List Pt} (h : mayC L = true) {s : Option (Pt × Pt)} (hs : Closed s) : ∀ j, ∃ q, Next (exE L) (j + 1) q ∧ goCvs s (cvK (exE L) (j + 1)) = some (some (ringP (exE L) 0, ringP (exE L) (q : Int)))
  | 0 => by
    have h0 := ex_on h
    obtain ⟨q, hq, hD⟩ := cvAt_D h 0 h0
    refine ⟨q, hq, ?_⟩
    have e : cvK (exE L) 1 = [cvAt (exE L) 0] := by
      rw [cvK_succ, cvS_at (ex_kinds h) (ex_pos h), if_pos (by rw [show ((0 : Nat) : Int) = 0 from rfl, h0]; rfl)]; rfl
    have hA := cvAt_A (exE L) 0
    rw [e, goCvs_one, ← hD]
    rcases hs with rfl | ⟨f, rfl⟩
    · show some (some (_, _)) = _
      rw [hA]; rfl
    · unfold goCv
      simp only
      split
      · rename_i h9
        rw [← h9, hA]; rfl
      · rw [if_pos trivial, hA]; rfl
  | j + 1 => by
    obtain ⟨q, hq, hg⟩ := cvK_go h hs j
    rw [cvK_succ, goCvs_append, hg, cvS_at (ex_kinds h) (ex_pos h)]
    by_cases h1 : kd (exE L) ((j + 1 : Nat) : Int) = 1
    · obtain ⟨q', hq', hD⟩ := cvAt_D h (j + 1) h1
      obtain rfl : q = j + 1 := by
        rcases Nat.lt_or_ge (j + 1) q with h9 | h9
        · exact absurd h1 (hq.2.2 _ (Nat.le_refl _) h9)
        · have := hq.1; omega
      refine ⟨q', hq', ?_⟩
      rw [if_pos (by rw [h1]; rfl), Option.bind_some, goCvs_one]
      unfold goCv
      simp only
      rw [if_pos (cvAt_A _ _), hD]
    · refine ⟨q, ⟨?_, hq.2.1, fun r h3 h4 => hq.2.2 r (by omega) h4⟩, ?_⟩
      · rcases Nat.lt_or_ge (j + 1) q with h9 | h9
        · exact h9
        · have := hq.1
          obtain rfl : q = j + 1 := by omega
          exact absurd hq.2.1 h1
      · rw [if_neg (by simpa using h1)]; rfl
theorem cvs_go {L : List Pt} (h : mayC L = true) {s : Option (Pt × Pt)} (hs : Closed s) : ∃ t, goCvs s (cvsOf (exE L)) = some t ∧ Closed t := by
  have h0 := ex_pos h
  obtain ⟨n, hn⟩ : ∃ n, (exE L).length = n + 1 := ⟨(exE L).length - 1, by omega⟩
  obtain ⟨q, hq, hg⟩ := cvK_go h hs n
  have hon : kd (exE L) ((n + 1 : Nat) : Int) = 1 := by
    rw [← hn]
    have := kd_add (exE L) 0
    rw [Int.zero_add] at this
    rw [this]; exact ex_on h
  obtain rfl : q = n + 1 := by
    rcases Nat.lt_or_ge (n + 1) q with h9 | h9
    · exact absurd hon (hq.2.2 _ (Nat.le_refl _) h9)
    · have := hq.1; omega
  refine ⟨_, by unfold cvsOf; rw [hn]; exact hg, .inr ⟨ringP (exE L) 0, ?_⟩⟩
  rw [← hn]
  have := ringP_add (exE L) 0
  rw [Int.zero_add] at this
  rw [this]
theorem curves_go : ∀ (Ls : List (List Pt)), (∀ L ∈ Ls, mayC L = true) → ∀ s, Closed s → ∃ t, goCvs s ((Ls.map exE).flatMap cvsOf) = some t ∧ Closed t
  | [], _, s, hs => ⟨s, rfl, hs⟩
  | L :: Ls, hm, s, hs => by
    obtain ⟨t, h1, h2⟩ := cvs_go (hm L (by simp)) hs
    obtain ⟨t', h3, h4⟩ := curves_go Ls (fun M hM => hm M (by simp [hM])) t h2
    exact ⟨t', by rw [List.map_cons, List.flatMap_cons, goCvs_append, h1]; exact h3, h4⟩

end Go.Proofs.Ytlacjifnniahhaa

namespace Go.Proofs.Ytlacjifnniahhaa
open Go Go.RowKit Go.Shelf
attribute [local go_sem] Oper.semAt_some

def cvY (E : List Pt) (k : Nat) : List Cv := if kd E (k : Int) == 1 then [cvAt E k] else []
def cvYK (E : List Pt) (k : Nat) : List Cv := (List.range k).flatMap (cvY E)
def cvYs (E : List Pt) : List Cv := cvYK E E.length
theorem cvYK_succ (E : List Pt) (k : Nat) : cvYK E (k + 1) = cvYK E k ++ cvY E k := by simp [cvYK, List.range_succ]
theorem cvYK_len (E : List Pt) : ∀ k, (cvYK E k).length ≤ k
  | 0 => by simp [cvYK]
  | k + 1 => by
    have h1 := cvYK_len E k
    have h2 : (cvY E k).length ≤ 1 := by unfold cvY; split <;> simp
    rw [cvYK_succ, List.length_append]
    omega
theorem cvYK_prefix (E : List Pt) (i : Nat) : ∀ d, cvYK E i <+: cvYK E (i + d)
  | 0 => List.prefix_rfl
  | d + 1 => (cvYK_prefix E i d).trans (by rw [show i + (d + 1) = (i + d) + 1 by omega, cvYK_succ]; exact List.prefix_append _ _)
theorem part_prefix {Es : List (List Pt)} {k i : Nat} {L : List Pt} (hL : Es[k]? = some L) (hi : i ≤ L.length) : (Es.take k).flatMap cvYs ++ cvYK L i <+: Es.flatMap cvYs := by
  obtain ⟨d, hd⟩ : ∃ d, L.length = i + d := ⟨L.length - i, by omega⟩
  obtain ⟨X, hX⟩ := cvYK_prefix L i d
  refine ⟨X ++ (Es.drop (k + 1)).flatMap cvYs, ?_⟩
  have e : Es = Es.take k ++ L :: Es.drop (k + 1) := by
    obtain ⟨hk, he⟩ := List.getElem?_eq_some_iff.1 hL
    rw [← he, ← List.drop_eq_getElem_cons hk, List.take_append_drop]
  conv => rhs; rw [e]
  rw [List.flatMap_append, List.flatMap_cons, List.append_assoc, ← List.append_assoc (cvYK L i), hX, ← hd]
  rfl
theorem grown_of {w w' : World} (b : Below w.heap.size w w') : w.grownBy w' none := ⟨b.os, b.tape, b.output, b.size, fun k hk _ => b.block k hk⟩

set_option maxRecDepth 100000 in
set_option maxHeartbeats 2000000 in
theorem curves_stops (Bx z : Nat) (A : Option Addr) (c N : Nat) (Es : List (List Pt)) (w0 : World) (hbx : w0.cell? ⟨Bx, 0, none⟩ = some (.slice A Es.length c)) (hB : Bx < w0.heap.size) (hR : OutAt w0 z A Es) (hz : z ≤ w0.heap.size) (hm : Es.length ≤ 100000) (hl : ∀ L ∈ Es, L.length ≤ 1000000) (hN : ∀ k L, Es[k]? = some L → ((Es.take k).flatMap cvYs).length + L.length ≤ N) :
    SeqStopsK Fence.wide 2 Try.prog 63 #[.pointer (some ⟨Bx, 0, none⟩)] (fun x : Cv => #[cvV x]) (Below z) (fun xs => xs = Es.flatMap cvYs) (fun pre => pre <+: Es.flatMap cvYs) N w0 := by
  intro l J Jx W hW hJ hJx hY h0
  have hcx := (hW.cell (p := ⟨Bx, 0, none⟩) hB).trans hbx
  have HR := Lib.hid hR
  have HLL := Lib.hid hl
  have HNN := Lib.hid hN
  obtain ⟨n, hnn⟩ : ∃ n, n = Es.length := ⟨_, rfl⟩
  rw [← hnn] at hcx hm
  have HN := Lib.hid hnn
  clear hnn hbx hR hl hN
  refine callsIn_of_wp Try.func63 rfl trivial ?_ rfl
  simp only [Try.ntmps63, List.size_toArray, List.length_cons, List.length_nil, Nat.reduceAdd, Nat.reduceSub, Array.replicate_succ, Array.replicate_zero, List.push_toArray, List.append_toArray, List.nil_append, List.cons_append]
  gi_wp2
  have hJ0 : J ((Es.take 0).flatMap cvYs) W := h0
  clear h0 hcx
  gi_loopw [9] (fun i wr => ∃ k : Nat, k ≤ n ∧ i = .int .i64 k ∧ J ((Es.take k).flatMap cvYs) wr ∧ Below z W wr) (fun i _ => n - (intOf i).toNat)
  case atStart => exact ⟨0, Nat.zero_le _, rfl, hJ0, Below.refl _ _⟩
  case round =>
    obtain ⟨k, hk, rfl, hJk, hb⟩ := hrel
    have hsw := hW.size
    have hsz := hb.size
    by_cases hlt : k < n
    · have d1 : decide ((k : Int) < (n : Int)) = true := by simp; omega
      obtain ⟨L, hL⟩ := at_some (L := Es) (k := k) (by rw [← HN.out]; exact hlt)
      obtain ⟨b, o, Ai, ci, hA, hbl, h3, hLi⟩ := HR.out.at' k L hL
      subst hA
      have HW0 := Lib.hid (show ∀ wr2 : World, Below z W wr2 → ∀ b i, b < z → wr2.cell? ⟨b, i, none⟩ = w0.cell? ⟨b, i, none⟩  from fun wr2 hl b i hb => World.cell?_of_block (w' := wr2) (w := w0) (a := ⟨b, i, none⟩) ((hl.block b hb).trans (hW.block b (by omega))))
      have g0 := (HW0.out wr hb b (o + k) hbl).trans h3
      have hll : L.length ≤ 1000000 := HLL.out L (List.mem_of_getElem? hL)
      have HNL := Lib.hid (HNN.out k L hL)
      have HPF := Lib.hid (show ∀ i, i ≤ L.length → (Es.take k).flatMap cvYs ++ cvYK L i <+: Es.flatMap cvYs from fun i hi => part_prefix hL hi)
      have HX := Lib.hid (show (Es.take (k + 1)).flatMap cvYs = (Es.take k).flatMap cvYs ++ cvYs L by rw [take_snoc1 hL]; simp)
      have HLI := Lib.hid hLi
      obtain ⟨m0, hm0⟩ : ∃ m0, m0 = L.length := ⟨_, rfl⟩
      rw [← hm0] at g0 hll
      have HM0 := Lib.hid hm0
      clear h3 hL hLi hm0
      generalize (Es.take k).flatMap cvYs = P at *
      gi_wp2
      gi_loopw [15] (fun i wr => ∃ j : Nat, j ≤ m0 ∧ i = .int .i64 j ∧ J (P ++ cvYK L j) wr ∧ Below z W wr) (fun i _ => m0 - (intOf i).toNat)
      case atStart => exact ⟨0, Nat.zero_le _, rfl, by simpa [cvYK] using hJk, hb⟩
      case round =>
        clear hJk hb hsz g0 hJ0
        obtain ⟨j, hj, rfl, hJj, hb⟩ := hrel
        have hsz := hb.size
        by_cases hjm : j < m0
        · have d2 : decide ((j : Int) < (m0 : Int)) = true := by simp; omega
          obtain ⟨p, hp⟩ := at_some (L := L) (k := j) (by rw [← HM0.out]; exact hjm)
          obtain ⟨fb, fo, hA, hfb, f0, f1, f2⟩ := lists_pt HLI.out hp
          subst hA
          have p0 := ringP_nat hp
          have k0 : kd L (j : Int) = p.2.2 := by unfold kd; rw [p0]
          obtain ⟨x, y, zk⟩ := p
          simp only at f0 f1 f2 k0
          have q0 := (HW0.out wr hb fb _ hfb).trans f0
          have q1 := (HW0.out wr hb fb _ hfb).trans f1
          have q2 := (HW0.out wr hb fb _ hfb).trans f2
          have qa := (Blk.new wr 25 #[.int .i64 x, .int .i64 y, .int .i64 zk]).cell 2
          simp only [List.getElem?_toArray, List.getElem?_cons_zero, List.getElem?_cons_succ] at qa
          have ba : Below wr.heap.size wr (wr.alloc (.cells #[.int .i64 x, .int .i64 y, .int .i64 zk] 25)) := (Below.refl _ _).alloc (Nat.le_refl _) _
          clear f0 f1 f2 hp p0
          cases hz1 : (zk == 1)
          · have HX2 := Lib.hid (show cvYK L (j + 1) = cvYK L j by rw [cvYK_succ]; unfold cvY; rw [k0, hz1]; simp)
            gi_wp2_with (refine ⟨trivial, ?_⟩)
            refine ⟨fun _ h => (nomatch h), ?_⟩
            gi_wp2
            go_roundw
            case rel => exact ⟨j + 1, by omega, by go_num, by rw [HX2.out]; exact hJ _ _ _ none hJj (grown_of ba) (fun r e => nomatch e), hb.trans (ba.mono (by omega))⟩
            case measure => simp [intOf]; omega
          · have HX2 := Lib.hid (show cvYK L (j + 1) = cvYK L j ++ [cvAt L j] by rw [cvYK_succ]; unfold cvY; rw [k0, hz1]; rfl)
            have hwz : z ≤ wr.heap.size := by omega
            have hBl : Below z w0 wr := (hW.mono hz).trans hb
            have C := curveFrom_any z (some ⟨fb, fo, none⟩) ci L j (wr.alloc (.cells #[.int .i64 x, .int .i64 y, .int .i64 zk] 25)) (Nat.le_trans hwz ba.size) (HLI.out.below (hBl.trans (ba.mono hwz))) (by rw [← HM0.out]; exact hll) (by rw [← HM0.out]; exact hjm)
            rw [← HM0.out] at C
            have HPN := Lib.hid (show (P ++ cvYK L j).length < N by rw [List.length_append]; have := cvYK_len L j; have := HNL.out; have := HM0.out; omega)
            clear k0 hBl
            gi_wp2_with (first | (refine ⟨trivial, ?_⟩; gi_at_call 64; ((refine (callsIn_wide.2 C).mono ?_); rintro e w3 ⟨rfl, b3⟩; have b4 := ba.trans (b3.mono ba.size); obtain ⟨fn, tmps, assign, body, hy, hRd⟩ := hY _ (cvAt L j) w3 (hJ _ _ _ none hJj (grown_of b4) (fun r e => nomatch e)) HPN.out)))
            refine hRd.mono ?_
            rintro e V (⟨rfl, hJ3, lv⟩ | ⟨rfl, hJx3⟩)
            · gi_wp2
              go_roundw
              case rel => exact ⟨j + 1, by omega, by go_num, by rw [HX2.out, ← List.append_assoc]; exact hJ3, (hb.trans (b4.mono hwz)).trans lv⟩
              case measure => simp [intOf]; omega
            · gi_wp2
              refine bodyPost_ret (results_none rfl _ _ _) rfl ?_
              exact ⟨⟨_, rfl⟩, .inr ⟨_, by rw [List.append_assoc, ← HX2.out]; exact HPF.out (j + 1) (by rw [← HM0.out]; omega), hJx3⟩⟩
        · obtain rfl : j = m0 := by omega
          have d2 : decide ((j : Int) < (j : Int)) = false := by simp
          have HS := Lib.hid (show P ++ cvYK L j = P ++ cvYs L by unfold cvYs; rw [HM0.out])
          gi_wp2
          go_roundw
          case rel => exact ⟨k + 1, by omega, by go_num, by rw [HX.out, ← HS.out]; exact hJj, hb⟩
          case measure => simp [intOf]; omega
    · have d1 : decide ((k : Int) < (n : Int)) = false := by simp; omega
      have HT := Lib.hid (show Es.take k = Es from List.take_of_length_le (by have := HN.out; omega))
      gi_wp2
      go_end0
      exact ⟨⟨_, rfl⟩, .inl ⟨Es.flatMap cvYs, rfl, by rw [HT.out] at hJk; exact hJk⟩⟩

theorem cvYs_of {E : List Pt} (h : Kinds E) (h0 : 0 < E.length) : cvYs E = cvsOf E := by
  unfold cvYs cvYK cvsOf cvK
  exact congrArg (fun f => List.flatMap f (List.range E.length)) (funext fun k => (cvS_at h h0 k).symm)
theorem curves_one : ∀ (Ls : List (List Pt)), (∀ L ∈ Ls, mayC L = true) → (Ls.map exE).flatMap cvYs = (Ls.map rexE).flatMap cvsOf
  | [], _ => rfl
  | L :: Ls, h => by
    have hL := h L (by simp)
    rw [List.map_cons, List.map_cons, List.flatMap_cons, List.flatMap_cons, curves_one Ls (fun M hM => h M (by simp [hM])), cvYs_of (ex_kinds hL) (ex_pos hL), ex_rex hL]
theorem exs_eq {Ls : List (List Pt)} (h : ∀ L ∈ Ls, mayC L = true) : Ls.map exE = Ls.map rexE := List.map_congr_left fun L hL => ex_rex (h L hL)
/-- One curve more of those that go round: the law's state goes on. -/
theorem go_step {all pre : List Cv} {x : Cv} {u : Option (Pt × Pt)} (hg : goCvs none all = some u) (hp : pre ++ [x] <+: all) : ∃ s t, goCvs none pre = some s ∧ goCv s x = some t ∧ goCvs none (pre ++ [x]) = some t := by
  obtain ⟨X, rfl⟩ := hp
  rw [goCvs_append, goCvs_append] at hg
  cases hs : goCvs none pre with
  | none => rw [hs] at hg; simp at hg
  | some s =>
    rw [hs, Option.bind_some, goCvs_one] at hg
    cases ht : goCv s x with
    | none => rw [ht] at hg; simp at hg
    | some t => exact ⟨s, t, rfl, ht, by rw [goCvs_append, hs, Option.bind_some, goCvs_one, ht]⟩
theorem prefix_next {all pre : List Cv} (h : pre <+: all) (hl : pre.length < all.length) : ∃ y, all[pre.length]? = some y ∧ pre ++ [y] <+: all := by
  obtain ⟨X, rfl⟩ := h
  cases X with
  | nil => simp at hl
  | cons y X => exact ⟨y, by simp, X, by simp⟩
theorem prefix_same {all pre : List Cv} {x y : Cv} (h : all[pre.length]? = some y) (hp : pre ++ [x] <+: all) : x = y := by
  obtain ⟨X, rfl⟩ := hp
  simpa using h

end Go.Proofs.Ytlacjifnniahhaa

namespace Go.Proofs.Ytlacjifnniahhaa
open Go Go.RowKit Go.Shelf
attribute [local go_sem] Oper.semAt_some
set_option linter.unusedVariables false
set_option linter.unusedSimpArgs false
set_option maxRecDepth 100000 in
set_option maxHeartbeats 2000000 in
theorem curves_stopsC (Bx z : Nat) (A : Option Addr) (c : Nat) (Es : List (List Pt)) (w0 : World) (hbx : w0.cell? ⟨Bx, 0, none⟩ = some (.slice A Es.length c)) (hB : Bx < w0.heap.size) (hR : OutAt w0 z A Es) (hz : z ≤ w0.heap.size) (hm : Es.length ≤ 100000) (hl : ∀ L ∈ Es, L.length ≤ 1000000) :
    SeqC Fence.wide 2 Try.prog 63 #[.pointer (some ⟨Bx, 0, none⟩)] (fun x : Cv => #[cvV x]) (fun pre x _ => pre ++ [x] <+: Es.flatMap cvYs) (Below z) (fun xs => xs = Es.flatMap cvYs) (fun pre => pre <+: Es.flatMap cvYs) w0 := by
  intro l J Jx W hW hJ hJx hY h0
  have hcx := (hW.cell (p := ⟨Bx, 0, none⟩) hB).trans hbx
  have HR := Lib.hid hR
  have HLL := Lib.hid hl
  obtain ⟨n, hnn⟩ : ∃ n, n = Es.length := ⟨_, rfl⟩
  rw [← hnn] at hcx hm
  have HN := Lib.hid hnn
  clear hnn hbx hR hl
  refine callsIn_of_wp Try.func63 rfl trivial ?_ rfl
  simp only [Try.ntmps63, List.size_toArray, List.length_cons, List.length_nil, Nat.reduceAdd, Nat.reduceSub, Array.replicate_succ, Array.replicate_zero, List.push_toArray, List.append_toArray, List.nil_append, List.cons_append]
  gi_wp2
  have hJ0 : J ((Es.take 0).flatMap cvYs) W := h0
  clear h0 hcx
  gi_loopw [9] (fun i wr => ∃ k : Nat, k ≤ n ∧ i = .int .i64 k ∧ J ((Es.take k).flatMap cvYs) wr ∧ Below z W wr) (fun i _ => n - (intOf i).toNat)
  case atStart => exact ⟨0, Nat.zero_le _, rfl, hJ0, Below.refl _ _⟩
  case round =>
    obtain ⟨k, hk, rfl, hJk, hb⟩ := hrel
    have hsw := hW.size
    have hsz := hb.size
    by_cases hlt : k < n
    · have d1 : decide ((k : Int) < (n : Int)) = true := by simp; omega
      obtain ⟨L, hL⟩ := at_some (L := Es) (k := k) (by rw [← HN.out]; exact hlt)
      obtain ⟨b, o, Ai, ci, hA, hbl, h3, hLi⟩ := HR.out.at' k L hL
      subst hA
      have HW0 := Lib.hid (show ∀ wr2 : World, Below z W wr2 → ∀ b i, b < z → wr2.cell? ⟨b, i, none⟩ = w0.cell? ⟨b, i, none⟩  from fun wr2 hl b i hb => World.cell?_of_block (w' := wr2) (w := w0) (a := ⟨b, i, none⟩) ((hl.block b hb).trans (hW.block b (by omega))))
      have g0 := (HW0.out wr hb b (o + k) hbl).trans h3
      have hll : L.length ≤ 1000000 := HLL.out L (List.mem_of_getElem? hL)
      have HPF := Lib.hid (show ∀ i, i ≤ L.length → (Es.take k).flatMap cvYs ++ cvYK L i <+: Es.flatMap cvYs from fun i hi => part_prefix hL hi)
      have HX := Lib.hid (show (Es.take (k + 1)).flatMap cvYs = (Es.take k).flatMap cvYs ++ cvYs L by rw [take_snoc1 hL]; simp)
      have HLI := Lib.hid hLi
      obtain ⟨m0, hm0⟩ : ∃ m0, m0 = L.length := ⟨_, rfl⟩
      rw [← hm0] at g0 hll
      have HM0 := Lib.hid hm0
      clear h3 hL hLi hm0
      generalize (Es.take k).flatMap cvYs = P at *
      gi_wp2
      gi_loopw [15] (fun i wr => ∃ j : Nat, j ≤ m0 ∧ i = .int .i64 j ∧ J (P ++ cvYK L j) wr ∧ Below z W wr) (fun i _ => m0 - (intOf i).toNat)
      case atStart => exact ⟨0, Nat.zero_le _, rfl, by simpa [cvYK] using hJk, hb⟩
      case round =>
        clear hJk hb hsz g0 hJ0
        obtain ⟨j, hj, rfl, hJj, hb⟩ := hrel
        have hsz := hb.size
        by_cases hjm : j < m0
        · have d2 : decide ((j : Int) < (m0 : Int)) = true := by simp; omega
          obtain ⟨p, hp⟩ := at_some (L := L) (k := j) (by rw [← HM0.out]; exact hjm)
          obtain ⟨fb, fo, hA, hfb, f0, f1, f2⟩ := lists_pt HLI.out hp
          subst hA
          have p0 := ringP_nat hp
          have k0 : kd L (j : Int) = p.2.2 := by unfold kd; rw [p0]
          obtain ⟨x, y, zk⟩ := p
          simp only at f0 f1 f2 k0
          have q0 := (HW0.out wr hb fb _ hfb).trans f0
          have q1 := (HW0.out wr hb fb _ hfb).trans f1
          have q2 := (HW0.out wr hb fb _ hfb).trans f2
          have qa := (Blk.new wr 25 #[.int .i64 x, .int .i64 y, .int .i64 zk]).cell 2
          simp only [List.getElem?_toArray, List.getElem?_cons_zero, List.getElem?_cons_succ] at qa
          have ba : Below wr.heap.size wr (wr.alloc (.cells #[.int .i64 x, .int .i64 y, .int .i64 zk] 25)) := (Below.refl _ _).alloc (Nat.le_refl _) _
          clear f0 f1 f2 hp p0
          cases hz1 : (zk == 1)
          · have HX2 := Lib.hid (show cvYK L (j + 1) = cvYK L j by rw [cvYK_succ]; unfold cvY; rw [k0, hz1]; simp)
            gi_wp2_with (refine ⟨trivial, ?_⟩)
            refine ⟨fun _ h => (nomatch h), ?_⟩
            gi_wp2
            go_roundw
            case rel => exact ⟨j + 1, by omega, by go_num, by rw [HX2.out]; exact hJ _ _ _ hJj ba, hb.trans (ba.mono (by omega))⟩
            case measure => simp [intOf]; omega
          · have HX2 := Lib.hid (show cvYK L (j + 1) = cvYK L j ++ [cvAt L j] by rw [cvYK_succ]; unfold cvY; rw [k0, hz1]; rfl)
            have hwz : z ≤ wr.heap.size := by omega
            have hBl : Below z w0 wr := (hW.mono hz).trans hb
            have C := curveFrom_any z (some ⟨fb, fo, none⟩) ci L j (wr.alloc (.cells #[.int .i64 x, .int .i64 y, .int .i64 zk] 25)) (Nat.le_trans hwz ba.size) (HLI.out.below (hBl.trans (ba.mono hwz))) (by rw [← HM0.out]; exact hll) (by rw [← HM0.out]; exact hjm)
            rw [← HM0.out] at C
            have HPN := Lib.hid (show P ++ cvYK L j ++ [cvAt L j] <+: Es.flatMap cvYs by rw [List.append_assoc, ← HX2.out]; exact HPF.out (j + 1) (by rw [← HM0.out]; omega))
            clear k0 hBl
            gi_wp2_with (first | (refine ⟨trivial, ?_⟩; gi_at_call 64; ((refine (callsIn_wide.2 C).mono ?_); rintro e w3 ⟨rfl, b3⟩; have b4 := ba.trans (b3.mono ba.size); obtain ⟨fn, tmps, assign, body, hy, hRd⟩ := hY _ (cvAt L j) w3 (hJ _ _ _ hJj b4) HPN.out)))
            refine hRd.mono ?_
            rintro e V (⟨rfl, hJ3, lv⟩ | ⟨rfl, hJx3⟩)
            · gi_wp2
              go_roundw
              case rel => exact ⟨j + 1, by omega, by go_num, by rw [HX2.out, ← List.append_assoc]; exact hJ3, (hb.trans (b4.mono hwz)).trans lv⟩
              case measure => simp [intOf]; omega
            · gi_wp2
              refine bodyPost_ret (results_none rfl _ _ _) rfl ?_
              exact ⟨⟨_, rfl⟩, .inr ⟨_, by rw [List.append_assoc, ← HX2.out]; exact HPF.out (j + 1) (by rw [← HM0.out]; omega), hJx3⟩⟩
        · obtain rfl : j = m0 := by omega
          have d2 : decide ((j : Int) < (j : Int)) = false := by simp
          have HS := Lib.hid (show P ++ cvYK L j = P ++ cvYs L by unfold cvYs; rw [HM0.out])
          gi_wp2
          go_roundw
          case rel => exact ⟨k + 1, by omega, by go_num, by rw [HX.out, ← HS.out]; exact hJj, hb⟩
          case measure => simp [intOf]; omega
    · have d1 : decide ((k : Int) < (n : Int)) = false := by simp; omega
      have HT := Lib.hid (show Es.take k = Es from List.take_of_length_le (by have := HN.out; omega))
      gi_wp2
      go_end0
      exact ⟨⟨_, rfl⟩, .inl ⟨Es.flatMap cvYs, rfl, by rw [HT.out] at hJk; exact hJk⟩⟩

end Go.Proofs.Ytlacjifnniahhaa
