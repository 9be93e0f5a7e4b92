/- Part 12 of the proof: OuF, OuI, OuC, Law4, Round. -/
import Derived.RangeFuncKeeps
import Derived.RangeFuncCalls
import Derived.RangeFuncLeaves
import Derived.Shelf.Abstract
import Derived.Shelf.RegionOpen
import Derived.WalkKit
import Derived.OwnWalkIn
import Derived.TacticsInMore
import Derived.LoopNIn
import Derived.LoopIn
import Derived.Deep.MidRow
import Derived.Lib.SmallJoins
import Derived.RangeFuncNested
import Derived.RangeFuncBound
import Derived.OrdersIn
import Derived.Laws.Rows
import Derived.Laws.Tables
import Derived.Test.YtmmdnhfonifhdaaM10OutlineCurves

namespace Go.Proofs.Ytmmdnhfonifhdaa
open Go Go.RowKit

theorem stepX_add (L : List Pt) (a : Int) : stepX L (a + L.length) = stepX L a := by
  unfold stepX
  rw [show a + (L.length : Int) - 1 = (a - 1) + L.length by omega, kd_add, kd_add, ringP_add, ringP_add]
theorem exK_unroll (L : List Pt) (i : Nat) : exK L (L.length + i) = exE L ++ exK L i := by
  unfold exE exK
  rw [List.range_add, List.flatMap_append, List.flatMap_map]
  congr 1
  refine congrArg (fun f => List.flatMap f (List.range i)) (funext fun j => ?_)
  rw [show (st L : Int) + ((L.length + j : Nat) : Int) = ((st L : Int) + j) + L.length by omega, stepX_add]
theorem exK_prefix (L : List Pt) (i : Nat) : ∀ j, ∃ X, exK L (i + j) = exK L i ++ X
  | 0 => ⟨[], by simp⟩
  | j + 1 => by
    obtain ⟨X, hX⟩ := exK_prefix L i j
    exact ⟨X ++ stepX L ((st L : Int) + ((i + j : Nat) : Int)), by rw [show i + (j + 1) = (i + j) + 1 by omega, exK_succ, hX, List.append_assoc]⟩
theorem ring_unroll {L : List Pt} (h0 : 0 < (exE L).length) : ∀ (m k i : Nat) (p : Pt), k ≤ m → (exK L i)[k]? = some p → ringP (exE L) (k : Int) = p
  | m, k, i, p, hm, hp => by
    have hp' : (exE L ++ exK L i)[k]? = some p := by
      obtain ⟨X, hX⟩ := exK_prefix L i L.length
      rw [← exK_unroll, Nat.add_comm, hX, List.getElem?_append_left (List.getElem?_eq_some_iff.1 hp).1]
      exact hp
    by_cases hk : k < (exE L).length
    · rw [List.getElem?_append_left hk] at hp'
      exact ringP_nat hp'
    · rw [List.getElem?_append_right (by omega)] at hp'
      cases m with
      | zero => omega
      | succ m =>
        have := ring_unroll h0 m (k - (exE L).length) i p (by omega) hp'
        rw [show ((k - (exE L).length : Nat) : Int) = (k : Int) - (exE L).length by omega, ringP_sub] at this
        exact this
theorem hd_at (L : List Pt) (i : Nat) : (exK L (i + 1))[(exK L i).length]? = some (hd L ((st L : Int) + i)) := by
  rw [exK_succ, List.getElem?_append_right (Nat.le_refl _), Nat.sub_self]
  rcases stepX_cases L ((st L : Int) + i) with ⟨h, _⟩ | ⟨h, _⟩ <;> rw [h] <;> rfl
/-- A place in the unrolled ring: one point for one point, or a middle and a point. -/
inductive At' (L : List Pt) (k : Nat) : Prop
  | one (i : Nat) (a : Int) (ha : a = (st L : Int) + i) (hk : k = (exK L i).length) (hk1 : k + 1 = (exK L (i + 1)).length) (h : hd L a = ringP L a) (h2 : ¬ (kd L (a - 1) = 2 ∧ kd L a = 2))
  | mid (i : Nat) (a : Int) (ha : a = (st L : Int) + i) (hk : k = (exK L i).length) (hk2 : k + 2 = (exK L (i + 1)).length) (hp : (exK L (i + 1))[k + 1]? = some (ringP L a)) (h1 : (hd L a).2.2 = 1) (h2 : kd L a = 2)
  | two (i : Nat) (a : Int) (ha : a = (st L : Int) + i) (hk1 : k + 1 = (exK L (i + 1)).length) (hp : (exK L (i + 1))[k]? = some (ringP L a)) (h2 : kd L a = 2)
theorem at_of (L : List Pt) : ∀ k, At' L k := by
  have start : ∀ i k, k = (exK L i).length → At' L k := fun i k hk => by
    rcases stepX_cases L ((st L : Int) + i) with ⟨h1, h2, h3⟩ | ⟨h1, h2, h3, h4⟩
    · exact .one i _ rfl hk (by rw [exK_succ, h1, List.length_append, hk]; rfl) h2 h3
    · refine .mid i _ rfl hk (by rw [exK_succ, h1, List.length_append, hk]; rfl) ?_ h2 h4
      rw [exK_succ, h1, hk, List.getElem?_append_right (by omega), show (exK L i).length + 1 - (exK L i).length = 1 by omega]; rfl
  intro k
  induction k with
  | zero => exact start 0 0 (by simp [exK])
  | succ k ih =>
    cases ih with
    | one i a ha hk hk1 h h2 => exact start (i + 1) _ hk1
    | mid i a ha hk hk2 hp h1 h2 => exact .two i a ha hk2 hp h2
    | two i a ha hk1 hp h2 => exact start (i + 1) _ hk1
theorem hd_plain {L : List Pt} (a : Int) (h2 : kd L a ≠ 2) : hd L (a + 1) = ringP L (a + 1) := by
  rcases stepX_cases L (a + 1) with ⟨_, h3, _⟩ | ⟨_, _, h3, _⟩
  · exact h3
  · rw [show a + 1 - 1 = a by omega] at h3; exact absurd h3 h2
section
variable {L : List Pt} (h : mayC L = true)
include h
theorem kd_head (k i : Nat) (hk : k = (exK L i).length) : kd (exE L) (k : Int) = (hd L ((st L : Int) + i)).2.2 := by
  unfold kd
  rw [ring_unroll (ex_pos h) k k (i + 1) _ (Nat.le_refl _) (by rw [hk]; exact hd_at L i)]
theorem two_next (a : Int) (h2 : kd L a = 2) : (hd L (a + 1)).2.2 = 1 := by
  rcases stepX_cases L (a + 1) with ⟨_, h3, h4⟩ | ⟨_, h3, _⟩
  · rw [show a + 1 - 1 = a by omega] at h4
    rw [h3]
    show kd L (a + 1) = 1
    rcases (kinds_of h).ring (may_pos h) (a + 1) with e | e | e
    · exact e
    · exact absurd ⟨h2, e⟩ h4
    · have := pairK_iff.1 ((okA_ring h (a + 1)).2 e)
      rw [show a + 1 - 1 = a by omega, h2] at this
      omega
  · exact h3
theorem ex_quad (k : Nat) (h1 : kd (exE L) (k : Int) = 1) (h2 : kd (exE L) ((k : Int) + 1) = 2) : kd (exE L) ((k : Int) + 2) = 1 := by
  cases at_of L k with
  | one i a ha hk hk1 hh hn =>
    have e1 := kd_head h (k + 1) (i + 1) hk1
    rw [show ((k + 1 : Nat) : Int) = (k : Int) + 1 by omega, h2, show (st L : Int) + ((i + 1 : Nat) : Int) = a + 1 by omega] at e1
    rcases stepX_cases L (a + 1) with ⟨h3, h4, _⟩ | ⟨_, h4, _⟩
    · have e2 : k + 2 = (exK L (i + 2)).length := by
        rw [exK_succ, show (st L : Int) + ((i + 1 : Nat) : Int) = a + 1 by omega, h3, List.length_append, ← hk1]; rfl
      have e3 := kd_head h (k + 2) (i + 2) e2
      rw [show ((k + 2 : Nat) : Int) = (k : Int) + 2 by omega, show (st L : Int) + ((i + 2 : Nat) : Int) = (a + 1) + 1 by omega] at e3
      rw [e3]
      exact two_next h _ (by rw [h4] at e1; exact e1.symm)
    · omega
  | mid i a ha hk hk2 hp hm hq =>
    have e3 := kd_head h (k + 2) (i + 1) hk2
    rw [show ((k + 2 : Nat) : Int) = (k : Int) + 2 by omega, show (st L : Int) + ((i + 1 : Nat) : Int) = a + 1 by omega] at e3
    rw [e3]
    exact two_next h _ hq
  | two i a ha hk1 hp hq =>
    have e := ring_unroll (ex_pos h) k k (i + 1) _ (Nat.le_refl _) hp
    unfold kd at h1 hq
    rw [e, hq] at h1
    omega
theorem ex_cubic (k : Nat) (h1 : kd (exE L) (k : Int) = 1) (h2 : kd (exE L) ((k : Int) + 1) = 3) : kd (exE L) ((k : Int) + 2) = 3 ∧ kd (exE L) ((k : Int) + 3) = 1 := by
  cases at_of L k with
  | one i a ha hk hk1 hh hn =>
    have e0 := kd_head h k i hk
    rw [h1, ← ha, hh] at e0
    have k0 : kd L a = 1 := e0.symm
    have e1 := kd_head h (k + 1) (i + 1) hk1
    rw [show ((k + 1 : Nat) : Int) = (k : Int) + 1 by omega, h2, show (st L : Int) + ((i + 1 : Nat) : Int) = a + 1 by omega] at e1
    have p1 := hd_plain (L := L) a (by omega)
    rw [p1] at e1
    have k1 : kd L (a + 1) = 3 := e1.symm
    have q1 := pairK_iff.1 ((okA_ring h (a + 1)).2 k1)
    rw [show a + 1 - 1 = a by omega, show a + 1 + 1 = a + 2 by omega, k0] at q1
    have k2 : kd L (a + 2) = 3 := by omega
    have q2 := pairK_iff.1 ((okA_ring h (a + 2)).2 k2)
    rw [show a + 2 - 1 = a + 1 by omega, show a + 2 + 1 = a + 3 by omega, k1] at q2
    have k3 : kd L (a + 3) = 1 := by omega
    have p2 := hd_plain (L := L) (a + 1) (by omega)
    have p3 := hd_plain (L := L) (a + 2) (by omega)
    rw [show a + 1 + 1 = a + 2 by omega] at p2
    rw [show a + 2 + 1 = a + 3 by omega] at p3
    have s1 : stepX L (a + 1) = [hd L (a + 1)] := by
      rcases stepX_cases L (a + 1) with ⟨h3, _⟩ | ⟨_, _, _, h3⟩
      · exact h3
      · omega
    have s2 : stepX L (a + 2) = [hd L (a + 2)] := by
      rcases stepX_cases L (a + 2) with ⟨h3, _⟩ | ⟨_, _, _, h3⟩
      · exact h3
      · omega
    have l2 : k + 2 = (exK L (i + 2)).length := by
      rw [exK_succ, show (st L : Int) + ((i + 1 : Nat) : Int) = a + 1 by omega, s1, List.length_append, ← hk1]; rfl
    have l3 : k + 3 = (exK L (i + 3)).length := by
      rw [exK_succ, show (st L : Int) + ((i + 2 : Nat) : Int) = a + 2 by omega, s2, List.length_append, ← l2]; rfl
    have f2 := kd_head h (k + 2) (i + 2) l2
    have f3 := kd_head h (k + 3) (i + 3) l3
    rw [show ((k + 2 : Nat) : Int) = (k : Int) + 2 by omega, show (st L : Int) + ((i + 2 : Nat) : Int) = a + 2 by omega, p2] at f2
    rw [show ((k + 3 : Nat) : Int) = (k : Int) + 3 by omega, show (st L : Int) + ((i + 3 : Nat) : Int) = a + 3 by omega, p3] at f3
    exact ⟨f2.trans k2, f3.trans k3⟩
  | mid i a ha hk hk2 hp hm hq =>
    have e := ring_unroll (ex_pos h) (k + 1) (k + 1) (i + 1) _ (Nat.le_refl _) hp
    rw [show ((k + 1 : Nat) : Int) = (k : Int) + 1 by omega] at e
    unfold kd at h2 hq
    rw [e, hq] at h2
    omega
  | two i a ha hk1 hp hq =>
    have e := ring_unroll (ex_pos h) k k (i + 1) _ (Nat.le_refl _) hp
    unfold kd at h1 hq
    rw [e, hq] at h1
    omega
end

/-- What the law keeps of the curves so far: where the contour began, where the last curve ended. -/
def goCv (s : Option (Pt × Pt)) (c : Cv) : Option (Option (Pt × Pt)) :=
  match s with
  | none => some (some (c.2.1, c.2.2.2.2))
  | some (f, l) => if c.2.1 = l then some (some (f, c.2.2.2.2)) else if l = f then some (some (c.2.1, c.2.2.2.2)) else none
def goCvs (s : Option (Pt × Pt)) : List Cv → Option (Option (Pt × Pt))
  | [] => some s
  | c :: r => (goCv s c).bind fun t => goCvs t r
theorem goCvs_append (s : Option (Pt × Pt)) : ∀ (a b : List Cv), goCvs s (a ++ b) = (goCvs s a).bind fun t => goCvs t b := by
  intro a
  induction a generalizing s with
  | nil => intro b; rfl
  | cons c r ih =>
    intro b
    show (goCv s c).bind _ = ((goCv s c).bind _).bind _
    cases goCv s c with
    | none => rfl
    | some t => exact ih t b
theorem goCvs_one (s : Option (Pt × Pt)) (c : Cv) : goCvs s [c] = goCv s c := by
  show (goCv s c).bind _ = _
  cases goCv s c <;> rfl
/-- At a contour's end: nothing yet, or it has closed. -/
def Closed (s : Option (Pt × Pt)) : Prop := s = none ∨ ∃ f, s = some (f, f)
theorem cvAt_A (L : List Pt) (k : Nat) : (cvAt L k).2.1 = ringP L k := by
  unfold cvAt
  split
  · rfl
  · split <;> rfl
/-- The next point on the contour. -/
def Next (L : List Pt) (j q : Nat) : Prop := j ≤ q ∧ kd L (q : Int) = 1 ∧ ∀ r, j ≤ r → r < q → kd L (r : Int) ≠ 1
theorem cvAt_D {L : List Pt} (h : mayC L = true) (k : Nat) (h1 : kd (exE L) (k : Int) = 1) : ∃ q, Next (exE L) (k + 1) q ∧ (cvAt (exE L) k).2.2.2.2 = ringP (exE L) (q : Int) := by
  have c1 : ((k + 1 : Nat) : Int) = (k : Int) + 1 := by omega
  have c2 : ((k + 2 : Nat) : Int) = (k : Int) + 2 := by omega
  have c3 : ((k + 3 : Nat) : Int) = (k : Int) + 3 := by omega
  rcases (ex_kinds h).ring (ex_pos h) ((k : Int) + 1) with e | e | e
  · refine ⟨k + 1, ⟨Nat.le_refl _, by rw [c1]; exact e, fun r h1 h2 => by omega⟩, ?_⟩
    unfold cvAt; simp [e, c1]
  · have h3 := ex_quad h k h1 e
    refine ⟨k + 2, ⟨by omega, by rw [c2]; exact h3, fun r h1 h2 => ?_⟩, ?_⟩
    · obtain rfl : r = k + 1 := by omega
      rw [c1]; omega
    · unfold cvAt; simp [e, c2]
  · obtain ⟨h3, h4⟩ := ex_cubic h k h1 e
    refine ⟨k + 3, ⟨by omega, by rw [c3]; exact h4, fun r h1 h2 => ?_⟩, ?_⟩
    · rcases (show r = k + 1 ∨ r = k + 2 by omega) with rfl | rfl
      · rw [c1]; omega
      · rw [c2]; omega
    · unfold cvAt; simp [e, c3]
theorem ex_on {L : List Pt} (h : mayC L = true) : kd (exE L) 0 = 1 := by
  have h1 := ring_unroll (ex_pos h) 0 0 1 _ (Nat.le_refl _) (hd_at L 0)
  obtain ⟨h2, h3⟩ := ex_head h
  have h4 := ringP_nat h2
  unfold kd
  rw [show (0 : Int) = ((0 : Nat) : Int) from rfl, h4, h3]
theorem cvK_go {L : List Pt} (h : mayC L = true) {s : Option (Pt × Pt)} (hs : Closed s) : ∀ j, ∃ q, Next (exE L) (j + 1) q ∧ goCvs s (cvK (exE L) (j + 1)) = some (some (ringP (exE L) 0, ringP (exE L) (q : Int)))
  | 0 => by
    have h0 := ex_on h
    obtain ⟨q, hq, hD⟩ := cvAt_D h 0 h0
    refine ⟨q, hq, ?_⟩
    have e : cvK (exE L) 1 = [cvAt (exE L) 0] := by
      rw [cvK_succ, cvS_at (ex_kinds h) (ex_pos h), if_pos (by rw [show ((0 : Nat) : Int) = 0 from rfl, h0]; rfl)]; rfl
    have hA := cvAt_A (exE L) 0
    rw [e, goCvs_one, ← hD]
    rcases hs with rfl | ⟨f, rfl⟩
    · show some (some (_, _)) = _
      rw [hA]; rfl
    · unfold goCv
      simp only
      split
      · rename_i h9
        rw [← h9, hA]; rfl
      · rw [if_pos trivial, hA]; rfl
  | j + 1 => by
    obtain ⟨q, hq, hg⟩ := cvK_go h hs j
    rw [cvK_succ, goCvs_append, hg, cvS_at (ex_kinds h) (ex_pos h)]
    by_cases h1 : kd (exE L) ((j + 1 : Nat) : Int) = 1
    · obtain ⟨q', hq', hD⟩ := cvAt_D h (j + 1) h1
      obtain rfl : q = j + 1 := by
        rcases Nat.lt_or_ge (j + 1) q with h9 | h9
        · exact absurd h1 (hq.2.2 _ (Nat.le_refl _) h9)
        · have := hq.1; omega
      refine ⟨q', hq', ?_⟩
      rw [if_pos (by rw [h1]; rfl), Option.bind_some, goCvs_one]
      unfold goCv
      simp only
      rw [if_pos (cvAt_A _ _), hD]
    · refine ⟨q, ⟨?_, hq.2.1, fun r h3 h4 => hq.2.2 r (by omega) h4⟩, ?_⟩
      · rcases Nat.lt_or_ge (j + 1) q with h9 | h9
        · exact h9
        · have := hq.1
          obtain rfl : q = j + 1 := by omega
          exact absurd hq.2.1 h1
      · rw [if_neg (by simpa using h1)]; rfl
theorem cvs_go {L : List Pt} (h : mayC L = true) {s : Option (Pt × Pt)} (hs : Closed s) : ∃ t, goCvs s (cvsOf (exE L)) = some t ∧ Closed t := by
  have h0 := ex_pos h
  obtain ⟨n, hn⟩ : ∃ n, (exE L).length = n + 1 := ⟨(exE L).length - 1, by omega⟩
  obtain ⟨q, hq, hg⟩ := cvK_go h hs n
  have hon : kd (exE L) ((n + 1 : Nat) : Int) = 1 := by
    rw [← hn]
    have := kd_add (exE L) 0
    rw [Int.zero_add] at this
    rw [this]; exact ex_on h
  obtain rfl : q = n + 1 := by
    rcases Nat.lt_or_ge (n + 1) q with h9 | h9
    · exact absurd hon (hq.2.2 _ (Nat.le_refl _) h9)
    · have := hq.1; omega
  refine ⟨_, by unfold cvsOf; rw [hn]; exact hg, .inr ⟨ringP (exE L) 0, ?_⟩⟩
  rw [← hn]
  have := ringP_add (exE L) 0
  rw [Int.zero_add] at this
  rw [this]
theorem curves_go : ∀ (Ls : List (List Pt)), (∀ L ∈ Ls, mayC L = true) → ∀ s, Closed s → ∃ t, goCvs s ((Ls.map exE).flatMap cvsOf) = some t ∧ Closed t
  | [], _, s, hs => ⟨s, rfl, hs⟩
  | L :: Ls, hm, s, hs => by
    obtain ⟨t, h1, h2⟩ := cvs_go (hm L (by simp)) hs
    obtain ⟨t', h3, h4⟩ := curves_go Ls (fun M hM => hm M (by simp [hM])) t h2
    exact ⟨t', by rw [List.map_cons, List.flatMap_cons, goCvs_append, h1]; exact h3, h4⟩

end Go.Proofs.Ytmmdnhfonifhdaa

namespace Go.Proofs.Ytmmdnhfonifhdaa
open Go Go.RowKit Go.Shelf
attribute [local go_sem] Oper.semAt_some

def cvY (E : List Pt) (k : Nat) : List Cv := if kd E (k : Int) == 1 then [cvAt E k] else []
def cvYK (E : List Pt) (k : Nat) : List Cv := (List.range k).flatMap (cvY E)
def cvYs (E : List Pt) : List Cv := cvYK E E.length
theorem cvYK_succ (E : List Pt) (k : Nat) : cvYK E (k + 1) = cvYK E k ++ cvY E k := by simp [cvYK, List.range_succ]
theorem cvYK_len (E : List Pt) : ∀ k, (cvYK E k).length ≤ k
  | 0 => by simp [cvYK]
  | k + 1 => by
    have h1 := cvYK_len E k
    have h2 : (cvY E k).length ≤ 1 := by unfold cvY; split <;> simp
    rw [cvYK_succ, List.length_append]
    omega
theorem cvYK_prefix (E : List Pt) (i : Nat) : ∀ d, cvYK E i <+: cvYK E (i + d)
  | 0 => List.prefix_rfl
  | d + 1 => (cvYK_prefix E i d).trans (by rw [show i + (d + 1) = (i + d) + 1 by omega, cvYK_succ]; exact List.prefix_append _ _)
theorem part_prefix {Es : List (List Pt)} {k i : Nat} {L : List Pt} (hL : Es[k]? = some L) (hi : i ≤ L.length) : (Es.take k).flatMap cvYs ++ cvYK L i <+: Es.flatMap cvYs := by
  obtain ⟨d, hd⟩ : ∃ d, L.length = i + d := ⟨L.length - i, by omega⟩
  obtain ⟨X, hX⟩ := cvYK_prefix L i d
  refine ⟨X ++ (Es.drop (k + 1)).flatMap cvYs, ?_⟩
  have e : Es = Es.take k ++ L :: Es.drop (k + 1) := by
    obtain ⟨hk, he⟩ := List.getElem?_eq_some_iff.1 hL
    rw [← he, ← List.drop_eq_getElem_cons hk, List.take_append_drop]
  conv => rhs; rw [e]
  rw [List.flatMap_append, List.flatMap_cons, List.append_assoc, ← List.append_assoc (cvYK L i), hX, ← hd]
  rfl
theorem grown_of {w w' : World} (b : Below w.heap.size w w') : w.grownBy w' none := ⟨b.os, b.tape, b.output, b.size, fun k hk _ => b.block k hk⟩

set_option maxRecDepth 100000 in
set_option maxHeartbeats 2000000 in
theorem curves_stops (Bx z : Nat) (A : Option Addr) (c N : Nat) (Es : List (List Pt)) (w0 : World) (hbx : w0.cell? ⟨Bx, 0, none⟩ = some (.slice A Es.length c)) (hB : Bx < w0.heap.size) (hR : OutAt w0 z A Es) (hz : z ≤ w0.heap.size) (hm : Es.length ≤ 100000) (hl : ∀ L ∈ Es, L.length ≤ 1000000) (hN : ∀ k L, Es[k]? = some L → ((Es.take k).flatMap cvYs).length + L.length ≤ N) :
    SeqStopsK Fence.wide 2 Try.prog 35 #[.pointer (some ⟨Bx, 0, none⟩)] (fun x : Cv => #[cvV x]) (Below z) (fun xs => xs = Es.flatMap cvYs) (fun pre => pre <+: Es.flatMap cvYs) N w0 := by
  intro l J Jx W hW hJ hJx hY h0
  have hcx := (hW.cell (p := ⟨Bx, 0, none⟩) hB).trans hbx
  have HR := Lib.hid hR
  have HLL := Lib.hid hl
  have HNN := Lib.hid hN
  obtain ⟨n, hnn⟩ : ∃ n, n = Es.length := ⟨_, rfl⟩
  rw [← hnn] at hcx hm
  have HN := Lib.hid hnn
  clear hnn hbx hR hl hN
  refine callsIn_of_wp Try.func35 rfl trivial ?_ rfl
  simp only [Try.ntmps35, List.size_toArray, List.length_cons, List.length_nil, Nat.reduceAdd, Nat.reduceSub, Array.replicate_succ, Array.replicate_zero, List.push_toArray, List.append_toArray, List.nil_append, List.cons_append]
  gi_wp2
  have hJ0 : J ((Es.take 0).flatMap cvYs) W := h0
  clear h0 hcx
  gi_loopw [9] (fun i wr => ∃ k : Nat, k ≤ n ∧ i = .int .i64 k ∧ J ((Es.take k).flatMap cvYs) wr ∧ Below z W wr) (fun i _ => n - (intOf i).toNat)
  case atStart => exact ⟨0, Nat.zero_le _, rfl, hJ0, Below.refl _ _⟩
  case round =>
    obtain ⟨k, hk, rfl, hJk, hb⟩ := hrel
    have hsw := hW.size
    have hsz := hb.size
    by_cases hlt : k < n
    · have d1 : decide ((k : Int) < (n : Int)) = true := by simp; omega
      obtain ⟨L, hL⟩ := at_some (L := Es) (k := k) (by rw [← HN.out]; exact hlt)
      obtain ⟨b, o, Ai, ci, hA, hbl, h3, hLi⟩ := HR.out.at' k L hL
      subst hA
      have HW0 := Lib.hid (show ∀ wr2 : World, Below z W wr2 → ∀ b i, b < z → wr2.cell? ⟨b, i, none⟩ = w0.cell? ⟨b, i, none⟩  from fun wr2 hl b i hb => World.cell?_of_block (w' := wr2) (w := w0) (a := ⟨b, i, none⟩) ((hl.block b hb).trans (hW.block b (by omega))))
      have g0 := (HW0.out wr hb b (o + k) hbl).trans h3
      have hll : L.length ≤ 1000000 := HLL.out L (List.mem_of_getElem? hL)
      have HNL := Lib.hid (HNN.out k L hL)
      have HPF := Lib.hid (show ∀ i, i ≤ L.length → (Es.take k).flatMap cvYs ++ cvYK L i <+: Es.flatMap cvYs from fun i hi => part_prefix hL hi)
      have HX := Lib.hid (show (Es.take (k + 1)).flatMap cvYs = (Es.take k).flatMap cvYs ++ cvYs L by rw [take_snoc1 hL]; simp)
      have HLI := Lib.hid hLi
      obtain ⟨m0, hm0⟩ : ∃ m0, m0 = L.length := ⟨_, rfl⟩
      rw [← hm0] at g0 hll
      have HM0 := Lib.hid hm0
      clear h3 hL hLi hm0
      generalize (Es.take k).flatMap cvYs = P at *
      gi_wp2
      gi_loopw [15] (fun i wr => ∃ j : Nat, j ≤ m0 ∧ i = .int .i64 j ∧ J (P ++ cvYK L j) wr ∧ Below z W wr) (fun i _ => m0 - (intOf i).toNat)
      case atStart => exact ⟨0, Nat.zero_le _, rfl, by simpa [cvYK] using hJk, hb⟩
      case round =>
        clear hJk hb hsz g0 hJ0
        obtain ⟨j, hj, rfl, hJj, hb⟩ := hrel
        have hsz := hb.size
        by_cases hjm : j < m0
        · have d2 : decide ((j : Int) < (m0 : Int)) = true := by simp; omega
          obtain ⟨p, hp⟩ := at_some (L := L) (k := j) (by rw [← HM0.out]; exact hjm)
          obtain ⟨fb, fo, hA, hfb, f0, f1, f2⟩ := lists_pt HLI.out hp
          subst hA
          have p0 := ringP_nat hp
          have k0 : kd L (j : Int) = p.2.2 := by unfold kd; rw [p0]
          obtain ⟨x, y, zk⟩ := p
          simp only at f0 f1 f2 k0
          have q0 := (HW0.out wr hb fb _ hfb).trans f0
          have q1 := (HW0.out wr hb fb _ hfb).trans f1
          have q2 := (HW0.out wr hb fb _ hfb).trans f2
          have qa := (Blk.new wr 43 #[.int .i64 x, .int .i64 y, .int .i64 zk]).cell 2
          simp only [List.getElem?_toArray, List.getElem?_cons_zero, List.getElem?_cons_succ] at qa
          have ba : Below wr.heap.size wr (wr.alloc (.cells #[.int .i64 x, .int .i64 y, .int .i64 zk] 43)) := (Below.refl _ _).alloc (Nat.le_refl _) _
          clear f0 f1 f2 hp p0
          cases hz1 : (zk == 1)
          · have HX2 := Lib.hid (show cvYK L (j + 1) = cvYK L j by rw [cvYK_succ]; unfold cvY; rw [k0, hz1]; simp)
            gi_wp2_with (refine ⟨trivial, ?_⟩)
            refine ⟨fun _ h => (nomatch h), ?_⟩
            gi_wp2
            go_roundw
            case rel => exact ⟨j + 1, by omega, by go_num, by rw [HX2.out]; exact hJ _ _ _ none hJj (grown_of ba) (fun r e => nomatch e), hb.trans (ba.mono (by omega))⟩
            case measure => simp [intOf]; omega
          · have HX2 := Lib.hid (show cvYK L (j + 1) = cvYK L j ++ [cvAt L j] by rw [cvYK_succ]; unfold cvY; rw [k0, hz1]; rfl)
            have hwz : z ≤ wr.heap.size := by omega
            have hBl : Below z w0 wr := (hW.mono hz).trans hb
            have C := curveFrom_any z (some ⟨fb, fo, none⟩) ci L j (wr.alloc (.cells #[.int .i64 x, .int .i64 y, .int .i64 zk] 43)) (Nat.le_trans hwz ba.size) (HLI.out.below (hBl.trans (ba.mono hwz))) (by rw [← HM0.out]; exact hll) (by rw [← HM0.out]; exact hjm)
            rw [← HM0.out] at C
            have HPN := Lib.hid (show (P ++ cvYK L j).length < N by rw [List.length_append]; have := cvYK_len L j; have := HNL.out; have := HM0.out; omega)
            clear k0 hBl
            gi_wp2_with (first | (refine ⟨trivial, ?_⟩; gi_at_call 36; ((refine (callsIn_wide.2 C).mono ?_); rintro e w3 ⟨rfl, b3⟩; have b4 := ba.trans (b3.mono ba.size); obtain ⟨fn, tmps, assign, body, hy, hRd⟩ := hY _ (cvAt L j) w3 (hJ _ _ _ none hJj (grown_of b4) (fun r e => nomatch e)) HPN.out)))
            refine hRd.mono ?_
            rintro e V (⟨rfl, hJ3, lv⟩ | ⟨rfl, hJx3⟩)
            · gi_wp2
              go_roundw
              case rel => exact ⟨j + 1, by omega, by go_num, by rw [HX2.out, ← List.append_assoc]; exact hJ3, (hb.trans (b4.mono hwz)).trans lv⟩
              case measure => simp [intOf]; omega
            · gi_wp2
              refine bodyPost_ret (results_none rfl _ _ _) rfl ?_
              exact ⟨⟨_, rfl⟩, .inr ⟨_, by rw [List.append_assoc, ← HX2.out]; exact HPF.out (j + 1) (by rw [← HM0.out]; omega), hJx3⟩⟩
        · obtain rfl : j = m0 := by omega
          have d2 : decide ((j : Int) < (j : Int)) = false := by simp
          have HS := Lib.hid (show P ++ cvYK L j = P ++ cvYs L by unfold cvYs; rw [HM0.out])
          gi_wp2
          go_roundw
          case rel => exact ⟨k + 1, by omega, by go_num, by rw [HX.out, ← HS.out]; exact hJj, hb⟩
          case measure => simp [intOf]; omega
    · have d1 : decide ((k : Int) < (n : Int)) = false := by simp; omega
      have HT := Lib.hid (show Es.take k = Es from List.take_of_length_le (by have := HN.out; omega))
      gi_wp2
      go_end0
      exact ⟨⟨_, rfl⟩, .inl ⟨Es.flatMap cvYs, rfl, by rw [HT.out] at hJk; exact hJk⟩⟩

theorem cvYs_of {E : List Pt} (h : Kinds E) (h0 : 0 < E.length) : cvYs E = cvsOf E := by
  unfold cvYs cvYK cvsOf cvK
  exact congrArg (fun f => List.flatMap f (List.range E.length)) (funext fun k => (cvS_at h h0 k).symm)
theorem curves_one : ∀ (Ls : List (List Pt)), (∀ L ∈ Ls, mayC L = true) → (Ls.map exE).flatMap cvYs = (Ls.map rexE).flatMap cvsOf
  | [], _ => rfl
  | L :: Ls, h => by
    have hL := h L (by simp)
    rw [List.map_cons, List.map_cons, List.flatMap_cons, List.flatMap_cons, curves_one Ls (fun M hM => h M (by simp [hM])), cvYs_of (ex_kinds hL) (ex_pos hL), ex_rex hL]
theorem exs_eq {Ls : List (List Pt)} (h : ∀ L ∈ Ls, mayC L = true) : Ls.map exE = Ls.map rexE := List.map_congr_left fun L hL => ex_rex (h L hL)
/-- One curve more of those that go round: the law's state goes on. -/
theorem go_step {all pre : List Cv} {x : Cv} {u : Option (Pt × Pt)} (hg : goCvs none all = some u) (hp : pre ++ [x] <+: all) : ∃ s t, goCvs none pre = some s ∧ goCv s x = some t ∧ goCvs none (pre ++ [x]) = some t := by
  obtain ⟨X, rfl⟩ := hp
  rw [goCvs_append, goCvs_append] at hg
  cases hs : goCvs none pre with
  | none => rw [hs] at hg; simp at hg
  | some s =>
    rw [hs, Option.bind_some, goCvs_one] at hg
    cases ht : goCv s x with
    | none => rw [ht] at hg; simp at hg
    | some t => exact ⟨s, t, rfl, ht, by rw [goCvs_append, hs, Option.bind_some, goCvs_one, ht]⟩
theorem prefix_next {all pre : List Cv} (h : pre <+: all) (hl : pre.length < all.length) : ∃ y, all[pre.length]? = some y ∧ pre ++ [y] <+: all := by
  obtain ⟨X, rfl⟩ := h
  cases X with
  | nil => simp at hl
  | cons y X => exact ⟨y, by simp, X, by simp⟩
theorem prefix_same {all pre : List Cv} {x y : Cv} (h : all[pre.length]? = some y) (hp : pre ++ [x] <+: all) : x = y := by
  obtain ⟨X, rfl⟩ := hp
  simpa using h

end Go.Proofs.Ytmmdnhfonifhdaa

namespace Go.Proofs.Ytmmdnhfonifhdaa
open Go Go.RowKit

set_option maxRecDepth 100000 in
set_option maxHeartbeats 4000000 in
theorem neCv_run (y x : Cv) (r : Bool) (hr : (y != x) = r) (w : World) : (binOp .neq 45 (.agg (cvL y).toArray) (.agg (cvL x).toArray)).run Try.prog w = .ok (.bool r) w := by
  subst hr
  obtain ⟨k, ⟨a1, a2, a3⟩, ⟨b1, b2, b3⟩, ⟨c1, c2, c3⟩, ⟨d1, d2, d3⟩⟩ := y
  obtain ⟨k', ⟨a1', a2', a3'⟩, ⟨b1', b2', b3'⟩, ⟨c1', c2', c3'⟩, ⟨d1', d2', d3'⟩⟩ := x
  have hS : Try.prog.underlying 45 = some (.struct (Try.prog.fieldsOf 45)) := by kernel_rfl
  have hp : Try.prog.stoodInHeld 45 = false := by kernel_rfl
  have hS2 : Try.prog.underlying 43 = some (.struct (Try.prog.fieldsOf 43)) := by kernel_rfl
  have hp2 : Try.prog.stoodInHeld 43 = false := by kernel_rfl
  have u3 := Try.underlying3
  have i3 := Try.isAgg3
  have z3 := Try.sizeOf3
  have ip := Try.isAgg43
  have zp := Try.sizeOf43
  have E3 : ∀ (x y z x' y' z' : Int) (w : World), (Op.equalIn 9999 43 (.agg #[.int .i64 x, .int .i64 y, .int .i64 z]) (.agg #[.int .i64 x', .int .i64 y', .int .i64 z'])).run Try.prog w = .ok (eq3 (x, y, z) (x', y', z')) w := fun x y z x' y' z' w => by
    rw [show (9999 : Nat) = 9998 + 1 from rfl, run_equalIn_agg w 9998 43 _ _ hS2 hp2]
    simp only [Program.fieldsOf, Try.underlying43]
    unfold eq3
    go_simp
    by_cases h1 : x = x' <;> by_cases h2 : y = y' <;> by_cases h3 : z = z' <;> simp [h1, h2, h3]
  rw [run_neq_struct, show (10000 : Nat) = 9999 + 1 from rfl, run_equalIn_agg w 9999 45 _ _ hS hp]
  simp only [Program.fieldsOf, Try.underlying45, cvL, ptCells]
  go_simp
  cases hk : k == k' <;> cases ha : eq3 (a1, a2, a3) (a1', a2', a3') <;> cases hb : eq3 (b1, b2, b3) (b1', b2', b3') <;> cases hc : eq3 (c1, c2, c3) (c1', c2', c3') <;> cases hd : eq3 (d1, d2, d3) (d1', d2', d3') <;> simp_all [eq3]
theorem goCv_some {s : Option (Pt × Pt)} {x : Cv} {t : Option (Pt × Pt)} (h : goCv s x = some t) : t ≠ none := by
  unfold goCv at h
  split at h
  · intro e; subst e; simp at h
  · split at h
    · intro e; subst e; simp at h
    · split at h
      · intro e; subst e; simp at h
      · cases h
theorem goCvs_some : ∀ (pre : List Cv) (s t : Option (Pt × Pt)), goCvs s pre = some t → (t = none → s = none ∧ pre = [])
  | [], s, t, h, e => by
    simp only [goCvs, Option.some.injEq] at h
    exact ⟨h.trans e, rfl⟩
  | c :: r, s, t, h, e => by
    simp only [goCvs] at h
    cases hc : goCv s c with
    | none => rw [hc] at h; cases h
    | some u =>
      rw [hc] at h
      exact absurd (goCvs_some r u t h e).1 (goCv_some hc)
/-- What the law keeps, as its two variables hold it. -/
def keepF (s : Option (Pt × Pt)) : Pt := match s with | none => noP | some (f, _) => f
def keepL (s : Option (Pt × Pt)) : Pt := match s with | none => noP | some (_, l) => l
/-- The three ways in which a curve goes on. -/
theorem go_ways {pre : List Cv} {s t : Option (Pt × Pt)} {x : Cv} (hs : goCvs none pre = some s) (ht : goCv s x = some t) :
    (pre.length = 0 ∧ keepF t = x.2.1 ∧ keepL t = x.2.2.2.2) ∨ (0 < pre.length ∧ x.2.1 = keepL s ∧ keepF t = keepF s ∧ keepL t = x.2.2.2.2) ∨ (0 < pre.length ∧ x.2.1 ≠ keepL s ∧ keepL s = keepF s ∧ keepF t = x.2.1 ∧ keepL t = x.2.2.2.2) := by
  cases s with
  | none =>
    obtain ⟨-, rfl⟩ := goCvs_some pre none none hs rfl
    simp only [goCv, Option.some.injEq] at ht
    subst ht
    exact .inl ⟨rfl, rfl, rfl⟩
  | some q =>
    obtain ⟨f, l⟩ := q
    have h0 : 0 < pre.length := by
      cases pre with
      | nil => simp [goCvs] at hs
      | cons => simp
    unfold goCv at ht
    simp only at ht
    split at ht
    · rename_i e
      cases ht
      exact .inr (.inl ⟨h0, e, rfl, rfl⟩)
    · rename_i e
      split at ht
      · rename_i e2
        cases ht
        exact .inr (.inr ⟨h0, e, e2, rfl, rfl⟩)
      · cases ht
def esC (Ls : List (List Pt)) : List (List Pt) := if chkE Ls = 0 then Ls.map exE else []
def allC (Ls : List (List Pt)) : List Cv := if chkE Ls = 0 then (Ls.map rexE).flatMap cvsOf else []
theorem es_all (Ls : List (List Pt)) : (esC Ls).flatMap cvYs = allC Ls := by
  unfold esC allC
  split
  · rename_i h
    exact curves_one Ls (chk_zero h).2.2
  · rfl
theorem all_goes (Ls : List (List Pt)) : ∃ t, goCvs none (allC Ls) = some t ∧ Closed t := by
  unfold allC
  split
  · rename_i h
    have hm := (chk_zero h).2.2
    obtain ⟨t, h1, h2⟩ := curves_go Ls hm none (.inl rfl)
    rw [exs_eq hm] at h1
    exact ⟨t, h1, h2⟩
  · exact ⟨none, rfl, .inl rfl⟩
theorem closed_keep {t : Option (Pt × Pt)} (h : Closed t) : keepL t = keepF t := by
  rcases h with rfl | ⟨f, rfl⟩ <;> rfl
theorem all_short (Ls : List (List Pt)) : (allC Ls).length ≤ 1000000 := by
  unfold allC
  split
  · rename_i h
    have := (rcurves_pre h).2 (Ls.map rexE).length
    rwa [List.take_length] at this
  · simp
theorem es_short (Ls : List (List Pt)) : (esC Ls).length ≤ 100000 ∧ (∀ L ∈ esC Ls, L.length ≤ 1000000) ∧ ∀ k L, (esC Ls)[k]? = some L → (((esC Ls).take k).flatMap cvYs).length + L.length ≤ 2000000 := by
  unfold esC
  split
  · rename_i h
    have hm := (chk_zero h).2.2
    have h1 := (chk_zero h).1
    have hp := rcurves_pre h
    have hl : ∀ L ∈ Ls.map exE, L.length ≤ 300000 := fun L hL => by rw [exs_eq hm] at hL; exact (hp.1 L hL).2
    refine ⟨by rw [List.length_map]; omega, fun L hL => by have := hl L hL; omega, fun k L hk => ?_⟩
    have h2 := hl L (List.mem_of_getElem? hk)
    have h3 := hp.2 k
    rw [← List.map_take, ← curves_one (Ls.take k) (fun M hM => hm M (List.mem_of_mem_take hM)), List.map_take] at h3
    omega
  · exact ⟨by simp, fun L hL => by simp at hL, fun k L hk => by simp at hk⟩
theorem cvL_len (x : Cv) : (cvL x).length = 13 := rfl
theorem cvCells_at : ∀ (L : List Cv) (k : Nat) (y : Cv), L[k]? = some y → ∀ j v, (cvL y)[j]? = some v → (cvCells L)[k * 13 + j]? = some v
  | [], k, y, h, j, v, hv => by simp at h
  | x :: L, 0, y, h, j, v, hv => by
    obtain rfl : x = y := by simpa using h
    have hj : j < 13 := (List.getElem?_eq_some_iff.1 hv).1
    show (cvL x ++ cvCells L)[0 * 13 + j]? = some v
    rw [Nat.zero_mul, Nat.zero_add, List.getElem?_append_left (by rw [cvL_len]; exact hj)]
    exact hv
  | x :: L, k + 1, y, h, j, v, hv => by
    have := cvCells_at L k y (by simpa using h) j v hv
    show (cvL x ++ cvCells L)[(k + 1) * 13 + j]? = some v
    rw [List.getElem?_append_right (by rw [cvL_len]; omega), cvL_len, show (k + 1) * 13 + j - 13 = k * 13 + j by omega]
    exact this
theorem cv_at {w : World} {B : Nat} {A : Option Addr} {L : List Cv} (h : Lists w B A (cvCells L)) {k : Nat} {y : Cv} (hk : L[k]? = some y) : ∃ b o, A = some ⟨b, o, none⟩ ∧ b < B ∧ w.rangeAt b (o + k * 13) (cvL y) := by
  have h0 := cvCells_at L k y hk 0 (.int .i64 y.1) rfl
  obtain ⟨b, o, rfl, hb, hc⟩ := h.plain (by intro e; rw [e] at h0; simp at h0)
  exact ⟨b, o, rfl, hb, fun j v hv => by rw [Nat.add_assoc]; exact hc _ _ (cvCells_at L k y hk j v hv)⟩
end Go.Proofs.Ytmmdnhfonifhdaa

namespace Go.Proofs.Ytmmdnhfonifhdaa
open Go.ChangeShapes Go.WideShapes Go.ChangeAt Go.RowKit Go.Deep

section
variable {H : Type} {enc : TypeId × Value → H} {P : Program}
theorem open_four {w : World} {t : TypeId} {f0 f1 f2 f3 : Field} {base : Nat} {spare : Nat → Bool} {held : Bool} {r : Reach} {b0 : Nat} {v : Value} {d : DataW H} {p : List MemPlace}
    (hs : P.underlying t = some (.struct #[f0, f1, f2, f3])) (hone : oneCellFields P #[f0, f1, f2, f3] = true) (hC : P.cellsOf t = 4)
    (u0 : P.underlying f0.type = some (.int .i64)) (u1 : P.underlying f1.type = some (.int .i64)) (u2 : P.underlying f2.type = some (.int .i64)) (u3 : P.underlying f3.type = some (.int .i64))
    (hv : Value.okWide P w r b0 t v) (h : DataW.Trod enc P w base spare held t v d p) :
    ∃ a b c e : Int, v = .agg #[.int .i64 a, .int .i64 b, .int .i64 c, .int .i64 e] ∧ (Lit.int .i64 a).wf = true ∧ (Lit.int .i64 b).wf = true ∧ (Lit.int .i64 c).wf = true ∧ (Lit.int .i64 e).wf = true := by
  obtain ⟨v0, v1, v2, v3, y0, y1, y2, y3, n, rfl, _, _, h0, h1, h2, h3⟩ := Joins.open_agg4 hs hone hC hv h
  obtain ⟨a, e0, _, wa⟩ := DataW.trod_int u0 h0
  obtain ⟨b, e1, _, wb⟩ := DataW.trod_int u1 h1
  obtain ⟨c, e2, _, wc⟩ := DataW.trod_int u2 h2
  obtain ⟨e, e3, _, we⟩ := DataW.trod_int u3 h3
  simp at e0 e1 e2 e3
  subst e0 e1 e2 e3
  exact ⟨a, b, c, e, rfl, wa, wb, wc, we⟩
end

theorem Try.cellsM : Try.prog.cellsOf 52 = 4 := by kernel_rfl
theorem Try.cellsB : Try.prog.cellsOf 28 = 4 := by kernel_rfl

end Go.Proofs.Ytmmdnhfonifhdaa

namespace Go.Proofs.Ytmmdnhfonifhdaa
open Go Go.RowKit

section
variable {P : Program} {ops : Array Oper} {Q : Exit → Act → World → Prop} {md : Region.Mode} {n r : Nat}

theorem oper_in {o : Oper} {a : Act} {w : World} {K : Act → World → Prop} (hd : ∀ c, o.op ≠ .defer c) (h : o.wp P a w K Q) : o.wpIn (Fence.wide.inRound r) n P a w K Q := by
  refine ⟨fun _ _ => trivial, ?_⟩
  rw [show (Fence.wide.inRound r).round = some r from rfl, Oper.semAt_some _ _ _ hd]
  unfold Oper.wp at h
  generalize (execOp a.eval o).run P w = x at *
  cases x with
  | ok y w' =>
    cases y <;> simp only [Oper.upon] at h <;> simp only [Oper.uponIn]
    case value => exact h
    case skip => exact h
    case defer => exact h
    case enter => exact ⟨fun hc => by simp [Fence.wide, Fence.inRound] at hc, CallsIn.inRound r (callsIn_wide.2 h)⟩
    case row => exact ⟨fun hc => by simp [Fence.wide, Fence.inRound] at hc, fun c cs _ => let ⟨v, w', k, s⟩ := h c cs; ⟨v, w', k, stepsIn_wide.2 s⟩⟩
  | halt y w' =>
    cases y <;> simp only [Oper.upon] at h <;> simp only [Oper.uponIn]
    exact h
def noDefer (ops : Array Oper) : Bool := ops.toList.all fun o => match o.op with | .defer _ => false | _ => true
theorem noDefer_spec (h : noDefer ops = true) {i : Nat} {o : Oper} (hi : ops[i]? = some o) : ∀ c, o.op ≠ .defer c := fun c e => by
  have hm : o ∈ ops.toList := by
    obtain ⟨k, hk⟩ := Array.getElem?_eq_some_iff.1 hi
    exact List.mem_iff_getElem.2 ⟨i, by simpa using k, by simpa using hk⟩
  have := List.all_eq_true.1 h o hm
  rw [e] at this
  cases this
theorem opOp_in (hd : noDefer ops = true) (hQ : ¬ LetsOut Q) {i : Nat} {a : Act} {w : World} {K : Act → World → Prop} (h : wpOp P ops Q i K a w) : wpOpIn (Fence.wide.inRound r) n P ops Q i K a w := by
  unfold wpOp at h
  unfold wpOpIn
  cases ho : ops[i]? with
  | none => rw [ho] at h; exact h
  | some o =>
    rw [ho] at h
    simp only at h ⊢
    split at h
    · rename_i hw
      rw [if_pos hw]
      rcases h with h | h
      · exact oper_in (noDefer_spec hd ho) h
      · exact absurd h.2 hQ
    · rename_i hw
      rw [if_neg hw]
      exact ⟨fun _ _ => trivial, h⟩
theorem any_in (hd : noDefer ops = true) (hQ : ¬ LetsOut Q) : ∀ (fuel : Nat) (listed : Array Bool) (a : Act) (w : World), wpAny P md ops Q fuel listed a w → wpAnyIn (Fence.wide.inRound r) n P md ops Q fuel listed a w
  | 0, _, _, _, h => h
  | fuel + 1, _, _, _, h => ⟨h.1, fun i hi => wpOpIn_mono (fun _ _ k => any_in hd hQ fuel _ _ _ k) (opOp_in hd hQ (h.2 i hi))⟩
/-- A region whose order is open, in a round: walked in one order. -/
theorem wpIn_region_chain {id : Nat} {a : Act} {w : World} (I : World → Prop) (ord : List (Nat × Bool)) (hm : P.follows .mixedOrders = true) (hd : noDefer ops = true) (hok : chainOk .any ops ord = true) (hQ : ¬ LetsOut Q) (hI : I w.drew)
    (h : ChainL P ops (Q .normal) I ord a w.drew) : (Code.region id ops true).wpIn (Fence.wide.inRound r) n P Q a w := by
  refine wpIn_region_any hm ?_
  unfold chainOk at hok
  simp only [Bool.and_eq_true, decide_eq_true_eq] at hok
  exact any_in hd hQ _ _ _ _ (PlanC.any alone_none (fun i o cs b hi => Region.noSelect_spec hok.1.1 i o cs b hi) ops.size (ord.length + 0) _ a w.drew (DC.none _) (by omega) hI
    (ChainL.plan (fun h => absurd h (Nat.lt_irrefl _)) (fun a w h => by rw [if_neg (Nat.lt_irrefl _)]; exact h) ord _ a _ hok.2 h))

theorem exec_load {ρ : Operand → Value} {o : Oper} {w : World} {ty : TypeId} {x : Operand} {p v : Value} (h : (Instr.loadAt ty p).run P w = .ok v w) (ho : o.op = .load ty x) (hx : ρ x = p) : (execOp ρ o).run P w = .ok (.value v) w := by
  unfold execOp
  simp only [ho, hx, Sem.run_bind, h, Result.andThen_ok, Sem.run_pure]
variable {rest : List Oper} {o : Oper} {a : Act} {w : World}
/-- Plain regions' steps on whole rows, in a round. -/
theorem wpListIn_load_row (hgd : o.guard = none) (ty : TypeId) (x : Operand) (ho : o.op = .load ty x)
    (g : Nat) (hx : a.eval x = .pointer (some ⟨g, 0, none⟩)) (t : TypeId) (cs : Array Value) (fr : Nat × Nat) (d : TypeDesc) (hg : w.heap[g]? = some (.cells cs t fr))
    (hu : P.underlying ty = some d) (hd : (match d with | .struct _ | .array _ _ => true | _ => false) = true) (hi : (P.info? ty).map (·.size) = some cs.size)
    (h : wpListIn (Fence.wide.inRound r) n P ops Q rest (a.put o.dst (.agg cs)) w) : wpListIn (Fence.wide.inRound r) n P ops Q (o :: rest) a w :=
  wpListIn_plain hgd fun _ hK => oper_in (fun c e => by rw [ho] at e; cases e) (wp_load_row ty x ho g hx t cs fr d hg hu hd hi (hK _ _ h))
theorem wpListIn_store_row (hgd : o.guard = none) (ty : TypeId) (x y : Operand) (ho : o.op = .store ty x y)
    (g : Nat) (cells : Array Value) (hx : a.eval x = .pointer (some ⟨g, 0, none⟩)) (hy : a.eval y = .agg cells)
    (t : TypeId) (old : Array Value) (hg : w.heap[g]? = some (.cells old t (0, 0))) (hi : (P.info? ty).map (·.size) = some cells.size)
    (hold : old.size = cells.size) (h1 : cells.all (·.oneCell') = true)
    (h : wpListIn (Fence.wide.inRound r) n P ops Q rest (a.put o.dst undef) (w.setRow g cells)) : wpListIn (Fence.wide.inRound r) n P ops Q (o :: rest) a w :=
  wpListIn_plain hgd fun _ hK => oper_in (fun c e => by rw [ho] at e; cases e) (wp_store_row ty x y ho g cells hx hy t old hg hi hold h1 (hK _ _ h))
end
end Go.Proofs.Ytmmdnhfonifhdaa
