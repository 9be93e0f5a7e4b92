/- A writer's bytes, gap by gap. -/
import Derived.Test.YtdbhfigdojkceaaBytes
import Derived.Deep.OwnRows
import Derived.Laws.CopyOwn
namespace Go.Proofs.Ytdbhfigdojkceaa
open Go Go.RowKit

/-- What stands ahead of the data behind the last gap; where that data begins. -/
def preE (D : List Value) : Nat → List (Nat × Nat) → List Value
  | _, [] => []
  | i, (a, z) :: G => (D.drop i).take (a - i) ++ List.replicate z zero8 ++ preE D a G
def lastA : Nat → List (Nat × Nat) → Nat
  | i, [] => i
  | _, (a, _) :: G => lastA a G

theorem expand_pre (D : List Value) : ∀ (G : List (Nat × Nat)) (i : Nat), expand D i G = preE D i G ++ D.drop (lastA i G)
  | [], i => rfl
  | (a, z) :: G, i => by simp only [expand, preE, lastA, expand_pre D G a, List.append_assoc]
theorem preE_snoc (D : List Value) (a z : Nat) : ∀ (G : List (Nat × Nat)) (i : Nat), preE D i (G ++ [(a, z)]) = preE D i G ++ ((D.drop (lastA i G)).take (a - lastA i G) ++ List.replicate z zero8)
  | [], i => by simp [preE, lastA]
  | (b, y) :: G, i => by simp only [List.cons_append, preE, lastA, preE_snoc D a z G b, List.append_assoc]
theorem lastA_snoc (a z : Nat) : ∀ (G : List (Nat × Nat)) (i : Nat), lastA i (G ++ [(a, z)]) = a
  | [], i => rfl
  | (b, y) :: G, i => by simp only [List.cons_append, lastA, lastA_snoc a z G b]
theorem lastA_le : ∀ (G : List (Nat × Nat)) {i n : Nat}, GapsOk i G n → lastA i G ≤ n
  | [], _, _, h => h
  | (_, _) :: G, _, _, h => lastA_le G h.2.2
theorem gap_at : ∀ (G : List (Nat × Nat)) (i n k a z : Nat), GapsOk i G n → G[k]? = some (a, z) → lastA i (G.take k) ≤ a ∧ a ≤ n ∧ 1 ≤ z
  | [], _, _, k, _, _, _, h => by simp at h
  | (b, y) :: G, i, n, 0, a, z, hg, h => by
    simp only [List.getElem?_cons_zero, Option.some.injEq, Prod.mk.injEq] at h
    obtain ⟨rfl, rfl⟩ := h
    exact ⟨hg.1, hg.2.2.le, hg.2.1⟩
  | (b, y) :: G, i, n, k + 1, a, z, hg, h => by
    simp only [List.take_succ_cons, lastA]
    exact gap_at G b n k a z hg.2.2 (by simpa using h)
theorem take_snoc {G : List (Nat × Nat)} {k a z : Nat} (h : G[k]? = some (a, z)) : G.take (k + 1) = G.take k ++ [(a, z)] := by
  rw [List.take_add_one, h]; rfl
theorem pre_prefix (D : List Value) : ∀ (G : List (Nat × Nat)) (i k : Nat), (preE D i (G.take k)).length ≤ (preE D i G).length
  | [], i, k => by simp
  | (a, z) :: G, i, 0 => by simp [preE]
  | (a, z) :: G, i, k + 1 => by
    have := pre_prefix D G a k
    simp only [List.take_succ_cons, preE, List.length_append]
    omega
theorem pre_len_le (D : List Value) (G : List (Nat × Nat)) (k : Nat) : (preE D 0 (G.take k)).length ≤ (expand D 0 G).length := by
  rw [expand_pre, List.length_append]
  have := pre_prefix D G 0 k
  omega

/-- The row behind k gaps: n bytes in all. -/
def rowAt (D : List Value) (G : List (Nat × Nat)) (n k : Nat) : List Value := preE D 0 (G.take k) ++ List.replicate (n - (preE D 0 (G.take k)).length) zero8
theorem rowAt_len (D : List Value) (G : List (Nat × Nat)) (n k : Nat) (h : (preE D 0 (G.take k)).length ≤ n) : (rowAt D G n k).length = n := by
  unfold rowAt; rw [List.length_append, List.length_replicate]; omega
theorem splice_row (P cs : List Value) (n : Nat) (h : P.length + cs.length ≤ n) : splice (P ++ List.replicate (n - P.length) zero8) P.length cs = P ++ cs ++ List.replicate (n - (P ++ cs).length) zero8 := by
  unfold splice
  rw [List.take_left, List.drop_append, List.drop_eq_nil_of_le (by omega), List.nil_append, List.drop_replicate, List.append_assoc, List.length_append]
  congr 3
  omega
theorem row_next (D : List Value) (G : List (Nat × Nat)) (n k a z : Nat) (hg : G[k]? = some (a, z)) (hn : (preE D 0 (G.take (k + 1))).length ≤ n) :
    splice (rowAt D G n k) (preE D 0 (G.take k)).length ((D.drop (lastA 0 (G.take k))).take (a - lastA 0 (G.take k))) = rowAt D G n (k + 1) := by
  rw [take_snoc hg, preE_snoc] at hn
  unfold rowAt
  rw [splice_row _ _ _ (by simp only [List.length_append] at hn; omega), take_snoc hg, preE_snoc]
  simp only [List.append_assoc, List.length_append, List.length_replicate] at hn ⊢
  congr 2
  rw [List.replicate_append_replicate]
  congr 1
  omega
theorem row_last (D : List Value) (G : List (Nat × Nat)) : splice (rowAt D G (expand D 0 G).length G.length) (preE D 0 G).length (D.drop (lastA 0 G)) = expand D 0 G := by
  have hl := expand_pre D G 0
  unfold rowAt
  rw [List.take_length, splice_row _ _ _ (by rw [hl, List.length_append]; omega), ← hl]
  simp
theorem made_zeros (n : Nat) : madeCells #[.int .u8 0] n = (List.replicate n zero8).toArray := by
  unfold madeCells zero8
  apply Array.ext
  · simp
  · intro i h1 h2
    simp [Nat.mod_one]

end Go.Proofs.Ytdbhfigdojkceaa
