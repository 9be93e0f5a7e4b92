/- A writer's bytes: data with gaps of zeros. -/
import Derived.Test.YtdbhfigdojkceaaSep
namespace Go.Proofs.Ytdbhfigdojkceaa
open Go Go.RowKit

def zero8 : Value := .int .u8 0

/-- Data from a place on, with so many zeros ahead of each gap's place. -/
def expand (D : List Value) : Nat → List (Nat × Nat) → List Value
  | i, [] => D.drop i
  | i, (a, z) :: G => (D.drop i).take (a - i) ++ List.replicate z zero8 ++ expand D a G

/-- The gaps' places rise, and are none beyond n; none is empty. -/
def GapsOk : Nat → List (Nat × Nat) → Nat → Prop
  | i, [], n => i ≤ n
  | i, (a, z) :: G, n => i ≤ a ∧ 1 ≤ z ∧ GapsOk a G n

def gapSum (G : List (Nat × Nat)) : Nat := (G.map (·.2)).sum

theorem GapsOk.le : ∀ {G : List (Nat × Nat)} {i n : Nat}, GapsOk i G n → i ≤ n
  | [], _, _, h => h
  | _ :: _, _, _, h => Nat.le_trans h.1 h.2.2.le
theorem GapsOk.more : ∀ {G : List (Nat × Nat)} {i n m : Nat}, GapsOk i G n → n ≤ m → GapsOk i G m
  | [], _, _, _, h, hm => Nat.le_trans h hm
  | _ :: _, _, _, _, h, hm => ⟨h.1, h.2.1, h.2.2.more hm⟩
theorem GapsOk.snoc {z : Nat} (hz : 1 ≤ z) : ∀ {G : List (Nat × Nat)} {i n : Nat}, GapsOk i G n → GapsOk i (G ++ [(n, z)]) n
  | [], _, _, h => ⟨h, hz, Nat.le_refl _⟩
  | _ :: _, _, _, h => ⟨h.1, h.2.1, GapsOk.snoc hz h.2.2⟩
theorem GapsOk.count : ∀ {G : List (Nat × Nat)} {i n : Nat}, GapsOk i G n → G.length ≤ gapSum G
  | [], _, _, _ => Nat.zero_le _
  | (a, z) :: G, _, _, h => by
    have := h.2.2.count
    have h1 := h.2.1
    simp only [gapSum, List.map_cons, List.sum_cons, List.length_cons] at *
    omega

theorem expand_data (D E : List Value) : ∀ (G : List (Nat × Nat)) (i : Nat), GapsOk i G D.length → expand (D ++ E) i G = expand D i G ++ E
  | [], i, h => by simp only [expand]; rw [List.drop_append_of_le_length h]
  | (a, z) :: G, i, h => by
    have hle := h.2.2.le
    simp only [expand]
    rw [expand_data D E G a h.2.2, List.drop_append_of_le_length (by have := h.1; omega), List.take_append_of_le_length (by rw [List.length_drop]; omega)]
    simp only [List.append_assoc]

theorem expand_gap (D : List Value) (z : Nat) : ∀ (G : List (Nat × Nat)) (i : Nat), GapsOk i G D.length → expand D i (G ++ [(D.length, z)]) = expand D i G ++ List.replicate z zero8
  | [], i, h => by
    simp only [List.nil_append, expand]
    rw [List.take_of_length_le (by rw [List.length_drop]; omega), List.drop_eq_nil_of_le (Nat.le_refl _)]
    simp
  | (a, y) :: G, i, h => by
    simp only [List.cons_append, expand]
    rw [expand_gap D z G a h.2.2]
    simp only [List.append_assoc]

theorem expand_len (D : List Value) : ∀ (G : List (Nat × Nat)) (i : Nat), GapsOk i G D.length → (expand D i G).length = D.length - i + gapSum G
  | [], i, _ => by simp [expand, gapSum]
  | (a, z) :: G, i, h => by
    have hle := h.2.2.le
    have h1 := h.1
    simp only [expand, List.length_append, List.length_replicate, List.length_take, List.length_drop]
    rw [expand_len D G a h.2.2]
    simp only [gapSum, List.map_cons, List.sum_cons]
    omega

/-- The cells of gaps. -/
def gapCells : List (Nat × Nat) → List Value
  | [] => []
  | (a, z) :: G => .int .i64 (a : Int) :: .int .i64 (z : Int) :: gapCells G
theorem gapCells_len : ∀ G : List (Nat × Nat), (gapCells G).length = G.length * 2
  | [] => rfl
  | _ :: G => by simp only [gapCells, List.length_cons, gapCells_len G]; omega
theorem gapCells_snoc (a z : Nat) : ∀ G : List (Nat × Nat), gapCells (G ++ [(a, z)]) = gapCells G ++ [.int .i64 (a : Int), .int .i64 (z : Int)]
  | [] => rfl
  | (_, _) :: G => by simp only [List.cons_append, gapCells, gapCells_snoc a z G]
theorem gapCells_at : ∀ (G : List (Nat × Nat)) (k : Nat) (a z : Nat), G[k]? = some (a, z) → (gapCells G)[k * 2]? = some (.int .i64 (a : Int)) ∧ (gapCells G)[k * 2 + 1]? = some (.int .i64 (z : Int))
  | [], k, a, z, h => by simp at h
  | (b, y) :: G, 0, a, z, h => by
    simp only [List.getElem?_cons_zero, Option.some.injEq, Prod.mk.injEq] at h
    obtain ⟨rfl, rfl⟩ := h
    exact ⟨rfl, rfl⟩
  | (b, y) :: G, k + 1, a, z, h => by
    have := gapCells_at G k a z (by simpa using h)
    rw [show (k + 1) * 2 = k * 2 + 1 + 1 by omega]
    exact this

/-- Each is a byte. -/
def Bytes8 (l : List Value) : Prop := ∀ u ∈ l, ∃ x : Nat, x < 256 ∧ u = .int .u8 (x : Int)
theorem Bytes8.one {l : List Value} (h : Bytes8 l) : ∀ u ∈ l, u.oneCell' = true := fun u hu => by
  obtain ⟨x, _, rfl⟩ := h u hu
  rfl
theorem Bytes8.append {l m : List Value} (h : Bytes8 l) (k : Bytes8 m) : Bytes8 (l ++ m) := fun u hu => by
  rcases List.mem_append.1 hu with h1 | h1
  · exact h u h1
  · exact k u h1
theorem Bytes8.zeros (n : Nat) : Bytes8 (List.replicate n zero8) := fun u hu => ⟨0, by omega, (List.mem_replicate.1 hu).2⟩

theorem own_ne {w : World} {base p : Nat} {e T : TypeId} {size n : Nat} {v : Value} {xs : List Value} {cs : Array Value} (h : w.ownsRow base e size v n xs) (hb : Blk w p T cs) (hne : e ≠ T) : p ∉ blk v := by
  intro hm
  rcases h.2 with ⟨rfl, _⟩ | ⟨g, cap, cur, rfl, _, hh, _⟩
  · simp [blk, Value.ownBlock] at hm
  · have : p = g := by simpa [blk, Value.ownBlock] using hm
    subst this
    unfold Blk at hb
    rw [hh] at hb
    injection hb with hb
    injection hb with _ ht
    exact hne ht
theorem own_own {w : World} {base base1 : Nat} {e e1 : TypeId} {size n size1 n1 : Nat} {v v1 : Value} {xs xs1 : List Value} (h : w.ownsRow base e size v n xs) (h1 : w.ownsRow base1 e1 size1 v1 n1 xs1) (hne : e ≠ e1) : ∀ b ∈ blk v, b ∉ blk v1 := by
  intro b hb hm
  rcases h.2 with ⟨rfl, _⟩ | ⟨g, cap, cur, rfl, _, hh, _⟩
  · simp [blk, Value.ownBlock] at hb
  · rcases h1.2 with ⟨rfl, _⟩ | ⟨g1, cap1, cur1, rfl, _, hh1, _⟩
    · simp [blk, Value.ownBlock] at hm
    · have e1 : b = g := by simpa [blk, Value.ownBlock] using hb
      have e2 : b = g1 := by simpa [blk, Value.ownBlock] using hm
      subst e1 e2
      rw [hh] at hh1
      injection hh1 with hh1
      injection hh1 with _ ht
      exact hne ht

end Go.Proofs.Ytdbhfigdojkceaa
