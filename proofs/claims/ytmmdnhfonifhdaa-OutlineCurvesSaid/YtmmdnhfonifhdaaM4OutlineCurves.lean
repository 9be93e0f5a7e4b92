/- Part 5 of the proof: OuX. -/
import Derived.Test.YtmmdnhfonifhdaaM3OutlineCurves

namespace Go.Proofs.Ytmmdnhfonifhdaa
open Go Go.RowKit

def stepX (L : List Pt) (a : Int) : List Pt := (if kd L (a - 1) == 2 && kd L a == 2 then [midP (ringP L (a - 1)) (ringP L a)] else []) ++ [ringP L a]
def exK (L : List Pt) (k : Nat) : List Pt := (List.range k).flatMap fun (i : Nat) => stepX L ((st L : Int) + i)
def exE (L : List Pt) : List Pt := exK L L.length
theorem exK_succ (L : List Pt) (k : Nat) : exK L (k + 1) = exK L k ++ stepX L ((st L : Int) + k) := by simp [exK, List.range_succ]
/-- All coordinates may be. -/
def Fair (L : List Pt) : Prop := ∀ p ∈ L, mayB p.1 = true ∧ mayB p.2.1 = true
theorem Fair.ring {L : List Pt} (h : Fair L) (h0 : 0 < L.length) (a : Int) : mayB (ringP L a).1 = true ∧ mayB (ringP L a).2.1 = true := by
  obtain ⟨m, _, _, hp⟩ := ring_some h0 a
  exact h _ (List.mem_of_getElem? hp)
theorem fair_of {L : List Pt} (h : mayC L = true) : Fair L := by
  intro p hp
  unfold mayC at h
  rw [Bool.and_eq_true, allI_true] at h
  obtain ⟨j, hj⟩ := List.mem_iff_getElem?.1 hp
  have := h.2 j p hj
  unfold okA okP at this
  simp only [Bool.and_eq_true] at this
  exact ⟨this.1.1.1.1, this.1.1.1.2⟩
theorem may_pos {L : List Pt} (h : mayC L = true) : 0 < L.length := by
  unfold mayC at h
  rw [Bool.and_eq_true, decide_eq_true_eq] at h
  exact h.1

theorem stepX_len (L : List Pt) (a : Int) : (stepX L a).length ≤ 2 := by
  unfold stepX
  split <;> simp
theorem exK_len (L : List Pt) : ∀ k, (exK L k).length ≤ 2 * k
  | 0 => by simp [exK]
  | k + 1 => by
    have h1 := exK_len L k
    have h2 := stepX_len L ((st L : Int) + k)
    rw [exK_succ, List.length_append]
    omega

set_option maxRecDepth 100000 in
set_option maxHeartbeats 4000000 in
theorem explicit_any (B : Nat) (A : Option Addr) (c : Nat) (L : List Pt) (w : World) (hB : B ≤ w.heap.size) (h : Lists w B A (ptCells L)) (hn : L.length ≤ 100000) (hf : Fair L) :
    Calls Try.prog 33 #[.slice A L.length c] w (MadeRow w (exE L)) := by
  have CX := indexOn_any B A c L w hB h (by omega)
  have hmax := st_max L
  have hst : L.length = 0 ∨ st L < L.length := by
    rcases Nat.eq_zero_or_pos L.length with h | h
    · exact .inl h
    · exact .inr (st_lt h)
  have HE := Lib.hid h
  have HF := Lib.hid hf
  obtain ⟨i1, hi1, hz1, hs1, hy1⟩ := info_parts1 ptInfo
  obtain ⟨i2, hi2, hz2, hs2, hy2⟩ := info_parts1 rowInfo
  have HI1 := Lib.hid hi1
  have HZ1 := Lib.hid hz1
  have HS1 := Lib.hid hs1
  have HY1 := Lib.hid hy1
  have HI2 := Lib.hid hi2
  have HZ2 := Lib.hid hz2
  have HS2 := Lib.hid hs2
  have HY2 := Lib.hid hy2
  clear hi1 hz1 hs1 hy1 hi2 hz2 hs2 hy2
  obtain ⟨n, hnn⟩ : ∃ n, n = L.length := ⟨_, rfl⟩
  rw [← hnn] at hn hst CX ⊢
  have HN := Lib.hid hnn
  have HX : ∀ k : Nat, exK L (k + 1) = exK L k ++ stepX L ((st L : Int) + k) := exK_succ L
  have HXX := Lib.hid HX
  obtain ⟨s, hs⟩ : ∃ s, s = st L := ⟨_, rfl⟩
  rw [← hs] at hst hmax
  have HST := Lib.hid hs
  generalize onI L = r at *
  clear h hnn hf HX hs
  go_enter Try.func33, Try.ntmps33
  go_wp2_with (first | (go_at_call 57; ((with_reducible refine (CX).mono ?_); rintro e w0 ⟨rfl, b0⟩)))
  go_loopw [4, 13] (fun v i wr => ∃ k m : Nat, k ≤ n ∧ i = .int .i64 k ∧ m = (exK L k).length ∧ wr.ownsRow w.heap.size 43 3 v m (ptCells (exK L k)) ∧ Below w.heap.size w wr) (fun _ i _ => n - (intOf i).toNat)
  case atStart => exact ⟨0, 0, Nat.zero_le _, rfl, rfl, World.ownsRow_nil _ _ _ _, b0⟩
  case round =>
    clear b0 CX hmax
    obtain ⟨k, m, hk, rfl, hm, hown, hb⟩ := hrel
    by_cases hlt : k < n
    · have d1 : decide ((k : Int) < (n : Int)) = true := by simp; omega
      have hbs := hb.size
      have C := fun (a : Int) (ha : -(n : Int) ≤ a) (ha2 : a ≤ 100000000) (w1 : World) (b1 : Below wr.heap.size wr w1) => ring_any B A c L a w1 (by have := b1.size; omega) (HE.out.below ((hb.trans (b1.mono hbs)).mono hB)) (by rw [← HN.out]; omega) (by rw [← HN.out]; omega) (by rw [← HN.out]; omega) ha2
      have C1 := C ((s : Int) + k - 1) (by omega) (by omega) wr (Below.refl _ _)
      have C2 := C ((s : Int) + k) (by omega) (by omega)
      obtain ⟨m1, m2⟩ := HF.out.ring (by rw [← HN.out]; omega) ((s : Int) + k - 1)
      obtain ⟨m3, m4⟩ := HF.out.ring (by rw [← HN.out]; omega) ((s : Int) + k)
      have hXS := HXX.out k
      rw [← HST.out] at hXS
      unfold stepX kd at hXS
      have hml : m ≤ 2 * k := by rw [hm]; exact exK_len L k
      obtain ⟨v0, hv0⟩ : ∃ v0, v0 = u4 := ⟨_, rfl⟩
      rw [← HN.out] at C1 C2
      have HW := Lib.hid hown
      subst hv0
      generalize ringP L ((s : Int) + k - 1) = p at *
      generalize ringP L ((s : Int) + k) = q at *
      obtain ⟨x, y, z⟩ := p
      obtain ⟨x', y', z'⟩ := q
      simp only [ptV] at C1 C2 hXS m1 m2 m3 m4
      have CM := fun w => mid_any x y z x' y' z' w m1 m2 m3 m4
      clear C hown m1 m2 m3 m4
      have HM := Lib.hid hm
      clear hm
      by_cases hz : z = 2 ∧ z' = 2
      · obtain ⟨rfl, rfl⟩ := hz
        have hX2 : exK L (k + 1) = exK L k ++ [((x + x') / 2, (y + y') / 2, 1), (x', y', 2)] := by rw [hXS]; simp [midP]
        have HM1 := Lib.hid (show m + 2 = (exK L (k + 1)).length by rw [hX2, List.length_append, ← HM.out]; rfl)
        have HP1 := Lib.hid (show ptCells (exK L (k + 1)) = ptCells (exK L k) ++ (ptCells [((x + x') / 2, (y + y') / 2, 1)] ++ ptCells [(x', y', 2)]) by rw [hX2, ptCells_append]; rfl)
        clear hXS hX2
        go_wp2_with (first | (go_at_call 59; ((with_reducible refine (C1).mono ?_); rintro e w1 ⟨rfl, b1⟩)) | (go_at_call 59; ((with_reducible refine (C2 _ b1).mono ?_); rintro e w2 ⟨rfl, b2⟩; have B2 := b1.trans (b2.mono b1.size); have B2s := B2.size; have B2a := (B2.alloc B2.size (.cells #[.int .i64 x, .int .i64 y, .int .i64 2] 43)).alloc (by simp; omega) (.cells #[.int .i64 x', .int .i64 y', .int .i64 2] 43))) | (go_at_call 60; ((with_reducible refine (CM _).mono ?_); rintro e w3 ⟨rfl, b3⟩; have B3 := B2a.trans (b3.mono B2a.size); have B3s := b3.size; simp only [World.size_alloc] at B3s; have K3 := (Blk.new (w2.alloc (.cells #[.int .i64 x, .int .i64 y, .int .i64 2] 43)) 43 #[.int .i64 x', .int .i64 y', .int .i64 2]).below b3)) | (at_builtin; refine wpList_append_src _ rfl (.tmp 35) (.tmp 39) 48 rfl w.heap.size 43 i1 (.agg #[.int .i64 0, .int .i64 0, .int .i64 0]) 3 24 Try.underlying48 HI1.out HZ1.out HS1.out HY1.out rfl (by decide) _ m (ptCells (exK L k)) rfl (own_stay HW.out (B3.alloc B3.size _)) _ _ 1 1 (ptCells [((x + x') / 2, (y + y') / 2, 1)]) rfl (lists_ptk w3 ((x + x') / 2, (y + y') / 2, 1) _ _ (by simp)) rfl (ptCells_one _) (by simp only [maxLen]; omega) (by omega) (by simp; omega) ?_; intro v4 w4 own4 hg4 _; have B4 : Below w.heap.size w w4 := ((hb.trans (B3.mono hb.size)).alloc (by omega) _).grown hg4 (by simp; omega) (fun j hj => (HW.out.lt j hj).1); have K4 := (K3.below ((Below.refl _ _).alloc (Nat.le_refl _) (.cells #[.int .i64 ((x + x') / 2), .int .i64 ((y + y') / 2), .int .i64 1] 43))).only ((Only.refl _ (blk v0)).grown hg4 (fun b hb => .inl (by have hb' : v0.ownBlock = some b := hb; simp [blk, hb']))) (fun hm => by have := blk_lt HW.out _ hm; simp at this; omega); have q0 := K4.cell 0; have q1 := K4.cell 1; have q2 := K4.cell 2; have q3 := K4.lt; simp only [World.size_alloc, List.getElem?_toArray, List.getElem?_cons_zero, List.getElem?_cons_succ] at q0 q1 q2 q3) | (at_builtin; refine wpList_append_src _ rfl (.tmp 41) (.tmp 43) 48 rfl w.heap.size 43 i1 (.agg #[.int .i64 0, .int .i64 0, .int .i64 0]) 3 24 Try.underlying48 HI1.out HZ1.out HS1.out HY1.out rfl (by decide) _ (m + 1) (ptCells (exK L k) ++ ptCells [((x + x') / 2, (y + y') / 2, 1)]) rfl (own_stay own4 ((Below.refl _ _).alloc (Nat.le_refl _) _)) _ _ 1 1 (ptCells [(x', y', 2)]) rfl (lists_ptk w4 (x', y', 2) _ _ (by simp)) rfl (ptCells_one _) (by simp only [maxLen]; omega) (by omega) (by simp; omega) ?_; intro v5 w5 own5 hg5 _))
        go_roundw
        case rel => exact ⟨k + 1, m + 2, by omega, by go_num, HM1.out, by rw [HP1.out, ← List.append_assoc]; exact own5, (B4.alloc B4.size _).grown hg5 (by have := B4.size; simp; omega) (fun j hj => (own4.lt j hj).1)⟩
        case measure => simp [intOf]; omega
      · have hX2 : exK L (k + 1) = exK L k ++ [(x', y', z')] := by
          rw [hXS, if_neg]
          · rfl
          · simp only [Bool.and_eq_true, beq_iff_eq]; exact hz
        have HM1 := Lib.hid (show m + 1 = (exK L (k + 1)).length by rw [hX2, List.length_append, ← HM.out]; rfl)
        have HP1 := Lib.hid (show ptCells (exK L (k + 1)) = ptCells (exK L k) ++ ptCells [(x', y', z')] by rw [hX2, ptCells_append])
        clear hXS hX2 CM
        by_cases hz1 : z = 2
        · have hz2 : ¬ z' = 2 := fun h => hz ⟨hz1, h⟩
          have t0 : (z == 2) = true := by simpa using hz1
          have t1 : (z' == 2) = false := by simpa using hz2
          clear hz hz1 hz2
          go_wp2_with (first | (go_at_call 59; ((with_reducible refine (C1).mono ?_); rintro e w1 ⟨rfl, b1⟩)) | (go_at_call 59; ((with_reducible refine (C2 _ b1).mono ?_); rintro e w2 ⟨rfl, b2⟩; have B2 := b1.trans (b2.mono b1.size); have B2s := B2.size; have B2a := (B2.alloc B2.size (.cells #[.int .i64 x, .int .i64 y, .int .i64 z] 43)).alloc (by simp; omega) (.cells #[.int .i64 x', .int .i64 y', .int .i64 z'] 43))) | (at_builtin; refine wpList_append_src _ rfl (.tmp 41) (.tmp 43) 48 rfl w.heap.size 43 i1 (.agg #[.int .i64 0, .int .i64 0, .int .i64 0]) 3 24 Try.underlying48 HI1.out HZ1.out HS1.out HY1.out rfl (by decide) _ m (ptCells (exK L k)) rfl (own_stay HW.out (B2a.alloc B2a.size _)) _ _ 1 1 (ptCells [(x', y', z')]) rfl (lists_ptk _ (x', y', z') _ _ (by simp)) rfl (ptCells_one _) (by simp only [maxLen]; omega) (by omega) (by simp; omega) ?_; intro v4 w4 own4 hg4 _))
          go_roundw
          case rel => exact ⟨k + 1, m + 1, by omega, by go_num, HM1.out, by rw [HP1.out]; exact own4, (((hb.trans (B2a.mono hb.size)).alloc (by have := hb.size; simp; omega) _).grown hg4 (by have := hb.size; simp; omega) (fun j hj => (HW.out.lt j hj).1))⟩
          case measure => simp [intOf]; omega
        · have t1 : (z == 2) = false := by simpa using hz1
          clear hz
          go_wp2_with (first | (go_at_call 59; ((with_reducible refine (C1).mono ?_); rintro e w1 ⟨rfl, b1⟩)) | (go_at_call 59; ((with_reducible refine (C2 _ b1).mono ?_); rintro e w2 ⟨rfl, b2⟩; have B2 := b1.trans (b2.mono b1.size); have B2s := B2.size; have B2a := (B2.alloc B2.size (.cells #[.int .i64 x, .int .i64 y, .int .i64 z] 43)).alloc (by simp; omega) (.cells #[.int .i64 x', .int .i64 y', .int .i64 z'] 43))) | (at_builtin; refine wpList_append_src _ rfl (.tmp 41) (.tmp 43) 48 rfl w.heap.size 43 i1 (.agg #[.int .i64 0, .int .i64 0, .int .i64 0]) 3 24 Try.underlying48 HI1.out HZ1.out HS1.out HY1.out rfl (by decide) _ m (ptCells (exK L k)) rfl (own_stay HW.out (B2a.alloc B2a.size _)) _ _ 1 1 (ptCells [(x', y', z')]) rfl (lists_ptk _ (x', y', z') _ _ (by simp)) rfl (ptCells_one _) (by simp only [maxLen]; omega) (by omega) (by simp; omega) ?_; intro v4 w4 own4 hg4 _))
          go_roundw
          case rel => exact ⟨k + 1, m + 1, by omega, by go_num, HM1.out, by rw [HP1.out]; exact own4, (((hb.trans (B2a.mono hb.size)).alloc (by have := hb.size; simp; omega) _).grown hg4 (by have := hb.size; simp; omega) (fun j hj => (HW.out.lt j hj).1))⟩
          case measure => simp [intOf]; omega
    · obtain rfl : k = n := by omega
      have d1 : decide ((k : Int) < (k : Int)) = false := by simp
      have HT := Lib.hid (show exK L k = exE L by unfold exE; rw [HN.out])
      go_wp2
      go_ret
      exact ⟨_, rfl, by rw [← HT.out, ← hm]; exact hown, hb⟩

end Go.Proofs.Ytmmdnhfonifhdaa
