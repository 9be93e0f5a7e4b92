/- Part 14 of the proof: OuRX. -/
import Derived.Test.YtlacjifnniahhaaCFl12

namespace Go.Proofs.Ytlacjifnniahhaa
open Go Go.RowKit

def rm (L : List Pt) (n k : Nat) : List Pt := if kd L ((st L : Int) + k) == 2 && kd L ((st L : Int) + k + 1) == 2 && !(decide (k + 1 = n) && kd L (st L : Int) == 2) then [midP (ringP L ((st L : Int) + k)) (ringP L ((st L : Int) + k + 1))] else []
def rexK (L : List Pt) (k : Nat) : List Pt := (List.range k).flatMap fun (i : Nat) => [ringP L ((st L : Int) + i)] ++ rm L L.length i
def preR (L : List Pt) : List Pt := if hasOn L then [] else [midP (ringP L ((L.length : Int) - 1)) (ringP L 0)]
def rexE (L : List Pt) : List Pt := preR L ++ rexK L L.length
theorem rexK_succ (L : List Pt) (k : Nat) : rexK L (k + 1) = rexK L k ++ ([ringP L ((st L : Int) + k)] ++ rm L L.length k) := by simp [rexK, List.range_succ]
theorem rm_len (L : List Pt) (n k : Nat) : (rm L n k).length ≤ 1 := by unfold rm; split <;> simp
theorem rexK_len (L : List Pt) : ∀ k, (rexK L k).length ≤ 2 * k
  | 0 => by simp [rexK]
  | k + 1 => by
    have h1 := rexK_len L k
    have h2 := rm_len L L.length k
    rw [rexK_succ, List.length_append, List.length_append, List.length_singleton]
    omega
def FirstFrom (L : List Pt) (k : Nat) (r : Int) : Prop :=
  (r = -1 ∧ ∀ (j : Nat) (p : Pt), k ≤ j → L[j]? = some p → isOn p = false) ∨
  (∃ (m : Nat) (p : Pt), r = (m : Int) ∧ k ≤ m ∧ L[m]? = some p ∧ isOn p = true ∧ ∀ (j : Nat) (q : Pt), k ≤ j → j < m → L[j]? = some q → isOn q = false)
theorem FirstFrom.zero {L : List Pt} {r : Int} (h : FirstFrom L 0 r) : r = onI L := by
  rcases h with ⟨rfl, h⟩ | ⟨m, p, rfl, _, h1, h2, h3⟩
  · exact (onI_none (fun j q hq => h j q (Nat.zero_le _) hq)).symm
  · exact (onI_at h1 h2 (fun j q hj hq => h3 j q (Nat.zero_le _) hj hq)).symm
theorem FirstFrom.on {L : List Pt} {k : Nat} {p : Pt} (hp : L[k]? = some p) (h : isOn p = true) : FirstFrom L k (k : Int) :=
  .inr ⟨k, p, rfl, Nat.le_refl _, hp, h, fun j q h1 h2 _ => by omega⟩
theorem FirstFrom.off {L : List Pt} {k : Nat} {p : Pt} {r : Int} (h : FirstFrom L (k + 1) r) (hp : L[k]? = some p) (ho : isOn p = false) : FirstFrom L k r := by
  have here : ∀ (j : Nat) (q : Pt), k ≤ j → L[j]? = some q → j = k → isOn q = false := fun j q _ hq e => by subst e; rw [hp] at hq; cases hq; exact ho
  rcases h with ⟨rfl, h⟩ | ⟨m, p', rfl, h0, h1, h2, h3⟩
  · refine .inl ⟨rfl, fun j q hj hq => ?_⟩
    by_cases e : j = k
    · exact here j q hj hq e
    · exact h j q (by omega) hq
  · refine .inr ⟨m, p', rfl, by omega, h1, h2, fun j q hj hjm hq => ?_⟩
    by_cases e : j = k
    · exact here j q hj hq e
    · exact h3 j q (by omega) hjm hq
def predI (k : Nat) : Int := (k : Int) - 1
theorem predI_succ (k : Nat) : predI (k + 1) = (k : Int) := by unfold predI; omega

set_option maxRecDepth 100000 in
set_option maxHeartbeats 8000000 in
theorem rexplicit_any (B : Nat) (A : Option Addr) (c : Nat) (L : List Pt) (w : World) (hB : B ≤ w.heap.size) (h : Lists w B A (ptCells L)) (h0 : 0 < L.length) (hn : L.length ≤ 100000) (hf : Fair L) :
    Calls Try.prog 93 #[.slice A L.length c] w (MadeRow w (rexE L)) := by
  have hst := st_lt h0
  have HE := Lib.hid h
  have HF := Lib.hid hf
  obtain ⟨i1, hi1, hz1, hs1, hy1⟩ := info_parts1 ptInfo
  obtain ⟨i2, hi2, hz2, hs2, hy2⟩ := info_parts1 rowInfo
  have HI1 := Lib.hid hi1
  have HZ1 := Lib.hid hz1
  have HS1 := Lib.hid hs1
  have HY1 := Lib.hid hy1
  have HI2 := Lib.hid hi2
  have HZ2 := Lib.hid hz2
  have HS2 := Lib.hid hs2
  have HY2 := Lib.hid hy2
  clear hi1 hz1 hs1 hy1 hi2 hz2 hs2 hy2
  obtain ⟨n, hnn⟩ : ∃ n, n = L.length := ⟨_, rfl⟩
  rw [← hnn] at hn hst h0 ⊢
  have HN := Lib.hid hnn
  have HX : ∀ k : Nat, rexK L (k + 1) = rexK L k ++ ([ringP L ((st L : Int) + k)] ++ rm L L.length k) := rexK_succ L
  have HXX := Lib.hid HX
  obtain ⟨s, hs⟩ : ∃ s, s = st L := ⟨_, rfl⟩
  rw [← hs] at hst
  have HST := Lib.hid hs
  clear h hnn hf HX hs
  go_enter Try.func93, Try.ntmps93
  go_wp2
  go_loop [3, 4] (fun f i => ∃ (k : Nat) (r : Int), k ≤ n ∧ i = .int .i64 (predI k) ∧ f = .int .i64 r ∧ Hid (FirstFrom L k r)) (fun _ i => (intOf i + 1).toNat)
  case atStart => exact ⟨n, -1, Nat.le_refl _, rfl, rfl, Lib.hid (.inl ⟨rfl, fun j p hj hp => by have := (List.getElem?_eq_some_iff.1 hp).1; have := HN.out; omega⟩)⟩
  case round =>
    obtain ⟨k, r, hk, rfl, rfl, HFF⟩ := hrel
    cases k with
    | succ k =>
      rw [predI_succ]
      obtain ⟨⟨x, y, z⟩, hp⟩ := at_some (L := L) (k := k) (by rw [← HN.out]; omega)
      obtain ⟨b, o, rfl, hbl, c0, c1, c2⟩ := lists_pt HE.out hp
      have g3 : b < w.heap.size := by omega
      simp only at c2
      clear c0 c1
      cases hz : (z == 1)
      · have HS := Lib.hid (HFF.out.off hp hz)
        clear hp
        go_wp2
        go_round
        case rel => exact ⟨k, r, by omega, rfl, rfl, HS⟩
        case measure => first | (simp [intOf]; done) | (simp [intOf]; omega)
      · have HS := Lib.hid (FirstFrom.on hp hz)
        clear hp
        go_wp2
        go_round
        case rel => exact ⟨k, (k : Int), by omega, rfl, rfl, HS⟩
        case measure => first | (simp [intOf]; done) | (simp [intOf]; omega)
    | zero =>
      rw [show predI 0 = -1 from rfl]
      have hr := HFF.out.zero
      clear HFF
      cases hOn : hasOn L
      · have e1 : r = -1 := by rw [hr]; unfold onI; rw [hOn]; rfl
        have HPR := Lib.hid (show [midP (ringP L ((L.length : Int) - 1)) (ringP L 0)] = preR L by unfold preR; rw [hOn]; rfl)
        have e2 : s = 0 := by rw [HST.out]; unfold st; rw [hOn]; rfl
        subst e1 e2
        clear hr hOn
        obtain ⟨n1, hn1⟩ : ∃ n1, n = n1 + 1 := ⟨n - 1, by omega⟩
        have e1 : IntKind.i64.wrap ((n : Int) - 1) = (n1 : Int) := by rw [show (n : Int) - 1 = n1 by omega]; exact IntWalk.i64_in _ (by omega)
        have e2 : n1 < n := by omega
        obtain ⟨p, hp⟩ := at_some (L := L) (k := n1) (by rw [← HN.out]; omega)
        obtain ⟨q, hq⟩ := at_some (L := L) (k := 0) (by rw [← HN.out]; omega)
        have hPn : ringP L ((L.length : Int) - 1) = p := by rw [show (L.length : Int) - 1 = (n1 : Nat) by rw [← HN.out]; omega]; exact ringP_nat hp
        have hQn : ringP L 0 = q := ringP_nat (k := 0) hq
        rw [hPn, hQn] at HPR
        obtain ⟨m1, m2⟩ := HF.out p (List.mem_of_getElem? hp)
        obtain ⟨m3, m4⟩ := HF.out q (List.mem_of_getElem? hq)
        obtain ⟨x, y, z⟩ := p
        obtain ⟨x', y', z'⟩ := q
        simp only at m1 m2 m3 m4
        have CM := fun w => rmid_any x y z x' y' z' w m1 m2 m3 m4
        obtain ⟨b, o, rfl, hbl, c0, c1, c2⟩ := lists_pt HE.out hp
        obtain ⟨b', o', e5, hbl', c3, c4, c5⟩ := lists_pt HE.out hq
        cases e5
        simp only at c0 c1 c2 c3 c4 c5
        rw [Nat.zero_mul, Nat.add_zero] at c3 c4 c5
        have HD : ∀ W, Below w.heap.size w W → (W.cell? ⟨b, o + n1 * 3, none⟩ = some (.int .i64 x) ∧ W.cell? ⟨b, o + n1 * 3 + 1, none⟩ = some (.int .i64 y) ∧ W.cell? ⟨b, o + n1 * 3 + 2, none⟩ = some (.int .i64 z) ∧ b < W.heap.size) ∧ W.cell? ⟨b, o, none⟩ = some (.int .i64 x') ∧ W.cell? ⟨b, o + 1, none⟩ = some (.int .i64 y') ∧ W.cell? ⟨b, o + 2, none⟩ = some (.int .i64 z') ∧ 0 < n := fun W hW =>
          ⟨⟨(hW.cell (p := ⟨b, o + n1 * 3, none⟩) (Nat.lt_of_lt_of_le hbl hB)).trans c0, (hW.cell (p := ⟨b, o + n1 * 3 + 1, none⟩) (Nat.lt_of_lt_of_le hbl hB)).trans c1, (hW.cell (p := ⟨b, o + n1 * 3 + 2, none⟩) (Nat.lt_of_lt_of_le hbl hB)).trans c2, by have := hW.size; omega⟩,
            (hW.cell (p := ⟨b, o, none⟩) (Nat.lt_of_lt_of_le hbl hB)).trans c3, (hW.cell (p := ⟨b, o + 1, none⟩) (Nat.lt_of_lt_of_le hbl hB)).trans c4, (hW.cell (p := ⟨b, o + 2, none⟩) (Nat.lt_of_lt_of_le hbl hB)).trans c5, h0⟩
        clear c0 c1 c2 c3 c4 c5 hp hq hPn hQn m1 m2 m3 m4 hn1
        go_wp2
        have hI : Below w.heap.size w w.drew := (Below.refl _ _).drew
        refine wp_region_chain (fun W => Below w.heap.size w W) [(0, false), (1, false), (2, false), (3, false), (4, false), (5, false), (6, false), (7, false), (8, false), (9, false), (10, true), (11, true), (12, true), (13, false)] (by kernel_rfl) (by kernel_rfl) hI ?_
        repeat (first
          | (refine ChainL.skip (o := ?_) ?_ ?_ ?_; rotate_left; (focus (first | (simp only [List.getElem?_toArray, List.getElem?_cons_succ, List.getElem?_cons_zero]; with_reducible rfl) | (simp only [List.getElem?_toArray, List.getElem?_cons_zero]; with_reducible rfl))); (focus rfl); simp only [Act.put, List.setIfInBounds_toArray, List.set_cons_zero, List.set_cons_succ])
          | (refine ChainL.val (o := ?_) (v := ?_) ?_ ?_ ?_ ?_ ?_; rotate_left 2; (focus (first | (simp only [List.getElem?_toArray, List.getElem?_cons_succ, List.getElem?_cons_zero]; with_reducible rfl) | (simp only [List.getElem?_toArray, List.getElem?_cons_zero]; with_reducible rfl))); (focus (intro _ _ h; cases h)); (focus rfl); (focus (intro w' hJ; obtain ⟨⟨y1, y2, y3, y4⟩, y5, y6, y7, y8⟩ := HD _ hJ; go_simp <;> with_reducible rfl)); simp only [Act.put, List.setIfInBounds_toArray, List.set_cons_zero, List.set_cons_succ]))
        refine ChainL.call (o := ?_) (f := ?_) (args := ?_) ?_ ?_ ?_ ?_
        rotate_left 3
        (focus (simp only [List.getElem?_toArray, List.getElem?_cons_succ, List.getElem?_cons_zero]; with_reducible rfl))
        (focus rfl)
        (focus (go_simp; (constructor <;> with_reducible rfl)))
        refine (CM _).mono ?_
        rintro e w5 ⟨rfl, b5⟩
        have b6 := hI.trans (b5.mono hI.size)
        have b6s := b6.size
        refine ⟨_, rfl, b6, ?_⟩
        simp only [Act.put, List.setIfInBounds_toArray, List.set_cons_zero, List.set_cons_succ]
        refine ChainL.does (o := ?_) (v := ?_) (w1 := ?_) ?_ ?_ ?_ ?_ ?_
        rotate_left 3
        (focus (simp only [List.getElem?_toArray, List.getElem?_cons_succ, List.getElem?_cons_zero]; with_reducible rfl))
        (focus rfl)
        (focus (go_simp; (constructor <;> with_reducible rfl)))
        exact b6.alloc b6.size _
        simp only [Act.put, List.setIfInBounds_toArray, List.set_cons_zero, List.set_cons_succ]
        refine ChainL.append (o := ?_) ?_ ?_ (.tmp 26) (.tmp 37) 56 ?_ w.heap.size 25 i1 (.agg #[.int .i64 0, .int .i64 0, .int .i64 0]) 3 24 Try.underlying56 HI1.out HZ1.out HS1.out HY1.out rfl (by decide) _ 0 [] ?_ (World.ownsRow_nil _ _ _ _) _ _ 1 1 (ptCells [((x + x') / 2, (y + y') / 2, 1)]) ?_ (lists_pt1 w5 ((x + x') / 2, (y + y') / 2, 1) _) rfl (ptCells_one _) (by simp only [maxLen]; omega) (by omega) (by simp; omega) ?_
        rotate_left 1
        (focus (simp only [List.getElem?_toArray, List.getElem?_cons_succ, List.getElem?_cons_zero]; with_reducible rfl))
        (focus rfl)
        (focus rfl)
        (focus rfl)
        (focus rfl)
        intro v1 w1 own1 hg1 hat1
        have b7 : Below w.heap.size w w1 := (b6.alloc b6.size _).grown hg1 (by simp; omega) (fun b hb => by cases hb)
        refine ⟨b7, ?_⟩
        simp only [Act.put, List.setIfInBounds_toArray, List.set_cons_zero, List.set_cons_succ]
        repeat (first
          | (refine ChainL.skip (o := ?_) ?_ ?_ ?_; rotate_left; (focus (first | (simp only [List.getElem?_toArray, List.getElem?_cons_succ, List.getElem?_cons_zero]; with_reducible rfl) | (simp only [List.getElem?_toArray, List.getElem?_cons_zero]; with_reducible rfl))); (focus rfl); simp only [Act.put, List.setIfInBounds_toArray, List.set_cons_zero, List.set_cons_succ])
          | (refine ChainL.val (o := ?_) (v := ?_) ?_ ?_ ?_ ?_ ?_; rotate_left 2; (focus (first | (simp only [List.getElem?_toArray, List.getElem?_cons_succ, List.getElem?_cons_zero]; with_reducible rfl) | (simp only [List.getElem?_toArray, List.getElem?_cons_zero]; with_reducible rfl))); (focus (intro _ _ h; cases h)); (focus rfl); (focus (intro w' hJ; skip; go_simp <;> with_reducible rfl)); simp only [Act.put, List.setIfInBounds_toArray, List.set_cons_zero, List.set_cons_succ]))
        refine ChainL.nil ?_
        obtain ⟨P, hP⟩ : ∃ P, P = [midP (x, y, z) (x', y', z')] := ⟨_, rfl⟩
        have own2 : w1.ownsRow w.heap.size 25 3 v1 P.length (ptCells P) := by rw [hP]; exact own1
        have hPl : P.length ≤ 1 := by rw [hP]; exact Nat.le_refl _
        rw [← hP] at HPR
        clear hP own1 HD CM hI b5 b6 b6s e1 e2
        go_wp2
        go_loopw [5, 6] (fun v i wr => ∃ k m : Nat, k ≤ n ∧ i = .int .i64 k ∧ m = (P ++ rexK L k).length ∧ wr.ownsRow w.heap.size 25 3 v m (ptCells (P ++ rexK L k)) ∧ Below w.heap.size w wr) (fun _ i _ => n - (intOf i).toNat)
        case atStart => exact ⟨0, P.length, Nat.zero_le _, rfl, by simp [rexK], by rw [show P ++ rexK L 0 = P by simp [rexK]]; exact own2, b7⟩
        case round =>
          clear own2 b7
          obtain ⟨k, m, hk, rfl, hm, hown, hb⟩ := hrel
          by_cases hlt : k < n
          · have d1 : decide ((k : Int) < (n : Int)) = true := by simp; omega
            have hbs := hb.size
            have C := fun (a : Int) (ha : -(n : Int) ≤ a) (ha2 : a ≤ 100000000) (w1 : World) (b1 : Below wr.heap.size wr w1) => rat_any B (some ⟨b, o, none⟩) c L a w1 (by have := b1.size; omega) (HE.out.below ((hb.trans (b1.mono hbs)).mono hB)) (by rw [← HN.out]; omega) (by rw [← HN.out]; omega) (by rw [← HN.out]; omega) ha2
            have C1 := C (k : Int) (by omega) (by omega) wr (Below.refl _ _)
            have C2 := C ((k : Int) + 1) (by omega) (by omega)
            obtain ⟨m1, m2⟩ := HF.out.ring (by rw [← HN.out]; omega) (k : Int)
            obtain ⟨m3, m4⟩ := HF.out.ring (by rw [← HN.out]; omega) ((k : Int) + 1)
            have hXS := HXX.out k
            unfold rm kd at hXS
            rw [← HST.out, ← HN.out, show ((0 : Nat) : Int) + (k : Int) = k by omega] at hXS
            have hml : m ≤ P.length + 2 * k := by rw [hm, List.length_append]; have := rexK_len L k; omega
            obtain ⟨⟨fx, fy, fz⟩, hf0⟩ := at_some (L := L) (k := 0) (by rw [← HN.out]; omega)
            obtain ⟨fb, fo, e9, hfb, f0, f1, f2⟩ := lists_pt HE.out hf0
            cases e9
            rw [Nat.zero_mul, Nat.add_zero] at f2
            have hrf := ringP_nat hf0
            simp only at f2
            clear f0 f1 hf0
            obtain ⟨v0, hv0⟩ : ∃ v0, v0 = u5 := ⟨_, rfl⟩
            rw [← HN.out] at C1 C2
            have HW := Lib.hid hown
            subst hv0
            rw [hrf] at hXS
            generalize ringP L (k : Int) = p at *
            generalize ringP L ((k : Int) + 1) = q at *
            obtain ⟨x, y, z⟩ := p
            obtain ⟨x', y', z'⟩ := q
            simp only [ptV] at C1 C2 hXS m1 m2 m3 m4
            have CM := fun w => rmid_any x y z x' y' z' w m1 m2 m3 m4
            clear C hown m1 m2 m3 m4 hrf
            have HM := Lib.hid hm
            clear hm
            cases t0 : (z == 2)
            · have hX2 : rexK L (k + 1) = rexK L k ++ [(x, y, z)] := by
                rw [hXS, if_neg (by simp [t0])]; rfl
              have HM1 := Lib.hid (show m + 1 = (P ++ rexK L (k + 1)).length by rw [hX2, ← List.append_assoc, List.length_append, ← HM.out]; rfl)
              have HP1 := Lib.hid (show ptCells (P ++ rexK L (k + 1)) = ptCells (P ++ rexK L k) ++ ptCells [(x, y, z)] by rw [hX2, ← List.append_assoc, ptCells_append])
              clear hXS hX2
              go_wp2_with (first | (go_at_call 72; ((with_reducible refine (C1).mono ?_); rintro e w1 ⟨rfl, b1⟩)) | (go_at_call 72; ((with_reducible refine (C2 _ b1).mono ?_); rintro e w2 ⟨rfl, b2⟩; have B2 := b1.trans (b2.mono b1.size); have B2s := B2.size; have B2a := (B2.alloc B2.size (.cells #[.int .i64 x, .int .i64 y, .int .i64 z] 25)).alloc (by simp; omega) (.cells #[.int .i64 x', .int .i64 y', .int .i64 z'] 25); have K7 := (Blk.new w2 25 #[.int .i64 x, .int .i64 y, .int .i64 z]).below ((Below.refl _ _).alloc (Nat.le_refl _) (.cells #[.int .i64 x', .int .i64 y', .int .i64 z'] 25)); have K8 := Blk.new (w2.alloc (.cells #[.int .i64 x, .int .i64 y, .int .i64 z] 25)) 25 #[.int .i64 x', .int .i64 y', .int .i64 z'])) | (at_builtin; refine wpList_append_src _ rfl (.tmp 56) (.tmp 58) 56 rfl w.heap.size 25 i1 (.agg #[.int .i64 0, .int .i64 0, .int .i64 0]) 3 24 Try.underlying56 HI1.out HZ1.out HS1.out HY1.out rfl (by decide) _ m (ptCells (P ++ rexK L k)) rfl (own_stay HW.out (B2a.alloc B2a.size _)) _ _ 1 1 (ptCells [(x, y, z)]) rfl (lists_ptk _ (x, y, z) _ _ (by simp)) rfl (ptCells_one _) (by simp only [maxLen]; omega) (by omega) (by simp; omega) ?_; intro v4 w4 own4 hg4 _; have B4 : Below w.heap.size w w4 := ((hb.trans (B2a.mono hbs)).alloc (by simp; omega) _).grown hg4 (by simp; omega) (fun j hj => (HW.out.lt j hj).1); have K7' := (K7.below ((Below.refl _ _).alloc (Nat.le_refl _) (.cells #[.int .i64 x, .int .i64 y, .int .i64 z] 25))).only ((Only.refl _ (blk v0)).grown hg4 (fun b hb => .inl (by have hb' : v0.ownBlock = some b := hb; simp [blk, hb']))) (fun hm => by have := blk_lt HW.out _ hm; (try simp at this); omega); have qa0 := K7'.cell 0; have qa1 := K7'.cell 1; have qa2 := K7'.cell 2; have qa3 := K7'.lt; (try simp only [World.size_alloc] at qa0 qa1 qa2 qa3); simp only [List.getElem?_toArray, List.getElem?_cons_zero, List.getElem?_cons_succ] at qa0 qa1 qa2; have K8' := (K8.below ((Below.refl _ _).alloc (Nat.le_refl _) (.cells #[.int .i64 x, .int .i64 y, .int .i64 z] 25))).only ((Only.refl _ (blk v0)).grown hg4 (fun b hb => .inl (by have hb' : v0.ownBlock = some b := hb; simp [blk, hb']))) (fun hm => by have := blk_lt HW.out _ hm; (try simp at this); omega); have qb0 := K8'.cell 0; have qb1 := K8'.cell 1; have qb2 := K8'.cell 2; have qb3 := K8'.lt; (try simp only [World.size_alloc] at qb0 qb1 qb2 qb3); simp only [List.getElem?_toArray, List.getElem?_cons_zero, List.getElem?_cons_succ] at qb0 qb1 qb2; have qf := (B4.cell (p := ⟨b, o + 2, none⟩) (Nat.lt_of_lt_of_le hfb hB)).trans f2; have qfb : b < w4.heap.size := by have := B4.size; omega))
              go_roundw
              case rel => exact ⟨k + 1, m + 1, by omega, by go_num, HM1.out, by rw [HP1.out]; exact own4, B4⟩
              case measure => simp [intOf]; omega
            · cases t1 : (z' == 2)
              · have hX2 : rexK L (k + 1) = rexK L k ++ [(x, y, z)] := by
                  rw [hXS, if_neg (by simp [t1])]; rfl
                have HM1 := Lib.hid (show m + 1 = (P ++ rexK L (k + 1)).length by rw [hX2, ← List.append_assoc, List.length_append, ← HM.out]; rfl)
                have HP1 := Lib.hid (show ptCells (P ++ rexK L (k + 1)) = ptCells (P ++ rexK L k) ++ ptCells [(x, y, z)] by rw [hX2, ← List.append_assoc, ptCells_append])
                clear hXS hX2
                go_wp2_with (first | (go_at_call 72; ((with_reducible refine (C1).mono ?_); rintro e w1 ⟨rfl, b1⟩)) | (go_at_call 72; ((with_reducible refine (C2 _ b1).mono ?_); rintro e w2 ⟨rfl, b2⟩; have B2 := b1.trans (b2.mono b1.size); have B2s := B2.size; have B2a := (B2.alloc B2.size (.cells #[.int .i64 x, .int .i64 y, .int .i64 z] 25)).alloc (by simp; omega) (.cells #[.int .i64 x', .int .i64 y', .int .i64 z'] 25); have K7 := (Blk.new w2 25 #[.int .i64 x, .int .i64 y, .int .i64 z]).below ((Below.refl _ _).alloc (Nat.le_refl _) (.cells #[.int .i64 x', .int .i64 y', .int .i64 z'] 25)); have K8 := Blk.new (w2.alloc (.cells #[.int .i64 x, .int .i64 y, .int .i64 z] 25)) 25 #[.int .i64 x', .int .i64 y', .int .i64 z'])) | (at_builtin; refine wpList_append_src _ rfl (.tmp 56) (.tmp 58) 56 rfl w.heap.size 25 i1 (.agg #[.int .i64 0, .int .i64 0, .int .i64 0]) 3 24 Try.underlying56 HI1.out HZ1.out HS1.out HY1.out rfl (by decide) _ m (ptCells (P ++ rexK L k)) rfl (own_stay HW.out (B2a.alloc B2a.size _)) _ _ 1 1 (ptCells [(x, y, z)]) rfl (lists_ptk _ (x, y, z) _ _ (by simp)) rfl (ptCells_one _) (by simp only [maxLen]; omega) (by omega) (by simp; omega) ?_; intro v4 w4 own4 hg4 _; have B4 : Below w.heap.size w w4 := ((hb.trans (B2a.mono hbs)).alloc (by simp; omega) _).grown hg4 (by simp; omega) (fun j hj => (HW.out.lt j hj).1); have K7' := (K7.below ((Below.refl _ _).alloc (Nat.le_refl _) (.cells #[.int .i64 x, .int .i64 y, .int .i64 z] 25))).only ((Only.refl _ (blk v0)).grown hg4 (fun b hb => .inl (by have hb' : v0.ownBlock = some b := hb; simp [blk, hb']))) (fun hm => by have := blk_lt HW.out _ hm; (try simp at this); omega); have qa0 := K7'.cell 0; have qa1 := K7'.cell 1; have qa2 := K7'.cell 2; have qa3 := K7'.lt; (try simp only [World.size_alloc] at qa0 qa1 qa2 qa3); simp only [List.getElem?_toArray, List.getElem?_cons_zero, List.getElem?_cons_succ] at qa0 qa1 qa2; have K8' := (K8.below ((Below.refl _ _).alloc (Nat.le_refl _) (.cells #[.int .i64 x, .int .i64 y, .int .i64 z] 25))).only ((Only.refl _ (blk v0)).grown hg4 (fun b hb => .inl (by have hb' : v0.ownBlock = some b := hb; simp [blk, hb']))) (fun hm => by have := blk_lt HW.out _ hm; (try simp at this); omega); have qb0 := K8'.cell 0; have qb1 := K8'.cell 1; have qb2 := K8'.cell 2; have qb3 := K8'.lt; (try simp only [World.size_alloc] at qb0 qb1 qb2 qb3); simp only [List.getElem?_toArray, List.getElem?_cons_zero, List.getElem?_cons_succ] at qb0 qb1 qb2; have qf := (B4.cell (p := ⟨b, o + 2, none⟩) (Nat.lt_of_lt_of_le hfb hB)).trans f2; have qfb : b < w4.heap.size := by have := B4.size; omega))
                go_roundw
                case rel => exact ⟨k + 1, m + 1, by omega, by go_num, HM1.out, by rw [HP1.out]; exact own4, B4⟩
                case measure => simp [intOf]; omega
              · by_cases hlast : k + 1 = n
                · have t2 : ((k : Int) == (n : Int) - 1) = true := by simp; omega
                  cases t3 : (fz == 2)
                  · have hX2 : rexK L (k + 1) = rexK L k ++ [(x, y, z), ((x + x') / 2, (y + y') / 2, 1)] := by
                      rw [hXS, if_pos (by simp [t0, t1, t3])]; rfl
                    have HM1 := Lib.hid (show m + 2 = (P ++ rexK L (k + 1)).length by rw [hX2, ← List.append_assoc, List.length_append, ← HM.out]; rfl)
                    have HP1 := Lib.hid (show ptCells (P ++ rexK L (k + 1)) = ptCells (P ++ rexK L k) ++ (ptCells [(x, y, z)] ++ ptCells [((x + x') / 2, (y + y') / 2, 1)]) by rw [hX2, ← List.append_assoc, ptCells_append]; rfl)
                    clear hXS hX2
                    go_wp2_with (first | (go_at_call 72; ((with_reducible refine (C1).mono ?_); rintro e w1 ⟨rfl, b1⟩)) | (go_at_call 72; ((with_reducible refine (C2 _ b1).mono ?_); rintro e w2 ⟨rfl, b2⟩; have B2 := b1.trans (b2.mono b1.size); have B2s := B2.size; have B2a := (B2.alloc B2.size (.cells #[.int .i64 x, .int .i64 y, .int .i64 z] 25)).alloc (by simp; omega) (.cells #[.int .i64 x', .int .i64 y', .int .i64 z'] 25); have K7 := (Blk.new w2 25 #[.int .i64 x, .int .i64 y, .int .i64 z]).below ((Below.refl _ _).alloc (Nat.le_refl _) (.cells #[.int .i64 x', .int .i64 y', .int .i64 z'] 25)); have K8 := Blk.new (w2.alloc (.cells #[.int .i64 x, .int .i64 y, .int .i64 z] 25)) 25 #[.int .i64 x', .int .i64 y', .int .i64 z'])) | (at_builtin; refine wpList_append_src _ rfl (.tmp 56) (.tmp 58) 56 rfl w.heap.size 25 i1 (.agg #[.int .i64 0, .int .i64 0, .int .i64 0]) 3 24 Try.underlying56 HI1.out HZ1.out HS1.out HY1.out rfl (by decide) _ m (ptCells (P ++ rexK L k)) rfl (own_stay HW.out (B2a.alloc B2a.size _)) _ _ 1 1 (ptCells [(x, y, z)]) rfl (lists_ptk _ (x, y, z) _ _ (by simp)) rfl (ptCells_one _) (by simp only [maxLen]; omega) (by omega) (by simp; omega) ?_; intro v4 w4 own4 hg4 _; have B4 : Below w.heap.size w w4 := ((hb.trans (B2a.mono hbs)).alloc (by simp; omega) _).grown hg4 (by simp; omega) (fun j hj => (HW.out.lt j hj).1); have K7' := (K7.below ((Below.refl _ _).alloc (Nat.le_refl _) (.cells #[.int .i64 x, .int .i64 y, .int .i64 z] 25))).only ((Only.refl _ (blk v0)).grown hg4 (fun b hb => .inl (by have hb' : v0.ownBlock = some b := hb; simp [blk, hb']))) (fun hm => by have := blk_lt HW.out _ hm; (try simp at this); omega); have qa0 := K7'.cell 0; have qa1 := K7'.cell 1; have qa2 := K7'.cell 2; have qa3 := K7'.lt; (try simp only [World.size_alloc] at qa0 qa1 qa2 qa3); simp only [List.getElem?_toArray, List.getElem?_cons_zero, List.getElem?_cons_succ] at qa0 qa1 qa2; have K8' := (K8.below ((Below.refl _ _).alloc (Nat.le_refl _) (.cells #[.int .i64 x, .int .i64 y, .int .i64 z] 25))).only ((Only.refl _ (blk v0)).grown hg4 (fun b hb => .inl (by have hb' : v0.ownBlock = some b := hb; simp [blk, hb']))) (fun hm => by have := blk_lt HW.out _ hm; (try simp at this); omega); have qb0 := K8'.cell 0; have qb1 := K8'.cell 1; have qb2 := K8'.cell 2; have qb3 := K8'.lt; (try simp only [World.size_alloc] at qb0 qb1 qb2 qb3); simp only [List.getElem?_toArray, List.getElem?_cons_zero, List.getElem?_cons_succ] at qb0 qb1 qb2; have qf := (B4.cell (p := ⟨b, o + 2, none⟩) (Nat.lt_of_lt_of_le hfb hB)).trans f2; have qfb : b < w4.heap.size := by have := B4.size; omega) | (go_at_call 104; ((with_reducible refine (CM _).mono ?_); rintro e w5 ⟨rfl, b5⟩)) | (at_builtin; refine wpList_append_src _ rfl (.tmp 85) (.tmp 89) 56 rfl w.heap.size 25 i1 (.agg #[.int .i64 0, .int .i64 0, .int .i64 0]) 3 24 Try.underlying56 HI1.out HZ1.out HS1.out HY1.out rfl (by decide) _ (m + 1) (ptCells (P ++ rexK L k) ++ ptCells [(x, y, z)]) rfl (own_stay (own_stay own4 b5) ((Below.refl _ _).alloc (Nat.le_refl _) _)) _ _ 1 1 (ptCells [((x + x') / 2, (y + y') / 2, 1)]) rfl (lists_ptk w5 ((x + x') / 2, (y + y') / 2, 1) _ _ (by simp)) rfl (ptCells_one _) (by simp only [maxLen]; omega) (by omega) (by have := B4.size; have := b5.size; simp; omega) ?_; intro v6 w6 own6 hg6 _))
                    go_roundw
                    case rel => exact ⟨k + 1, m + 2, by omega, by go_num, HM1.out, by rw [HP1.out, ← List.append_assoc]; exact own6, ((B4.trans (b5.mono B4.size)).alloc (by have := B4.size; have := b5.size; omega) _).grown hg6 (by have := B4.size; have := b5.size; simp; omega) (fun j hj => (own4.lt j hj).1)⟩
                    case measure => simp [intOf]; omega
                  · have hX2 : rexK L (k + 1) = rexK L k ++ [(x, y, z)] := by
                      rw [hXS, if_neg (by simp [hlast, t3])]; rfl
                    have HM1 := Lib.hid (show m + 1 = (P ++ rexK L (k + 1)).length by rw [hX2, ← List.append_assoc, List.length_append, ← HM.out]; rfl)
                    have HP1 := Lib.hid (show ptCells (P ++ rexK L (k + 1)) = ptCells (P ++ rexK L k) ++ ptCells [(x, y, z)] by rw [hX2, ← List.append_assoc, ptCells_append])
                    clear hXS hX2
                    go_wp2_with (first | (go_at_call 72; ((with_reducible refine (C1).mono ?_); rintro e w1 ⟨rfl, b1⟩)) | (go_at_call 72; ((with_reducible refine (C2 _ b1).mono ?_); rintro e w2 ⟨rfl, b2⟩; have B2 := b1.trans (b2.mono b1.size); have B2s := B2.size; have B2a := (B2.alloc B2.size (.cells #[.int .i64 x, .int .i64 y, .int .i64 z] 25)).alloc (by simp; omega) (.cells #[.int .i64 x', .int .i64 y', .int .i64 z'] 25); have K7 := (Blk.new w2 25 #[.int .i64 x, .int .i64 y, .int .i64 z]).below ((Below.refl _ _).alloc (Nat.le_refl _) (.cells #[.int .i64 x', .int .i64 y', .int .i64 z'] 25)); have K8 := Blk.new (w2.alloc (.cells #[.int .i64 x, .int .i64 y, .int .i64 z] 25)) 25 #[.int .i64 x', .int .i64 y', .int .i64 z'])) | (at_builtin; refine wpList_append_src _ rfl (.tmp 56) (.tmp 58) 56 rfl w.heap.size 25 i1 (.agg #[.int .i64 0, .int .i64 0, .int .i64 0]) 3 24 Try.underlying56 HI1.out HZ1.out HS1.out HY1.out rfl (by decide) _ m (ptCells (P ++ rexK L k)) rfl (own_stay HW.out (B2a.alloc B2a.size _)) _ _ 1 1 (ptCells [(x, y, z)]) rfl (lists_ptk _ (x, y, z) _ _ (by simp)) rfl (ptCells_one _) (by simp only [maxLen]; omega) (by omega) (by simp; omega) ?_; intro v4 w4 own4 hg4 _; have B4 : Below w.heap.size w w4 := ((hb.trans (B2a.mono hbs)).alloc (by simp; omega) _).grown hg4 (by simp; omega) (fun j hj => (HW.out.lt j hj).1); have K7' := (K7.below ((Below.refl _ _).alloc (Nat.le_refl _) (.cells #[.int .i64 x, .int .i64 y, .int .i64 z] 25))).only ((Only.refl _ (blk v0)).grown hg4 (fun b hb => .inl (by have hb' : v0.ownBlock = some b := hb; simp [blk, hb']))) (fun hm => by have := blk_lt HW.out _ hm; (try simp at this); omega); have qa0 := K7'.cell 0; have qa1 := K7'.cell 1; have qa2 := K7'.cell 2; have qa3 := K7'.lt; (try simp only [World.size_alloc] at qa0 qa1 qa2 qa3); simp only [List.getElem?_toArray, List.getElem?_cons_zero, List.getElem?_cons_succ] at qa0 qa1 qa2; have K8' := (K8.below ((Below.refl _ _).alloc (Nat.le_refl _) (.cells #[.int .i64 x, .int .i64 y, .int .i64 z] 25))).only ((Only.refl _ (blk v0)).grown hg4 (fun b hb => .inl (by have hb' : v0.ownBlock = some b := hb; simp [blk, hb']))) (fun hm => by have := blk_lt HW.out _ hm; (try simp at this); omega); have qb0 := K8'.cell 0; have qb1 := K8'.cell 1; have qb2 := K8'.cell 2; have qb3 := K8'.lt; (try simp only [World.size_alloc] at qb0 qb1 qb2 qb3); simp only [List.getElem?_toArray, List.getElem?_cons_zero, List.getElem?_cons_succ] at qb0 qb1 qb2; have qf := (B4.cell (p := ⟨b, o + 2, none⟩) (Nat.lt_of_lt_of_le hfb hB)).trans f2; have qfb : b < w4.heap.size := by have := B4.size; omega))
                    go_roundw
                    case rel => exact ⟨k + 1, m + 1, by omega, by go_num, HM1.out, by rw [HP1.out]; exact own4, B4⟩
                    case measure => simp [intOf]; omega
                · have t2 : ((k : Int) == (n : Int) - 1) = false := by simp; omega
                  have hX2 : rexK L (k + 1) = rexK L k ++ [(x, y, z), ((x + x') / 2, (y + y') / 2, 1)] := by
                    rw [hXS, if_pos (by simp [t0, t1, hlast])]; rfl
                  have HM1 := Lib.hid (show m + 2 = (P ++ rexK L (k + 1)).length by rw [hX2, ← List.append_assoc, List.length_append, ← HM.out]; rfl)
                  have HP1 := Lib.hid (show ptCells (P ++ rexK L (k + 1)) = ptCells (P ++ rexK L k) ++ (ptCells [(x, y, z)] ++ ptCells [((x + x') / 2, (y + y') / 2, 1)]) by rw [hX2, ← List.append_assoc, ptCells_append]; rfl)
                  clear hXS hX2
                  go_wp2_with (first | (go_at_call 72; ((with_reducible refine (C1).mono ?_); rintro e w1 ⟨rfl, b1⟩)) | (go_at_call 72; ((with_reducible refine (C2 _ b1).mono ?_); rintro e w2 ⟨rfl, b2⟩; have B2 := b1.trans (b2.mono b1.size); have B2s := B2.size; have B2a := (B2.alloc B2.size (.cells #[.int .i64 x, .int .i64 y, .int .i64 z] 25)).alloc (by simp; omega) (.cells #[.int .i64 x', .int .i64 y', .int .i64 z'] 25); have K7 := (Blk.new w2 25 #[.int .i64 x, .int .i64 y, .int .i64 z]).below ((Below.refl _ _).alloc (Nat.le_refl _) (.cells #[.int .i64 x', .int .i64 y', .int .i64 z'] 25)); have K8 := Blk.new (w2.alloc (.cells #[.int .i64 x, .int .i64 y, .int .i64 z] 25)) 25 #[.int .i64 x', .int .i64 y', .int .i64 z'])) | (at_builtin; refine wpList_append_src _ rfl (.tmp 56) (.tmp 58) 56 rfl w.heap.size 25 i1 (.agg #[.int .i64 0, .int .i64 0, .int .i64 0]) 3 24 Try.underlying56 HI1.out HZ1.out HS1.out HY1.out rfl (by decide) _ m (ptCells (P ++ rexK L k)) rfl (own_stay HW.out (B2a.alloc B2a.size _)) _ _ 1 1 (ptCells [(x, y, z)]) rfl (lists_ptk _ (x, y, z) _ _ (by simp)) rfl (ptCells_one _) (by simp only [maxLen]; omega) (by omega) (by simp; omega) ?_; intro v4 w4 own4 hg4 _; have B4 : Below w.heap.size w w4 := ((hb.trans (B2a.mono hbs)).alloc (by simp; omega) _).grown hg4 (by simp; omega) (fun j hj => (HW.out.lt j hj).1); have K7' := (K7.below ((Below.refl _ _).alloc (Nat.le_refl _) (.cells #[.int .i64 x, .int .i64 y, .int .i64 z] 25))).only ((Only.refl _ (blk v0)).grown hg4 (fun b hb => .inl (by have hb' : v0.ownBlock = some b := hb; simp [blk, hb']))) (fun hm => by have := blk_lt HW.out _ hm; (try simp at this); omega); have qa0 := K7'.cell 0; have qa1 := K7'.cell 1; have qa2 := K7'.cell 2; have qa3 := K7'.lt; (try simp only [World.size_alloc] at qa0 qa1 qa2 qa3); simp only [List.getElem?_toArray, List.getElem?_cons_zero, List.getElem?_cons_succ] at qa0 qa1 qa2; have K8' := (K8.below ((Below.refl _ _).alloc (Nat.le_refl _) (.cells #[.int .i64 x, .int .i64 y, .int .i64 z] 25))).only ((Only.refl _ (blk v0)).grown hg4 (fun b hb => .inl (by have hb' : v0.ownBlock = some b := hb; simp [blk, hb']))) (fun hm => by have := blk_lt HW.out _ hm; (try simp at this); omega); have qb0 := K8'.cell 0; have qb1 := K8'.cell 1; have qb2 := K8'.cell 2; have qb3 := K8'.lt; (try simp only [World.size_alloc] at qb0 qb1 qb2 qb3); simp only [List.getElem?_toArray, List.getElem?_cons_zero, List.getElem?_cons_succ] at qb0 qb1 qb2; have qf := (B4.cell (p := ⟨b, o + 2, none⟩) (Nat.lt_of_lt_of_le hfb hB)).trans f2; have qfb : b < w4.heap.size := by have := B4.size; omega) | (go_at_call 104; ((with_reducible refine (CM _).mono ?_); rintro e w5 ⟨rfl, b5⟩)) | (at_builtin; refine wpList_append_src _ rfl (.tmp 85) (.tmp 89) 56 rfl w.heap.size 25 i1 (.agg #[.int .i64 0, .int .i64 0, .int .i64 0]) 3 24 Try.underlying56 HI1.out HZ1.out HS1.out HY1.out rfl (by decide) _ (m + 1) (ptCells (P ++ rexK L k) ++ ptCells [(x, y, z)]) rfl (own_stay (own_stay own4 b5) ((Below.refl _ _).alloc (Nat.le_refl _) _)) _ _ 1 1 (ptCells [((x + x') / 2, (y + y') / 2, 1)]) rfl (lists_ptk w5 ((x + x') / 2, (y + y') / 2, 1) _ _ (by simp)) rfl (ptCells_one _) (by simp only [maxLen]; omega) (by omega) (by have := B4.size; have := b5.size; simp; omega) ?_; intro v6 w6 own6 hg6 _))
                  go_roundw
                  case rel => exact ⟨k + 1, m + 2, by omega, by go_num, HM1.out, by rw [HP1.out, ← List.append_assoc]; exact own6, ((B4.trans (b5.mono B4.size)).alloc (by have := B4.size; have := b5.size; omega) _).grown hg6 (by have := B4.size; have := b5.size; simp; omega) (fun j hj => (own4.lt j hj).1)⟩
                  case measure => simp [intOf]; omega
          · obtain rfl : k = n := by omega
            have d1 : decide ((k : Int) < (k : Int)) = false := by simp
            have HT := Lib.hid (show P ++ rexK L k = rexE L by rw [HPR.out]; unfold rexE; rw [HN.out])
            go_wp2
            go_ret
            exact ⟨_, rfl, by rw [← HT.out, ← hm]; exact hown, hb⟩
      · have e1 : r = (s : Int) := by rw [hr, HST.out]; unfold onI st; rw [hOn]; rfl
        have HPR := Lib.hid (show [] = preR L by unfold preR; rw [hOn]; rfl)
        subst e1
        clear hr hOn
        obtain ⟨P, hP⟩ : ∃ P : List Pt, P = [] := ⟨_, rfl⟩
        have hPl : P.length ≤ 1 := by rw [hP]; exact Nat.zero_le _
        have own2 : w.ownsRow w.heap.size 25 3 (.slice none 0 0) P.length (ptCells P) := by rw [hP]; exact World.ownsRow_nil _ _ _ _
        rw [← hP] at HPR
        clear hP
        go_wp2
        go_loopw [5, 6] (fun v i wr => ∃ k m : Nat, k ≤ n ∧ i = .int .i64 k ∧ m = (P ++ rexK L k).length ∧ wr.ownsRow w.heap.size 25 3 v m (ptCells (P ++ rexK L k)) ∧ Below w.heap.size w wr) (fun _ i _ => n - (intOf i).toNat)
        case atStart => exact ⟨0, P.length, Nat.zero_le _, rfl, by simp [rexK], by rw [show P ++ rexK L 0 = P by simp [rexK]]; exact own2, Below.refl _ _⟩
        case round =>
          clear own2
          obtain ⟨k, m, hk, rfl, hm, hown, hb⟩ := hrel
          by_cases hlt : k < n
          · have d1 : decide ((k : Int) < (n : Int)) = true := by simp; omega
            have hbs := hb.size
            have C := fun (a : Int) (ha : -(n : Int) ≤ a) (ha2 : a ≤ 100000000) (w1 : World) (b1 : Below wr.heap.size wr w1) => rat_any B A c L a w1 (by have := b1.size; omega) (HE.out.below ((hb.trans (b1.mono hbs)).mono hB)) (by rw [← HN.out]; omega) (by rw [← HN.out]; omega) (by rw [← HN.out]; omega) ha2
            have C1 := C ((s : Int) + k) (by omega) (by omega) wr (Below.refl _ _)
            have C2 := C ((s : Int) + k + 1) (by omega) (by omega)
            obtain ⟨m1, m2⟩ := HF.out.ring (by rw [← HN.out]; omega) ((s : Int) + k)
            obtain ⟨m3, m4⟩ := HF.out.ring (by rw [← HN.out]; omega) ((s : Int) + k + 1)
            have hXS := HXX.out k
            unfold rm kd at hXS
            rw [← HST.out, ← HN.out] at hXS
            have hml : m ≤ P.length + 2 * k := by rw [hm, List.length_append]; have := rexK_len L k; omega
            obtain ⟨⟨fx, fy, fz⟩, hf0⟩ := at_some (L := L) (k := s) (by rw [← HN.out]; omega)
            obtain ⟨fb, fo, rfl, hfb, f0, f1, f2⟩ := lists_pt HE.out hf0
            have hrf := ringP_nat hf0
            simp only at f2
            clear f0 f1 hf0
            obtain ⟨v0, hv0⟩ : ∃ v0, v0 = u5 := ⟨_, rfl⟩
            rw [← HN.out] at C1 C2
            have HW := Lib.hid hown
            subst hv0
            rw [hrf] at hXS
            generalize ringP L ((s : Int) + k) = p at *
            generalize ringP L ((s : Int) + k + 1) = q at *
            obtain ⟨x, y, z⟩ := p
            obtain ⟨x', y', z'⟩ := q
            simp only [ptV] at C1 C2 hXS m1 m2 m3 m4
            have CM := fun w => rmid_any x y z x' y' z' w m1 m2 m3 m4
            clear C hown m1 m2 m3 m4 hrf
            have HM := Lib.hid hm
            clear hm
            cases t0 : (z == 2)
            · have hX2 : rexK L (k + 1) = rexK L k ++ [(x, y, z)] := by
                rw [hXS, if_neg (by simp [t0])]; rfl
              have HM1 := Lib.hid (show m + 1 = (P ++ rexK L (k + 1)).length by rw [hX2, ← List.append_assoc, List.length_append, ← HM.out]; rfl)
              have HP1 := Lib.hid (show ptCells (P ++ rexK L (k + 1)) = ptCells (P ++ rexK L k) ++ ptCells [(x, y, z)] by rw [hX2, ← List.append_assoc, ptCells_append])
              clear hXS hX2
              go_wp2_with (first | (go_at_call 72; ((with_reducible refine (C1).mono ?_); rintro e w1 ⟨rfl, b1⟩)) | (go_at_call 72; ((with_reducible refine (C2 _ b1).mono ?_); rintro e w2 ⟨rfl, b2⟩; have B2 := b1.trans (b2.mono b1.size); have B2s := B2.size; have B2a := (B2.alloc B2.size (.cells #[.int .i64 x, .int .i64 y, .int .i64 z] 25)).alloc (by simp; omega) (.cells #[.int .i64 x', .int .i64 y', .int .i64 z'] 25); have K7 := (Blk.new w2 25 #[.int .i64 x, .int .i64 y, .int .i64 z]).below ((Below.refl _ _).alloc (Nat.le_refl _) (.cells #[.int .i64 x', .int .i64 y', .int .i64 z'] 25)); have K8 := Blk.new (w2.alloc (.cells #[.int .i64 x, .int .i64 y, .int .i64 z] 25)) 25 #[.int .i64 x', .int .i64 y', .int .i64 z'])) | (at_builtin; refine wpList_append_src _ rfl (.tmp 56) (.tmp 58) 56 rfl w.heap.size 25 i1 (.agg #[.int .i64 0, .int .i64 0, .int .i64 0]) 3 24 Try.underlying56 HI1.out HZ1.out HS1.out HY1.out rfl (by decide) _ m (ptCells (P ++ rexK L k)) rfl (own_stay HW.out (B2a.alloc B2a.size _)) _ _ 1 1 (ptCells [(x, y, z)]) rfl (lists_ptk _ (x, y, z) _ _ (by simp)) rfl (ptCells_one _) (by simp only [maxLen]; omega) (by omega) (by simp; omega) ?_; intro v4 w4 own4 hg4 _; have B4 : Below w.heap.size w w4 := ((hb.trans (B2a.mono hbs)).alloc (by simp; omega) _).grown hg4 (by simp; omega) (fun j hj => (HW.out.lt j hj).1); have K7' := (K7.below ((Below.refl _ _).alloc (Nat.le_refl _) (.cells #[.int .i64 x, .int .i64 y, .int .i64 z] 25))).only ((Only.refl _ (blk v0)).grown hg4 (fun b hb => .inl (by have hb' : v0.ownBlock = some b := hb; simp [blk, hb']))) (fun hm => by have := blk_lt HW.out _ hm; (try simp at this); omega); have qa0 := K7'.cell 0; have qa1 := K7'.cell 1; have qa2 := K7'.cell 2; have qa3 := K7'.lt; (try simp only [World.size_alloc] at qa0 qa1 qa2 qa3); simp only [List.getElem?_toArray, List.getElem?_cons_zero, List.getElem?_cons_succ] at qa0 qa1 qa2; have K8' := (K8.below ((Below.refl _ _).alloc (Nat.le_refl _) (.cells #[.int .i64 x, .int .i64 y, .int .i64 z] 25))).only ((Only.refl _ (blk v0)).grown hg4 (fun b hb => .inl (by have hb' : v0.ownBlock = some b := hb; simp [blk, hb']))) (fun hm => by have := blk_lt HW.out _ hm; (try simp at this); omega); have qb0 := K8'.cell 0; have qb1 := K8'.cell 1; have qb2 := K8'.cell 2; have qb3 := K8'.lt; (try simp only [World.size_alloc] at qb0 qb1 qb2 qb3); simp only [List.getElem?_toArray, List.getElem?_cons_zero, List.getElem?_cons_succ] at qb0 qb1 qb2; have qf := (B4.cell (p := ⟨fb, fo + s * 3 + 2, none⟩) (Nat.lt_of_lt_of_le hfb hB)).trans f2; have qfb : fb < w4.heap.size := by have := B4.size; omega))
              go_roundw
              case rel => exact ⟨k + 1, m + 1, by omega, by go_num, HM1.out, by rw [HP1.out]; exact own4, B4⟩
              case measure => simp [intOf]; omega
            · cases t1 : (z' == 2)
              · have hX2 : rexK L (k + 1) = rexK L k ++ [(x, y, z)] := by
                  rw [hXS, if_neg (by simp [t1])]; rfl
                have HM1 := Lib.hid (show m + 1 = (P ++ rexK L (k + 1)).length by rw [hX2, ← List.append_assoc, List.length_append, ← HM.out]; rfl)
                have HP1 := Lib.hid (show ptCells (P ++ rexK L (k + 1)) = ptCells (P ++ rexK L k) ++ ptCells [(x, y, z)] by rw [hX2, ← List.append_assoc, ptCells_append])
                clear hXS hX2
                go_wp2_with (first | (go_at_call 72; ((with_reducible refine (C1).mono ?_); rintro e w1 ⟨rfl, b1⟩)) | (go_at_call 72; ((with_reducible refine (C2 _ b1).mono ?_); rintro e w2 ⟨rfl, b2⟩; have B2 := b1.trans (b2.mono b1.size); have B2s := B2.size; have B2a := (B2.alloc B2.size (.cells #[.int .i64 x, .int .i64 y, .int .i64 z] 25)).alloc (by simp; omega) (.cells #[.int .i64 x', .int .i64 y', .int .i64 z'] 25); have K7 := (Blk.new w2 25 #[.int .i64 x, .int .i64 y, .int .i64 z]).below ((Below.refl _ _).alloc (Nat.le_refl _) (.cells #[.int .i64 x', .int .i64 y', .int .i64 z'] 25)); have K8 := Blk.new (w2.alloc (.cells #[.int .i64 x, .int .i64 y, .int .i64 z] 25)) 25 #[.int .i64 x', .int .i64 y', .int .i64 z'])) | (at_builtin; refine wpList_append_src _ rfl (.tmp 56) (.tmp 58) 56 rfl w.heap.size 25 i1 (.agg #[.int .i64 0, .int .i64 0, .int .i64 0]) 3 24 Try.underlying56 HI1.out HZ1.out HS1.out HY1.out rfl (by decide) _ m (ptCells (P ++ rexK L k)) rfl (own_stay HW.out (B2a.alloc B2a.size _)) _ _ 1 1 (ptCells [(x, y, z)]) rfl (lists_ptk _ (x, y, z) _ _ (by simp)) rfl (ptCells_one _) (by simp only [maxLen]; omega) (by omega) (by simp; omega) ?_; intro v4 w4 own4 hg4 _; have B4 : Below w.heap.size w w4 := ((hb.trans (B2a.mono hbs)).alloc (by simp; omega) _).grown hg4 (by simp; omega) (fun j hj => (HW.out.lt j hj).1); have K7' := (K7.below ((Below.refl _ _).alloc (Nat.le_refl _) (.cells #[.int .i64 x, .int .i64 y, .int .i64 z] 25))).only ((Only.refl _ (blk v0)).grown hg4 (fun b hb => .inl (by have hb' : v0.ownBlock = some b := hb; simp [blk, hb']))) (fun hm => by have := blk_lt HW.out _ hm; (try simp at this); omega); have qa0 := K7'.cell 0; have qa1 := K7'.cell 1; have qa2 := K7'.cell 2; have qa3 := K7'.lt; (try simp only [World.size_alloc] at qa0 qa1 qa2 qa3); simp only [List.getElem?_toArray, List.getElem?_cons_zero, List.getElem?_cons_succ] at qa0 qa1 qa2; have K8' := (K8.below ((Below.refl _ _).alloc (Nat.le_refl _) (.cells #[.int .i64 x, .int .i64 y, .int .i64 z] 25))).only ((Only.refl _ (blk v0)).grown hg4 (fun b hb => .inl (by have hb' : v0.ownBlock = some b := hb; simp [blk, hb']))) (fun hm => by have := blk_lt HW.out _ hm; (try simp at this); omega); have qb0 := K8'.cell 0; have qb1 := K8'.cell 1; have qb2 := K8'.cell 2; have qb3 := K8'.lt; (try simp only [World.size_alloc] at qb0 qb1 qb2 qb3); simp only [List.getElem?_toArray, List.getElem?_cons_zero, List.getElem?_cons_succ] at qb0 qb1 qb2; have qf := (B4.cell (p := ⟨fb, fo + s * 3 + 2, none⟩) (Nat.lt_of_lt_of_le hfb hB)).trans f2; have qfb : fb < w4.heap.size := by have := B4.size; omega))
                go_roundw
                case rel => exact ⟨k + 1, m + 1, by omega, by go_num, HM1.out, by rw [HP1.out]; exact own4, B4⟩
                case measure => simp [intOf]; omega
              · by_cases hlast : k + 1 = n
                · have t2 : ((k : Int) == (n : Int) - 1) = true := by simp; omega
                  cases t3 : (fz == 2)
                  · have hX2 : rexK L (k + 1) = rexK L k ++ [(x, y, z), ((x + x') / 2, (y + y') / 2, 1)] := by
                      rw [hXS, if_pos (by simp [t0, t1, t3])]; rfl
                    have HM1 := Lib.hid (show m + 2 = (P ++ rexK L (k + 1)).length by rw [hX2, ← List.append_assoc, List.length_append, ← HM.out]; rfl)
                    have HP1 := Lib.hid (show ptCells (P ++ rexK L (k + 1)) = ptCells (P ++ rexK L k) ++ (ptCells [(x, y, z)] ++ ptCells [((x + x') / 2, (y + y') / 2, 1)]) by rw [hX2, ← List.append_assoc, ptCells_append]; rfl)
                    clear hXS hX2
                    go_wp2_with (first | (go_at_call 72; ((with_reducible refine (C1).mono ?_); rintro e w1 ⟨rfl, b1⟩)) | (go_at_call 72; ((with_reducible refine (C2 _ b1).mono ?_); rintro e w2 ⟨rfl, b2⟩; have B2 := b1.trans (b2.mono b1.size); have B2s := B2.size; have B2a := (B2.alloc B2.size (.cells #[.int .i64 x, .int .i64 y, .int .i64 z] 25)).alloc (by simp; omega) (.cells #[.int .i64 x', .int .i64 y', .int .i64 z'] 25); have K7 := (Blk.new w2 25 #[.int .i64 x, .int .i64 y, .int .i64 z]).below ((Below.refl _ _).alloc (Nat.le_refl _) (.cells #[.int .i64 x', .int .i64 y', .int .i64 z'] 25)); have K8 := Blk.new (w2.alloc (.cells #[.int .i64 x, .int .i64 y, .int .i64 z] 25)) 25 #[.int .i64 x', .int .i64 y', .int .i64 z'])) | (at_builtin; refine wpList_append_src _ rfl (.tmp 56) (.tmp 58) 56 rfl w.heap.size 25 i1 (.agg #[.int .i64 0, .int .i64 0, .int .i64 0]) 3 24 Try.underlying56 HI1.out HZ1.out HS1.out HY1.out rfl (by decide) _ m (ptCells (P ++ rexK L k)) rfl (own_stay HW.out (B2a.alloc B2a.size _)) _ _ 1 1 (ptCells [(x, y, z)]) rfl (lists_ptk _ (x, y, z) _ _ (by simp)) rfl (ptCells_one _) (by simp only [maxLen]; omega) (by omega) (by simp; omega) ?_; intro v4 w4 own4 hg4 _; have B4 : Below w.heap.size w w4 := ((hb.trans (B2a.mono hbs)).alloc (by simp; omega) _).grown hg4 (by simp; omega) (fun j hj => (HW.out.lt j hj).1); have K7' := (K7.below ((Below.refl _ _).alloc (Nat.le_refl _) (.cells #[.int .i64 x, .int .i64 y, .int .i64 z] 25))).only ((Only.refl _ (blk v0)).grown hg4 (fun b hb => .inl (by have hb' : v0.ownBlock = some b := hb; simp [blk, hb']))) (fun hm => by have := blk_lt HW.out _ hm; (try simp at this); omega); have qa0 := K7'.cell 0; have qa1 := K7'.cell 1; have qa2 := K7'.cell 2; have qa3 := K7'.lt; (try simp only [World.size_alloc] at qa0 qa1 qa2 qa3); simp only [List.getElem?_toArray, List.getElem?_cons_zero, List.getElem?_cons_succ] at qa0 qa1 qa2; have K8' := (K8.below ((Below.refl _ _).alloc (Nat.le_refl _) (.cells #[.int .i64 x, .int .i64 y, .int .i64 z] 25))).only ((Only.refl _ (blk v0)).grown hg4 (fun b hb => .inl (by have hb' : v0.ownBlock = some b := hb; simp [blk, hb']))) (fun hm => by have := blk_lt HW.out _ hm; (try simp at this); omega); have qb0 := K8'.cell 0; have qb1 := K8'.cell 1; have qb2 := K8'.cell 2; have qb3 := K8'.lt; (try simp only [World.size_alloc] at qb0 qb1 qb2 qb3); simp only [List.getElem?_toArray, List.getElem?_cons_zero, List.getElem?_cons_succ] at qb0 qb1 qb2; have qf := (B4.cell (p := ⟨fb, fo + s * 3 + 2, none⟩) (Nat.lt_of_lt_of_le hfb hB)).trans f2; have qfb : fb < w4.heap.size := by have := B4.size; omega) | (go_at_call 104; ((with_reducible refine (CM _).mono ?_); rintro e w5 ⟨rfl, b5⟩)) | (at_builtin; refine wpList_append_src _ rfl (.tmp 85) (.tmp 89) 56 rfl w.heap.size 25 i1 (.agg #[.int .i64 0, .int .i64 0, .int .i64 0]) 3 24 Try.underlying56 HI1.out HZ1.out HS1.out HY1.out rfl (by decide) _ (m + 1) (ptCells (P ++ rexK L k) ++ ptCells [(x, y, z)]) rfl (own_stay (own_stay own4 b5) ((Below.refl _ _).alloc (Nat.le_refl _) _)) _ _ 1 1 (ptCells [((x + x') / 2, (y + y') / 2, 1)]) rfl (lists_ptk w5 ((x + x') / 2, (y + y') / 2, 1) _ _ (by simp)) rfl (ptCells_one _) (by simp only [maxLen]; omega) (by omega) (by have := B4.size; have := b5.size; simp; omega) ?_; intro v6 w6 own6 hg6 _))
                    go_roundw
                    case rel => exact ⟨k + 1, m + 2, by omega, by go_num, HM1.out, by rw [HP1.out, ← List.append_assoc]; exact own6, ((B4.trans (b5.mono B4.size)).alloc (by have := B4.size; have := b5.size; omega) _).grown hg6 (by have := B4.size; have := b5.size; simp; omega) (fun j hj => (own4.lt j hj).1)⟩
                    case measure => simp [intOf]; omega
                  · have hX2 : rexK L (k + 1) = rexK L k ++ [(x, y, z)] := by
                      rw [hXS, if_neg (by simp [hlast, t3])]; rfl
                    have HM1 := Lib.hid (show m + 1 = (P ++ rexK L (k + 1)).length by rw [hX2, ← List.append_assoc, List.length_append, ← HM.out]; rfl)
                    have HP1 := Lib.hid (show ptCells (P ++ rexK L (k + 1)) = ptCells (P ++ rexK L k) ++ ptCells [(x, y, z)] by rw [hX2, ← List.append_assoc, ptCells_append])
                    clear hXS hX2
                    go_wp2_with (first | (go_at_call 72; ((with_reducible refine (C1).mono ?_); rintro e w1 ⟨rfl, b1⟩)) | (go_at_call 72; ((with_reducible refine (C2 _ b1).mono ?_); rintro e w2 ⟨rfl, b2⟩; have B2 := b1.trans (b2.mono b1.size); have B2s := B2.size; have B2a := (B2.alloc B2.size (.cells #[.int .i64 x, .int .i64 y, .int .i64 z] 25)).alloc (by simp; omega) (.cells #[.int .i64 x', .int .i64 y', .int .i64 z'] 25); have K7 := (Blk.new w2 25 #[.int .i64 x, .int .i64 y, .int .i64 z]).below ((Below.refl _ _).alloc (Nat.le_refl _) (.cells #[.int .i64 x', .int .i64 y', .int .i64 z'] 25)); have K8 := Blk.new (w2.alloc (.cells #[.int .i64 x, .int .i64 y, .int .i64 z] 25)) 25 #[.int .i64 x', .int .i64 y', .int .i64 z'])) | (at_builtin; refine wpList_append_src _ rfl (.tmp 56) (.tmp 58) 56 rfl w.heap.size 25 i1 (.agg #[.int .i64 0, .int .i64 0, .int .i64 0]) 3 24 Try.underlying56 HI1.out HZ1.out HS1.out HY1.out rfl (by decide) _ m (ptCells (P ++ rexK L k)) rfl (own_stay HW.out (B2a.alloc B2a.size _)) _ _ 1 1 (ptCells [(x, y, z)]) rfl (lists_ptk _ (x, y, z) _ _ (by simp)) rfl (ptCells_one _) (by simp only [maxLen]; omega) (by omega) (by simp; omega) ?_; intro v4 w4 own4 hg4 _; have B4 : Below w.heap.size w w4 := ((hb.trans (B2a.mono hbs)).alloc (by simp; omega) _).grown hg4 (by simp; omega) (fun j hj => (HW.out.lt j hj).1); have K7' := (K7.below ((Below.refl _ _).alloc (Nat.le_refl _) (.cells #[.int .i64 x, .int .i64 y, .int .i64 z] 25))).only ((Only.refl _ (blk v0)).grown hg4 (fun b hb => .inl (by have hb' : v0.ownBlock = some b := hb; simp [blk, hb']))) (fun hm => by have := blk_lt HW.out _ hm; (try simp at this); omega); have qa0 := K7'.cell 0; have qa1 := K7'.cell 1; have qa2 := K7'.cell 2; have qa3 := K7'.lt; (try simp only [World.size_alloc] at qa0 qa1 qa2 qa3); simp only [List.getElem?_toArray, List.getElem?_cons_zero, List.getElem?_cons_succ] at qa0 qa1 qa2; have K8' := (K8.below ((Below.refl _ _).alloc (Nat.le_refl _) (.cells #[.int .i64 x, .int .i64 y, .int .i64 z] 25))).only ((Only.refl _ (blk v0)).grown hg4 (fun b hb => .inl (by have hb' : v0.ownBlock = some b := hb; simp [blk, hb']))) (fun hm => by have := blk_lt HW.out _ hm; (try simp at this); omega); have qb0 := K8'.cell 0; have qb1 := K8'.cell 1; have qb2 := K8'.cell 2; have qb3 := K8'.lt; (try simp only [World.size_alloc] at qb0 qb1 qb2 qb3); simp only [List.getElem?_toArray, List.getElem?_cons_zero, List.getElem?_cons_succ] at qb0 qb1 qb2; have qf := (B4.cell (p := ⟨fb, fo + s * 3 + 2, none⟩) (Nat.lt_of_lt_of_le hfb hB)).trans f2; have qfb : fb < w4.heap.size := by have := B4.size; omega))
                    go_roundw
                    case rel => exact ⟨k + 1, m + 1, by omega, by go_num, HM1.out, by rw [HP1.out]; exact own4, B4⟩
                    case measure => simp [intOf]; omega
                · have t2 : ((k : Int) == (n : Int) - 1) = false := by simp; omega
                  have hX2 : rexK L (k + 1) = rexK L k ++ [(x, y, z), ((x + x') / 2, (y + y') / 2, 1)] := by
                    rw [hXS, if_pos (by simp [t0, t1, hlast])]; rfl
                  have HM1 := Lib.hid (show m + 2 = (P ++ rexK L (k + 1)).length by rw [hX2, ← List.append_assoc, List.length_append, ← HM.out]; rfl)
                  have HP1 := Lib.hid (show ptCells (P ++ rexK L (k + 1)) = ptCells (P ++ rexK L k) ++ (ptCells [(x, y, z)] ++ ptCells [((x + x') / 2, (y + y') / 2, 1)]) by rw [hX2, ← List.append_assoc, ptCells_append]; rfl)
                  clear hXS hX2
                  go_wp2_with (first | (go_at_call 72; ((with_reducible refine (C1).mono ?_); rintro e w1 ⟨rfl, b1⟩)) | (go_at_call 72; ((with_reducible refine (C2 _ b1).mono ?_); rintro e w2 ⟨rfl, b2⟩; have B2 := b1.trans (b2.mono b1.size); have B2s := B2.size; have B2a := (B2.alloc B2.size (.cells #[.int .i64 x, .int .i64 y, .int .i64 z] 25)).alloc (by simp; omega) (.cells #[.int .i64 x', .int .i64 y', .int .i64 z'] 25); have K7 := (Blk.new w2 25 #[.int .i64 x, .int .i64 y, .int .i64 z]).below ((Below.refl _ _).alloc (Nat.le_refl _) (.cells #[.int .i64 x', .int .i64 y', .int .i64 z'] 25)); have K8 := Blk.new (w2.alloc (.cells #[.int .i64 x, .int .i64 y, .int .i64 z] 25)) 25 #[.int .i64 x', .int .i64 y', .int .i64 z'])) | (at_builtin; refine wpList_append_src _ rfl (.tmp 56) (.tmp 58) 56 rfl w.heap.size 25 i1 (.agg #[.int .i64 0, .int .i64 0, .int .i64 0]) 3 24 Try.underlying56 HI1.out HZ1.out HS1.out HY1.out rfl (by decide) _ m (ptCells (P ++ rexK L k)) rfl (own_stay HW.out (B2a.alloc B2a.size _)) _ _ 1 1 (ptCells [(x, y, z)]) rfl (lists_ptk _ (x, y, z) _ _ (by simp)) rfl (ptCells_one _) (by simp only [maxLen]; omega) (by omega) (by simp; omega) ?_; intro v4 w4 own4 hg4 _; have B4 : Below w.heap.size w w4 := ((hb.trans (B2a.mono hbs)).alloc (by simp; omega) _).grown hg4 (by simp; omega) (fun j hj => (HW.out.lt j hj).1); have K7' := (K7.below ((Below.refl _ _).alloc (Nat.le_refl _) (.cells #[.int .i64 x, .int .i64 y, .int .i64 z] 25))).only ((Only.refl _ (blk v0)).grown hg4 (fun b hb => .inl (by have hb' : v0.ownBlock = some b := hb; simp [blk, hb']))) (fun hm => by have := blk_lt HW.out _ hm; (try simp at this); omega); have qa0 := K7'.cell 0; have qa1 := K7'.cell 1; have qa2 := K7'.cell 2; have qa3 := K7'.lt; (try simp only [World.size_alloc] at qa0 qa1 qa2 qa3); simp only [List.getElem?_toArray, List.getElem?_cons_zero, List.getElem?_cons_succ] at qa0 qa1 qa2; have K8' := (K8.below ((Below.refl _ _).alloc (Nat.le_refl _) (.cells #[.int .i64 x, .int .i64 y, .int .i64 z] 25))).only ((Only.refl _ (blk v0)).grown hg4 (fun b hb => .inl (by have hb' : v0.ownBlock = some b := hb; simp [blk, hb']))) (fun hm => by have := blk_lt HW.out _ hm; (try simp at this); omega); have qb0 := K8'.cell 0; have qb1 := K8'.cell 1; have qb2 := K8'.cell 2; have qb3 := K8'.lt; (try simp only [World.size_alloc] at qb0 qb1 qb2 qb3); simp only [List.getElem?_toArray, List.getElem?_cons_zero, List.getElem?_cons_succ] at qb0 qb1 qb2; have qf := (B4.cell (p := ⟨fb, fo + s * 3 + 2, none⟩) (Nat.lt_of_lt_of_le hfb hB)).trans f2; have qfb : fb < w4.heap.size := by have := B4.size; omega) | (go_at_call 104; ((with_reducible refine (CM _).mono ?_); rintro e w5 ⟨rfl, b5⟩)) | (at_builtin; refine wpList_append_src _ rfl (.tmp 85) (.tmp 89) 56 rfl w.heap.size 25 i1 (.agg #[.int .i64 0, .int .i64 0, .int .i64 0]) 3 24 Try.underlying56 HI1.out HZ1.out HS1.out HY1.out rfl (by decide) _ (m + 1) (ptCells (P ++ rexK L k) ++ ptCells [(x, y, z)]) rfl (own_stay (own_stay own4 b5) ((Below.refl _ _).alloc (Nat.le_refl _) _)) _ _ 1 1 (ptCells [((x + x') / 2, (y + y') / 2, 1)]) rfl (lists_ptk w5 ((x + x') / 2, (y + y') / 2, 1) _ _ (by simp)) rfl (ptCells_one _) (by simp only [maxLen]; omega) (by omega) (by have := B4.size; have := b5.size; simp; omega) ?_; intro v6 w6 own6 hg6 _))
                  go_roundw
                  case rel => exact ⟨k + 1, m + 2, by omega, by go_num, HM1.out, by rw [HP1.out, ← List.append_assoc]; exact own6, ((B4.trans (b5.mono B4.size)).alloc (by have := B4.size; have := b5.size; omega) _).grown hg6 (by have := B4.size; have := b5.size; simp; omega) (fun j hj => (own4.lt j hj).1)⟩
                  case measure => simp [intOf]; omega
          · obtain rfl : k = n := by omega
            have d1 : decide ((k : Int) < (k : Int)) = false := by simp
            have HT := Lib.hid (show P ++ rexK L k = rexE L by rw [HPR.out]; unfold rexE; rw [HN.out])
            go_wp2
            go_ret
            exact ⟨_, rfl, by rw [← HT.out, ← hm]; exact hown, hb⟩

end Go.Proofs.Ytlacjifnniahhaa
