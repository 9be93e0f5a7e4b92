/- Part 9 of the proof: OuA, OuS, OuL. -/
import Derived.Test.YtmmdnhfonifhdaaM7OutlineCurves

namespace Go.Proofs.Ytmmdnhfonifhdaa
open Go Go.RowKit

theorem one_apply (x y : Int) (h : (mayB x && mayB y) = true) (w : World) :
    Calls Try.prog 65 #[.agg #[.int .i64 16384, .int .i64 0, .int .i64 0, .int .i64 16384], .int .i64 x, .int .i64 y] w fun e w' => e = .returned (.tuple #[.int .i64 x, .int .i64 y, .int .i64 0]) ∧ Below w.heap.size w w' := by
  have hh := h
  rw [Bool.and_eq_true] at h
  have e1 : apX 16384 0 x y = x := near_pos (by omega) (by omega) (by omega)
  have e2 : apX 0 16384 x y = y := near_pos (by omega) (by omega) (by omega)
  have e3 : apE 16384 0 0 16384 x y = 0 := by
    unfold apE
    rw [show fitM 16384 0 0 16384 = true from rfl, if_pos rfl, if_pos hh, e1, e2, h.1, h.2]; rfl
  have A := apply_any 16384 0 0 16384 x y w
  unfold apU apV at A
  rwa [e3, if_pos rfl, if_pos rfl, e1, e2] at A
theorem add_in (a b : Int) (w : World) (h1 : mayB a = true) (h2 : mayB b = true) (h3 : mayB (a + b) = true) : Calls Try.prog 66 #[.int .i64 a, .int .i64 b] w fun e w' => e = .returned (.tuple #[.int .i64 (a + b), .int .i64 0]) ∧ Below w.heap.size w w' := by
  have := add_yes a b w (by rw [h1, h2]; rfl)
  unfold outR outE at this
  rw [h3] at this
  exact this

set_option maxRecDepth 100000 in
theorem move_any (x y z dx dy : Int) (w : World) (h1 : mayB x = true) (h2 : mayB y = true) (h3 : mayB dx = true) (h4 : mayB dy = true) (h5 : mayB (x + dx) = true) (h6 : mayB (y + dy) = true) :
    Calls Try.prog 46 #[.agg #[.int .i64 x, .int .i64 y, .int .i64 z], .agg #[.int .i64 16384, .int .i64 0, .int .i64 0, .int .i64 16384], .int .i64 dx, .int .i64 dy] w fun e w' => e = .returned (.tuple #[.agg #[.int .i64 (x + dx), .int .i64 (y + dy), .int .i64 z], .int .i64 0]) ∧ Below w.heap.size w w' := by
  have C1 := one_apply x y (by rw [h1, h2]; rfl)
  have C2 := fun w => add_in x dx w h1 h3 h5
  have C3 := fun w => add_in y dy w h2 h4 h6
  have C4 := fun (w1 : World) => or2_any w1.heap.size 2 0 0 (w1.alloc (.cells #[.int .i64 0, .int .i64 0] 25)) (lists_new2 w1 _ _ _ 0 _ rfl) (lists_new2 w1 _ _ _ 1 _ rfl) 0 rfl
  clear h1 h2 h3 h4 h5 h6
  go_enter Try.func46, Try.ntmps46
  go_wp2_with (first
    | (go_at_call 65; ((with_reducible refine (C1 _).mono ?_); rintro e w1 ⟨rfl, b1⟩))
    | (go_at_call 66; ((with_reducible refine (C2 _).mono ?_); rintro e w2 ⟨rfl, b2⟩; have b12 := b1.trans (b2.mono b1.size)))
    | (go_at_call 66; ((with_reducible refine (C3 _).mono ?_); rintro e w3 ⟨rfl, b3⟩; have b13 := b12.trans (b3.mono b12.size); have kp := (((Blk.new w 43 #[.int .i64 x, .int .i64 y, .int .i64 z]).below ((Below.refl _ _).alloc (Nat.le_refl _) (.cells #[.int .i64 16384, .int .i64 0, .int .i64 0, .int .i64 16384] 52))).below ((Below.refl _ _).alloc (Nat.le_refl _) (.cells #[.int .i64 0, .int .i64 0, .int .i64 0] 43))).below b13; have p2 := kp.cell 2; have p3 := kp.lt; have kr := (Blk.new ((w.alloc (.cells #[.int .i64 x, .int .i64 y, .int .i64 z] 43)).alloc (.cells #[.int .i64 16384, .int .i64 0, .int .i64 0, .int .i64 16384] 52)) 43 #[.int .i64 0, .int .i64 0, .int .i64 0]).below b13; have r0 := kr.cell 0; have r1 := kr.cell 1; have r2 := kr.cell 2; have r3 := kr.lt; have r4 := fun j => kr.frozen j; simp only [World.size_alloc, List.getElem?_toArray, List.getElem?_cons_zero, List.getElem?_cons_succ] at p2 p3 r0 r1 r2 r3 r4))
    | (go_at_call 38; ((with_reducible refine (C4 _).mono ?_); rintro e w4 ⟨rfl, rfl⟩)))
  refine bodyPost_ret (v := .tuple #[.agg #[.int .i64 (x + dx), .int .i64 (y + dy), .int .i64 z], .int .i64 0]) (by simp [results, Try.results46, go_sem, r0, r1, r2, r3]) rfl ⟨rfl, ?_⟩
  exact ((((((below_a3 w _ _ _).trans (b13.mono (by simp; omega))).setCell (by simp; omega) _).setCell (by simp; omega) _).setCell (by simp; omega) _).alloc (by simp; omega) _)
theorem own_setCell {w : World} {base g n cap size : Nat} {e : TypeId} {xs : List Value} (h : w.ownsRow base e size (.slice (some ⟨g, 0, none⟩) n cap) n xs) (o : Nat) (v : Value) : (w.setCell ⟨g, o, none⟩ v).ownsRow base e size (.slice (some ⟨g, 0, none⟩) n cap) n (xs.set o v) := by
  obtain ⟨cur, h1, h2, h3, h4, h5, h6⟩ := own_block h
  have hb : Blk (w.setCell ⟨g, o, none⟩ v) g e (cur.setIfInBounds o v) := Blk.set (show Blk w g e cur from h2) o v
  exact ⟨by rw [List.length_set]; exact h.1, .inr ⟨g, cap, _, rfl, h1, hb, h3, h4, by simpa using h5, by rw [Array.toList_setIfInBounds, List.take_set, h6]⟩⟩
theorem ptCells_set : ∀ (L : List Pt) (j : Nat) (p : Pt), (((ptCells L).set (j * 3) (.int .i64 p.1)).set (j * 3 + 1) (.int .i64 p.2.1)).set (j * 3 + 2) (.int .i64 p.2.2) = ptCells (L.set j p)
  | [], j, p => by simp [ptCells]
  | q :: r, 0, p => by simp [ptCells]
  | q :: r, j + 1, p => by
    have := ptCells_set r j p
    rw [show (j + 1) * 3 = j * 3 + 3 by omega]
    simp only [ptCells, List.set_cons_succ, this]
theorem own_setPt {w : World} {base g cap : Nat} {L : List Pt} {j n : Nat} (h : w.ownsRow base 43 3 (.slice (some ⟨g, 0, none⟩) n cap) n (ptCells L)) (p : Pt) :
    (((w.setCell ⟨g, j * 3, none⟩ (.int .i64 p.1)).setCell ⟨g, j * 3 + 1, none⟩ (.int .i64 p.2.1)).setCell ⟨g, j * 3 + 2, none⟩ (.int .i64 p.2.2)).ownsRow base 43 3 (.slice (some ⟨g, 0, none⟩) n cap) n (ptCells (L.set j p)) := by
  rw [← ptCells_set]
  exact own_setCell (own_setCell (own_setCell h _ _) _ _) _ _

theorem inner_set {w w1 : World} {base i n : Nat} {v r : Value} {Ls : List (List Pt)} {L' : List Pt} {rows : List Value} (ho : w.ownsRow base 48 1 v n rows) (hi : Inner w base Ls rows)
    (hr : rows[i]? = some r) {L : List Pt} (hL : Ls[i]? = some L) (o : Only w w1 (blk r)) (hr1 : w1.ownsRow base 43 3 r L'.length (ptCells L')) : w1.ownsRow base 48 1 v n rows ∧ Inner w1 base (Ls.set i L') rows := by
  obtain ⟨q, hq, hqo⟩ := hi.1 i L hL
  rw [hr] at hq; cases hq
  refine ⟨own_only ho o (fun b h1 h2 => own_own ho hqo (by decide) b h1 h2), fun j M hM => ?_, hi.2⟩
  by_cases hij : j = i
  · subst hij
    have hlt : j < Ls.length := (List.getElem?_eq_some_iff.1 hL).1
    rw [List.getElem?_set_self hlt] at hM
    cases hM
    exact ⟨r, hr, hr1⟩
  · rw [List.getElem?_set_ne (Ne.symm hij)] at hM
    obtain ⟨s, h1, h2⟩ := hi.1 j M hM
    exact ⟨s, h1, own_only h2 o (hi.2 j i s r hij h1 hr)⟩
def mvP (dx dy : Int) (p : Pt) : Pt := (p.1 + dx, p.2.1 + dy, p.2.2)
def Moves (dx dy : Int) (L : List Pt) : Prop := ∀ p ∈ L, mayB p.1 = true ∧ mayB p.2.1 = true ∧ mayB (p.1 + dx) = true ∧ mayB (p.2.1 + dy) = true
set_option maxRecDepth 100000 in
set_option maxHeartbeats 4000000 in
theorem apply1_any (B : Nat) (A : Option Addr) (c : Nat) (Ls : List (List Pt)) (dx dy : Int) (w : World) (hB : B ≤ w.heap.size) (h : OutAt w B A Ls) (hs : Sm Ls) (hc : chkE Ls = 0) (h3 : mayB dx = true) (h4 : mayB dy = true) (hmv : ∀ L ∈ Ls, Moves dx dy L) :
    Calls Try.prog 26 #[.slice A Ls.length c, .agg #[.int .i64 16384, .int .i64 0, .int .i64 0, .int .i64 16384], .int .i64 dx, .int .i64 dy] w fun e w' => ∃ v, e = .returned (.tuple #[v, .int .i64 0]) ∧ Own2 w' w.heap.size v (Ls.map fun L => L.map (mvP dx dy)) ∧ Below w.heap.size w w' := by
  have C1 := check_any B A c Ls (w.alloc (.cells #[.int .i64 16384, .int .i64 0, .int .i64 0, .int .i64 16384] 52)) (by simp; omega) (h.below ((Below.refl _ _).alloc hB _)) hs
  rw [hc] at C1
  have C2 := fun w => mayM_any 16384 0 0 16384 w
  rw [show fitM 16384 0 0 16384 = true from rfl] at C2
  have C3 := fun w => may_is dx true h3 w
  have C4 := fun w => may_is dy true h4 w
  have C5 : ∀ (w1 : World), Below w.heap.size w w1 → ∀ (k : Nat), k = w1.heap.size → Calls Try.prog 39 #[.slice (some ⟨k, 0, none⟩) 1 1] (w1.alloc (.cells #[.slice A Ls.length c] 22)) (MadeOut (w1.alloc (.cells #[.slice A Ls.length c] 22)) Ls) := by
    intro w1 b1 k hk
    subst hk
    have := copied_any (w1.alloc (.cells #[.slice A Ls.length c] 22)).heap.size w1.heap.size 1 [Ls] (w1.alloc (.cells #[.slice A Ls.length c] 22)) (Nat.le_refl _) (by simp)
      (outs_one ((h.below (b1.mono hB)).more (Nat.le_trans hB b1.size)) _) ⟨by simp, fun Ls' h => by simp at h; subst h; exact hs⟩
    simpa only [List.length_cons, List.length_nil, List.flatten_cons, List.flatten_nil, List.append_nil, Nat.zero_add, Nat.reduceAdd] using this
  have hn := hs.1
  have HM := Lib.hid hs.2
  have HMV := Lib.hid hmv
  have H3 := Lib.hid h3
  have H4 := Lib.hid h4
  obtain ⟨n, hnn⟩ : ∃ n, n = Ls.length := ⟨_, rfl⟩
  rw [← hnn] at hn C1 C5 ⊢
  have HN := Lib.hid hnn
  clear h hs hnn hc h3 h4 hmv
  go_enter Try.func26, Try.ntmps26
  go_wp2_with (first
    | (go_at_call 12; ((with_reducible refine (C1).mono ?_); rintro e w1 ⟨rfl, b1⟩; have K1 := (Blk.new w 52 #[.int .i64 16384, .int .i64 0, .int .i64 0, .int .i64 16384]).below b1; have q0 := K1.cell 0; have q1 := K1.cell 1; have q2 := K1.cell 2; have q3 := K1.cell 3; have q4 := K1.lt; simp only [List.getElem?_toArray, List.getElem?_cons_zero, List.getElem?_cons_succ] at q0 q1 q2 q3))
    | (go_at_call 44; ((with_reducible refine (C2 _).mono ?_); rintro e w2 ⟨rfl, b2⟩; have K2 := K1.below b2; have B2 := ((below_a1 w _).trans (b1.mono (by simp))).trans (b2.mono (Nat.le_trans (Nat.le_of_lt q4) (Nat.le_refl _)))))
    | (go_at_call 45; ((with_reducible refine (C3 _).mono ?_); rintro e w3 ⟨rfl, rfl⟩))
    | (go_at_call 45; ((with_reducible refine (C4 _).mono ?_); rintro e w3 ⟨rfl, rfl⟩))
    | (go_at_call 39; ((with_reducible refine (C5 _ B2 _ (by simp)).mono ?_); rintro e w5 ⟨v5, rfl, own5, b5⟩; have B5 := (B2.alloc B2.size (.cells #[.slice A n c] 22)).trans (b5.mono (by have := B2.size; simp; omega)); have K5 := (K2.below ((Below.refl _ _).alloc (Nat.le_refl _) (.cells #[.slice A n c] 22))).below b5; have own5 := own5.mono (show w.heap.size ≤ _ by have := B2.size; simp; omega); obtain ⟨A5, c5, rfl, o5⟩ := own5.out)))
  rw [← HN.out]
  have HO5 := Lib.hid own5
  clear own5 o5 b5 b1 b2 B2 K1 K2 q0 q1 q2 q3 q4 C1 C2 C3 C4 C5
  go_loopw [39] (fun i wr => ∃ k : Nat, k ≤ n ∧ i = .int .i64 k ∧ Own2 wr w.heap.size (.slice A5 n c5) ((Ls.take k).map (fun L => L.map (mvP dx dy)) ++ Ls.drop k) ∧ Blk wr w.heap.size 52 #[.int .i64 16384, .int .i64 0, .int .i64 0, .int .i64 16384] ∧ Below w.heap.size w wr) (fun i _ => n - (intOf i).toNat)
  case atStart => exact ⟨0, Nat.zero_le _, rfl, by have := HO5.out; rw [← HN.out] at this; simpa using this, K5, B5⟩
  case round =>
    clear B5 K5 HO5
    obtain ⟨k, hk, rfl, hO, hK, hb⟩ := hrel
    by_cases hlt : k < n
    · have d1 : decide ((k : Int) < (n : Int)) = true := by simp; omega
      obtain ⟨L, hL⟩ := at_some (L := Ls) (k := k) (by rw [← HN.out]; exact hlt)
      have hl : L.length ≤ 100000 := HM.out L (List.mem_of_getElem? hL)
      have HV := Lib.hid (HMV.out L (List.mem_of_getElem? hL))
      obtain ⟨rows, ho, hi⟩ := hO
      have hlenX : ((Ls.take k).map (fun L => L.map (mvP dx dy)) ++ Ls.drop k).length = n := by simp; rw [← HN.out]; omega
      have hlenM : ((Ls.take k).map (fun L => L.map (mvP dx dy))).length = k := by simp; rw [← HN.out]; omega
      have hML : ((Ls.take k).map (fun L => L.map (mvP dx dy)) ++ Ls.drop k)[k]? = some L := by
        rw [List.getElem?_append_right (by omega), hlenM, Nat.sub_self, List.getElem?_drop, Nat.add_zero]; exact hL
      have HS := Lib.hid (show ((Ls.take k).map (fun L => L.map (mvP dx dy)) ++ Ls.drop k).set k (L.map (mvP dx dy)) = (Ls.take (k + 1)).map (fun L => L.map (mvP dx dy)) ++ Ls.drop (k + 1) by
        rw [List.set_append_right _ _ (by omega), hlenM, Nat.sub_self, take_snoc1 hL, List.map_append, List.append_assoc]
        congr 1
        rw [List.drop_eq_getElem_cons (by rw [← HN.out]; exact hlt)]
        rfl)
      rw [hlenX] at ho
      have HX1 := Lib.hid (show (((Ls.take k).map (fun L => L.map (mvP dx dy)) ++ Ls.drop k).set k L) = ((Ls.take k).map (fun L => L.map (mvP dx dy)) ++ Ls.drop k) by
        apply List.ext_getElem?
        intro i
        by_cases e : i = k
        · subst e; rw [List.getElem?_set_self (by omega), hML]
        · rw [List.getElem?_set_ne (Ne.symm e)])
      generalize (Ls.take k).map (fun L => L.map (mvP dx dy)) ++ Ls.drop k = X at *
      obtain ⟨r, hr, hro⟩ := hi.1 k L hML
      obtain ⟨A6, c6, e6, l6, _⟩ := own_lists ho
      obtain ⟨bo, oo, rfl, hbo, hcell⟩ := l6.plain (by intro e; subst e; simp at hr)
      cases e6
      have g0 := hcell k r hr
      obtain ⟨Ai, ci, rfl, hli, hci⟩ := own_lists hro
      have HO := Lib.hid ho
      have HI := Lib.hid hi
      have HR := Lib.hid hr
      have HML := Lib.hid hML
      have HXL := Lib.hid hlenX
      have HK := Lib.hid hK
      obtain ⟨m, hm⟩ : ∃ m, m = L.length := ⟨_, rfl⟩
      rw [← hm] at g0 hl HR
      have HLM := Lib.hid hm
      clear ho hi hr hML hro l6 hcell hL hli hci hlenX hlenM hK hm
      obtain ⟨wo, rfl⟩ : ∃ wo, wo = wr := ⟨_, rfl⟩
      go_wp2
      go_loopw [45] (fun i wr => ∃ j : Nat, j ≤ m ∧ i = .int .i64 j ∧ wr.ownsRow w.heap.size 48 1 (.slice (some ⟨bo, oo, none⟩) n c5) n rows ∧ Inner wr w.heap.size (X.set k ((L.take j).map (mvP dx dy) ++ L.drop j)) rows ∧ Blk wr w.heap.size 52 #[.int .i64 16384, .int .i64 0, .int .i64 0, .int .i64 16384] ∧ Below w.heap.size w wr) (fun i _ => m - (intOf i).toNat)
      case atStart => exact ⟨0, Nat.zero_le _, rfl, HO.out, by simpa [HX1.out] using HI.out, HK.out, hb⟩
      case round =>
        clear hb g0
        obtain ⟨j, hj, rfl, ho, hi, hK, hb⟩ := hrel
        by_cases hjm : j < m
        · have d2 : decide ((j : Int) < (m : Int)) = true := by simp; omega
          obtain ⟨p, hp⟩ := at_some (L := L) (k := j) (by rw [← HLM.out]; exact hjm)
          have hlj : ((L.take j).map (mvP dx dy)).length = j := by simp; rw [← HLM.out]; omega
          have hLj : ((L.take j).map (mvP dx dy) ++ L.drop j)[j]? = some p := by
            rw [List.getElem?_append_right (by omega), hlj, Nat.sub_self, List.getElem?_drop, Nat.add_zero]; exact hp
          have HT := Lib.hid (show ((L.take j).map (mvP dx dy) ++ L.drop j).set j (mvP dx dy p) = (L.take (j + 1)).map (mvP dx dy) ++ L.drop (j + 1) by
            rw [List.set_append_right _ _ (by omega), hlj, Nat.sub_self, take_snoc1 hp, List.map_append, List.append_assoc]
            congr 1
            rw [List.drop_eq_getElem_cons (by rw [← HLM.out]; exact hjm)]
            rfl)
          have hXj : (X.set k ((L.take j).map (mvP dx dy) ++ L.drop j))[k]? = some ((L.take j).map (mvP dx dy) ++ L.drop j) := List.getElem?_set_self (by rw [HXL.out]; exact hlt)
          have hlen2 : ((L.take j).map (mvP dx dy) ++ L.drop j).length = m := by simp; rw [← HLM.out]; omega
          obtain ⟨r', hr', hro⟩ := hi.1 k _ hXj
          rw [HR.out] at hr'
          cases hr'
          rw [hlen2] at hro
          obtain ⟨g, ci', cur, he, hg1, hg2, hg3⟩ := (show ∃ g cap cur, Value.slice Ai m ci = .slice (some ⟨g, 0, none⟩) m cap ∧ w.heap.size ≤ g ∧ wr.heap[g]? = some (.cells cur 43 (0, 0)) ∧ m ≤ cap ∧ cap ≤ maxLen ∧ cur.size = cap * 3 ∧ cur.toList.take (m * 3) = ptCells ((L.take j).map (mvP dx dy) ++ L.drop j) from by
            rcases hro.2 with ⟨_, h⟩ | h
            · omega
            · exact h)
          cases he
          obtain ⟨_, _, e9, l9, _⟩ := own_lists hro
          cases e9
          obtain ⟨b', o', e8, hbw, c0, c1, c2⟩ := lists_pt l9 hLj
          cases e8
          obtain ⟨v1, v2, v3, v4⟩ := HV.out p (List.mem_of_getElem? hp)
          have hgw : w.heap.size ≠ g := by
            intro e
            exact own_ne hro hK (by decide) (by simp [blk, Value.ownBlock, e])
          obtain ⟨x, y, z⟩ := p
          simp only at c0 c1 c2 v1 v2 v3 v4
          rw [Nat.zero_add] at c0 c1 c2
          have fz : ∀ o, wr.frozen? ⟨g, o, none⟩ = false := fun o => Blk.frozen (show Blk wr g _ cur from hg2) o
          have C6 := fun w => move_any x y z dx dy w v1 v2 H3.out H4.out v3 v4
          have m0 := hK.cell 0
          have m1 := hK.cell 1
          have m2 := hK.cell 2
          have m3 := hK.cell 3
          have m4 := hK.lt
          simp only [List.getElem?_toArray, List.getElem?_cons_zero, List.getElem?_cons_succ] at m0 m1 m2 m3
          have HO2 := Lib.hid ho
          have HI2 := Lib.hid hi
          have HRO := Lib.hid hro
          have HK2 := Lib.hid hK
          have HXJ := Lib.hid hXj
          have HL2 := Lib.hid hlen2
          clear ho hi hro hK hXj hlen2 hlj hLj l9 hp v1 v2 v3 v4 hg1 hg2 hg3
          go_wp2_with (first
            | (go_at_call 46; ((with_reducible refine (C6 _).mono ?_); rintro e w8 ⟨rfl, b8⟩; have B8 := (below_a1 wr (.cells #[.int .i64 x, .int .i64 y, .int .i64 z] 43)).trans (b8.mono (by simp)); have B8s := B8.size; have gz8 : g < w8.heap.size := Nat.lt_of_lt_of_le hbw B8s; have fz8 : ∀ o, w8.frozen? ⟨g, o, none⟩ = false := (fun o => (B8.frozen (p := ⟨g, o, none⟩) hbw).trans (fz o)); have k0 := (B8.cell (p := ⟨g, j * 3, none⟩) hbw).trans c0; have k1 := (B8.cell (p := ⟨g, j * 3 + 1, none⟩) hbw).trans c1; have k2 := (B8.cell (p := ⟨g, j * 3 + 2, none⟩) hbw).trans c2)))
          have o9 : Only w8 (((w8.setCell ⟨g, j * 3, none⟩ (.int .i64 (x + dx))).setCell ⟨g, j * 3 + 1, none⟩ (.int .i64 (y + dy))).setCell ⟨g, j * 3 + 2, none⟩ (.int .i64 z)) [g] := (((Only.refl _ _).set (.inl (by simp)) _).set (.inl (by simp)) _).set (.inl (by simp)) _
          have r9 := own_setPt (j := j) (own_stay HRO.out B8) (mvP dx dy (x, y, z))
          rw [HT.out] at r9
          have hlen3 : ((L.take (j + 1)).map (mvP dx dy) ++ L.drop (j + 1)).length = m := by rw [← HT.out, List.length_set]; exact HL2.out
          obtain ⟨ho9, hi9⟩ := inner_set (L' := (L.take (j + 1)).map (mvP dx dy) ++ L.drop (j + 1)) (own_stay HO2.out B8) (HI2.out.below B8) HR.out HXJ.out (o9.more (fun b hb => .inl (by simpa [blk, Value.ownBlock] using hb))) (by rw [hlen3]; exact r9)
          rw [List.set_set] at hi9
          have K9 := (HK2.out.below B8).only o9 (by simpa using hgw)
          have b9 : Below w.heap.size w (((w8.setCell ⟨g, j * 3, none⟩ (.int .i64 (x + dx))).setCell ⟨g, j * 3 + 1, none⟩ (.int .i64 (y + dy))).setCell ⟨g, j * 3 + 2, none⟩ (.int .i64 z)) := (hb.trans (B8.mono hb.size)).trans (o9.to_below (Nat.le_trans hb.size B8s) (fun b hb => by simp at hb; subst hb; exact (HRO.out.lt _ rfl).1))
          go_roundw
          case rel => exact ⟨j + 1, by omega, by go_num, own_stay ho9 (below_a1 _ _), hi9.below (below_a1 _ _), K9.below (below_a1 _ _), b9.alloc b9.size _⟩
          case measure => simp [intOf]; omega
        · obtain rfl : j = m := by omega
          have d2 : decide ((j : Int) < (j : Int)) = false := by simp
          have HZ := Lib.hid (show X.set k ((L.take j).map (mvP dx dy) ++ L.drop j) = (Ls.take (k + 1)).map (fun L => L.map (mvP dx dy)) ++ Ls.drop (k + 1) by rw [← HS.out, HLM.out]; simp)
          have HFL := Lib.hid (show ((Ls.take (k + 1)).map (fun L => L.map (mvP dx dy)) ++ Ls.drop (k + 1)).length = n by rw [← HS.out, List.length_set]; exact HXL.out)
          go_wp2
          go_roundw
          case rel => exact ⟨k + 1, by omega, by go_num, ⟨rows, by rw [HFL.out]; exact ho, by rw [← HZ.out]; exact hi⟩, hK, hb⟩
          case measure => simp [intOf]; omega
    · obtain rfl : k = n := by omega
      have d1 : decide ((k : Int) < (k : Int)) = false := by simp
      have HT := Lib.hid (show (Ls.take k).map (fun L => L.map (mvP dx dy)) ++ Ls.drop k = Ls.map (fun L => L.map (mvP dx dy)) by rw [HN.out]; simp)
      go_wp2
      go_ret2
      exact ⟨_, rfl, by rw [← HT.out]; exact hO, hb⟩

end Go.Proofs.Ytmmdnhfonifhdaa

namespace Go.Proofs.Ytmmdnhfonifhdaa
open Go Go.RowKit

def eq3 (p q : Pt) : Bool := p.1 == q.1 && p.2.1 == q.2.1 && p.2.2 == q.2.2
theorem eq3_iff {p q : Pt} : eq3 p q = true ↔ p = q := by
  obtain ⟨x, y, z⟩ := p
  obtain ⟨x', y', z'⟩ := q
  simp [eq3, and_assoc]
theorem neP_run (x y z x' y' z' : Int) (r : Bool) (hr : eq3 (x, y, z) (x', y', z') = r) (w : World) : (binOp .neq 43 (.agg #[.int .i64 x, .int .i64 y, .int .i64 z]) (.agg #[.int .i64 x', .int .i64 y', .int .i64 z'])).run Try.prog w = .ok (.bool (!r)) w := by
  subst hr
  have hS : Try.prog.underlying 43 = some (.struct (Try.prog.fieldsOf 43)) := by kernel_rfl
  have hp : Try.prog.stoodInHeld 43 = false := by kernel_rfl
  have u3 := Try.underlying3
  have a3 := Try.isAgg3
  have z3 := Try.sizeOf3
  rw [run_neq_struct, show (10000 : Nat) = 9999 + 1 from rfl, run_equalIn_agg w 9999 43 _ _ hS hp]
  simp only [Program.fieldsOf, Try.underlying43]
  unfold eq3
  go_simp
  by_cases h1 : x = x' <;> by_cases h2 : y = y' <;> by_cases h3 : z = z' <;> simp [h1, h2, h3]
theorem eqP_run (x y z x' y' z' : Int) (r : Bool) (hr : eq3 (x, y, z) (x', y', z') = r) (w : World) : (binOp .eql 43 (.agg #[.int .i64 x, .int .i64 y, .int .i64 z]) (.agg #[.int .i64 x', .int .i64 y', .int .i64 z'])).run Try.prog w = .ok (.bool r) w := by
  subst hr
  have hS : Try.prog.underlying 43 = some (.struct (Try.prog.fieldsOf 43)) := by kernel_rfl
  have hp : Try.prog.stoodInHeld 43 = false := by kernel_rfl
  have u3 := Try.underlying3
  have a3 := Try.isAgg3
  have z3 := Try.sizeOf3
  rw [run_eql_struct, show (10000 : Nat) = 9999 + 1 from rfl, run_equalIn_agg w 9999 43 _ _ hS hp]
  simp only [Program.fieldsOf, Try.underlying43]
  unfold eq3
  go_simp
  by_cases h1 : x = x' <;> by_cases h2 : y = y' <;> by_cases h3 : z = z' <;> simp [h1, h2, h3]
theorem neP_guard (x y z x' y' z' : Int) (a b : Operand) (w : World) : (eqGuard .neq 43 a b (.agg #[.int .i64 x, .int .i64 y, .int .i64 z]) (.agg #[.int .i64 x', .int .i64 y', .int .i64 z'])).run Try.prog w = .ok () w :=
  run_eqGuard_agg w .neq 43 a b _ _ (by kernel_rfl)
theorem eqP_guard (x y z x' y' z' : Int) (a b : Operand) (w : World) : (eqGuard .eql 43 a b (.agg #[.int .i64 x, .int .i64 y, .int .i64 z]) (.agg #[.int .i64 x', .int .i64 y', .int .i64 z'])).run Try.prog w = .ok () w :=
  run_eqGuard_agg w .eql 43 a b _ _ (by kernel_rfl)
theorem same_next {α : Type} {a b : List α} {k : Nat} {x : α} (h : ∀ j, j < k → a[j]? = b[j]?) (ha : a[k]? = some x) (hb : b[k]? = some x) : ∀ j, j < k + 1 → a[j]? = b[j]? := by
  intro j hj
  rcases Nat.lt_or_ge j k with h1 | h1
  · exact h j h1
  · obtain rfl : j = k := by omega
    rw [ha, hb]
theorem same_done {α : Type} {a b : List α} {k : Nat} (hk : k = a.length) (hk2 : k = b.length) (h : ∀ j, j < k → a[j]? = b[j]?) : a = b := by
  refine List.ext_getElem? fun j => ?_
  rcases Nat.lt_or_ge j k with h1 | h1
  · exact h j h1
  · rw [List.getElem?_eq_none (by omega), List.getElem?_eq_none (by omega)]
theorem same_not {α : Type} [DecidableEq α] {a b : List α} {k : Nat} {x y : α} (ha : a[k]? = some x) (hb : b[k]? = some y) (h : x ≠ y) : decide (a = b) = false := by
  rw [decide_eq_false_iff_not]
  rintro rfl
  rw [ha] at hb
  exact h (Option.some.inj hb)
theorem same_len {α : Type} [DecidableEq α] {a b : List α} (h : a.length ≠ b.length) : decide (a = b) = false := by
  rw [decide_eq_false_iff_not]
  rintro rfl
  exact h rfl

set_option maxRecDepth 100000 in
theorem equal_any (B : Nat) (A A2 : Option Addr) (c c2 : Nat) (L M : List Pt) (w : World) (hB : B ≤ w.heap.size) (ha : Lists w B A (ptCells L)) (hb : Lists w B A2 (ptCells M)) (hn : L.length ≤ 100000) (r : Bool) (hr : decide (L = M) = r) :
    Calls Try.prog 43 #[.slice A L.length c, .slice A2 M.length c2] w fun e w' => e = .returned (.bool r) ∧ Below w.heap.size w w' := by
  have HA := Lib.hid ha
  have HB := Lib.hid hb
  have HR := Lib.hid hr
  obtain ⟨n, hnn⟩ : ∃ n, n = L.length := ⟨_, rfl⟩
  obtain ⟨n2, hnn2⟩ : ∃ n2, n2 = M.length := ⟨_, rfl⟩
  rw [← hnn] at hn ⊢
  rw [← hnn2]
  have HN := Lib.hid hnn
  have HN2 := Lib.hid hnn2
  clear ha hb hr hnn hnn2
  by_cases hne : n = n2
  · subst hne
    have d0 : ((n : Int) != (n : Int)) = false := by simp
    go_enter Try.func43, Try.ntmps43
    go_wp2
    go_loopw [13] (fun i wr => ∃ k : Nat, k ≤ n ∧ i = .int .i64 k ∧ Hid (∀ j, j < k → L[j]? = M[j]?) ∧ Below w.heap.size w wr) (fun i _ => n - (intOf i).toNat)
    case atStart => exact ⟨0, Nat.zero_le _, rfl, Lib.hid (fun j h => absurd h (Nat.not_lt_zero _)), Below.refl _ _⟩
    case round =>
      obtain ⟨k, hk, rfl, HK, hb⟩ := hrel
      by_cases hlt : k < n
      · have d1 : decide ((k : Int) < (n : Int)) = true := by simp; omega
        obtain ⟨⟨x, y, z⟩, hp⟩ := at_some (L := L) (k := k) (by rw [← HN.out]; exact hlt)
        obtain ⟨⟨x', y', z'⟩, hq⟩ := at_some (L := M) (k := k) (by rw [← HN2.out]; exact hlt)
        obtain ⟨s, u, rfl, hs, c0, c1, c2⟩ := lists_pt HA.out hp
        obtain ⟨s', u', rfl, hs', c3, c4, c5⟩ := lists_pt HB.out hq
        simp only at c0 c1 c2 c3 c4 c5
        have HD : ∀ W, Below w.heap.size w W → (W.cell? ⟨s, u + k * 3, none⟩ = some (.int .i64 x) ∧ W.cell? ⟨s, u + k * 3 + 1, none⟩ = some (.int .i64 y) ∧ W.cell? ⟨s, u + k * 3 + 2, none⟩ = some (.int .i64 z) ∧ s < W.heap.size) ∧ W.cell? ⟨s', u' + k * 3, none⟩ = some (.int .i64 x') ∧ W.cell? ⟨s', u' + k * 3 + 1, none⟩ = some (.int .i64 y') ∧ W.cell? ⟨s', u' + k * 3 + 2, none⟩ = some (.int .i64 z') ∧ s' < W.heap.size :=
          fun W hW => ⟨⟨(hW.cell (p := ⟨s, u + k * 3, none⟩) (Nat.lt_of_lt_of_le hs hB)).trans c0, (hW.cell (p := ⟨s, u + k * 3 + 1, none⟩) (Nat.lt_of_lt_of_le hs hB)).trans c1, (hW.cell (p := ⟨s, u + k * 3 + 2, none⟩) (Nat.lt_of_lt_of_le hs hB)).trans c2, by have := hW.size; omega⟩, (hW.cell (p := ⟨s', u' + k * 3, none⟩) (Nat.lt_of_lt_of_le hs' hB)).trans c3, (hW.cell (p := ⟨s', u' + k * 3 + 1, none⟩) (Nat.lt_of_lt_of_le hs' hB)).trans c4, (hW.cell (p := ⟨s', u' + k * 3 + 2, none⟩) (Nat.lt_of_lt_of_le hs' hB)).trans c5, by have := hW.size; omega⟩
        clear c0 c1 c2 c3 c4 c5
        have hgd := neP_guard x y z x' y' z'
        cases he : eq3 (x, y, z) (x', y', z')
        · have hne := neP_run x y z x' y' z' _ he
          have HF := Lib.hid (show r = false by rw [← HR.out]; exact same_not hp hq (fun e => by rw [eq3_iff.2 e] at he; cases he))
          clear hp hq he
          go_wp2
          have hI : Below w.heap.size w wr.drew := hb.drew
          refine wp_region_chain (fun W => Below w.heap.size w W) [(0, false), (1, false), (2, false), (3, false), (4, false), (5, false), (6, false), (7, false), (8, false)] (by kernel_rfl) (by kernel_rfl) hI ?_
          repeat (first
            | (refine ChainL.skip (o := ?_) ?_ ?_ ?_; rotate_left; (focus (first | (simp only [List.getElem?_toArray, List.getElem?_cons_succ, List.getElem?_cons_zero]; with_reducible rfl) | (simp only [List.getElem?_toArray, List.getElem?_cons_zero]; with_reducible rfl))); (focus rfl); simp only [Act.put, List.setIfInBounds_toArray, List.set_cons_zero, List.set_cons_succ])
            | (refine ChainL.val (o := ?_) (v := ?_) ?_ ?_ ?_ ?_ ?_; rotate_left 2; (focus (first | (simp only [List.getElem?_toArray, List.getElem?_cons_succ, List.getElem?_cons_zero]; with_reducible rfl) | (simp only [List.getElem?_toArray, List.getElem?_cons_zero]; with_reducible rfl))); (focus (intro _ _ h; cases h)); (focus rfl); (focus (intro w' hJ; obtain ⟨⟨z1, z2, z3, z4⟩, z5, z6, z7, z8⟩ := HD _ hJ; go_simp <;> with_reducible rfl)); simp only [Act.put, List.setIfInBounds_toArray, List.set_cons_zero, List.set_cons_succ]))
          refine ChainL.nil ?_
          go_wp2
          go_ret
          exact ⟨by rw [HF.out]; rfl, hI⟩
        · have hne := neP_run x y z x' y' z' _ he
          have HF := Lib.hid (same_next HK.out hp (by rw [hq, ← eq3_iff.1 he]))
          clear hp hq he
          go_wp2
          have hI : Below w.heap.size w wr.drew := hb.drew
          refine wp_region_chain (fun W => Below w.heap.size w W) [(0, false), (1, false), (2, false), (3, false), (4, false), (5, false), (6, false), (7, false), (8, false)] (by kernel_rfl) (by kernel_rfl) hI ?_
          repeat (first
            | (refine ChainL.skip (o := ?_) ?_ ?_ ?_; rotate_left; (focus (first | (simp only [List.getElem?_toArray, List.getElem?_cons_succ, List.getElem?_cons_zero]; with_reducible rfl) | (simp only [List.getElem?_toArray, List.getElem?_cons_zero]; with_reducible rfl))); (focus rfl); simp only [Act.put, List.setIfInBounds_toArray, List.set_cons_zero, List.set_cons_succ])
            | (refine ChainL.val (o := ?_) (v := ?_) ?_ ?_ ?_ ?_ ?_; rotate_left 2; (focus (first | (simp only [List.getElem?_toArray, List.getElem?_cons_succ, List.getElem?_cons_zero]; with_reducible rfl) | (simp only [List.getElem?_toArray, List.getElem?_cons_zero]; with_reducible rfl))); (focus (intro _ _ h; cases h)); (focus rfl); (focus (intro w' hJ; obtain ⟨⟨z1, z2, z3, z4⟩, z5, z6, z7, z8⟩ := HD _ hJ; go_simp <;> with_reducible rfl)); simp only [Act.put, List.setIfInBounds_toArray, List.set_cons_zero, List.set_cons_succ]))
          refine ChainL.nil ?_
          go_wp2
          go_roundw
          case rel => exact ⟨k + 1, by omega, by go_num, HF, hI⟩
          case measure => simp [intOf]; omega
      · obtain rfl : k = n := by omega
        have d1 : decide ((k : Int) < (k : Int)) = false := by simp
        have HF := Lib.hid (show r = true by rw [← HR.out, decide_eq_true_eq]; exact same_done HN.out HN2.out HK.out)
        go_wp2
        go_ret
        exact ⟨by rw [HF.out]; rfl, hb⟩
  · have d0 : ((n : Int) != (n2 : Int)) = true := by simp; omega
    have HF := Lib.hid (show r = false by rw [← HR.out]; exact same_len (by rw [← HN.out, ← HN2.out]; exact hne))
    go_enter Try.func43, Try.ntmps43
    go_wp2
    go_ret
    exact ⟨by rw [HF.out]; rfl, Below.refl _ _⟩

theorem same1_any (B : Nat) (A A2 : Option Addr) (c c2 : Nat) (L M : List Pt) (w : World) (hB : B ≤ w.heap.size) (ha : Lists w B A (ptCells L)) (hb : Lists w B A2 (ptCells M)) (hn : L.length ≤ 100000) (r : Bool) (hr : decide (L = M) = r) :
    Calls Try.prog 42 #[.slice A L.length c, .slice A2 M.length c2] w fun e w' => e = .returned (.bool r) ∧ Below w.heap.size w w' := by
  have C := equal_any B A A2 c c2 L M w hB ha hb hn r hr
  clear ha hb hr
  go_enter Try.func42, Try.ntmps42
  go_wp2_with (first | (go_at_call 43; ((with_reducible refine (C).mono ?_); rintro e w1 ⟨rfl, b1⟩)))
  go_ret
  exact ⟨rfl, b1⟩

set_option maxRecDepth 100000 in
theorem equalF_any (B : Nat) (A A2 : Option Addr) (c c2 : Nat) (a b : List (List Pt)) (w : World) (hB : B ≤ w.heap.size) (ha : OutAt w B A a) (hb : OutAt w B A2 b) (sa : Sm a) (sb : Sm b) (r : Bool) (hr : decide (a = b) = r) :
    Calls Try.prog 41 #[.slice A a.length c, .slice A2 b.length c2, .func (.func 42) #[] #[]] w fun e w' => e = .returned (.bool r) ∧ Below w.heap.size w w' := by
  have hn := sa.1
  have HA := Lib.hid ha
  have HB := Lib.hid hb
  have SA := Lib.hid sa.2
  have SB := Lib.hid sb.2
  have HR := Lib.hid hr
  obtain ⟨n, hnn⟩ : ∃ n, n = a.length := ⟨_, rfl⟩
  obtain ⟨n2, hnn2⟩ : ∃ n2, n2 = b.length := ⟨_, rfl⟩
  rw [← hnn] at hn ⊢
  rw [← hnn2]
  have HN := Lib.hid hnn
  have HN2 := Lib.hid hnn2
  clear ha hb sa sb hr hnn hnn2
  by_cases hne : n = n2
  · subst hne
    have d0 : ((n : Int) != (n : Int)) = false := by simp
    go_enter Try.func41, Try.ntmps41
    go_wp2
    go_loopw [17] (fun i wr => ∃ k : Nat, k ≤ n ∧ i = .int .i64 k ∧ Hid (∀ j, j < k → a[j]? = b[j]?) ∧ Below w.heap.size w wr) (fun i _ => n - (intOf i).toNat)
    case atStart => exact ⟨0, Nat.zero_le _, rfl, Lib.hid (fun j h => absurd h (Nat.not_lt_zero _)), Below.refl _ _⟩
    case round =>
      obtain ⟨k, hk, rfl, HK, hb⟩ := hrel
      by_cases hlt : k < n
      · have d1 : decide ((k : Int) < (n : Int)) = true := by simp; omega
        obtain ⟨L, hL⟩ := at_some (L := a) (k := k) (by rw [← HN.out]; exact hlt)
        obtain ⟨M, hM⟩ := at_some (L := b) (k := k) (by rw [← HN2.out]; exact hlt)
        obtain ⟨p, o, Ai, ci, rfl, hpl, c0, hE⟩ := HA.out.at' k L hL
        obtain ⟨q, o', Aj, cj, rfl, hql, c1, hF⟩ := HB.out.at' k M hM
        have hl : L.length ≤ 100000 := SA.out L (List.mem_of_getElem? hL)
        have hl2 : M.length ≤ 100000 := SB.out M (List.mem_of_getElem? hM)
        have f0 := (hb.cell (p := ⟨p, o + k, none⟩) (Nat.lt_of_lt_of_le hpl hB)).trans c0
        have f1 := (hb.cell (p := ⟨q, o' + k, none⟩) (Nat.lt_of_lt_of_le hql hB)).trans c1
        have g1 : p < wr.heap.size := World.block_lt_of_cell? wr _ f0
        have g2 : q < wr.heap.size := World.block_lt_of_cell? wr _ f1
        cases he : decide (L = M)
        · have C := same1_any B Ai Aj ci cj L M wr (Nat.le_trans hB hb.size) (hE.below (hb.mono hB)) (hF.below (hb.mono hB)) hl _ he
          have HF := Lib.hid (show r = false by rw [← HR.out]; exact same_not hL hM (by simpa using he))
          clear hL hM he hE hF c0 c1
          go_wp2_with (first | (go_at_call 42; ((with_reducible refine (C).mono ?_); rintro e w1 ⟨rfl, b1⟩)))
          go_ret
          exact ⟨by rw [HF.out]; rfl, hb.trans (b1.mono hb.size)⟩
        · have C := same1_any B Ai Aj ci cj L M wr (Nat.le_trans hB hb.size) (hE.below (hb.mono hB)) (hF.below (hb.mono hB)) hl _ he
          have HF := Lib.hid (same_next HK.out hL (by rw [hM, of_decide_eq_true he]))
          clear hL hM he hE hF c0 c1
          go_wp2_with (first | (go_at_call 42; ((with_reducible refine (C).mono ?_); rintro e w1 ⟨rfl, b1⟩)))
          go_roundw
          case rel => exact ⟨k + 1, by omega, by go_num, HF, hb.trans (b1.mono hb.size)⟩
          case measure => simp [intOf]; omega
      · obtain rfl : k = n := by omega
        have d1 : decide ((k : Int) < (k : Int)) = false := by simp
        have HF := Lib.hid (show r = true by rw [← HR.out, decide_eq_true_eq]; exact same_done HN.out HN2.out HK.out)
        go_wp2
        go_ret
        exact ⟨by rw [HF.out]; rfl, hb⟩
  · have d0 : ((n : Int) != (n2 : Int)) = true := by simp; omega
    have HF := Lib.hid (show r = false by rw [← HR.out]; exact same_len (by rw [← HN.out, ← HN2.out]; exact hne))
    go_enter Try.func41, Try.ntmps41
    go_wp2
    go_ret
    exact ⟨by rw [HF.out]; rfl, Below.refl _ _⟩

theorem same_any (B : Nat) (A A2 : Option Addr) (c c2 : Nat) (a b : List (List Pt)) (w : World) (hB : B ≤ w.heap.size) (ha : OutAt w B A a) (hb : OutAt w B A2 b) (sa : Sm a) (sb : Sm b) (r : Bool) (hr : decide (a = b) = r) :
    Calls Try.prog 24 #[.slice A a.length c, .slice A2 b.length c2] w fun e w' => e = .returned (.bool r) ∧ Below w.heap.size w w' := by
  have C := equalF_any B A A2 c c2 a b w hB ha hb sa sb r hr
  clear ha hb hr sa sb
  go_enter Try.func24, Try.ntmps24
  go_wp2_with (first | (go_at_call 41; ((with_reducible refine (C).mono ?_); rintro e w1 ⟨rfl, b1⟩)))
  go_ret
  exact ⟨rfl, b1⟩

set_option maxRecDepth 100000 in
set_option maxHeartbeats 4000000 in
theorem rsame_any (B : Nat) (A A2 : Option Addr) (c c2 : Nat) (a b : List (List Pt)) (w : World) (hB : B ≤ w.heap.size) (ha : OutAt w B A a) (hb : OutAt w B A2 b) (sa : Sm a) (sb : Sm b) (r : Bool) (hr : decide (a = b) = r) :
    Calls Try.prog 18 #[.slice A a.length c, .slice A2 b.length c2] w fun e w' => e = .returned (.bool r) ∧ Below w.heap.size w w' := by
  have hn := sa.1
  have HA := Lib.hid ha
  have HB := Lib.hid hb
  have SA := Lib.hid sa.2
  have SB := Lib.hid sb.2
  have HR := Lib.hid hr
  obtain ⟨n, hnn⟩ : ∃ n, n = a.length := ⟨_, rfl⟩
  obtain ⟨n2, hnn2⟩ : ∃ n2, n2 = b.length := ⟨_, rfl⟩
  rw [← hnn] at hn ⊢
  rw [← hnn2]
  have HN := Lib.hid hnn
  have HN2 := Lib.hid hnn2
  clear ha hb sa sb hr hnn hnn2
  by_cases hne : n = n2
  · subst hne
    have d0 : ((n : Int) != (n : Int)) = false := by simp
    go_enter Try.func18, Try.ntmps18
    go_wp2
    go_loopw [5] (fun i wr => ∃ k : Nat, k ≤ n ∧ i = .int .i64 k ∧ Hid (∀ j, j < k → a[j]? = b[j]?) ∧ Below w.heap.size w wr) (fun i _ => n - (intOf i).toNat)
    case atStart => exact ⟨0, Nat.zero_le _, rfl, Lib.hid (fun j h => absurd h (Nat.not_lt_zero _)), Below.refl _ _⟩
    case round =>
      obtain ⟨k, hk, rfl, HK, hb⟩ := hrel
      by_cases hlt : k < n
      · have d1 : decide ((k : Int) < (n : Int)) = true := by simp; omega
        obtain ⟨L, hL⟩ := at_some (L := a) (k := k) (by rw [← HN.out]; exact hlt)
        obtain ⟨M, hM⟩ := at_some (L := b) (k := k) (by rw [← HN2.out]; exact hlt)
        obtain ⟨p, o, Ai, ci, rfl, hpl, c0, hE⟩ := HA.out.at' k L hL
        obtain ⟨q, o', Aj, cj, rfl, hql, c1, hF⟩ := HB.out.at' k M hM
        have hl : L.length ≤ 100000 := SA.out L (List.mem_of_getElem? hL)
        have hl2 : M.length ≤ 100000 := SB.out M (List.mem_of_getElem? hM)
        have HC : ∀ W, Below w.heap.size w W → W.cell? ⟨p, o + k, none⟩ = some (.slice Ai L.length ci) ∧ W.cell? ⟨q, o' + k, none⟩ = some (.slice Aj M.length cj) ∧ p < W.heap.size ∧ q < W.heap.size := fun W hW => ⟨(hW.cell (p := ⟨p, o + k, none⟩) (Nat.lt_of_lt_of_le hpl hB)).trans c0, (hW.cell (p := ⟨q, o' + k, none⟩) (Nat.lt_of_lt_of_le hql hB)).trans c1, by have := hW.size; omega, by have := hW.size; omega⟩
        obtain ⟨f0, f1, f2, f3⟩ := HC wr hb
        have HE := Lib.hid hE
        have HF := Lib.hid hF
        have HL := Lib.hid hL
        have HM := Lib.hid hM
        obtain ⟨m, hm⟩ : ∃ m, m = L.length := ⟨_, rfl⟩
        obtain ⟨m2, hm2⟩ : ∃ m2, m2 = M.length := ⟨_, rfl⟩
        rw [← hm] at hl f0 HC
        rw [← hm2] at hl2 f1 HC
        have HLM := Lib.hid hm
        have HMM := Lib.hid hm2
        clear hE hF hL hM hm hm2 c0 c1
        by_cases hmm : m = m2
        · subst hmm
          have e0 : ((m : Int) != (m : Int)) = false := by simp
          go_wp2
          have hI : Below w.heap.size w wr.drew := hb.drew
          refine wp_region_chain (fun W => Below w.heap.size w W) [(0, false), (1, false), (2, false), (3, false), (4, false), (5, false), (6, false), (7, false), (8, false), (9, false), (10, false)] (by kernel_rfl) (by kernel_rfl) hI ?_
          repeat (first
            | (refine ChainL.skip (o := ?_) ?_ ?_ ?_; rotate_left; (focus (first | (simp only [List.getElem?_toArray, List.getElem?_cons_succ, List.getElem?_cons_zero]; with_reducible rfl) | (simp only [List.getElem?_toArray, List.getElem?_cons_zero]; with_reducible rfl))); (focus rfl); simp only [Act.put, List.setIfInBounds_toArray, List.set_cons_zero, List.set_cons_succ])
            | (refine ChainL.val (o := ?_) (v := ?_) ?_ ?_ ?_ ?_ ?_; rotate_left 2; (focus (first | (simp only [List.getElem?_toArray, List.getElem?_cons_succ, List.getElem?_cons_zero]; with_reducible rfl) | (simp only [List.getElem?_toArray, List.getElem?_cons_zero]; with_reducible rfl))); (focus (intro _ _ h; cases h)); (focus rfl); (focus (intro w' hJ; obtain ⟨y1, y2, y3, y4⟩ := HC _ hJ; go_simp <;> with_reducible rfl)); simp only [Act.put, List.setIfInBounds_toArray, List.set_cons_zero, List.set_cons_succ]))
          refine ChainL.nil ?_
          clear f0 f1 f2 f3
          go_wp2
          go_loopw [6] (fun i wr => ∃ k' : Nat, k' ≤ m ∧ i = .int .i64 k' ∧ Hid (∀ j, j < k' → L[j]? = M[j]?) ∧ Below w.heap.size w wr) (fun i _ => m - (intOf i).toNat)
          case atStart => exact ⟨0, Nat.zero_le _, rfl, Lib.hid (fun j h => absurd h (Nat.not_lt_zero _)), hI⟩
          case round =>
            clear hI hb
            obtain ⟨k', hk', rfl, HK', hb⟩ := hrel
            obtain ⟨f0, f1, f2, f3⟩ := HC _ hb
            by_cases hlt' : k' < m
            · have d2 : decide ((k' : Int) < (m : Int)) = true := by simp; omega
              obtain ⟨⟨x, y, z⟩, hp⟩ := at_some (L := L) (k := k') (by rw [← HLM.out]; exact hlt')
              obtain ⟨⟨x', y', z'⟩, hq⟩ := at_some (L := M) (k := k') (by rw [← HMM.out]; exact hlt')
              obtain ⟨s, u, rfl, hs, c0, c1, c2⟩ := lists_pt HE.out hp
              obtain ⟨s', u', rfl, hs', c3, c4, c5⟩ := lists_pt HF.out hq
              simp only at c0 c1 c2 c3 c4 c5
              have HD : ∀ W, Below w.heap.size w W → (W.cell? ⟨s, u + k' * 3, none⟩ = some (.int .i64 x) ∧ W.cell? ⟨s, u + k' * 3 + 1, none⟩ = some (.int .i64 y) ∧ W.cell? ⟨s, u + k' * 3 + 2, none⟩ = some (.int .i64 z) ∧ s < W.heap.size) ∧ W.cell? ⟨s', u' + k' * 3, none⟩ = some (.int .i64 x') ∧ W.cell? ⟨s', u' + k' * 3 + 1, none⟩ = some (.int .i64 y') ∧ W.cell? ⟨s', u' + k' * 3 + 2, none⟩ = some (.int .i64 z') ∧ s' < W.heap.size :=
                fun W hW => ⟨⟨(hW.cell (p := ⟨s, u + k' * 3, none⟩) (Nat.lt_of_lt_of_le hs hB)).trans c0, (hW.cell (p := ⟨s, u + k' * 3 + 1, none⟩) (Nat.lt_of_lt_of_le hs hB)).trans c1, (hW.cell (p := ⟨s, u + k' * 3 + 2, none⟩) (Nat.lt_of_lt_of_le hs hB)).trans c2, by have := hW.size; omega⟩, (hW.cell (p := ⟨s', u' + k' * 3, none⟩) (Nat.lt_of_lt_of_le hs' hB)).trans c3, (hW.cell (p := ⟨s', u' + k' * 3 + 1, none⟩) (Nat.lt_of_lt_of_le hs' hB)).trans c4, (hW.cell (p := ⟨s', u' + k' * 3 + 2, none⟩) (Nat.lt_of_lt_of_le hs' hB)).trans c5, by have := hW.size; omega⟩
              have hgd := neP_guard x y z x' y' z'
              clear c0 c1 c2 c3 c4 c5
              cases he : eq3 (x, y, z) (x', y', z')
              · have hne := neP_run x y z x' y' z' _ he
                have HF := Lib.hid (show r = false by rw [← HR.out]; exact same_not HL.out HM.out (of_decide_eq_false (same_not hp hq (fun e => by rw [eq3_iff.2 e] at he; cases he))))
                clear hp hq he
                go_wp2
                have hI : Below w.heap.size w wr.drew := hb.drew
                refine wp_region_chain (fun W => Below w.heap.size w W) [(0, false), (1, false), (2, false), (3, false), (4, false), (5, false), (6, false), (7, false), (8, false), (9, false), (10, false), (11, false), (12, false), (13, false), (14, false)] (by kernel_rfl) (by kernel_rfl) hI ?_
                repeat (first
                  | (refine ChainL.skip (o := ?_) ?_ ?_ ?_; rotate_left; (focus (first | (simp only [List.getElem?_toArray, List.getElem?_cons_succ, List.getElem?_cons_zero]; with_reducible rfl) | (simp only [List.getElem?_toArray, List.getElem?_cons_zero]; with_reducible rfl))); (focus rfl); simp only [Act.put, List.setIfInBounds_toArray, List.set_cons_zero, List.set_cons_succ])
                  | (refine ChainL.val (o := ?_) (v := ?_) ?_ ?_ ?_ ?_ ?_; rotate_left 2; (focus (first | (simp only [List.getElem?_toArray, List.getElem?_cons_succ, List.getElem?_cons_zero]; with_reducible rfl) | (simp only [List.getElem?_toArray, List.getElem?_cons_zero]; with_reducible rfl))); (focus (intro _ _ h; cases h)); (focus rfl); (focus (intro w' hJ; obtain ⟨y1, y2, y3, y4⟩ := HC _ hJ; obtain ⟨⟨z1, z2, z3, z4⟩, z5, z6, z7, z8⟩ := HD _ hJ; go_simp <;> with_reducible rfl)); simp only [Act.put, List.setIfInBounds_toArray, List.set_cons_zero, List.set_cons_succ]))
                refine ChainL.nil ?_
                go_wp2
                go_ret
                exact ⟨by rw [HF.out]; rfl, hI⟩
              · have hne := neP_run x y z x' y' z' _ he
                have HS := Lib.hid (same_next HK'.out hp (by rw [hq, ← eq3_iff.1 he]))
                clear hp hq he
                go_wp2
                have hI : Below w.heap.size w wr.drew := hb.drew
                refine wp_region_chain (fun W => Below w.heap.size w W) [(0, false), (1, false), (2, false), (3, false), (4, false), (5, false), (6, false), (7, false), (8, false), (9, false), (10, false), (11, false), (12, false), (13, false), (14, false)] (by kernel_rfl) (by kernel_rfl) hI ?_
                repeat (first
                  | (refine ChainL.skip (o := ?_) ?_ ?_ ?_; rotate_left; (focus (first | (simp only [List.getElem?_toArray, List.getElem?_cons_succ, List.getElem?_cons_zero]; with_reducible rfl) | (simp only [List.getElem?_toArray, List.getElem?_cons_zero]; with_reducible rfl))); (focus rfl); simp only [Act.put, List.setIfInBounds_toArray, List.set_cons_zero, List.set_cons_succ])
                  | (refine ChainL.val (o := ?_) (v := ?_) ?_ ?_ ?_ ?_ ?_; rotate_left 2; (focus (first | (simp only [List.getElem?_toArray, List.getElem?_cons_succ, List.getElem?_cons_zero]; with_reducible rfl) | (simp only [List.getElem?_toArray, List.getElem?_cons_zero]; with_reducible rfl))); (focus (intro _ _ h; cases h)); (focus rfl); (focus (intro w' hJ; obtain ⟨y1, y2, y3, y4⟩ := HC _ hJ; obtain ⟨⟨z1, z2, z3, z4⟩, z5, z6, z7, z8⟩ := HD _ hJ; go_simp <;> with_reducible rfl)); simp only [Act.put, List.setIfInBounds_toArray, List.set_cons_zero, List.set_cons_succ]))
                refine ChainL.nil ?_
                go_wp2
                go_roundw
                case rel => exact ⟨k' + 1, by omega, by go_num, HS, hI⟩
                case measure => simp [intOf]; omega
            · obtain rfl : k' = m := by omega
              have d2 : decide ((k' : Int) < (k' : Int)) = false := by simp
              have HS := Lib.hid (same_next HK.out HL.out (by rw [HM.out, same_done HLM.out HMM.out HK'.out]))
              go_wp2
              go_roundw
              case rel => exact ⟨k + 1, by omega, by go_num, HS, hb⟩
              case measure => simp [intOf]; omega
        · have e0 : ((m : Int) != (m2 : Int)) = true := by simp; omega
          have HF := Lib.hid (show r = false by rw [← HR.out]; exact same_not HL.out HM.out (of_decide_eq_false (same_len (by rw [← HLM.out, ← HMM.out]; exact hmm))))
          go_wp2
          have hI : Below w.heap.size w wr.drew := hb.drew
          refine wp_region_chain (fun W => Below w.heap.size w W) [(0, false), (1, false), (2, false), (3, false), (4, false), (5, false), (6, false), (7, false), (8, false), (9, false), (10, false)] (by kernel_rfl) (by kernel_rfl) hI ?_
          repeat (first
            | (refine ChainL.skip (o := ?_) ?_ ?_ ?_; rotate_left; (focus (first | (simp only [List.getElem?_toArray, List.getElem?_cons_succ, List.getElem?_cons_zero]; with_reducible rfl) | (simp only [List.getElem?_toArray, List.getElem?_cons_zero]; with_reducible rfl))); (focus rfl); simp only [Act.put, List.setIfInBounds_toArray, List.set_cons_zero, List.set_cons_succ])
            | (refine ChainL.val (o := ?_) (v := ?_) ?_ ?_ ?_ ?_ ?_; rotate_left 2; (focus (first | (simp only [List.getElem?_toArray, List.getElem?_cons_succ, List.getElem?_cons_zero]; with_reducible rfl) | (simp only [List.getElem?_toArray, List.getElem?_cons_zero]; with_reducible rfl))); (focus (intro _ _ h; cases h)); (focus rfl); (focus (intro w' hJ; obtain ⟨y1, y2, y3, y4⟩ := HC _ hJ; go_simp <;> with_reducible rfl)); simp only [Act.put, List.setIfInBounds_toArray, List.set_cons_zero, List.set_cons_succ]))
          refine ChainL.nil ?_
          go_wp2
          go_ret
          exact ⟨by rw [HF.out]; rfl, hI⟩
      · obtain rfl : k = n := by omega
        have d1 : decide ((k : Int) < (k : Int)) = false := by simp
        have HF := Lib.hid (show r = true by rw [← HR.out, decide_eq_true_eq]; exact same_done HN.out HN2.out HK.out)
        go_wp2
        go_ret
        exact ⟨by rw [HF.out]; rfl, hb⟩
  · have d0 : ((n : Int) != (n2 : Int)) = true := by simp; omega
    have HF := Lib.hid (show r = false by rw [← HR.out]; exact same_len (by rw [← HN.out, ← HN2.out]; exact hne))
    go_enter Try.func18, Try.ntmps18
    go_wp2
    go_ret
    exact ⟨by rw [HF.out]; rfl, Below.refl _ _⟩

end Go.Proofs.Ytmmdnhfonifhdaa

namespace Go.Proofs.Ytmmdnhfonifhdaa
open Go Go.RowKit

def SQ : List (List Pt) := [[(0, 0, 2), (4, 0, 2), (4, 4, 2), (0, 4, 2)]]
def ES : List (List Pt) := [[(0, 2, 1), (0, 0, 2), (2, 0, 1), (4, 0, 2), (4, 2, 1), (4, 4, 2), (2, 4, 1), (0, 4, 2)]]
def MS : List (List Pt) := [[(1, 2, 2), (5, 2, 2), (5, 6, 2), (1, 6, 2)]]
theorem sq_chk : chkE SQ = 0 := by decide +kernel
theorem sq_two : chkE (SQ ++ SQ) = 0 := by decide +kernel
theorem sq_none : chkE [[]] = 101 := by decide +kernel
theorem sq_ex : SQ.map exE = ES := by decide +kernel
theorem sq_mv : (SQ.map fun L => L.map (mvP 1 2)) = MS := by decide +kernel
theorem sq_box : boxO SQ = ⟨0, 0, 4, 4⟩ := by kernel_rfl
theorem sq_cnt : cntO (SQ ++ SQ) = 8 := by decide +kernel
theorem sm_sq : Sm SQ := ⟨by decide, fun L hL => by simp [SQ] at hL; subst hL; decide⟩
theorem sm2_sq : Sm2 SQ := ⟨by decide, fun L hL => by simp [SQ] at hL; subst hL; decide⟩
theorem up {w w1 : World} {A : Option Addr} {Ls : List (List Pt)} (h : OutAt w w.heap.size A Ls) (b : Below w.heap.size w w1) : OutAt w1 w1.heap.size A Ls := (h.below b).more b.size

theorem sq_cells (w : World) : Lists (w.alloc (.cells (ptCells [(0, 0, 2), (4, 0, 2), (4, 4, 2), (0, 4, 2)]).toArray 43)) (w.heap.size + 1) (some ⟨w.heap.size, 0, none⟩) (ptCells [(0, 0, 2), (4, 0, 2), (4, 4, 2), (0, 4, 2)]) :=
  ⟨fun ha => (nomatch ha), fun a ha j u hu => by
    cases ha
    rw [addr_plain, World.cell?_alloc_new, Nat.zero_add, List.getElem?_toArray]
    exact hu, fun a ha _ => by cases ha; simp⟩
theorem square_any (w : World) : Calls Try.prog 25 #[] w fun e w' => ∃ A c, e = .returned (.slice A 1 c) ∧ OutAt w' w'.heap.size A SQ ∧ Below w.heap.size w w' := by
  have hl := sq_cells w
  go_enter Try.func25, Try.ntmps25
  go_wp2
  go_ret
  have b1 : Below w.heap.size w (w.alloc (.cells (ptCells [(0, 0, 2), (4, 0, 2), (4, 4, 2), (0, 4, 2)]).toArray 43)) := below_a1 _ _
  refine ⟨some ⟨w.heap.size + 1, 0, none⟩, 1, rfl, ⟨fun i L h => ?_⟩, b1.alloc b1.size _⟩
  match i, h with
  | 0, h =>
    simp [SQ] at h; subst h
    refine ⟨w.heap.size + 1, 0, some ⟨w.heap.size, 0, none⟩, 4, rfl, by simp, ?_, ?_⟩
    · have := World.cell?_alloc_new (w.alloc (.cells (ptCells [(0, 0, 2), (4, 0, 2), (4, 4, 2), (0, 4, 2)]).toArray 43)) #[.slice (some ⟨w.heap.size, 0, none⟩) 4 4] 48 0
      rw [World.size_alloc] at this
      exact this
    · exact (hl.alloc (by simp) _).more (by simp)
  | i + 1, h => simp [SQ] at h

theorem func_nil (f : Fn) (a b : Array Value) (w : World) : (binOp .eql 38 (.func f a b) .nilFunc).run Try.prog w = .ok (.bool false) w := by
  have hu := Try.underlying38
  have key : ∀ (d : Nat) (w : World), (Op.equalIn (d + 1) 38 (.func f a b) .nilFunc).run Try.prog w = .ok false w := fun d w => by
    simp [Op.equalIn, run_underlying hu]
  simp only [binOp]
  simp [Op.equal, Op.maxDepth, key 9999]
def HasOut (k : Nat) (Ls : List (List Pt)) (w : World) (e : Ending) (w' : World) : Prop := ∃ A c, e = .returned (.tuple #[.slice A k c, .int .i64 0]) ∧ OutAt w' w'.heap.size A Ls ∧ Below w.heap.size w w'
section
variable (w : World) (A : Option Addr) (c : Nat) (h : OutAt w w.heap.size A SQ)
include h
theorem sq_explicit : Calls Try.prog 16 #[.slice A 1 c] w (HasOut 1 ES w) :=
  (explicits_any w.heap.size A c SQ w (Nat.le_refl _) h sm_sq).mono fun e w' k => by
    obtain ⟨v, h1, h2, h3⟩ := k.2 sq_chk
    rw [sq_ex] at h2
    obtain ⟨A', c', rfl, o⟩ := h2.out
    exact ⟨A', c', h1, o, h3⟩
theorem sq_hull : Calls Try.prog 10 #[.slice A 1 c] w fun e w' => e = .returned (.tuple #[.agg #[.int .i64 0, .int .i64 0, .int .i64 4, .int .i64 4], .int .i64 0]) ∧ Below w.heap.size w w' := by
  have := hull_any w.heap.size A c SQ w (Nat.le_refl _) h sm_sq sq_chk
  rw [sq_box] at this
  exact this
theorem sq_apply : Calls Try.prog 26 #[.slice A 1 c, .agg #[.int .i64 16384, .int .i64 0, .int .i64 0, .int .i64 16384], .int .i64 1, .int .i64 2] w (HasOut 1 MS w) :=
  (apply1_any w.heap.size A c SQ 1 2 w (Nat.le_refl _) h sm_sq sq_chk rfl rfl (fun L hL p hp => by simp [SQ] at hL; subst hL; simp at hp; rcases hp with rfl | rfl | rfl | rfl <;> decide)).mono fun e w' ⟨v, h1, h2, h3⟩ => by
    rw [sq_mv] at h2
    obtain ⟨A', c', rfl, o⟩ := h2.out
    exact ⟨A', c', h1, o, h3⟩
theorem sq_join : Calls Try.prog 21 #[.slice A 1 c, .slice A 1 c] w (HasOut 2 (SQ ++ SQ) w) :=
  (ojoin_any w.heap.size A A c c SQ SQ w (Nat.le_refl _) h h sm2_sq sm2_sq).mono fun e w' k => by
    obtain ⟨v, h1, h2, h3⟩ := k.2 (by unfold joinE; rw [if_pos sq_chk, if_pos sq_chk, sq_two])
    obtain ⟨A', c', rfl, o⟩ := h2.out
    exact ⟨A', c', h1, o, h3⟩
theorem sq_curves : Calls Try.prog 19 #[.slice A 1 c] w fun e w' => ∃ k, e = .returned (.func (.func 35) #[] #[.pointer (some ⟨k, 0, none⟩)]) ∧ Below w.heap.size w w' :=
  (curves_any w.heap.size A c SQ w (Nat.le_refl _) h sm_sq).mono fun _ _ ⟨k, _, _, _, h1, _, _, _, _, h2⟩ => ⟨k, h1, h2⟩
theorem sq_check : Calls Try.prog 12 #[.slice A 1 c] w fun e w' => e = .returned (.int .i64 0) ∧ Below w.heap.size w w' := by
  have := check_any w.heap.size A c SQ w (Nat.le_refl _) h sm_sq
  rw [sq_chk] at this
  exact this
theorem sq_reverse : Calls Try.prog 22 #[.slice A 1 c] w fun e w' => ∃ A' c', e = .returned (.slice A' 1 c') ∧ Below w.heap.size w w' :=
  (reverse_any w.heap.size A c SQ w (Nat.le_refl _) h sm_sq).mono fun e w' ⟨v, h1, h2, h3⟩ => by
    obtain ⟨A', c', rfl, o⟩ := h2.out
    exact ⟨A', c', h1, h3⟩
theorem sq_same (A2 : Option Addr) (c2 : Nat) (h2 : OutAt w w.heap.size A2 SQ) : Calls Try.prog 24 #[.slice A 1 c, .slice A2 1 c2] w fun e w' => e = .returned (.bool true) ∧ Below w.heap.size w w' :=
  same_any w.heap.size A A2 c c2 SQ SQ w (Nat.le_refl _) h h2 sm_sq sm_sq true (by simp)
theorem sq_differ (A2 : Option Addr) (c2 : Nat) (h2 : OutAt w w.heap.size A2 (SQ ++ SQ)) : Calls Try.prog 24 #[.slice A 1 c, .slice A2 2 c2] w fun e w' => e = .returned (.bool false) ∧ Below w.heap.size w w' :=
  same_any w.heap.size A A2 c c2 SQ (SQ ++ SQ) w (Nat.le_refl _) h h2 sm_sq (sm2_sq.app sm2_sq) false (by decide +kernel)
end
theorem sq_count (w : World) (A : Option Addr) (c : Nat) (h : OutAt w w.heap.size A (SQ ++ SQ)) : Calls Try.prog 13 #[.slice A 2 c] w fun e w' => e = .returned (.int .i64 8) ∧ Below w.heap.size w w' := by
  have := count_any w.heap.size A c (SQ ++ SQ) w (Nat.le_refl _) h (sm2_sq.app sm2_sq)
  rw [sq_cnt] at this
  exact this
theorem none_check (w : World) (k : Nat) (hk : k = w.heap.size + 1) : Calls Try.prog 12 #[.slice (some ⟨k, 0, none⟩) 1 1] ((w.alloc (.cells #[] 43)).alloc (.cells #[.slice (some ⟨w.heap.size, 0, none⟩) 0 0] 48)) fun e w' => e = .returned (.int .i64 101) ∧ Below w.heap.size w w' := by
  subst hk
  have ho : OutAt ((w.alloc (.cells #[] 43)).alloc (.cells #[.slice (some ⟨w.heap.size, 0, none⟩) 0 0] 48)) ((w.alloc (.cells #[] 43)).alloc (.cells #[.slice (some ⟨w.heap.size, 0, none⟩) 0 0] 48)).heap.size (some ⟨w.heap.size + 1, 0, none⟩) [[]] := ⟨fun i L h => by
    match i, h with
    | 0, h =>
      simp at h; subst h
      refine ⟨w.heap.size + 1, 0, some ⟨w.heap.size, 0, none⟩, 0, rfl, by simp, ?_, Lists.empty _ _ _⟩
      have := World.cell?_alloc_new (w.alloc (.cells #[] 43)) #[.slice (some ⟨w.heap.size, 0, none⟩) 0 0] 48 0
      rw [World.size_alloc] at this
      exact this
    | i + 1, h => simp at h⟩
  have := check_any _ (some ⟨w.heap.size + 1, 0, none⟩) 1 [[]] ((w.alloc (.cells #[] 43)).alloc (.cells #[.slice (some ⟨w.heap.size, 0, none⟩) 0 0] 48)) (Nat.le_refl _) ho ⟨by decide, fun L hL => by simp at hL; subst hL; decide⟩
  rw [sq_none] at this
  exact this.mono fun e w' ⟨h1, h2⟩ => ⟨h1, (below_a2 w _ _).trans (h2.mono (by simp; omega))⟩

set_option maxRecDepth 100000 in
set_option maxHeartbeats 4000000 in
theorem lives10 (w : World) : Calls Try.prog 8 #[] w fun e w' => e = .returned (.bool true) ∧ Below w.heap.size w w' := by
  have p1 := eqP_run 0 2 1 0 2 1 true rfl
  have p2 := eqP_guard 0 2 1 0 2 1
  have p3 := eqP_run 5 2 2 5 2 2 true rfl
  have p4 := eqP_guard 5 2 2 5 2 2
  have p5 := eqB_run 0 0 4 4 0 0 4 4
  rw [show eq4 0 0 4 4 0 0 4 4 = true from rfl] at p5
  have p6 := eqB_guard 0 0 4 4 0 0 4 4
  have p7 := func_nil
  go_enter Try.func8, Try.ntmps8
  go_wp2_with (first
    | (go_at_call 25; ((with_reducible refine (square_any w).mono ?_); rintro e w1 ⟨A1, c1, rfl, o1, b1⟩))
    | (go_at_call 16; ((with_reducible refine (sq_explicit _ A1 c1 o1).mono ?_); rintro e w2 ⟨A2, c2, rfl, o2, b2⟩; have B2 := b1.trans (b2.mono b1.size); have o1 := up o1 b2))
    | (go_at_call 10; ((with_reducible refine (sq_hull _ A1 c1 o1).mono ?_); rintro e w3 ⟨rfl, b3⟩; have b3 := b3.alloc b3.size (.cells #[.int .i64 0, .int .i64 0, .int .i64 4, .int .i64 4] 28); have B3 := B2.trans (b3.mono B2.size); have o1 := up o1 b3; have o2 := up o2 b3; have kb := Blk.new w3 28 #[.int .i64 0, .int .i64 0, .int .i64 4, .int .i64 4]))
    | (go_at_call 26; ((with_reducible refine (sq_apply _ A1 c1 o1).mono ?_); rintro e w4 ⟨A4, c4, rfl, o4, b4⟩; have B4 := B3.trans (b4.mono B3.size); have o1 := up o1 b4; have o2 := up o2 b4; have kb := kb.below b4))
    | (go_at_call 21; ((with_reducible refine (sq_join _ A1 c1 o1).mono ?_); rintro e w5 ⟨A5, c5, rfl, o5, b5⟩; have B5 := B4.trans (b5.mono B4.size); have o1 := up o1 b5; have o2 := up o2 b5; have o4 := up o4 b5; have kb := kb.below b5))
    | (go_at_call 19; ((with_reducible refine (sq_curves _ A1 c1 o1).mono ?_); rintro e w6 ⟨k6, rfl, b6⟩; have B6 := B5.trans (b6.mono B5.size); have o1 := up o1 b6; have o2 := up o2 b6; have o4 := up o4 b6; have o5 := up o5 b6; have kb := kb.below b6; obtain ⟨eb, eo, Ei, ei, rfl, e1, e2, e3⟩ := o2.at' 0 _ rfl; obtain ⟨fb, fo, rfl, f1, f2, f3, f4⟩ := lists_pt e3 (k := 0) rfl; obtain ⟨gb, go, Gi, gi, rfl, g1, g2, g3⟩ := o4.at' 0 _ rfl; obtain ⟨hb, ho, rfl, h1, h2, h3, h4⟩ := lists_pt g3 (k := 1) rfl; have k0 := kb.cell 0; have k1 := kb.cell 1; have k2 := kb.cell 2; have k3 := kb.cell 3; have k4 := kb.lt; simp only [Nat.zero_mul, Nat.one_mul, Nat.add_zero, List.length_cons, List.length_nil, Nat.zero_add, Nat.reduceAdd] at e2 f2 f3 f4 g2 h2 h3 h4; simp only [List.getElem?_toArray, List.getElem?_cons_zero, List.getElem?_cons_succ] at k0 k1 k2 k3))
    | (go_at_call 12; ((with_reducible refine (sq_check _ A1 c1 o1).mono ?_); rintro e w7 ⟨rfl, b7⟩; have B7 := B6.trans (b7.mono B6.size); have o1 := up o1 b7; have o5 := up o5 b7))
    | (go_at_call 12; ((with_reducible refine (none_check _ _ rfl).mono ?_); rintro e w8 ⟨rfl, b8⟩; have B8 := B7.trans (b8.mono B7.size); have o1 := up o1 b8; have o5 := up o5 b8))
    | (go_at_call 13; ((with_reducible refine (sq_count _ A5 c5 o5).mono ?_); rintro e w9 ⟨rfl, b9⟩; have B9 := B8.trans (b9.mono B8.size); have o1 := up o1 b9; have o5 := up o5 b9))
    | (go_at_call 25; ((with_reducible refine (square_any w9).mono ?_); rintro e w10 ⟨A10, c10, rfl, o10, b10⟩; have B10 := B9.trans (b10.mono B9.size); have o1 := up o1 b10; have o5 := up o5 b10))
    | (go_at_call 24; ((with_reducible refine (sq_same _ A1 c1 o1 A10 c10 o10).mono ?_); rintro e w11 ⟨rfl, b11⟩; have B11 := B10.trans (b11.mono B10.size); have o1 := up o1 b11; have o5 := up o5 b11))
    | (go_at_call 24; ((with_reducible refine (sq_differ _ A1 c1 o1 A5 c5 o5).mono ?_); rintro e w12 ⟨rfl, b12⟩; have B12 := B11.trans (b12.mono B11.size); have o1 := up o1 b12))
    | (go_at_call 22; ((with_reducible refine (sq_reverse _ A1 c1 o1).mono ?_); rintro e w13 ⟨A13, c13, rfl, b13⟩; have B13 := B12.trans (b13.mono B12.size))))
  go_ret
  exact ⟨rfl, B13⟩

end Go.Proofs.Ytmmdnhfonifhdaa
