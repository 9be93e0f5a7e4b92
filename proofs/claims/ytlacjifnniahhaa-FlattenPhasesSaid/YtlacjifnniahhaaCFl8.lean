/- Part 9 of the proof: FlW, FlJ, FlK, CvW, CvB. -/
import Derived.Deep.Cut
import Derived.Deep.CutBlock
import Derived.RangeFuncKeeps
import Derived.RangeFuncCalls
import Derived.RangeFuncLeaves
import Derived.RangeFuncFrom
import Derived.RangeFuncNested
import Derived.RangeFuncBound
import Derived.Shelf.Abstract
import Derived.Shelf.RegionOpen
import Derived.WalkKit
import Derived.OwnWalkIn
import Derived.TacticsInMore
import Derived.LoopNIn
import Derived.LoopIn
import Derived.Test.YtlacjifnniahhaaCFl7

namespace Go.Proofs.Ytlacjifnniahhaa
open Go Go.RowKit
set_option linter.unusedVariables false
theorem own_noneF (w : World) (T : TypeId) (size k : Nat) (hk : k = w.heap.size) : (w.alloc (.cells #[] T)).ownsRow k T size (.slice (some ⟨k, 0, none⟩) 0 0) 0 [] := by
  subst hk
  exact ⟨by simp, .inr ⟨w.heap.size, 0, #[], rfl, Nat.le_refl _, heap_alloc_new w _, Nat.le_refl _, Nat.zero_le _, by simp, by simp⟩⟩
theorem own_stayF {w w1 : World} {base : Nat} {e : TypeId} {size n : Nat} {v : Value} {xs : List Value} (h : w.ownsRow base e size v n xs) (b : Below w.heap.size w w1) : w1.ownsRow base e size v n xs :=
  own_only h (Only.of_below b []) fun _ _ h => (nomatch h)
theorem own_monoF {w : World} {base base1 : Nat} {e : TypeId} {size n : Nat} {v : Value} {xs : List Value} (h : w.ownsRow base e size v n xs) (hb : base1 ≤ base) : w.ownsRow base1 e size v n xs := by
  refine ⟨h.1, ?_⟩
  rcases h.2 with h1 | ⟨g, cap, cur, h1, h2, h3⟩
  · exact .inl h1
  · exact .inr ⟨g, cap, cur, h1, Nat.le_trans hb h2, h3⟩
section
variable {α : Type} {f : α → List Value} {T TS : TypeId} {sz : Nat}
def InnerF (f : α → List Value) (T : TypeId) (sz : Nat) (w : World) (base : Nat) (Ls : List (List α)) (rows : List Value) : Prop :=
  (∀ (i : Nat) (L : List α), Ls[i]? = some L → ∃ r, rows[i]? = some r ∧ w.ownsRow base T sz r L.length (L.flatMap f)) ∧
  ∀ (i j : Nat) (r s : Value), i ≠ j → rows[i]? = some r → rows[j]? = some s → ∀ b ∈ blk r, b ∉ blk s
/-- An outline that the call owns: the list of contours, and each contour in memory of its own. -/
def Own2F (f : α → List Value) (T TS : TypeId) (sz : Nat) (w : World) (base : Nat) (v : Value) (Ls : List (List α)) : Prop :=
  ∃ rows : List Value, w.ownsRow base TS 1 v Ls.length rows ∧ InnerF f T sz w base Ls rows
theorem Own2F.nil (w : World) (base : Nat) : Own2F f T TS sz w base (.slice none 0 0) [] := ⟨[], World.ownsRow_nil _ _ _ _, fun i L h => by simp at h, fun i j r s _ h => by simp at h⟩
theorem InnerF.below {w w1 : World} {base : Nat} {Ls : List (List α)} {rows : List Value} (h : InnerF f T sz w base Ls rows) (b : Below w.heap.size w w1) : InnerF f T sz w1 base Ls rows :=
  ⟨fun i L hL => by
    obtain ⟨r, h1, h2⟩ := h.1 i L hL
    exact ⟨r, h1, own_stayF h2 b⟩, h.2⟩
theorem Own2F.below {w w1 : World} {base : Nat} {v : Value} {Ls : List (List α)} (h : Own2F f T TS sz w base v Ls) (b : Below w.heap.size w w1) : Own2F f T TS sz w1 base v Ls := by
  obtain ⟨rows, h1, h2⟩ := h
  exact ⟨rows, own_stayF h1 b, h2.below b⟩
theorem Own2F.mono {w : World} {base base1 : Nat} {v : Value} {Ls : List (List α)} (h : Own2F f T TS sz w base v Ls) (hb : base1 ≤ base) : Own2F f T TS sz w base1 v Ls := by
  obtain ⟨rows, h1, h2, h3⟩ := h
  refine ⟨rows, own_monoF h1 hb, fun i L hL => ?_, h3⟩
  obtain ⟨r, h4, h5⟩ := h2 i L hL
  exact ⟨r, h4, own_monoF h5 hb⟩
theorem own2F_push (hTS : T ≠ TS) {w w1 W w2 : World} {base : Nat} {v v2 r : Value} {Ls : List (List α)} {L : List α} {rows : List Value} (hb : base ≤ w.heap.size) (ho : w.ownsRow base TS 1 v Ls.length rows) (hi : InnerF f T sz w base Ls rows)
    (b1 : Below w.heap.size w w1) (hr : w1.ownsRow w.heap.size T sz r L.length (L.flatMap f)) (b2 : Below w1.heap.size w1 W) (own2 : w2.ownsRow base TS 1 v2 (Ls.length + 1) (rows ++ [r])) (hg : W.grownBy w2 v.ownBlock) : Own2F f T TS sz w2 base v2 (Ls ++ [L]) := by
  have o2 : Only W w2 (blk v) := (Only.refl _ _).grown hg (fun b hb => .inl (by simp [blk, hb]))
  have hoW := own_stayF (own_stayF ho b1) b2
  have hlen : rows.length = Ls.length := by simpa using ho.1
  have stay : ∀ {q : Value} {m : Nat} {cs : List Value}, W.ownsRow base T sz q m cs → w2.ownsRow base T sz q m cs := fun hq => own_only hq o2 (fun b h1 h2 => own_own hq hoW hTS b h1 h2)
  refine ⟨rows ++ [r], by simpa using own2, fun i M hM => ?_, fun i j p s hne hp hs b hbp hbs => ?_⟩
  · rcases Nat.lt_or_ge i Ls.length with h | h
    · rw [List.getElem?_append_left h] at hM
      obtain ⟨q, h1, h2⟩ := hi.1 i M hM
      exact ⟨q, by rw [List.getElem?_append_left (by omega)]; exact h1, stay (own_stayF (own_stayF h2 b1) b2)⟩
    · have h0 : i = Ls.length := by
        have := (List.getElem?_eq_some_iff.1 hM).1
        simp at this; omega
      subst h0
      simp at hM
      subst hM
      refine ⟨r, by rw [← hlen]; simp, stay (own_monoF (own_stayF hr b2) hb)⟩
  · have hlast : ∀ (k : Nat) (x : Value), (rows ++ [r])[k]? = some x → (k < rows.length ∧ rows[k]? = some x) ∨ (k = rows.length ∧ x = r) := fun k x hx => by
      rcases Nat.lt_or_ge k rows.length with h | h
      · rw [List.getElem?_append_left h] at hx
        exact .inl ⟨h, hx⟩
      · have h0 : k = rows.length := by
          have := (List.getElem?_eq_some_iff.1 hx).1
          simp at this; omega
        subst h0
        simp at hx
        exact .inr ⟨rfl, hx.symm⟩
    have old : ∀ (k : Nat) (x : Value), k < rows.length → rows[k]? = some x → ∀ b ∈ blk x, b < w.heap.size := fun k x hk hx b hm => by
      obtain ⟨M, hM⟩ := at_someF (L := Ls) (k := k) (by omega)
      obtain ⟨q, h1, h2⟩ := hi.1 k M hM
      rw [hx] at h1; cases h1
      exact own_ltB h2 b hm
    have new : ∀ b ∈ blk r, w.heap.size ≤ b := own_lowB hr
    rcases hlast i p hp with ⟨h1, h2⟩ | ⟨h1, rfl⟩
    · rcases hlast j s hs with ⟨h3, h4⟩ | ⟨h3, rfl⟩
      · exact hi.2 i j p s hne h2 h4 b hbp hbs
      · have := old i p h1 h2 b hbp
        have := new b hbs
        omega
    · rcases hlast j s hs with ⟨h3, h4⟩ | ⟨h3, rfl⟩
      · have := old j s h3 h4 b hbs
        have := new b hbp
        omega
      · omega
theorem Own2F.out {w : World} {base : Nat} {v : Value} {Ls : List (List α)} (h : Own2F f T TS sz w base v Ls) : ∃ A c, v = .slice A Ls.length c ∧ Ls.length ≤ c ∧ OutF f w w.heap.size A Ls := by
  obtain ⟨rows, h1, h2, _⟩ := h
  obtain ⟨A, c, rfl, hl, hc⟩ := own_lists h1
  refine ⟨A, c, rfl, hc, ⟨fun i L hL => ?_⟩⟩
  obtain ⟨r, hr, hro⟩ := h2 i L hL
  obtain ⟨Ai, ci, rfl, hli, _⟩ := own_lists hro
  obtain ⟨b, o, rfl, hb, hcell⟩ := hl.plain (by intro e; subst e; simp at hr)
  exact ⟨b, o, Ai, ci, rfl, hb, hcell i _ hr, hli⟩

end
end Go.Proofs.Ytlacjifnniahhaa

namespace Go.Proofs.Ytlacjifnniahhaa
open Go Go.RowKit Go.Shelf
attribute [local go_sem] Oper.semAt_some
set_option linter.unusedVariables false
set_option linter.unusedSimpArgs false

def mvD (dx dy : Int) (d : Dt) : Dt := (wrap64 (d.1 + dx), wrap64 (d.2 + dy))
def mvL (dx dy : Int) (Ls : List (List Dt)) : List (List Dt) := Ls.map fun L => L.map (mvD dx dy)
def HoldXY (w : World) (bx bY : Nat) (dx dy : Int) : Prop := Blk w bx 3 #[.int .i64 dx] ∧ Blk w bY 3 #[.int .i64 dy]
set_option maxRecDepth 100000 in
theorem fmove1_any (d : Dt) (dx dy : Int) (bx bY : Nat) (w : World) (h : HoldXY w bx bY dx dy) : Calls Try.prog 55 #[.agg #[.int .i64 d.1, .int .i64 d.2], .pointer (some ⟨bx, 0, none⟩), .pointer (some ⟨bY, 0, none⟩)] w fun e w' => e = .returned (.agg #[.int .i64 (mvD dx dy d).1, .int .i64 (mvD dx dy d).2]) ∧ Below w.heap.size w w' := by
  have B2 := below_a2 w (.cells #[.int .i64 d.1, .int .i64 d.2] 27) (.cells #[.int .i64 0, .int .i64 0] 27)
  have x0 := (h.1.below B2).cell 0
  have y0 := (h.2.below B2).cell 0
  have xl := h.1.lt
  have yl := h.2.lt
  have K3 := (Blk.new w 27 #[.int .i64 d.1, .int .i64 d.2]).below (below_a1 _ (.cells #[.int .i64 0, .int .i64 0] 27))
  have K4 := Blk.new (w.alloc (.cells #[.int .i64 d.1, .int .i64 d.2] 27)) 27 #[.int .i64 0, .int .i64 0]
  rw [World.size_alloc] at K4
  obtain ⟨wA, hwA⟩ : ∃ wA, wA = (w.alloc (.cells #[.int .i64 d.1, .int .i64 d.2] 27)).alloc (.cells #[.int .i64 0, .int .i64 0] 27) := ⟨_, rfl⟩
  rw [← hwA] at B2 x0 y0 K3 K4
  simp only [List.getElem?_toArray, List.getElem?_cons_zero] at x0 y0
  have d0 := K3.cell 0; have d1 := K3.cell 1; have dl := K3.lt; simp only [List.getElem?_toArray, List.getElem?_cons_succ, List.getElem?_cons_zero] at d0 d1
  have r0 := K4.cell 0; have r1 := K4.cell 1; have rl := K4.lt; simp only [List.getElem?_toArray, List.getElem?_cons_succ, List.getElem?_cons_zero] at r0 r1
  have r3 := K4.frozen 0
  have r4 := K4.frozen 1
  have HA := Lib.hid hwA
  have H4 := Lib.hid K4
  have HB := Lib.hid B2
  have hs := B2.size
  clear hwA B2 K3 K4 h
  go_enter Try.func55, Try.ntmps55
  go_upto_region 1 with fail
  rw [← HA.out]
  go_wp2
  have K5 := (H4.out.set 0 (.int .i64 (wrap64 (d.1 + dx)))).set 1 (.int .i64 (wrap64 (d.2 + dy)))
  refine bodyPost_ret (results_cell_row Try.results55 _ _ (w.heap.size + 1) 27 #[.int .i64 (wrap64 (d.1 + dx)), .int .i64 (wrap64 (d.2 + dy))] (0, 0) _ (by rfl) (show Blk _ _ _ _ from K5) Try.underlying27 rfl (by kernel_rfl)) rfl ⟨rfl, ?_⟩
  exact HB.out.trans (((Only.refl _ [w.heap.size + 1]).set (.inl (by simp)) _ |>.set (.inl (by simp)) _).to_below HB.out.size (by simp))
theorem dtInfoB : (Try.prog.info? 27).map (fun i => (i.zero, i.size, i.bytes)) = some (some (.agg #[.int .i64 0, .int .i64 0]), 2, 16) := by kernel_rfl
theorem rtInfoB : (Try.prog.info? 61).map (fun i => (i.zero, i.size, i.bytes)) = some (some (.slice none 0 0), 1, 24) := by kernel_rfl
theorem mv_take (dx dy : Int) (L : List Dt) (k : Nat) : (L.map (mvD dx dy)).take k = (L.take k).map (mvD dx dy) := (List.map_take).symm
set_option maxRecDepth 100000 in
set_option maxHeartbeats 4000000 in
theorem fchg_any (A : Option Addr) (c : Nat) (Ls : List (List Dt)) (dx dy : Int) (bx bY : Nat) (w : World) (h : OutF dtL w w.heap.size A Ls) (hs : SmF Ls) (hxy : HoldXY w bx bY dx dy) : Calls Try.prog 54 #[.slice A Ls.length c, (.func (.func 55) #[] #[.pointer (some ⟨bx, 0, none⟩), .pointer (some ⟨bY, 0, none⟩)])] w fun e w' => ∃ v, e = .returned v ∧ Own2F dtL 27 61 2 w' w.heap.size v (mvL dx dy Ls) ∧ Below w.heap.size w w' := by
  obtain ⟨i1, hi1, hz1, hs1, hy1⟩ := info_partsB dtInfoB
  obtain ⟨i2, hi2, hz2, hs2, hy2⟩ := info_partsB rtInfoB
  have HI1 := Lib.hid (And.intro hi1 (And.intro hz1 (And.intro hs1 hy1)))
  have HI2 := Lib.hid (And.intro hi2 (And.intro hz2 (And.intro hs2 hy2)))
  have hn := hs.1
  have HM := Lib.hid (fun (L : List Dt) (hL : L ∈ Ls) => hs.len hL)
  have HL := Lib.hid (And.intro h hxy)
  obtain ⟨n, hnn⟩ : ∃ n, n = Ls.length := ⟨_, rfl⟩
  rw [← hnn] at hn ⊢
  have HN := Lib.hid hnn
  have HML := Lib.hid (show mvL dx dy Ls = Ls.map fun L => L.map (mvD dx dy) from rfl)
  clear h hnn hs hi1 hz1 hs1 hy1 hi2 hz2 hs2 hy2 hxy
  go_enter Try.func54, Try.ntmps54
  go_wp2
  go_loopw [5, 13] (fun v i wr => ∃ k : Nat, k ≤ n ∧ i = .int .i64 k ∧ Own2F dtL 27 61 2 wr w.heap.size v (mvL dx dy (Ls.take k)) ∧ Below w.heap.size w wr) (fun _ i _ => n - (intOf i).toNat)
  case atStart => exact ⟨0, Nat.zero_le _, rfl, Own2F.nil _ _, Below.refl _ _⟩
  case round =>
    obtain ⟨k, hk, rfl, hO, hb⟩ := hrel
    by_cases hlt : k < n
    · have d1 : decide ((k : Int) < (n : Int)) = true := by simp; omega
      obtain ⟨L, hL⟩ := at_someF (L := Ls) (k := k) (by rw [← HN.out]; exact hlt)
      obtain ⟨b, o, Ai, ci, rfl, hbl, c0, hE⟩ := HL.out.1.at' k L hL
      have g0 := (hb.cell (p := ⟨b, o + k, none⟩) hbl).trans c0
      have hbs := hb.size
      have g3 : b < wr.heap.size := by omega
      have HT := Lib.hid (show mvL dx dy (Ls.take (k + 1)) = mvL dx dy (Ls.take k) ++ [L.map (mvD dx dy)] by unfold mvL; rw [take_snocF hL, List.map_append]; rfl)
      have hl : L.length ≤ 100000 := HM.out L (List.mem_of_getElem? hL)
      obtain ⟨rows, ho, hi⟩ := hO
      have hkl : (mvL dx dy (Ls.take k)).length = k := by unfold mvL; rw [List.length_map, List.length_take]; have := HN.out; omega
      have HK := Lib.hid hkl
      rw [hkl] at ho
      have HO := Lib.hid (And.intro ho hi)
      have HE := Lib.hid hE
      obtain ⟨m, hm⟩ : ∃ m, m = L.length := ⟨_, rfl⟩
      rw [← hm] at g0 hl
      have HMm := Lib.hid hm
      have HB := Lib.hid hb
      obtain ⟨wo, hwo⟩ : ∃ wo, wo = wr := ⟨_, rfl⟩
      rw [← hwo] at HO HB hbs g0 g3 ⊢
      clear c0 hE hL ho hi hkl hb hm hwo
      go_wp2
      go_loopw [8, 19] (fun v i wr => ∃ j : Nat, j ≤ m ∧ i = .int .i64 j ∧ wr.ownsRow wo.heap.size 27 2 v j (((L.take j).map (mvD dx dy)).flatMap dtL) ∧ Below wo.heap.size wo wr) (fun _ i _ => m - (intOf i).toNat)
      case atStart => exact ⟨0, Nat.zero_le _, rfl, World.ownsRow_nil _ _ _ _, Below.refl _ _⟩
      case round =>
        clear g0 g3
        obtain ⟨j, hj, rfl, ho, hb⟩ := hrel
        by_cases hjm : j < m
        · have d2 : decide ((j : Int) < (m : Int)) = true := by simp; omega
          obtain ⟨x, hx⟩ := at_someF (L := L) (k := j) (by rw [← HMm.out]; exact hjm)
          obtain ⟨fb, fo, hA, hfb, hfc⟩ := lists_flat dtLen (by omega) HE.out hx
          subst hA
          have hf0 := hfc 0 _ rfl
          have hf1 := hfc 1 _ rfl
          rw [Nat.add_zero] at hf0
          have hBB := HB.out.trans (hb.mono hbs)
          have q0 := (hBB.cell (p := ⟨fb, fo + j * 2, none⟩) hfb).trans hf0
          have q1 := (hBB.cell (p := ⟨fb, fo + j * 2 + 1, none⟩) hfb).trans hf1
          have hbz := hb.size
          have hfl : fb < wr.heap.size := by omega
          have ba : Below wr.heap.size wr (wr.alloc (.cells #[.int .i64 x.1, .int .i64 x.2] 27)) := below_a1 _ _
          have HXY : HoldXY (wr.alloc (.cells #[.int .i64 x.1, .int .i64 x.2] 27)) bx bY dx dy := ⟨HL.out.2.1.below (hBB.trans (ba.mono (by omega))), HL.out.2.2.below (hBB.trans (ba.mono (by omega)))⟩
          have CM := fmove1_any x dx dy bx bY _ HXY
          have HT2 := Lib.hid (show (L.take (j + 1)).map (mvD dx dy) = (L.take j).map (mvD dx dy) ++ [mvD dx dy x] by rw [take_snocF hx, List.map_append]; rfl)
          have HOW := Lib.hid ho
          have HBL := Lib.hid hb
          obtain ⟨y, hy⟩ : ∃ y, y = mvD dx dy x := ⟨_, rfl⟩
          rw [← hy] at CM HT2
          clear hf0 hf1 hfc hx ho hb hBB HXY hy
          go_wp2_with (first
            | (go_at_call 55; (with_reducible refine (CM).mono ?_); rintro e w5 ⟨rfl, b5⟩; have HB5 := Lib.hid (ba.trans (b5.mono ba.size)))
            | (at_builtin; refine wpList_append_src _ rfl (.tmp 23) (.tmp 27) 61 rfl wo.heap.size 27 i1 (.agg #[.int .i64 0, .int .i64 0]) 2 16 Try.underlying61 HI1.out.1 HI1.out.2.1 HI1.out.2.2.1 HI1.out.2.2.2 rfl (by decide) _ j _ rfl (own_stayF (own_stayF HOW.out HB5.out) (below_a1 _ _)) _ _ 1 1 [.int .i64 y.1, .int .i64 y.2] rfl (lists_row w5 [.int .i64 y.1, .int .i64 y.2] _) rfl (fun u hu => by simp at hu; rcases hu with rfl | rfl <;> rfl) (by simp only [maxLen]; omega) (by omega) (by have := HB5.out.size; simp; omega) ?_; intro v6 w6 own6 hg6 hat6))
          have b6 : Below wo.heap.size wo w6 := ((HBL.out.trans (HB5.out.mono hbz)).alloc (by have := HB5.out.size; omega) _).grown hg6 (by have := HB5.out.size; simp; omega) (fun jj hjj => (HOW.out.lt jj hjj).1)
          go_roundw
          case rel => exact ⟨j + 1, by omega, by go_num, by rw [HT2.out, List.flatMap_append]; exact own6, b6⟩
          case measure => simp [intOf]; omega
        · obtain rfl : j = m := by omega
          have d2 : decide ((j : Int) < (j : Int)) = false := by simp
          have hTL : L.take j = L := List.take_of_length_le (by rw [← HMm.out]; exact Nat.le_refl _)
          rw [hTL] at ho
          obtain ⟨A1, c1, rfl, _, _⟩ := own_lists ho
          have HOW := Lib.hid ho
          have HBL := Lib.hid hb
          clear ho hb hTL
          go_wp2_with (at_builtin; refine wpList_append_src _ rfl (.tmp 30) (.tmp 32) 39 rfl w.heap.size 61 i2 (.slice none 0 0) 1 24 Try.underlying39 HI2.out.1 HI2.out.2.1 HI2.out.2.2.1 HI2.out.2.2.2 rfl (by decide) _ k rows rfl (own_stayF (own_stayF HO.out.1 HBL.out) (below_a1 _ _)) _ _ 1 1 [.slice A1 j c1] rfl (lists_newB wr _ _) rfl (fun u hu => by simp at hu; subst hu; rfl) (by simp only [maxLen]; omega) (by omega) (by have := HBL.out.size; simp; omega) ?_; intro v7 w7 own7 hg7 hat7)
          go_roundw
          case rel =>
            refine ⟨k + 1, by omega, by go_num, ?_, ((HB.out.trans (HBL.out.mono hbs)).alloc (by have := HBL.out.size; omega) _).grown hg7 (by have := HBL.out.size; simp; omega) (fun jj hjj => (HO.out.1.lt jj hjj).1)⟩
            rw [HT.out]
            have e1 : (L.map (mvD dx dy)).length = j := by rw [List.length_map, HMm.out]
            exact own2F_push (by decide) hbs (by rw [HK.out]; exact HO.out.1) HO.out.2 HBL.out (by rw [e1]; exact HOW.out) (below_a1 _ _) (by rw [HK.out]; exact own7) hg7
          case measure => simp [intOf]; omega
    · obtain rfl : k = n := by omega
      have d1 : decide ((k : Int) < (k : Int)) = false := by simp
      have HT := Lib.hid (show Ls.take k = Ls from List.take_of_length_le (by rw [← HN.out]; exact Nat.le_refl _))
      go_wp2
      go_ret
      exact ⟨_, rfl, by rw [← HT.out]; exact hO, hb⟩
end Go.Proofs.Ytlacjifnniahhaa

namespace Go.Proofs.Ytlacjifnniahhaa
open Go Go.RowKit
set_option linter.unusedVariables false
set_option linter.unusedSimpArgs false

def mvE (dx dy : Int) (Ls : List (List Dt)) : Int := if mayF Ls = 0 then mayF (mvL dx dy Ls) else mayF Ls
theorem mvL_len (dx dy : Int) (Ls : List (List Dt)) : (mvL dx dy Ls).length = Ls.length := by unfold mvL; rw [List.length_map]
theorem mvL_cnt (dx dy : Int) : ∀ Ls : List (List Dt), cntF (mvL dx dy Ls) = cntF Ls
  | [] => rfl
  | L :: Ls => by
    have := mvL_cnt dx dy Ls
    unfold mvL at this ⊢
    rw [List.map_cons, cntF_cons, cntF_cons, List.length_map, this]
theorem mvL_sm {dx dy : Int} {Ls : List (List Dt)} (h : SmF Ls) : SmF (mvL dx dy Ls) := ⟨by rw [mvL_len]; exact h.1, by rw [mvL_cnt]; exact h.2⟩
/-- What Move hands back. -/
def MovP (w : World) (dx dy : Int) (Ls : List (List Dt)) (e : Ending) (w' : World) : Prop := ∃ v, e = .returned (.tuple #[v, .int .i64 (mvE dx dy Ls)]) ∧ (mvE dx dy Ls = 0 → Own2F dtL 27 61 2 w' w.heap.size v (mvL dx dy Ls)) ∧ (mvE dx dy Ls ≠ 0 → v = .slice none 0 0) ∧ Below w.heap.size w w'
set_option maxRecDepth 100000 in
set_option maxHeartbeats 1000000 in
theorem fmov_any (A : Option Addr) (c : Nat) (Ls : List (List Dt)) (dx dy : Int) (w : World) (h : OutF dtL w w.heap.size A Ls) (hs : SmF Ls) : Calls Try.prog 26 #[.slice A Ls.length c, .int .i64 dx, .int .i64 dy] w (MovP w dx dy Ls) := by
  have B2 := below_a2 w (.cells #[.int .i64 dx] 3) (.cells #[.int .i64 dy] 3)
  have CM := fmay_any A c Ls _ ((h.below B2).more B2.size) hs
  have KX := (Blk.new w 3 #[.int .i64 dx]).below (below_a1 _ (.cells #[.int .i64 dy] 3))
  have KY := Blk.new (w.alloc (.cells #[.int .i64 dx] 3)) 3 #[.int .i64 dy]
  rw [World.size_alloc] at KY
  obtain ⟨wA, hwA⟩ : ∃ wA, wA = (w.alloc (.cells #[.int .i64 dx] 3)).alloc (.cells #[.int .i64 dy] 3) := ⟨_, rfl⟩
  rw [← hwA] at B2 CM KX KY
  have HA := Lib.hid hwA
  have HB := Lib.hid B2
  have HKK := Lib.hid (And.intro KX KY)
  have HH := Lib.hid (And.intro h hs)
  obtain ⟨n, hn⟩ : ∃ n, n = Ls.length := ⟨_, rfl⟩
  rw [← hn] at CM ⊢
  have HN := Lib.hid hn
  clear hwA B2 KX KY h hs hn
  by_cases h1 : mayF Ls = 0
  · rw [h1] at CM
    have HE := Lib.hid (show mvE dx dy Ls = mayF (mvL dx dy Ls) by unfold mvE; rw [if_pos h1])
    clear h1
    go_enter Try.func26, Try.ntmps26
    go_upto_region 1 with fail
    rw [← HA.out]
    go_upto_region 4 with (go_at_call 19; (with_reducible refine (CM).mono ?_); rintro e w1 ⟨rfl, b1⟩)
    have B1 := HB.out.trans (b1.mono HB.out.size)
    have CC := fchg_any A c Ls dx dy w.heap.size (w.heap.size + 1) w1 ((HH.out.1.below B1).more B1.size) HH.out.2 ⟨HKK.out.1.below b1, HKK.out.2.below b1⟩
    rw [← HN.out] at CC
    have HB1 := Lib.hid B1
    clear B1 b1 CM
    go_upto_region 5 with (go_at_call 54; (with_reducible refine (CC).mono ?_); rintro e w2 ⟨v, rfl, ov, b2⟩)
    obtain ⟨Av, cv, rfl, hcv, hout⟩ := ov.out
    have CM2 := fmay_any Av cv (mvL dx dy Ls) w2 hout (mvL_sm HH.out.2)
    have HOV := Lib.hid ov
    have HB2 := Lib.hid (HB1.out.trans (b2.mono HB1.out.size))
    obtain ⟨k, hk⟩ : ∃ k, k = (mvL dx dy Ls).length := ⟨_, rfl⟩
    rw [← hk] at CM2 HOV ⊢
    obtain ⟨r, hr⟩ : ∃ r, r = mayF (mvL dx dy Ls) := ⟨_, rfl⟩
    rw [← hr] at CM2 HE
    clear ov hout b2 hcv hk hr CC
    by_cases h2 : r = 0
    · subst h2
      go_wp2_with (go_at_call 19; (with_reducible refine (CM2).mono ?_); rintro e w3 ⟨rfl, b3⟩)
      go_ret2
      refine ⟨_, by rw [HE.out]; rfl, fun _ => (HOV.out.below b3).mono HB1.out.size, fun h => absurd HE.out h, HB2.out.trans (b3.mono HB2.out.size)⟩
    · have d2 : (r != 0) = true := by simpa using h2
      go_wp2_with (go_at_call 19; (with_reducible refine (CM2).mono ?_); rintro e w3 ⟨rfl, b3⟩)
      go_ret2
      refine ⟨_, by rw [HE.out]; rfl, fun h => absurd (HE.out.symm.trans h) h2, fun _ => rfl, HB2.out.trans (b3.mono HB2.out.size)⟩
  · have HE := Lib.hid (show mvE dx dy Ls = mayF Ls by unfold mvE; rw [if_neg h1])
    obtain ⟨r, hr⟩ : ∃ r, r = mayF Ls := ⟨_, rfl⟩
    rw [← hr] at CM h1 HE
    have d2 : (r != 0) = true := by simpa using h1
    clear hr
    go_enter Try.func26, Try.ntmps26
    go_upto_region 1 with fail
    rw [← HA.out]
    go_wp2_with (go_at_call 19; (with_reducible refine (CM).mono ?_); rintro e w1 ⟨rfl, b1⟩)
    go_ret2
    refine ⟨_, by rw [HE.out]; rfl, fun h => absurd (HE.out.symm.trans h) h1, fun _ => rfl, HB.out.trans (b1.mono HB.out.size)⟩
end Go.Proofs.Ytlacjifnniahhaa

namespace Go.Proofs.Ytlacjifnniahhaa
open Go Go.RowKit
set_option linter.unusedVariables false
set_option linter.unusedSimpArgs false


abbrev W4 := Int × Int × Int × Int
def stp (k i : Int) (w : W4) : W4 := (w.1 * k, w.2.1 * k + w.1 * i, w.2.2.1 * k + w.2.1 * i, w.2.2.2 * k + w.2.2.1 * i)
def wts (k i : Int) : Nat → W4
  | 0 => (1, 0, 0, 0)
  | t + 1 => stp k i (wts k i t)
def w4L (w : W4) : Array Value := #[.int .i64 w.1, .int .i64 w.2.1, .int .i64 w.2.2.1, .int .i64 w.2.2.2]
def W4le (w : W4) (B : Int) : Prop := (0 ≤ w.1 ∧ w.1 ≤ B) ∧ (0 ≤ w.2.1 ∧ w.2.1 ≤ B) ∧ (0 ≤ w.2.2.1 ∧ w.2.2.1 ≤ B) ∧ (0 ≤ w.2.2.2 ∧ w.2.2.2 ≤ B)
theorem mul_in {a B k : Int} (h : 0 ≤ a ∧ a ≤ B) (h0 : 0 ≤ k) (h1 : k ≤ 512) : 0 ≤ a * k ∧ a * k ≤ B * 512 := ⟨Int.mul_nonneg h.1 h0, Int.mul_le_mul h.2 h1 h0 (by omega)⟩
theorem stp_le {k i B : Int} {w : W4} (h : W4le w B) (k0 : 0 ≤ k) (k1 : k ≤ 512) (i0 : 0 ≤ i) (i1 : i ≤ 512) : W4le (stp k i w) (1024 * B) := by
  obtain ⟨h1, h2, h3, h4⟩ := h
  have a1 := mul_in h1 k0 k1
  have a2 := mul_in h2 k0 k1
  have a3 := mul_in h3 k0 k1
  have a4 := mul_in h4 k0 k1
  have b1 := mul_in h1 i0 i1
  have b2 := mul_in h2 i0 i1
  have b3 := mul_in h3 i0 i1
  unfold stp W4le
  dsimp only
  omega
theorem wts_le {k i : Int} (k0 : 0 ≤ k) (k1 : k ≤ 512) (i0 : 0 ≤ i) (i1 : i ≤ 512) : ∀ t : Nat, t ≤ 3 → W4le (wts k i t) 1073741824 := by
  have h0 : W4le (wts k i 0) 1 := by unfold wts W4le; simp
  have h1 := stp_le h0 k0 k1 i0 i1
  have h2 := stp_le h1 k0 k1 i0 i1
  have h3 := stp_le h2 k0 k1 i0 i1
  intro t ht
  have hs : ∀ {v : W4} {B : Int}, W4le v B → B ≤ 1073741824 → W4le v 1073741824 := fun h g => by unfold W4le at *; omega
  match t, ht with
  | 0, _ => exact hs h0 (by omega)
  | 1, _ => exact hs h1 (by omega)
  | 2, _ => exact hs h2 (by omega)
  | 3, _ => exact hs h3 (by omega)
theorem wInfo : (Try.prog.info? 110).map (·.size) = some 4 := by kernel_rfl
set_option maxRecDepth 100000 in
theorem idxW0 (a b c d : Value) (w : World) : (Instr.index 110 (.agg #[a, b, c, d]) (.int .i64 0)).run Try.prog w = .ok a w := rfl
set_option maxRecDepth 100000 in
theorem idxW1 (a b c d : Value) (w : World) : (Instr.index 110 (.agg #[a, b, c, d]) (.int .i64 1)).run Try.prog w = .ok b w := rfl
set_option maxRecDepth 100000 in
theorem idxW2 (a b c d : Value) (w : World) : (Instr.index 110 (.agg #[a, b, c, d]) (.int .i64 2)).run Try.prog w = .ok c w := rfl
set_option maxRecDepth 100000 in
theorem idxW3 (a b c d : Value) (w : World) : (Instr.index 110 (.agg #[a, b, c, d]) (.int .i64 3)).run Try.prog w = .ok d w := rfl
set_option maxRecDepth 100000 in
set_option maxHeartbeats 4000000 in
theorem weights_any (deg : Nat) (i n : Int) (w : World) (hd : deg ≤ 3) (i0 : 0 ≤ i) (hin : i ≤ n) (hn : n ≤ 512) :
    Calls Try.prog 100 #[.int .i64 deg, .int .i64 i, .int .i64 n] w fun e w' => e = .returned (.agg (w4L (wts (n - i) i deg))) ∧ Below w.heap.size w w' := by
  have HL := Lib.hid (wts_le (k := n - i) (i := i) (by omega) (by omega) i0 (by omega))
  have K1 := Blk.new w 110 #[.int .i64 0, .int .i64 0, .int .i64 0, .int .i64 0]
  have K2 := Blk.new (w.alloc (.cells #[.int .i64 0, .int .i64 0, .int .i64 0, .int .i64 0] 110)) 110 #[.int .i64 1, .int .i64 0, .int .i64 0, .int .i64 0]
  rw [World.size_alloc] at K2
  have HZ0 := Lib.hid (K1.below (below_a1 _ (.cells #[.int .i64 1, .int .i64 0, .int .i64 0, .int .i64 0] 110)))
  have HK0 := Lib.hid K2
  have ek : IntKind.i64.wrap (n - i) = n - i := IntWalk.i64_in _ (by omega)
  obtain ⟨kk, hkk⟩ : ∃ kk, kk = n - i := ⟨_, rfl⟩
  have k0 : 0 ≤ kk := by omega
  have k1 : kk ≤ 512 := by omega
  have i1 : i ≤ 512 := by omega
  rw [← hkk] at HL ek ⊢
  have HKK := Lib.hid hkk
  clear K1 K2 hkk
  have ek2 : n - i = kk := HKK.out.symm
  have HE := Lib.hid ek2
  clear ek2
  go_enter Try.func100, Try.ntmps100
  go_wp2
  go_loopw [13] (fun j wr => ∃ t : Nat, t ≤ deg ∧ j = .int .i64 t ∧ Below w.heap.size w wr ∧ Blk wr w.heap.size 110 #[.int .i64 0, .int .i64 0, .int .i64 0, .int .i64 0] ∧ Blk wr (w.heap.size + 1) 110 (w4L (wts kk i t))) (fun j _ => deg - (intOf j).toNat)
  case atStart => exact ⟨0, Nat.zero_le _, rfl, below_a2 _ _ _, HZ0.out, HK0.out⟩
  case round =>
  obtain ⟨t, ht, rfl, hb, hz, K⟩ := hrel
  have HB := Lib.hid hb
  have HZ := Lib.hid hz
  clear hb hz
  by_cases hlt : t < deg
  · have d1 : decide ((t : Int) < (deg : Int)) = true := by simp; omega
    have hle := HL.out t (by omega)
    have HT := Lib.hid (show wts kk i (t + 1) = stp kk i (wts kk i t) from rfl)
    generalize wts kk i t = v at *
    obtain ⟨a, b, c, d⟩ := v
    unfold W4le at hle
    dsimp only at hle
    obtain ⟨ha, hb, hc, hdd⟩ := hle
    have a1 := mul_in ha k0 k1
    have a2 := mul_in hb k0 k1
    have a3 := mul_in hc k0 k1
    have a4 := mul_in hdd k0 k1
    have b1 := mul_in ha i0 i1
    have b2 := mul_in hb i0 i1
    have b3 := mul_in hc i0 i1
    obtain ⟨a11, a12⟩ := a1
    obtain ⟨a21, a22⟩ := a2
    obtain ⟨a31, a32⟩ := a3
    obtain ⟨a41, a42⟩ := a4
    obtain ⟨b11, b12⟩ := b1
    obtain ⟨b21, b22⟩ := b2
    obtain ⟨b31, b32⟩ := b3
    have X0 := idxW0 (.int .i64 a) (.int .i64 b) (.int .i64 c) (.int .i64 d)
    have X1 := idxW1 (.int .i64 a) (.int .i64 b) (.int .i64 c) (.int .i64 d)
    have X2 := idxW2 (.int .i64 a) (.int .i64 b) (.int .i64 c) (.int .i64 d)
    have X3 := idxW3 (.int .i64 a) (.int .i64 b) (.int .i64 c) (.int .i64 d)
    have HK := Lib.hid K
    clear K
    have HI := Lib.hid (show n - i = kk from HE.out)
    go_wp2_with (first | (refine wpList_load_row rfl 110 (.tmp 7) (by with_reducible rfl) (w.heap.size + 1) (by rfl) 110 #[.int .i64 a, .int .i64 b, .int .i64 c, .int .i64 d] (0, 0) _ (by exact HK.out) Try.underlying110 rfl wInfo ?_))
    go_loopw [8, 16] (fun ah jj wq => Below w.heap.size w wq ∧ Blk wq w.heap.size 110 #[.int .i64 0, .int .i64 0, .int .i64 0, .int .i64 0] ∧ ((ah = .int .i64 0 ∧ jj = .int .i64 0 ∧ Blk wq (w.heap.size + 1) 110 #[.int .i64 a, .int .i64 b, .int .i64 c, .int .i64 d]) ∨ (ah = .int .i64 a ∧ jj = .int .i64 1 ∧ Blk wq (w.heap.size + 1) 110 #[.int .i64 (a * kk), .int .i64 b, .int .i64 c, .int .i64 d]) ∨ (ah = .int .i64 b ∧ jj = .int .i64 2 ∧ Blk wq (w.heap.size + 1) 110 #[.int .i64 (a * kk), .int .i64 (b * kk + a * i), .int .i64 c, .int .i64 d]) ∨ (ah = .int .i64 c ∧ jj = .int .i64 3 ∧ Blk wq (w.heap.size + 1) 110 #[.int .i64 (a * kk), .int .i64 (b * kk + a * i), .int .i64 (c * kk + b * i), .int .i64 d]) ∨ (ah = .int .i64 d ∧ jj = .int .i64 4 ∧ Blk wq (w.heap.size + 1) 110 #[.int .i64 (a * kk), .int .i64 (b * kk + a * i), .int .i64 (c * kk + b * i), .int .i64 (d * kk + c * i)]))) (fun _ j _ => 4 - (intOf j).toNat)
    case atStart => exact ⟨HB.out, HZ.out, .inl ⟨rfl, rfl, HK.out⟩⟩
    case round =>
      obtain ⟨hb2, hz2, hst⟩ := hrel
      have HB2 := Lib.hid hb2
      have HZ2 := Lib.hid hz2
      clear hb2 hz2 HK
      have ek2 : n - i = kk := HE.out
      rcases hst with ⟨rfl, rfl, K⟩ | ⟨rfl, rfl, K⟩ | ⟨rfl, rfl, K⟩ | ⟨rfl, rfl, K⟩ | ⟨rfl, rfl, K⟩
      · have c0 := K.cell 0
        have f0 := K.frozen 0
        have hl := K.lt
        simp only [List.getElem?_toArray, List.getElem?_cons_succ, List.getElem?_cons_zero] at c0
        have HK := Lib.hid K
        clear K
        go_wp2
        go_roundw
        case rel => exact ⟨HB2.out.setCell (p := ⟨w.heap.size + 1, 0, none⟩) (by simp) _, HZ2.out.other (q := ⟨w.heap.size + 1, 0, none⟩) (by simp) _, .inr (.inl ⟨rfl, rfl, HK.out.set 0 _⟩)⟩
        case measure => simp [intOf]
      · have c1 := K.cell 1
        have f1 := K.frozen 1
        have hl := K.lt
        simp only [List.getElem?_toArray, List.getElem?_cons_succ, List.getElem?_cons_zero] at c1
        have HK := Lib.hid K
        clear K
        go_wp2
        go_roundw
        case rel => exact ⟨HB2.out.setCell (p := ⟨w.heap.size + 1, 1, none⟩) (by simp) _, HZ2.out.other (q := ⟨w.heap.size + 1, 1, none⟩) (by simp) _, .inr (.inr (.inl ⟨rfl, rfl, HK.out.set 1 _⟩))⟩
        case measure => simp [intOf]
      · have c2 := K.cell 2
        have f2 := K.frozen 2
        have hl := K.lt
        simp only [List.getElem?_toArray, List.getElem?_cons_succ, List.getElem?_cons_zero] at c2
        have HK := Lib.hid K
        clear K
        go_wp2
        go_roundw
        case rel => exact ⟨HB2.out.setCell (p := ⟨w.heap.size + 1, 2, none⟩) (by simp) _, HZ2.out.other (q := ⟨w.heap.size + 1, 2, none⟩) (by simp) _, .inr (.inr (.inr (.inl ⟨rfl, rfl, HK.out.set 2 _⟩)))⟩
        case measure => simp [intOf]
      · have c3 := K.cell 3
        have f3 := K.frozen 3
        have hl := K.lt
        simp only [List.getElem?_toArray, List.getElem?_cons_succ, List.getElem?_cons_zero] at c3
        have HK := Lib.hid K
        clear K
        go_wp2
        go_roundw
        case rel => exact ⟨HB2.out.setCell (p := ⟨w.heap.size + 1, 3, none⟩) (by simp) _, HZ2.out.other (q := ⟨w.heap.size + 1, 3, none⟩) (by simp) _, .inr (.inr (.inr (.inr (⟨rfl, rfl, HK.out.set 3 _⟩))))⟩
        case measure => simp [intOf]
      · have HK := Lib.hid K
        clear K
        go_wp2
        go_roundw
        case rel => exact ⟨t + 1, by omega, by go_num, HB2.out, HZ2.out, by rw [HT.out]; exact HK.out⟩
        case measure => simp [intOf]; omega
  · have d1 : decide ((t : Int) < (deg : Int)) = false := by simp; omega
    obtain rfl : t = deg := by omega
    have HK := Lib.hid K
    clear K
    generalize hv : wts kk i t = v at *
    obtain ⟨a, b, c, d⟩ := v
    have HV := Lib.hid hv
    clear hv
    go_wp2_with (first | (refine wpList_load_row rfl 110 (.tmp 7) (by with_reducible rfl) (w.heap.size + 1) (by rfl) 110 #[.int .i64 a, .int .i64 b, .int .i64 c, .int .i64 d] (0, 0) _ (by exact HK.out) Try.underlying110 rfl wInfo ?_) | (refine wpList_store_row rfl 110 (.tmp 6) (.tmp 34) (by with_reducible rfl) w.heap.size #[.int .i64 a, .int .i64 b, .int .i64 c, .int .i64 d] (by rfl) (by rfl) 110 #[.int .i64 0, .int .i64 0, .int .i64 0, .int .i64 0] (by exact HZ.out) wInfo rfl (by simp [Value.oneCell']) ?_))
    exact bodyPost_ret (results_cell_row Try.results100 _ _ w.heap.size 110 #[.int .i64 a, .int .i64 b, .int .i64 c, .int .i64 d] (0, 0) _ (by rfl) (show Blk _ _ _ _ from blk_row HZ.out _) Try.underlying110 rfl wInfo) rfl ⟨by rw [HV.out]; rfl, below_setRow HB.out (Nat.le_refl _) _⟩
end Go.Proofs.Ytlacjifnniahhaa

namespace Go.Proofs.Ytlacjifnniahhaa
open Go Go.RowKit
set_option linter.unusedVariables false
set_option linter.unusedSimpArgs false

set_option maxRecDepth 100000 in
theorem rowD1 (xa ya xd yd : Int) (w : World) : (Instr.buildSlice 61 2 #[(0, .agg #[.int .i64 xa, .int .i64 ya]), (1, .agg #[.int .i64 xd, .int .i64 yd])]).run Try.prog w = .ok (.slice (some ⟨w.heap.size, 0, none⟩) 2 2) (w.alloc (.cells #[.int .i64 xa, .int .i64 ya, .int .i64 xd, .int .i64 yd] 27)) := by
  go_simp
set_option maxRecDepth 100000 in
theorem rowD2 (xa ya xb yb xd yd : Int) (w : World) : (Instr.buildSlice 61 3 #[(0, .agg #[.int .i64 xa, .int .i64 ya]), (1, .agg #[.int .i64 xb, .int .i64 yb]), (2, .agg #[.int .i64 xd, .int .i64 yd])]).run Try.prog w = .ok (.slice (some ⟨w.heap.size, 0, none⟩) 3 3) (w.alloc (.cells #[.int .i64 xa, .int .i64 ya, .int .i64 xb, .int .i64 yb, .int .i64 xd, .int .i64 yd] 27)) := by
  go_simp
set_option maxRecDepth 100000 in
theorem rowD3 (xa ya xb yb xc yc xd yd : Int) (w : World) : (Instr.buildSlice 61 4 #[(0, .agg #[.int .i64 xa, .int .i64 ya]), (1, .agg #[.int .i64 xb, .int .i64 yb]), (2, .agg #[.int .i64 xc, .int .i64 yc]), (3, .agg #[.int .i64 xd, .int .i64 yd])]).run Try.prog w = .ok (.slice (some ⟨w.heap.size, 0, none⟩) 4 4) (w.alloc (.cells #[.int .i64 xa, .int .i64 ya, .int .i64 xb, .int .i64 yb, .int .i64 xc, .int .i64 yc, .int .i64 xd, .int .i64 yd] 27)) := by
  go_simp
set_option maxRecDepth 100000 in
set_option maxHeartbeats 1000000 in
theorem places_1 (xa ya xb yb xc yc xd yd : Int) (w : World) : Calls Try.prog 86 #[.agg #[.int .i64 1, .int .i64 xa, .int .i64 ya, .int .i64 xb, .int .i64 yb, .int .i64 xc, .int .i64 yc, .int .i64 xd, .int .i64 yd]] w fun e w' => ∃ b, e = .returned (.slice (some ⟨b, 0, none⟩) 2 2) ∧ Blk w' b 27 #[.int .i64 xa, .int .i64 ya, .int .i64 xd, .int .i64 yd] ∧ w.heap.size ≤ b ∧ Below w.heap.size w w' := by
  have R := rowD1 xa ya xd yd
  have F : (w.alloc (.cells #[.int .i64 1, .int .i64 xa, .int .i64 ya, .int .i64 xb, .int .i64 yb, .int .i64 xc, .int .i64 yc, .int .i64 xd, .int .i64 yd] 70)).heap.size = w.heap.size + 1 := by simp
  go_enter Try.func86, Try.ntmps86
  go_wp2
  go_ret
  refine ⟨_, rfl, ?_, ?_, below_a2 _ _ _⟩
  · have := Blk.new (w.alloc (.cells #[.int .i64 1, .int .i64 xa, .int .i64 ya, .int .i64 xb, .int .i64 yb, .int .i64 xc, .int .i64 yc, .int .i64 xd, .int .i64 yd] 70)) 27 #[.int .i64 xa, .int .i64 ya, .int .i64 xd, .int .i64 yd]
    simpa using this
  · simp
set_option maxRecDepth 100000 in
set_option maxHeartbeats 1000000 in
theorem places_2 (xa ya xb yb xc yc xd yd : Int) (w : World) : Calls Try.prog 86 #[.agg #[.int .i64 2, .int .i64 xa, .int .i64 ya, .int .i64 xb, .int .i64 yb, .int .i64 xc, .int .i64 yc, .int .i64 xd, .int .i64 yd]] w fun e w' => ∃ b, e = .returned (.slice (some ⟨b, 0, none⟩) 3 3) ∧ Blk w' b 27 #[.int .i64 xa, .int .i64 ya, .int .i64 xb, .int .i64 yb, .int .i64 xd, .int .i64 yd] ∧ w.heap.size ≤ b ∧ Below w.heap.size w w' := by
  have R := rowD2 xa ya xb yb xd yd
  have F : (w.alloc (.cells #[.int .i64 2, .int .i64 xa, .int .i64 ya, .int .i64 xb, .int .i64 yb, .int .i64 xc, .int .i64 yc, .int .i64 xd, .int .i64 yd] 70)).heap.size = w.heap.size + 1 := by simp
  go_enter Try.func86, Try.ntmps86
  go_wp2
  go_ret
  refine ⟨_, rfl, ?_, ?_, below_a2 _ _ _⟩
  · have := Blk.new (w.alloc (.cells #[.int .i64 2, .int .i64 xa, .int .i64 ya, .int .i64 xb, .int .i64 yb, .int .i64 xc, .int .i64 yc, .int .i64 xd, .int .i64 yd] 70)) 27 #[.int .i64 xa, .int .i64 ya, .int .i64 xb, .int .i64 yb, .int .i64 xd, .int .i64 yd]
    simpa using this
  · simp
set_option maxRecDepth 100000 in
set_option maxHeartbeats 1000000 in
theorem places_3 (xa ya xb yb xc yc xd yd : Int) (w : World) : Calls Try.prog 86 #[.agg #[.int .i64 3, .int .i64 xa, .int .i64 ya, .int .i64 xb, .int .i64 yb, .int .i64 xc, .int .i64 yc, .int .i64 xd, .int .i64 yd]] w fun e w' => ∃ b, e = .returned (.slice (some ⟨b, 0, none⟩) 4 4) ∧ Blk w' b 27 #[.int .i64 xa, .int .i64 ya, .int .i64 xb, .int .i64 yb, .int .i64 xc, .int .i64 yc, .int .i64 xd, .int .i64 yd] ∧ w.heap.size ≤ b ∧ Below w.heap.size w w' := by
  have R := rowD3 xa ya xb yb xc yc xd yd
  have F : (w.alloc (.cells #[.int .i64 3, .int .i64 xa, .int .i64 ya, .int .i64 xb, .int .i64 yb, .int .i64 xc, .int .i64 yc, .int .i64 xd, .int .i64 yd] 70)).heap.size = w.heap.size + 1 := by simp
  go_enter Try.func86, Try.ntmps86
  go_wp2
  go_ret
  refine ⟨_, rfl, ?_, ?_, below_a2 _ _ _⟩
  · have := Blk.new (w.alloc (.cells #[.int .i64 3, .int .i64 xa, .int .i64 ya, .int .i64 xb, .int .i64 yb, .int .i64 xc, .int .i64 yc, .int .i64 xd, .int .i64 yd] 70)) 27 #[.int .i64 xa, .int .i64 ya, .int .i64 xb, .int .i64 yb, .int .i64 xc, .int .i64 yc, .int .i64 xd, .int .i64 yd]
    simpa using this
  · simp
set_option maxRecDepth 100000 in
set_option maxHeartbeats 1000000 in
theorem places_0 (k : Int) (xa ya xb yb xc yc xd yd : Int) (w : World) (h1 : (k == 1) = false) (h2 : (k == 2) = false) (h3 : (k == 3) = false) : Calls Try.prog 86 #[.agg #[.int .i64 k, .int .i64 xa, .int .i64 ya, .int .i64 xb, .int .i64 yb, .int .i64 xc, .int .i64 yc, .int .i64 xd, .int .i64 yd]] w fun e w' => e = .returned (.slice none 0 0) ∧ Below w.heap.size w w' := by
  go_enter Try.func86, Try.ntmps86
  go_wp2
  go_ret
  exact ⟨rfl, below_a1 _ _⟩

theorem take_any_noD {α : Type} {L : List α} {p : α → Bool} {k : Nat} {x : α} (hx : L[k]? = some x) (h : (L.take k).any p = false) (ht : p x = false) : (L.take (k + 1)).any p = false := by
  rw [List.take_add_one, hx]
  simp only [Option.toList_some, List.any_append, h, List.any_cons, ht, List.any_nil, Bool.or_self]
theorem any_atD {α : Type} {L : List α} {p : α → Bool} {k : Nat} {x : α} (hx : L[k]? = some x) (ht : p x = true) : L.any p = true := List.any_eq_true.2 ⟨x, List.mem_of_getElem? hx, ht⟩
set_option maxRecDepth 100000 in
set_option maxHeartbeats 1000000 in
theorem idxD_any (p : Nat) (B : Nat) (A : Option Addr) (c : Nat) (L : List Dt) (w : World) (hB : B ≤ w.heap.size) (hL : Lists w B A (L.flatMap dtL)) (hn : L.length ≤ 1099511627776) (hp : FarAt w p) :
    Calls Try.prog 99 #[.slice A L.length c, .func (.func 89) #[] #[.pointer (some ⟨p, 0, none⟩)]] w fun e w' => (∃ i : Int, e = .returned (.int .i64 i) ∧ decide (i ≥ 0) = L.any farD) ∧ Below w.heap.size w w' := by
  have HL := Lib.hid hL
  have HP := Lib.hid hp
  have hplt := hp.lt
  clear hL hp
  obtain ⟨n, hnn⟩ : ∃ n, n = L.length := ⟨_, rfl⟩
  rw [← hnn] at hn ⊢
  have HN := Lib.hid hnn
  clear hnn
  go_enter Try.func99, Try.ntmps99
  go_wp2
  go_loopw [8] (fun i wr => ∃ k : Nat, k ≤ n ∧ i = .int .i64 k ∧ Hid ((L.take k).any farD = false) ∧ Below w.heap.size w wr) (fun i _ => n - (intOf i).toNat)
  case atStart => exact ⟨0, Nat.zero_le _, rfl, Lib.hid rfl, Below.refl _ _⟩
  case round =>
    obtain ⟨k, hk, rfl, HK, hb⟩ := hrel
    by_cases hlt : k < n
    · have d1 : decide ((k : Int) < (n : Int)) = true := by simp; omega
      obtain ⟨x, hx⟩ : ∃ x, L[k]? = some x := ⟨L[k]'(by rw [← HN.out]; exact hlt), List.getElem?_eq_getElem _⟩
      obtain ⟨b, o, hA, hbl, hcl⟩ := lists_flat dtLen (by decide) HL.out hx
      subst hA
      have g0 := Lib.hid (range_below hcl (Nat.lt_of_lt_of_le hbl hB) hb)
      have C := farD_any p x wr (HP.out.below hb)
      have HX := Lib.hid hx
      clear hcl hx
      cases ht : farD x
      · rw [ht] at C
        have HT := Lib.hid (take_any_noD HX.out HK.out ht)
        clear ht
        go_wp2_with (first | (refine wpList_load_mid rfl 27 _ (by with_reducible rfl) b (o + k * 2) (by rfl) (dtL x) _ g0.out Try.underlying27 rfl (by rw [dtLen]; kernel_rfl) ?_) | (go_at_call 89; ((with_reducible refine (C).mono ?_); rintro e w1 ⟨rfl, b1⟩)))
        go_roundw
        case rel => exact ⟨k + 1, by omega, by go_num, HT, hb.trans (b1.mono hb.size)⟩
        case measure => simp [intOf]; omega
      · rw [ht] at C
        have HT := Lib.hid (any_atD HX.out ht)
        clear ht
        go_wp2_with (first | (refine wpList_load_mid rfl 27 _ (by with_reducible rfl) b (o + k * 2) (by rfl) (dtL x) _ g0.out Try.underlying27 rfl (by rw [dtLen]; kernel_rfl) ?_) | (go_at_call 89; ((with_reducible refine (C).mono ?_); rintro e w1 ⟨rfl, b1⟩)))
        go_ret
        exact ⟨⟨(k : Int), rfl, by rw [HT.out]; simp⟩, hb.trans (b1.mono hb.size)⟩
    · have d1 : decide ((k : Int) < (n : Int)) = false := by simp; omega
      have HT := Lib.hid (show L.any farD = false by have := HK.out; rwa [List.take_of_length_le (by have := HN.out; omega)] at this)
      go_wp2
      go_ret
      exact ⟨⟨-1, rfl, by rw [HT.out]; rfl⟩, hb⟩

set_option maxRecDepth 100000 in
theorem hasD_any (p : Nat) (B : Nat) (A : Option Addr) (c : Nat) (L : List Dt) (w : World) (hB : B ≤ w.heap.size) (hL : Lists w B A (L.flatMap dtL)) (hn : L.length ≤ 1099511627776) (hp : FarAt w p) :
    Calls Try.prog 88 #[.slice A L.length c, .func (.func 89) #[] #[.pointer (some ⟨p, 0, none⟩)]] w fun e w' => e = .returned (.bool (L.any farD)) ∧ Below w.heap.size w w' := by
  have C := idxD_any p B A c L w hB hL hn hp
  clear hL hp
  cases hh : L.any farD <;> rw [hh] at C <;> clear hh
  all_goals
    go_enter Try.func88, Try.ntmps88
    go_wp2_with (first | (go_at_call 99; ((with_reducible refine (C).mono ?_); rintro e w1 ⟨⟨i, rfl, hi⟩, b1⟩)))
    go_ret
    exact ⟨rfl, b1⟩

theorem lists_blkD {w : World} {b : Nat} {T : TypeId} {cs : List Value} (h : Blk w b T cs.toArray) : Lists w (b + 1) (some ⟨b, 0, none⟩) cs :=
  ⟨fun ha => (nomatch ha), fun a ha j u hu => by
    cases ha
    rw [addr_plain, Nat.zero_add, h.cell j, List.getElem?_toArray]; exact hu, fun a ha _ => by cases ha; simp⟩
set_option maxRecDepth 100000 in
set_option maxHeartbeats 1000000 in
theorem may_1 (xa ya xb yb xc yc xd yd : Int) (w : World) : Calls Try.prog 65 #[.agg #[.int .i64 1, .int .i64 xa, .int .i64 ya, .int .i64 xb, .int .i64 yb, .int .i64 xc, .int .i64 yc, .int .i64 xd, .int .i64 yd]] w fun e w' => e = .returned (.bool (!([(xa, ya), (xd, yd)] : List Dt).any farD)) ∧ Below w.heap.size w w' := by
  have CP := fun W => places_1 xa ya xb yb xc yc xd yd W
  have HC := Lib.hid (fun (W : World) b (hK : Blk W b 27 #[.int .i64 xa, .int .i64 ya, .int .i64 xd, .int .i64 yd]) (p : Nat) (hp : FarAt W p) => hasD_any p W.heap.size (some ⟨b, 0, none⟩) 2 ([(xa, ya), (xd, yd)] : List Dt) W (Nat.le_refl _) ((lists_blkD hK).more hK.lt) (by simp) hp)
  cases hh : ([(xa, ya), (xd, yd)] : List Dt).any farD <;> rw [hh] at HC <;> clear hh
  all_goals
    go_enter Try.func65, Try.ntmps65
    go_wp2_with (first | (go_at_call 86; ((with_reducible refine (CP _).mono ?_); rintro e w1 ⟨b, rfl, K1, hb, b1⟩; have B1 := (below_a1 w (.cells #[.int .i64 1, .int .i64 xa, .int .i64 ya, .int .i64 xb, .int .i64 yb, .int .i64 xc, .int .i64 yc, .int .i64 xd, .int .i64 yd] 70)).trans (b1.mono (below_a1 w _).size); have K2 := K1.below (below_a1 w1 (.cells #[.func (.func 87) #[] #[]] 57)); have C := HC.out _ b K2 w1.heap.size (Blk.new w1 _ _); rw [show ([(xa, ya), (xd, yd)] : List Dt).length = 2 from rfl] at C; have hl := K1.lt; have KF := Blk.new w1 57 #[.nilFunc]; have kc := KF.cell 0; have kf := KF.frozen 0; clear KF)) | (go_at_call 88; ((with_reducible refine (C).mono ?_); rintro e w2 ⟨rfl, b2⟩)))
    go_ret
    exact ⟨rfl, (B1.alloc B1.size _).trans (b2.mono (by simp; have := B1.size; omega))⟩
set_option maxRecDepth 100000 in
set_option maxHeartbeats 1000000 in
theorem may_2 (xa ya xb yb xc yc xd yd : Int) (w : World) : Calls Try.prog 65 #[.agg #[.int .i64 2, .int .i64 xa, .int .i64 ya, .int .i64 xb, .int .i64 yb, .int .i64 xc, .int .i64 yc, .int .i64 xd, .int .i64 yd]] w fun e w' => e = .returned (.bool (!([(xa, ya), (xb, yb), (xd, yd)] : List Dt).any farD)) ∧ Below w.heap.size w w' := by
  have CP := fun W => places_2 xa ya xb yb xc yc xd yd W
  have HC := Lib.hid (fun (W : World) b (hK : Blk W b 27 #[.int .i64 xa, .int .i64 ya, .int .i64 xb, .int .i64 yb, .int .i64 xd, .int .i64 yd]) (p : Nat) (hp : FarAt W p) => hasD_any p W.heap.size (some ⟨b, 0, none⟩) 3 ([(xa, ya), (xb, yb), (xd, yd)] : List Dt) W (Nat.le_refl _) ((lists_blkD hK).more hK.lt) (by simp) hp)
  cases hh : ([(xa, ya), (xb, yb), (xd, yd)] : List Dt).any farD <;> rw [hh] at HC <;> clear hh
  all_goals
    go_enter Try.func65, Try.ntmps65
    go_wp2_with (first | (go_at_call 86; ((with_reducible refine (CP _).mono ?_); rintro e w1 ⟨b, rfl, K1, hb, b1⟩; have B1 := (below_a1 w (.cells #[.int .i64 2, .int .i64 xa, .int .i64 ya, .int .i64 xb, .int .i64 yb, .int .i64 xc, .int .i64 yc, .int .i64 xd, .int .i64 yd] 70)).trans (b1.mono (below_a1 w _).size); have K2 := K1.below (below_a1 w1 (.cells #[.func (.func 87) #[] #[]] 57)); have C := HC.out _ b K2 w1.heap.size (Blk.new w1 _ _); rw [show ([(xa, ya), (xb, yb), (xd, yd)] : List Dt).length = 3 from rfl] at C; have hl := K1.lt; have KF := Blk.new w1 57 #[.nilFunc]; have kc := KF.cell 0; have kf := KF.frozen 0; clear KF)) | (go_at_call 88; ((with_reducible refine (C).mono ?_); rintro e w2 ⟨rfl, b2⟩)))
    go_ret
    exact ⟨rfl, (B1.alloc B1.size _).trans (b2.mono (by simp; have := B1.size; omega))⟩
set_option maxRecDepth 100000 in
set_option maxHeartbeats 1000000 in
theorem may_3 (xa ya xb yb xc yc xd yd : Int) (w : World) : Calls Try.prog 65 #[.agg #[.int .i64 3, .int .i64 xa, .int .i64 ya, .int .i64 xb, .int .i64 yb, .int .i64 xc, .int .i64 yc, .int .i64 xd, .int .i64 yd]] w fun e w' => e = .returned (.bool (!([(xa, ya), (xb, yb), (xc, yc), (xd, yd)] : List Dt).any farD)) ∧ Below w.heap.size w w' := by
  have CP := fun W => places_3 xa ya xb yb xc yc xd yd W
  have HC := Lib.hid (fun (W : World) b (hK : Blk W b 27 #[.int .i64 xa, .int .i64 ya, .int .i64 xb, .int .i64 yb, .int .i64 xc, .int .i64 yc, .int .i64 xd, .int .i64 yd]) (p : Nat) (hp : FarAt W p) => hasD_any p W.heap.size (some ⟨b, 0, none⟩) 4 ([(xa, ya), (xb, yb), (xc, yc), (xd, yd)] : List Dt) W (Nat.le_refl _) ((lists_blkD hK).more hK.lt) (by simp) hp)
  cases hh : ([(xa, ya), (xb, yb), (xc, yc), (xd, yd)] : List Dt).any farD <;> rw [hh] at HC <;> clear hh
  all_goals
    go_enter Try.func65, Try.ntmps65
    go_wp2_with (first | (go_at_call 86; ((with_reducible refine (CP _).mono ?_); rintro e w1 ⟨b, rfl, K1, hb, b1⟩; have B1 := (below_a1 w (.cells #[.int .i64 3, .int .i64 xa, .int .i64 ya, .int .i64 xb, .int .i64 yb, .int .i64 xc, .int .i64 yc, .int .i64 xd, .int .i64 yd] 70)).trans (b1.mono (below_a1 w _).size); have K2 := K1.below (below_a1 w1 (.cells #[.func (.func 87) #[] #[]] 57)); have C := HC.out _ b K2 w1.heap.size (Blk.new w1 _ _); rw [show ([(xa, ya), (xb, yb), (xc, yc), (xd, yd)] : List Dt).length = 4 from rfl] at C; have hl := K1.lt; have KF := Blk.new w1 57 #[.nilFunc]; have kc := KF.cell 0; have kf := KF.frozen 0; clear KF)) | (go_at_call 88; ((with_reducible refine (C).mono ?_); rintro e w2 ⟨rfl, b2⟩)))
    go_ret
    exact ⟨rfl, (B1.alloc B1.size _).trans (b2.mono (by simp; have := B1.size; omega))⟩
set_option maxRecDepth 100000 in
set_option maxHeartbeats 1000000 in
theorem may_0 (k : Int) (xa ya xb yb xc yc xd yd : Int) (w : World) (h1 : (k == 1) = false) (h2 : (k == 2) = false) (h3 : (k == 3) = false) : Calls Try.prog 65 #[.agg #[.int .i64 k, .int .i64 xa, .int .i64 ya, .int .i64 xb, .int .i64 yb, .int .i64 xc, .int .i64 yc, .int .i64 xd, .int .i64 yd]] w fun e w' => e = .returned (.bool false) ∧ Below w.heap.size w w' := by
  have CP := fun W => places_0 k xa ya xb yb xc yc xd yd W h1 h2 h3
  clear h1 h2 h3
  go_enter Try.func65, Try.ntmps65
  go_wp2_with (first | (go_at_call 86; ((with_reducible refine (CP _).mono ?_); rintro e w1 ⟨rfl, b1⟩; have B1 := (below_a1 w (.cells #[.int .i64 k, .int .i64 xa, .int .i64 ya, .int .i64 xb, .int .i64 yb, .int .i64 xc, .int .i64 yc, .int .i64 xd, .int .i64 yd] 70)).trans (b1.mono (below_a1 w _).size); have KF := Blk.new w1 57 #[.nilFunc]; have kc := KF.cell 0; have kf := KF.frozen 0; clear KF)))
  go_ret
  exact ⟨rfl, B1.alloc B1.size _⟩
theorem kinds (k : Int) : k = 1 ∨ k = 2 ∨ k = 3 ∨ ((k == 1) = false ∧ (k == 2) = false ∧ (k == 3) = false) := by
  by_cases h1 : k = 1
  · exact .inl h1
  · by_cases h2 : k = 2
    · exact .inr (.inl h2)
    · by_cases h3 : k = 3
      · exact .inr (.inr (.inl h3))
      · exact .inr (.inr (.inr ⟨by simpa using h1, by simpa using h2, by simpa using h3⟩))
theorem plc_0 {c : Bw} (h1 : (c.k == 1) = false) (h2 : (c.k == 2) = false) (h3 : (c.k == 3) = false) : plc c = [] := by
  unfold plc
  rw [if_neg (by simpa using h1), if_neg (by simpa using h2), if_neg (by simpa using h3)]
theorem cmay_any (c : Bw) (w : World) : Calls Try.prog 65 #[bwV c] w fun e w' => e = .returned (.bool (mayW c)) ∧ Below w.heap.size w w' := by
  obtain ⟨k, xa, ya, xb, yb, xc, yc, xd, yd⟩ := c
  unfold bwV mayW
  dsimp only
  rcases kinds k with rfl | rfl | rfl | ⟨h1, h2, h3⟩
  · exact may_1 xa ya xb yb xc yc xd yd w
  · exact may_2 xa ya xb yb xc yc xd yd w
  · exact may_3 xa ya xb yb xc yc xd yd w
  · rw [plc_0 h1 h2 h3]; exact may_0 k xa ya xb yb xc yc xd yd w h1 h2 h3
end Go.Proofs.Ytlacjifnniahhaa
