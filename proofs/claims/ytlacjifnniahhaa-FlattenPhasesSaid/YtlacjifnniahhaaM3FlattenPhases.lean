/- Part 23 of the proof: Fm6, Fm7. -/
import Derived.Deep.Cut
import Derived.Deep.CutBlock
import Derived.RangeFuncKeeps
import Derived.RangeFuncCalls
import Derived.RangeFuncLeaves
import Derived.RangeFuncFrom
import Derived.RangeFuncNested
import Derived.RangeFuncBound
import Derived.Shelf.Abstract
import Derived.Shelf.RegionOpen
import Derived.WalkKit
import Derived.OwnWalkIn
import Derived.TacticsInMore
import Derived.LoopNIn
import Derived.LoopIn
import Derived.Maps.OwnIn
import Derived.Deep.WholeRow
import Derived.Test.YtlacjifnniahhaaM2FlattenPhases

namespace Go.Proofs.Ytlacjifnniahhaa
open Go Go.RowKit Go.Shelf
attribute [local go_sem] Oper.semAt_some
set_option linter.unusedVariables false
set_option linter.unusedSimpArgs false

theorem ring_kind {L : List Pt} (hp : 0 < L.length) (h : ∀ p ∈ L, p.2.2 = 1) (i : Int) : kd L i = 1 := by
  obtain ⟨m, q, _, _, h3⟩ := ring_index hp i
  exact h _ (List.mem_of_getElem? h3)
theorem rexE_kinds {L : List Pt} (hp : 0 < L.length) (h : ∀ p ∈ L, p.2.2 = 1) : ∀ p ∈ rexE L, p.2.2 = 1 := by
  intro p hm
  unfold rexE preR at hm
  rw [List.mem_append] at hm
  rcases hm with hm | hm
  · split at hm
    · cases hm
    · simp at hm
      subst hm
      rfl
  · unfold rexK at hm
    obtain ⟨i, _, hi⟩ := List.mem_flatMap.1 hm
    rw [List.mem_append] at hi
    rcases hi with hi | hi
    · simp at hi
      subst hi
      exact ring_kind hp h _
    · unfold rm at hi
      split at hi
      · simp at hi
        subst hi
        rfl
      · cases hi
theorem cv_line {L : List Pt} (hp : 0 < L.length) (h : ∀ p ∈ L, p.2.2 = 1) (hr : 0 < (rexE L).length) : ∀ x ∈ cvL1 L, x.1 = 1 := by
  intro x hx
  unfold cvL1 cvsOf cvK at hx
  obtain ⟨k, _, hk⟩ := List.mem_flatMap.1 hx
  have hK := ring_kind hr (rexE_kinds hp h)
  unfold cvS rcv at hk
  rw [hK, hK] at hk
  simp at hk
  rw [hk]
/-- The scale without its phase. -/
def zSc (s : Sc) : Sc := ⟨s.u, s.p, 0, 0⟩
theorem zSc_may {s : Sc} (h : mscB s = true) : mscB (zSc s) = true := by
  unfold mscB zSc at *
  simp only [Bool.and_eq_true] at h ⊢
  exact ⟨⟨h.1.1, by decide⟩, by decide⟩
theorem dotQ_z (s : Sc) (x y : Int) : dotQ s x y = shD s.fx s.fy (dotQ (zSc s) x y) := by
  unfold dotQ shD zSc scZ
  simp
theorem lines_all {s : Sc} (hms : mscB s = true) : ∀ (X : List Cv), (∀ x ∈ X, x.1 = 1) → X.all (okCv s) = true → dotsB (X.map (bowCv s)) = X.map fun x => dotQ s x.2.2.2.2.1 x.2.2.2.2.2.1
  | [], _, _ => rfl
  | x :: X, h, ha => by
    rw [List.all_cons, Bool.and_eq_true] at ha
    have ih := lines_all hms X (fun y hy => h y (List.mem_cons_of_mem _ hy)) ha.2
    have e : dotsB ((x :: X).map (bowCv s)) = ptsW (bowCv s x) ++ dotsB (X.map (bowCv s)) := rfl
    rw [e, ih, line_pts hms (h x List.mem_cons_self) ha.1]
    rfl
/-- At another phase each dot is as much further on. -/
theorem phase_sh {s : Sc} (hms : mscB s = true) (Ls : List (List Pt)) (hk : ∀ L ∈ Ls, 0 < L.length ∧ 0 < (rexE L).length ∧ ∀ p ∈ L, p.2.2 = 1) (h1 : Ls.all (okL s) = true) (h2 : Ls.all (okL (zSc s)) = true) :
    flatL s Ls = (flatL (zSc s) Ls).map fun L => L.map (shD s.fx s.fy) := by
  unfold flatL
  rw [List.map_map]
  refine List.map_congr_left fun L hL => ?_
  rw [List.all_eq_true] at h1 h2
  have hc := cv_line (hk L hL).1 (hk L hL).2.2 (hk L hL).2.1
  have e1 := lines_all hms (cvL1 L) hc (h1 L hL)
  have e2 := lines_all (zSc_may hms) (cvL1 L) hc (h2 L hL)
  unfold bwsL
  simp only [Function.comp]
  rw [e1, e2, List.map_map]
  exact List.map_congr_left fun x _ => dotQ_z s _ _
end Go.Proofs.Ytlacjifnniahhaa

namespace Go.Proofs.Ytlacjifnniahhaa
open Go Go.RowKit Go.Shelf
attribute [local go_sem] Oper.semAt_some
set_option linter.unusedVariables false
set_option linter.unusedSimpArgs false

theorem flat_zero {s : Sc} {Ls : List (List Pt)} (hms : mscB s = true) (h : flatE s Ls = 0) : chkE Ls = 0 ∧ Ls.all (okL s) = true ∧ cntF (flatL s Ls) ≤ 65536 := by
  unfold flatE at h
  rw [if_pos hms] at h
  split at h
  · rename_i h1
    split at h
    · rename_i h2
      split at h
      · cases h
      · rename_i h3
        exact ⟨h1, h2, by omega⟩
    · cases h
  · rename_i h1; exact absurd h h1
theorem lines_fit {s : Sc} (hms : mscB s = true) (Ls : List (List Pt)) (hk : ∀ L ∈ Ls, ∀ x ∈ cvL1 L, x.1 = 1) (h1 : Ls.all (okL s) = true) : (flatL s Ls).flatten.all ltF = true := by
  rw [List.all_eq_true] at h1 ⊢
  intro d hd
  obtain ⟨D, hD, hm⟩ := List.mem_flatten.1 hd
  unfold flatL at hD
  obtain ⟨L, hL, rfl⟩ := List.mem_map.1 hD
  unfold bwsL at hm
  rw [lines_all hms _ (hk L hL) (h1 L hL)] at hm
  obtain ⟨x, hx, rfl⟩ := List.mem_map.1 hm
  have ho := h1 L hL
  unfold okL at ho
  rw [List.all_eq_true] at ho
  have := ho x hx
  unfold okCv at this
  simp only [Bool.and_eq_true, decide_eq_true_eq] at this
  exact dotE_fit hms this.2
theorem mvD_small {s : Sc} (hms : mscB s = true) {x : Dt} (hx : ltF x = true) : mvD s.fx s.fy x = shD s.fx s.fy x := by
  have h1 := ltF_in hx
  have h2 := mscB_in hms
  unfold mvD shD
  rw [wrap_in (by omega), wrap_in (by omega)]
theorem phase_mv {s : Sc} (hms : mscB s = true) (Ls : List (List Pt)) (hk : ∀ L ∈ Ls, ∀ p ∈ L, p.2.2 = 1) (h1 : flatE s Ls = 0) (h2 : flatE (zSc s) Ls = 0) :
    mayF (flatL (zSc s) Ls) = 0 ∧ mvL s.fx s.fy (flatL (zSc s) Ls) = flatL s Ls ∧ mvE s.fx s.fy (flatL (zSc s) Ls) = 0 := by
  have a1 := flat_zero hms h1
  have a2 := flat_zero (zSc_may hms) h2
  have hch := chk_zero a1.1
  have hK : ∀ L ∈ Ls, 0 < L.length ∧ 0 < (rexE L).length ∧ ∀ p ∈ L, p.2.2 = 1 := fun L hL => by
    have hp := may_pos (hch.2.2 L hL)
    refine ⟨hp, ?_, hk L hL⟩
    have e := ex_rex (hch.2.2 L hL)
    rw [← e]
    exact ex_pos (hch.2.2 L hL)
  have hC : ∀ L ∈ Ls, ∀ x ∈ cvL1 L, x.1 = 1 := fun L hL => cv_line (hK L hL).1 (hK L hL).2.2 (hK L hL).2.1
  have f1 := lines_fit hms Ls hC a1.2.1
  have f2 := lines_fit (zSc_may hms) Ls hC a2.2.1
  have hsh := phase_sh hms Ls hK a1.2.1 a2.2.1
  have hm : mayF (flatL (zSc s) Ls) = 0 := by
    unfold mayF
    rw [if_neg (by omega), if_pos f2]
  have hv : mvL s.fx s.fy (flatL (zSc s) Ls) = flatL s Ls := by
    rw [hsh]
    unfold mvL
    refine List.map_congr_left fun L hL => List.map_congr_left fun x hx => ?_
    rw [List.all_eq_true] at f2
    exact mvD_small hms (f2 x (List.mem_flatten.2 ⟨L, hL, hx⟩))
  exact ⟨hm, hv, mvE_ok hm (by rw [hv]; exact f1)⟩
def ptL3 (p : Pt) : List Value := [.int .i64 p.1, .int .i64 p.2.1, .int .i64 p.2.2]
theorem ptC_flat : ∀ L : List Pt, ptCells L = L.flatMap ptL3
  | [] => rfl
  | p :: r => by rw [List.flatMap_cons, ← ptC_flat r]; rfl
theorem outF_at {w : World} {B : Nat} {A : Option Addr} {Ls : List (List Pt)} (h : OutF ptL3 w B A Ls) : OutAt w B A Ls :=
  ⟨fun i L hL => by
    obtain ⟨b, o, Ai, ci, h1, h2, h3, h4⟩ := h.at' i L hL
    exact ⟨b, o, Ai, ci, h1, h2, h3, by rw [ptC_flat]; exact h4⟩⟩
open Go.ChangeShapes Go.WideShapes Go.ChangeAt
theorem cellsIPF : Try.prog.cellsOf 3 = 1 := by kernel_rfl
section
variable {H : Type} {enc : TypeId × Value → H}
set_option maxRecDepth 100000 in
theorem open_ptF {w : World} {base fuel : Nat} {spare : Nat → Bool} {held : Bool} {cs : List Value} {x : DataW H × List MemPlace} (hl : cs.length = 3)
    (h : DataW.trod enc Try.prog w base spare held fuel 25 cs = some x) : ∃ d : Pt, cs = ptL3 d := by
  match cs, hl with
  | [c0, c1, c2], _ =>
    obtain ⟨zs, m, _, _, _, hlen2, hb⟩ := DataW.trod_struct Try.underlying25 h
    match zs, hlen2 with
    | [z0, z1, z2], _ =>
      have k0 := hb 0 _ rfl
      have k1 := hb 1 _ rfl
      have k2 := hb 2 _ rfl
      simp [cellsIPF] at k0 k1 k2
      obtain ⟨a1, e1, _⟩ := DataW.trod_int Try.underlying3 k0
      obtain ⟨a2, e2, _⟩ := DataW.trod_int Try.underlying3 k1
      obtain ⟨a3, e3, _⟩ := DataW.trod_int Try.underlying3 k2
      simp at e1 e2 e3
      subst e1 e2 e3
      exact ⟨(a1, a2, a3), rfl⟩
end
end Go.Proofs.Ytlacjifnniahhaa
