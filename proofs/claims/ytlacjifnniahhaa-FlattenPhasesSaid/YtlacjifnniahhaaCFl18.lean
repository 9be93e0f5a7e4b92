/- Part 19 of the proof: FlQ, FlR, Law, Law4, OpenInts, FlU. -/
import Derived.Deep.Cut
import Derived.Deep.CutBlock
import Derived.RangeFuncKeeps
import Derived.RangeFuncCalls
import Derived.RangeFuncLeaves
import Derived.RangeFuncFrom
import Derived.RangeFuncNested
import Derived.RangeFuncBound
import Derived.Shelf.Abstract
import Derived.Shelf.RegionOpen
import Derived.WalkKit
import Derived.OwnWalkIn
import Derived.TacticsInMore
import Derived.LoopNIn
import Derived.LoopIn
import Derived.Maps.OwnIn
import Derived.Deep.WholeRow
import Derived.Test.YtlacjifnniahhaaRows
import Derived.ProofKit
import Derived.OpenShut
import Derived.Carry
import Derived.Lib.SmallJoins
import Derived.ChangeSlices
import Derived.Test.YtlacjifnniahhaaCFl17

namespace Go.Proofs.Ytlacjifnniahhaa
open Go Go.RowKit Go.Shelf
attribute [local go_sem] Oper.semAt_some
set_option linter.unusedVariables false
set_option linter.unusedSimpArgs false

def cvL1 (L : List Pt) : List Cv := cvsOf (rexE L)
def okL (s : Sc) (L : List Pt) : Bool := (cvL1 L).all (okCv s)
def bwsL (s : Sc) (L : List Pt) : List Bw := (cvL1 L).map (bowCv s)
def flatL (s : Sc) (Ls : List (List Pt)) : List (List Dt) := Ls.map fun L => dotsB (bwsL s L)
def flatE (s : Sc) (Ls : List (List Pt)) : Int := if mscB s = true then (if chkE Ls = 0 then (if Ls.all (okL s) = true then (if 65536 < cntF (flatL s Ls) then 3 else 0) else 10) else chkE Ls) else 210
/-- What Flatten hands back. -/
def FlatPost (s : Sc) (Ls : List (List Pt)) (w : World) (e : Ending) (w' : World) : Prop :=
  (flatE s Ls ≠ 0 → e = .returned (.tuple #[.slice none 0 0, .int .i64 (flatE s Ls)]) ∧ Below w.heap.size w w') ∧
  (flatE s Ls = 0 → ∃ v, e = .returned (.tuple #[v, .int .i64 0]) ∧ Own2F dtL 27 61 2 w' w.heap.size v (flatL s Ls) ∧ Below w.heap.size w w')
theorem cvL1_len (L : List Pt) : (cvL1 L).length ≤ 2 * L.length + 1 := Nat.le_trans (cvsOf_len _) (rexE_len L)
theorem ptsW_le (c : Bw) : (ptsW c).length ≤ 256 := by
  rw [ptsW_len]
  unfold pcW
  split
  · have := pcs_in (need c); omega
  · omega
theorem dotsB_le : ∀ (Bs : List Bw), (dotsB Bs).length ≤ 256 * Bs.length
  | [] => by simp [dotsB]
  | x :: r => by
    have h1 := dotsB_le r
    have h2 := ptsW_le x
    have e : dotsB (x :: r) = ptsW x ++ dotsB r := rfl
    rw [e, List.length_append, List.length_cons]
    omega
theorem flat_le {s : Sc} {Ls : List (List Pt)} (hn : Ls.length ≤ 256) (hc : ∀ L ∈ Ls, L.length ≤ 4096) (k : Nat) : cntF (flatL s (Ls.take k)) ≤ 1000000000 := by
  have h1 : cntF (flatL s (Ls.take k)) ≤ (flatL s (Ls.take k)).length * 2097408 := cntF_le fun D hD => by
    unfold flatL at hD
    obtain ⟨L, hL, rfl⟩ := List.mem_map.1 hD
    have h2 := dotsB_le (bwsL s L)
    have h3 := cvL1_len L
    have h4 := hc L (List.mem_of_mem_take hL)
    have h5 : (bwsL s L).length = (cvL1 L).length := by simp [bwsL]
    omega
  have h2 : (flatL s (Ls.take k)).length ≤ 256 := by simp [flatL]; omega
  have := Nat.mul_le_mul_right 2097408 h2
  omega
theorem slice_ol (b o n c a : Nat) (h1 : a + 1 ≤ c) (w : World) : (Instr.sliceAt 37 (.slice (some ⟨b, o, none⟩) n c) (some (.int .i64 (a : Nat))) (some (.int .i64 ((a : Int) + 1))) none).run Try.prog w = .ok (.slice (some ⟨b, o + a, none⟩) 1 (c - a)) w := by
  have hu := Try.underlying37
  have hz := Try.sizeOf56
  have i1 : (0 : Int) ≤ (a : Int) + 1 := by omega
  have i2 : (a : Int) + 1 ≤ (c : Int) := by omega
  have i3 : (0 : Int) ≤ (a : Int) := by omega
  have i4 : (a : Int) ≤ (a : Int) + 1 := by omega
  have i5 : a ≤ a + 1 := by omega
  have i6 : ¬ c = a := by omega
  have i7 : ((a : Int) + 1).toNat = a + 1 := by omega
  have i8 : a + 1 - a = 1 := by omega
  simp [Instr.sliceAt, Instr.slice, Instr.sliceBounds, Instr.sliceBound, run_underlying hu, Sem.run_bind, Sem.run_pure, Result.andThen, asIntOf, hz, i1, i2, i3, i4, h1, i5, i6, i7, i8, addr_plain]
theorem bstInfoB : (Try.prog.info? 63).map (fun i => (i.zero, i.size, i.bytes)) = some (some (.slice none 0 0), 1, 24) := by kernel_rfl
theorem chk_one {L : List Pt} (h : mayC L = true) (hl : L.length ≤ 4096) : chkE [L] = 0 := by
  unfold chkE
  have e : cntO [L] = L.length := by simp [cntO]
  rw [if_neg (by simp; omega), if_pos (by simp [h])]
theorem outAt_one {w : World} {B b o ci k : Nat} {Ai : Option Addr} {L : List Pt} (hb : b < B) (h : w.cell? ⟨b, o + k, none⟩ = some (.slice Ai L.length ci)) (hl : Lists w B Ai (ptCells L)) : OutAt w B (some ⟨b, o + k, none⟩) [L] :=
  ⟨fun i M hM => by
    have : i = 0 := by
      have := (List.getElem?_eq_some_iff.1 hM).1
      simp at this; omega
    subst this
    simp at hM
    subst hM
    exact ⟨b, o + k, Ai, ci, rfl, hb, h, hl⟩⟩
/-- The curves of one contour, and then their bows. -/
theorem curves_oneC {b o k c ci : Nat} {Ai : Option Addr} {L : List Pt} {w V : World} (hb : b < w.heap.size) (h : w.cell? ⟨b, o + k, none⟩ = some (.slice Ai L.length ci)) (hl : Lists w w.heap.size Ai (ptCells L)) (hm : mayC L = true) (hn : L.length ≤ 4096) (hV : Below w.heap.size w V) :
    Calls Try.prog 38 #[.slice (some ⟨b, o + k, none⟩) 1 c] V fun e w' => ∃ k3 A3 c3, e = .returned (.func (.func 63) #[] #[.pointer (some ⟨k3, 0, none⟩)]) ∧ w'.cell? ⟨k3, 0, none⟩ = some (.slice A3 1 c3) ∧ k3 < w'.heap.size ∧ OutAt w' w'.heap.size A3 [exE L] ∧ Below V.heap.size V w' := by
  have O1 : OutAt V w.heap.size (some ⟨b, o + k, none⟩) [L] := outAt_one hb ((hV.cell (p := ⟨b, o + k, none⟩) hb).trans h) (hl.below hV)
  have C := curves_any w.heap.size (some ⟨b, o + k, none⟩) c [L] V hV.size O1 ⟨by simp, fun M hM => by simp at hM; subst hM; omega⟩
  refine (show Calls Try.prog 38 #[.slice (some ⟨b, o + k, none⟩) 1 c] V _ from C).mono fun e w' hp => ?_
  obtain ⟨k3, A3, c3, Es, h1, h2, h3, h4, h5, h6⟩ := hp
  rw [if_pos (chk_one hm hn)] at h5
  subst h5
  exact ⟨k3, A3, c3, h1, h2, h3, h4, h6⟩
theorem bows_oneC {s : Sc} {k3 c3 : Nat} {A3 : Option Addr} {L : List Pt} {V : World} (hms : mscB s = true) (hm : mayC L = true) (hn : L.length ≤ 4096) (h2 : V.cell? ⟨k3, 0, none⟩ = some (.slice A3 1 c3)) (h3 : k3 < V.heap.size) (h4 : OutAt V V.heap.size A3 [exE L]) :
    Calls Try.prog 37 #[.agg #[.int .i64 s.u, .int .i64 s.p, .int .i64 s.fx, .int .i64 s.fy], .func (.func 63) #[] #[.pointer (some ⟨k3, 0, none⟩)]] V (BowsP s (cvL1 L) V) := by
  have e1 : ([exE L] : List (List Pt)).flatMap cvYs = cvL1 L := by
    have := curves_one [L] (fun M hM => by simp at hM; subst hM; exact hm)
    simpa [cvL1] using this
  have h5 := rexE_len L
  have h6 := cvL1_len L
  have h7 := ex_rex hm
  have := bowsof_any s k3 V.heap.size A3 c3 [exE L] V hms h2 h3 h4 (Nat.le_refl _) (by simp) (fun M hM => by simp at hM; subst hM; rw [h7]; omega) (by rw [e1]; omega)
  rwa [e1] at this

set_option maxRecDepth 100000 in
set_option maxHeartbeats 8000000 in
theorem flatten_any (s : Sc) (B : Nat) (A : Option Addr) (c : Nat) (Ls : List (List Pt)) (w : World) (hB : B ≤ w.heap.size) (h : OutAt w B A Ls) (hs : Sm Ls) (hcap : Ls.length ≤ c) :
    Calls Try.prog 15 #[.agg #[.int .i64 s.u, .int .i64 s.p, .int .i64 s.fx, .int .i64 s.fy], .slice A Ls.length c] w (FlatPost s Ls w) := by
  have B1 := below_a1 w (.cells #[.int .i64 s.u, .int .i64 s.p, .int .i64 s.fx, .int .i64 s.fy] 23)
  have hFP : ∀ e w', ((flatE s Ls ≠ 0 → e = .returned (.tuple #[.slice none 0 0, .int .i64 (flatE s Ls)]) ∧ Below w.heap.size w w') ∧ (flatE s Ls = 0 → ∃ v, e = .returned (.tuple #[v, .int .i64 0]) ∧ Own2F dtL 27 61 2 w' w.heap.size v (flatL s Ls) ∧ Below w.heap.size w w')) → FlatPost s Ls w e w' := fun e w' h => h
  generalize FlatPost s Ls w = FP at *
  have HFP := Lib.hid hFP
  clear hFP
  have CM := fun W => fmsc_any s W
  have K := Blk.new w 23 #[.int .i64 s.u, .int .i64 s.p, .int .i64 s.fx, .int .i64 s.fy]
  obtain ⟨wA, hwA⟩ : ∃ wA, wA = w.alloc (.cells #[.int .i64 s.u, .int .i64 s.p, .int .i64 s.fx, .int .i64 s.fy] 23) := ⟨_, rfl⟩
  rw [← hwA] at K B1
  have hwAs : wA.heap.size = w.heap.size + 1 := by rw [hwA, World.size_alloc]
  have HA := Lib.hid hwA
  have HK := Lib.hid K
  have HB1 := Lib.hid B1
  clear hwA
  cases hms : mscB s
  · have HR := Lib.hid (show flatE s Ls = 210 by unfold flatE; rw [if_neg (by rw [hms]; simp)])
    rw [hms] at CM
    clear hms h
    have s0 := K.cell 0; have s1 := K.cell 1; have s2 := K.cell 2; have s3 := K.cell 3; have sl := K.lt; simp only [List.getElem?_toArray, List.getElem?_cons_succ, List.getElem?_cons_zero] at s0 s1 s2 s3
    clear K B1
    go_enter Try.func15, Try.ntmps15
    go_upto_region 1 with fail
    rw [← HA.out]
    go_wp2_with (go_at_call 28; refine (CM _).mono ?_; rintro e w1 ⟨rfl, b1⟩)
    exact HFP.out _ _ ⟨fun _ => ⟨by rw [HR.out]; rfl, HB1.out.trans (b1.mono HB1.out.size)⟩, fun h => absurd h (by rw [HR.out]; decide)⟩
  have HMS := Lib.hid hms
  have HSM := Lib.hid hs
  have CC := fun V (hV : Below w.heap.size w V) => check_any B A c Ls V (Nat.le_trans hB hV.size) (h.below (hV.mono hB)) hs
  rw [hms] at CM
  by_cases hx : chkE Ls = 0
  case neg =>
    have HR := Lib.hid (show flatE s Ls = chkE Ls by unfold flatE; rw [if_pos hms, if_neg hx])
    have d1 : (chkE Ls == 0) = false := by simpa using hx
    have d2 : (chkE Ls != 0) = true := by simpa using hx
    have HX := Lib.hid hx
    generalize chkE Ls = x at *
    clear hms h hx
    have s0 := K.cell 0; have s1 := K.cell 1; have s2 := K.cell 2; have s3 := K.cell 3; have sl := K.lt; simp only [List.getElem?_toArray, List.getElem?_cons_succ, List.getElem?_cons_zero] at s0 s1 s2 s3
    clear K B1
    go_enter Try.func15, Try.ntmps15
    go_upto_region 1 with fail
    rw [← HA.out]
    go_wp2_with (first
      | (go_at_call 28; refine (CM _).mono ?_; rintro e w1 ⟨rfl, b1⟩; have HB2 := Lib.hid (HB1.out.trans (b1.mono HB1.out.size)))
      | (go_at_call 36; refine (CC _ HB2.out).mono ?_; rintro e w2 ⟨rfl, b2⟩))
    exact HFP.out _ _ ⟨fun _ => ⟨by rw [HR.out]; rfl, HB2.out.trans (b2.mono HB2.out.size)⟩, fun h => absurd h (by rw [HR.out]; exact HX.out)⟩
  rw [hx] at CC
  obtain ⟨hn, hcnt, hmay⟩ := chk_zero hx
  have HFE := Lib.hid (show flatE s Ls = (if Ls.all (okL s) = true then (if 65536 < cntF (flatL s Ls) then 3 else 0) else 10) by unfold flatE; rw [if_pos hms, if_pos hx])
  have HMAY := Lib.hid (And.intro hmay (fun (L : List Pt) (hL : L ∈ Ls) => Nat.le_trans (len_cnt hL) hcnt))
  have HLE := Lib.hid (fun k => flat_le (s := s) hn (fun (L : List Pt) (hL : L ∈ Ls) => Nat.le_trans (len_cnt hL) hcnt) k)
  have HL := Lib.hid (h.more hB)
  obtain ⟨n, hnn⟩ : ∃ n, n = Ls.length := ⟨_, rfl⟩
  rw [← hnn] at hn hcap CC ⊢
  have HN := Lib.hid hnn
  have HD := Lib.hid (fun (V : World) (hV : Below wA.heap.size wA V) => And.intro ((hV.cell (p := ⟨w.heap.size, 0, none⟩) HK.out.lt).trans (HK.out.cell 0)) (And.intro ((hV.cell (p := ⟨w.heap.size, 1, none⟩) HK.out.lt).trans (HK.out.cell 1)) (And.intro ((hV.cell (p := ⟨w.heap.size, 2, none⟩) HK.out.lt).trans (HK.out.cell 2)) (And.intro ((hV.cell (p := ⟨w.heap.size, 3, none⟩) HK.out.lt).trans (HK.out.cell 3)) (Nat.lt_of_lt_of_le HK.out.lt hV.size)))))
  simp only [List.getElem?_toArray, List.getElem?_cons_succ, List.getElem?_cons_zero] at HD
  obtain ⟨i2, hi2, hz2, hs2, hy2⟩ := info_partsB bstInfoB
  have HI2 := Lib.hid (And.intro hi2 (And.intro hz2 (And.intro hs2 hy2)))
  obtain ⟨i3, hi3, hz3, hs3, hy3⟩ := info_partsB rtInfoB
  have HI3 := Lib.hid (And.intro hi3 (And.intro hz3 (And.intro hs3 hy3)))
  clear hi2 hz2 hs2 hy2 hi3 hz3 hs3 hy3 hnn h hs hmay hcnt hx hms
  have s0 := K.cell 0; have s1 := K.cell 1; have s2 := K.cell 2; have s3 := K.cell 3; have sl := K.lt; simp only [List.getElem?_toArray, List.getElem?_cons_succ, List.getElem?_cons_zero] at s0 s1 s2 s3
  clear K B1
  go_enter Try.func15, Try.ntmps15
  go_upto_region 1 with fail
  rw [← HA.out]
  go_wp2_with (first
    | (go_at_call 28; refine (CM _).mono ?_; rintro e w1 ⟨rfl, b1⟩; have HB2 := Lib.hid (HB1.out.trans (b1.mono HB1.out.size)))
    | (go_at_call 36; refine (CC _ HB2.out).mono ?_; rintro e w2 ⟨rfl, b2⟩))
  have HB3 := Lib.hid (b1.trans (b2.mono b1.size))
  clear b1 b2 HB2 CM CC s0 s1 s2 s3 sl
  go_loopw [7, 8, 27] (fun v m i wr => ∃ k : Nat, k ≤ n ∧ i = .int .i64 k ∧ m = .int .i64 ((cntF (flatL s (Ls.take k)) : Nat) : Int) ∧ (Ls.take k).all (okL s) = true ∧ Own2F bwL 70 63 9 wr wA.heap.size v ((Ls.take k).map (bwsL s)) ∧ Below wA.heap.size wA wr) (fun _ _ i _ => n - (intOf i).toNat)
  case atStart => exact ⟨0, Nat.zero_le _, rfl, rfl, rfl, Own2F.nil _ _, HB3.out⟩
  case round =>
    obtain ⟨k, hk, rfl, rfl, hall, hO, hb⟩ := hrel
    by_cases hlt : k < n
    · have d1 : decide ((k : Int) < (n : Int)) = true := by simp; omega
      obtain ⟨L, hL⟩ := at_some (L := Ls) (k := k) (by rw [← HN.out]; exact hlt)
      have hmem := List.mem_of_getElem? hL
      obtain ⟨b, o, Ai, ci, rfl, hbl, c0, hE⟩ := HL.out.at' k L hL
      have hbw := (HB1.out.trans (hb.mono HB1.out.size))
      have hbs := hb.size
      have hbl2 : b < wr.heap.size := by have := hbw.size; omega
      have hcell := (hbw.cell (p := ⟨b, o + k, none⟩) hbl).trans c0
      have hE2 := (hE.below hbw).more hbw.size
      have CC1 := Lib.hid (fun V (hV : Below wr.heap.size wr V) => curves_oneC (c := c - k) hbl2 hcell hE2 (HMAY.out.1 L hmem) (HMAY.out.2 L hmem) hV)
      have CB1 := Lib.hid (fun (k3 c3 : Nat) A3 V h2 h3 h4 => bows_oneC (s := s) (k3 := k3) (c3 := c3) (A3 := A3) (V := V) HMS.out (HMAY.out.1 L hmem) (HMAY.out.2 L hmem) h2 h3 h4)
      have SL : ∀ W, (Instr.sliceAt 37 (.slice (some ⟨b, o, none⟩) n c) (some (.int .i64 (k : Nat))) (some (.int .i64 (IntKind.i64.wrap ((k : Int) + 1)))) none).run Try.prog W = .ok (.slice (some ⟨b, o + k, none⟩) 1 (c - k)) W := fun W => by rw [wrap_ini (by omega)]; exact slice_ol b o n c k (by omega) W
      have HC := Lib.hid hL
      obtain ⟨N0, hN0⟩ : ∃ N0, N0 = cntF (flatL s (Ls.take k)) := ⟨_, rfl⟩
      rw [← hN0]
      have hN0l : N0 ≤ 1000000000 := by rw [hN0]; exact HLE.out k
      obtain ⟨Bs, hBse⟩ : ∃ Bs, Bs = bwsL s L := ⟨_, rfl⟩
      have HBS := Lib.hid hBse
      have HN0 := Lib.hid hN0
      have HT := Lib.hid (show (Ls.take (k + 1)).map (bwsL s) = (Ls.take k).map (bwsL s) ++ [Bs] ∧ flatL s (Ls.take (k + 1)) = flatL s (Ls.take k) ++ [dotsB Bs] from ⟨by rw [take_snocF hL, hBse]; simp, by rw [take_snocF hL, hBse]; simp [flatL]⟩)
      clear hN0 hBse
      clear c0 hE hcell hE2 hmem hL
      obtain ⟨wo, hwo⟩ : ∃ wo, wo = wr := ⟨_, rfl⟩
      rw [← hwo] at hO hb hbw hbs hbl2 CC1 ⊢
      have HW := Lib.hid (And.intro hall (And.intro hO hb))
      clear hall hO hb hwo
      have hJ0 := HW.out.2.2
      cases hok : okL s L
      · have hok2 : (cvL1 L).all (okCv s) = false := hok
        have hno : Ls.all (okL s) = false := List.all_eq_false.2 ⟨L, List.mem_of_getElem? HC.out, by rw [hok]; decide⟩
        have HR := Lib.hid (show flatE s Ls = 10 by rw [HFE.out, hno]; rfl)
        clear hno hok
        go_upto_region 11 with fail
        have hI : Below wo.heap.size wo wo.drew := (Below.refl _ _).drew
        refine wp_region_chain (fun V => Below wo.heap.size wo V) [(0, false), (1, false), (2, false), (3, false), (4, false), (5, false), (6, true), (7, true), (8, false), (9, false), (10, false), (11, false), (12, false)] (by kernel_rfl) (by kernel_rfl) hI ?_
        obtain ⟨wd, hwd⟩ : ∃ wd, wd = wo.drew := ⟨_, rfl⟩
        rw [← hwd] at hI ⊢
        clear hwd
        repeat (first
          | (refine ChainL.skip (o := ?_) ?_ ?_ ?_; rotate_left; (focus (first | (simp only [List.getElem?_toArray, List.getElem?_cons_succ, List.getElem?_cons_zero]; with_reducible rfl) | (simp only [List.getElem?_toArray, List.getElem?_cons_zero]; with_reducible rfl))); (focus rfl); simp only [Act.put, List.setIfInBounds_toArray, List.set_cons_zero, List.set_cons_succ])
          | (refine ChainL.val (o := ?_) (v := ?_) ?_ ?_ ?_ ?_ ?_; rotate_left 2; (focus (first | (simp only [List.getElem?_toArray, List.getElem?_cons_succ, List.getElem?_cons_zero]; with_reducible rfl) | (simp only [List.getElem?_toArray, List.getElem?_cons_zero]; with_reducible rfl))); (focus (intro _ _ h; cases h)); (focus rfl); (focus (intro w' hJ; obtain ⟨s0, s1, s2, s3, sl⟩ := HD.out _ (HW.out.2.2.trans (hJ.mono hbs)); go_simp <;> with_reducible rfl)); simp only [Act.put, List.setIfInBounds_toArray, List.set_cons_zero, List.set_cons_succ]))
        refine ChainL.call (o := ?_) (f := ?_) (args := ?_) ?_ ?_ ?_ ?_
        rotate_left 3
        (focus (first | (simp only [List.getElem?_toArray, List.getElem?_cons_succ, List.getElem?_cons_zero]; with_reducible rfl) | (simp only [List.getElem?_toArray, List.getElem?_cons_zero]; with_reducible rfl)))
        (focus rfl)
        (focus (go_simp; (constructor <;> with_reducible rfl)))
        with_reducible refine (CC1.out _ hI).mono ?_
        rintro e w3 ⟨k3, A3, c3, rfl, h2, h3, h4, b3⟩
        have hI3 : Below wo.heap.size wo w3 := hI.trans (b3.mono hI.size)
        refine ⟨_, rfl, hI3, ?_⟩
        simp only [Act.put, List.setIfInBounds_toArray, List.set_cons_zero, List.set_cons_succ]
        refine ChainL.call (o := ?_) (f := ?_) (args := ?_) ?_ ?_ ?_ ?_
        rotate_left 3
        (focus (first | (simp only [List.getElem?_toArray, List.getElem?_cons_succ, List.getElem?_cons_zero]; with_reducible rfl) | (simp only [List.getElem?_toArray, List.getElem?_cons_zero]; with_reducible rfl)))
        (focus rfl)
        (focus (go_simp; (constructor <;> with_reducible rfl)))
        with_reducible refine (CB1.out k3 c3 A3 w3 h2 h3 h4).mono ?_
        rintro e w4 ⟨v4, rfl, _, hv4, b4⟩
        rw [if_neg (by rw [hok2]; decide)]
        have hI4 : Below wo.heap.size wo w4 := hI3.trans (b4.mono hI3.size)
        refine ⟨_, rfl, hI4, ?_⟩
        simp only [Act.put, List.setIfInBounds_toArray, List.set_cons_zero, List.set_cons_succ]
        repeat (first
          | (refine ChainL.skip (o := ?_) ?_ ?_ ?_; rotate_left; (focus (first | (simp only [List.getElem?_toArray, List.getElem?_cons_succ, List.getElem?_cons_zero]; with_reducible rfl) | (simp only [List.getElem?_toArray, List.getElem?_cons_zero]; with_reducible rfl))); (focus rfl); simp only [Act.put, List.setIfInBounds_toArray, List.set_cons_zero, List.set_cons_succ])
          | (refine ChainL.val (o := ?_) (v := ?_) ?_ ?_ ?_ ?_ ?_; rotate_left 2; (focus (first | (simp only [List.getElem?_toArray, List.getElem?_cons_succ, List.getElem?_cons_zero]; with_reducible rfl) | (simp only [List.getElem?_toArray, List.getElem?_cons_zero]; with_reducible rfl))); (focus (intro _ _ h; cases h)); (focus rfl); (focus (intro w' hJ; obtain ⟨s0, s1, s2, s3, sl⟩ := HD.out _ (HW.out.2.2.trans (hJ.mono hbs)); go_simp <;> with_reducible rfl)); simp only [Act.put, List.setIfInBounds_toArray, List.set_cons_zero, List.set_cons_succ]))
        refine ChainL.nil ?_
        have HB9 := Lib.hid (HB1.out.trans ((HW.out.2.2.trans (hI4.mono hbs)).mono HB1.out.size))
        clear b3 b4 hI hI3 hI4 h2 h3 h4 SL CC1 CB1 hJ0
        go_wp2
        exact HFP.out _ _ ⟨fun _ => ⟨by rw [HR.out]; rfl, HB9.out⟩, fun h => absurd h (by rw [HR.out]; decide)⟩
      · have hok2 : (cvL1 L).all (okCv s) = true := hok
        go_upto_region 11 with fail
        have hI : Below wo.heap.size wo wo.drew := (Below.refl _ _).drew
        refine wp_region_chain (fun V => Below wo.heap.size wo V) [(0, false), (1, false), (2, false), (3, false), (4, false), (5, false), (6, true), (7, true), (8, false), (9, false), (10, false), (11, false), (12, false)] (by kernel_rfl) (by kernel_rfl) hI ?_
        obtain ⟨wd, hwd⟩ : ∃ wd, wd = wo.drew := ⟨_, rfl⟩
        rw [← hwd] at hI ⊢
        clear hwd
        repeat (first
          | (refine ChainL.skip (o := ?_) ?_ ?_ ?_; rotate_left; (focus (first | (simp only [List.getElem?_toArray, List.getElem?_cons_succ, List.getElem?_cons_zero]; with_reducible rfl) | (simp only [List.getElem?_toArray, List.getElem?_cons_zero]; with_reducible rfl))); (focus rfl); simp only [Act.put, List.setIfInBounds_toArray, List.set_cons_zero, List.set_cons_succ])
          | (refine ChainL.val (o := ?_) (v := ?_) ?_ ?_ ?_ ?_ ?_; rotate_left 2; (focus (first | (simp only [List.getElem?_toArray, List.getElem?_cons_succ, List.getElem?_cons_zero]; with_reducible rfl) | (simp only [List.getElem?_toArray, List.getElem?_cons_zero]; with_reducible rfl))); (focus (intro _ _ h; cases h)); (focus rfl); (focus (intro w' hJ; obtain ⟨s0, s1, s2, s3, sl⟩ := HD.out _ (HW.out.2.2.trans (hJ.mono hbs)); go_simp <;> with_reducible rfl)); simp only [Act.put, List.setIfInBounds_toArray, List.set_cons_zero, List.set_cons_succ]))
        refine ChainL.call (o := ?_) (f := ?_) (args := ?_) ?_ ?_ ?_ ?_
        rotate_left 3
        (focus (first | (simp only [List.getElem?_toArray, List.getElem?_cons_succ, List.getElem?_cons_zero]; with_reducible rfl) | (simp only [List.getElem?_toArray, List.getElem?_cons_zero]; with_reducible rfl)))
        (focus rfl)
        (focus (go_simp; (constructor <;> with_reducible rfl)))
        with_reducible refine (CC1.out _ hI).mono ?_
        rintro e w3 ⟨k3, A3, c3, rfl, h2, h3, h4, b3⟩
        have hI3 : Below wo.heap.size wo w3 := hI.trans (b3.mono hI.size)
        refine ⟨_, rfl, hI3, ?_⟩
        simp only [Act.put, List.setIfInBounds_toArray, List.set_cons_zero, List.set_cons_succ]
        refine ChainL.call (o := ?_) (f := ?_) (args := ?_) ?_ ?_ ?_ ?_
        rotate_left 3
        (focus (first | (simp only [List.getElem?_toArray, List.getElem?_cons_succ, List.getElem?_cons_zero]; with_reducible rfl) | (simp only [List.getElem?_toArray, List.getElem?_cons_zero]; with_reducible rfl)))
        (focus rfl)
        (focus (go_simp; (constructor <;> with_reducible rfl)))
        with_reducible refine (CB1.out k3 c3 A3 w3 h2 h3 h4).mono ?_
        rintro e w4 ⟨v4, rfl, own4, _, b4⟩
        rw [if_pos hok2]
        have hI4 : Below wo.heap.size wo w4 := hI3.trans (b4.mono hI3.size)
        refine ⟨_, rfl, hI4, ?_⟩
        simp only [Act.put, List.setIfInBounds_toArray, List.set_cons_zero, List.set_cons_succ]
        repeat (first
          | (refine ChainL.skip (o := ?_) ?_ ?_ ?_; rotate_left; (focus (first | (simp only [List.getElem?_toArray, List.getElem?_cons_succ, List.getElem?_cons_zero]; with_reducible rfl) | (simp only [List.getElem?_toArray, List.getElem?_cons_zero]; with_reducible rfl))); (focus rfl); simp only [Act.put, List.setIfInBounds_toArray, List.set_cons_zero, List.set_cons_succ])
          | (refine ChainL.val (o := ?_) (v := ?_) ?_ ?_ ?_ ?_ ?_; rotate_left 2; (focus (first | (simp only [List.getElem?_toArray, List.getElem?_cons_succ, List.getElem?_cons_zero]; with_reducible rfl) | (simp only [List.getElem?_toArray, List.getElem?_cons_zero]; with_reducible rfl))); (focus (intro _ _ h; cases h)); (focus rfl); (focus (intro w' hJ; obtain ⟨s0, s1, s2, s3, sl⟩ := HD.out _ (HW.out.2.2.trans (hJ.mono hbs)); go_simp <;> with_reducible rfl)); simp only [Act.put, List.setIfInBounds_toArray, List.set_cons_zero, List.set_cons_succ]))
        refine ChainL.nil ?_
        have own5 := own_monoF (own4 hok2) hI3.size
        have hBs : (cvL1 L).length = (bwsL s L).length := by simp [bwsL]
        rw [show ((cvL1 L).map (bowCv s)) = bwsL s L from rfl, hBs, ← HBS.out] at own5
        obtain ⟨m, hm⟩ : ∃ m, m = Bs.length := ⟨_, rfl⟩
        rw [← hm] at own5
        obtain ⟨A1, c1, rfl, _, _⟩ := own_lists own5
        have HM := Lib.hid hm
        have H5 := Lib.hid (And.intro own5 hI4)
        obtain ⟨rows, ho, hi⟩ := HW.out.2.1
        have hkl : ((Ls.take k).map (bwsL s)).length = k := by rw [List.length_map, List.length_take]; have := HN.out; omega
        have HK2 := Lib.hid hkl
        rw [hkl] at ho
        have HO := Lib.hid (And.intro ho hi)
        have hml : m ≤ 1000000 := by
          have h1 := cvL1_len L
          have h2 := HMAY.out.2 L (List.mem_of_getElem? HC.out)
          rw [hm, HBS.out, ← hBs]
          omega
        have hw4 := hI4.size
        clear own4 own5 b3 b4 hI hI3 hI4 h2 h3 h4 hm hBs ho hi hkl SL CC1 CB1 hJ0
        go_wp2_with (at_builtin; refine wpList_append_src _ rfl (.tmp 44) (.tmp 46) 62 rfl wA.heap.size 63 i2 (.slice none 0 0) 1 24 Try.underlying62 HI2.out.1 HI2.out.2.1 HI2.out.2.2.1 HI2.out.2.2.2 rfl (by decide) _ k rows rfl (own_stayF (own_stayF HO.out.1 H5.out.2) (below_a1 _ _)) _ _ 1 1 [.slice A1 m c1] rfl (lists_newB w4 _ _) rfl (fun u hu => by simp at hu; subst hu; rfl) (by simp only [maxLen]; omega) (by omega) (by have := H5.out.2.size; simp; omega) ?_; intro v7 w7 own7 hg7 hat7)
        have hg8 : (w4.alloc (.cells #[.slice A1 m c1] 63)).grownBy w7 u7.ownBlock := hg7
        clear hg7 hat7
        have b7 : Below wA.heap.size wA w7 := ((HW.out.2.2.trans (H5.out.2.mono hbs)).alloc (by omega) _).grown hg8 (by simp; omega) (fun jj hjj => (HO.out.1.lt jj hjj).1)
        have O7 : Own2F bwL 70 63 9 w7 wA.heap.size v7 ((Ls.take (k + 1)).map (bwsL s)) := by
          rw [HT.out.1]
          exact own2F_push (by decide) hbs (by rw [HK2.out]; exact HO.out.1) HO.out.2 H5.out.2 (by rw [← HM.out]; exact H5.out.1) (below_a1 _ _) (by rw [HK2.out]; exact own7) hg8
        have r7 : w7.ownsRow wo.heap.size 70 9 (.slice A1 m c1) m (Bs.flatMap bwL) := own_only (own_stayF H5.out.1 (below_a1 _ _)) ((Only.refl _ (blk u7)).grown hg8 (fun b hb => .inl (by simp [blk, hb]))) (fun b h1 h2 => by
          have := own_lowB H5.out.1 b h1
          have := own_ltB HO.out.1 b h2
          omega)
        obtain ⟨A2, c2, heq, l7, _⟩ := own_lists r7
        cases heq
        have H7 := Lib.hid (And.intro b7 (And.intro O7 l7))
        have hw7 : wo.heap.size ≤ w7.heap.size := by have := hg8.size; simp at this; omega
        have hb7 := b7.size
        clear b7 O7 r7 l7 hg8 own7
        go_loopw [8, 50] (fun x j wr => ∃ q : Nat, q ≤ m ∧ j = .int .i64 q ∧ x = .int .i64 ((N0 + (dotsB (Bs.take q)).length : Nat) : Int) ∧ Below w7.heap.size w7 wr) (fun _ j _ => m - (intOf j).toNat)
        case atStart => exact ⟨0, Nat.zero_le _, rfl, by simp [dotsB], Below.refl _ _⟩
        case round =>
          obtain ⟨q, hq, rfl, rfl, hb2⟩ := hrel
          by_cases hlt2 : q < m
          · have d2 : decide ((q : Int) < (m : Int)) = true := by simp; omega
            obtain ⟨y, hy⟩ := at_someF (L := Bs) (k := q) (by rw [← HM.out]; exact hlt2)
            obtain ⟨fb, fo, hA2, hfb, hfc⟩ := lists_flat (sz := 9) (fun _ => rfl) (by omega) H7.out.2.2 hy
            subst hA2
            have hr : wr.rangeAt fb (fo + q * 9) (bwL y) := fun j v hv => (hb2.cell (p := ⟨fb, fo + q * 9 + j, none⟩) hfb).trans (hfc j v hv)
            have hb2s := hb2.size
            have hfl : fb < wr.heap.size := by omega
            have HNB := Lib.hid (Blk.new wr 70 #[.int .i64 0, .int .i64 0, .int .i64 0, .int .i64 0, .int .i64 0, .int .i64 0, .int .i64 0, .int .i64 0, .int .i64 0])
            have hpl : pcW y = ((ptsW y).length : Int) := by rw [ptsW_len]; have := pcW_nn y; omega
            have CP := fun V => cpcs_any y V
            unfold bwV at CP
            rw [hpl] at CP
            have HT2 := Lib.hid (dotsB_take hy)
            have hpy := ptsW_le y
            have hdq : (dotsB (Bs.take q)).length ≤ 256000000 := by
              have h1 := dotsB_le (Bs.take q)
              have h2 : (Bs.take q).length ≤ q := by simp; omega
              omega
            obtain ⟨P, hP⟩ : ∃ P, P = (ptsW y).length := ⟨_, rfl⟩
            rw [← hP] at CP hpy
            obtain ⟨D, hDe⟩ : ∃ D, D = (dotsB (Bs.take q)).length := ⟨_, rfl⟩
            rw [← hDe] at hdq ⊢
            have HPD := Lib.hid (show (dotsB (Bs.take (q + 1))).length = D + P by rw [HT2.out, List.length_append, hP, hDe])
            have HBQ := Lib.hid hb2
            clear hy hfc hpl hP hDe hb2
            go_upto_region 18 with (first
              | (refine wpList_load_mid rfl 70 (.tmp 52) (by with_reducible rfl) fb (fo + q * 9) (by rfl) (bwL y) _ hr Try.underlying70 rfl bwInfo9 ?_)
              | (refine wpList_store_row rfl 70 (.tmp 13) (.tmp 53) (by with_reducible rfl) wr.heap.size #[.int .i64 y.k, .int .i64 y.xa, .int .i64 y.ya, .int .i64 y.xb, .int .i64 y.yb, .int .i64 y.xc, .int .i64 y.yc, .int .i64 y.xd, .int .i64 y.yd] (by rfl) (by rfl) 70 #[.int .i64 0, .int .i64 0, .int .i64 0, .int .i64 0, .int .i64 0, .int .i64 0, .int .i64 0, .int .i64 0, .int .i64 0] (by exact HNB.out) bwInfo9 rfl (by simp [Value.oneCell']) ?_))
            obtain ⟨w2, hw2⟩ : ∃ w2, w2 = (wr.alloc (.cells #[.int .i64 0, .int .i64 0, .int .i64 0, .int .i64 0, .int .i64 0, .int .i64 0, .int .i64 0, .int .i64 0, .int .i64 0] 70)).setRow wr.heap.size #[.int .i64 y.k, .int .i64 y.xa, .int .i64 y.ya, .int .i64 y.xb, .int .i64 y.yb, .int .i64 y.xc, .int .i64 y.yc, .int .i64 y.xd, .int .i64 y.yd] := ⟨_, rfl⟩
            rw [← hw2]
            have B2 : Below wr.heap.size wr w2 := hw2 ▸ below_setRow (g := wr.heap.size) (below_a1 _ _) (Nat.le_refl _) _
            have K2 : Blk w2 wr.heap.size 70 #[.int .i64 y.k, .int .i64 y.xa, .int .i64 y.ya, .int .i64 y.xb, .int .i64 y.yb, .int .i64 y.xc, .int .i64 y.yc, .int .i64 y.xd, .int .i64 y.yd] := by rw [hw2]; exact blk_row HNB.out _
            have c0 := K2.cell 0; have c1 := K2.cell 1; have c2 := K2.cell 2; have c3 := K2.cell 3; have c4 := K2.cell 4; have c5 := K2.cell 5; have c6 := K2.cell 6; have c7 := K2.cell 7; have c8 := K2.cell 8; have cl := K2.lt; simp only [List.getElem?_toArray, List.getElem?_cons_succ, List.getElem?_cons_zero] at c0 c1 c2 c3 c4 c5 c6 c7 c8
            clear hw2 K2 hr hfl
            go_wp2_with (go_at_call 39; (with_reducible refine (CP _).mono ?_); rintro e w3 ⟨rfl, b3⟩)
            go_roundw
            case rel => exact ⟨q + 1, by omega, by go_num, by rw [HPD.out]; go_num, HBQ.out.trans ((B2.trans (b3.mono B2.size)).mono hb2s)⟩
            case measure => simp [intOf]; omega
          · obtain rfl : q = m := by omega
            have d2 : decide ((q : Int) < (q : Int)) = false := by simp
            have HTQ := Lib.hid (show Bs.take q = Bs from List.take_of_length_le (by rw [← HM.out]; exact Nat.le_refl _))
            have HBQ := Lib.hid hb2
            clear hb2
            go_wp2
            go_roundw
            case rel =>
              refine ⟨k + 1, by omega, by go_num, ?_, ?_, H7.out.2.1.below HBQ.out, H7.out.1.trans (HBQ.out.mono hb7)⟩
              · rw [HT.out.2, cntF_snoc, HTQ.out, HN0.out]
              · rw [take_snocF HC.out, List.all_append, HW.out.1]
                simp [hok]
            case measure => simp [intOf]; omega
    · obtain rfl : k = n := by omega
      have d1 : decide ((k : Int) < (k : Int)) = false := by simp
      have hTK : Ls.take k = Ls := List.take_of_length_le (by rw [← HN.out]; exact Nat.le_refl _)
      have hcl := HLE.out k
      rw [hTK] at hall hO hcl ⊢
      rw [hall, if_pos rfl] at HFE
      have HT := Lib.hid hTK
      obtain ⟨C, hC⟩ : ∃ C, C = cntF (flatL s Ls) := ⟨_, rfl⟩
      rw [← hC] at HFE hcl ⊢
      have HCC := Lib.hid hC
      have hbs := hb.size
      have HBW := Lib.hid (HB1.out.trans (hb.mono HB1.out.size))
      have HBA := Lib.hid hb
      clear hC hTK hall hb
      by_cases h65 : 65536 < C
      · have d3 : decide ((65536 : Int) < (C : Int)) = true := by simp; omega
        rw [if_pos h65] at HFE
        clear hO
        go_wp2
        exact HFP.out _ _ ⟨fun _ => ⟨by rw [HFE.out]; rfl, HBW.out⟩, fun h => absurd h (by rw [HFE.out]; decide)⟩
      · have d3 : decide ((65536 : Int) < (C : Int)) = false := by simp; omega
        rw [if_neg h65] at HFE
        obtain ⟨A2, c2, hv, hc2, out2⟩ := hO.out
        subst hv
        rw [List.length_map, ← HN.out]
        have HOUT := Lib.hid out2
        obtain ⟨wB, hwB⟩ : ∃ wB, wB = wr := ⟨_, rfl⟩
        rw [← hwB] at HOUT HBW HBA hbs ⊢
        clear hO out2 hwB hc2
        go_wp2
        go_loopw [14, 64] (fun v i wr => ∃ q : Nat, q ≤ k ∧ i = .int .i64 q ∧ Own2F dtL 27 61 2 wr wB.heap.size v (flatL s (Ls.take q)) ∧ Below wB.heap.size wB wr) (fun _ i _ => k - (intOf i).toNat)
        case atStart => exact ⟨0, Nat.zero_le _, rfl, Own2F.nil _ _, Below.refl _ _⟩
        case round =>
          obtain ⟨q, hq, rfl, hOq, hbq⟩ := hrel
          by_cases hlt2 : q < k
          · have d2 : decide ((q : Int) < (k : Int)) = true := by simp; omega
            obtain ⟨L, hL⟩ := at_some (L := Ls) (k := q) (by rw [← HN.out]; exact hlt2)
            have hL2 : (Ls.map (bwsL s))[q]? = some (bwsL s L) := by rw [List.getElem?_map, hL]; rfl
            obtain ⟨fb, fo, Ai, ci, hA2, hfb, c0, hE⟩ := HOUT.out.at' q _ hL2
            subst hA2
            have g0 := (hbq.cell (p := ⟨fb, fo + q, none⟩) hfb).trans c0
            have hbqs := hbq.size
            have g3 : fb < wr.heap.size := by omega
            have HT3 := Lib.hid (show flatL s (Ls.take (q + 1)) = flatL s (Ls.take q) ++ [dotsB (bwsL s L)] by rw [take_snocF hL]; simp [flatL])
            have hdl : (dotsB (bwsL s L)).length ≤ 65536 := by
              have h1 : (dotsB (bwsL s L)).length ≤ cntF (flatL s Ls) := cntF_mem (List.mem_map.2 ⟨L, List.mem_of_getElem? hL, rfl⟩)
              rw [← HCC.out] at h1; omega
            have hml : (bwsL s L).length ≤ 1000000 := by
              have h1 := cvL1_len L
              have h2 := HMAY.out.2 L (List.mem_of_getElem? hL)
              have h3 : (bwsL s L).length = (cvL1 L).length := by simp [bwsL]
              omega
            have B9 := below_a1 wr (.cells #[.slice Ai (bwsL s L).length ci] 63)
            have CO := collect_any wr.heap.size Ai ci (bwsL s L) (wr.alloc (.cells #[.slice Ai (bwsL s L).length ci] 63)) ((Blk.new wr 63 #[.slice Ai (bwsL s L).length ci]).cell 0) (((hE.below hbq).more hbqs |>.below B9).more B9.size) (by simp) hml (by omega)
            obtain ⟨Bs, hBs⟩ : ∃ Bs, Bs = bwsL s L := ⟨_, rfl⟩
            rw [← hBs] at CO g0 hdl hml HT3 B9
            obtain ⟨rows, ho, hi⟩ := hOq
            have hkl : (flatL s (Ls.take q)).length = q := by unfold flatL; rw [List.length_map, List.length_take]; have := HN.out; omega
            have HK := Lib.hid hkl
            rw [hkl] at ho
            have HO := Lib.hid (And.intro ho hi)
            obtain ⟨m, hm⟩ : ∃ m, m = Bs.length := ⟨_, rfl⟩
            rw [← hm] at CO g0 hml B9
            have HBQ := Lib.hid hbq
            clear c0 hE hL hL2 ho hi hkl hbq hm hBs
            go_wp2_with (first
              | (go_at_call 41; (with_reducible refine (fdotsof_any _ _ _ _).mono ?_); rintro e w5 ⟨rfl, rfl⟩)
              | (go_at_call 40; (with_reducible refine (CO).mono ?_); rintro e w6 ⟨r6, rfl, own6, b6⟩; obtain ⟨A1, c1, rfl, _, _⟩ := own_lists own6; have H6 := Lib.hid (And.intro (own_monoF own6 B9.size) (B9.trans (b6.mono B9.size))); have hw6 := H6.out.2.size)
              | (at_builtin; refine wpList_append_src _ rfl (.tmp 68) (.tmp 72) 39 rfl wB.heap.size 61 i3 (.slice none 0 0) 1 24 Try.underlying39 HI3.out.1 HI3.out.2.1 HI3.out.2.2.1 HI3.out.2.2.2 rfl (by decide) _ q rows rfl (own_stayF (own_stayF HO.out.1 H6.out.2) (below_a1 _ _)) _ _ 1 1 [.slice A1 _ c1] rfl (lists_newB w6 _ _) rfl (fun u hu => by simp at hu; subst hu; rfl) (by simp only [maxLen]; omega) (by omega) (by simp; omega) ?_; intro v7 w7 own7 hg7 hat7))
            go_roundw
            case rel =>
              refine ⟨q + 1, by omega, by go_num, ?_, ((HBQ.out.trans (H6.out.2.mono hbqs)).alloc (by omega) _).grown hg7 (by simp; omega) (fun jj hjj => (HO.out.1.lt jj hjj).1)⟩
              rw [HT3.out]
              exact own2F_push (by decide) hbqs (by rw [HK.out]; exact HO.out.1) HO.out.2 H6.out.2 H6.out.1 (below_a1 _ _) (by rw [HK.out]; exact own7) hg7
            case measure => simp [intOf]; omega
          · obtain rfl : q = k := by omega
            have d2 : decide ((q : Int) < (q : Int)) = false := by simp
            rw [HT.out] at hOq
            have HOQ := Lib.hid (And.intro (hOq.mono HBW.out.size) (HBW.out.trans (hbq.mono HBW.out.size)))
            clear hOq hbq
            go_wp2
            exact HFP.out _ _ ⟨fun h => absurd HFE.out h, fun _ => ⟨_, rfl, HOQ.out.1, HOQ.out.2⟩⟩
end Go.Proofs.Ytlacjifnniahhaa

namespace Go.Proofs.Ytlacjifnniahhaa
open Go Go.RowKit Go.Shelf
attribute [local go_sem] Oper.semAt_some
set_option linter.unusedVariables false
set_option linter.unusedSimpArgs false

def TRI : List (List Pt) := [[(0, 0, 1), (6553600, 0, 1), (6553600, 6553600, 1)]]
def FL3 : List (List Dt) := [[(64, 0), (64, -64), (0, 0)]]
def FM3 : List (List Dt) := [[(128, 0), (128, -64), (64, 0)]]
theorem tri_ok : flatE (⟨1000, 10, 0, 0⟩ : Sc) TRI = 0 := by decide +kernel
theorem tri_fl : flatL (⟨1000, 10, 0, 0⟩ : Sc) TRI = FL3 := by decide +kernel
theorem fl3_may : mayF FL3 = 0 := by decide +kernel
theorem fl3_mv : mvE 64 0 FL3 = 0 := by decide +kernel
theorem fl3_ml : mvL 64 0 FL3 = FM3 := by decide +kernel
theorem fl3_ar : arF (lnA FL3) = -4096 := by decide +kernel
theorem fl3_bx : boxF FL3 = ⟨0, -1, 1, 0⟩ := by kernel_rfl
theorem s10_d : dotD (⟨1000, 10, 0, 0⟩ : Sc) 32768000 65536000 = (320, -640) := by decide +kernel
theorem s10_e : dotE (⟨1000, 10, 0, 0⟩ : Sc) 32768000 65536000 = 0 := by decide +kernel
theorem s10_a : advD (⟨1000, 10, 0, 0⟩ : Sc) 500 = 320 := by decide +kernel
theorem s10_b : advE (⟨1000, 10, 0, 0⟩ : Sc) 500 = 0 := by decide +kernel
theorem s0_d : dotD (⟨0, 0, 0, 0⟩ : Sc) 0 0 = (0, 0) := by decide +kernel
theorem s0_e : dotE (⟨0, 0, 0, 0⟩ : Sc) 0 0 = 210 := by decide +kernel
theorem sm_tri : Sm TRI := ⟨by decide, fun L hL => by simp [TRI] at hL; subst hL; decide⟩
theorem sm_fl3 : SmF FL3 := ⟨by decide, by decide⟩
theorem scSize4 : (Try.prog.info? 23).map (·.size) = some 4 := by kernel_rfl
theorem eqF2_run (a b a' b' : Int) (r : Bool) (hr : (a == a' && b == b') = r) (w : World) :
    (binOp .eql 27 (.agg #[.int .i64 a, .int .i64 b]) (.agg #[.int .i64 a', .int .i64 b'])).run Try.prog w = .ok (.bool r) w := by
  subst hr
  have hS : Try.prog.underlying 27 = some (.struct (Try.prog.fieldsOf 27)) := by kernel_rfl
  have hp : Try.prog.stoodInHeld 27 = false := by kernel_rfl
  have u3 := Try.underlying3
  have a3 := Try.isAgg3
  have z3 := Try.sizeOf3
  rw [run_eql_struct, show (10000 : Nat) = 9999 + 1 from rfl, run_equalIn_agg w 9999 27 _ _ hS hp]
  simp only [Program.fieldsOf, Try.underlying27]
  go_simp
  by_cases h1 : a = a' <;> by_cases h2 : b = b' <;> simp [h1, h2]
theorem eqF2_guard (a b a' b' : Int) (x y : Operand) (w : World) :
    (eqGuard .eql 27 x y (.agg #[.int .i64 a, .int .i64 b]) (.agg #[.int .i64 a', .int .i64 b'])).run Try.prog w = .ok () w :=
  run_eqGuard_agg w .eql 27 x y _ _ (by kernel_rfl)
theorem scale21 (w : World) : Calls Try.prog 32 #[] w fun e w' => e = .returned (.agg #[.int .i64 1000, .int .i64 10, .int .i64 0, .int .i64 0]) ∧ Below w.heap.size w w' := by
  have K := Blk.new w 23 #[.int .i64 0, .int .i64 0, .int .i64 0, .int .i64 0]
  have B := below_a1 w (.cells #[.int .i64 0, .int .i64 0, .int .i64 0, .int .i64 0] 23)
  go_enter Try.func32, Try.ntmps32
  go_wp2_with (refine wpList_store_row rfl 23 (.tmp 0) (.tmp 1) (by with_reducible rfl) w.heap.size #[.int .i64 1000, .int .i64 10, .int .i64 0, .int .i64 0] (by rfl) (by rfl) 23 #[.int .i64 0, .int .i64 0, .int .i64 0, .int .i64 0] (by exact K) scSize4 rfl (by simp [Value.oneCell']) ?_)
  exact bodyPost_ret (results_cell_row Try.results32 _ _ w.heap.size 23 #[.int .i64 1000, .int .i64 10, .int .i64 0, .int .i64 0] (0, 0) _ (by rfl) (show Blk _ _ _ _ from blk_row K _) Try.underlying23 rfl scSize4) rfl ⟨rfl, below_setRow B (Nat.le_refl _) _⟩
theorem tri_cells (w : World) : Lists (w.alloc (.cells (ptCells [(0, 0, 1), (6553600, 0, 1), (6553600, 6553600, 1)]).toArray 25)) (w.heap.size + 1) (some ⟨w.heap.size, 0, none⟩) (ptCells [(0, 0, 1), (6553600, 0, 1), (6553600, 6553600, 1)]) :=
  ⟨fun ha => (nomatch ha), fun a ha j u hu => by
    cases ha
    rw [addr_plain, World.cell?_alloc_new, Nat.zero_add, List.getElem?_toArray]
    exact hu, fun a ha _ => by cases ha; simp⟩
theorem tri_out (w W : World) (hW : W = (w.alloc (.cells (ptCells [(0, 0, 1), (6553600, 0, 1), (6553600, 6553600, 1)]).toArray 25)).alloc (.cells #[.slice (some ⟨w.heap.size, 0, none⟩) 3 3] 56)) : OutAt W W.heap.size (some ⟨w.heap.size + 1, 0, none⟩) TRI := by
  subst hW
  refine ⟨fun i L h => ?_⟩
  match i, h with
  | 0, h =>
    simp [TRI] at h; subst h
    refine ⟨w.heap.size + 1, 0, some ⟨w.heap.size, 0, none⟩, 3, rfl, by simp, ?_, ?_⟩
    · have := World.cell?_alloc_new (w.alloc (.cells (ptCells [(0, 0, 1), (6553600, 0, 1), (6553600, 6553600, 1)]).toArray 25)) #[.slice (some ⟨w.heap.size, 0, none⟩) 3 3] 56 0
      rw [World.size_alloc] at this
      exact this
    · exact ((tri_cells w).alloc (by simp) _).more (by simp)
  | i + 1, h => simp [TRI] at h
/-- The first dot of what a list of lines holds. -/
theorem out_first {w W : World} {A : Option Addr} {d : Dt} {r : List Dt} (h : OutF dtL w w.heap.size A [d :: r]) (hb : Below w.heap.size w W) :
    ∃ b o b2 o2 ci, A = some ⟨b, o, none⟩ ∧ b < W.heap.size ∧ b2 < W.heap.size ∧ W.cell? ⟨b, o, none⟩ = some (.slice (some ⟨b2, o2, none⟩) (r.length + 1) ci) ∧ W.cell? ⟨b2, o2, none⟩ = some (.int .i64 d.1) ∧ W.cell? ⟨b2, o2 + 1, none⟩ = some (.int .i64 d.2) := by
  obtain ⟨b, o, Ai, ci, rfl, hbl, c0, hE⟩ := h.at' 0 _ rfl
  obtain ⟨b2, o2, rfl, h2, hc⟩ := lists_flat dtLen (by omega) hE (k := 0) rfl
  have q0 := (hb.cell (p := ⟨b2, o2 + 0 * 2 + 0, none⟩) h2).trans (hc 0 _ rfl)
  have q1 := (hb.cell (p := ⟨b2, o2 + 0 * 2 + 1, none⟩) h2).trans (hc 1 _ rfl)
  have q2 := (hb.cell (p := ⟨b, o + 0, none⟩) hbl).trans c0
  have := hb.size
  exact ⟨b, o, b2, o2, ci, rfl, by omega, by omega, q2, by simpa using q0, by simpa using q1⟩
theorem tri_flat (W : World) (A : Option Addr) (c : Nat) (h : OutAt W W.heap.size A TRI) (hc : 1 ≤ c) : Calls Try.prog 15 #[.agg #[.int .i64 1000, .int .i64 10, .int .i64 0, .int .i64 0], .slice A 1 c] W fun e w' => ∃ A5 c5, e = .returned (.tuple #[.slice A5 1 c5, .int .i64 0]) ∧ OutF dtL w' w'.heap.size A5 FL3 ∧ Below W.heap.size W w' :=
  (flatten_any (⟨1000, 10, 0, 0⟩ : Sc) W.heap.size A c TRI W (Nat.le_refl _) h sm_tri hc).mono fun e w' hp => by
    obtain ⟨v, h1, h2, h3⟩ := hp.2 tri_ok
    rw [tri_fl] at h2
    obtain ⟨A5, c5, rfl, _, o5⟩ := h2.out
    exact ⟨A5, c5, h1, o5, h3⟩
theorem fl3_box (W : World) (A : Option Addr) (c : Nat) (h : OutF dtL W W.heap.size A FL3) : Calls Try.prog 21 #[.slice A 1 c] W fun e w' => e = .returned (.tuple #[.agg #[.int .i64 0, .int .i64 (-1), .int .i64 1, .int .i64 0], .int .i64 0]) ∧ Below W.heap.size W w' := by
  have := fbox_ok A c FL3 W h sm_fl3 fl3_may
  rw [fl3_bx] at this
  exact this
theorem fl3_mov (W : World) (A : Option Addr) (c : Nat) (h : OutF dtL W W.heap.size A FL3) : Calls Try.prog 26 #[.slice A 1 c, .int .i64 64, .int .i64 0] W fun e w' => ∃ A5 c5, e = .returned (.tuple #[.slice A5 1 c5, .int .i64 0]) ∧ OutF dtL w' w'.heap.size A5 FM3 ∧ Below W.heap.size W w' :=
  (fmov_any A c FL3 64 0 W h sm_fl3).mono fun e w' hp => by
    obtain ⟨v, h1, h2, _, h3⟩ := hp
    rw [fl3_mv] at h1
    have h2 := h2 fl3_mv
    rw [fl3_ml] at h2
    obtain ⟨A5, c5, rfl, _, o5⟩ := h2.out
    exact ⟨A5, c5, h1, o5, h3⟩
theorem fl3_area (W : World) (A : Option Addr) (c : Nat) (h : OutF dtL W W.heap.size A FL3) : Calls Try.prog 22 #[.slice A 1 c] W fun e w' => e = .returned (.tuple #[.int .i64 (-4096), .int .i64 0]) ∧ Below W.heap.size W w' := by
  have := farea_any A c FL3 W h sm_fl3
  rw [if_pos fl3_may, fl3_ar, fl3_may] at this
  exact this
theorem fl3_mayC (W : World) (A : Option Addr) (c : Nat) (h : OutF dtL W W.heap.size A FL3) : Calls Try.prog 19 #[.slice A 1 c] W fun e w' => e = .returned (.int .i64 0) ∧ Below W.heap.size W w' := by
  have := fmay_any A c FL3 W h sm_fl3
  rw [fl3_may] at this
  exact this
set_option maxRecDepth 100000 in
set_option maxHeartbeats 8000000 in
theorem lives21 (w : World) : Calls Try.prog 10 #[] w fun e w' => e = .returned (.bool true) ∧ Below w.heap.size w w' := by
  have CD := fun W => fdot_any (⟨1000, 10, 0, 0⟩ : Sc) 32768000 65536000 1 W
  rw [s10_d, s10_e] at CD
  have CZ := fun W => fdot_any (⟨0, 0, 0, 0⟩ : Sc) 0 0 0 W
  rw [s0_d, s0_e] at CZ
  have CA := fun W => fadv_any (⟨1000, 10, 0, 0⟩ : Sc) 500 W
  rw [s10_a, s10_b] at CA
  have p1 := eqF2_run 320 (-640) 320 (-640) true rfl
  have p2 := eqF2_guard 320 (-640) 320 (-640)
  have p3 := eqF2_run 64 0 64 0 true rfl
  have p4 := eqF2_guard 64 0 64 0
  have p5 := eqF2_run 128 0 128 0 true rfl
  have p6 := eqF2_guard 128 0 128 0
  have p7 := eqB_run 0 (-1) 1 0 0 (-1) 1 0
  rw [show eq4 0 (-1) 1 0 0 (-1) 1 0 = true from rfl] at p7
  have p8 := eqB_guard 0 (-1) 1 0 0 (-1) 1 0
  go_enter Try.func10, Try.ntmps10
  go_upto_region 2 with (first
    | (go_at_call 32; ((with_reducible refine (scale21 _).mono ?_); rintro e w1 ⟨rfl, b1⟩))
    | (go_at_call 8; ((with_reducible refine (CD _).mono ?_); rintro e w2 ⟨rfl, b2⟩)))
  obtain ⟨W2, hW2⟩ : ∃ W2, W2 = w2.alloc (.cells #[.int .i64 320, .int .i64 (-640)] 27) := ⟨_, rfl⟩
  have kd : Blk W2 w2.heap.size 27 #[.int .i64 320, .int .i64 (-640)] := hW2 ▸ Blk.new _ _ _
  have B2 : Below w.heap.size w W2 := hW2 ▸ ((b1.trans (b2.mono b1.size)).alloc (by have := b2.size; have := b1.size; omega) _)
  rw [← hW2]
  obtain ⟨bd, hbd⟩ : ∃ bd, bd = w2.heap.size := ⟨_, rfl⟩
  rw [← hbd] at kd ⊢
  clear hW2 hbd b1 b2
  go_upto_region 3 with fail
  obtain ⟨W3, hW3⟩ : ∃ W3, W3 = (W2.alloc (.cells (ptCells [(0, 0, 1), (6553600, 0, 1), (6553600, 6553600, 1)]).toArray 25)).alloc (.cells #[.slice (some ⟨W2.heap.size, 0, none⟩) 3 3] 56) := ⟨_, rfl⟩
  have o3 := tri_out W2 W3 hW3
  have b3 : Below W2.heap.size W2 W3 := hW3 ▸ below_a2 _ _ _
  rw [show (W2.alloc (.cells #[.int .i64 0, .int .i64 0, .int .i64 1, .int .i64 6553600, .int .i64 0, .int .i64 1, .int .i64 6553600, .int .i64 6553600, .int .i64 1] 25)).alloc (.cells #[.slice (some ⟨W2.heap.size, 0, none⟩) 3 3] 56) = W3 from hW3.symm]
  have B3 := B2.trans (b3.mono B2.size)
  have kd3 := kd.below b3
  obtain ⟨bt, hbt⟩ : ∃ bt, bt = W2.heap.size + 1 := ⟨_, rfl⟩
  rw [← hbt] at o3 ⊢
  clear hW3 hbt b3 kd B2
  go_upto_region 4 with (first
    | (go_at_call 32; ((with_reducible refine (scale21 _).mono ?_); rintro e w4 ⟨rfl, b4⟩))
    | (go_at_call 15; ((with_reducible refine (tri_flat w4 _ 1 ((o3.below b4).more b4.size) (Nat.le_refl _)).mono ?_); rintro e w5 ⟨A5, c5, rfl, o5, b5⟩)))
  have B5 := B3.trans ((b4.trans (b5.mono b4.size)).mono B3.size)
  have kd5 := (kd3.below b4).below b5
  clear b4 b5 o3 kd3 B3
  go_upto_region 5 with (go_at_call 21; ((with_reducible refine (fl3_box w5 _ _ o5).mono ?_); rintro e w6 ⟨rfl, b6⟩))
  obtain ⟨W6, hW6⟩ : ∃ W6, W6 = w6.alloc (.cells #[.int .i64 0, .int .i64 (-1), .int .i64 1, .int .i64 0] 48) := ⟨_, rfl⟩
  have kb6 : Blk W6 w6.heap.size 48 #[.int .i64 0, .int .i64 (-1), .int .i64 1, .int .i64 0] := hW6 ▸ Blk.new _ _ _
  have c6 : Below w5.heap.size w5 W6 := hW6 ▸ b6.alloc b6.size _
  rw [← hW6]
  obtain ⟨bb, hbb⟩ : ∃ bb, bb = w6.heap.size := ⟨_, rfl⟩
  rw [← hbb] at kb6 ⊢
  have o6 := (o5.below c6).more c6.size
  have kd6 := kd5.below c6
  have B6 := B5.trans (c6.mono B5.size)
  clear hW6 b6 hbb
  go_upto_region 6 with (go_at_call 26; ((with_reducible refine (fl3_mov W6 _ _ o6).mono ?_); rintro e w7 ⟨A7, c7, rfl, o7, b7⟩))
  have o6b := (o6.below b7).more b7.size
  have kb7 := kb6.below b7
  have kd7 := kd6.below b7
  have B7 := B6.trans (b7.mono B6.size)
  clear b7 o6 kb6 kd6 B6 kd5 B5 o5 c6
  go_upto_region 7 with (go_at_call 22; ((with_reducible refine (fl3_area w7 _ _ o6b).mono ?_); rintro e w8 ⟨rfl, b8⟩))
  have o8 := (o6b.below b8).more b8.size
  have n8 := (o7.below b8).more b8.size
  have kb8 := kb7.below b8
  have kd8 := kd7.below b8
  have B8 := B7.trans (b8.mono B7.size)
  clear b8 o6b o7 kb7 kd7 B7
  go_upto_region 8 with (first
    | (go_at_call 32; ((with_reducible refine (scale21 _).mono ?_); rintro e w9 ⟨rfl, b9⟩))
    | (go_at_call 9; ((with_reducible refine (CA _).mono ?_); rintro e w10 ⟨rfl, b10⟩)))
  have b11 := b9.trans (b10.mono b9.size)
  have o10 := (o8.below b11).more b11.size
  have n10 := (n8.below b11).more b11.size
  have kb10 := kb8.below b11
  have kd10 := kd8.below b11
  have B10 := B8.trans (b11.mono B8.size)
  clear b9 b10 b11 o8 n8 kb8 kd8 B8
  go_wp2_with (first
    | (go_at_call 8; ((with_reducible refine (CZ _).mono ?_); rintro e w12 ⟨rfl, b12⟩; have kb12 := kb10.below b12; have kd12 := kd10.below b12; have o12 := (o10.below b12).more b12.size; obtain ⟨fb, fo, gb, go, gc, rfl, f1, f2, f3, f4, f5⟩ := out_first o10 b12; obtain ⟨mb, mo, lb, lo, lc, rfl, m1, m2, m3, m4, m5⟩ := out_first n10 b12; have k0 := kb12.cell 0; have k1 := kb12.cell 1; have k2 := kb12.cell 2; have k3 := kb12.cell 3; have kl := kb12.lt; simp only [List.getElem?_toArray, List.getElem?_cons_succ, List.getElem?_cons_zero] at k0 k1 k2 k3; have d0 := kd12.cell 0; have d1 := kd12.cell 1; have dl := kd12.lt; simp only [List.getElem?_toArray, List.getElem?_cons_succ, List.getElem?_cons_zero] at d0 d1))
    | (go_at_call 19; ((with_reducible refine (fl3_mayC _ _ _ ((o12.below (below_a1 _ _)).more (below_a1 _ _).size)).mono ?_); rintro e w13 ⟨rfl, b13⟩)))
  go_ret
  have X := (b12.alloc b12.size (.cells #[.int .i64 0, .int .i64 0] 27)).trans (b13.mono (by have := b12.size; simp; omega))
  exact ⟨rfl, B10.trans (X.mono B10.size)⟩
end Go.Proofs.Ytlacjifnniahhaa

namespace Go.Proofs.Ytlacjifnniahhaa
open Go.ChangeShapes Go.WideShapes Go.ChangeAt Go.RowKit

section
variable {H : Type} {enc : TypeId × Value → H} {P : Program}

theorem args_stay (hl : laidOutB P = true) {W W' : World} (hb : Below W.heap.size W W') :
    ∀ {ts : List TypeId} {vs : List Value} {ds : List (DataW H)} {ps : List MemPlace}, (ts.all fun t => P.readableRec t && decide (t < P.types.size)) = true →
      DataW.TrodAll enc P W 0 (fun _ => true) true ts vs ds ps → (∀ x ∈ ps, x.block < W.heap.size) → DataW.TrodAll enc P W' 0 (fun b => decide (b < W.heap.size)) true ts vs ds ps
  | [], vs, ds, ps, _, h, _ => by
    obtain ⟨rfl, rfl, rfl⟩ := trodAll_nil h
    exact h
  | t :: ts, vs, ds, ps, hr, h, hp => by
    obtain ⟨v, vs', d, ds', p, q, rfl, rfl, rfl, h1, h2⟩ := trodAll_cons h
    rw [List.all_cons, Bool.and_eq_true, Bool.and_eq_true, decide_eq_true_eq] at hr
    exact trodAll_cons_mk (Below.trod hl hr.1.1 hr.1.2 h1 hb fun x hx => hp x (List.mem_append_left _ hx)) (args_stay hl hb hr.2 h2 fun x hx => hp x (List.mem_append_right _ hx))

theorem law_post {f : Func} {s : ChangeSpec} {T : TypeId} {W W' : World} {args : Array Value} {ds : List (DataW H)} {before : List MemPlace} (hl : laidOutB P = true)
    (hr : f.resultTypes = #[T]) (hT : P.underlying T = some .bool) (hrd : (f.params.toList.all fun t => P.readableRec t && decide (t < P.types.size)) = true) (hv : s.vars = [])
    (h1 : (s.fn H ds).results = [.lit (.bool true)]) (h2 : (s.fn H ds).args = ds) (h3 : (s.fn H ds).vars = [])
    (hW : DataW.Whole enc P f.params.toList s.vars false W args.toList ds [] before) (hb : Below W.heap.size W W') :
    s.post enc P f false true false false W args (.bool true) W' := by
  have hlt : ∀ p ∈ before, p.block < W.heap.size := fun p hp => hW.lt p hp
  obtain ⟨p, q, hA, hV, rfl, _, _⟩ := id hW
  rw [hv] at hV
  have hq : q = [] := by simpa [DataW.TrodVars] using hV
  subst hq
  rw [List.append_nil] at hlt
  refine ⟨ds, [], _, [], p, [], hW, ?_, ?_, ?_, ?_, fun h => nomatch h⟩
  · rw [hr, List.append_nil, h1]; exact trodAll_mk1 (shut_bool hT true)
  · rw [List.append_nil, h2]; exact args_stay hl hb hrd hA hlt
  · rw [List.append_nil, h3, hv]; rfl
  · exact World.keptBut_mono (fun x hx => ⟨by simpa using hx, .inr (.inl hx)⟩) (hb.frame (· ∈ p))
end

theorem Try.own : ownKnob Try.prog.godebug = none := by kernel_rfl
theorem Try.laidOut : laidOutB Try.prog = true := by kernel_rfl

end Go.Proofs.Ytlacjifnniahhaa

namespace Go.Proofs.Ytlacjifnniahhaa
open Go.ChangeShapes Go.WideShapes Go.ChangeAt Go.RowKit Go.Deep

section
variable {H : Type} {enc : TypeId × Value → H} {P : Program}
theorem open_four {w : World} {t : TypeId} {f0 f1 f2 f3 : Field} {base : Nat} {spare : Nat → Bool} {held : Bool} {r : Reach} {b0 : Nat} {v : Value} {d : DataW H} {p : List MemPlace}
    (hs : P.underlying t = some (.struct #[f0, f1, f2, f3])) (hone : oneCellFields P #[f0, f1, f2, f3] = true) (hC : P.cellsOf t = 4)
    (u0 : P.underlying f0.type = some (.int .i64)) (u1 : P.underlying f1.type = some (.int .i64)) (u2 : P.underlying f2.type = some (.int .i64)) (u3 : P.underlying f3.type = some (.int .i64))
    (hv : Value.okWide P w r b0 t v) (h : DataW.Trod enc P w base spare held t v d p) :
    ∃ a b c e : Int, v = .agg #[.int .i64 a, .int .i64 b, .int .i64 c, .int .i64 e] ∧ (Lit.int .i64 a).wf = true ∧ (Lit.int .i64 b).wf = true ∧ (Lit.int .i64 c).wf = true ∧ (Lit.int .i64 e).wf = true := by
  obtain ⟨v0, v1, v2, v3, y0, y1, y2, y3, n, rfl, _, _, h0, h1, h2, h3⟩ := Joins.open_agg4 hs hone hC hv h
  obtain ⟨a, e0, _, wa⟩ := DataW.trod_int u0 h0
  obtain ⟨b, e1, _, wb⟩ := DataW.trod_int u1 h1
  obtain ⟨c, e2, _, wc⟩ := DataW.trod_int u2 h2
  obtain ⟨e, e3, _, we⟩ := DataW.trod_int u3 h3
  simp at e0 e1 e2 e3
  subst e0 e1 e2 e3
  exact ⟨a, b, c, e, rfl, wa, wb, wc, we⟩
end

theorem Try.cellsB : Try.prog.cellsOf 48 = 4 := by kernel_rfl

end Go.Proofs.Ytlacjifnniahhaa

namespace Go.Proofs.Ytlacjifnniahhaa
open Go.ChangeShapes Go.WideShapes Go.ChangeAt Go.RowKit

section
variable {H : Type} {enc : TypeId × Value → H} {P : Program}
theorem open_list_int {w : World} {t e : TypeId} {base : Nat} {spare : Nat → Bool} {held : Bool} {r : Reach} {b0 : Nat} {v : Value} {d : DataW H} {p : List MemPlace}
    (hs : P.underlying t = some (.slice e)) (he : P.underlying e = some (.int .i64)) (hC : P.cellsOf e = 1)
    (hv : Value.okWide P w r b0 t v) (h : DataW.Trod enc P w base spare held t v d p) :
    ∃ (A : Option Addr) (n c : Nat) (zs : List Int), v = .slice A n c ∧ zs.length = n ∧ n ≤ c ∧ c ≤ maxLen ∧ Lists w w.heap.size A (intCells zs) ∧ ∀ z ∈ zs, (Lit.int .i64 z).wf = true := by
  obtain ⟨a0, len, cap, rfl⟩ := okWide_slice hs hv
  obtain ⟨fuel, hf⟩ := h
  rcases open_ints hs he hC hf with ⟨hcs, _⟩ | ⟨a, len', cap', zs, hcs, _, hl, hm, hz, _, hcell, hwf⟩
  · simp [Value.cells] at hcs
    obtain ⟨rfl, rfl, rfl⟩ := hcs
    exact ⟨none, 0, 0, [], rfl, rfl, Nat.le_refl _, Nat.zero_le _, Lists.empty _ _ _, fun z hz => by cases hz⟩
  · simp [Value.cells] at hcs
    obtain ⟨rfl, rfl, rfl⟩ := hcs
    have hlen : len ≤ zs.length := by split at hz <;> omega
    have hc : ∀ j u, (intCells (zs.take len))[j]? = some u → w.cell? (a.add j) = some u := fun j u hu => by
      have hj : j < (zs.take len).length := by
        rcases Nat.lt_or_ge j (zs.take len).length with h | h
        · exact h
        · rw [List.getElem?_eq_none (by rw [intCells_len]; exact h)] at hu; cases hu
      rw [intCells_get _ _ hj] at hu
      have hj2 : j < len := by simp at hj; omega
      have hh := hcell j (by omega)
      cases hu
      rw [hh]
      simp [List.getD, hj2]
    refine ⟨some a, len, cap, zs.take len, rfl, by simp; omega, hl, hm, ⟨fun ha => (nomatch ha), fun a' ha => ?_, fun a' ha hx => ?_⟩, fun z hz' => hwf z (List.mem_of_mem_take hz')⟩
    · cases ha; exact hc
    · cases ha
      have h0 : 0 < (intCells (zs.take len)).length := by
        rcases Nat.eq_zero_or_pos (intCells (zs.take len)).length with h | h
        · exact absurd (List.eq_nil_of_length_eq_zero h) hx
        · exact h
      have := hc 0 _ (List.getElem?_eq_getElem h0)
      rcases Nat.lt_or_ge a.block w.heap.size with h | h
      · exact h
      · have e0 : (a.add 0) = a := by simp [Addr.add]
        rw [e0] at this
        unfold World.cell? at this
        rw [Array.getElem?_eq_none h] at this
        cases this
end

end Go.Proofs.Ytlacjifnniahhaa

namespace Go.Proofs.Ytlacjifnniahhaa
open Go.ChangeShapes Go.WideShapes Go.ChangeAt Go.RowKit
theorem cellsScF : Try.prog.cellsOf 23 = 4 := by kernel_rfl
theorem cellsPtF : Try.prog.cellsOf 25 = 3 := by kernel_rfl
section
variable {H : Type} {enc : TypeId × Value → H}
set_option maxRecDepth 100000 in
theorem open_scale {w : World} {base : Nat} {spare : Nat → Bool} {held : Bool} {r : Reach} {b0 : Nat} {v : Value} {d : DataW H} {p : List MemPlace}
    (hv : Value.okWide Try.prog w r b0 23 v) (h : DataW.Trod enc Try.prog w base spare held 23 v d p) :
    ∃ s : Sc, v = .agg #[.int .i64 s.u, .int .i64 s.p, .int .i64 s.fx, .int .i64 s.fy] := by
  obtain ⟨a, b, c, e, h, _⟩ := open_four Try.underlying23 (by kernel_rfl) cellsScF Try.underlying3 Try.underlying3 Try.underlying3 Try.underlying3 hv h
  exact ⟨⟨a, b, c, e⟩, h⟩
set_option maxRecDepth 100000 in
theorem open_point3 {w : World} {base : Nat} {spare : Nat → Bool} {held : Bool} {r : Reach} {b0 : Nat} {v : Value} {d : DataW H} {p : List MemPlace}
    (hv : Value.okWide Try.prog w r b0 25 v) (h : DataW.Trod enc Try.prog w base spare held 25 v d p) :
    ∃ x y z : Int, v = .agg #[.int .i64 x, .int .i64 y, .int .i64 z] := by
  obtain ⟨v0, v1, v2, y0, y1, y2, n, rfl, _, _, h0, h1, h2⟩ := Joins.open_agg3 Try.underlying25 (by kernel_rfl) cellsPtF hv h
  obtain ⟨a, e0, _⟩ := DataW.trod_int Try.underlying3 h0
  obtain ⟨b, e1, _⟩ := DataW.trod_int Try.underlying3 h1
  obtain ⟨c, e2, _⟩ := DataW.trod_int Try.underlying3 h2
  simp at e0 e1 e2
  subst e0 e1 e2
  exact ⟨a, b, c, rfl⟩
end
end Go.Proofs.Ytlacjifnniahhaa
