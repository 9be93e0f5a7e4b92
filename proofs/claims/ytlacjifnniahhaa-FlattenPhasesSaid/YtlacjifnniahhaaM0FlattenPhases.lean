/- Part 20 of the proof: FlV, FlX. -/
import Derived.Deep.Cut
import Derived.Deep.CutBlock
import Derived.RangeFuncKeeps
import Derived.RangeFuncCalls
import Derived.RangeFuncLeaves
import Derived.RangeFuncFrom
import Derived.RangeFuncNested
import Derived.RangeFuncBound
import Derived.Shelf.Abstract
import Derived.Shelf.RegionOpen
import Derived.WalkKit
import Derived.OwnWalkIn
import Derived.TacticsInMore
import Derived.LoopNIn
import Derived.LoopIn
import Derived.Maps.OwnIn
import Derived.Deep.WholeRow
import Derived.Test.YtlacjifnniahhaaCFl18

namespace Go.Proofs.Ytlacjifnniahhaa
open Go Go.RowKit Go.Shelf
attribute [local go_sem] Oper.semAt_some
set_option linter.unusedVariables false
set_option linter.unusedSimpArgs false

def cntW (Ls : List (List Dt)) : Int := Ls.foldl (fun m L => IntKind.i64.wrap (m + (L.length : Int))) 0
theorem cntW_snoc (Ls : List (List Dt)) (L : List Dt) : cntW (Ls ++ [L]) = IntKind.i64.wrap (cntW Ls + (L.length : Int)) := by simp [cntW, List.foldl_append]
theorem cntW_eq {Ls : List (List Dt)} (hm : ∀ L ∈ Ls, L.length ≤ 17592186044416) (h5 : Ls.length ≤ 5000) : ∀ k, cntW (Ls.take k) = (cntF (Ls.take k) : Nat)
  | 0 => rfl
  | k + 1 => by
    have ih := cntW_eq hm h5 k
    rcases Nat.lt_or_ge k Ls.length with hk | hk
    · obtain ⟨L, hL⟩ := at_someF hk
      have h1 := cntF_le (Ls := Ls.take k) fun M hM => hm M (List.mem_of_mem_take hM)
      have h2 : (Ls.take k).length ≤ 5000 := by rw [List.length_take]; omega
      have h3 := Nat.mul_le_mul_right 17592186044416 h2
      have h4 := hm L (List.mem_of_getElem? hL)
      rw [take_snocF hL, cntW_snoc, cntF_snoc, ih, wrap_ini (by omega)]
      omega
    · rw [List.take_of_length_le (by omega)] at ih ⊢
      exact ih
set_option maxRecDepth 100000 in
theorem rcnt21 (A : Option Addr) (c : Nat) (Ls : List (List Dt)) (w : World) (h : OutF dtL w w.heap.size A Ls) (hm : ∀ L ∈ Ls, L.length ≤ 17592186044416) (hn : Ls.length ≤ 9223372036854775807) :
    Calls Try.prog 20 #[.slice A Ls.length c] w fun e w' => e = .returned (.int .i64 (cntW Ls)) ∧ w' = w := by
  have HM := Lib.hid hm
  have HL := Lib.hid h
  obtain ⟨n, hnn⟩ : ∃ n, n = Ls.length := ⟨_, rfl⟩
  rw [← hnn] at hn ⊢
  have HN := Lib.hid hnn
  clear h hnn hm
  go_enter Try.func20, Try.ntmps20
  go_wp2
  go_loopw [3, 4] (fun s i wr => ∃ k : Nat, k ≤ n ∧ i = .int .i64 k ∧ s = .int .i64 (cntW (Ls.take k)) ∧ wr = w) (fun _ i _ => n - (intOf i).toNat)
  case atStart => exact ⟨0, Nat.zero_le _, rfl, rfl, rfl⟩
  case round =>
    obtain ⟨k, hk, rfl, rfl, rfl⟩ := hrel
    by_cases hlt : k < n
    · have d1 : decide ((k : Int) < (n : Int)) = true := by simp; omega
      obtain ⟨L, hL⟩ := at_someF (L := Ls) (k := k) (by rw [← HN.out]; exact hlt)
      obtain ⟨b, o, Ai, ci, rfl, hbl, g0, hE⟩ := HL.out.at' k L hL
      have HS := Lib.hid (show cntW (Ls.take (k + 1)) = IntKind.i64.wrap (cntW (Ls.take k) + (L.length : Int)) by rw [take_snocF hL, cntW_snoc])
      have hl : L.length ≤ 17592186044416 := HM.out L (List.mem_of_getElem? hL)
      clear hE hL
      obtain ⟨l, hle⟩ : ∃ l, l = L.length := ⟨_, rfl⟩
      rw [← hle] at g0 hl HS
      clear hle
      go_wp2
      go_roundw
      case rel => exact ⟨k + 1, by omega, by go_num, by rw [HS.out]; first | rfl | rw [IntWalk.i64_left] | (simp [IntKind.wrap_i64, wrap64]; done), by first | rfl | trivial⟩
      case measure => simp [intOf]; omega
    · obtain rfl : k = n := by omega
      have d1 : decide ((k : Int) < (k : Int)) = false := by simp
      have HT := Lib.hid (show Ls.take k = Ls from List.take_of_length_le (by rw [← HN.out]; exact Nat.le_refl _))
      go_wp2
      go_ret
      exact ⟨by first | rfl | (rw [HT.out]; rfl) | simp [HT.out], by first | rfl | trivial⟩
theorem ltF_fits (d : Dt) : ltF d = (fitZ d.1 && fitZ d.2) := by
  unfold ltF fitZ
  first
    | rfl
    | (rw [Bool.eq_iff_iff]; simp; done)
    | (rw [Bool.eq_iff_iff]; simp; omega)
set_option maxRecDepth 100000 in
set_option maxHeartbeats 2000000 in
theorem rmay21 (A : Option Addr) (c : Nat) (Ls : List (List Dt)) (w : World) (h : OutF dtL w w.heap.size A Ls) (hs : SmF Ls) (h5 : Ls.length ≤ 5000) :
    Calls Try.prog 23 #[.slice A Ls.length c] w fun e w' => e = .returned (.int .i64 (mayF Ls)) ∧ w' = w := by
  have CC := rcnt21 A c Ls w h (fun L hL => by have := hs.len hL; omega) (by omega)
  rw [show cntW Ls = ((cntF Ls : Nat) : Int) by have := cntW_eq (Ls := Ls) (fun L hL => by have := hs.len hL; omega) h5 Ls.length; rwa [List.take_length] at this] at CC
  have CF := fun x W => rfits_any x W
  have hc := hs.2
  have HM := Lib.hid (fun (L : List Dt) (hL : L ∈ Ls) => hs.len hL)
  have HL := Lib.hid h
  have HR := Lib.hid (show mayF Ls = if 65536 < cntF Ls then 3 else if Ls.flatten.all ltF then 0 else 10 from rfl)
  generalize mayF Ls = res at *
  obtain ⟨C, hC⟩ : ∃ C, C = cntF Ls := ⟨_, rfl⟩
  rw [← hC] at CC hc HR
  obtain ⟨n, hnn⟩ : ∃ n, n = Ls.length := ⟨_, rfl⟩
  rw [← hnn] at CC h5 ⊢
  have HN := Lib.hid hnn
  clear h hnn hs hC
  by_cases h65 : 65536 < C
  · have d3 : decide ((65536 : Int) < (C : Int)) = true := by simp; omega
    rw [if_pos h65] at HR
    go_enter Try.func23, Try.ntmps23
    go_wp2_with (go_at_call 20; ((with_reducible refine (CC).mono ?_); rintro e w1 ⟨rfl, rfl⟩))
    go_ret
    exact ⟨by simp [HR.out], by first | rfl | trivial⟩
  · have d3 : decide ((65536 : Int) < (C : Int)) = false := by simp; omega
    rw [if_neg h65] at HR
    go_enter Try.func23, Try.ntmps23
    go_wp2_with (go_at_call 20; ((with_reducible refine (CC).mono ?_); rintro e w1 ⟨rfl, rfl⟩))
    go_loopw [3] (fun i wr => ∃ k : Nat, k ≤ n ∧ i = .int .i64 k ∧ (Ls.take k).flatten.all ltF = true ∧ wr = w1) (fun i _ => n - (intOf i).toNat)
    case atStart => exact ⟨0, Nat.zero_le _, rfl, rfl, rfl⟩
    case round =>
      obtain ⟨k, hk, rfl, hall, rfl⟩ := hrel
      by_cases hlt : k < n
      · have d1 : decide ((k : Int) < (n : Int)) = true := by simp; omega
        obtain ⟨L, hL⟩ := at_someF (L := Ls) (k := k) (by rw [← HN.out]; exact hlt)
        obtain ⟨b, o, Ai, ci, rfl, hbl, g0, hE⟩ := HL.out.at' k L hL
        have hl : L.length ≤ 100000 := HM.out L (List.mem_of_getElem? hL)
        have HT := Lib.hid (show (Ls.take (k + 1)).flatten = (Ls.take k).flatten ++ L by rw [take_snocF hL]; simp)
        have HPF := Lib.hid (fun (j : Nat) (x : Dt) (hx : L[j]? = some x) => prefixF hL hx)
        have HE := Lib.hid hE
        have HALL := Lib.hid hall
        obtain ⟨m, hm⟩ : ∃ m, m = L.length := ⟨_, rfl⟩
        rw [← hm] at g0 hl
        have HMm := Lib.hid hm
        clear hE hL hall hm
        go_wp2
        go_loopw [4] (fun i wq => ∃ j : Nat, j ≤ m ∧ i = .int .i64 j ∧ (L.take j).all ltF = true ∧ wq = wr) (fun i _ => m - (intOf i).toNat)
        case atStart => exact ⟨0, Nat.zero_le _, rfl, rfl, rfl⟩
        case round =>
          obtain ⟨j, hj, rfl, hal, rfl⟩ := hrel
          by_cases hjm : j < m
          · have d2 : decide ((j : Int) < (m : Int)) = true := by simp; omega
            obtain ⟨x, hx⟩ := at_someF (L := L) (k := j) (by rw [← HMm.out]; exact hjm)
            obtain ⟨fb, fo, hA, hfb, hfc⟩ := lists_flat dtLen (by omega) HE.out hx
            subst hA
            have q0 := hfc 0 _ rfl
            have q1 := hfc 1 _ rfl
            rw [Nat.add_zero] at q0
            have C1 := CF x.1 wr
            have C2 := CF x.2 wr
            have hlf := ltF_fits x
            have HPX := Lib.hid (HPF.out j x hx)
            have HTJ := Lib.hid (show L.take (j + 1) = L.take j ++ [x] from take_snocF hx)
            have HAJ := Lib.hid hal
            clear hfc hx CC hal
            cases hf1 : fitZ x.1 <;> cases hf2 : fitZ x.2
            all_goals
              rw [hf1] at C1 hlf
              rw [hf2] at C2 hlf
              have HLF := Lib.hid hlf
              clear hlf hf1 hf2
              go_wp2_with (go_at_call 34; (with_reducible first | (refine (C1).mono ?_; rintro e w3 ⟨rfl, rfl⟩) | (refine (C2).mono ?_; rintro e w3 ⟨rfl, rfl⟩)))
              first
                | (go_roundw
                   case rel => exact ⟨j + 1, by omega, by go_num, by rw [HTJ.out, List.all_append, HAJ.out]; simp [HLF.out], by first | rfl | trivial⟩
                   case measure => simp [intOf]; omega)
                | (go_ret
                   exact ⟨by rw [HR.out, all_pre HPX.out (by simpa using HLF.out)]; rfl, rfl⟩)
          · obtain rfl : j = m := by omega
            have d2 : decide ((j : Int) < (j : Int)) = false := by simp
            have hTL : L.take j = L := List.take_of_length_le (by rw [← HMm.out]; exact Nat.le_refl _)
            rw [hTL] at hal
            have HAJ := Lib.hid hal
            clear hal hTL
            go_wp2
            go_roundw
            case rel => exact ⟨k + 1, by omega, by go_num, by rw [HT.out, List.all_append, HALL.out, HAJ.out]; rfl, by first | rfl | trivial⟩
            case measure => simp [intOf]; omega
      · obtain rfl : k = n := by omega
        have d1 : decide ((k : Int) < (k : Int)) = false := by simp
        have hTK : Ls.take k = Ls := List.take_of_length_le (by rw [← HN.out]; exact Nat.le_refl _)
        rw [hTK] at hall
        rw [hall] at HR
        clear hall hTK
        go_wp2
        go_ret
        exact ⟨by rw [HR.out]; rfl, rfl⟩
end Go.Proofs.Ytlacjifnniahhaa

namespace Go.Proofs.Ytlacjifnniahhaa
open Go Go.RowKit Go.Shelf
attribute [local go_sem] Oper.semAt_some
set_option linter.unusedVariables false
set_option linter.unusedSimpArgs false

set_option maxRecDepth 100000 in
set_option maxHeartbeats 4000000 in
theorem rarea21 (A : Option Addr) (c : Nat) (Ls : List (List Dt)) (w : World) (h : OutF dtL w w.heap.size A Ls) (hs : SmF Ls) (hb : mayF Ls = 0) :
    Calls Try.prog 25 #[.slice A Ls.length c] w fun e w' => e = .returned (.int .i64 (arF (lnA Ls))) ∧ Below w.heap.size w w' := by
  have hok := mayF_ok hb
  have hn0 := hs.1
  have HMM := Lib.hid (And.intro (show (lnA Ls).length ≤ 65536 by rw [lnA_len]; exact hok.1) (lnA_all hok.2))
  have HM := Lib.hid (fun (L : List Dt) (hL : L ∈ Ls) => hs.len hL)
  have HL := Lib.hid h
  obtain ⟨n, hnn⟩ : ∃ n, n = Ls.length := ⟨_, rfl⟩
  rw [← hnn] at hn0 ⊢
  have HN := Lib.hid hnn
  clear h hnn hs hb hok
  go_enter Try.func25, Try.ntmps25
  go_wp2
  go_loopw [3, 4] (fun s i wr => ∃ k : Nat, k ≤ n ∧ i = .int .i64 k ∧ s = .int .i64 (arF (lnA (Ls.take k))) ∧ Below w.heap.size w wr) (fun _ i _ => n - (intOf i).toNat)
  case atStart => exact ⟨0, Nat.zero_le _, rfl, rfl, Below.refl _ _⟩
  case round =>
    obtain ⟨k, hk, rfl, rfl, hb⟩ := hrel
    by_cases hlt : k < n
    · have d1 : decide ((k : Int) < (n : Int)) = true := by simp; omega
      obtain ⟨L, hL⟩ := at_someF (L := Ls) (k := k) (by rw [← HN.out]; exact hlt)
      obtain ⟨b, o, Ai, ci, rfl, hbl, c0, hE⟩ := HL.out.at' k L hL
      have hl : L.length ≤ 100000 := HM.out L (List.mem_of_getElem? hL)
      have HT := Lib.hid (lnA_take hL)
      have HPF := Lib.hid (fun (j : Nat) (hj : j ≤ L.length) => lnA_pre hL hj)
      have HE0 := Lib.hid (And.intro hE c0)
      have HB0 := Lib.hid hb
      obtain ⟨m0, hm⟩ : ∃ m0, m0 = L.length := ⟨_, rfl⟩
      rw [← hm] at hl
      have HM0 := Lib.hid hm
      have g0 := (hb.cell (p := ⟨b, o + k, none⟩) hbl).trans c0
      rw [← hm] at g0
      have gl : b < wr.heap.size := by have := hb.size; omega
      obtain ⟨P, hP⟩ : ∃ P, P = lnA (Ls.take k) := ⟨_, rfl⟩
      rw [← hP] at HT HPF ⊢
      clear c0 hE hL hm hP
      go_wp2
      go_loopw [3, 5] (fun s i wq => ∃ j : Nat, j ≤ m0 ∧ i = .int .i64 j ∧ s = .int .i64 (arF (P ++ lnD L j)) ∧ Below w.heap.size w wq) (fun _ i _ => m0 - (intOf i).toNat)
      case atStart => exact ⟨0, Nat.zero_le _, rfl, by simp [lnD], HB0.out⟩
      case round =>
        clear g0 gl hb
        obtain ⟨j, hj, rfl, rfl, hb⟩ := hrel
        have hbs := hb.size
        have g0 := (hb.cell (p := ⟨b, o + k, none⟩) hbl).trans HE0.out.2
        rw [← HM0.out] at g0
        have gl : b < wr.heap.size := by omega
        by_cases hjm : j < m0
        · have d2 : decide ((j : Int) < (m0 : Int)) = true := by simp; omega
          obtain ⟨x, hx⟩ := at_someF (L := L) (k := j) (by rw [← HM0.out]; exact hjm)
          obtain ⟨fb, fo, hA, hfb, hfc⟩ := lists_flat dtLen (by omega) HE0.out.1 hx
          subst hA
          have q0 := (hb.cell (p := ⟨fb, fo + j * 2, none⟩) hfb).trans (hfc 0 _ rfl)
          have q1 := (hb.cell (p := ⟨fb, fo + j * 2 + 1, none⟩) hfb).trans (hfc 1 _ rfl)
          obtain ⟨nx, hnx⟩ : ∃ nx, nx = (j + 1) % m0 := ⟨_, rfl⟩
          have hnl : nx < m0 := by rw [hnx]; exact Nat.mod_lt _ (by omega)
          have hyx : L[nx]? = some (nxD L j) := by rw [hnx, HM0.out]; exact nxD_at (by rw [← HM0.out]; exact hjm)
          obtain ⟨fb2, fo2, hA2, hfb2, hfc2⟩ := lists_flat dtLen (by omega) HE0.out.1 hyx
          obtain ⟨rfl, rfl⟩ : fb = fb2 ∧ fo = fo2 := by simpa using hA2
          have y0 := (hb.cell (p := ⟨fb, fo + nx * 2, none⟩) hfb).trans (hfc2 0 _ rfl)
          have y1 := (hb.cell (p := ⟨fb, fo + nx * 2 + 1, none⟩) hfb).trans (hfc2 1 _ rfl)
          have hxg : L.getD j (0, 0) = x := by rw [List.getD_eq_getElem?_getD, hx]; rfl
          have HX2 := Lib.hid (show P ++ lnD L (j + 1) = P ++ lnD L j ++ [(x, nxD L j)] by rw [lnD_succ, hxg, List.append_assoc])
          have hp := HPF.out (j + 1) (by rw [← HM0.out]; omega)
          rw [HX2.out] at hp
          obtain ⟨hpa, hpx, hpy, hpl⟩ := lnP_in HMM.out.2 hp
          have hlim := arF_lim _ hpa
          obtain ⟨yy, hyy⟩ : ∃ yy, yy = nxD L j := ⟨_, rfl⟩
          rw [← hyy] at y0 y1 HX2 hpy
          have hx1 := ltF_in hpx
          have hy1 := ltF_in hpy
          have hm1 := mul_lim hx1.1 hy1.2
          have hm2 := mul_lim hy1.1 hx1.2
          have hll := HMM.out.1
          obtain ⟨a0, ha0⟩ : ∃ a0, a0 = arF (P ++ lnD L j) := ⟨_, rfl⟩
          have HLM := Lib.hid (show (-1099511627776 ≤ x.1 * yy.2 ∧ x.1 * yy.2 ≤ 1099511627776) ∧ (-1099511627776 ≤ yy.1 * x.2 ∧ yy.1 * x.2 ≤ 1099511627776) ∧ -144115188075855872 ≤ arF (P ++ lnD L j) ∧ arF (P ++ lnD L j) ≤ 144115188075855872 from ⟨hm1, hm2, by omega, by omega⟩)
          have e1 : IntKind.i64.wrap ((j : Int) + 1) = (j : Int) + 1 := IntWalk.i64_in _ (by omega)
          have e2 : Int.tmod ((j : Int) + 1) (m0 : Int) = (nx : Int) := by rw [hnx]; exact (Int.ofNat_tmod (j + 1) m0).symm
          have e3 : IntKind.i64.wrap (nx : Int) = (nx : Int) := IntWalk.i64_in _ (by omega)
          have e4 : ¬ (m0 : Int) = 0 := by omega
          have e5 : ¬ m0 = 0 := by omega
          have e6 : ((m0 : Int) == 0) = false := by simp; omega
          have HE := Lib.hid (And.intro e1 (And.intro e2 (And.intro e3 (And.intro e4 (And.intro e5 (And.intro e6 (And.intro hnl (And.intro hjm hlt))))))))
          have fl : fb < wr.heap.size := by omega
          have HD : Hid (∀ V : World, Below wr.heap.size wr V → V.cell? ⟨b, o + k, none⟩ = some (.slice (some ⟨fb, fo, none⟩) m0 ci) ∧ V.cell? ⟨fb, fo + j * 2, none⟩ = some (.int .i64 x.1) ∧ V.cell? ⟨fb, fo + j * 2 + 1, none⟩ = some (.int .i64 x.2) ∧ V.cell? ⟨fb, fo + nx * 2, none⟩ = some (.int .i64 yy.1) ∧ V.cell? ⟨fb, fo + nx * 2 + 1, none⟩ = some (.int .i64 yy.2) ∧ b < V.heap.size ∧ fb < V.heap.size) := Lib.hid fun V hV => ⟨(hV.cell (p := ⟨b, o + k, none⟩) gl).trans g0, (hV.cell (p := ⟨fb, fo + j * 2, none⟩) fl).trans q0, (hV.cell (p := ⟨fb, fo + j * 2 + 1, none⟩) fl).trans q1, (hV.cell (p := ⟨fb, fo + nx * 2, none⟩) fl).trans y0, (hV.cell (p := ⟨fb, fo + nx * 2 + 1, none⟩) fl).trans y1, Nat.lt_of_lt_of_le gl hV.size, Nat.lt_of_lt_of_le fl hV.size⟩
          clear q0 q1 y0 y1 hfc hfc2 hyx hA2 hxg hx e1 e2 e3 e4 e5 e6 hnx hnl hp hpa hpx hpy hpl hlim hx1 hy1 hm1 hm2 hll ha0 a0 hyy
          go_upto_region 8 with fail
          clear g0
          have hI : Below wr.heap.size wr wr.drew := (Below.refl _ _).drew
          refine wp_region_mix (fun V => Below wr.heap.size wr V) (Mx.qs [0, 1, 2, 3, 4, 5, 6, 7, 8, 9, 10, 11, 12, 13, 14, 15, 16, 17, 18, 19, 20] (.two 21 22 (.one 22 (.one 23 (.one 24 .leaf))) (.one 21 (.one 23 (.one 24 .leaf))))) (by kernel_rfl) (by kernel_rfl) hI ?_
          simp only [Mx.qs]
          obtain ⟨wd, hwd⟩ : ∃ wd, wd = wr.drew := ⟨_, rfl⟩
          rw [← hwd] at hI ⊢
          clear hwd
          repeat (first
            | (refine MixL.skip (o := ?_) ?_ ?_ ?_; rotate_left; (focus (first | (simp only [List.getElem?_toArray, List.getElem?_cons_succ, List.getElem?_cons_zero]; with_reducible rfl) | (simp only [List.getElem?_toArray, List.getElem?_cons_zero]; with_reducible rfl))); (focus rfl); simp only [Act.put, List.setIfInBounds_toArray, List.set_cons_zero, List.set_cons_succ])
            | (refine MixL.val (o := ?_) (v := ?_) ?_ ?_ ?_ ?_ ?_; rotate_left 2; (focus (first | (simp only [List.getElem?_toArray, List.getElem?_cons_succ, List.getElem?_cons_zero]; with_reducible rfl) | (simp only [List.getElem?_toArray, List.getElem?_cons_zero]; with_reducible rfl))); (focus (intro _ _ h; cases h)); (focus rfl); (focus (intro w' hJ; obtain ⟨g0, q0, q1, y0, y1, gl, fl⟩ := HD.out _ hJ; obtain ⟨e1, e2, e3, e4, e5, e6, hnl, hjm, hkn⟩ := HE.out; go_simp <;> with_reducible rfl)); simp only [Act.put, List.setIfInBounds_toArray, List.set_cons_zero, List.set_cons_succ]))
          refine MixL.both ?_ ?_
          · have hI1 := hI.alloc hI.size (.cells #[.int .i64 0, .int .i64 0] 27)
            refine MixL.does (o := ?_) (v := ?_) (w1 := ?_) ?_ ?_ ?_ ?_ ?_
            rotate_left 3
            (focus (first | (simp only [List.getElem?_toArray, List.getElem?_cons_succ, List.getElem?_cons_zero]; with_reducible rfl) | (simp only [List.getElem?_toArray, List.getElem?_cons_zero]; with_reducible rfl)))
            (focus rfl)
            (focus (go_simp; (constructor <;> with_reducible rfl)))
            (focus (exact hI1))
            simp only [Act.put, List.setIfInBounds_toArray, List.set_cons_zero, List.set_cons_succ]
            have hI2 := hI1.alloc hI1.size (.cells #[.int .i64 0, .int .i64 0] 27)
            refine MixL.does (o := ?_) (v := ?_) (w1 := ?_) ?_ ?_ ?_ ?_ ?_
            rotate_left 3
            (focus (first | (simp only [List.getElem?_toArray, List.getElem?_cons_succ, List.getElem?_cons_zero]; with_reducible rfl) | (simp only [List.getElem?_toArray, List.getElem?_cons_zero]; with_reducible rfl)))
            (focus rfl)
            (focus (go_simp; (constructor <;> with_reducible rfl)))
            (focus (exact hI2))
            simp only [Act.put, List.setIfInBounds_toArray, List.set_cons_zero, List.set_cons_succ]
            have KA := (Blk.new wd 27 #[.int .i64 0, .int .i64 0]).below (below_a1 (wd.alloc (.cells #[.int .i64 0, .int .i64 0] 27)) (.cells #[.int .i64 0, .int .i64 0] 27))
            have KB := Blk.new (wd.alloc (.cells #[.int .i64 0, .int .i64 0] 27)) 27 #[.int .i64 0, .int .i64 0]
            rw [World.size_alloc] at KB
            obtain ⟨V2, hV2⟩ : ∃ V2, V2 = (wd.alloc (.cells #[.int .i64 0, .int .i64 0] 27)).alloc (.cells #[.int .i64 0, .int .i64 0] 27) := ⟨_, rfl⟩
            try simp only [World.size_alloc]
            rw [← hV2] at KA KB hI2 ⊢
            obtain ⟨ga, hga⟩ : ∃ ga, ga = wd.heap.size := ⟨_, rfl⟩
            obtain ⟨gb, hgb⟩ : ∃ gb, gb = wd.heap.size + 1 := ⟨_, rfl⟩
            have hne : ga ≠ gb := by omega
            have hdz := hI.size
            have gale : wr.heap.size ≤ ga := by omega
            have gble : wr.heap.size ≤ gb := by omega
            rw [← hgb] at KB ⊢
            rw [← hga] at KA ⊢
            have hI3 := below_setRow hI2 gale #[.int .i64 x.1, .int .i64 x.2]
            refine MixL.store (o := ?_) (w1 := V2.setRow ga #[.int .i64 x.1, .int .i64 x.2]) ?_ ?_ ?_ ?_ ?_
            rotate_left 1
            (focus (first | (simp only [List.getElem?_toArray, List.getElem?_cons_succ, List.getElem?_cons_zero]; with_reducible rfl) | (simp only [List.getElem?_toArray, List.getElem?_cons_zero]; with_reducible rfl)))
            (focus rfl)
            (focus (refine exec_store_row 27 _ _ (by rfl) ga #[.int .i64 x.1, .int .i64 x.2] (by rfl) (by rfl) 27 #[.int .i64 0, .int .i64 0] KA flDtInfo rfl (by simp [Value.oneCell'])))
            (focus (exact hI3))
            simp only [Act.put, List.setIfInBounds_toArray, List.set_cons_zero, List.set_cons_succ]
            have oa : Only V2 (V2.setRow ga #[.int .i64 x.1, .int .i64 x.2]) [ga] := only_row (Only.refl _ _) (.inl (by simp)) _
            have KX := blk_row KA #[.int .i64 x.1, .int .i64 x.2]
            have KY := KB.only oa (by simp; exact hne.symm)
            obtain ⟨V3, hV3⟩ : ∃ V3, V3 = V2.setRow ga #[.int .i64 x.1, .int .i64 x.2] := ⟨_, rfl⟩
            rw [← hV3] at KX KY hI3 ⊢
            have hI4 := below_setRow hI3 gble #[.int .i64 yy.1, .int .i64 yy.2]
            refine MixL.store (o := ?_) (w1 := V3.setRow gb #[.int .i64 yy.1, .int .i64 yy.2]) ?_ ?_ ?_ ?_ ?_
            rotate_left 1
            (focus (first | (simp only [List.getElem?_toArray, List.getElem?_cons_succ, List.getElem?_cons_zero]; with_reducible rfl) | (simp only [List.getElem?_toArray, List.getElem?_cons_zero]; with_reducible rfl)))
            (focus rfl)
            (focus (refine exec_store_row 27 _ _ (by rfl) gb #[.int .i64 yy.1, .int .i64 yy.2] (by rfl) (by rfl) 27 #[.int .i64 0, .int .i64 0] KY flDtInfo rfl (by simp [Value.oneCell'])))
            (focus (exact hI4))
            simp only [Act.put, List.setIfInBounds_toArray, List.set_cons_zero, List.set_cons_succ]
            have ob : Only V3 (V3.setRow gb #[.int .i64 yy.1, .int .i64 yy.2]) [gb] := only_row (Only.refl _ _) (.inl (by simp)) _
            have KX4 := KX.only ob (by simp; exact hne)
            have KY4 := blk_row KY #[.int .i64 yy.1, .int .i64 yy.2]
            obtain ⟨V4, hV4⟩ : ∃ V4, V4 = V3.setRow gb #[.int .i64 yy.1, .int .i64 yy.2] := ⟨_, rfl⟩
            rw [← hV4] at KX4 KY4 hI4 ⊢
            have u0 := KX4.cell 0; have u1 := KX4.cell 1; have ul := KX4.lt; simp only [List.getElem?_toArray, List.getElem?_cons_succ, List.getElem?_cons_zero] at u0 u1
            have v0 := KY4.cell 0; have v1 := KY4.cell 1; have vl := KY4.lt; simp only [List.getElem?_toArray, List.getElem?_cons_succ, List.getElem?_cons_zero] at v0 v1
            have HB4 := Lib.hid (hb.trans (hI4.mono hbs))
            clear KA KB KX KY KX4 KY4 oa ob hV2 hV3 hV4 hga hgb gale gble hdz hI hI1 hI2 hI3 hI4 hne
            refine MixL.nil ?_
            go_wp2
            go_roundw
            case rel => exact ⟨j + 1, by omega, by go_num, by
              rw [HX2.out, arF_snoc]
              congr 1
              have h1 := HLM.out
              unfold crs
              try simp only [IntKind.wrap_i64]
              try unfold wrap64
              omega, HB4.out⟩
            case measure => simp [intOf]; omega
          · have hI1 := hI.alloc hI.size (.cells #[.int .i64 0, .int .i64 0] 27)
            refine MixL.does (o := ?_) (v := ?_) (w1 := ?_) ?_ ?_ ?_ ?_ ?_
            rotate_left 3
            (focus (first | (simp only [List.getElem?_toArray, List.getElem?_cons_succ, List.getElem?_cons_zero]; with_reducible rfl) | (simp only [List.getElem?_toArray, List.getElem?_cons_zero]; with_reducible rfl)))
            (focus rfl)
            (focus (go_simp; (constructor <;> with_reducible rfl)))
            (focus (exact hI1))
            simp only [Act.put, List.setIfInBounds_toArray, List.set_cons_zero, List.set_cons_succ]
            have hI2 := hI1.alloc hI1.size (.cells #[.int .i64 0, .int .i64 0] 27)
            refine MixL.does (o := ?_) (v := ?_) (w1 := ?_) ?_ ?_ ?_ ?_ ?_
            rotate_left 3
            (focus (first | (simp only [List.getElem?_toArray, List.getElem?_cons_succ, List.getElem?_cons_zero]; with_reducible rfl) | (simp only [List.getElem?_toArray, List.getElem?_cons_zero]; with_reducible rfl)))
            (focus rfl)
            (focus (go_simp; (constructor <;> with_reducible rfl)))
            (focus (exact hI2))
            simp only [Act.put, List.setIfInBounds_toArray, List.set_cons_zero, List.set_cons_succ]
            have KA := (Blk.new wd 27 #[.int .i64 0, .int .i64 0]).below (below_a1 (wd.alloc (.cells #[.int .i64 0, .int .i64 0] 27)) (.cells #[.int .i64 0, .int .i64 0] 27))
            have KB := Blk.new (wd.alloc (.cells #[.int .i64 0, .int .i64 0] 27)) 27 #[.int .i64 0, .int .i64 0]
            rw [World.size_alloc] at KB
            obtain ⟨V2, hV2⟩ : ∃ V2, V2 = (wd.alloc (.cells #[.int .i64 0, .int .i64 0] 27)).alloc (.cells #[.int .i64 0, .int .i64 0] 27) := ⟨_, rfl⟩
            try simp only [World.size_alloc]
            rw [← hV2] at KA KB hI2 ⊢
            obtain ⟨ga, hga⟩ : ∃ ga, ga = wd.heap.size + 1 := ⟨_, rfl⟩
            obtain ⟨gb, hgb⟩ : ∃ gb, gb = wd.heap.size := ⟨_, rfl⟩
            have hne : ga ≠ gb := by omega
            have hdz := hI.size
            have gale : wr.heap.size ≤ ga := by omega
            have gble : wr.heap.size ≤ gb := by omega
            rw [← hga] at KB ⊢
            rw [← hgb] at KA ⊢
            have hI3 := below_setRow hI2 gale #[.int .i64 x.1, .int .i64 x.2]
            refine MixL.store (o := ?_) (w1 := V2.setRow ga #[.int .i64 x.1, .int .i64 x.2]) ?_ ?_ ?_ ?_ ?_
            rotate_left 1
            (focus (first | (simp only [List.getElem?_toArray, List.getElem?_cons_succ, List.getElem?_cons_zero]; with_reducible rfl) | (simp only [List.getElem?_toArray, List.getElem?_cons_zero]; with_reducible rfl)))
            (focus rfl)
            (focus (refine exec_store_row 27 _ _ (by rfl) ga #[.int .i64 x.1, .int .i64 x.2] (by rfl) (by rfl) 27 #[.int .i64 0, .int .i64 0] KB flDtInfo rfl (by simp [Value.oneCell'])))
            (focus (exact hI3))
            simp only [Act.put, List.setIfInBounds_toArray, List.set_cons_zero, List.set_cons_succ]
            have oa : Only V2 (V2.setRow ga #[.int .i64 x.1, .int .i64 x.2]) [ga] := only_row (Only.refl _ _) (.inl (by simp)) _
            have KX := blk_row KB #[.int .i64 x.1, .int .i64 x.2]
            have KY := KA.only oa (by simp; exact hne.symm)
            obtain ⟨V3, hV3⟩ : ∃ V3, V3 = V2.setRow ga #[.int .i64 x.1, .int .i64 x.2] := ⟨_, rfl⟩
            rw [← hV3] at KX KY hI3 ⊢
            have hI4 := below_setRow hI3 gble #[.int .i64 yy.1, .int .i64 yy.2]
            refine MixL.store (o := ?_) (w1 := V3.setRow gb #[.int .i64 yy.1, .int .i64 yy.2]) ?_ ?_ ?_ ?_ ?_
            rotate_left 1
            (focus (first | (simp only [List.getElem?_toArray, List.getElem?_cons_succ, List.getElem?_cons_zero]; with_reducible rfl) | (simp only [List.getElem?_toArray, List.getElem?_cons_zero]; with_reducible rfl)))
            (focus rfl)
            (focus (refine exec_store_row 27 _ _ (by rfl) gb #[.int .i64 yy.1, .int .i64 yy.2] (by rfl) (by rfl) 27 #[.int .i64 0, .int .i64 0] KY flDtInfo rfl (by simp [Value.oneCell'])))
            (focus (exact hI4))
            simp only [Act.put, List.setIfInBounds_toArray, List.set_cons_zero, List.set_cons_succ]
            have ob : Only V3 (V3.setRow gb #[.int .i64 yy.1, .int .i64 yy.2]) [gb] := only_row (Only.refl _ _) (.inl (by simp)) _
            have KX4 := KX.only ob (by simp; exact hne)
            have KY4 := blk_row KY #[.int .i64 yy.1, .int .i64 yy.2]
            obtain ⟨V4, hV4⟩ : ∃ V4, V4 = V3.setRow gb #[.int .i64 yy.1, .int .i64 yy.2] := ⟨_, rfl⟩
            rw [← hV4] at KX4 KY4 hI4 ⊢
            have u0 := KX4.cell 0; have u1 := KX4.cell 1; have ul := KX4.lt; simp only [List.getElem?_toArray, List.getElem?_cons_succ, List.getElem?_cons_zero] at u0 u1
            have v0 := KY4.cell 0; have v1 := KY4.cell 1; have vl := KY4.lt; simp only [List.getElem?_toArray, List.getElem?_cons_succ, List.getElem?_cons_zero] at v0 v1
            have HB4 := Lib.hid (hb.trans (hI4.mono hbs))
            clear KA KB KX KY KX4 KY4 oa ob hV2 hV3 hV4 hga hgb gale gble hdz hI hI1 hI2 hI3 hI4 hne
            refine MixL.nil ?_
            go_wp2
            go_roundw
            case rel => exact ⟨j + 1, by omega, by go_num, by
              rw [HX2.out, arF_snoc]
              congr 1
              have h1 := HLM.out
              unfold crs
              try simp only [IntKind.wrap_i64]
              try unfold wrap64
              omega, HB4.out⟩
            case measure => simp [intOf]; omega
        · obtain rfl : j = m0 := by omega
          have d2 : decide ((j : Int) < (j : Int)) = false := by simp
          have HTL := Lib.hid (show P ++ lnD L j = P ++ lnL L by rw [HM0.out]; rfl)
          have HBB := Lib.hid hb
          clear hb
          go_wp2
          go_roundw
          case rel => exact ⟨k + 1, by omega, by go_num, by rw [HT.out, HTL.out], HBB.out⟩
          case measure => simp [intOf]; omega
    · obtain rfl : k = n := by omega
      have d1 : decide ((k : Int) < (k : Int)) = false := by simp
      have HTK := Lib.hid (show Ls.take k = Ls from List.take_of_length_le (by rw [← HN.out]; exact Nat.le_refl _))
      have HBB := Lib.hid hb
      clear hb
      go_wp2
      go_ret
      exact ⟨by first | rfl | (rw [HTK.out]; rfl) | simp [HTK.out], HBB.out⟩
end Go.Proofs.Ytlacjifnniahhaa
