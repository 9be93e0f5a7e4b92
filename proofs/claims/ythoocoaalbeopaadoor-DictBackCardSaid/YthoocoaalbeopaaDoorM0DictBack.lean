/- Part 12 of the proof: Same, DcSm, DcGs, DcP. -/
import Derived.Lib.Hide
import Derived.Test.YthoocoaalbeopaaDoorChecked
import Derived.Test.YthoocoaalbeopaaDoorCDc10

namespace Go.Proofs.YthoocoaalbeopaaDoor
open Go Go.RowKit
set_option linter.unusedVariables false
set_option linter.unusedSimpArgs false
set_option maxRecDepth 100000 in
set_option maxHeartbeats 2000000 in
theorem sameInts_eq (n B : Nat) (A A2 : Option Addr) (c c2 : Nat) (L : List Int) (w : World) (hB : B ≤ w.heap.size) (hL : Lists w B A (intCells L)) (hL2 : Lists w B A2 (intCells L)) (hnn : L.length = n) (hn : n ≤ 1099511627776) :
    Calls Tryd.prog 28 #[.slice A n c, .slice A2 n c2] w fun e w' => e = .returned (.bool true) ∧ Below w.heap.size w w' := by
  have HL := Lib.hid hL
  have HL2 := Lib.hid hL2
  have HN := Lib.hid hnn
  clear hL hL2 hnn
  go_enter Tryd.func28, Tryd.ntmps28
  go_wp2
  go_loopw [5] (fun i wr => ∃ k : Nat, k ≤ n ∧ i = .int .i64 k ∧ Below w.heap.size w wr) (fun i _ => n - (intOf i).toNat)
  case atStart => exact ⟨0, Nat.zero_le _, rfl, Below.refl _ _⟩
  case round =>
    obtain ⟨k, hk, rfl, hbe⟩ := hrel
    by_cases hlt : k < n
    · have d1 : decide ((k : Int) < (n : Int)) = true := by simp; omega
      obtain ⟨y, hy⟩ : ∃ y, L[k]? = some y := ⟨L[k]'(by rw [HN.out]; exact hlt), List.getElem?_eq_getElem _⟩
      have hne : intCells L ≠ [] := by intro e; have h2 := congrArg List.length e; rw [intCells_len, HN.out] at h2; simp at h2; omega
      obtain ⟨b, o, rfl, hb, hc⟩ := HL.out.plain hne
      obtain ⟨b2, o2, rfl, hb2, hc2⟩ := HL2.out.plain hne
      have hy2 : (intCells L)[k]? = some (.int .i64 y) := by unfold intCells; rw [List.getElem?_map, hy]; rfl
      have HC := Lib.hid (show ∀ V, Below w.heap.size w V → V.cell? ⟨b, o + k, none⟩ = some (.int .i64 y) ∧ V.cell? ⟨b2, o2 + k, none⟩ = some (.int .i64 y) from fun V hV => ⟨(hV.cell (p := ⟨b, o + k, none⟩) (Nat.lt_of_lt_of_le hb hB)).trans (hc k _ hy2), (hV.cell (p := ⟨b2, o2 + k, none⟩) (Nat.lt_of_lt_of_le hb2 hB)).trans (hc2 k _ hy2)⟩)
      have n3 : (k : Int) < (n : Int) := by omega
      have hI : Below w.heap.size w wr.drew := hbe.drew
      clear hc hc2 hy hy2 hne
      go_wp2
      refine wp_region_chain (fun V => Below w.heap.size w V) [(0, false), (1, false), (2, false), (3, false), (4, false), (5, false), (6, false), (7, false), (8, false)] (by kernel_rfl) (by kernel_rfl) (hI) ?_
      repeat (first
        | (refine ChainL.skip (o := ?_) ?_ ?_ ?_; rotate_left; (focus (first | (simp only [List.getElem?_toArray, List.getElem?_cons_succ, List.getElem?_cons_zero]; with_reducible rfl) | (simp only [List.getElem?_toArray, List.getElem?_cons_zero]; with_reducible rfl))); (focus rfl); simp only [Act.put, List.setIfInBounds_toArray, List.set_cons_zero, List.set_cons_succ])
        | (refine ChainL.val (o := ?_) (v := ?_) ?_ ?_ ?_ ?_ ?_; rotate_left 2; (focus (first | (simp only [List.getElem?_toArray, List.getElem?_cons_succ, List.getElem?_cons_zero]; with_reducible rfl) | (simp only [List.getElem?_toArray, List.getElem?_cons_zero]; with_reducible rfl))); (focus (intro _ _ h; cases h)); (focus rfl); (focus (intro w' hI; obtain ⟨y1, y2⟩ := HC.out _ hI; go_simp <;> with_reducible rfl)); simp only [Act.put, List.setIfInBounds_toArray, List.set_cons_zero, List.set_cons_succ]))
      refine ChainL.nil ?_
      go_wp2
      go_roundw
      case rel => exact ⟨k + 1, by omega, by go_num, hI⟩
      case measure => simp [intOf]; omega
    · obtain rfl : k = n := by omega
      have d1 : decide ((k : Int) < (k : Int)) = false := by simp
      go_wp2
      go_ret
      exact ⟨rfl, hbe⟩
end Go.Proofs.YthoocoaalbeopaaDoor

namespace Go.Proofs.YthoocoaalbeopaaDoor
open Go Go.RowKit
set_option linter.unusedVariables false
set_option linter.unusedSimpArgs false

set_option maxRecDepth 100000 in
set_option maxHeartbeats 2000000 in
theorem rsame15 (n : Nat) (A A2 : Option Addr) (c c2 : Nat) (Es : List Ent) (w : World) (hE : EntAt w w.heap.size A Es) (hE2 : EntAt w w.heap.size A2 Es) (hnn : Es.length = n) (hn : n ≤ 1000000) (hl : ∀ q ∈ Es, q.2.length ≤ 1000000) :
    Calls Tryd.prog 11 #[.slice A n c, .slice A2 n c2] w fun e w' => e = .returned (.bool true) ∧ Below w.heap.size w w' := by
  have HL := Lib.hid hE
  have HL2 := Lib.hid hE2
  have HN := Lib.hid hnn
  have HM := Lib.hid hl
  clear hE hE2 hnn hl
  go_enter Tryd.func11, Tryd.ntmps11
  go_wp2
  go_loopw [5] (fun i wr => ∃ k : Nat, k ≤ n ∧ i = .int .i64 k ∧ Below w.heap.size w wr) (fun i _ => n - (intOf i).toNat)
  case atStart => exact ⟨0, Nat.zero_le _, rfl, Below.refl _ _⟩
  case round =>
    obtain ⟨k, hk, rfl, hbe⟩ := hrel
    by_cases hlt : k < n
    · have d1 : decide ((k : Int) < (n : Int)) = true := by simp; omega
      obtain ⟨⟨qo, L⟩, hy⟩ : ∃ q, Es[k]? = some q := ⟨Es[k]'(by rw [HN.out]; exact hlt), List.getElem?_eq_getElem _⟩
      obtain ⟨b, o, Ai, ci, rfl, hb, f0, f1, hci, hli⟩ := HL.out.at' k _ hy
      obtain ⟨b2, o2, Ai2, ci2, rfl, hb2, g0, g1, hci2, hli2⟩ := HL2.out.at' k _ hy
      have hL9 := HM.out _ (List.mem_of_getElem? hy)
      dsimp only at f0 f1 g0 g1 hci hli hci2 hli2 hL9
      have HC := Lib.hid (show ∀ V, Below w.heap.size w V → V.cell? ⟨b, o + k * 2, none⟩ = some (.int .i64 qo) ∧ V.cell? ⟨b, o + k * 2 + 1, none⟩ = some (.slice Ai L.length ci) ∧ V.cell? ⟨b2, o2 + k * 2, none⟩ = some (.int .i64 qo) ∧ V.cell? ⟨b2, o2 + k * 2 + 1, none⟩ = some (.slice Ai2 L.length ci2) ∧ b < V.heap.size ∧ b2 < V.heap.size from fun V hV => ⟨(hV.cell (p := ⟨b, o + k * 2, none⟩) hb).trans f0, (hV.cell (p := ⟨b, o + k * 2 + 1, none⟩) hb).trans f1, (hV.cell (p := ⟨b2, o2 + k * 2, none⟩) hb2).trans g0, (hV.cell (p := ⟨b2, o2 + k * 2 + 1, none⟩) hb2).trans g1, Nat.lt_of_lt_of_le hb hV.size, Nat.lt_of_lt_of_le hb2 hV.size⟩)
      have CS : ∀ V, Below w.heap.size w V → Calls Tryd.prog 28 #[.slice Ai L.length ci, .slice Ai2 L.length ci2] V fun e w' => e = .returned (.bool true) ∧ Below V.heap.size V w' := fun V hV => sameInts_eq L.length V.heap.size Ai Ai2 ci ci2 L V (Nat.le_refl _) ((hli.below hV).more hV.size) ((hli2.below hV).more hV.size) rfl (by omega)
      have n3 : (k : Int) < (n : Int) := by omega
      have hI : Below w.heap.size w wr.drew := hbe.drew
      clear f0 f1 g0 g1 hci hli hci2 hli2 hy hL9
      generalize L.length = m at *
      go_wp2
      refine wp_region_chain (fun V => Below w.heap.size w V) [(0, false), (1, false), (2, false), (3, false), (4, false), (5, false), (6, false), (7, false), (8, false), (9, false), (10, false), (11, false), (12, false), (13, false), (14, false), (15, false), (16, false), (17, false), (18, false), (19, false), (20, false), (21, false), (22, true), (23, false), (24, false)] (by kernel_rfl) (by kernel_rfl) hI ?_
      repeat (first
        | (refine ChainL.skip (o := ?_) ?_ ?_ ?_; rotate_left; (focus (first | (simp only [List.getElem?_toArray, List.getElem?_cons_succ, List.getElem?_cons_zero]; with_reducible rfl) | (simp only [List.getElem?_toArray, List.getElem?_cons_zero]; with_reducible rfl))); (focus rfl); simp only [Act.put, List.setIfInBounds_toArray, List.set_cons_zero, List.set_cons_succ])
        | (refine ChainL.val (o := ?_) (v := ?_) ?_ ?_ ?_ ?_ ?_; rotate_left 2; (focus (first | (simp only [List.getElem?_toArray, List.getElem?_cons_succ, List.getElem?_cons_zero]; with_reducible rfl) | (simp only [List.getElem?_toArray, List.getElem?_cons_zero]; with_reducible rfl))); (focus (intro _ _ h; cases h)); (focus rfl); (focus (intro w' hJ; obtain ⟨y1, y2, y3, y4, y5, y6⟩ := HC.out _ hJ; go_simp <;> with_reducible rfl)); simp only [Act.put, List.setIfInBounds_toArray, List.set_cons_zero, List.set_cons_succ]))
      refine ChainL.call (o := ?_) (f := ?_) (args := ?_) ?_ ?_ ?_ ?_
      rotate_left 3
      (focus (first | (simp only [List.getElem?_toArray, List.getElem?_cons_succ, List.getElem?_cons_zero]; with_reducible rfl) | (simp only [List.getElem?_toArray, List.getElem?_cons_zero]; with_reducible rfl)))
      (focus rfl)
      (focus (go_simp; (constructor <;> with_reducible rfl)))
      with_reducible refine (CS _ hI).mono ?_
      rintro e wc1 ⟨rfl, b7⟩
      have hI1 := hI.trans (b7.mono hI.size)
      refine ⟨_, rfl, hI1, ?_⟩
      simp only [Act.put, List.setIfInBounds_toArray, List.set_cons_zero, List.set_cons_succ]
      repeat (first
        | (refine ChainL.skip (o := ?_) ?_ ?_ ?_; rotate_left; (focus (first | (simp only [List.getElem?_toArray, List.getElem?_cons_succ, List.getElem?_cons_zero]; with_reducible rfl) | (simp only [List.getElem?_toArray, List.getElem?_cons_zero]; with_reducible rfl))); (focus rfl); simp only [Act.put, List.setIfInBounds_toArray, List.set_cons_zero, List.set_cons_succ])
        | (refine ChainL.val (o := ?_) (v := ?_) ?_ ?_ ?_ ?_ ?_; rotate_left 2; (focus (first | (simp only [List.getElem?_toArray, List.getElem?_cons_succ, List.getElem?_cons_zero]; with_reducible rfl) | (simp only [List.getElem?_toArray, List.getElem?_cons_zero]; with_reducible rfl))); (focus (intro _ _ h; cases h)); (focus rfl); (focus (intro w' hJ; skip; go_simp <;> with_reducible rfl)); simp only [Act.put, List.setIfInBounds_toArray, List.set_cons_zero, List.set_cons_succ]))
      refine ChainL.nil ?_
      go_wp2
      go_roundw
      case rel => exact ⟨k + 1, by omega, by go_num, hI1⟩
      case measure => simp [intOf]; omega
    · obtain rfl : k = n := by omega
      have d1 : decide ((k : Int) < (k : Int)) = false := by simp
      go_wp2
      go_ret
      exact ⟨rfl, hbe⟩
set_option maxRecDepth 100000 in
set_option maxHeartbeats 1000000 in
theorem rget15 (n : Nat) (A : Option Addr) (c : Nat) (Es : List Ent) (op : Int) (w : World) (hE : EntAt w w.heap.size A Es) (hnn : Es.length = n) (hn : n ≤ 1000000) :
    Calls Tryd.prog 29 #[.slice A n c, .int .i64 op] w fun e w' => (∃ Ai ci, e = .returned (.tuple #[.slice Ai ((lastE Es op).getD []).length ci, .bool (lastE Es op).isSome]) ∧ ((lastE Es op).getD []).length ≤ ci ∧ Hid (Lists w w.heap.size Ai (((lastE Es op).getD []).map (Value.int .i64)))) ∧ w' = w := by
  have HE := Lib.hid hE
  have HN := Lib.hid hnn
  have e0 : IntKind.i64.wrap ((n : Int) - 1) = (n : Int) - 1 := IntWalk.i64_in _ (by omega)
  clear hE hnn
  go_enter Tryd.func29, Tryd.ntmps29
  go_wp2
  go_loop [6] (fun i => ∃ j : Int, 0 ≤ j + 1 ∧ j + 1 ≤ n ∧ i = .int .i64 j ∧ Hid (∀ (k : Nat) (q : Ent), j < k → Es[k]? = some q → q.1 ≠ op)) (fun i => (intOf i + 1).toNat)
  case atStart => exact ⟨(n : Int) - 1, by omega, by omega, by simp, Lib.hid fun k q hk hq => by have h1 := (List.getElem?_eq_some_iff.1 hq).1; have := HN.out; omega⟩
  case round =>
    obtain ⟨j, hj0, hj1, rfl, hno⟩ := hrel
    by_cases hlt : 0 ≤ j
    · obtain ⟨k, rfl⟩ : ∃ k : Nat, j = (k : Int) := ⟨j.toNat, by omega⟩
      obtain ⟨⟨qo, L⟩, hq⟩ : ∃ q, Es[k]? = some q := ⟨_, List.getElem?_eq_getElem (by have := HN.out; omega)⟩
      obtain ⟨b, o, Ai, ci, rfl, hbl, f0, f1, hci, hli⟩ := HE.out.at' k _ hq
      dsimp only at f0 f1 hci hli
      have d1 : k < n := by omega
      have eN : IntKind.i64.wrap ((k : Int) - 1) = (k : Int) - 1 := IntWalk.i64_in _ (by omega)
      have HLI := Lib.hid hli
      have HCI := Lib.hid hci
      by_cases he : qo = op
      · have hl := Lib.hid (lastE_at hq he fun j p hj hp => hno.out j p (by omega) hp)
        have zz : (qo == op) = true := by simpa using he
        have HQ := Lib.hid he
        clear hq hno hli hci he
        obtain ⟨m, hm⟩ : ∃ m, m = L.length := ⟨_, rfl⟩
        rw [← hm] at f1
        have HM := Lib.hid hm
        clear hm
        go_wp2
        refine bodyPost_ret (results_tmp2 rfl _ _ _) rfl ⟨⟨Ai, ci, ?_, ?_, ?_⟩, rfl⟩
        · rw [hl.out, HM.out]; rfl
        · rw [hl.out]; exact HCI.out
        · rw [hl.out]; exact HLI
      · have zz : (qo == op) = false := by simpa using he
        have HN2 := Lib.hid (show ∀ (i : Nat) (q : Ent), (k : Int) - 1 < i → Es[i]? = some q → q.1 ≠ op from fun i p hi hp => by
          rcases Nat.lt_or_ge k i with h | h
          · exact hno.out i p (by omega) hp
          · have : i = k := by omega
            subst this
            rw [hq] at hp
            cases hp
            exact he)
        clear hq hno hli hci he
        generalize L.length = m at *
        go_wp2
        go_round
        case rel => exact ⟨(k : Int) - 1, by omega, by omega, rfl, HN2⟩
        case measure => simp [intOf]
    · have hz : j = -1 := by omega
      subst hz
      have hl := Lib.hid (lastE_none (Es := Es) (op := op) fun i p hp => hno.out i p (by omega) hp)
      go_wp2
      refine bodyPost_ret (results_tmp2 rfl _ _ _) rfl ⟨⟨none, 0, ?_, ?_, ?_⟩, rfl⟩
      · rw [hl.out]; rfl
      · rw [hl.out]; exact Nat.le_refl _
      · rw [hl.out]; exact Lib.hid (Lists.empty _ _ _)
end Go.Proofs.YthoocoaalbeopaaDoor

namespace Go.Proofs.YthoocoaalbeopaaDoor
open Go Go.RowKit
set_option linter.unusedVariables false
set_option linter.unusedSimpArgs false

set_option maxRecDepth 100000 in
set_option maxHeartbeats 1000000 in
theorem gets_none (n : Nat) (A : Option Addr) (c : Nat) (Es : List Ent) (op other : Int) (w : World) (hE : EntAt w w.heap.size A Es) (hnn : Es.length = n) (hn : n ≤ 1000000) (hl : ∀ q ∈ Es, q.2.length ≤ 1000000)  (hlast : lastE Es op = none) : Calls Tryd.prog 12 #[.slice A n c, .int .i64 op, .int .i64 other] w fun e w' => e = .returned (.bool true) ∧ Below w.heap.size w w' := by
  have CG := dget_any A n c Es op w hE hnn (by omega) (fun q hq => by have := hl q hq; omega)
  have CR := fun V (hV : Below w.heap.size w V) => rget15 n A c Es op V ((hE.below hV).more hV.size) hnn hn
  have CN := fun V (hV : Below w.heap.size w V) => dnumber_any A n c Es op other V ((hE.below hV).more hV.size) hnn (by omega)
  unfold GetP at CG
  unfold numP at CN
  rw [hlast] at CG CN
  simp only [hlast] at CR
  simp only [Option.getD_none, Option.getD_some, Option.isSome_none, Option.isSome_some, List.length_nil, List.length_cons, Nat.zero_add, Nat.reduceAdd, List.getD_cons_zero, true_and, false_and] at CG CR CN
  have CS : ∀ (A1 A2 : Option Addr) (c1 c2 : Nat) (V : World), Hid (Lists V V.heap.size A1 (([] : List Int).map (Value.int .i64))) → Hid (Lists V V.heap.size A2 (([] : List Int).map (Value.int .i64))) → Calls Tryd.prog 28 #[.slice A1 0 c1, .slice A2 0 c2] V fun e w' => e = .returned (.bool true) ∧ Below V.heap.size V w' := fun A1 A2 c1 c2 V h1 h2 => sameInts_eq 0 V.heap.size A1 A2 c1 c2 ([]) V (Nat.le_refl _) h1.out h2.out rfl (by decide)
  have z1 : (other == other) = true := by simp
  clear hE hnn hl hlast
  go_enter Tryd.func12, Tryd.ntmps12
  go_wp2_with (first
    | (go_at_call 19; ((with_reducible refine (CG).mono ?_); rintro e w1 ⟨⟨A1, c1, rfl, hc1, l1⟩, b1⟩; have l1 := Lib.hid l1))
    | (go_at_call 29; ((with_reducible refine (CR _ b1).mono ?_); rintro e w2 ⟨⟨A2, c2, rfl, hc2, l2⟩, hw2⟩; obtain rfl : w1 = w2 := hw2.symm))
    | (go_at_call 20; ((with_reducible refine (CN _ b1).mono ?_); rintro e w3 ⟨rfl, b3⟩; have B3 := b1.trans (b3.mono b1.size); have l1b := hlst_up l1 b3; have l2b := hlst_up l2 b3))
    | (go_at_call 28; ((with_reducible refine (CS _ _ _ _ w3 l1b l2b).mono ?_); rintro e w4 ⟨rfl, b4⟩; have B4 := B3.trans (b4.mono B3.size))))
  exact bodyPost_ret (results_tmp rfl _ _ _) rfl ⟨rfl, B4⟩
set_option maxRecDepth 100000 in
set_option maxHeartbeats 1000000 in
theorem gets_nil (n : Nat) (A : Option Addr) (c : Nat) (Es : List Ent) (op other : Int) (w : World) (hE : EntAt w w.heap.size A Es) (hnn : Es.length = n) (hn : n ≤ 1000000) (hl : ∀ q ∈ Es, q.2.length ≤ 1000000)  (hlast : lastE Es op = some ([])) : Calls Tryd.prog 12 #[.slice A n c, .int .i64 op, .int .i64 other] w fun e w' => e = .returned (.bool true) ∧ Below w.heap.size w w' := by
  have CG := dget_any A n c Es op w hE hnn (by omega) (fun q hq => by have := hl q hq; omega)
  have CR := fun V (hV : Below w.heap.size w V) => rget15 n A c Es op V ((hE.below hV).more hV.size) hnn hn
  have CN := fun V (hV : Below w.heap.size w V) => dnumber_any A n c Es op other V ((hE.below hV).more hV.size) hnn (by omega)
  unfold GetP at CG
  unfold numP at CN
  rw [hlast] at CG CN
  simp only [hlast] at CR
  simp only [Option.getD_none, Option.getD_some, Option.isSome_none, Option.isSome_some, List.length_nil, List.length_cons, Nat.zero_add, Nat.reduceAdd, List.getD_cons_zero, true_and, false_and] at CG CR CN
  simp only [show ¬ ((0 : Nat) = 1) from by decide, false_and, if_false] at CN
  have CS : ∀ (A1 A2 : Option Addr) (c1 c2 : Nat) (V : World), Hid (Lists V V.heap.size A1 (([] : List Int).map (Value.int .i64))) → Hid (Lists V V.heap.size A2 (([] : List Int).map (Value.int .i64))) → Calls Tryd.prog 28 #[.slice A1 0 c1, .slice A2 0 c2] V fun e w' => e = .returned (.bool true) ∧ Below V.heap.size V w' := fun A1 A2 c1 c2 V h1 h2 => sameInts_eq 0 V.heap.size A1 A2 c1 c2 ([]) V (Nat.le_refl _) h1.out h2.out rfl (by decide)
  clear hE hnn hl hlast
  go_enter Tryd.func12, Tryd.ntmps12
  go_wp2_with (first
    | (go_at_call 19; ((with_reducible refine (CG).mono ?_); rintro e w1 ⟨⟨A1, c1, rfl, hc1, l1⟩, b1⟩; have l1 := Lib.hid l1))
    | (go_at_call 29; ((with_reducible refine (CR _ b1).mono ?_); rintro e w2 ⟨⟨A2, c2, rfl, hc2, l2⟩, hw2⟩; obtain rfl : w1 = w2 := hw2.symm))
    | (go_at_call 20; ((with_reducible refine (CN _ b1).mono ?_); rintro e w3 ⟨rfl, b3⟩; have B3 := b1.trans (b3.mono b1.size); have l1b := hlst_up l1 b3; have l2b := hlst_up l2 b3))
    | (go_at_call 28; ((with_reducible refine (CS _ _ _ _ w3 l1b l2b).mono ?_); rintro e w4 ⟨rfl, b4⟩; have B4 := B3.trans (b4.mono B3.size))))
  exact bodyPost_ret (results_tmp rfl _ _ _) rfl ⟨rfl, B4⟩
set_option maxRecDepth 100000 in
set_option maxHeartbeats 1000000 in
theorem gets_oney (n : Nat) (A : Option Addr) (c : Nat) (Es : List Ent) (op other : Int) (w : World) (hE : EntAt w w.heap.size A Es) (hnn : Es.length = n) (hn : n ≤ 1000000) (hl : ∀ q ∈ Es, q.2.length ≤ 1000000) (x : Int) (hz : x.tmod 65536 = 0) (hlast : lastE Es op = some ([x])) : Calls Tryd.prog 12 #[.slice A n c, .int .i64 op, .int .i64 other] w fun e w' => e = .returned (.bool true) ∧ Below w.heap.size w w' := by
  have CG := dget_any A n c Es op w hE hnn (by omega) (fun q hq => by have := hl q hq; omega)
  have CR := fun V (hV : Below w.heap.size w V) => rget15 n A c Es op V ((hE.below hV).more hV.size) hnn hn
  have CN := fun V (hV : Below w.heap.size w V) => dnumber_any A n c Es op other V ((hE.below hV).more hV.size) hnn (by omega)
  unfold GetP at CG
  unfold numP at CN
  rw [hlast] at CG CN
  simp only [hlast] at CR
  simp only [Option.getD_none, Option.getD_some, Option.isSome_none, Option.isSome_some, List.length_nil, List.length_cons, Nat.zero_add, Nat.reduceAdd, List.getD_cons_zero, true_and, false_and] at CG CR CN
  simp only [hz, if_true] at CN
  have CS : ∀ (A1 A2 : Option Addr) (c1 c2 : Nat) (V : World), Hid (Lists V V.heap.size A1 (([x] : List Int).map (Value.int .i64))) → Hid (Lists V V.heap.size A2 (([x] : List Int).map (Value.int .i64))) → Calls Tryd.prog 28 #[.slice A1 1 c1, .slice A2 1 c2] V fun e w' => e = .returned (.bool true) ∧ Below V.heap.size V w' := fun A1 A2 c1 c2 V h1 h2 => sameInts_eq 1 V.heap.size A1 A2 c1 c2 ([x]) V (Nat.le_refl _) h1.out h2.out rfl (by decide)
  have p2 : wrap64 (x.tdiv 65536) = q16 x := rfl
  have d1 : (x.tmod 65536 != 0) = false := by simpa using hz
  have z1 : (q16 x == q16 x) = true := by simp
  generalize q16 x = y at *
  clear hE hnn hl hlast
  go_enter Tryd.func12, Tryd.ntmps12
  go_wp2_with (first
    | (go_at_call 19; ((with_reducible refine (CG).mono ?_); rintro e w1 ⟨⟨A1, c1, rfl, hc1, l1⟩, b1⟩; have l1 := Lib.hid l1))
    | (go_at_call 29; ((with_reducible refine (CR _ b1).mono ?_); rintro e w2 ⟨⟨A2, c2, rfl, hc2, l2⟩, hw2⟩; obtain rfl : w1 = w2 := hw2.symm))
    | (go_at_call 20; ((with_reducible refine (CN _ b1).mono ?_); rintro e w3 ⟨rfl, b3⟩; have B3 := b1.trans (b3.mono b1.size); have l1b := hlst_up l1 b3; have l2b := hlst_up l2 b3; obtain ⟨b, o, rfl, zl, hcell⟩ := l2b.out.plain (by simp); have z0 := hcell 0 _ rfl; simp only [Nat.add_zero] at z0; clear hcell))
    | (go_at_call 28; ((with_reducible refine (CS _ _ _ _ w3 l1b l2b).mono ?_); rintro e w4 ⟨rfl, b4⟩; have B4 := B3.trans (b4.mono B3.size); have z0 := (b4.cell (p := ⟨b, o, none⟩) zl).trans z0; have zl := Nat.lt_of_lt_of_le zl b4.size)))
  exact bodyPost_ret (results_tmp rfl _ _ _) rfl ⟨rfl, B4⟩
set_option maxRecDepth 100000 in
set_option maxHeartbeats 1000000 in
theorem gets_onen (n : Nat) (A : Option Addr) (c : Nat) (Es : List Ent) (op other : Int) (w : World) (hE : EntAt w w.heap.size A Es) (hnn : Es.length = n) (hn : n ≤ 1000000) (hl : ∀ q ∈ Es, q.2.length ≤ 1000000) (x : Int) (hz : ¬ x.tmod 65536 = 0) (hlast : lastE Es op = some ([x])) : Calls Tryd.prog 12 #[.slice A n c, .int .i64 op, .int .i64 other] w fun e w' => e = .returned (.bool true) ∧ Below w.heap.size w w' := by
  have CG := dget_any A n c Es op w hE hnn (by omega) (fun q hq => by have := hl q hq; omega)
  have CR := fun V (hV : Below w.heap.size w V) => rget15 n A c Es op V ((hE.below hV).more hV.size) hnn hn
  have CN := fun V (hV : Below w.heap.size w V) => dnumber_any A n c Es op other V ((hE.below hV).more hV.size) hnn (by omega)
  unfold GetP at CG
  unfold numP at CN
  rw [hlast] at CG CN
  simp only [hlast] at CR
  simp only [Option.getD_none, Option.getD_some, Option.isSome_none, Option.isSome_some, List.length_nil, List.length_cons, Nat.zero_add, Nat.reduceAdd, List.getD_cons_zero, true_and, false_and] at CG CR CN
  simp only [hz, if_false] at CN
  have CS : ∀ (A1 A2 : Option Addr) (c1 c2 : Nat) (V : World), Hid (Lists V V.heap.size A1 (([x] : List Int).map (Value.int .i64))) → Hid (Lists V V.heap.size A2 (([x] : List Int).map (Value.int .i64))) → Calls Tryd.prog 28 #[.slice A1 1 c1, .slice A2 1 c2] V fun e w' => e = .returned (.bool true) ∧ Below V.heap.size V w' := fun A1 A2 c1 c2 V h1 h2 => sameInts_eq 1 V.heap.size A1 A2 c1 c2 ([x]) V (Nat.le_refl _) h1.out h2.out rfl (by decide)
  have d1 : (x.tmod 65536 != 0) = true := by simpa using hz
  clear hE hnn hl hlast
  go_enter Tryd.func12, Tryd.ntmps12
  go_wp2_with (first
    | (go_at_call 19; ((with_reducible refine (CG).mono ?_); rintro e w1 ⟨⟨A1, c1, rfl, hc1, l1⟩, b1⟩; have l1 := Lib.hid l1))
    | (go_at_call 29; ((with_reducible refine (CR _ b1).mono ?_); rintro e w2 ⟨⟨A2, c2, rfl, hc2, l2⟩, hw2⟩; obtain rfl : w1 = w2 := hw2.symm))
    | (go_at_call 20; ((with_reducible refine (CN _ b1).mono ?_); rintro e w3 ⟨rfl, b3⟩; have B3 := b1.trans (b3.mono b1.size); have l1b := hlst_up l1 b3; have l2b := hlst_up l2 b3; obtain ⟨b, o, rfl, zl, hcell⟩ := l2b.out.plain (by simp); have z0 := hcell 0 _ rfl; simp only [Nat.add_zero] at z0; clear hcell))
    | (go_at_call 28; ((with_reducible refine (CS _ _ _ _ w3 l1b l2b).mono ?_); rintro e w4 ⟨rfl, b4⟩; have B4 := B3.trans (b4.mono B3.size); have z0 := (b4.cell (p := ⟨b, o, none⟩) zl).trans z0; have zl := Nat.lt_of_lt_of_le zl b4.size)))
  exact bodyPost_ret (results_tmp rfl _ _ _) rfl ⟨rfl, B4⟩
set_option maxRecDepth 100000 in
set_option maxHeartbeats 1000000 in
theorem gets_more (n : Nat) (A : Option Addr) (c : Nat) (Es : List Ent) (op other : Int) (w : World) (hE : EntAt w w.heap.size A Es) (hnn : Es.length = n) (hn : n ≤ 1000000) (hl : ∀ q ∈ Es, q.2.length ≤ 1000000) (x y : Int) (M : List Int) (hM : M.length + 2 ≤ 1000000) (hlast : lastE Es op = some (x :: y :: M)) : Calls Tryd.prog 12 #[.slice A n c, .int .i64 op, .int .i64 other] w fun e w' => e = .returned (.bool true) ∧ Below w.heap.size w w' := by
  have CG := dget_any A n c Es op w hE hnn (by omega) (fun q hq => by have := hl q hq; omega)
  have CR := fun V (hV : Below w.heap.size w V) => rget15 n A c Es op V ((hE.below hV).more hV.size) hnn hn
  have CN := fun V (hV : Below w.heap.size w V) => dnumber_any A n c Es op other V ((hE.below hV).more hV.size) hnn (by omega)
  unfold GetP at CG
  unfold numP at CN
  rw [hlast] at CG CN
  simp only [hlast] at CR
  simp only [Option.getD_some, Option.isSome_some] at CG CR CN
  simp only [show ¬ ((x :: y :: M).length = 1) from by simp, false_and, if_false] at CN
  have CS : ∀ (A1 A2 : Option Addr) (c1 c2 : Nat) (V : World), Hid (Lists V V.heap.size A1 ((x :: y :: M : List Int).map (Value.int .i64))) → Hid (Lists V V.heap.size A2 ((x :: y :: M : List Int).map (Value.int .i64))) → Calls Tryd.prog 28 #[.slice A1 (x :: y :: M).length c1, .slice A2 (x :: y :: M).length c2] V fun e w' => e = .returned (.bool true) ∧ Below V.heap.size V w' := fun A1 A2 c1 c2 V h1 h2 => sameInts_eq (x :: y :: M).length V.heap.size A1 A2 c1 c2 (x :: y :: M) V (Nat.le_refl _) h1.out h2.out rfl (by simp; omega)
  have d1 : ¬ (((x :: y :: M).length : Nat) : Int) = 1 := by simp; omega
  have d2 : ((((x :: y :: M).length : Nat) : Int) != 1) = true := by simp; omega
  generalize (x :: y :: M).length = m at *
  clear hE hnn hl hlast
  go_enter Tryd.func12, Tryd.ntmps12
  go_wp2_with (first
    | (go_at_call 19; ((with_reducible refine (CG).mono ?_); rintro e w1 ⟨⟨A1, c1, rfl, hc1, l1⟩, b1⟩; have l1 := Lib.hid l1))
    | (go_at_call 29; ((with_reducible refine (CR _ b1).mono ?_); rintro e w2 ⟨⟨A2, c2, rfl, hc2, l2⟩, hw2⟩; obtain rfl : w1 = w2 := hw2.symm))
    | (go_at_call 20; ((with_reducible refine (CN _ b1).mono ?_); rintro e w3 ⟨rfl, b3⟩; have B3 := b1.trans (b3.mono b1.size); have l1b := hlst_up l1 b3; have l2b := hlst_up l2 b3))
    | (go_at_call 28; ((with_reducible refine (CS _ _ _ _ w3 l1b l2b).mono ?_); rintro e w4 ⟨rfl, b4⟩; have B4 := B3.trans (b4.mono B3.size))))
  exact bodyPost_ret (results_tmp rfl _ _ _) rfl ⟨rfl, B4⟩
theorem gets15 (n : Nat) (A : Option Addr) (c : Nat) (Es : List Ent) (op other : Int) (w : World) (hE : EntAt w w.heap.size A Es) (hnn : Es.length = n) (hn : n ≤ 1000000) (hl : ∀ q ∈ Es, q.2.length ≤ 1000000) : Calls Tryd.prog 12 #[.slice A n c, .int .i64 op, .int .i64 other] w fun e w' => e = .returned (.bool true) ∧ Below w.heap.size w w' := by
  match h : lastE Es op with
  | none => exact gets_none n A c Es op other w hE hnn hn hl h
  | some [] => exact gets_nil n A c Es op other w hE hnn hn hl h
  | some [x] =>
    by_cases hz : x.tmod 65536 = 0
    · exact gets_oney n A c Es op other w hE hnn hn hl x hz h
    · exact gets_onen n A c Es op other w hE hnn hn hl x hz h
  | some (x :: y :: M) =>
    exact gets_more n A c Es op other w hE hnn hn hl x y M (by
      obtain ⟨q, hq, e⟩ := lastE_mem h
      have := hl q hq
      rw [e] at this
      simpa using this) h
end Go.Proofs.YthoocoaalbeopaaDoor

namespace Go.Proofs.YthoocoaalbeopaaDoor
open Go Go.RowKit
set_option linter.unusedVariables false
set_option linter.unusedSimpArgs false

def argsI (L : List Int) : List It := L.map fun x => It.arg (numH (q16 x)) (numT (q16 x)) (q16 x * 65536)
def itemsE (Es : List Ent) : List It := Es.flatMap fun q => argsI q.2 ++ [It.op q.1]
theorem bytesI_append (a b : List It) : bytesI (a ++ b) = bytesI a ++ bytesI b := by simp [bytesI]
theorem bytes_argsI (L : List Int) : bytesI (argsI L) = argsE L := by
  induction L with
  | nil => rfl
  | cons x L ih =>
    have e : bytesI (argsI (x :: L)) = (.int .u8 (numH (q16 x)) :: numT (q16 x)) ++ bytesI (argsI L) := rfl
    rw [e, ih, ← numE_eq]
    rfl
theorem bytes_items (Es : List Ent) : bytesI (itemsE Es) = putE Es := by
  induction Es with
  | nil => rfl
  | cons q Es ih =>
    have e : itemsE (q :: Es) = argsI q.2 ++ [It.op q.1] ++ itemsE Es := by simp [itemsE]
    rw [e, bytesI_append, bytesI_append, bytes_argsI, ih]
    have e2 : bytesI [It.op q.1] = opE q.1 := by simp [bytesI, It.bytes]
    rw [e2]
    simp [putE]
theorem q16_back {x : Int} (hw : wholeB x = true) (hx : In64 x) : q16 x * 65536 = x := by
  unfold wholeB at hw
  simp only [Bool.and_eq_true, beq_iff_eq] at hw
  have h1 := Int.tmod_add_mul_tdiv x 65536
  have h3 : wrap64 (x.tdiv 65536) = x.tdiv 65536 := by
    unfold In64 at hx
    unfold wrap64
    omega
  unfold q16
  rw [h3]
  omega
theorem okI_args {L : List Int} (hL : ∀ x ∈ L, -2147483648 ≤ q16 x ∧ q16 x ≤ 2147483647) {R : List It} : ∀ {cur : List Int}, cur.length + L.length ≤ 48 → okI R (cur ++ L.map fun x => q16 x * 65536) → okI (argsI L ++ R) cur := by
  induction L with
  | nil => intro cur _ h; show okI R cur; simpa using h
  | cons x L ih =>
    intro cur hc h
    have hx := hL x (by simp)
    simp only [List.length_cons] at hc
    refine ⟨opd_num _ hx.1 hx.2, by omega, ih (fun y hy => hL y (by simp [hy])) (by simp; omega) ?_⟩
    simpa using h
theorem runI_args (L : List Int) (R : List It) (Es : List Ent) : ∀ cur : List Int, runI (argsI L ++ R) Es cur = runI R Es (cur ++ L.map fun x => q16 x * 65536) := by
  induction L with
  | nil => intro cur; simp [argsI]
  | cons x L ih =>
    intro cur
    have e : runI (argsI (x :: L) ++ R) Es cur = runI (argsI L ++ R) Es (cur ++ [q16 x * 65536]) := rfl
    rw [e, ih]
    simp
theorem ok_items {Es : List Ent} (h : Es.all mayQ = true) : okI (itemsE Es) [] := by
  induction Es with
  | nil => trivial
  | cons q Es ih =>
    simp only [List.all_cons, Bool.and_eq_true] at h
    have hq := h.1
    have hm : mayE q.1 q.2 = true := hq
    have e : itemsE (q :: Es) = argsI q.2 ++ (It.op q.1 :: itemsE Es) := by simp [itemsE]
    rw [e]
    refine okI_args (fun x hx => may_arg hm hx) (by simpa using mayE_len hm) ⟨?_, ih h.2⟩
    unfold mayE at hm
    simp only [Bool.and_eq_true] at hm
    exact hm.1.1
theorem run_items {Es : List Ent} (h : Es.all mayQ = true) (hi : ∀ q ∈ Es, ∀ x ∈ q.2, In64 x) : ∀ pre : List Ent, runI (itemsE Es) pre [] = (pre ++ Es, []) := by
  induction Es with
  | nil => intro pre; simp [itemsE, runI]
  | cons q Es ih =>
    intro pre
    simp only [List.all_cons, Bool.and_eq_true] at h
    have hm : mayE q.1 q.2 = true := h.1
    have e : itemsE (q :: Es) = argsI q.2 ++ (It.op q.1 :: itemsE Es) := by simp [itemsE]
    have e2 : (q.2.map fun x => q16 x * 65536) = q.2 := by
      have h2 : q.2.all wholeB = true := by
        unfold mayE at hm
        simp only [Bool.and_eq_true] at hm
        exact hm.2
      have h3 : (q.2.map fun x => q16 x * 65536) = q.2.map id := List.map_congr_left fun x hx => q16_back (List.all_eq_true.1 h2 x hx) (hi q (by simp) x hx)
      rw [h3, List.map_id]
    rw [e, runI_args, e2]
    show runI (itemsE Es) (pre ++ [(q.1, [] ++ q.2)]) [] = _
    rw [ih h.2 (fun p hp => hi p (by simp [hp]))]
    simp
end Go.Proofs.YthoocoaalbeopaaDoor
