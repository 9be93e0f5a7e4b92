/- Part 8 of the proof: IxT, IxW, IxX, IxI. -/
import Derived.RangeFuncKeeps
import Derived.RangeFuncCalls
import Derived.RangeFuncLeaves
import Derived.RangeFuncFrom
import Derived.RangeFuncNested
import Derived.RangeFuncBound
import Derived.Shelf.Abstract
import Derived.Shelf.RegionOpen
import Derived.WalkKit
import Derived.OwnWalkIn
import Derived.TacticsInMore
import Derived.LoopNIn
import Derived.LoopIn
import Derived.Lib.SlBytesConst
import Derived.Test.YtpaenjalpcdamaaCIx6

namespace Go.Proofs.Ytpaenjalpcdamaa
open Go Go.RowKit Go.Shelf
set_option linter.unusedVariables false
set_option linter.unusedSimpArgs false

/-- The list k of an Index. -/
def lstAt (os : List Nat) (D : List Value) (k : Nat) : List Value := (D.drop (os.getD k 0)).take (os.getD (k + 1) 0 - os.getD k 0)
/-- What a round is handed: its number; a slice, by what it shows, where it lies, its room. -/
abbrev Got1 := Nat × List Value × Option Addr × Nat
def CIx (os : List Nat) (D : List Value) (pre : List Got1) (x : Got1) (W : World) : Prop :=
  x.1 = pre.length ∧ x.1 < os.length - 1 ∧ x.2.1 = lstAt os D x.1 ∧ Hid (Lists W W.heap.size x.2.2.1 x.2.1)
theorem lists_grown {X Y : World} {row : Option Nat} {A : Option Addr} {E : List Value} (h : Lists X X.heap.size A E) (hg : X.grownBy Y row) (hr : ∀ r, row = some r → ∃ o : Obj, X.heap[r]? = some o ∧ o.isCells = false) : Lists Y Y.heap.size A E :=
  ⟨h.nil, fun a ha j u hu => cell_kept (h.cell a ha j u hu) hg hr, fun a ha hx => Nat.lt_of_lt_of_le (h.lt a ha hx) hg.size⟩
theorem own_cIx (B : Nat) (os : List Nat) (D : List Value) (pre : List Got1) : OwnFrom B (CIx os D pre) := fun x X Y row hs hg hr =>
  ⟨hs.1, hs.2.1, hs.2.2.1, lists_grown hs.2.2.2.out hg (fun r e => (hr r e).2)⟩
theorem grown_ofI {X Y : World} (h : Below X.heap.size X Y) : X.grownBy Y none := ⟨h.os, h.tape, h.output, h.size, fun k hk _ => h.block k hk⟩

attribute [local go_sem] Oper.semAt_some
set_option maxRecDepth 100000 in
set_option maxHeartbeats 1000000 in
theorem all_stops (Bx z p B : Nat) (os : List Nat) (D : List Value) (size : Int) (w0 : World) (hbx : w0.cell? ⟨Bx, 0, none⟩ = some (.pointer (some ⟨p, 0, none⟩))) (hB : Bx < z) (hz : z ≤ w0.heap.size) (hBz : B ≤ z)
    (hI : IxAt w0 p B os D size) (hn : os.length ≤ 100001) (hO : ∀ k, k + 1 < os.length → ∃ a b, os[k]? = some a ∧ os[k + 1]? = some b ∧ a ≤ b ∧ b ≤ D.length) :
    SeqC Fence.wide 2 Try.prog 32 #[.pointer (some ⟨Bx, 0, none⟩)] (fun x : Got1 => #[.int .i64 x.1, .slice x.2.2.1 x.2.1.length x.2.2.2]) (CIx os D) (Below z) (fun xs => xs.length = os.length - 1) (fun _ => True) w0 := by
  intro l J Jx W hW hJ hJx hY h0
  have HCX := Lib.hid (show ∀ V, Below z W V → V.cell? ⟨Bx, 0, none⟩ = some (.pointer (some ⟨p, 0, none⟩)) ∧ Bx < V.heap.size from fun V hV =>
    ⟨((hV.cell (p := ⟨Bx, 0, none⟩) hB).trans (hW.cell (p := ⟨Bx, 0, none⟩) (by simp; omega))).trans hbx, by have := hV.size; have := hW.size; omega⟩)
  have HIX := Lib.hid (show ∀ V, Below z W V → IxAt V p B os D size from fun V hV => (hI.below (hW.mono (by omega))).below (hV.mono hBz))
  have hsw := hW.size
  have HAT := Lib.hid (show ∀ V, Below z W V → ∀ k, k + 1 < os.length → Calls Try.prog 15 #[.pointer (some ⟨p, 0, none⟩), .int .i64 (k : Nat)] V (GotB V (lstAt os D k)) from fun V hV k hk => by
    obtain ⟨a, b, ha, hb, h1, h2⟩ := hO k hk
    have h := ixat_any p B os D size k a b V (HIX.out V hV) (by have := hV.size; omega) (by omega) ha hb h1 h2
    unfold lstAt
    rw [List.getD_eq_getElem?_getD, List.getD_eq_getElem?_getD, ha, hb]
    exact h)
  have CL := fun V hV => ixlen_any p B os D size V (HIX.out V hV) (by omega)
  obtain ⟨n, hnn⟩ : ∃ n, os.length - 1 = n := ⟨_, rfl⟩
  have hn2 : n ≤ 100000 := by omega
  have HK := Lib.hid (show ∀ k, k < n → k + 1 < os.length from fun k hk => by omega)
  have HN := Lib.hid hnn
  rw [hnn] at CL
  obtain ⟨c0, l0⟩ := HCX.out W (Below.refl _ _)
  clear hbx hI hO hnn
  refine callsIn_of_wp Try.func32 rfl trivial ?_ rfl
  simp only [Try.ntmps32, List.size_toArray, List.length_cons, List.length_nil, Nat.reduceAdd, Nat.reduceSub, Array.replicate_succ, Array.replicate_zero, List.push_toArray, List.append_toArray, List.nil_append, List.cons_append]
  gi_wp2_with (refine ⟨trivial, ?_⟩; gi_at_call 16; ((refine (callsIn_wide.2 (CL _ (Below.refl _ _))).mono ?_); rintro e w3 ⟨rfl, rfl⟩))
  gi_loopw [8] (fun i wr => ∃ pre : List Got1, pre.length ≤ n ∧ i = .int .i64 pre.length ∧ J pre wr ∧ Below z w3 wr) (fun i _ => n - (intOf i).toNat)
  case atStart => exact ⟨[], Nat.zero_le _, rfl, h0, Below.refl _ _⟩
  case round =>
    obtain ⟨pre, hk, rfl, hJk, hb⟩ := hrel
    obtain ⟨k, hpk⟩ : ∃ k, pre.length = k := ⟨_, rfl⟩
    have HPK := Lib.hid hpk
    rw [hpk] at hk
    have hsz := hb.size
    obtain ⟨c1, l1⟩ := HCX.out wr hb
    clear c0 l0 h0
    by_cases hlt : k < n
    · have d1 : pre.length < n := by rw [hpk]; exact hlt
      have CA := HAT.out wr hb k (HK.out k hlt)
      rw [← hpk] at CA
      clear hpk
      gi_wp2_with (refine ⟨trivial, ?_⟩; first
        | (gi_at_call 15; ((refine (callsIn_wide.2 CA).mono ?_); rintro e w4 ⟨A, c, rfl, hl, b4⟩; obtain ⟨fn, tmps, assign, body, hy, hRd⟩ := hY pre (pre.length, lstAt os D pre.length, A, c) w4 (hJ _ _ _ hJk b4) ⟨rfl, by rw [HN.out, HPK.out]; exact hlt, rfl, hl⟩)))
      refine hRd.mono ?_
      rintro e V (⟨rfl, hJ3, lv⟩ | ⟨rfl, hJx3⟩)
      · gi_wp2
        go_roundw
        case rel => exact ⟨_, by rw [List.length_append, HPK.out]; simp; omega, by rw [List.length_append]; go_num, hJ3, (hb.trans (b4.mono (by omega))).trans lv⟩
        case measure => simp [intOf]; omega
      · gi_wp2
        refine bodyPost_ret (results_none rfl _ _ _) rfl ?_
        exact ⟨⟨_, rfl⟩, .inr ⟨_, trivial, hJx3⟩⟩
    · have d1 : ¬ pre.length < n := by rw [hpk]; exact hlt
      gi_wp2
      go_end0
      exact ⟨⟨_, rfl⟩, .inl ⟨pre, by rw [HN.out, HPK.out]; omega, hJk⟩⟩
end Go.Proofs.Ytpaenjalpcdamaa

namespace Go.Proofs.Ytpaenjalpcdamaa
open Go Go.RowKit
set_option linter.unusedVariables false
set_option linter.unusedSimpArgs false

theorem byteAt_part (E : List Value) (mm i : Nat) (h : i < mm) : byteAt ((E.drop 3).take mm) i = byteAt E (3 + i) := by
  unfold byteAt
  simp only [List.getD_eq_getElem?_getD, List.getElem?_take, List.getElem?_drop, if_pos h]
theorem rdB_part (E : List Value) (mm : Nat) : ∀ n k, k + n ≤ mm → rdB ((E.drop 3).take mm) n k = rdn E n (3 + k)
  | 0, k, _ => rfl
  | n + 1, k, h => by
    show rdB _ n k * 256 + byteAt _ (k + n) = rdn E n (3 + k) * 256 + byteAt E (3 + k + n)
    rw [rdB_part E mm n k (by omega), byteAt_part E mm (k + n) (by omega), Nat.add_assoc]
/-- An Index' lists. -/
def lsts (os : List Nat) (D : List Value) : List (List Value) := (List.range (os.length - 1)).map (lstAt os D)
def RLd (w : World) (r : Option (List Nat × List Value × Nat)) (e : Ending) (w' : World) : Prop :=
  match r with
  | none => (∃ s, e = .returned (.tuple #[.slice none 0 0, .int .i64 s, .bool false])) ∧ Below w.heap.size w w'
  | some (os, D, s) => ∃ A c, e = .returned (.tuple #[.slice A (lsts os D).length c, .int .i64 (s : Nat), .bool true]) ∧ RowsAt w' w'.heap.size A (lsts os D) ∧ Below w.heap.size w w'
set_option maxRecDepth 100000 in
set_option maxHeartbeats 4000000 in
theorem rl_zero (A : Option Addr) (c n : Nat) (E : List Value) (w : World) (hE : Lists w w.heap.size A E) (h8 : Bytes8 E) (hc : n ≤ c) (hc2 : c ≤ 9223372036854775807) (hm : n ≤ 20000) (hL : E.length = n) (u : Bool) (hu : decide (n < 2) = u) (CIx : rsn E 2 0 (rdn E 2 0) = 0) :
    Calls Try.prog 9 #[.slice A n c] w fun e w' => e = .returned (.tuple #[.slice none 0 0, .int .i64 2, .bool (!u)]) ∧ Below w.heap.size w w' := by
  have al : Below w.heap.size w (w.alloc (.cells #[.slice A n c, .int .i64 0, .bool false] 57)) := (Below.refl _ _).alloc (Nat.le_refl _) _
  have r0 : RR (w.alloc (.cells #[.slice A n c, .int .i64 0, .bool false] 57)) w.heap.size w.heap.size E 0 := .inl ⟨Nat.zero_le _, A, c, by rw [hL]; exact Blk.new _ _ _, hE.below al, h8, Nat.zero_le _, by omega, hc2, by omega, Nat.le_refl _⟩
  have CI : ∀ W, RR W w.heap.size w.heap.size E 0 → Calls Try.prog 25 #[.pointer (some ⟨w.heap.size, 0, none⟩), .int .i64 2] W (RReadS W w.heap.size w.heap.size E (0 + 2) (0 : Nat)) := fun W r => by have k := rr_un _ _ E 0 2 W r (by decide) (by decide); rw [CIx] at k; exact k
  have HL := Lib.hid hL
  have HF := Lib.hid hu
  clear hE hc hc2 hm hL hu CIx h8
  cases u
  all_goals
    go_enter Try.func9, Try.ntmps9
    go_wp2_with (first | (go_at_call 25; ((with_reducible refine (CI _ r0).mono ?_); rintro e w1 ⟨rfl, r1, o1⟩; have B1 := al.trans (o1.to_below al.size (by simp)); have s1 := o1.size; simp only [World.size_alloc] at s1; have fl := r1.flag; rw [HL.out, HF.out] at fl)))
    have hI : Below w1.heap.size w1 w1.drew := (Below.refl _ _).drew
    have hp1 : w.heap.size < w1.heap.size := by omega
    refine wp_region_chain (fun V => Below w1.heap.size w1 V) [(0, false), (1, false), (2, false), (3, false), (4, false), (5, false), (6, false), (7, false)] (by kernel_rfl) (by kernel_rfl) (hI) ?_
    repeat (first
      | (refine ChainL.skip (o := ?_) ?_ ?_ ?_; rotate_left; (focus (first | (simp only [List.getElem?_toArray, List.getElem?_cons_succ, List.getElem?_cons_zero]; with_reducible rfl) | (simp only [List.getElem?_toArray, List.getElem?_cons_zero]; with_reducible rfl))); (focus rfl); simp only [Act.put, List.setIfInBounds_toArray, List.set_cons_zero, List.set_cons_succ])
      | (refine ChainL.val (o := ?_) (v := ?_) ?_ ?_ ?_ ?_ ?_; rotate_left 2; (focus (first | (simp only [List.getElem?_toArray, List.getElem?_cons_succ, List.getElem?_cons_zero]; with_reducible rfl) | (simp only [List.getElem?_toArray, List.getElem?_cons_zero]; with_reducible rfl))); (focus (intro _ _ h; cases h)); (focus rfl); (focus (intro w' hI; have g := (hI.cell (p := ⟨w.heap.size, 2, none⟩) (by omega)).trans fl; go_simp <;> with_reducible rfl)); simp only [Act.put, List.setIfInBounds_toArray, List.set_cons_zero, List.set_cons_succ]))
    refine ChainL.nil ?_
    go_wp2
    exact bodyPost_ret (v := .tuple #[.slice none 0 0, .int .i64 2, .bool _]) (by simp [results, Try.results9, go_sem]) rfl ⟨rfl, B1.drew⟩
set_option maxRecDepth 100000 in
set_option maxHeartbeats 4000000 in
theorem rl_bad (A : Option Addr) (c n : Nat) (E : List Value) (w : World) (hE : Lists w w.heap.size A E) (h8 : Bytes8 E) (hc : n ≤ c) (hc2 : c ≤ 9223372036854775807) (hm : n ≤ 20000) (hL : E.length = n) (x y : Nat) (CIx : rsn E 2 0 (rdn E 2 0) = x) (hx0 : x ≠ 0) (hxb : x < 65536) (hf : decide (n < 2) = false) (CJx : rsn E 1 2 (rdn E 1 2) = y) (hyb : y < 256) (g : Bool) (hg : decide (n < 3) = g) (hbad : g = true ∨ y < 1 ∨ 4 < y ∨ n < 3 + (x + 1) * y) :
    Calls Try.prog 9 #[.slice A n c] w fun e w' => e = .returned (.tuple #[.slice none 0 0, .int .i64 0, .bool false]) ∧ Below w.heap.size w w' := by
  have al : Below w.heap.size w (w.alloc (.cells #[.slice A n c, .int .i64 0, .bool false] 57)) := (Below.refl _ _).alloc (Nat.le_refl _) _
  have r0 : RR (w.alloc (.cells #[.slice A n c, .int .i64 0, .bool false] 57)) w.heap.size w.heap.size E 0 := .inl ⟨Nat.zero_le _, A, c, by rw [hL]; exact Blk.new _ _ _, hE.below al, h8, Nat.zero_le _, by omega, hc2, by omega, Nat.le_refl _⟩
  have CI : ∀ W, RR W w.heap.size w.heap.size E 0 → Calls Try.prog 25 #[.pointer (some ⟨w.heap.size, 0, none⟩), .int .i64 2] W (RReadS W w.heap.size w.heap.size E (0 + 2) (x : Nat)) := fun W r => by have k := rr_un _ _ E 0 2 W r (by decide) (by decide); rw [CIx] at k; exact k
  have CJ : ∀ W, RR W w.heap.size w.heap.size E 2 → Calls Try.prog 25 #[.pointer (some ⟨w.heap.size, 0, none⟩), .int .i64 1] W (RReadS W w.heap.size w.heap.size E (0 + 2 + 1) (y : Nat)) := fun W r => by have k := rr_un _ _ E 2 1 W r (by decide) (by decide); rw [CJx] at k; exact k
  have HL := Lib.hid hL
  have HF := Lib.hid hf
  have HG := Lib.hid hg
  clear hE hc hc2 hL hf CIx CJx h8
  have dx : ((x : Int) == 0) = false := by simp; omega
  have dx1 : ¬ (x : Int) = 0 := by omega
  cases g
  · have hn3 : 3 ≤ n := by have := of_decide_eq_false hg; omega
    clear hg
    by_cases h1 : y < 1
    · have d1 : (y : Int) < 1 := by omega
      clear hbad h1
      go_enter Try.func9, Try.ntmps9
      go_wp2_with (first | (go_at_call 25; ((with_reducible refine (CI _ r0).mono ?_); rintro e w1 ⟨rfl, r1, o1⟩; have B1 := al.trans (o1.to_below al.size (by simp)); have s1 := o1.size; simp only [World.size_alloc] at s1; have fl := r1.flag; rw [HL.out, HF.out] at fl)) | (go_at_call 25; ((with_reducible refine (CJ _ r1).mono ?_); rintro e w2 ⟨rfl, r2, o2⟩; have B2 := B1.trans (o2.to_below B1.size (by simp)); have s2 := Nat.le_trans s1 o2.size; have fl2 := r2.flag; rw [HL.out, HG.out] at fl2)))
      exact bodyPost_ret (v := .tuple #[.slice none 0 0, .int .i64 0, .bool false]) (by simp [results, Try.results9, go_sem]) rfl ⟨rfl, B2⟩
    · have d1 : ¬ (y : Int) < 1 := by omega
      by_cases h4 : 4 < y
      · have d4 : (y : Int) > 4 := by omega
        clear hbad h1 h4
        go_enter Try.func9, Try.ntmps9
        go_wp2_with (first | (go_at_call 25; ((with_reducible refine (CI _ r0).mono ?_); rintro e w1 ⟨rfl, r1, o1⟩; have B1 := al.trans (o1.to_below al.size (by simp)); have s1 := o1.size; simp only [World.size_alloc] at s1; have fl := r1.flag; rw [HL.out, HF.out] at fl)) | (go_at_call 25; ((with_reducible refine (CJ _ r1).mono ?_); rintro e w2 ⟨rfl, r2, o2⟩; have B2 := B1.trans (o2.to_below B1.size (by simp)); have s2 := Nat.le_trans s1 o2.size; have fl2 := r2.flag; rw [HL.out, HG.out] at fl2)))
        exact bodyPost_ret (v := .tuple #[.slice none 0 0, .int .i64 0, .bool false]) (by simp [results, Try.results9, go_sem]) rfl ⟨rfl, B2⟩
      · have d4 : ¬ (y : Int) > 4 := by omega
        have hmm : n < 3 + (x + 1) * y := by rcases hbad with h | h | h | h; cases h; omega; omega; exact h
        obtain ⟨mm, hmi⟩ : ∃ mm : Nat, (x + 1) * y = mm := ⟨_, rfl⟩
        have hmb : mm ≤ 262144 := by rw [← hmi]; exact Nat.le_trans (Nat.mul_le_mul (show x + 1 ≤ 65536 by omega) (show y ≤ 4 by omega)) (by decide)
        rw [hmi] at hmm
        have e1 : ((x : Int) + 1) * (y : Int) = (mm : Int) := by rw [← hmi]; push_cast; rfl
        have d5 : (mm : Int) > (n : Int) - 3 := by omega
        have HM := Lib.hid hmi
        clear hbad h1 h4 hmi hmm
        go_enter Try.func9, Try.ntmps9
        go_wp2_with (first | (go_at_call 25; ((with_reducible refine (CI _ r0).mono ?_); rintro e w1 ⟨rfl, r1, o1⟩; have B1 := al.trans (o1.to_below al.size (by simp)); have s1 := o1.size; simp only [World.size_alloc] at s1; have fl := r1.flag; rw [HL.out, HF.out] at fl)) | (go_at_call 25; ((with_reducible refine (CJ _ r1).mono ?_); rintro e w2 ⟨rfl, r2, o2⟩; have B2 := B1.trans (o2.to_below B1.size (by simp)); have s2 := Nat.le_trans s1 o2.size; have fl2 := r2.flag; rw [HL.out, HG.out] at fl2)))
        exact bodyPost_ret (v := .tuple #[.slice none 0 0, .int .i64 0, .bool false]) (by simp [results, Try.results9, go_sem]) rfl ⟨rfl, B2⟩
  · clear hbad hg
    go_enter Try.func9, Try.ntmps9
    go_wp2_with (first | (go_at_call 25; ((with_reducible refine (CI _ r0).mono ?_); rintro e w1 ⟨rfl, r1, o1⟩; have B1 := al.trans (o1.to_below al.size (by simp)); have s1 := o1.size; simp only [World.size_alloc] at s1; have fl := r1.flag; rw [HL.out, HF.out] at fl)) | (go_at_call 25; ((with_reducible refine (CJ _ r1).mono ?_); rintro e w2 ⟨rfl, r2, o2⟩; have B2 := B1.trans (o2.to_below B1.size (by simp)); have s2 := Nat.le_trans s1 o2.size; have fl2 := r2.flag; rw [HL.out, HG.out] at fl2)))
    exact bodyPost_ret (v := .tuple #[.slice none 0 0, .int .i64 0, .bool false]) (by simp [results, Try.results9, go_sem]) rfl ⟨rfl, B2⟩
theorem offI_part (E : List Value) (x y mm j : Nat) (hmm : (x + 1) * y = mm) (hj : j ≤ x) : offI ((E.drop 3).take mm) y j = ((rdn E y (3 + j * y) : Nat) : Int) - 1 := by
  unfold offI
  rw [rdB_part E mm y (j * y)]
  have : (j + 1) * y ≤ (x + 1) * y := Nat.mul_le_mul_right _ (by omega)
  rw [Nat.add_mul, Nat.one_mul, hmm] at this
  omega
theorem okO_zero (E2 : List Value) (y X0 : Nat) (h : offI E2 y 0 = (X0 : Int) - 1) : okO E2 y 0 = decide (X0 = 1) := by
  unfold okO
  rw [decide_eq_decide, show lastO E2 y 0 = 0 from rfl, h]
  constructor
  · intro k
    have k1 : ¬ ((X0 : Int) - 1 ≠ 0) := fun k2 => k (.inr ⟨rfl, k2⟩)
    omega
  · intro k
    subst k
    rintro (k | ⟨_, k⟩)
    · omega
    · exact k rfl
theorem okO_succ (E2 : List Value) (y k X0 X1 : Nat) (h : offI E2 y k = (X0 : Int) - 1) (h1 : offI E2 y (k + 1) = (X1 : Int) - 1) : okO E2 y (k + 1) = decide (¬ X1 < X0) := by
  unfold okO
  rw [decide_eq_decide]
  simp only [lastO, h, h1]
  omega
theorem okOs_step (E2 : List Value) (y j : Nat) (h : okOs E2 y j = true) (hj : okO E2 y j = true) : okOs E2 y (j + 1) = true := by
  unfold okOs at h ⊢
  rw [List.range_succ, List.all_append, h]
  simp [hj]
theorem okOs_not (E2 : List Value) (y m j : Nat) (hm : j < m) (hj : okO E2 y j = false) : okOs E2 y m = false := by
  refine Bool.eq_false_iff.2 fun h => ?_
  have := List.all_eq_true.1 h j (List.mem_range.2 hm)
  rw [hj] at this
  cases this
/-- The offsets that the reference reads. -/
def offX (E : List Value) (y m : Nat) : List Value := (List.range m).map fun j => .int .i64 ((rdn E y (3 + j * y) : Nat) : Int)
theorem offX_snoc (E : List Value) (y j : Nat) : offX E y (j + 1) = offX E y j ++ [.int .i64 ((rdn E y (3 + j * y) : Nat) : Int)] := by
  unfold offX
  rw [List.range_succ, List.map_append]
  rfl
theorem offX_at (E : List Value) (y m j : Nat) (h : j < m) : (offX E y m)[j]? = some (.int .i64 ((rdn E y (3 + j * y) : Nat) : Int)) := by
  unfold offX
  simp [h]
theorem RR.at {w : World} {B p k : Nat} {bs : List Value} (h : RR w B p bs k) (hk : k ≤ bs.length) : w.cell? ⟨p, 1, none⟩ = some (.int .i64 (k : Nat)) := by
  rcases h with ⟨h1, _, _, hb, _⟩ | ⟨h1, _⟩
  · exact hb.cell 1
  · omega
theorem lsts_len (os : List Nat) (D : List Value) (x : Nat) (h : os.length = x + 1) : (lsts os D).length = x := by unfold lsts; simp [h]
/-- What the reference cuts out is the list. -/
theorem lst_cut (E : List Value) (x y mm ln i : Nat) (hmm : (x + 1) * y = mm) (hok : okOs ((E.drop 3).take mm) y (x + 1) = true) (hi : i < x) (hln : offI ((E.drop 3).take mm) y x = (ln : Int)) :
    rdn E y (3 + i * y) ≤ rdn E y (3 + (i + 1) * y) ∧ 1 ≤ rdn E y (3 + i * y) ∧ rdn E y (3 + (i + 1) * y) ≤ ln + 1 ∧
    (lsts (osN ((E.drop 3).take mm) y (x + 1)) ((E.drop (3 + mm)).take ln))[i]? = some ((E.drop (2 + mm + rdn E y (3 + i * y))).take (rdn E y (3 + (i + 1) * y) - rdn E y (3 + i * y))) := by
  have h0 := offs_ge ((E.drop 3).take mm) y (x + 1) hok i (by omega)
  have h1 := offs_ge ((E.drop 3).take mm) y (x + 1) hok (i + 1) (by omega)
  have h2 := offs_ge ((E.drop 3).take mm) y (x + 1) hok x (by omega)
  have a := h1.2 i (by omega)
  have b : offI ((E.drop 3).take mm) y (i + 1) ≤ offI ((E.drop 3).take mm) y x := by
    rcases Nat.lt_or_ge (i + 1) x with h | h
    · exact h2.2 _ h
    · have : i + 1 = x := by omega
      rw [this]
      exact Int.le_refl _
  have c := h0.1
  have e0 := offI_part E x y mm i hmm (by omega)
  have e1 := offI_part E x y mm (i + 1) hmm (by omega)
  have g0 : (osN ((E.drop 3).take mm) y (x + 1))[i]? = some (rdn E y (3 + i * y) - 1) := by
    unfold osN
    rw [List.getElem?_map, List.getElem?_range (by omega), Option.map_some, e0]
    congr 1
    omega
  have g1 : (osN ((E.drop 3).take mm) y (x + 1))[i + 1]? = some (rdn E y (3 + (i + 1) * y) - 1) := by
    unfold osN
    rw [List.getElem?_map, List.getElem?_range (by omega), Option.map_some, e1]
    congr 1
    omega
  rw [hln] at b
  rw [e0] at a c
  rw [e1] at a b
  generalize rdn E y (3 + i * y) = u at *
  generalize rdn E y (3 + (i + 1) * y) = v at *
  refine ⟨by omega, by omega, by omega, ?_⟩
  unfold lsts
  rw [List.getElem?_map, List.getElem?_range (by unfold osN; simp; omega), Option.map_some]
  unfold lstAt
  rw [List.getD_eq_getElem?_getD, List.getD_eq_getElem?_getD, g0, g1]
  simp only [Option.getD_some]
  congr 1
  rw [List.drop_take, List.drop_drop, List.take_take]
  congr 1
  · omega
  · congr 1
    omega

end Go.Proofs.Ytpaenjalpcdamaa

namespace Go.Proofs.Ytpaenjalpcdamaa
open Go Go.RowKit
set_option linter.unusedVariables false
set_option linter.unusedSimpArgs false

theorem bytes8_one {M : List Value} (h : Bytes8 M) : ∀ u ∈ M, u.oneCell' = true := fun u hu => by
  obtain ⟨k, _, rfl⟩ := h u hu
  rfl
theorem rsn_in {bs : List Value} {m k v : Nat} (h : k + m ≤ bs.length) : rsn bs m k v = v := by unfold rsn; rw [if_pos h]
set_option maxRecDepth 100000 in
set_option maxHeartbeats 4000000 in
theorem rl_ok (A : Option Addr) (c n : Nat) (E : List Value) (w : World) (hE : Lists w w.heap.size A E) (h8 : Bytes8 E) (hc : n ≤ c) (hc2 : c ≤ 9223372036854775807) (hm : n ≤ 20000) (hL : E.length = n) (x y mm : Nat) (CIx : rsn E 2 0 (rdn E 2 0) = x) (hx0 : x ≠ 0) (hxb : x < 65536) (CJx : rsn E 1 2 (rdn E 1 2) = y) (hy1 : 1 ≤ y) (hy4 : y ≤ 4) (hmm : (x + 1) * y = mm) (hfit : 3 + mm ≤ n) :
    Calls Try.prog 9 #[.slice A n c] w (RLd w (ldX E)) := by
  have al : Below w.heap.size w (w.alloc (.cells #[.slice A n c, .int .i64 0, .bool false] 57)) := (Below.refl _ _).alloc (Nat.le_refl _) _
  have r0 : RR (w.alloc (.cells #[.slice A n c, .int .i64 0, .bool false] 57)) w.heap.size w.heap.size E 0 := .inl ⟨Nat.zero_le _, A, c, by rw [hL]; exact Blk.new _ _ _, hE.below al, h8, Nat.zero_le _, by omega, hc2, by omega, Nat.le_refl _⟩
  have CI : ∀ W, RR W w.heap.size w.heap.size E 0 → Calls Try.prog 25 #[.pointer (some ⟨w.heap.size, 0, none⟩), .int .i64 2] W (RReadS W w.heap.size w.heap.size E (0 + 2) (x : Nat)) := fun W r => by have k := rr_un _ _ E 0 2 W r (by decide) (by decide); rw [CIx] at k; exact k
  have CJ : ∀ W, RR W w.heap.size w.heap.size E 2 → Calls Try.prog 25 #[.pointer (some ⟨w.heap.size, 0, none⟩), .int .i64 1] W (RReadS W w.heap.size w.heap.size E (0 + 2 + 1) (y : Nat)) := fun W r => by have k := rr_un _ _ E 2 1 W r (by decide) (by decide); rw [CJx] at k; exact k
  have hx2 : rd2 E 0 = x := by rw [rsn_in (by omega), rdn_two] at CIx; exact CIx
  have hy2 : byteAt E 2 = y := by
    have h1 : 1 ≤ x + 1 := by omega
    have : x + 1 ≤ mm := by rw [← hmm]; exact Nat.le_mul_of_pos_right _ (by omega)
    rw [rsn_in (by omega), rdn_one] at CJx; exact CJx
  obtain ⟨E2, hE2⟩ : ∃ E2, (E.drop 3).take mm = E2 := ⟨_, rfl⟩
  have hld : ldX E = if okOs E2 y (x + 1) = true ∧ 3 + mm + (offI E2 y x).toNat ≤ n then some (osN E2 y (x + 1), (E.drop (3 + mm)).take (offI E2 y x).toNat, 3 + mm + (offI E2 y x).toNat) else none := by
    unfold ldX
    rw [if_neg (by omega), hx2, if_neg hx0, hy2]
    simp only [hmm, hE2, hL]
    congr 1
    rw [eq_iff_iff]
    exact ⟨fun h => h.2.2.2, fun h => ⟨hy1, hy4, hfit, h⟩⟩
  obtain ⟨R, hR⟩ : ∃ R, R = ldX E := ⟨_, rfl⟩
  rw [← hR] at hld ⊢
  have hno : okOs E2 y (x + 1) = false → ∀ W, Below w.heap.size w W → RLd w R (.returned (.tuple #[.slice none 0 0, .int .i64 0, .bool false])) W := fun h W hb => by
    rw [hld, if_neg (by rw [h]; simp)]
    exact ⟨⟨0, rfl⟩, hb⟩
  have hfar : ∀ ln : Nat, offI E2 y x = ln → n < 3 + mm + ln → ∀ W, Below w.heap.size w W → RLd w R (.returned (.tuple #[.slice none 0 0, .int .i64 0, .bool false])) W := fun ln h1 h2 W hb => by
    rw [hld, h1, if_neg (by rw [Int.toNat_natCast]; omega)]
    exact ⟨⟨0, rfl⟩, hb⟩
  have hyes : ∀ ln : Nat, offI E2 y x = ln → okOs E2 y (x + 1) = true → 3 + mm + ln ≤ n → ∀ A c W, RowsAt W W.heap.size A (lsts (osN E2 y (x + 1)) ((E.drop (3 + mm)).take ln)) → Below w.heap.size w W → RLd w R (.returned (.tuple #[.slice A x c, .int .i64 ((3 + mm + ln : Nat) : Int), .bool true])) W := fun ln h1 h0 h2 A c W hr hb => by
    rw [hld, h1, Int.toNat_natCast, if_pos ⟨h0, h2⟩]
    exact ⟨A, c, by rw [lsts_len _ _ x (by unfold osN; simp)], hr, hb⟩
  have hOI : ∀ j, j ≤ x → offI E2 y j = ((rdn E y (3 + j * y) : Nat) : Int) - 1 := fun j hj => by rw [← hE2]; exact offI_part E x y mm j hmm hj
  have hcut : okOs E2 y (x + 1) = true → ∀ ln : Nat, offI E2 y x = ln → ∀ i, i < x → rdn E y (3 + i * y) ≤ rdn E y (3 + (i + 1) * y) ∧ 1 ≤ rdn E y (3 + i * y) ∧ rdn E y (3 + (i + 1) * y) ≤ ln + 1 ∧
      (lsts (osN E2 y (x + 1)) ((E.drop (3 + mm)).take ln))[i]? = some ((E.drop (2 + mm + rdn E y (3 + i * y))).take (rdn E y (3 + (i + 1) * y) - rdn E y (3 + i * y))) := fun h0 ln h1 i hi => by
    rw [← hE2] at h0 h1 ⊢
    exact lst_cut E x y mm ln i hmm h0 hi h1
  have hge : okOs E2 y (x + 1) = true → 0 ≤ offI E2 y x := fun h => (offs_ge E2 y (x + 1) h x (by omega)).1
  have hmb : mm ≤ 262144 := by rw [← hmm]; exact Nat.le_trans (Nat.mul_le_mul (show x + 1 ≤ 65536 by omega) hy4) (by decide)
  have e1 : ((x : Int) + 1) * (y : Int) = (mm : Int) := by rw [← hmm]; push_cast; rfl
  have hrow : ∀ j, j ≤ x → 3 + j * y + y ≤ n := fun j hj => by
    have : (j + 1) * y ≤ (x + 1) * y := Nat.mul_le_mul_right _ (by omega)
    rw [Nat.add_mul, Nat.one_mul, hmm] at this
    omega
  have HL := Lib.hid hL
  have HF := Lib.hid (show decide (n < 2) = false by simp; omega)
  have HG := Lib.hid (show decide (n < 3) = false by simp; omega)
  have HMM := Lib.hid hmm
  have HNO := Lib.hid hno
  have HFAR := Lib.hid hfar
  have HYES := Lib.hid hyes
  have HOI := Lib.hid hOI
  have HCUT := Lib.hid hcut
  have HGE := Lib.hid hge
  have HRW := Lib.hid hrow
  have H8 := Lib.hid h8
  have HE := Lib.hid hE
  have HB := Lib.hid (fun k => rdn_lt h8 y k hy4)
  clear hE hL CIx CJx h8 hmm hno hfar hyes hOI hcut hge hrow hld hR hE2 hx2 hy2
  have dx : ((x : Int) == 0) = false := by simp; omega
  have dx1 : ¬ (x : Int) = 0 := by omega
  have d1 : ¬ (y : Int) < 1 := by omega
  have d4 : ¬ (y : Int) > 4 := by omega
  have d5 : ¬ (mm : Int) > (n : Int) - 3 := by omega
  obtain ⟨i0, hi, hz0, hz1, hz2⟩ := info_parts intInfoI
  obtain ⟨j0, hj, hw0, hw1, hw2⟩ := info_parts u8Info
  obtain ⟨k0, hk, hv0, hv1, hv2⟩ := info_parts rowInfoB
  go_enter Try.func9, Try.ntmps9
  go_wp2_with (first | (go_at_call 25; ((with_reducible refine (CI _ r0).mono ?_); rintro e w1 ⟨rfl, r1, o1⟩; have B1 := al.trans (o1.to_below al.size (by simp)); have s1 := o1.size; simp only [World.size_alloc] at s1; have fl := r1.flag; rw [HL.out, HF.out] at fl)) | (go_at_call 25; ((with_reducible refine (CJ _ r1).mono ?_); rintro e w2 ⟨rfl, r2, o2⟩; have B2 := B1.trans (o2.to_below B1.size (by simp)); have s2 := Nat.le_trans s1 o2.size; have fl2 := r2.flag; rw [HL.out, HG.out] at fl2)))
  have HBE := Lib.hid B2
  have HR2 := Lib.hid r2
  clear CI CJ r0 r1 r2 o1 o2 B1 B2 fl fl2 al s1
  go_loopw [8, 9] (fun ov iv wr => ∃ i : Nat, i ≤ x + 1 ∧ iv = .int .i64 (i : Nat) ∧ Hid (okOs E2 y i = true) ∧ wr.ownsRow (w.heap.size + 1) 3 1 ov i (offX E y i) ∧ RR wr w.heap.size w.heap.size E (3 + i * y) ∧ Below w.heap.size w wr ∧ w.heap.size + 1 ≤ wr.heap.size) (fun _ iv _ => x + 2 - (intOf iv).toNat)
  case atStart => exact ⟨0, by omega, rfl, Lib.hid rfl, World.ownsRow_nil _ _ _ _, by rw [Nat.zero_mul]; exact HR2.out, HBE.out, s2⟩
  case round =>
    obtain ⟨i, hix, rfl, hok, hown, hr, hbe, hsw⟩ := hrel
    clear s2
    have HBe := Lib.hid hbe
    clear hbe
    by_cases hlt : i ≤ x
    · have l1 : (i : Int) ≤ (x : Int) := by omega
      have CU := rr_un w.heap.size w.heap.size E (3 + i * y) y wr hr hy1 hy4
      rw [rsn_in (by rw [HL.out]; exact HRW.out i hlt)] at CU
      have hoi := HOI.out i hlt
      have hxb2 := HB.out (3 + i * y)
      have HSN := Lib.hid (offX_snoc E y i)
      have HM := Lib.hid (show 3 + i * y + y = 3 + (i + 1) * y by rw [Nat.add_mul, Nat.one_mul]; omega)
      obtain ⟨xi, hxi⟩ : ∃ xi, rdn E y (3 + i * y) = xi := ⟨_, rfl⟩
      have HXI := Lib.hid hxi
      rw [hxi] at CU hoi hxb2 HSN
      rw [HM.out] at CU
      clear hxi
      cases i with
      | zero =>
        have hoz := okO_zero E2 y xi hoi
        by_cases h1 : xi = 1
        · have HOK := Lib.hid (okOs_step E2 y 0 hok.out (by rw [hoz]; simpa using h1))
          subst h1
          clear hoz hoi
          generalize offX E y 0 = xs at *
          go_wp2_with (first
            | (go_at_call 25; ((with_reducible refine (CU).mono ?_); rintro e w3 ⟨rfl, r3, o3⟩; have own1 := own_only hown o3 (fun b hb e => by have := own_lowI hown b hb; simp at e; omega); have ow1 := own_only own1 ((Only.refl w3 []).alloc (.cells #[.int .i64 1] 3)) (fun _ _ h => (nomatch h)); have hs3 := o3.size; have B3 := HBe.out.trans (o3.to_below HBe.out.size (by simp)); have B4 := B3.alloc B3.size (.cells #[.int .i64 1] 3); have r4 := r3.below ((Below.refl _ _).alloc (Nat.le_refl _) (.cells #[.int .i64 1] 3)); skip))
            | (at_builtin; refine wpList_append_src _ rfl (.tmp 83) (.tmp 85) 48 rfl (w.heap.size + 1) 3 i0 (.int .i64 0) 1 8 Try.underlying48 hi hz0 hz1 hz2 rfl (by decide) u8 0 xs rfl ow1 (w3.heap.size + 1) (some ⟨w3.heap.size, 0, none⟩) 1 1 [.int .i64 1] (by rfl) (lists_row w3 [.int .i64 1] 3) rfl (by simp [Value.oneCell']) (by simp only [maxLen]; omega) (by omega) (by simp; omega) ?_; intro v5 w5 own5 hg5 hat5; have g3 : Only _ w5 (blk u8) := (Only.refl _ _).grown hg5 (fun b hb => .inl (by have hb' : u8.ownBlock = some b := hb; simp [blk, hb'])); have low8 := own_lowI ow1; have r5 := r4.other g3 (fun hm => by have := low8 _ hm; omega) (fun b hb => by have := low8 b hb; omega); have B5 := B4.trans (g3.to_below B4.size (fun b hb => by have := low8 b hb; omega)); have hs5 := g3.size; simp only [World.size_alloc] at hs5))
          go_roundw
          case rel => exact ⟨0 + 1, by omega, by go_num, HOK, by rw [HSN.out]; exact own5, r5, B5, by omega⟩
          case measure => first | (simp [intOf]; done) | (simp [intOf]; omega)
        · have HBad := Lib.hid (okOs_not E2 y (x + 1) 0 (by omega) (by rw [hoz]; simpa using h1))
          have t1 : ¬ (xi : Int) = 1 := by omega
          have t2 : ((xi : Int) != 1) = true := by simp; omega
          clear hoz hoi h1
          generalize offX E y 0 = xs at *
          go_wp2_with (first | (go_at_call 25; ((with_reducible refine (CU).mono ?_); rintro e w3 ⟨rfl, r3, o3⟩; have own1 := own_only hown o3 (fun b hb e => by have := own_lowI hown b hb; simp at e; omega); have ow1 := own_only own1 ((Only.refl w3 []).alloc (.cells #[.int .i64 (xi : Nat)] 3)) (fun _ _ h => (nomatch h)); have hs3 := o3.size; have B3 := HBe.out.trans (o3.to_below HBe.out.size (by simp)); have B4 := B3.alloc B3.size (.cells #[.int .i64 (xi : Nat)] 3); have r4 := r3.below ((Below.refl _ _).alloc (Nat.le_refl _) (.cells #[.int .i64 (xi : Nat)] 3)); skip)))
          exact bodyPost_ret (v := .tuple #[.slice none 0 0, .int .i64 0, .bool false]) (by simp [results, Try.results9, go_sem]) rfl (HNO.out HBad.out _ B3)
      | succ k =>
        have hoz := okO_succ E2 y k (rdn E y (3 + k * y)) xi (HOI.out k (by omega)) hoi
        obtain ⟨g, cap, cur, rfl, hg, hcur⟩ := own_blk hown
        have hck := hcur k _ (offX_at E y (k + 1) k (by omega))
        have hglow : w.heap.size + 1 ≤ g := own_lowI hown g (by simp [blk, Value.ownBlock])
        have hgl := hg.lt
        obtain ⟨xk, hxk⟩ : ∃ xk, rdn E y (3 + k * y) = xk := ⟨_, rfl⟩
        rw [hxk] at hoz hck
        have hckw : wr.cell? ⟨g, k, none⟩ = some (.int .i64 (xk : Int)) := by rw [hg.cell k]; simpa using hck
        have HKW := Lib.hid hckw
        have z1 : (((k : Int) + 1) == 0) = false := by simp; omega
        have z2 : (0 : Int) < (k : Int) + 1 := by omega
        have z3 : ¬ ((k : Int) + 1) = 0 := by omega
        clear hcur hck hg hckw hxk hoi
        by_cases h1 : xi < xk
        · have HBad := Lib.hid (okOs_not E2 y (x + 1) (k + 1) (by omega) (by rw [hoz]; simpa using h1))
          have t1 : (xi : Int) < (xk : Int) := by omega
          clear hoz h1
          generalize offX E y (k + 1) = xs at *
          go_wp2_with (first | (go_at_call 25; ((with_reducible refine (CU).mono ?_); rintro e w3 ⟨rfl, r3, o3⟩; have own1 := own_only hown o3 (fun b hb e => by have := own_lowI hown b hb; simp at e; omega); have ow1 := own_only own1 ((Only.refl w3 []).alloc (.cells #[.int .i64 (xi : Nat)] 3)) (fun _ _ h => (nomatch h)); have hs3 := o3.size; have B3 := HBe.out.trans (o3.to_below HBe.out.size (by simp)); have B4 := B3.alloc B3.size (.cells #[.int .i64 (xi : Nat)] 3); have r4 := r3.below ((Below.refl _ _).alloc (Nat.le_refl _) (.cells #[.int .i64 (xi : Nat)] 3)); have gk := (World.cell?_of_block (a := ⟨g, k, none⟩) (o3.block g hgl (by simp; omega))).trans HKW.out)))
          exact bodyPost_ret (v := .tuple #[.slice none 0 0, .int .i64 0, .bool false]) (by simp [results, Try.results9, go_sem]) rfl (HNO.out HBad.out _ B3)
        · have HOK := Lib.hid (okOs_step E2 y (k + 1) hok.out (by rw [hoz]; simpa using h1))
          have t1 : ¬ (xi : Int) < (xk : Int) := by omega
          clear hoz h1
          generalize offX E y (k + 1) = xs at *
          go_wp2_with (first
            | (go_at_call 25; ((with_reducible refine (CU).mono ?_); rintro e w3 ⟨rfl, r3, o3⟩; have own1 := own_only hown o3 (fun b hb e => by have := own_lowI hown b hb; simp at e; omega); have ow1 := own_only own1 ((Only.refl w3 []).alloc (.cells #[.int .i64 (xi : Nat)] 3)) (fun _ _ h => (nomatch h)); have hs3 := o3.size; have B3 := HBe.out.trans (o3.to_below HBe.out.size (by simp)); have B4 := B3.alloc B3.size (.cells #[.int .i64 (xi : Nat)] 3); have r4 := r3.below ((Below.refl _ _).alloc (Nat.le_refl _) (.cells #[.int .i64 (xi : Nat)] 3)); have gk := (World.cell?_of_block (a := ⟨g, k, none⟩) (o3.block g hgl (by simp; omega))).trans HKW.out))
            | (at_builtin; refine wpList_append_src _ rfl (.tmp 83) (.tmp 85) 48 rfl (w.heap.size + 1) 3 i0 (.int .i64 0) 1 8 Try.underlying48 hi hz0 hz1 hz2 rfl (by decide) (Value.slice (some ⟨g, 0, none⟩) (k + 1) cap) (k + 1) xs rfl ow1 (w3.heap.size + 1) (some ⟨w3.heap.size, 0, none⟩) 1 1 [.int .i64 (xi : Nat)] (by rfl) (lists_row w3 [.int .i64 (xi : Nat)] 3) rfl (by simp [Value.oneCell']) (by simp only [maxLen]; omega) (by omega) (by simp; omega) ?_; intro v5 w5 own5 hg5 hat5; have g3 : Only _ w5 (blk (Value.slice (some ⟨g, 0, none⟩) (k + 1) cap)) := (Only.refl _ _).grown hg5 (fun b hb => .inl (by have hb' : (Value.slice (some ⟨g, 0, none⟩) (k + 1) cap).ownBlock = some b := hb; simp [blk, hb'])); have low8 := own_lowI ow1; have r5 := r4.other g3 (fun hm => by have := low8 _ hm; omega) (fun b hb => by have := low8 b hb; omega); have B5 := B4.trans (g3.to_below B4.size (fun b hb => by have := low8 b hb; omega)); have hs5 := g3.size; simp only [World.size_alloc] at hs5))
          go_roundw
          case rel => exact ⟨(k + 1) + 1, by omega, by go_num, HOK, by rw [HSN.out]; exact own5, r5, B5, by omega⟩
          case measure => first | (simp [intOf]; done) | (simp [intOf]; omega)
    · obtain ⟨W1, rfl⟩ : ∃ W1, W1 = wr := ⟨_, rfl⟩
      obtain rfl : i = x + 1 := by omega
      have l1 : ¬ (((x + 1 : Nat) : Int) ≤ (x : Int)) := by omega
      have l2 : ¬ ((x : Int) + 1 ≤ (x : Int)) := by omega
      obtain ⟨g, cap, cur, rfl, hg, hcur⟩ := own_blk hown
      have hglow : w.heap.size + 1 ≤ g := own_lowI hown g (by simp [blk, Value.ownBlock])
      have hgl := hg.lt
      obtain ⟨ln, hln⟩ : ∃ ln : Nat, offI E2 y x = ln := ⟨(offI E2 y x).toNat, by have := HGE.out hok.out; omega⟩
      have hX : rdn E y (3 + x * y) = ln + 1 := by have := HOI.out x (Nat.le_refl _); omega
      have HGC := Lib.hid (show ∀ j, j ≤ x → W1.cell? ⟨g, j, none⟩ = some (.int .i64 ((rdn E y (3 + j * y) : Nat) : Int)) from fun j hj => by
        rw [hg.cell j]
        simpa using hcur j _ (offX_at E y (x + 1) j (by omega)))
      have hgx := HGC.out x (Nat.le_refl _)
      rw [hX, show (((ln + 1 : Nat)) : Int) = (ln : Int) + 1 by omega] at hgx
      have hat := hr.at (by rw [HL.out, HMM.out]; exact hfit)
      rw [HMM.out] at hat
      obtain ⟨bb, hbb⟩ : ∃ bb, 3 + mm = bb + 1 := ⟨2 + mm, by omega⟩
      rw [hbb, show (((bb + 1 : Nat)) : Int) = (bb : Int) + 1 by omega] at hat
      have hwl : w.heap.size < W1.heap.size := by omega
      have HLN := Lib.hid hln
      have HBB := Lib.hid hbb
      have hlb : bb ≤ 20000 := by omega
      clear hg hcur hown hX hln hr
      by_cases hfar : n < 3 + mm + ln
      · have HQ := Lib.hid (HFAR.out ln HLN.out hfar _ HBe.out)
        have t1 : (ln : Int) + 1 > (n : Int) - (bb : Int) := by omega
        clear hfar hbb
        go_wp2
        exact bodyPost_ret (v := .tuple #[.slice none 0 0, .int .i64 0, .bool false]) (by simp [results, Try.results9, go_sem]) rfl HQ.out
      · have t1 : ¬ (ln : Int) + 1 > (n : Int) - (bb : Int) := by omega
        have HY := HYES.out ln HLN.out hok.out (by omega)
        rw [show ((3 + mm + ln : Nat) : Int) = (bb : Int) + ((ln : Int) + 1) by omega] at HY
        have HC2 := HCUT.out hok.out ln HLN.out
        rw [show 2 + mm = bb by omega] at HC2
        obtain ⟨Ls, hLs⟩ : ∃ Ls, Ls = (lsts (osN E2 y (x + 1)) ((E.drop (3 + mm)).take ln)) := ⟨_, rfl⟩
        have HLL := Lib.hid (show Ls.length = x by rw [hLs]; exact lsts_len _ _ x (by unfold osN; simp))
        rw [← hLs] at HY HC2
        have HY' := Lib.hid HY
        have HC' := Lib.hid HC2
        have hlnb : ln + 1 + bb ≤ 20000 := by omega
        have HNF := Lib.hid (show ln + 1 + bb ≤ n by omega)
        clear hLs HY HC2 hfar hbb
        go_wp2
        go_loopw [12, 13] (fun ov iv wr => ∃ i : Nat, i ≤ x ∧ iv = .int .i64 (i : Nat) ∧ Own2B wr W1.heap.size ov (Ls.take i) ∧ Below W1.heap.size W1 wr) (fun _ iv _ => x - (intOf iv).toNat)
        case atStart => exact ⟨0, Nat.zero_le _, rfl, Own2B.nil _ _, Below.refl _ _⟩
        case round =>
          obtain ⟨i, hi2, rfl, hO, hb⟩ := hrel
          have hgx2 := (hb.cell (p := ⟨g, x, none⟩) hgl).trans hgx
          clear hat
          by_cases hlt : i < x
          · have l3 : (i : Int) < (x : Int) := by omega
            obtain ⟨huv, hu1, hvl, hM⟩ := HC'.out i hlt
            have hc1 := HGC.out i (by omega)
            have hc2' := HGC.out (i + 1) (by omega)
            generalize rdn E y (3 + i * y) = u at *
            generalize rdn E y (3 + (i + 1) * y) = v at *
            obtain ⟨M, hMM⟩ : ∃ M, M = (E.drop (bb + u)).take (v - u) := ⟨_, rfl⟩
            obtain ⟨m, hm2⟩ : ∃ m, v - u = m := ⟨_, rfl⟩
            have HCU := Lib.hid (lists_cut HE.out (bb + u) (bb + v) c (by omega) (by have := HNF.out; omega))
            have SL := fun W => slice_ok A n c (bb + u) (bb + v) (by omega) (by have := HNF.out; omega) W
            rw [show bb + v - (bb + u) = v - u by omega, ← hMM] at HCU
            rw [show bb + v - (bb + u) = v - u by omega] at SL
            rw [← hMM] at hM
            have HM8 := Lib.hid (show Bytes8 M from fun q hq => H8.out q (by rw [hMM] at hq; exact List.mem_of_mem_drop (List.mem_of_mem_take hq)))
            have HML := Lib.hid (show M.length = m by rw [hMM, ← hm2, List.length_take, List.length_drop, HL.out]; have := HNF.out; omega)
            rw [hm2] at SL
            rw [show (((bb + u : Nat)) : Int) = (bb : Int) + (u : Int) by omega, show (((bb + v : Nat)) : Int) = (bb : Int) + (v : Int) by omega] at SL
            generalize (if c = bb + u then A else A.map (·.add (bb + u))) = A3 at *
            have HT := Lib.hid (show Ls.take (i + 1) = Ls.take i ++ [M] by rw [List.take_add_one, hM]; rfl)
            have hki : (Ls.take i).length = i := by rw [List.length_take, HLL.out]; omega
            obtain ⟨rows, ho, hin⟩ := hO
            rw [hki] at ho
            have HIN := Lib.hid hin
            have HKI := Lib.hid hki
            have HCC := Lib.hid (show ∀ V, Below W1.heap.size W1 V → V.cell? ⟨g, i, none⟩ = some (.int .i64 (u : Int)) ∧ V.cell? ⟨g, i + 1, none⟩ = some (.int .i64 (v : Int)) from fun V hV => ⟨(hV.cell (p := ⟨g, i, none⟩) hgl).trans hc1, (hV.cell (p := ⟨g, i + 1, none⟩) hgl).trans hc2'⟩)
            have e5 : IntKind.i64.wrap ((bb : Int) + (u : Int)) = (bb : Int) + (u : Int) := IntWalk.i64_in _ (by omega)
            have e6 : IntKind.i64.wrap ((bb : Int) + (v : Int)) = (bb : Int) + (v : Int) := IntWalk.i64_in _ (by omega)
            have e7 : IntKind.i64.wrap ((i : Int) + 1) = (i : Int) + 1 := IntWalk.i64_in _ (by omega)
            have hml : m ≤ 20000 := by omega
            have n3 : (i : Int) < (x : Int) + 1 := by omega
            have n4 : (i : Int) + 1 < (x : Int) + 1 := by omega
            have n5 : (i : Int) < ((x + 1 : Nat) : Int) := by omega
            have n6 : (i : Int) + 1 < ((x + 1 : Nat) : Int) := by omega
            have n7 : (0 : Int) ≤ (i : Int) + 1 := by omega
            have n8 : ((i : Int) + 1).toNat = i + 1 := by omega
            have hkr : Own2B wr W1.heap.size _ (Ls.take i) := ⟨rows, by rw [hki]; exact ho, hin⟩
            clear hM hMM hm2 hc1 hc2' hin hki hgx2 hkr
            go_wp2
            have hI : Below W1.heap.size W1 wr.drew := hb.drew
            refine wp_region_chain (fun V => Below W1.heap.size W1 V) [(0, false), (2, false), (3, false), (4, false), (5, false), (6, false), (7, false), (8, false), (9, false), (10, false), (11, false), (12, false), (13, false), (14, false), (15, false), (16, false), (1, true), (17, true), (18, true), (19, true), (20, false)] (by kernel_rfl) (by kernel_rfl) hI ?_
            repeat (first
              | (refine ChainL.skip (o := ?_) ?_ ?_ ?_; rotate_left; (focus (first | (simp only [List.getElem?_toArray, List.getElem?_cons_succ, List.getElem?_cons_zero]; with_reducible rfl) | (simp only [List.getElem?_toArray, List.getElem?_cons_zero]; with_reducible rfl))); (focus rfl); simp only [Act.put, List.setIfInBounds_toArray, List.set_cons_zero, List.set_cons_succ])
              | (refine ChainL.val (o := ?_) (v := ?_) ?_ ?_ ?_ ?_ ?_; rotate_left 2; (focus (first | (simp only [List.getElem?_toArray, List.getElem?_cons_succ, List.getElem?_cons_zero]; with_reducible rfl) | (simp only [List.getElem?_toArray, List.getElem?_cons_zero]; with_reducible rfl))); (focus (intro _ _ h; cases h)); (focus rfl); (focus (intro w' hJ; obtain ⟨k1, k2⟩ := HCC.out _ hJ; go_simp <;> with_reducible rfl)); simp only [Act.put, List.setIfInBounds_toArray, List.set_cons_zero, List.set_cons_succ]))
            refine ChainL.does (o := ?_) (v := ?_) (w1 := ?_) ?_ ?_ ?_ ?_ ?_
            rotate_left 3
            (focus (simp only [List.getElem?_toArray, List.getElem?_cons_succ, List.getElem?_cons_zero]; with_reducible rfl))
            (focus rfl)
            (focus (go_simp; (constructor <;> with_reducible rfl)))
            exact (hI.alloc hI.size _)
            simp only [Act.put, List.setIfInBounds_toArray, List.set_cons_zero, List.set_cons_succ]
            refine ChainL.append (o := ?_) ?_ ?_ (.tmp 107) (.tmp 122) 22 ?_ wr.drew.heap.size 5 j0 (.int .u8 0) 1 1 Try.underlying22 hj hw0 hw1 hw2 rfl (by decide) (.slice (some ⟨wr.drew.heap.size, 0, none⟩) 0 0) 0 [] ?_ (ownB_none wr.drew _ 1) _ _ m (c - (bb + u)) M ?_ (HCU.out.below ((HBe.out.trans (hI.mono HBe.out.size)).alloc (by have := HBe.out.size; have := hI.size; omega) _)) (by rw [HML.out, Nat.mul_one]) (bytes8_one HM8.out) (by simp only [maxLen]; omega) (by omega) (by simp) ?_
            rotate_left 1
            (focus (simp only [List.getElem?_toArray, List.getElem?_cons_succ, List.getElem?_cons_zero]; with_reducible rfl))
            (focus rfl)
            (focus rfl)
            (focus rfl)
            (focus rfl)
            intro v1 w5 own1 hg1 hat1
            rw [Nat.zero_add, List.nil_append] at own1
            have b1 : Below wr.heap.size wr w5 := ((Below.refl _ _).drew.alloc (Nat.le_refl _) _).grown hg1 (by simp) (fun j hj => by cases hj; exact Nat.le_refl _)
            obtain ⟨A1, c1, rfl, _⟩ := own_lists own1
            have I5 := hb.trans (b1.mono hb.size)
            refine ⟨I5, ?_⟩
            simp only [Act.put, List.setIfInBounds_toArray, List.set_cons_zero, List.set_cons_succ]
            refine ChainL.does (o := ?_) (v := ?_) (w1 := ?_) ?_ ?_ ?_ ?_ ?_
            rotate_left 3
            (focus (simp only [List.getElem?_toArray, List.getElem?_cons_succ, List.getElem?_cons_zero]; with_reducible rfl))
            (focus rfl)
            (focus (go_simp; (constructor <;> with_reducible rfl)))
            exact (I5.alloc I5.size _)
            simp only [Act.put, List.setIfInBounds_toArray, List.set_cons_zero, List.set_cons_succ]
            refine ChainL.append (o := ?_) ?_ ?_ (.tmp 106) (.tmp 124) 28 ?_ W1.heap.size 22 k0 (.slice none 0 0) 1 24 Try.underlying28 hk hv0 hv1 hv2 rfl (by decide) _ i rows ?_ (ownB_stay (ownB_stay ho b1) ((Below.refl _ _).alloc (Nat.le_refl _) (.cells #[.slice A1 m c1] 22))) _ _ 1 1 [.slice A1 m c1] ?_ (listsB_new1 w5 _ _) rfl (fun q hq => by simp at hq; subst hq; rfl) (by simp only [maxLen]; omega) (by omega) (by have := I5.size; simp; omega) ?_
            rotate_left 1
            (focus (simp only [List.getElem?_toArray, List.getElem?_cons_succ, List.getElem?_cons_zero]; with_reducible rfl))
            (focus rfl)
            (focus rfl)
            (focus rfl)
            (focus rfl)
            intro v2 w6 own2 hg2 hat2
            have I6 : Below W1.heap.size W1 w6 := (I5.alloc I5.size _).grown hg2 (by have := I5.size; simp; omega) (fun j hj => (ho.lt j hj).1)
            refine ⟨I6, ?_⟩
            simp only [Act.put, List.setIfInBounds_toArray, List.set_cons_zero, List.set_cons_succ]
            repeat (first
              | (refine ChainL.skip (o := ?_) ?_ ?_ ?_; rotate_left; (focus (first | (simp only [List.getElem?_toArray, List.getElem?_cons_succ, List.getElem?_cons_zero]; with_reducible rfl) | (simp only [List.getElem?_toArray, List.getElem?_cons_zero]; with_reducible rfl))); (focus rfl); simp only [Act.put, List.setIfInBounds_toArray, List.set_cons_zero, List.set_cons_succ])
              | (refine ChainL.val (o := ?_) (v := ?_) ?_ ?_ ?_ ?_ ?_; rotate_left 2; (focus (first | (simp only [List.getElem?_toArray, List.getElem?_cons_succ, List.getElem?_cons_zero]; with_reducible rfl) | (simp only [List.getElem?_toArray, List.getElem?_cons_zero]; with_reducible rfl))); (focus (intro _ _ h; cases h)); (focus rfl); (focus (intro w' hJ; skip; go_simp <;> with_reducible rfl)); simp only [Act.put, List.setIfInBounds_toArray, List.set_cons_zero, List.set_cons_succ]))
            refine ChainL.nil ?_
            go_wp2
            go_roundw
            case rel => exact ⟨i + 1, by omega, by go_num, by rw [HT.out]; exact own2B_push hb.size (by rw [HKI.out]; exact ho) HIN.out b1 (by rw [HML.out]; exact own1) ((Below.refl _ _).alloc (Nat.le_refl _) _) (by rw [HKI.out]; exact own2) hg2, I6⟩
            case measure => first | (simp [intOf]; done) | (simp [intOf]; omega)
          · obtain rfl : i = x := by omega
            have l3 : ¬ (i : Int) < (i : Int) := by omega
            obtain ⟨A9, c9, rfl, hrows⟩ := hO.out
            have hT : Ls.take i = Ls := List.take_of_length_le (by rw [HLL.out]; exact Nat.le_refl _)
            rw [hT] at hrows
            rw [hT, HLL.out]
            have HRO := Lib.hid hrows
            have e5 : IntKind.i64.wrap ((bb : Int) + ((ln : Int) + 1)) = (bb : Int) + ((ln : Int) + 1) := IntWalk.i64_in _ (by omega)
            clear hO hrows hT
            go_wp2
            have hI : Below wr.heap.size wr wr.drew := (Below.refl _ _).drew
            have hg4 : g < wr.heap.size := Nat.lt_of_lt_of_le hgl hb.size
            refine wp_region_chain (fun V => Below wr.heap.size wr V) [(0, false), (1, false), (2, false), (3, false), (4, false), (5, false), (6, false), (7, false), (8, false), (9, false)] (by kernel_rfl) (by kernel_rfl) (hI) ?_
            repeat (first
              | (refine ChainL.skip (o := ?_) ?_ ?_ ?_; rotate_left; (focus (first | (simp only [List.getElem?_toArray, List.getElem?_cons_succ, List.getElem?_cons_zero]; with_reducible rfl) | (simp only [List.getElem?_toArray, List.getElem?_cons_zero]; with_reducible rfl))); (focus rfl); simp only [Act.put, List.setIfInBounds_toArray, List.set_cons_zero, List.set_cons_succ])
              | (refine ChainL.val (o := ?_) (v := ?_) ?_ ?_ ?_ ?_ ?_; rotate_left 2; (focus (first | (simp only [List.getElem?_toArray, List.getElem?_cons_succ, List.getElem?_cons_zero]; with_reducible rfl) | (simp only [List.getElem?_toArray, List.getElem?_cons_zero]; with_reducible rfl))); (focus (intro _ _ h; cases h)); (focus rfl); (focus (intro w' hI; have k1 := (hI.cell (p := ⟨g, i, none⟩) hg4).trans hgx2; go_simp <;> with_reducible rfl)); simp only [Act.put, List.setIfInBounds_toArray, List.set_cons_zero, List.set_cons_succ]))
            refine ChainL.nil ?_
            go_wp2
            exact bodyPost_ret (v := .tuple #[.slice A9 i c9, .int .i64 ((bb : Int) + ((ln : Int) + 1)), .bool true]) (by simp [results, Try.results9, go_sem]) rfl (HY'.out A9 c9 _ (HRO.out.below hI) (HBe.out.trans ((hb.drew).mono HBe.out.size)))
end Go.Proofs.Ytpaenjalpcdamaa

namespace Go.Proofs.Ytpaenjalpcdamaa
open Go Go.RowKit
set_option linter.unusedVariables false
set_option linter.unusedSimpArgs false

theorem own_capI {w : World} {base : Nat} {e : TypeId} {size n c : Nat} {A : Option Addr} {xs : List Value} (h : w.ownsRow base e size (.slice A n c) n xs) : c ≤ 9223372036854775807 := by
  rcases h.2 with ⟨h1, h2⟩ | ⟨g, cap, cur, h1, _, _, _, h2, _⟩
  · cases h1; decide
  · cases h1; exact h2
theorem gave_outI {w w' : World} {e : Ending} {L : List Value} {n : Nat} (h : Gave w L e w') (hn : L.length = n) : ∃ A c, e = .returned (.tuple #[.slice A n c, .int .i64 0]) ∧ Hid (Lists w' w'.heap.size A L) ∧ n ≤ c ∧ c ≤ 9223372036854775807 ∧ Below w.heap.size w w' := by
  subst hn
  obtain ⟨A, c, rfl, ho, hb⟩ := h
  have hc := own_capI ho
  obtain ⟨A', c', he, hl, hcc⟩ := own_lists ho
  cases he
  exact ⟨A, c, rfl, Lib.hid hl, hcc, hc, hb⟩
/-- What lives puts. -/
def LS0 : List (List Value) := [[.int .u8 97, .int .u8 98], []]
theorem ls0_len : (putIx LS0).length = 8 := by kernel_rfl
theorem ls0_ok : okIx LS0 = true := by kernel_rfl
theorem ls0_ld : ldX (putIx LS0) = some ([0, 2, 2], [.int .u8 97, .int .u8 98], 8) := by kernel_rfl
theorem one_ld : ldX [.int .u8 0] = none := by kernel_rfl
theorem ls0_str : (⟨((putIx LS0).map toU8).toArray⟩ : ByteArray) = ⟨#[0, 2, 1, 1, 3, 3, 97, 98]⟩ := by kernel_rfl
theorem ab_str : (⟨([Value.int .u8 97, Value.int .u8 98].map toU8).toArray⟩ : ByteArray) = ⟨#[97, 98]⟩ := by kernel_rfl
theorem ab_bytes : Bytes8 [Value.int .u8 97, Value.int .u8 98] := fun u hu => by
  simp at hu
  rcases hu with rfl | rfl
  · exact ⟨97, by decide, rfl⟩
  · exact ⟨98, by decide, rfl⟩
theorem lists_marked (w : World) (cs : List Value) (T : TypeId) (fz : Nat × Nat) : Lists (w.alloc (.cells cs.toArray T fz)) (w.heap.size + 1) (some ⟨w.heap.size, 0, none⟩) cs :=
  ⟨fun ha => (nomatch ha), fun a ha j u hu => by
    cases ha
    rw [addr_plain, Nat.zero_add]
    have e : (w.alloc (.cells cs.toArray T fz)).heap[w.heap.size]? = some (.cells cs.toArray T fz) := by
      show (w.heap.push _)[w.heap.size]? = _
      rw [Array.getElem?_push_size]
    exact (cell_of_row _ w.heap.size j cs.toArray T fz e).trans (by rw [List.getElem?_toArray]; exact hu), fun a ha _ => by cases ha; simp⟩
theorem rows0 (W : World) : RowsAt ((W.alloc (.cells #[.int .u8 97, .int .u8 98] 5 (2, 3))).alloc (.cells #[.slice (some ⟨W.heap.size, 0, none⟩) 2 2, .slice none 0 0] 22)) ((W.alloc (.cells #[.int .u8 97, .int .u8 98] 5 (2, 3))).alloc (.cells #[.slice (some ⟨W.heap.size, 0, none⟩) 2 2, .slice none 0 0] 22)).heap.size (some ⟨W.heap.size + 1, 0, none⟩) LS0 := ⟨fun i L h => by
  have c := fun j => World.cell?_alloc_new (W.alloc (.cells #[.int .u8 97, .int .u8 98] 5 (2, 3))) #[.slice (some ⟨W.heap.size, 0, none⟩) 2 2, .slice none 0 0] 22 j
  rw [World.size_alloc] at c
  match i, h with
  | 0, h =>
    simp [LS0] at h; subst h
    exact ⟨W.heap.size + 1, 0, some ⟨W.heap.size, 0, none⟩, 2, rfl, by simp, c 0, ((lists_marked W [.int .u8 97, .int .u8 98] 5 (2, 3)).alloc (by simp) _).more (by simp)⟩
  | 1, h =>
    simp [LS0] at h; subst h
    exact ⟨W.heap.size + 1, 0, none, 0, rfl, by simp, c 1, Lists.empty _ _ _⟩
  | i + 2, h => simp [LS0] at h⟩
theorem put0 (W : World) : Calls Try.prog 12 #[.slice (some ⟨W.heap.size + 1, 0, none⟩) 2 2] ((W.alloc (.cells #[.int .u8 97, .int .u8 98] 5 (2, 3))).alloc (.cells #[.slice (some ⟨W.heap.size, 0, none⟩) 2 2, .slice none 0 0] 22)) fun e w' => ∃ A c, e = .returned (.tuple #[.slice A 8 c, .int .i64 0]) ∧ Hid (Lists w' w'.heap.size A (putIx LS0)) ∧ 8 ≤ c ∧ c ≤ 9223372036854775807 ∧ Below W.heap.size W w' :=
  (put_any (some ⟨W.heap.size + 1, 0, none⟩) 2 LS0 ((W.alloc (.cells #[.int .u8 97, .int .u8 98] 5 (2, 3))).alloc (.cells #[.slice (some ⟨W.heap.size, 0, none⟩) 2 2, .slice none 0 0] 22)) (rows0 W) (fun L hL => by simp [LS0] at hL; rcases hL with rfl | rfl; exact ab_bytes; exact fun u hu => by simp at hu) (by decide) (fun _ => by decide)).mono fun e w' h => by
    obtain ⟨A, c, h1, h2, h3, h4, h5⟩ := gave_outI (h.1 ls0_ok) ls0_len
    exact ⟨A, c, h1, h2, h3, h4, (((Below.refl _ _).alloc (Nat.le_refl _) _).alloc (by simp) _).trans (h5.mono (by simp; omega))⟩
theorem beN_bytes (n : Nat) (x : Int) : Bytes8 (beN n x) := by
  have h3 : ∀ x, Bytes8 (be3 x) := fun x u hu => by
    simp [be3] at hu
    rcases hu with rfl | rfl | rfl
    · exact byte_of (x / 65536)
    · exact byte_of (x / 256)
    · exact byte_of x
  unfold beN
  split
  · exact be1_bytes x
  · exact be2_bytes x
  · exact h3 x
  · exact be4_bytes x
theorem putIx_bytes (Ls : List (List Value)) (h : ∀ L ∈ Ls, Bytes8 L) : Bytes8 (putIx Ls) := by
  have h1 : ∀ l : List Nat, Bytes8 (l.flatMap fun o => beN (wdN (1 + tot Ls)) ((o : Nat) : Int)) := fun l => by
    induction l with
    | nil => intro u hu; simp at hu
    | cons x l ih => rw [List.flatMap_cons]; exact (beN_bytes _ _).append ih
  unfold putIx
  refine Bytes8.append ?_ (fun u hu => ?_)
  · unfold hdE
    split
    · exact be2_bytes 0
    · unfold offE
      exact (be2_bytes _).append ((be1_bytes _).append (h1 _))
  · obtain ⟨L, hL, hu⟩ := List.mem_flatten.1 hu
    exact h L hL u hu
theorem putIx0_bytes : Bytes8 (putIx LS0) := putIx_bytes LS0 (fun L hL => by simp [LS0] at hL; rcases hL with rfl | rfl; exact ab_bytes; exact fun u hu => by simp at hu)
theorem load0 (A : Option Addr) (c : Nat) (W : World) (h : Hid (Lists W W.heap.size A (putIx LS0))) (hc : 8 ≤ c) : Calls Try.prog 8 #[.slice A 8 c] W (GotIx W [0, 2, 2] [.int .u8 97, .int .u8 98] 8) := by
  have h2 := load_any A c (putIx LS0) W h.out putIx0_bytes (by rw [ls0_len]; exact hc) (by rw [ls0_len]; decide)
  rw [ls0_len, ls0_ld] at h2
  exact h2
theorem load1 (W : World) : Calls Try.prog 8 #[.slice (some ⟨W.heap.size, 0, none⟩) 1 1] (W.alloc (.cells #[.int .u8 0] 5)) fun e w' => e = .returned (.tuple #[.pointer none, .int .i64 140]) ∧ Below W.heap.size W w' := by
  have h2 := load_any (some ⟨W.heap.size, 0, none⟩) 1 [.int .u8 0] (W.alloc (.cells #[.int .u8 0] 5)) ((lists_row W [.int .u8 0] 5).more (by simp)) (fun u hu => by simp at hu; exact ⟨0, by decide, hu⟩) (by decide) (by decide)
  rw [one_ld] at h2
  exact h2.mono fun e w' h => ⟨h.1, ((Below.refl _ _).alloc (Nat.le_refl _) _).trans (h.2.mono (by simp))⟩
theorem func_nilI (f : Fn) (a b : Array Value) (w : World) : (binOp .eql 40 (.func f a b) .nilFunc).run Try.prog w = .ok (.bool false) w := by
  have hu := Try.underlying40
  have key : ∀ (d : Nat) (w : World), (Op.equalIn (d + 1) 40 (.func f a b) .nilFunc).run Try.prog w = .ok false w := fun d w => by
    simp [Op.equalIn, run_underlying hu]
  simp only [binOp]
  simp [Op.equal, Op.maxDepth, key 9999]
theorem at0 (p : Nat) (W : World) (h : IxAt W p W.heap.size [0, 2, 2] [.int .u8 97, .int .u8 98] 8) : Calls Try.prog 15 #[.pointer (some ⟨p, 0, none⟩), .int .i64 0] W fun e w' => ∃ A c, e = .returned (.tuple #[.slice A 2 c, .int .i64 0]) ∧ Hid (Lists w' w'.heap.size A [.int .u8 97, .int .u8 98]) ∧ Below W.heap.size W w' :=
  ixat_any p W.heap.size [0, 2, 2] [.int .u8 97, .int .u8 98] 8 0 0 2 W h (Nat.le_refl _) (by decide) rfl rfl (by decide) (by decide)
theorem at2 (p : Nat) (W : World) (h : IxAt W p W.heap.size [0, 2, 2] [.int .u8 97, .int .u8 98] 8) : Calls Try.prog 15 #[.pointer (some ⟨p, 0, none⟩), .int .i64 2] W fun e w' => e = .returned (.tuple #[.slice none 0 0, .int .i64 4]) ∧ w' = W :=
  ixat_none p W.heap.size [0, 2, 2] [.int .u8 97, .int .u8 98] 8 2 W h (by decide) (.inr (by decide))
theorem len0 (p : Nat) (W : World) (h : IxAt W p W.heap.size [0, 2, 2] [.int .u8 97, .int .u8 98] 8) : Calls Try.prog 16 #[.pointer (some ⟨p, 0, none⟩)] W fun e w' => e = .returned (.int .i64 2) ∧ w' = W :=
  ixlen_any p W.heap.size [0, 2, 2] [.int .u8 97, .int .u8 98] 8 W h (by decide)
theorem IxAt.up {w w1 : World} {p : Nat} {os : List Nat} {D : List Value} {size : Int} (h : IxAt w p w.heap.size os D size) (b : Below w.heap.size w w1) : IxAt w1 p w1.heap.size os D size := (h.below b).more b.size
set_option maxRecDepth 100000 in
set_option maxHeartbeats 2000000 in
theorem lives14 (w : World) : Calls Try.prog 7 #[] w fun e w' => e = .returned (.bool true) ∧ Below w.heap.size w w' := by
  have FN := func_nilI
  have CV := fun W => Lib.run_convert_bytes_const (P := Try.prog) W 22 5 #[.int .u8 97, .int .u8 98] 2 2 Try.underlying22 Try.underlying5
  have CP := put0 w
  go_enter Try.func7, Try.ntmps7
  go_wp2_with (first
    | (go_at_call 12; ((with_reducible refine (CP).mono ?_); rintro e w1 ⟨A1, c1, rfl, l1, hc1, hm1, b1⟩; have C1 := load0 A1 c1 w1 l1 hc1))
    | (go_at_call 8; ((with_reducible refine (C1).mono ?_); rintro e w2 ⟨p, rfl, X2, b2⟩; have B2 := b1.trans (b2.mono b1.size)))
    | (go_at_call 8; ((with_reducible refine (load1 w2).mono ?_); rintro e w3 ⟨rfl, b3⟩; have B3 := B2.trans (b3.mono B2.size); have X3 := X2.up b3; have b13 := b2.trans (b3.mono b2.size); have q1 := conv_lists (c := c1) ((l1.out.below b13).more b13.size) ls0_len putIx0_bytes; rw [ls0_str] at q1))
    | (go_at_call 14; ((with_reducible refine (ixall_any (.pointer (some ⟨p, 0, none⟩)) rfl _).mono ?_); rintro e w4 ⟨k4, rfl, _, b4⟩; have B4 := B3.trans (b4.mono B3.size); have X4 := X3.up b4))
    | (go_at_call 15; ((with_reducible refine (at0 p w4 X4).mono ?_); rintro e w5 ⟨A5, c5, rfl, l5, b5⟩; have B5 := B4.trans (b5.mono B4.size); have X5 := X4.up b5; have q5 := conv_lists (n := 2) (c := c5) l5.out rfl ab_bytes; rw [ab_str] at q5))
    | (go_at_call 15; ((with_reducible refine (at2 p w5 X5).mono ?_); rintro e w6 ⟨rfl, rfl⟩))
    | (go_at_call 16; ((with_reducible refine (len0 p _ X5).mono ?_); rintro e w7 ⟨rfl, rfl⟩))
    | (go_at_call 17; ((with_reducible refine (ixsize_any p _ _ _ _ _ X5).mono ?_); rintro e w8 ⟨rfl, rfl⟩)))
  go_ret
  exact ⟨rfl, B5⟩
end Go.Proofs.Ytpaenjalpcdamaa
