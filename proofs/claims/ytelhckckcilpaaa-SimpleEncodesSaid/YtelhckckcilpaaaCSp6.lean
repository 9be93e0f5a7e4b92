/- Part 7 of the proof: SpH, SpI, SpG. -/
import Derived.Test.YtelhckckcilpaaaCSp5

namespace Go.Proofs.Ytelhckckcilpaaa
open Go Go.RowKit
set_option linter.unusedVariables false
set_option linter.unusedSimpArgs false
variable {q : Nat → Prop}

def cntL (L : List Nat) : Nat := match L.getLast? with | none => 0 | some x => x + 1
theorem cntL_snoc (L : List Nat) (x : Nat) : cntL (L ++ [x]) = x + 1 := by simp [cntL]
set_option maxRecDepth 100000 in
theorem cnt_any (A : Option Addr) (c n : Nat) (L : List Nat) (w : World) (hL : Lists w w.heap.size A (ints L)) (hn : L.length = n) (hm : n ≤ 1000000) (hx : ∀ x ∈ L, x < 65536) :
    Calls Try.prog 21 #[.slice A n c] w fun e w' => e = .returned (.int .i64 (cntL L : Nat)) ∧ w' = w := by
  rcases Nat.eq_zero_or_pos n with h0 | h0
  · subst h0
    obtain rfl : L = [] := List.eq_nil_of_length_eq_zero hn
    go_enter Try.func21, Try.ntmps21
    go_wp2
    go_ret
    exact ⟨rfl, rfl⟩
  · obtain ⟨x, hl⟩ : ∃ x, L[n - 1]? = some x := ⟨_, List.getElem?_eq_getElem (by omega)⟩
    have hxl := hx x (List.mem_of_getElem? hl)
    have hc : cntL L = x + 1 := by
      unfold cntL
      rw [List.getLast?_eq_getElem?, hn, hl]
    obtain ⟨m, rfl⟩ : ∃ m, n = m + 1 := ⟨n - 1, by omega⟩
    simp only [Nat.add_sub_cancel] at hl
    have hi : (ints L)[m]? = some (.int .i64 (x : Nat)) := by unfold ints; rw [List.getElem?_map, hl]; rfl
    obtain ⟨b, o, rfl, hb, hcell⟩ := hL.plain (by intro e; rw [e] at hi; simp at hi)
    have c0 := hcell m _ hi
    have e1 : IntKind.i64.wrap (((m : Nat) : Int) + 1 - 1) = (m : Int) := by rw [IntWalk.i64_in _ (by omega)]; omega
    have n1 : ¬ ((m : Int) + 1 = 0) := by omega
    have n2 : (((m : Int) + 1) == 0) = false := by simp; omega
    rw [hc]
    clear hc hi hcell hl hL hn hx
    go_enter Try.func21, Try.ntmps21
    go_wp2
    go_ret
    exact ⟨by simp, rfl⟩
def lasC (bs : List Value) : Nat → Nat → List Nat → List Nat × Int
  | 0, k, acc => (acc, 0)
  | j + 1, k, acc => if 4096 ≤ ub2 bs k then ([], 100) else if ub2 bs k < cntL acc then ([], 110) else lasC bs j (k + 2) (acc ++ [ub2 bs k])
def lasR (bs : List Value) : List Nat × Int := if 256 < ib2 bs 0 then ([], 100) else if ib2 bs 0 < 0 then ([], 110) else lasC bs (ib2 bs 0).toNat 10 []
theorem u2_lt {bs : List Value} (h : Bytes8 bs) (k : Nat) : ub2 bs k < 65536 := rsn_lt (rd2_lt h k)
/-- Last points rise, and are places of points. -/
def RisL (L : List Nat) : Prop := (∀ x ∈ L, x < 4096) ∧ ∀ (i j x y : Nat), i < j → L[i]? = some x → L[j]? = some y → x < y
theorem RisL.snoc {L : List Nat} {x : Nat} (h : RisL L) (hx : x < 4096) (hc : ¬ x < cntL L) : RisL (L ++ [x]) := by
  have hall : ∀ (i y : Nat), L[i]? = some y → y < x := fun i y hy => by
    have hi : i < L.length := (List.getElem?_eq_some_iff.1 hy).1
    obtain ⟨z, hz⟩ : ∃ z, L[L.length - 1]? = some z := ⟨_, List.getElem?_eq_getElem (by omega)⟩
    have hc2 : cntL L = z + 1 := by unfold cntL; rw [List.getLast?_eq_getElem?, hz]
    have hyz : y ≤ z := by
      rcases Nat.lt_or_ge i (L.length - 1) with h1 | h1
      · exact Nat.le_of_lt (h.2 i _ y z h1 hy hz)
      · have : i = L.length - 1 := by omega
        subst this; rw [hy] at hz; cases hz; exact Nat.le_refl _
    omega
  refine ⟨fun y hy => ?_, fun i j y z hij hy hz => ?_⟩
  · rcases List.mem_append.1 hy with hy | hy
    · exact h.1 y hy
    · simp at hy; omega
  · rcases Nat.lt_or_ge j L.length with h1 | h1
    · rw [List.getElem?_append_left (by omega)] at hy
      rw [List.getElem?_append_left h1] at hz
      exact h.2 i j y z hij hy hz
    · have h2 : j = L.length := by
        have := (List.getElem?_eq_some_iff.1 hz).1
        simp at this; omega
      subst h2
      simp at hz
      subst hz
      rw [List.getElem?_append_left hij] at hy
      exact hall i y hy
def RLasP (q : Nat → Prop) (w : World) (p : Nat) (bs : List Value) (R : List Nat × Int) (e : Ending) (w' : World) : Prop :=
  ∃ v k, e = .returned (.tuple #[v, .int .i64 R.2]) ∧ w'.ownsRow w.heap.size 3 1 v R.1.length (ints R.1) ∧ RS q w' p bs k ∧ (R.2 = 0 → k = 10 + 2 * R.1.length) ∧ (R.2 = 0 → RisL R.1 ∧ R.1.length ≤ 256) ∧ Only w w' [p]
structure LaQ (q : Nat → Prop) (w : World) (p : Nat) (bs : List Value) (K : Nat) (R : List Nat × Int) (j : Nat) (acc : List Nat) (v : Value) (W : World) : Prop where
  rd : RS q W p bs (10 + 2 * j)
  own : W.ownsRow w.heap.size 3 1 v j (ints acc)
  on : Only w W [p]
  len : acc.length = j
  ris : RisL acc
  run : lasC bs (K - j) (10 + 2 * j) acc = R
set_option maxRecDepth 100000 in
set_option maxHeartbeats 1000000 in
theorem rlas_any (p : Nat) (bs : List Value) (w : World) (h : RS q w p bs 0) (hL : bs.length ≤ 140737488355328) (hp : p < w.heap.size) (hq : ∀ b, q b → b < w.heap.size) :
    Calls Try.prog 17 #[.pointer (some ⟨p, 0, none⟩)] w (RLasP q w p bs (lasR bs)) := by
  have h8 := h.bytes
  have CI : Calls Try.prog 30 #[.pointer (some ⟨p, 0, none⟩)] w (ReadS q w p bs (0 + 2) (ib2 bs 0)) := rsI16 p bs 0 w h (by omega)
  have hu := u2_lt h8 0
  have hi2 : -32768 ≤ ib2 bs 0 ∧ ib2 bs 0 ≤ 32767 := by unfold ib2 s16; split <;> omega
  unfold lasR
  by_cases h1 : 256 < ib2 bs 0
  · rw [if_pos h1]
    generalize ib2 bs 0 = z at *
    have d1 : decide (z > 256) = true := by simpa using h1
    go_enter Try.func17, Try.ntmps17
    go_wp2_with (first | (go_at_call 30; ((with_reducible refine (CI).mono ?_); rintro e w1 ⟨rfl, r1, o1⟩)))
    exact bodyPost_ret (results_tmp2 rfl _ _ _) rfl ⟨_, _, rfl, World.ownsRow_nil _ _ _ _, r1, fun h => by simp at h, fun h => by simp at h, o1⟩
  · rw [if_neg h1]
    by_cases h2 : ib2 bs 0 < 0
    · rw [if_pos h2]
      generalize ib2 bs 0 = z at *
      have d1 : decide (z > 256) = false := by simp; omega
      have d2 : decide (z < 0) = true := by simpa using h2
      go_enter Try.func17, Try.ntmps17
      go_wp2_with (first | (go_at_call 30; ((with_reducible refine (CI).mono ?_); rintro e w1 ⟨rfl, r1, o1⟩)))
      exact bodyPost_ret (results_tmp2 rfl _ _ _) rfl ⟨_, _, rfl, World.ownsRow_nil _ _ _ _, r1, fun h => by simp at h, fun h => by simp at h, o1⟩
    · rw [if_neg h2]
      obtain ⟨K, hK⟩ : ∃ K : Nat, ib2 bs 0 = (K : Int) := ⟨(ib2 bs 0).toNat, by omega⟩
      have hK2 : K ≤ 256 := by omega
      rw [hK] at CI ⊢
      rw [Int.toNat_natCast]
      have d1 : decide ((K : Int) > 256) = false := decide_eq_false (by omega)
      have d2 : decide ((K : Int) < 0) = false := decide_eq_false (by omega)
      obtain ⟨R, hR⟩ : ∃ R, R = lasC bs K 10 [] := ⟨_, rfl⟩
      rw [← hR]
      have HR := Lib.hid hR
      have CT : ∀ W, RS q W p bs (0 + 2) → Calls Try.prog 18 #[.pointer (some ⟨p, 0, none⟩), .int .i64 8] W (TookS q W p bs 10) := fun W r => rs_take p bs 2 8 W r hL (by decide)
      obtain ⟨i0, hi, hz0, hz1, hz2⟩ := info_partsS intInfoS
      clear hR h1 h2 hi2 hu hK
      go_enter Try.func17, Try.ntmps17
      go_wp2_with (first | (go_at_call 30; ((with_reducible refine (CI).mono ?_); rintro e w1 ⟨rfl, r1, o1⟩)) | (go_at_call 18; ((with_reducible refine (CT _ r1).mono ?_); rintro e w2 ⟨v2, rfl, r2, o2⟩; have o12 := o1.trans o2 (fun b hb => .inl hb))))
      have Q0 : LaQ q w p bs K R 0 [] (.slice none 0 0) w2 := ⟨r2, World.ownsRow_nil _ _ _ _, o12, rfl, ⟨fun x hx => by simp at hx, fun i j x y _ hx => by simp at hx⟩, by rw [HR.out]; rfl⟩
      clear CI CT r1 o1 r2 o2 o12
      go_loopw [5, 16] (fun v i wr => ∃ (j : Nat) (acc : List Nat), j ≤ K ∧ i = .int .i64 (j : Nat) ∧ LaQ q w p bs K R j acc v wr) (fun _ i _ => K - (intOf i).toNat)
      case atStart => exact ⟨0, [], Nat.zero_le _, rfl, Q0⟩
      case round =>
        clear Q0
        obtain ⟨j, acc, hj, rfl, Q⟩ := hrel
        by_cases hlt : j < K
        · have d3 : decide ((j : Int) < (K : Int)) = true := by simp; omega
          have CU : Calls Try.prog 19 #[.pointer (some ⟨p, 0, none⟩)] wr (ReadS q wr p bs (10 + 2 * j + 2) (ub2 bs (10 + 2 * j) : Nat)) := rsU16 p bs (10 + 2 * j) wr Q.rd (by omega)
          have hu := u2_lt h8 (10 + 2 * j)
          have hrun := Q.run
          obtain ⟨m, hm⟩ : ∃ m, K - j = m + 1 := ⟨K - j - 1, by omega⟩
          rw [hm] at hrun
          unfold lasC at hrun
          obtain ⟨A5, c5, rfl, l5, _⟩ := own_lists Q.own
          have HQ := Lib.hid Q
          generalize ub2 bs (10 + 2 * j) = x at *
          have CC : ∀ W, Only wr W [p] → Calls Try.prog 21 #[.slice A5 j c5] W fun e w' => e = .returned (.int .i64 (cntL acc : Nat)) ∧ w' = W := fun W o => by
            obtain ⟨A', c', he, hl, _⟩ := own_lists (own_only HQ.out.own o (fun b hb hm => by have := ownS_low HQ.out.own b hb; simp at hm; omega))
            have hA : A5 = A' := by injection he
            subst hA
            exact cnt_any A5 c5 j acc W hl HQ.out.len (by omega) (fun y hy => by have := HQ.out.ris.1 y hy; omega)
          clear Q l5
          by_cases h4 : 4096 ≤ x
          · rw [if_pos h4] at hrun
            have HN := Lib.hid hrun
            clear hrun hm
            have d4 : decide ((x : Int) ≥ 4096) = true := by simp; omega
            go_wp2_with (first | (go_at_call 19; ((with_reducible refine (CU).mono ?_); rintro e w3 ⟨rfl, r3, o3⟩)))
            refine bodyPost_ret (results_tmp2 rfl _ _ _) rfl ?_
            rw [← HN.out]
            exact ⟨_, _, rfl, World.ownsRow_nil _ _ _ _, r3, fun h => by simp at h, fun h => by simp at h, HQ.out.on.trans o3 (fun b hb => .inl hb)⟩
          · rw [if_neg h4] at hrun
            have d4 : decide ((x : Int) ≥ 4096) = false := by simp; omega
            by_cases h5 : x < cntL acc
            · rw [if_pos h5] at hrun
              have HN := Lib.hid hrun
              clear hrun hm
              have d5 : decide ((x : Int) < (cntL acc : Int)) = true := by simp; omega
              generalize cntL acc = ca at *
              go_wp2_with (first | (go_at_call 19; ((with_reducible refine (CU).mono ?_); rintro e w3 ⟨rfl, r3, o3⟩)) | (go_at_call 21; ((with_reducible refine (CC _ o3).mono ?_); rintro e w4 ⟨rfl, h4'⟩; obtain rfl : w3 = w4 := h4'.symm)))
              refine bodyPost_ret (results_tmp2 rfl _ _ _) rfl ?_
              rw [← HN.out]
              exact ⟨_, _, rfl, World.ownsRow_nil _ _ _ _, r3, fun h => by simp at h, fun h => by simp at h, HQ.out.on.trans o3 (fun b hb => .inl hb)⟩
            · rw [if_neg h5] at hrun
              have d5 : decide ((x : Int) < (cntL acc : Int)) = false := by simp; omega
              have HRI := Lib.hid (HQ.out.ris.snoc (by omega) h5)
              have HN := Lib.hid (show lasC bs (K - (j + 1)) (10 + 2 * (j + 1)) (acc ++ [x]) = R by rw [show K - (j + 1) = m by omega]; exact hrun)
              generalize cntL acc = ca at *
              have hsz := HQ.out.on.size
              clear hrun hm
              go_wp2_with (first | (go_at_call 19; ((with_reducible refine (CU).mono ?_); rintro e w3 ⟨rfl, r3, o3⟩; have OW := own_only HQ.out.own o3 (fun b hb hm => by have := ownS_low HQ.out.own b hb; simp at hm; omega); have s3 := o3.size)) | (go_at_call 21; ((with_reducible refine (CC _ o3).mono ?_); rintro e w4 ⟨rfl, h4'⟩; obtain rfl : w3 = w4 := h4'.symm)) | (at_builtin; refine wpList_append_src _ rfl (.tmp 26) (.tmp 28) 38 rfl w.heap.size 3 i0 (.int .i64 0) 1 8 Try.underlying38 hi hz0 hz1 hz2 rfl (by decide) (.slice A5 j c5) j (ints acc) rfl (ownS_stay OW (below_a1 _ _)) (w3.heap.size + 1) (some ⟨w3.heap.size, 0, none⟩) 1 1 [.int .i64 (x : Nat)] (by rfl) (lists_row w3 [.int .i64 (x : Nat)] 3) rfl (by simp [Value.oneCell']) (by simp only [maxLen]; omega) (by omega) (by simp; omega) ?_; intro v6 w6 own6 hg6 hat6))
              have hlow := ownS_low OW
              have og : Only _ w6 (blk (.slice A5 j c5)) := (Only.refl _ (blk (.slice A5 j c5))).grown hg6 (fun b hb' => .inl (by have h9 : (Value.slice A5 j c5).ownBlock = some b := hb'; unfold blk; rw [h9]; simp))
              have QN : LaQ q w p bs K R (j + 1) (acc ++ [x]) v6 w6 := ⟨(r3.below (below_a1 w3 (.cells #[.int .i64 (x : Nat)] 3))).only og (fun hm => by have := hlow _ hm; omega) (fun b hb hqb => by have := hlow b hb; have := hq b hqb; omega), by rw [ints_app]; exact own6, ((HQ.out.on.trans o3 (fun b hb => .inl hb)).then_below (below_a1 w3 (.cells #[.int .i64 (x : Nat)] 3))).trans og (fun b hb => .inr (hlow b hb)), by simp [HQ.out.len], HRI.out, HN.out⟩
              go_roundw
              case rel => exact ⟨j + 1, _, by omega, by first | rfl | (go_num), QN⟩
              case measure => first | (simp [intOf]; done) | (simp [intOf]; omega)
        · obtain rfl : j = K := by omega
          have d3 : ¬ (j : Int) < (j : Int) := by omega
          have hrun := Q.run
          rw [Nat.sub_self] at hrun
          have HN := Lib.hid (show (acc, (0 : Int)) = R from hrun)
          have HQ := Lib.hid Q
          clear Q hrun
          go_wp2
          refine bodyPost_ret (results_tmp2 rfl _ _ _) rfl ?_
          rw [← HN.out]
          exact ⟨_, _, rfl, by rw [HQ.out.len]; exact HQ.out.own, HQ.out.rd, fun _ => by rw [HQ.out.len], fun _ => ⟨HQ.out.ris, by rw [HQ.out.len]; omega⟩, HQ.out.on⟩
end Go.Proofs.Ytelhckckcilpaaa

namespace Go.Proofs.Ytelhckckcilpaaa
open Go Go.RowKit
set_option linter.unusedVariables false
set_option linter.unusedSimpArgs false

def conC (P : List Pt) : List Nat → Nat → List (List Pt)
  | [], _ => []
  | l :: ls, first => (P.drop first).take (l + 1 - first) :: conC P ls (l + 1)
def FitL (n : Nat) : List Nat → Nat → Prop
  | [], _ => True
  | l :: ls, first => first ≤ l ∧ l < n ∧ FitL n ls (l + 1)
theorem con_next {P : List Pt} {ls : List Nat} {j l first : Nat} (h : ls[j]? = some l) : conC P (ls.drop j) first = (P.drop first).take (l + 1 - first) :: conC P (ls.drop (j + 1)) (l + 1) := by
  obtain ⟨h1, h2⟩ := List.getElem?_eq_some_iff.1 h
  rw [List.drop_eq_getElem_cons h1, h2]; rfl
theorem fit_next {n : Nat} {ls : List Nat} {j l first : Nat} (h : ls[j]? = some l) (hf : FitL n (ls.drop j) first) : first ≤ l ∧ l < n ∧ FitL n (ls.drop (j + 1)) (l + 1) := by
  obtain ⟨h1, h2⟩ := List.getElem?_eq_some_iff.1 h
  rw [List.drop_eq_getElem_cons h1, h2] at hf; exact hf
theorem fit_of {L : List Nat} (h : RisL L) : FitL (cntL L) L 0 := by
  have key : ∀ (m : Nat), m ≤ L.length → FitL (cntL L) (L.drop (L.length - m)) (if L.length - m = 0 then 0 else (L.getD (L.length - m - 1) 0) + 1) := by
    intro m
    induction m with
    | zero => intro _; simp [FitL]
    | succ m ih =>
      intro hm
      have i1 := ih (by omega)
      obtain ⟨k, hk⟩ : ∃ k, L.length - (m + 1) = k := ⟨_, rfl⟩
      have hkm : L.length - m = k + 1 := by omega
      rw [hk]
      rw [hkm, if_neg (by omega)] at i1
      have hkl : k < L.length := by omega
      obtain ⟨x, hx⟩ : ∃ x, L[k]? = some x := ⟨_, List.getElem?_eq_getElem hkl⟩
      obtain ⟨h1, h2⟩ := List.getElem?_eq_some_iff.1 hx
      have hg : L.getD (k + 1 - 1) 0 = x := by rw [Nat.add_sub_cancel, List.getD_eq_getElem?_getD, hx]; rfl
      rw [hg] at i1
      rw [List.drop_eq_getElem_cons h1, h2]
      refine ⟨?_, ?_, i1⟩
      · split
        · omega
        · obtain ⟨y, hy⟩ : ∃ y, L[k - 1]? = some y := ⟨_, List.getElem?_eq_getElem (by omega)⟩
          rw [List.getD_eq_getElem?_getD, hy]
          have := h.2 (k - 1) k y x (by omega) hy hx
          show y + 1 ≤ x
          omega
      · obtain ⟨z, hz⟩ : ∃ z, L[L.length - 1]? = some z := ⟨_, List.getElem?_eq_getElem (by omega)⟩
        have hc : cntL L = z + 1 := by unfold cntL; rw [List.getLast?_eq_getElem?, hz]
        rcases Nat.lt_or_ge k (L.length - 1) with h3 | h3
        · have := h.2 k _ x z h3 hx hz
          omega
        · have : k = L.length - 1 := by omega
          subst this
          rw [hx] at hz; cases hz; omega
  have := key L.length (Nat.le_refl _)
  simpa using this
theorem slice_okP (A : Option Addr) (n c a b : Nat) (h1 : a ≤ b) (h2 : b ≤ c) (h3 : a < c) (w : World) : (Instr.sliceAt 43 (.slice A n c) (some (.int .i64 (a : Nat))) (some (.int .i64 (b : Nat))) none).run Try.prog w = .ok (.slice (A.map (·.add (a * 3))) (b - a) (c - a)) w := by
  have hu := Try.underlying43
  have hz := Try.sizeOf57
  have i2 : (a : Int) ≤ (b : Int) := by omega
  have i3 : (0 : Int) ≤ (a : Int) := by omega
  have i4 : (b : Int) ≤ (c : Int) := by omega
  have i5 : ¬ (c = a) := by omega
  simp [Instr.sliceAt, Instr.slice, Instr.sliceBounds, Instr.sliceBound, run_underlying hu, Sem.run_bind, Sem.run_pure, Result.andThen, asIntOf, hz, i2, i3, i4, i5, h1, h2]
theorem ptCells_drop (P : List Pt) (a : Nat) : ptCells (P.drop a) = (ptCells P).drop (a * 3) := by
  induction a generalizing P with
  | zero => simp
  | succ a ih =>
    cases P with
    | nil => simp [ptCells]
    | cons p P =>
      rw [List.drop_succ_cons, ih, show (a + 1) * 3 = a * 3 + 3 by omega]
      simp [ptCells]
theorem ptCells_take (P : List Pt) (a : Nat) : ptCells (P.take a) = (ptCells P).take (a * 3) := by
  induction a generalizing P with
  | zero => simp [ptCells]
  | succ a ih =>
    cases P with
    | nil => simp [ptCells]
    | cons p P =>
      rw [List.take_succ_cons, show (a + 1) * 3 = a * 3 + 3 by omega]
      have := ih P
      simp only [ptCells, List.flatMap_cons] at this ⊢
      rw [this]
      rfl
set_option maxRecDepth 100000 in
set_option maxHeartbeats 1000000 in
theorem contours_any (A A2 : Option Addr) (c c2 n m : Nat) (P : List Pt) (ls : List Nat) (w : World) (hP : Lists w w.heap.size A (ptCells P)) (hl : Lists w w.heap.size A2 (ints ls)) (hPn : P.length = n) (hln : ls.length = m) (hc : n ≤ c) (hn : n ≤ 100000) (hm : m ≤ 100000) (hfit : FitL n ls 0) :
    Calls Try.prog 23 #[.slice A n c, .slice A2 m c2] w (MadeOut w (conC P ls 0)) := by
  obtain ⟨R, hR⟩ : ∃ R, R = conC P ls 0 := ⟨_, rfl⟩
  rw [← hR]
  have HP := Lib.hid hP
  have HL := Lib.hid hl
  have HPN := Lib.hid hPn
  have HLN := Lib.hid hln
  have Q0 : Hid (R = [] ++ conC P (ls.drop 0) 0 ∧ FitL n (ls.drop 0) 0) := Lib.hid ⟨by rw [hR]; rfl, hfit⟩
  clear hP hl hPn hln hR hfit
  obtain ⟨ib2, hib2, hz2, hs2, hy2⟩ := info_parts1 rowInfo
  go_enter Try.func23, Try.ntmps23
  go_wp2
  go_loopw [5, 6, 11] (fun v fv i wr => ∃ (j first : Nat) (acc : List (List Pt)), j ≤ m ∧ acc.length = j ∧ first ≤ n ∧ i = .int .i64 (j : Nat) ∧ fv = .int .i64 (first : Nat) ∧ Own2 wr w.heap.size v acc ∧ Below w.heap.size w wr ∧ Hid (R = acc ++ conC P (ls.drop j) first ∧ FitL n (ls.drop j) first)) (fun _ _ i _ => m - (intOf i).toNat)
  case atStart => exact ⟨0, 0, [], Nat.zero_le _, rfl, Nat.zero_le _, rfl, rfl, Own2.nil _ _, Below.refl _ _, Q0⟩
  case round =>
    clear Q0
    obtain ⟨j, first, acc, hj, hacc, hfn, rfl, rfl, hO, hb, hQ⟩ := hrel
    by_cases hlt : j < m
    · have d1 : decide ((j : Int) < (m : Int)) = true := by simp; omega
      obtain ⟨l, hl⟩ : ∃ l, ls[j]? = some l := ⟨_, List.getElem?_eq_getElem (by rw [HLN.out]; exact hlt)⟩
      obtain ⟨f1, f2, f3⟩ := fit_next hl hQ.out.2
      have HQ2 := Lib.hid (show R = (acc ++ [(P.drop first).take (l + 1 - first)]) ++ conC P (ls.drop (j + 1)) (l + 1) ∧ FitL n (ls.drop (j + 1)) (l + 1) from ⟨by rw [hQ.out.1, con_next hl]; simp, f3⟩)
      have hil : (ints ls)[j]? = some (.int .i64 (l : Nat)) := by unfold ints; rw [List.getElem?_map, hl]; rfl
      obtain ⟨bl, ol, rfl, hbl, hcl⟩ := HL.out.plain (by intro e; rw [e] at hil; simp at hil)
      have c0 := (hb.cell (p := ⟨bl, ol + j, none⟩) hbl).trans (hcl j _ hil)
      have g3 : bl < wr.heap.size := Nat.lt_of_lt_of_le hbl hb.size
      have e1 : IntKind.i64.wrap ((l : Int) + 1) = ((l + 1 : Nat) : Int) := by rw [IntWalk.i64_in _ (by omega)]; omega
      have SL := fun W => slice_okP A n c first (l + 1) (by omega) (by omega) (by omega) W
      rw [show ((l + 1 : Nat) : Int) = (l : Int) + 1 by omega] at SL e1
      obtain ⟨k, hk⟩ : ∃ k, k = l + 1 - first := ⟨_, rfl⟩
      have HK := Lib.hid hk
      rw [← hk] at SL HQ2
      have hkn : ((P.drop first).take k).length = k := by rw [List.length_take, List.length_drop, HPN.out]; omega
      have hLc : Lists wr w.heap.size (A.map (·.add (first * 3))) (ptCells ((P.drop first).take k)) := by
        rw [ptCells_take, ptCells_drop]
        exact (lists_part HP.out (first * 3) (k * 3)).below hb
      have CL := pclone_any w.heap.size (A.map (·.add (first * 3))) (c - first) ((P.drop first).take k) wr hb.size hLc (by rw [hkn]; omega)
      rw [hkn] at CL
      unfold MadeRow at CL
      rw [hkn] at CL
      obtain ⟨rows, ho, hi⟩ := hO
      have HO := Lib.hid ho
      have HI := Lib.hid hi
      have HKN := Lib.hid hkn
      have hbs := hb.size
      have hk5 : k ≤ 100000 := by omega
      clear hk hLc hQ hl hil hcl f3 hkn ho hi
      generalize (P.drop first).take k = L at *
      rw [hacc] at HO
      go_wp2_with (first | (go_at_call 64; ((with_reducible refine (CL).mono ?_); rintro e w1 ⟨v1, rfl, own1, b1⟩; obtain ⟨A1, c1, rfl, _, _⟩ := own_lists own1)) | (at_builtin; refine wpList_append_src _ rfl (.tmp 15) (.tmp 22) 23 rfl w.heap.size 43 ib2 (.slice none 0 0) 1 24 Try.underlying23 hib2 hz2 hs2 hy2 rfl (by decide) _ j rows rfl (own_stay (own_stay HO.out b1) ((Below.refl _ _).alloc (Nat.le_refl _) _)) _ _ 1 1 [.slice A1 k c1] rfl (lists_new1 w1 _ _) rfl (fun u hu => by simp at hu; subst hu; rfl) (by simp only [maxLen]; omega) (by omega) (by have := b1.size; simp; omega) ?_; intro v2 w2 own2 hg2 _))
      have hN2 : Own2 w2 w.heap.size v2 (acc ++ [L]) := own2_push hbs (by rw [hacc]; exact HO.out) HI.out b1 (by rw [HKN.out]; exact own1) ((Below.refl w1.heap.size w1).alloc (Nat.le_refl _) (.cells #[.slice A1 k c1] 43)) (by rw [hacc]; exact own2) hg2
      have hB2 : Below w.heap.size w w2 := ((hb.trans (b1.mono hbs)).alloc (Nat.le_trans hbs b1.size) (.cells #[.slice A1 k c1] 43)).grown hg2 (by have := b1.size; simp; omega) (fun x hx => (HO.out.lt x hx).1)
      go_roundw
      case rel => exact ⟨j + 1, l + 1, _, by omega, by simp [hacc], by omega, by first | rfl | (go_num), by first | rfl | (go_num), hN2, hB2, HQ2⟩
      case measure => first | (simp [intOf]; done) | (simp [intOf]; omega)
    · obtain rfl : j = m := by omega
      have d1 : ¬ (j : Int) < (j : Int) := by omega
      have HR := Lib.hid (show R = acc by rw [hQ.out.1, List.drop_eq_nil_of_le (by rw [HLN.out]; exact Nat.le_refl _)]; simp [conC])
      have HO := Lib.hid hO
      clear hQ hO
      go_wp2
      refine bodyPost_ret (results_tmp rfl _ _ _) rfl ⟨_, rfl, ?_, hb⟩
      rw [HR.out]; exact HO.out
end Go.Proofs.Ytelhckckcilpaaa

namespace Go.Proofs.Ytelhckckcilpaaa
open Go Go.RowKit
set_option linter.unusedVariables false
set_option linter.unusedSimpArgs false
variable {q : Nat → Prop}

set_option maxRecDepth 100000 in
set_option maxHeartbeats 1000000 in
theorem rpts_any (p k n : Nat) (bs : List Value) (w : World) (h : RS q w p bs k) (hL : bs.length ≤ 4611686018427387904) (hn : n ≤ 4096) (hp : p < w.heap.size) (hq : ∀ b, q b → b < w.heap.size) :
    Calls Try.prog 20 #[.pointer (some ⟨p, 0, none⟩), .int .i64 (n : Nat)] w (RPtsP q w p bs n (rpK bs n k) (rpC bs n k)) := by
  have h8 := h.bytes
  have CF := rflags_any p k n bs w h hL (by omega) hp hq
  have hfl := flg_lt h8 n n k [] (fun f hf => by simp at hf)
  unfold rpC rpK
  obtain ⟨F, hF⟩ : ∃ F, F = (flgC bs n n k []).1 := ⟨_, rfl⟩
  obtain ⟨k1, hk1⟩ : ∃ k1, k1 = (flgC bs n n k []).2 := ⟨_, rfl⟩
  rw [← hF, ← hk1] at CF ⊢
  rw [← hF] at hfl
  clear hF hk1 h
  by_cases hlen : F.length = n
  · rw [if_pos hlen]
    rw [hlen] at CF
    have d1 : ((n : Int) != (n : Int)) = false := by simp
    have MZ := fun W => make_zer n (by omega) W
    have HLN := Lib.hid hlen
    have HFL := Lib.hid hfl
    have hXl : (rpX bs n F k1).1.length = n := by unfold rpX; rw [carr_len _ _ _ _ _ _ _ (by simp [zer, hlen])]; simp [zer]
    have hYl : (rpY bs n F k1).1.length = n := by unfold rpY; rw [carr_len _ _ _ _ _ _ _ (by simp [zer, hlen])]; simp [zer]
    have hXb : ∀ x ∈ (rpX bs n F k1).1, -100000 ≤ x ∧ x ≤ 100000 := carr_bnd _ _ (rf1_bnd h8) (rf2_bnd h8) 1 4 F _ _ (zer_bnd n)
    have hYb : ∀ x ∈ (rpY bs n F k1).1, -100000 ≤ x ∧ x ≤ 100000 := carr_bnd _ _ (rf1_bnd h8) (rf2_bnd h8) 2 5 F _ _ (zer_bnd n)
    obtain ⟨X, hX⟩ : ∃ X, X = (rpX bs n F k1).1 := ⟨_, rfl⟩
    obtain ⟨Y, hY⟩ : ∃ Y, Y = (rpY bs n F k1).1 := ⟨_, rfl⟩
    obtain ⟨k3, hk3⟩ : ∃ k3, k3 = (rpY bs n F k1).2 := ⟨_, rfl⟩
    rw [← hX] at hXl hXb
    rw [← hY] at hYl hYb
    rw [← hX, ← hY, ← hk3]
    have HX := Lib.hid hX
    have HY := Lib.hid hY
    have HK3 := Lib.hid hk3
    have HXL := Lib.hid hXl
    have HYL := Lib.hid hYl
    have HXB := Lib.hid hXb
    have HYB := Lib.hid hYb
    obtain ⟨R, hR⟩ : ∃ R, R = ptsC F X Y 0 0 := ⟨_, rfl⟩
    rw [← hR]
    have HR := Lib.hid hR
    clear hX hY hk3 hXl hYl hXb hYb hR hlen hfl
    go_enter Try.func20, Try.ntmps20
    go_wp2_with (first | (go_at_call 58; ((with_reducible refine (CF).mono ?_); rintro e w1 ⟨v1, rfl, own1, r1, o1, hl1⟩; obtain ⟨A1, c1, rfl, _, _⟩ := own_lists own1)))
    have s1 := o1.size
    obtain ⟨s, hs⟩ : ∃ s, s = w1.heap.size := ⟨_, rfl⟩
    have K0 : Hid (Blk ((w1.alloc (.cells ((zer n).map (Value.int .i64)).toArray 3)).alloc (.cells ((zer n).map (Value.int .i64)).toArray 3)).drew s 3 ((zer n).map (Value.int .i64) ++ []).toArray) := Lib.hid (by rw [List.append_nil, hs]; exact (Blk.new w1 _ _).below ((below_a1 _ _).drew))
    have K1 : Hid (Blk ((w1.alloc (.cells ((zer n).map (Value.int .i64)).toArray 3)).alloc (.cells ((zer n).map (Value.int .i64)).toArray 3)).drew (s + 1) 3 ((zer n).map (Value.int .i64) ++ []).toArray) := Lib.hid (by rw [List.append_nil, hs]; have := Blk.new (w1.alloc (.cells ((zer n).map (Value.int .i64)).toArray 3)) 3 ((zer n).map (Value.int .i64)).toArray; rw [World.size_alloc] at this; exact this)
    have B4 : Below w1.heap.size w1 ((w1.alloc (.cells ((zer n).map (Value.int .i64)).toArray 3)).alloc (.cells ((zer n).map (Value.int .i64)).toArray 3)).drew := (below_a2 _ _ _).drew
    have hs4 : ((w1.alloc (.cells ((zer n).map (Value.int .i64)).toArray 3)).alloc (.cells ((zer n).map (Value.int .i64)).toArray 3)).drew.heap.size = s + 1 + 1 := by rw [hs]; show ((w1.alloc _).alloc _).heap.size = _; simp
    go_region
    all_goals
      generalize ((w1.alloc (.cells ((zer n).map (Value.int .i64)).toArray 3)).alloc (.cells ((zer n).map (Value.int .i64)).toArray 3)).drew = W4 at *
      rw [← hs]
      have HOW := Lib.hid (ownS_stay own1 B4)
      have HRD := Lib.hid (r1.below B4)
      have HON := Lib.hid (o1.then_below B4)
      have hbl := blk_lt own1
      have hlo := ownS_low own1
      have HOK : Hid (okR q p W4.heap.size (W4.heap.size + 1) (.slice A1 n c1) s ∧ okR q p W4.heap.size (W4.heap.size + 1) (.slice A1 n c1) (s + 1)) := Lib.hid ⟨⟨by omega, by omega, by omega, fun h => by have := hq _ h; omega, fun h => by have := hbl _ h; omega⟩, ⟨by omega, by omega, by omega, fun h => by have := hq _ h; omega, fun h => by have := hbl _ h; omega⟩⟩
      have hge1 : w.heap.size ≤ s := by omega
      have hge2 : s + 1 < W4.heap.size := by omega
      clear B4 own1 r1 o1 hs hs4
    · have KX : Blk W4 (s) 3 ((zer n).map (Value.int .i64) ++ []).toArray := K0.out
      have KY : Blk W4 (s + 1) 3 ((zer n).map (Value.int .i64) ++ []).toArray := K1.out
      have CS1 : ∀ V, RIn q p W4.heap.size (W4.heap.size + 1) w.heap.size bs (.slice A1 n c1) F k1 V → Blk V (s) 3 ((zer n).map (Value.int .i64) ++ []).toArray → Blk V (s + 1) 3 ((zer n).map (Value.int .i64) ++ []).toArray → Calls Try.prog 45 #[.slice A1 n c1, .slice (some ⟨s, 0, none⟩) n n, .slice (some ⟨s + 1, 0, none⟩) n n, .func (.func 85) #[] #[.pointer (some ⟨W4.heap.size, 0, none⟩)], .func (.func 85) #[] #[.pointer (some ⟨W4.heap.size + 1, 0, none⟩)]] V fun e w' => e = .returned (.tuple #[]) ∧ Blk w' (s) 3 (X.map (Value.int .i64) ++ []).toArray ∧ Blk w' (s + 1) 3 (Y.map (Value.int .i64) ++ []).toArray ∧ RIn q p W4.heap.size (W4.heap.size + 1) w.heap.size bs (.slice A1 n c1) F k3 w' ∧ Only V w' [s, s + 1, p] := fun V hI h1 h2 => by
        have := csteps_any 85 85 W4.heap.size (W4.heap.size + 1) (RIn q p W4.heap.size (W4.heap.size + 1) w.heap.size bs (.slice A1 n c1) F) (TO [p]) (okR q p W4.heap.size (W4.heap.size + 1) (.slice A1 n c1)) (rf1 bs) (rf2 bs) A1 c1 n (s) (s + 1) n n F (zer n) (zer n) [] [] k1 V (car_u8 p _ _ _ bs _ F hL h8) (car_i16 p _ _ _ bs _ F hL h8) (shared_r p _ _ _ bs A1 c1 n F HLN.out) HLN.out (by simp [zer]) (by simp [zer]) (by omega) HFL.out (zer_bnd n) (zer_bnd n) h1 h2 hI HOK.out.1 HOK.out.2 (by omega)
        rw [HX.out, HY.out, HK3.out]
        exact this.mono fun e w' ⟨h1, h2, h3, h4, w1, t1, t2⟩ => ⟨h1, h2, h3, h4, (t1.more (fun b hb => .inl (by simp only [List.mem_cons, List.not_mem_nil, or_false] at hb ⊢; rcases hb with h | h <;> simp [h]))).trans t2 (fun b hb => .inl (by simp only [List.mem_cons, List.not_mem_nil, or_false] at hb ⊢; rcases hb with h | h <;> simp [h]))⟩
      have b5 := below_a2 W4 (.cells #[.func (.func 60) #[.pointer (some ⟨p, 0, none⟩)] #[]] 42) (.cells #[.func (.func 30) #[.pointer (some ⟨p, 0, none⟩)] #[]] 42)
      have hz5 : ((W4.alloc (.cells #[.func (.func 60) #[.pointer (some ⟨p, 0, none⟩)] #[]] 42)).alloc (.cells #[.func (.func 30) #[.pointer (some ⟨p, 0, none⟩)] #[]] 42)).heap.size = W4.heap.size + 1 + 1 := by simp
      have R5 : RIn q p W4.heap.size (W4.heap.size + 1) w.heap.size bs (.slice A1 n c1) F k1 ((W4.alloc (.cells #[.func (.func 60) #[.pointer (some ⟨p, 0, none⟩)] #[]] 42)).alloc (.cells #[.func (.func 30) #[.pointer (some ⟨p, 0, none⟩)] #[]] 42)) := ⟨HRD.out.below b5, (Blk.new W4 _ _).below (below_a1 _ _), by have := Blk.new (W4.alloc (.cells #[.func (.func 60) #[.pointer (some ⟨p, 0, none⟩)] #[]] 42)) 42 #[.func (.func 30) #[.pointer (some ⟨p, 0, none⟩)] #[]]; rw [World.size_alloc] at this; exact this, by rw [HLN.out]; exact ownS_stay HOW.out b5, fun b hb => by have := hq b hb; omega, by omega, ⟨by omega, by omega, fun h => by have := hlo _ h; omega⟩⟩
      have KX5 := KX.below b5
      have KY5 := KY.below b5
      have HO5 := Lib.hid (HON.out.then_below b5)
      go_wp2_with (first | (go_at_call 59; ((with_reducible refine (spfrom_any _ _ _).mono ?_); rintro e w5 ⟨rfl, rfl⟩)) | (go_at_call 45; ((with_reducible refine (CS1 _ R5 KX5 KY5).mono ?_); rintro e w6 ⟨rfl, kx, ky, ri, o6⟩)))
      have hsz5 := b5.size
      have Q0 : PtQ q p bs k3 w F X Y R n (s) (s + 1) (.slice A1 n c1) 0 [] 0 0 (.slice none 0 0) w6 := ⟨World.ownsRow_nil _ _ _ _, rfl, by rw [HR.out]; simp, by omega, ri.flags, kx, ky, ri.rd, HO5.out.trans o6 (fun b hb => by
        simp only [List.mem_cons, List.not_mem_nil, or_false] at hb
        rcases hb with h | h | h
        · exact .inr (by omega)
        · exact .inr (by omega)
        · exact .inl (by simp [h]))⟩
      obtain ⟨i0, hi, hz0, hz1, hz2⟩ := info_partsS ptInfoS
      clear K0 K1 KX KY CS1 b5 hz5 R5 KX5 KY5 HO5 kx ky ri o6 HOW HRD HON HOK hge1 hge2 hsz5 hbl hlo
      go_loopw [9, 10, 11, 37] (fun v xv yv i wr => ∃ (k : Nat) (acc : List Pt) (x y : Int), k ≤ n ∧ i = .int .i64 (k : Nat) ∧ xv = .int .i64 x ∧ yv = .int .i64 y ∧ PtQ q p bs k3 w F X Y R n (s) (s + 1) (.slice A1 n c1) k acc x y v wr) (fun _ _ _ i _ => n - (intOf i).toNat)
      case atStart => exact ⟨0, [], 0, 0, Nat.zero_le _, rfl, rfl, rfl, Q0⟩
      case round =>
        clear Q0
        obtain ⟨i, acc, x, y, hk, rfl, rfl, rfl, Q⟩ := hrel
        obtain ⟨x0, x1, y0, y1⟩ := Q.xin
        by_cases hlt : i < n
        · have d2 : decide ((i : Int) < (n : Int)) = true := by simp; omega
          obtain ⟨f, hf⟩ : ∃ f, F[i]? = some f := ⟨_, List.getElem?_eq_getElem (by rw [HLN.out]; exact hlt)⟩
          obtain ⟨a, ha⟩ : ∃ a, X[i]? = some a := ⟨_, List.getElem?_eq_getElem (by rw [HXL.out]; exact hlt)⟩
          obtain ⟨b, hb⟩ : ∃ b, Y[i]? = some b := ⟨_, List.getElem?_eq_getElem (by rw [HYL.out]; exact hlt)⟩
          obtain ⟨a0, a1⟩ := HXB.out a (List.mem_of_getElem? ha)
          obtain ⟨b0, b1⟩ := HYB.out b (List.mem_of_getElem? hb)
          have hf2 := HFL.out f (List.mem_of_getElem? hf)
          obtain ⟨A', c', heA, hlF, _⟩ := own_lists Q.fl
          have hAA : A1 = A' := by injection heA
          subst hAA
          have hif : (ints F)[i]? = some (.int .i64 (f : Nat)) := by unfold ints; rw [List.getElem?_map, hf]; rfl
          obtain ⟨bf, of, rfl, hbf, hcf⟩ := hlF.plain (by intro e; rw [e] at hif; simp at hif)
          have cf := hcf i _ hif
          have hax : ((X.map (Value.int .i64) ++ []).toArray)[i]? = some (.int .i64 a) := by simp [ha]
          have hby : ((Y.map (Value.int .i64) ++ []).toArray)[i]? = some (.int .i64 b) := by simp [hb]
          have HC := Lib.hid (show ∀ V, Below wr.heap.size wr V → V.cell? ⟨s, i, none⟩ = some (.int .i64 a) ∧ V.cell? ⟨s + 1, i, none⟩ = some (.int .i64 b) ∧ s < V.heap.size ∧ s + 1 < V.heap.size from fun V hV => ⟨((Q.bx.below hV).cell i).trans hax, ((Q.by_.below hV).cell i).trans hby, (Q.bx.below hV).lt, (Q.by_.below hV).lt⟩)
          have hrun := Q.run
          rw [pts_next hf ha hb] at hrun
          have HRUN := Lib.hid hrun
          have HQ := Lib.hid Q
          have hon := Q.on.size
          have e1 : IntKind.i64.wrap (x + a) = x + a := IntWalk.i64_in _ (by omega)
          have e2 : IntKind.i64.wrap (y + b) = y + b := IntWalk.i64_in _ (by omega)
          clear Q hrun hax hby hif hcf hlF heA hf ha hb
          go_wp2
          refine wp_region_chain (fun V => Below wr.heap.size wr V) [(0, false), (1, false), (2, false), (3, false), (4, false), (5, false), (6, false), (7, false), (8, false), (9, false), (10, false), (11, false), (12, false), (13, false)] (by kernel_rfl) (by kernel_rfl) ((Below.refl _ _).drew) ?_
          repeat (first
            | (refine ChainL.skip (o := ?_) ?_ ?_ ?_; rotate_left; (focus (first | (simp only [List.getElem?_toArray, List.getElem?_cons_succ, List.getElem?_cons_zero]; with_reducible rfl) | (simp only [List.getElem?_toArray, List.getElem?_cons_zero]; with_reducible rfl))); (focus rfl); simp only [Act.put, List.setIfInBounds_toArray, List.set_cons_zero, List.set_cons_succ])
            | (refine ChainL.val (o := ?_) (v := ?_) ?_ ?_ ?_ ?_ ?_; rotate_left 2; (focus (first | (simp only [List.getElem?_toArray, List.getElem?_cons_succ, List.getElem?_cons_zero]; with_reducible rfl) | (simp only [List.getElem?_toArray, List.getElem?_cons_zero]; with_reducible rfl))); (focus (intro _ _ h; cases h)); (focus rfl); (focus (intro w' hJ; obtain ⟨y1, y2, y3, y4⟩ := HC.out _ hJ; go_simp <;> with_reducible rfl)); simp only [Act.put, List.setIfInBounds_toArray, List.set_cons_zero, List.set_cons_succ]))
          refine ChainL.nil ?_
          have B8 : Below wr.heap.size wr wr.drew := (Below.refl _ _).drew
          have hs8 : wr.heap.size ≤ wr.drew.heap.size := B8.size
          generalize wr.drew = w8 at *
          have E1 := Lib.hid e1
          have E2 := Lib.hid e2
          clear e1 e2 cf
          have L8 : Lists (w8.alloc (.cells #[.int .i64 (x + a), .int .i64 (y + b)] 3)) (w8.alloc (.cells #[.int .i64 (x + a), .int .i64 (y + b)] 3)).heap.size (some ⟨w8.heap.size, 0, none⟩) (intCells [x + a, y + b]) := (lists_row w8 [.int .i64 (x + a), .int .i64 (y + b)] 3).more (by simp)
          have CT := spfits_any (some ⟨w8.heap.size, 0, none⟩) 2 (x + a) (y + b) (w8.alloc (.cells #[.int .i64 (x + a), .int .i64 (y + b)] 3)) L8
          have BA := B8.trans ((below_a1 w8 (.cells #[.int .i64 (x + a), .int .i64 (y + b)] 3)).mono hs8)
          clear L8
          cases hin : inS (x + a) && inS (y + b)
          · rw [hin] at CT
            have HN := Lib.hid (show R = none by rw [HRUN.out, hin]; rfl)
            clear hin HRUN
            go_wp2_with (first | (go_at_call 61; ((with_reducible refine (CT).mono ?_); rintro e w9 ⟨rfl, b9⟩)))
            have BT := BA.trans (b9.mono BA.size)
            exact bodyPost_ret (results_tmp2 rfl _ _ _) rfl (RPtsP.no HN.out k3 (HQ.out.rd.below BT) (HQ.out.on.then_below BT))
          · rw [hin] at CT
            have HN := Lib.hid (show R = ((ptsC (F.drop (i + 1)) (X.drop (i + 1)) (Y.drop (i + 1)) (x + a) (y + b)).map (((x + a) * 65536, (y + b) * 65536, knd f) :: ·)).map (acc ++ ·) by rw [HRUN.out, hin]; rfl)
            have hin2 : -32768 ≤ x + a ∧ x + a ≤ 32767 ∧ -32768 ≤ y + b ∧ y + b ≤ 32767 := by
              unfold inS at hin
              simp at hin
              omega
            clear hin HRUN
            obtain ⟨i1, ib2, i3, i4⟩ := hin2
            have CK := fun W => kind_any f hf2 W
            have hkd : (if bt f 0 then (1 : Int) else 2) = knd f := rfl
            rw [hkd] at CK
            have e3 : IntKind.i64.wrap ((x + a) * 65536) = (x + a) * 65536 := IntWalk.i64_in _ (by omega)
            have e4 : IntKind.i64.wrap ((y + b) * 65536) = (y + b) * 65536 := IntWalk.i64_in _ (by omega)
            obtain ⟨na, hna⟩ : ∃ na, na = acc.length := ⟨_, rfl⟩
            have hnl : na ≤ 4096 := by rw [hna, HQ.out.len]; omega
            have HNA := Lib.hid hna
            have hown := HQ.out.own
            rw [← hna] at hown
            have HOWN := Lib.hid hown
            clear hna hown hkd
            go_wp2_with (first | (go_at_call 61; ((with_reducible refine (CT).mono ?_); rintro e w9 ⟨rfl, b9⟩)) | (go_at_call 62; ((with_reducible refine (CK _).mono ?_); rintro e w10 ⟨rfl, h10⟩; obtain rfl : w9 = w10 := h10.symm)) | (at_builtin; refine wpList_append_src _ rfl (.tmp 59) (.tmp 67) 43 rfl w.heap.size 57 i0 (.agg #[.int .i64 0, .int .i64 0, .int .i64 0]) 3 24 Try.underlying43 hi hz0 hz1 hz2 rfl (by decide) _ na (ptCells acc) rfl (ownS_stay HOWN.out ((BA.trans (b9.mono BA.size)).trans ((below_a1 w9 (.cells #[.int .i64 ((x + a) * 65536), .int .i64 ((y + b) * 65536), .int .i64 (knd f)] 57)).mono (BA.trans (b9.mono BA.size)).size))) (w9.heap.size + 1) (some ⟨w9.heap.size, 0, none⟩) 1 1 [.int .i64 ((x + a) * 65536), .int .i64 ((y + b) * 65536), .int .i64 (knd f)] (by rfl) (lists_row w9 [.int .i64 ((x + a) * 65536), .int .i64 ((y + b) * 65536), .int .i64 (knd f)] 57) rfl (by simp [Value.oneCell']) (by simp only [maxLen]; omega) (by omega) (by have := BA.size; have := b9.size; simp at *; omega) ?_; intro v7 w7 own7 hg7 hat7))
            have BT := (BA.trans (b9.mono BA.size)).trans ((below_a1 w9 (.cells #[.int .i64 ((x + a) * 65536), .int .i64 ((y + b) * 65536), .int .i64 (knd f)] 57)).mono (BA.trans (b9.mono BA.size)).size)
            have hlow := ownS_low HOWN.out
            have og : Only _ w7 (blk u9) := (Only.refl _ (blk u9)).grown hg7 (fun b hb' => .inl (by have h9 : u9.ownBlock = some b := hb'; unfold blk; rw [h9]; simp))
            have hQ := HQ.out
            have QN : PtQ q p bs k3 w F X Y R n (s) (s + 1) (.slice (some ⟨bf, of, none⟩) n c1) (i + 1) (acc ++ [((x + a) * 65536, (y + b) * 65536, knd f)]) (x + a) (y + b) v7 w7 := by
              refine ⟨?_, by rw [List.length_append, hQ.len]; rfl, ?_, ⟨i1, ib2, i3, i4⟩, ?_, ?_, ?_, ?_, ?_⟩
              · rw [List.length_append, ← HNA.out, ptCells_append]; exact own7
              · rw [HN.out, Option.map_map]; congr 1; funext L; simp
              · exact own_only (ownS_stay hQ.fl BT) og (fun b hb => own_own (ownS_stay hQ.fl BT) (ownS_stay HOWN.out BT) (by decide) b hb)
              · exact (hQ.bx.below BT).only og (fun hm => own_ne (ownS_stay HOWN.out BT) (hQ.bx.below BT) (by decide) hm)
              · exact (hQ.by_.below BT).only og (fun hm => own_ne (ownS_stay HOWN.out BT) (hQ.by_.below BT) (by decide) hm)
              · exact (hQ.rd.below BT).only og (fun hm => by have := hlow _ hm; omega) (fun b hb hqb => by have := hlow b hb; have := hq b hqb; omega)
              · exact (hQ.on.then_below BT).trans og (fun b hb => .inr (hlow b hb))
            go_roundw
            case rel => exact ⟨i + 1, _, _, _, by omega, by first | rfl | (go_num), rfl, rfl, QN⟩
            case measure => first | (simp [intOf]; done) | (simp [intOf]; omega)
        · obtain rfl : i = n := by omega
          have d2 : ¬ (i : Int) < (i : Int) := by omega
          have HN := Lib.hid (show R = some acc by
            rw [Q.run, List.drop_eq_nil_of_le (by rw [HLN.out]; exact Nat.le_refl _)]
            simp [ptsC])
          have HQ := Lib.hid Q
          clear Q
          go_wp2
          exact bodyPost_ret (results_tmp2 rfl _ _ _) rfl (by show RPtsP q w p bs _ k3 R (.returned (.tuple #[u9, .bool true])) wr; exact RPtsP.yes HN.out HQ.out.own HQ.out.len HQ.out.rd HQ.out.on)
    · have KX : Blk W4 (s + 1) 3 ((zer n).map (Value.int .i64) ++ []).toArray := K1.out
      have KY : Blk W4 (s) 3 ((zer n).map (Value.int .i64) ++ []).toArray := K0.out
      have CS1 : ∀ V, RIn q p W4.heap.size (W4.heap.size + 1) w.heap.size bs (.slice A1 n c1) F k1 V → Blk V (s + 1) 3 ((zer n).map (Value.int .i64) ++ []).toArray → Blk V (s) 3 ((zer n).map (Value.int .i64) ++ []).toArray → Calls Try.prog 45 #[.slice A1 n c1, .slice (some ⟨s + 1, 0, none⟩) n n, .slice (some ⟨s, 0, none⟩) n n, .func (.func 85) #[] #[.pointer (some ⟨W4.heap.size, 0, none⟩)], .func (.func 85) #[] #[.pointer (some ⟨W4.heap.size + 1, 0, none⟩)]] V fun e w' => e = .returned (.tuple #[]) ∧ Blk w' (s + 1) 3 (X.map (Value.int .i64) ++ []).toArray ∧ Blk w' (s) 3 (Y.map (Value.int .i64) ++ []).toArray ∧ RIn q p W4.heap.size (W4.heap.size + 1) w.heap.size bs (.slice A1 n c1) F k3 w' ∧ Only V w' [s + 1, s, p] := fun V hI h1 h2 => by
        have := csteps_any 85 85 W4.heap.size (W4.heap.size + 1) (RIn q p W4.heap.size (W4.heap.size + 1) w.heap.size bs (.slice A1 n c1) F) (TO [p]) (okR q p W4.heap.size (W4.heap.size + 1) (.slice A1 n c1)) (rf1 bs) (rf2 bs) A1 c1 n (s + 1) (s) n n F (zer n) (zer n) [] [] k1 V (car_u8 p _ _ _ bs _ F hL h8) (car_i16 p _ _ _ bs _ F hL h8) (shared_r p _ _ _ bs A1 c1 n F HLN.out) HLN.out (by simp [zer]) (by simp [zer]) (by omega) HFL.out (zer_bnd n) (zer_bnd n) h1 h2 hI HOK.out.2 HOK.out.1 (by omega)
        rw [HX.out, HY.out, HK3.out]
        exact this.mono fun e w' ⟨h1, h2, h3, h4, w1, t1, t2⟩ => ⟨h1, h2, h3, h4, (t1.more (fun b hb => .inl (by simp only [List.mem_cons, List.not_mem_nil, or_false] at hb ⊢; rcases hb with h | h <;> simp [h]))).trans t2 (fun b hb => .inl (by simp only [List.mem_cons, List.not_mem_nil, or_false] at hb ⊢; rcases hb with h | h <;> simp [h]))⟩
      have b5 := below_a2 W4 (.cells #[.func (.func 60) #[.pointer (some ⟨p, 0, none⟩)] #[]] 42) (.cells #[.func (.func 30) #[.pointer (some ⟨p, 0, none⟩)] #[]] 42)
      have hz5 : ((W4.alloc (.cells #[.func (.func 60) #[.pointer (some ⟨p, 0, none⟩)] #[]] 42)).alloc (.cells #[.func (.func 30) #[.pointer (some ⟨p, 0, none⟩)] #[]] 42)).heap.size = W4.heap.size + 1 + 1 := by simp
      have R5 : RIn q p W4.heap.size (W4.heap.size + 1) w.heap.size bs (.slice A1 n c1) F k1 ((W4.alloc (.cells #[.func (.func 60) #[.pointer (some ⟨p, 0, none⟩)] #[]] 42)).alloc (.cells #[.func (.func 30) #[.pointer (some ⟨p, 0, none⟩)] #[]] 42)) := ⟨HRD.out.below b5, (Blk.new W4 _ _).below (below_a1 _ _), by have := Blk.new (W4.alloc (.cells #[.func (.func 60) #[.pointer (some ⟨p, 0, none⟩)] #[]] 42)) 42 #[.func (.func 30) #[.pointer (some ⟨p, 0, none⟩)] #[]]; rw [World.size_alloc] at this; exact this, by rw [HLN.out]; exact ownS_stay HOW.out b5, fun b hb => by have := hq b hb; omega, by omega, ⟨by omega, by omega, fun h => by have := hlo _ h; omega⟩⟩
      have KX5 := KX.below b5
      have KY5 := KY.below b5
      have HO5 := Lib.hid (HON.out.then_below b5)
      go_wp2_with (first | (go_at_call 59; ((with_reducible refine (spfrom_any _ _ _).mono ?_); rintro e w5 ⟨rfl, rfl⟩)) | (go_at_call 45; ((with_reducible refine (CS1 _ R5 KX5 KY5).mono ?_); rintro e w6 ⟨rfl, kx, ky, ri, o6⟩)))
      have hsz5 := b5.size
      have Q0 : PtQ q p bs k3 w F X Y R n (s + 1) (s) (.slice A1 n c1) 0 [] 0 0 (.slice none 0 0) w6 := ⟨World.ownsRow_nil _ _ _ _, rfl, by rw [HR.out]; simp, by omega, ri.flags, kx, ky, ri.rd, HO5.out.trans o6 (fun b hb => by
        simp only [List.mem_cons, List.not_mem_nil, or_false] at hb
        rcases hb with h | h | h
        · exact .inr (by omega)
        · exact .inr (by omega)
        · exact .inl (by simp [h]))⟩
      obtain ⟨i0, hi, hz0, hz1, hz2⟩ := info_partsS ptInfoS
      clear K0 K1 KX KY CS1 b5 hz5 R5 KX5 KY5 HO5 kx ky ri o6 HOW HRD HON HOK hge1 hge2 hsz5 hbl hlo
      go_loopw [9, 10, 11, 37] (fun v xv yv i wr => ∃ (k : Nat) (acc : List Pt) (x y : Int), k ≤ n ∧ i = .int .i64 (k : Nat) ∧ xv = .int .i64 x ∧ yv = .int .i64 y ∧ PtQ q p bs k3 w F X Y R n (s + 1) (s) (.slice A1 n c1) k acc x y v wr) (fun _ _ _ i _ => n - (intOf i).toNat)
      case atStart => exact ⟨0, [], 0, 0, Nat.zero_le _, rfl, rfl, rfl, Q0⟩
      case round =>
        clear Q0
        obtain ⟨i, acc, x, y, hk, rfl, rfl, rfl, Q⟩ := hrel
        obtain ⟨x0, x1, y0, y1⟩ := Q.xin
        by_cases hlt : i < n
        · have d2 : decide ((i : Int) < (n : Int)) = true := by simp; omega
          obtain ⟨f, hf⟩ : ∃ f, F[i]? = some f := ⟨_, List.getElem?_eq_getElem (by rw [HLN.out]; exact hlt)⟩
          obtain ⟨a, ha⟩ : ∃ a, X[i]? = some a := ⟨_, List.getElem?_eq_getElem (by rw [HXL.out]; exact hlt)⟩
          obtain ⟨b, hb⟩ : ∃ b, Y[i]? = some b := ⟨_, List.getElem?_eq_getElem (by rw [HYL.out]; exact hlt)⟩
          obtain ⟨a0, a1⟩ := HXB.out a (List.mem_of_getElem? ha)
          obtain ⟨b0, b1⟩ := HYB.out b (List.mem_of_getElem? hb)
          have hf2 := HFL.out f (List.mem_of_getElem? hf)
          obtain ⟨A', c', heA, hlF, _⟩ := own_lists Q.fl
          have hAA : A1 = A' := by injection heA
          subst hAA
          have hif : (ints F)[i]? = some (.int .i64 (f : Nat)) := by unfold ints; rw [List.getElem?_map, hf]; rfl
          obtain ⟨bf, of, rfl, hbf, hcf⟩ := hlF.plain (by intro e; rw [e] at hif; simp at hif)
          have cf := hcf i _ hif
          have hax : ((X.map (Value.int .i64) ++ []).toArray)[i]? = some (.int .i64 a) := by simp [ha]
          have hby : ((Y.map (Value.int .i64) ++ []).toArray)[i]? = some (.int .i64 b) := by simp [hb]
          have HC := Lib.hid (show ∀ V, Below wr.heap.size wr V → V.cell? ⟨s + 1, i, none⟩ = some (.int .i64 a) ∧ V.cell? ⟨s, i, none⟩ = some (.int .i64 b) ∧ s + 1 < V.heap.size ∧ s < V.heap.size from fun V hV => ⟨((Q.bx.below hV).cell i).trans hax, ((Q.by_.below hV).cell i).trans hby, (Q.bx.below hV).lt, (Q.by_.below hV).lt⟩)
          have hrun := Q.run
          rw [pts_next hf ha hb] at hrun
          have HRUN := Lib.hid hrun
          have HQ := Lib.hid Q
          have hon := Q.on.size
          have e1 : IntKind.i64.wrap (x + a) = x + a := IntWalk.i64_in _ (by omega)
          have e2 : IntKind.i64.wrap (y + b) = y + b := IntWalk.i64_in _ (by omega)
          clear Q hrun hax hby hif hcf hlF heA hf ha hb
          go_wp2
          refine wp_region_chain (fun V => Below wr.heap.size wr V) [(0, false), (1, false), (2, false), (3, false), (4, false), (5, false), (6, false), (7, false), (8, false), (9, false), (10, false), (11, false), (12, false), (13, false)] (by kernel_rfl) (by kernel_rfl) ((Below.refl _ _).drew) ?_
          repeat (first
            | (refine ChainL.skip (o := ?_) ?_ ?_ ?_; rotate_left; (focus (first | (simp only [List.getElem?_toArray, List.getElem?_cons_succ, List.getElem?_cons_zero]; with_reducible rfl) | (simp only [List.getElem?_toArray, List.getElem?_cons_zero]; with_reducible rfl))); (focus rfl); simp only [Act.put, List.setIfInBounds_toArray, List.set_cons_zero, List.set_cons_succ])
            | (refine ChainL.val (o := ?_) (v := ?_) ?_ ?_ ?_ ?_ ?_; rotate_left 2; (focus (first | (simp only [List.getElem?_toArray, List.getElem?_cons_succ, List.getElem?_cons_zero]; with_reducible rfl) | (simp only [List.getElem?_toArray, List.getElem?_cons_zero]; with_reducible rfl))); (focus (intro _ _ h; cases h)); (focus rfl); (focus (intro w' hJ; obtain ⟨y1, y2, y3, y4⟩ := HC.out _ hJ; go_simp <;> with_reducible rfl)); simp only [Act.put, List.setIfInBounds_toArray, List.set_cons_zero, List.set_cons_succ]))
          refine ChainL.nil ?_
          have B8 : Below wr.heap.size wr wr.drew := (Below.refl _ _).drew
          have hs8 : wr.heap.size ≤ wr.drew.heap.size := B8.size
          generalize wr.drew = w8 at *
          have E1 := Lib.hid e1
          have E2 := Lib.hid e2
          clear e1 e2 cf
          have L8 : Lists (w8.alloc (.cells #[.int .i64 (x + a), .int .i64 (y + b)] 3)) (w8.alloc (.cells #[.int .i64 (x + a), .int .i64 (y + b)] 3)).heap.size (some ⟨w8.heap.size, 0, none⟩) (intCells [x + a, y + b]) := (lists_row w8 [.int .i64 (x + a), .int .i64 (y + b)] 3).more (by simp)
          have CT := spfits_any (some ⟨w8.heap.size, 0, none⟩) 2 (x + a) (y + b) (w8.alloc (.cells #[.int .i64 (x + a), .int .i64 (y + b)] 3)) L8
          have BA := B8.trans ((below_a1 w8 (.cells #[.int .i64 (x + a), .int .i64 (y + b)] 3)).mono hs8)
          clear L8
          cases hin : inS (x + a) && inS (y + b)
          · rw [hin] at CT
            have HN := Lib.hid (show R = none by rw [HRUN.out, hin]; rfl)
            clear hin HRUN
            go_wp2_with (first | (go_at_call 61; ((with_reducible refine (CT).mono ?_); rintro e w9 ⟨rfl, b9⟩)))
            have BT := BA.trans (b9.mono BA.size)
            exact bodyPost_ret (results_tmp2 rfl _ _ _) rfl (RPtsP.no HN.out k3 (HQ.out.rd.below BT) (HQ.out.on.then_below BT))
          · rw [hin] at CT
            have HN := Lib.hid (show R = ((ptsC (F.drop (i + 1)) (X.drop (i + 1)) (Y.drop (i + 1)) (x + a) (y + b)).map (((x + a) * 65536, (y + b) * 65536, knd f) :: ·)).map (acc ++ ·) by rw [HRUN.out, hin]; rfl)
            have hin2 : -32768 ≤ x + a ∧ x + a ≤ 32767 ∧ -32768 ≤ y + b ∧ y + b ≤ 32767 := by
              unfold inS at hin
              simp at hin
              omega
            clear hin HRUN
            obtain ⟨i1, ib2, i3, i4⟩ := hin2
            have CK := fun W => kind_any f hf2 W
            have hkd : (if bt f 0 then (1 : Int) else 2) = knd f := rfl
            rw [hkd] at CK
            have e3 : IntKind.i64.wrap ((x + a) * 65536) = (x + a) * 65536 := IntWalk.i64_in _ (by omega)
            have e4 : IntKind.i64.wrap ((y + b) * 65536) = (y + b) * 65536 := IntWalk.i64_in _ (by omega)
            obtain ⟨na, hna⟩ : ∃ na, na = acc.length := ⟨_, rfl⟩
            have hnl : na ≤ 4096 := by rw [hna, HQ.out.len]; omega
            have HNA := Lib.hid hna
            have hown := HQ.out.own
            rw [← hna] at hown
            have HOWN := Lib.hid hown
            clear hna hown hkd
            go_wp2_with (first | (go_at_call 61; ((with_reducible refine (CT).mono ?_); rintro e w9 ⟨rfl, b9⟩)) | (go_at_call 62; ((with_reducible refine (CK _).mono ?_); rintro e w10 ⟨rfl, h10⟩; obtain rfl : w9 = w10 := h10.symm)) | (at_builtin; refine wpList_append_src _ rfl (.tmp 59) (.tmp 67) 43 rfl w.heap.size 57 i0 (.agg #[.int .i64 0, .int .i64 0, .int .i64 0]) 3 24 Try.underlying43 hi hz0 hz1 hz2 rfl (by decide) _ na (ptCells acc) rfl (ownS_stay HOWN.out ((BA.trans (b9.mono BA.size)).trans ((below_a1 w9 (.cells #[.int .i64 ((x + a) * 65536), .int .i64 ((y + b) * 65536), .int .i64 (knd f)] 57)).mono (BA.trans (b9.mono BA.size)).size))) (w9.heap.size + 1) (some ⟨w9.heap.size, 0, none⟩) 1 1 [.int .i64 ((x + a) * 65536), .int .i64 ((y + b) * 65536), .int .i64 (knd f)] (by rfl) (lists_row w9 [.int .i64 ((x + a) * 65536), .int .i64 ((y + b) * 65536), .int .i64 (knd f)] 57) rfl (by simp [Value.oneCell']) (by simp only [maxLen]; omega) (by omega) (by have := BA.size; have := b9.size; simp at *; omega) ?_; intro v7 w7 own7 hg7 hat7))
            have BT := (BA.trans (b9.mono BA.size)).trans ((below_a1 w9 (.cells #[.int .i64 ((x + a) * 65536), .int .i64 ((y + b) * 65536), .int .i64 (knd f)] 57)).mono (BA.trans (b9.mono BA.size)).size)
            have hlow := ownS_low HOWN.out
            have og : Only _ w7 (blk u9) := (Only.refl _ (blk u9)).grown hg7 (fun b hb' => .inl (by have h9 : u9.ownBlock = some b := hb'; unfold blk; rw [h9]; simp))
            have hQ := HQ.out
            have QN : PtQ q p bs k3 w F X Y R n (s + 1) (s) (.slice (some ⟨bf, of, none⟩) n c1) (i + 1) (acc ++ [((x + a) * 65536, (y + b) * 65536, knd f)]) (x + a) (y + b) v7 w7 := by
              refine ⟨?_, by rw [List.length_append, hQ.len]; rfl, ?_, ⟨i1, ib2, i3, i4⟩, ?_, ?_, ?_, ?_, ?_⟩
              · rw [List.length_append, ← HNA.out, ptCells_append]; exact own7
              · rw [HN.out, Option.map_map]; congr 1; funext L; simp
              · exact own_only (ownS_stay hQ.fl BT) og (fun b hb => own_own (ownS_stay hQ.fl BT) (ownS_stay HOWN.out BT) (by decide) b hb)
              · exact (hQ.bx.below BT).only og (fun hm => own_ne (ownS_stay HOWN.out BT) (hQ.bx.below BT) (by decide) hm)
              · exact (hQ.by_.below BT).only og (fun hm => own_ne (ownS_stay HOWN.out BT) (hQ.by_.below BT) (by decide) hm)
              · exact (hQ.rd.below BT).only og (fun hm => by have := hlow _ hm; omega) (fun b hb hqb => by have := hlow b hb; have := hq b hqb; omega)
              · exact (hQ.on.then_below BT).trans og (fun b hb => .inr (hlow b hb))
            go_roundw
            case rel => exact ⟨i + 1, _, _, _, by omega, by first | rfl | (go_num), rfl, rfl, QN⟩
            case measure => first | (simp [intOf]; done) | (simp [intOf]; omega)
        · obtain rfl : i = n := by omega
          have d2 : ¬ (i : Int) < (i : Int) := by omega
          have HN := Lib.hid (show R = some acc by
            rw [Q.run, List.drop_eq_nil_of_le (by rw [HLN.out]; exact Nat.le_refl _)]
            simp [ptsC])
          have HQ := Lib.hid Q
          clear Q
          go_wp2
          exact bodyPost_ret (results_tmp2 rfl _ _ _) rfl (by show RPtsP q w p bs _ k3 R (.returned (.tuple #[u9, .bool true])) wr; exact RPtsP.yes HN.out HQ.out.own HQ.out.len HQ.out.rd HQ.out.on)
  · rw [if_neg hlen]
    have d1 : ((F.length : Int) != (n : Int)) = true := by simp; omega
    obtain ⟨m, hm⟩ : ∃ m, m = F.length := ⟨_, rfl⟩
    rw [← hm] at CF d1 hlen
    clear hm
    go_enter Try.func20, Try.ntmps20
    go_wp2_with (first | (go_at_call 58; ((with_reducible refine (CF).mono ?_); rintro e w1 ⟨v1, rfl, own1, r1, o1, hl1⟩; obtain ⟨A1, c1, rfl, _, _⟩ := own_lists own1)))
    exact bodyPost_ret (results_tmp2 rfl _ _ _) rfl (RPtsP.no rfl _ r1 o1)
end Go.Proofs.Ytelhckckcilpaaa
