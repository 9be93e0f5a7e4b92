/- Part 13 of the proof: OuK, OuW, OuY, OuJ, OuV, OuZ, OuE, OuX. -/
import Derived.Lib.SliceRun
import Derived.Shelf.SlicesQ.Reverse
import Derived.Ground.SlgnProg
import Derived.IntWalk
import Derived.Test.YtlacjifnniahhaaCFl11

namespace Go.Proofs.Ytlacjifnniahhaa
open Go Go.RowKit

/-- An outline, read: all lies below block B. -/
structure OutAt (w : World) (B : Nat) (A : Option Addr) (Ls : List (List Pt)) : Prop where
  at' : ∀ (i : Nat) (L : List Pt), Ls[i]? = some L → ∃ (b o : Nat) (Ai : Option Addr) (ci : Nat), A = some ⟨b, o, none⟩ ∧ b < B ∧ w.cell? ⟨b, o + i, none⟩ = some (.slice Ai L.length ci) ∧ Lists w B Ai (ptCells L)
theorem OutAt.below {w w1 : World} {B : Nat} {A : Option Addr} {Ls : List (List Pt)} (h : OutAt w B A Ls) (hb : Below B w w1) : OutAt w1 B A Ls :=
  ⟨fun i L hL => by
    obtain ⟨b, o, Ai, ci, h1, h2, h3, h4⟩ := h.at' i L hL
    exact ⟨b, o, Ai, ci, h1, h2, (hb.cell (p := ⟨b, o + i, none⟩) h2).trans h3, h4.below hb⟩⟩
theorem OutAt.more {w : World} {B B1 : Nat} {A : Option Addr} {Ls : List (List Pt)} (h : OutAt w B A Ls) (hB : B ≤ B1) : OutAt w B1 A Ls :=
  ⟨fun i L hL => by
    obtain ⟨b, o, Ai, ci, h1, h2, h3, h4⟩ := h.at' i L hL
    exact ⟨b, o, Ai, ci, h1, Nat.lt_of_lt_of_le h2 hB, h3, h4.more hB⟩⟩
/-- Small enough to be reckoned with. -/
def Sm (Ls : List (List Pt)) : Prop := Ls.length ≤ 100000 ∧ ∀ L ∈ Ls, L.length ≤ 100000
def cntO (Ls : List (List Pt)) : Nat := (Ls.map List.length).sum
theorem cntO_snoc (Ls : List (List Pt)) (L : List Pt) : cntO (Ls ++ [L]) = cntO Ls + L.length := by simp [cntO]
theorem cntO_le {Ls : List (List Pt)} {m : Nat} (h : ∀ L ∈ Ls, L.length ≤ m) : cntO Ls ≤ Ls.length * m := by
  induction Ls with
  | nil => simp [cntO]
  | cons L Ls ih =>
    have h1 := ih fun M hM => h M (by simp [hM])
    have h2 := h L (by simp)
    simp only [cntO, List.map_cons, List.sum_cons, List.length_cons, Nat.add_mul, Nat.one_mul] at *
    omega
theorem take_snoc1 {α : Type} {L : List α} {k : Nat} {x : α} (h : L[k]? = some x) : L.take (k + 1) = L.take k ++ [x] := by
  rw [List.take_add_one, h]; rfl
theorem all_cut {α : Type} {L : List α} {k : Nat} {x : α} {f : α → Bool} (h : L[k]? = some x) (hf : f x = false) : L.all f = false := by
  cases h2 : L.all f
  · rfl
  · rw [List.all_eq_true] at h2
    rw [h2 x (List.mem_of_getElem? h)] at hf; cases hf
theorem all_snoc {α : Type} {L : List α} {k : Nat} {x : α} {f : α → Bool} (h : L[k]? = some x) (h1 : (L.take k).all f = true) (hf : f x = true) : (L.take (k + 1)).all f = true := by
  rw [take_snoc1 h, List.all_append, h1]; simp [hf]
def chkE (Ls : List (List Pt)) : Int := if 256 < Ls.length ∨ 4096 < cntO Ls then 100 else if Ls.all mayC then 0 else 101
def rchkE (Ls : List (List Pt)) : Int := if 256 < Ls.length ∨ 4096 < cntO Ls then 100 else if Ls.all rmayC then 0 else 101

set_option maxRecDepth 100000 in
theorem count_any (B : Nat) (A : Option Addr) (c : Nat) (Ls : List (List Pt)) (w : World) (hB : B ≤ w.heap.size) (h : OutAt w B A Ls) (hs : Sm Ls) :
    Calls Try.prog 58 #[.slice A Ls.length c] w fun e w' => e = .returned (.int .i64 (cntO Ls : Nat)) ∧ Below w.heap.size w w' := by
  have hn := hs.1
  have HM := Lib.hid hs.2
  have HL := Lib.hid h
  obtain ⟨n, hnn⟩ : ∃ n, n = Ls.length := ⟨_, rfl⟩
  rw [← hnn] at hn ⊢
  have HN := Lib.hid hnn
  clear h hnn hs
  go_enter Try.func58, Try.ntmps58
  go_wp2
  go_loopw [3, 8] (fun s i wr => ∃ k : Nat, k ≤ n ∧ i = .int .i64 k ∧ s = .int .i64 (cntO (Ls.take k) : Nat) ∧ Below w.heap.size w wr) (fun _ i _ => n - (intOf i).toNat)
  case atStart => exact ⟨0, Nat.zero_le _, rfl, rfl, Below.refl _ _⟩
  case round =>
    obtain ⟨k, hk, rfl, rfl, hb⟩ := hrel
    by_cases hlt : k < n
    · have d1 : decide ((k : Int) < (n : Int)) = true := by simp; omega
      obtain ⟨L, hL⟩ := at_some (L := Ls) (k := k) (by rw [← HN.out]; exact hlt)
      obtain ⟨b, o, Ai, ci, rfl, hbl, c0, hE⟩ := HL.out.at' k L hL
      have g0 := (hb.cell (p := ⟨b, o + k, none⟩) (Nat.lt_of_lt_of_le hbl hB)).trans c0
      have g3 : b < wr.heap.size := by have := hb.size; omega
      have HS := Lib.hid (show cntO (Ls.take (k + 1)) = cntO (Ls.take k) + L.length by rw [take_snoc1 hL, cntO_snoc])
      have hl : L.length ≤ 100000 := HM.out L (List.mem_of_getElem? hL)
      have hc : cntO (Ls.take k) ≤ 10000000000 := Nat.le_trans (cntO_le fun M hM => HM.out M (List.mem_of_mem_take hM)) (by have : (Ls.take k).length ≤ 100000 := Nat.le_trans (List.length_take_le _ _) (by omega); omega)
      clear c0 hE hL
      generalize L.length = l at *
      generalize cntO (Ls.take k) = s at *
      go_wp2
      go_roundw
      case rel => exact ⟨k + 1, by omega, by go_num, congrArg (Value.int .i64) (by rw [HS.out]; omega), hb⟩
      case measure => simp [intOf]; omega
    · obtain rfl : k = n := by omega
      have d1 : decide ((k : Int) < (k : Int)) = false := by simp
      have HT := Lib.hid (show Ls.take k = Ls by rw [HN.out]; exact List.take_length)
      go_wp2
      go_ret
      exact ⟨by rw [HT.out]; rfl, hb⟩

set_option maxRecDepth 100000 in
theorem rcount_any (B : Nat) (A : Option Addr) (c : Nat) (Ls : List (List Pt)) (w : World) (hB : B ≤ w.heap.size) (h : OutAt w B A Ls) (hs : Sm Ls) :
    Calls Try.prog 42 #[.slice A Ls.length c] w fun e w' => e = .returned (.int .i64 (cntO Ls : Nat)) ∧ Below w.heap.size w w' := by
  have hn := hs.1
  have HM := Lib.hid hs.2
  have HL := Lib.hid h
  obtain ⟨n, hnn⟩ : ∃ n, n = Ls.length := ⟨_, rfl⟩
  rw [← hnn] at hn ⊢
  have HN := Lib.hid hnn
  clear h hnn hs
  go_enter Try.func42, Try.ntmps42
  go_wp2
  go_loopw [3, 4] (fun s i wr => ∃ k : Nat, k ≤ n ∧ i = .int .i64 k ∧ s = .int .i64 (cntO (Ls.take k) : Nat) ∧ Below w.heap.size w wr) (fun _ i _ => n - (intOf i).toNat)
  case atStart => exact ⟨0, Nat.zero_le _, rfl, rfl, Below.refl _ _⟩
  case round =>
    obtain ⟨k, hk, rfl, rfl, hb⟩ := hrel
    by_cases hlt : k < n
    · have d1 : decide ((k : Int) < (n : Int)) = true := by simp; omega
      obtain ⟨L, hL⟩ := at_some (L := Ls) (k := k) (by rw [← HN.out]; exact hlt)
      obtain ⟨b, o, Ai, ci, rfl, hbl, c0, hE⟩ := HL.out.at' k L hL
      have g0 := (hb.cell (p := ⟨b, o + k, none⟩) (Nat.lt_of_lt_of_le hbl hB)).trans c0
      have g3 : b < wr.heap.size := by have := hb.size; omega
      have HS := Lib.hid (show cntO (Ls.take (k + 1)) = cntO (Ls.take k) + L.length by rw [take_snoc1 hL, cntO_snoc])
      have hl : L.length ≤ 100000 := HM.out L (List.mem_of_getElem? hL)
      have hc : cntO (Ls.take k) ≤ 10000000000 := Nat.le_trans (cntO_le fun M hM => HM.out M (List.mem_of_mem_take hM)) (by have : (Ls.take k).length ≤ 100000 := Nat.le_trans (List.length_take_le _ _) (by omega); omega)
      clear c0 hE hL
      generalize L.length = l at *
      generalize cntO (Ls.take k) = s at *
      go_wp2
      go_roundw
      case rel => exact ⟨k + 1, by omega, by go_num, congrArg (Value.int .i64) (by rw [HS.out]; omega), hb⟩
      case measure => simp [intOf]; omega
    · obtain rfl : k = n := by omega
      have d1 : decide ((k : Int) < (k : Int)) = false := by simp
      have HT := Lib.hid (show Ls.take k = Ls by rw [HN.out]; exact List.take_length)
      go_wp2
      go_ret
      exact ⟨by rw [HT.out]; rfl, hb⟩

theorem notMay_any (B : Nat) (Ai : Option Addr) (c : Nat) (L : List Pt) (w : World) (hB : B ≤ w.heap.size) (h : Lists w B Ai (ptCells L)) (hn : L.length ≤ 10000000) :
    Calls Try.prog 60 #[.slice Ai L.length c] w fun e w' => e = .returned (.bool (!mayC L)) ∧ Below w.heap.size w w' := by
  have C := maybe_any B Ai c L w hB h hn
  clear h
  go_enter Try.func60, Try.ntmps60
  go_wp2_with (first | (go_at_call 61; ((with_reducible refine (C).mono ?_); rintro e w1 ⟨rfl, b⟩)))
  go_ret
  exact ⟨rfl, b⟩
def FoundBad (w : World) (Ls : List (List Pt)) (e : Ending) (w' : World) : Prop := ∃ r : Int, e = .returned (.int .i64 r) ∧ decide (0 ≤ r) = (!Ls.all mayC) ∧ Below w.heap.size w w'

set_option maxRecDepth 100000 in
theorem findBad_any (B : Nat) (A : Option Addr) (c : Nat) (Ls : List (List Pt)) (w : World) (hB : B ≤ w.heap.size) (h : OutAt w B A Ls) (hs : Sm Ls) :
    Calls Try.prog 82 #[.slice A Ls.length c, .func (.func 60) #[] #[]] w fun e w' => FoundBad w Ls e w' := by
  have HL := Lib.hid h
  have HM := Lib.hid hs.2
  have hn := hs.1
  clear h hs
  obtain ⟨n, hnn⟩ : ∃ n, n = Ls.length := ⟨_, rfl⟩
  rw [← hnn] at hn ⊢
  have HN := Lib.hid hnn
  clear hnn
  go_enter Try.func82, Try.ntmps82
  go_wp2
  go_loopw [8] (fun i wr => ∃ k : Nat, k ≤ n ∧ i = .int .i64 k ∧ Hid ((Ls.take k).all mayC = true) ∧ Below w.heap.size w wr) (fun i _ => n - (intOf i).toNat)
  case atStart => exact ⟨0, Nat.zero_le _, rfl, Lib.hid rfl, Below.refl _ _⟩
  case round =>
    obtain ⟨k, hk, rfl, HK, hb⟩ := hrel
    by_cases hlt : k < n
    · have d1 : decide ((k : Int) < (n : Int)) = true := by simp; omega
      obtain ⟨L, hL⟩ := at_some (L := Ls) (k := k) (by rw [← HN.out]; exact hlt)
      obtain ⟨b, o, Ai, ci, rfl, hbl, c0, hE⟩ := HL.out.at' k L hL
      have g0 := (hb.cell (p := ⟨b, o + k, none⟩) (Nat.lt_of_lt_of_le hbl hB)).trans c0
      have g3 : b < wr.heap.size := by have := hb.size; omega
      have C := notMay_any B Ai ci L wr (Nat.le_trans hB hb.size) (hE.below (hb.mono hB)) (by have := HM.out L (List.mem_of_getElem? hL); omega)
      cases h3 : mayC L
      · rw [h3] at C
        have HT := Lib.hid (show Ls.all mayC = false from all_cut hL h3)
        clear c0 hE hL h3
        go_wp2_with (first | (go_at_call 60; ((with_reducible refine (C).mono ?_); rintro e w1 ⟨rfl, b1⟩)))
        go_ret
        exact ⟨(k : Int), rfl, by rw [HT.out]; simp, hb.trans (b1.mono hb.size)⟩
      · rw [h3] at C
        have HT := Lib.hid (all_snoc hL HK.out h3)
        clear c0 hE hL h3
        go_wp2_with (first | (go_at_call 60; ((with_reducible refine (C).mono ?_); rintro e w1 ⟨rfl, b1⟩)))
        go_roundw
        case rel => exact ⟨k + 1, by omega, by go_num, HT, hb.trans (b1.mono hb.size)⟩
        case measure => simp [intOf]; omega
    · obtain rfl : k = n := by omega
      have d1 : decide ((k : Int) < (k : Int)) = false := by simp
      have HT := Lib.hid (show Ls.all mayC = true by have := HK.out; rwa [HN.out, List.take_length] at this)
      go_wp2
      go_ret
      exact ⟨-1, rfl, by rw [HT.out]; rfl, hb⟩

theorem hasBad_any (B : Nat) (A : Option Addr) (c : Nat) (Ls : List (List Pt)) (w : World) (hB : B ≤ w.heap.size) (h : OutAt w B A Ls) (hs : Sm Ls) :
    Calls Try.prog 59 #[.slice A Ls.length c, .func (.func 60) #[] #[]] w fun e w' => e = .returned (.bool (!Ls.all mayC)) ∧ Below w.heap.size w w' := by
  have C := findBad_any B A c Ls w hB h hs
  clear h
  go_enter Try.func59, Try.ntmps59
  go_wp2_with (first | (go_at_call 82; ((with_reducible refine (C).mono ?_); rintro e w1 ⟨r, rfl, hr, b⟩)))
  go_ret
  refine ⟨?_, b⟩
  rw [← hr]
  rfl
theorem rmay_all {B : Nat} {A : Option Addr} {Ls : List (List Pt)} {w : World} (hB : B ≤ w.heap.size) (_ : OutAt w B A Ls) (hs : Sm Ls) {k : Nat} {L : List Pt} (hL : Ls[k]? = some L) :
    ∀ (Ai : Option Addr) (ci : Nat) (w1 : World), Below w.heap.size w w1 → Lists w B Ai (ptCells L) → Calls Try.prog 43 #[.slice Ai L.length ci] w1 fun e w' => e = .returned (.bool (rmayC L)) ∧ Below w1.heap.size w1 w' :=
  fun Ai ci w1 hb hE => rmay_any B Ai ci L w1 (Nat.le_trans hB hb.size) (hE.below (hb.mono hB)) (by have := hs.2 L (List.mem_of_getElem? hL); omega)

set_option maxRecDepth 100000 in
theorem check_any (B : Nat) (A : Option Addr) (c : Nat) (Ls : List (List Pt)) (w : World) (hB : B ≤ w.heap.size) (h : OutAt w B A Ls) (hs : Sm Ls) :
    Calls Try.prog 36 #[.slice A Ls.length c] w fun e w' => e = .returned (.int .i64 (chkE Ls)) ∧ Below w.heap.size w w' := by
  have C1 := count_any B A c Ls w hB h hs
  unfold chkE
  by_cases h1 : 256 < Ls.length
  · rw [if_pos (.inl h1)]
    clear C1
    obtain ⟨n, hnn⟩ : ∃ n, n = Ls.length := ⟨_, rfl⟩
    rw [← hnn] at h1 ⊢
    clear h hnn
    have d1 : decide (256 < (n : Int)) = true := by simp; omega
    go_enter Try.func36, Try.ntmps36
    go_wp2
    go_ret
    exact ⟨rfl, Below.refl _ _⟩
  · by_cases h2 : 4096 < cntO Ls
    · rw [if_pos (.inr h2)]
      obtain ⟨n, hnn⟩ : ∃ n, n = Ls.length := ⟨_, rfl⟩
      rw [← hnn] at h1 C1 ⊢
      generalize cntO Ls = s at *
      clear h hnn
      have d1 : decide (256 < (n : Int)) = false := by simp; omega
      have d2 : decide (4096 < (s : Int)) = true := by simp; omega
      go_enter Try.func36, Try.ntmps36
      go_wp2_with (first | (go_at_call 58; ((with_reducible refine (C1).mono ?_); rintro e w1 ⟨rfl, b1⟩)))
      go_ret
      exact ⟨rfl, b1⟩
    · rw [if_neg (by omega)]
      have C2 := fun (w1 : World) (b1 : Below w.heap.size w w1) => hasBad_any B A c Ls w1 (Nat.le_trans hB b1.size) (h.below (b1.mono hB)) hs
      obtain ⟨n, hnn⟩ : ∃ n, n = Ls.length := ⟨_, rfl⟩
      rw [← hnn] at h1 C1 C2 ⊢
      generalize cntO Ls = s at *
      clear h hnn
      have d1 : decide (256 < (n : Int)) = false := by simp; omega
      have d2 : decide (4096 < (s : Int)) = false := by simp; omega
      cases h3 : Ls.all mayC
      all_goals
        rw [h3] at C2
        go_enter Try.func36, Try.ntmps36
        go_wp2_with (first | (go_at_call 58; ((with_reducible refine (C1).mono ?_); rintro e w1 ⟨rfl, b1⟩)) | (go_at_call 59; ((with_reducible refine (C2 _ b1).mono ?_); rintro e w2 ⟨rfl, b2⟩)))
        go_ret
        exact ⟨rfl, b1.trans (b2.mono b1.size)⟩

set_option maxRecDepth 100000 in
theorem rcheck_any (B : Nat) (A : Option Addr) (c : Nat) (Ls : List (List Pt)) (w : World) (hB : B ≤ w.heap.size) (h : OutAt w B A Ls) (hs : Sm Ls) :
    Calls Try.prog 16 #[.slice A Ls.length c] w fun e w' => e = .returned (.int .i64 (rchkE Ls)) ∧ Below w.heap.size w w' := by
  have C1 := rcount_any B A c Ls w hB h hs
  unfold rchkE
  by_cases h1 : 256 < Ls.length
  · rw [if_pos (.inl h1)]
    clear C1
    obtain ⟨n, hnn⟩ : ∃ n, n = Ls.length := ⟨_, rfl⟩
    rw [← hnn] at h1 ⊢
    clear h hnn
    have d1 : decide (256 < (n : Int)) = true := by simp; omega
    go_enter Try.func16, Try.ntmps16
    go_wp2
    go_ret
    exact ⟨rfl, Below.refl _ _⟩
  · by_cases h2 : 4096 < cntO Ls
    · rw [if_pos (.inr h2)]
      obtain ⟨n, hnn⟩ : ∃ n, n = Ls.length := ⟨_, rfl⟩
      rw [← hnn] at h1 C1 ⊢
      generalize cntO Ls = s at *
      clear h hnn
      have d1 : decide (256 < (n : Int)) = false := by simp; omega
      have d2 : decide (4096 < (s : Int)) = true := by simp; omega
      go_enter Try.func16, Try.ntmps16
      go_wp2_with (first | (go_at_call 42; ((with_reducible refine (C1).mono ?_); rintro e w1 ⟨rfl, b1⟩)))
      go_ret
      exact ⟨rfl, b1⟩
    · rw [if_neg (by omega)]
      obtain ⟨r, hr⟩ : ∃ r : Int, r = (if Ls.all rmayC = true then 0 else 101) := ⟨_, rfl⟩
      rw [← hr]
      have HR := Lib.hid hr
      clear hr
      have CM := fun (k : Nat) (L : List Pt) (hL : Ls[k]? = some L) => rmay_all hB h hs hL
      have HL := Lib.hid h
      have HM := Lib.hid hs.2
      have hn := hs.1
      obtain ⟨n, hnn⟩ : ∃ n, n = Ls.length := ⟨_, rfl⟩
      rw [← hnn] at h1 C1 hn ⊢
      generalize cntO Ls = s at *
      have HN := Lib.hid hnn
      clear h hnn hs
      have d1 : decide (256 < (n : Int)) = false := by simp; omega
      have d2 : decide (4096 < (s : Int)) = false := by simp; omega
      go_enter Try.func16, Try.ntmps16
      go_wp2_with (first | (go_at_call 42; ((with_reducible refine (C1).mono ?_); rintro e w1 ⟨rfl, b1⟩)))
      go_loopw [3] (fun i wr => ∃ k : Nat, k ≤ n ∧ i = .int .i64 k ∧ Hid ((Ls.take k).all rmayC = true) ∧ Below w.heap.size w wr) (fun i _ => n - (intOf i).toNat)
      case atStart => exact ⟨0, Nat.zero_le _, rfl, Lib.hid rfl, b1⟩
      case round =>
        obtain ⟨k, hk, rfl, HK, hb⟩ := hrel
        by_cases hlt : k < n
        · have d3 : decide ((k : Int) < (n : Int)) = true := by simp; omega
          obtain ⟨L, hL⟩ := at_some (L := Ls) (k := k) (by rw [← HN.out]; exact hlt)
          obtain ⟨b, o, Ai, ci, rfl, hbl, c0, hE⟩ := HL.out.at' k L hL
          have g0 := (hb.cell (p := ⟨b, o + k, none⟩) (Nat.lt_of_lt_of_le hbl hB)).trans c0
          have g3 : b < wr.heap.size := by have := hb.size; omega
          obtain CM := CM k L hL Ai ci wr hb
          have CM := CM (by
            obtain ⟨b', o', Ai', ci', e1, _, c1, hE'⟩ := HL.out.at' k L hL
            cases e1
            rw [c0] at c1
            cases c1
            exact hE')
          cases h3 : rmayC L
          · rw [h3] at CM
            have HB := Lib.hid (show Ls.all rmayC = false from all_cut hL h3)
            clear c0 hE hL
            go_wp2_with (first | (go_at_call 43; ((with_reducible refine (CM).mono ?_); rintro e w2 ⟨rfl, b2⟩)))
            go_ret
            exact ⟨by rw [HR.out, HB.out]; rfl, hb.trans (b2.mono hb.size)⟩
          · rw [h3] at CM
            have HS := Lib.hid (all_snoc hL HK.out h3)
            clear c0 hE hL
            go_wp2_with (first | (go_at_call 43; ((with_reducible refine (CM).mono ?_); rintro e w2 ⟨rfl, b2⟩)))
            go_roundw
            case rel => exact ⟨k + 1, by omega, by go_num, HS, hb.trans (b2.mono hb.size)⟩
            case measure => simp [intOf]; omega
        · obtain rfl : k = n := by omega
          have d3 : decide ((k : Int) < (k : Int)) = false := by simp
          have HB := Lib.hid (show Ls.all rmayC = true by have := HK.out; rwa [HN.out, List.take_length] at this)
          go_wp2
          go_ret
          exact ⟨by rw [HR.out, HB.out]; rfl, hb⟩

def bigB (Ls : List (List Pt)) : Bool := decide (300 < Ls.length) || decide (5000 < cntO Ls)
theorem big_no {Ls : List (List Pt)} (h : bigB Ls = false) : Ls.length ≤ 300 ∧ cntO Ls ≤ 5000 := by
  unfold bigB at h
  simp at h
  omega

end Go.Proofs.Ytlacjifnniahhaa

namespace Go.Proofs.Ytlacjifnniahhaa
open Go Go.RowKit

theorem ptInfo : (Try.prog.info? 25).map (fun i => (i.zero, i.size, i.bytes)) = some (some (.agg #[.int .i64 0, .int .i64 0, .int .i64 0]), 3, 24) := by kernel_rfl
theorem rowInfo : (Try.prog.info? 56).map (fun i => (i.zero, i.size, i.bytes)) = some (some (.slice none 0 0), 1, 24) := by kernel_rfl
theorem info_parts1 {o : Option TypeInfo} {z : Option Value} {n b : Nat} (h : o.map (fun i => (i.zero, i.size, i.bytes)) = some (z, n, b)) : ∃ i, o = some i ∧ i.zero = z ∧ i.size = n ∧ i.bytes = b := by
  cases o with
  | none => cases h
  | some i => simp at h; exact ⟨i, rfl, h.1, h.2.1, h.2.2⟩
theorem lists_new1 (w : World) (v : Value) (T : TypeId) : Lists (w.alloc (.cells #[v] T)) (w.heap.size + 1) (some ⟨w.heap.size, 0, none⟩) [v] :=
  ⟨fun ha => (nomatch ha), fun a ha j u hu => by
    cases ha
    have : j = 0 := by
      have := (List.getElem?_eq_some_iff.1 hu).1
      simp at this; omega
    subst this
    simp at hu; subst hu
    rw [addr_plain, World.cell?_alloc_new]; rfl, fun a ha _ => by cases ha; simp⟩
theorem own_none (w : World) (T : TypeId) (size : Nat) : (w.alloc (.cells #[] T)).ownsRow w.heap.size T size (.slice (some ⟨w.heap.size, 0, none⟩) 0 0) 0 [] :=
  ⟨by simp, .inr ⟨w.heap.size, 0, #[], rfl, Nat.le_refl _, heap_alloc_new w _, Nat.le_refl _, Nat.zero_le _, by simp, by simp⟩⟩
theorem own_low2 {w : World} {base : Nat} {e : TypeId} {size n : Nat} {v : Value} {xs : List Value} (h : w.ownsRow base e size v n xs) : ∀ b ∈ blk v, base ≤ b := by
  intro b hm
  rcases h.2 with ⟨rfl, _⟩ | ⟨g, cap, cur, rfl, h2, _⟩
  · simp [blk, Value.ownBlock] at hm
  · have : b = g := by simpa [blk, Value.ownBlock] using hm
    omega
theorem own_stay {w w1 : World} {base : Nat} {e : TypeId} {size n : Nat} {v : Value} {xs : List Value} (h : w.ownsRow base e size v n xs) (b : Below w.heap.size w w1) : w1.ownsRow base e size v n xs :=
  own_only h (Only.of_below b []) fun _ _ h => (nomatch h)
theorem own_slice {w : World} {base : Nat} {e : TypeId} {size n : Nat} {v : Value} {xs : List Value} (h : w.ownsRow base e size v n xs) : v.oneCell' = true := by
  obtain ⟨A, c, rfl, _⟩ := own_lists h
  rfl

theorem own_mono {w : World} {base base1 : Nat} {e : TypeId} {size n : Nat} {v : Value} {xs : List Value} (h : w.ownsRow base e size v n xs) (hb : base1 ≤ base) : w.ownsRow base1 e size v n xs := by
  refine ⟨h.1, ?_⟩
  rcases h.2 with h1 | ⟨g, cap, cur, h1, h2, h3⟩
  · exact .inl h1
  · exact .inr ⟨g, cap, cur, h1, Nat.le_trans hb h2, h3⟩
def Inner (w : World) (base : Nat) (Ls : List (List Pt)) (rows : List Value) : Prop :=
  (∀ (i : Nat) (L : List Pt), Ls[i]? = some L → ∃ r, rows[i]? = some r ∧ w.ownsRow base 25 3 r L.length (ptCells L)) ∧
  ∀ (i j : Nat) (r s : Value), i ≠ j → rows[i]? = some r → rows[j]? = some s → ∀ b ∈ blk r, b ∉ blk s
/-- An outline that the call owns: the list of contours, and each contour in memory of its own. -/
def Own2 (w : World) (base : Nat) (v : Value) (Ls : List (List Pt)) : Prop :=
  ∃ rows : List Value, w.ownsRow base 56 1 v Ls.length rows ∧ Inner w base Ls rows
theorem Own2.nil (w : World) (base : Nat) : Own2 w base (.slice none 0 0) [] := ⟨[], World.ownsRow_nil _ _ _ _, fun i L h => by simp at h, fun i j r s _ h => by simp at h⟩
theorem Inner.below {w w1 : World} {base : Nat} {Ls : List (List Pt)} {rows : List Value} (h : Inner w base Ls rows) (b : Below w.heap.size w w1) : Inner w1 base Ls rows :=
  ⟨fun i L hL => by
    obtain ⟨r, h1, h2⟩ := h.1 i L hL
    exact ⟨r, h1, own_stay h2 b⟩, h.2⟩
theorem Own2.below {w w1 : World} {base : Nat} {v : Value} {Ls : List (List Pt)} (h : Own2 w base v Ls) (b : Below w.heap.size w w1) : Own2 w1 base v Ls := by
  obtain ⟨rows, h1, h2⟩ := h
  exact ⟨rows, own_stay h1 b, h2.below b⟩
theorem Own2.mono {w : World} {base base1 : Nat} {v : Value} {Ls : List (List Pt)} (h : Own2 w base v Ls) (hb : base1 ≤ base) : Own2 w base1 v Ls := by
  obtain ⟨rows, h1, h2, h3⟩ := h
  refine ⟨rows, own_mono h1 hb, fun i L hL => ?_, h3⟩
  obtain ⟨r, h4, h5⟩ := h2 i L hL
  exact ⟨r, h4, own_mono h5 hb⟩
theorem own2_push {w w1 W w2 : World} {base : Nat} {v v2 r : Value} {Ls : List (List Pt)} {L : List Pt} {rows : List Value} (hb : base ≤ w.heap.size) (ho : w.ownsRow base 56 1 v Ls.length rows) (hi : Inner w base Ls rows)
    (b1 : Below w.heap.size w w1) (hr : w1.ownsRow w.heap.size 25 3 r L.length (ptCells L)) (b2 : Below w1.heap.size w1 W) (own2 : w2.ownsRow base 56 1 v2 (Ls.length + 1) (rows ++ [r])) (hg : W.grownBy w2 v.ownBlock) : Own2 w2 base v2 (Ls ++ [L]) := by
  have o2 : Only W w2 (blk v) := (Only.refl _ _).grown hg (fun b hb => .inl (by simp [blk, hb]))
  have hoW := own_stay (own_stay ho b1) b2
  have hlen : rows.length = Ls.length := by simpa using ho.1
  have stay : ∀ {q : Value} {m : Nat} {cs : List Value}, W.ownsRow base 25 3 q m cs → w2.ownsRow base 25 3 q m cs := fun hq => own_only hq o2 (fun b h1 h2 => own_own hq hoW (by decide) b h1 h2)
  refine ⟨rows ++ [r], by simpa using own2, fun i M hM => ?_, fun i j p s hne hp hs b hbp hbs => ?_⟩
  · rcases Nat.lt_or_ge i Ls.length with h | h
    · rw [List.getElem?_append_left h] at hM
      obtain ⟨q, h1, h2⟩ := hi.1 i M hM
      exact ⟨q, by rw [List.getElem?_append_left (by omega)]; exact h1, stay (own_stay (own_stay h2 b1) b2)⟩
    · have h0 : i = Ls.length := by
        have := (List.getElem?_eq_some_iff.1 hM).1
        simp at this; omega
      subst h0
      simp at hM
      subst hM
      refine ⟨r, by rw [← hlen]; simp, stay (own_mono (own_stay hr b2) hb)⟩
  · have hlast : ∀ (k : Nat) (x : Value), (rows ++ [r])[k]? = some x → (k < rows.length ∧ rows[k]? = some x) ∨ (k = rows.length ∧ x = r) := fun k x hx => by
      rcases Nat.lt_or_ge k rows.length with h | h
      · rw [List.getElem?_append_left h] at hx
        exact .inl ⟨h, hx⟩
      · have h0 : k = rows.length := by
          have := (List.getElem?_eq_some_iff.1 hx).1
          simp at this; omega
        subst h0
        simp at hx
        exact .inr ⟨rfl, hx.symm⟩
    have old : ∀ (k : Nat) (x : Value), k < rows.length → rows[k]? = some x → ∀ b ∈ blk x, b < w.heap.size := fun k x hk hx b hm => by
      obtain ⟨M, hM⟩ := at_some (L := Ls) (k := k) (by omega)
      obtain ⟨q, h1, h2⟩ := hi.1 k M hM
      rw [hx] at h1; cases h1
      exact blk_lt h2 b hm
    have new : ∀ b ∈ blk r, w.heap.size ≤ b := own_low2 hr
    rcases hlast i p hp with ⟨h1, h2⟩ | ⟨h1, rfl⟩
    · rcases hlast j s hs with ⟨h3, h4⟩ | ⟨h3, rfl⟩
      · exact hi.2 i j p s hne h2 h4 b hbp hbs
      · have := old i p h1 h2 b hbp
        have := new b hbs
        omega
    · rcases hlast j s hs with ⟨h3, h4⟩ | ⟨h3, rfl⟩
      · have := old j s h3 h4 b hbs
        have := new b hbp
        omega
      · omega
theorem Own2.out {w : World} {base : Nat} {v : Value} {Ls : List (List Pt)} (h : Own2 w base v Ls) : ∃ A c, v = .slice A Ls.length c ∧ OutAt w w.heap.size A Ls := by
  obtain ⟨rows, h1, h2, _⟩ := h
  obtain ⟨A, c, rfl, hl, hc⟩ := own_lists h1
  refine ⟨A, c, rfl, ⟨fun i L hL => ?_⟩⟩
  obtain ⟨r, hr, hro⟩ := h2 i L hL
  obtain ⟨Ai, ci, rfl, hli, _⟩ := own_lists hro
  obtain ⟨b, o, rfl, hb, hcell⟩ := hl.plain (by intro e; subst e; simp at hr)
  exact ⟨b, o, Ai, ci, rfl, hb, hcell i _ hr, hli⟩

def MadeOut (w : World) (Ls : List (List Pt)) (e : Ending) (w' : World) : Prop := ∃ v, e = .returned v ∧ Own2 w' w.heap.size v Ls ∧ Below w.heap.size w w'
def MadeRow (w : World) (L : List Pt) (e : Ending) (w' : World) : Prop := ∃ r, e = .returned r ∧ w'.ownsRow w.heap.size 25 3 r L.length (ptCells L) ∧ Below w.heap.size w w'

end Go.Proofs.Ytlacjifnniahhaa

namespace Go.Proofs.Ytlacjifnniahhaa
open Go Go.RowKit

/-- Outlines, one behind the other in block b. -/
structure OutsAt (w : World) (B b : Nat) (Lss : List (List (List Pt))) : Prop where
  at' : ∀ (i : Nat) (Ls : List (List Pt)), Lss[i]? = some Ls → ∃ (A : Option Addr) (c : Nat), w.cell? ⟨b, i, none⟩ = some (.slice A Ls.length c) ∧ OutAt w B A Ls
def SmS (Lss : List (List (List Pt))) : Prop := Lss.length ≤ 2 ∧ ∀ Ls ∈ Lss, Sm Ls

theorem lists_new2 (w : World) (x y : Value) (T : TypeId) (j : Nat) (v : Value) (h : [x, y][j]? = some v) : (w.alloc (.cells #[x, y] T)).cell? ⟨w.heap.size, j, none⟩ = some v := by
  rw [World.cell?_alloc_new]
  rw [← h]; simp

end Go.Proofs.Ytlacjifnniahhaa

namespace Go.Proofs.Ytlacjifnniahhaa
open Go Go.RowKit

def joinE (a b : List (List Pt)) : Int := if chkE a = 0 then (if chkE b = 0 then chkE (a ++ b) else chkE b) else chkE a
def JoinPost (w : World) (a b : List (List Pt)) (e : Ending) (w' : World) : Prop :=
  (joinE a b ≠ 0 → e = .returned (.tuple #[.slice none 0 0, .int .i64 (joinE a b)]) ∧ Below w.heap.size w w') ∧
  (joinE a b = 0 → ∃ v, e = .returned (.tuple #[v, .int .i64 0]) ∧ Own2 w' w.heap.size v (a ++ b) ∧ Below w.heap.size w w')
theorem outs_two {w : World} {A A2 : Option Addr} {c c2 : Nat} {a b : List (List Pt)} (ha : OutAt w w.heap.size A a) (hb : OutAt w w.heap.size A2 b) (T : TypeId) :
    OutsAt (w.alloc (.cells #[.slice A a.length c, .slice A2 b.length c2] T)) (w.alloc (.cells #[.slice A a.length c, .slice A2 b.length c2] T)).heap.size w.heap.size [a, b] := by
  have k := (Below.refl w.heap.size w).alloc (Nat.le_refl _) (.cells #[.slice A a.length c, .slice A2 b.length c2] T)
  refine ⟨fun i Ls h => ?_⟩
  match i, h with
  | 0, h =>
    simp at h; subst h
    exact ⟨A, c, lists_new2 w _ _ T 0 _ rfl, (ha.below k).more k.size⟩
  | 1, h =>
    simp at h; subst h
    exact ⟨A2, c2, lists_new2 w _ _ T 1 _ rfl, (hb.below k).more k.size⟩
  | k + 2, h => simp at h
theorem outs_one {w : World} {A : Option Addr} {c : Nat} {a : List (List Pt)} (ha : OutAt w w.heap.size A a) (T : TypeId) :
    OutsAt (w.alloc (.cells #[.slice A a.length c] T)) (w.alloc (.cells #[.slice A a.length c] T)).heap.size w.heap.size [a] := by
  have k := (Below.refl w.heap.size w).alloc (Nat.le_refl _) (.cells #[.slice A a.length c] T)
  refine ⟨fun i Ls h => ?_⟩
  match i, h with
  | 0, h =>
    simp at h; subst h
    exact ⟨A, c, by rw [World.cell?_alloc_new]; rfl, (ha.below k).more k.size⟩
  | k + 1, h => simp at h

def Sm2 (Ls : List (List Pt)) : Prop := Ls.length ≤ 50000 ∧ ∀ L ∈ Ls, L.length ≤ 100000
theorem Sm2.sm {Ls : List (List Pt)} (h : Sm2 Ls) : Sm Ls := ⟨by have := h.1; omega, h.2⟩
theorem Sm2.app {a b : List (List Pt)} (h : Sm2 a) (k : Sm2 b) : Sm (a ++ b) :=
  ⟨by rw [List.length_append]; have := h.1; have := k.1; omega, fun L hL => by
    rcases List.mem_append.1 hL with h1 | h1
    · exact h.2 L h1
    · exact k.2 L h1⟩

end Go.Proofs.Ytlacjifnniahhaa

namespace Go.Proofs.Ytlacjifnniahhaa
open Go Go.RowKit

def encP (p : Pt) : List Value := [.int .i64 p.1, .int .i64 p.2.1, .int .i64 p.2.2]
theorem encP_one : ∀ x : Pt, ∀ v ∈ encP x, v.oneCell' = true := fun x v hv => by simp [encP] at hv; rcases hv with rfl | rfl | rfl <;> rfl
theorem ptCells_get (L : List Pt) (t : Nat) (ht : t < L.length * 3) : (ptCells L)[t]? = some ((encP (L.toArray)[t / 3]!)[t % 3]!) := by
  obtain ⟨p, hp⟩ := at_some (L := L) (k := t / 3) (by omega)
  obtain ⟨h1, h2, h3⟩ := ptCells_at L (t / 3) p hp
  have he : (L.toArray)[t / 3]! = p := by simp [hp]
  rw [he]
  rcases (show t % 3 = 0 ∨ t % 3 = 1 ∨ t % 3 = 2 by omega) with h | h | h
  · rw [show t = t / 3 * 3 by omega, h1, show t / 3 * 3 % 3 = 0 by omega]; rfl
  · rw [show t = t / 3 * 3 + 1 by omega, h2, show (t / 3 * 3 + 1) % 3 = 1 by omega]; rfl
  · rw [show t = t / 3 * 3 + 2 by omega, h3, show (t / 3 * 3 + 2) % 3 = 2 by omega]; rfl
theorem flat_pt (L : List Pt) : Sort.flatK encP 3 L.toArray = (ptCells L).toArray := by
  refine Sort.ext_get! (by simp [ptCells_len]) fun t ht => ?_
  rw [Sort.size_flatK] at ht
  rw [Sort.get_flatK _ _ _ _ ht]
  have := ptCells_get L t (by simpa using ht)
  have hlt : t < (ptCells L).toArray.size := by simp [ptCells_len]; simpa using ht
  rw [getElem!_pos (ptCells L).toArray t hlt, List.getElem_toArray]
  exact (List.getElem?_eq_some_iff.1 this).2.symm
theorem own_block {w : World} {base g n cap : Nat} {e : TypeId} {size : Nat} {xs : List Value} (h : w.ownsRow base e size (.slice (some ⟨g, 0, none⟩) n cap) n xs) :
    ∃ cur, base ≤ g ∧ w.heap[g]? = some (.cells cur e (0, 0)) ∧ n ≤ cap ∧ cap ≤ maxLen ∧ cur.size = cap * size ∧ cur.toList.take (n * size) = xs := by
  rcases h.2 with ⟨h', _⟩ | ⟨g', cap', cur, h', h2⟩
  · simp at h'
  · simp only [Value.slice.injEq, Option.some.injEq, Addr.mk.injEq, and_true, true_and] at h'
    obtain ⟨rfl, rfl⟩ := h'
    exact ⟨cur, h2⟩
theorem own2_set {w w1 : World} {base i : Nat} {v r : Value} {Ls : List (List Pt)} {L' : List Pt} {rows : List Value} (ho : w.ownsRow base 56 1 v Ls.length rows) (hi : Inner w base Ls rows)
    (hr : rows[i]? = some r) {L : List Pt} (hL : Ls[i]? = some L) (o : Only w w1 (blk r)) (hr1 : w1.ownsRow base 25 3 r L'.length (ptCells L')) : Own2 w1 base v (Ls.set i L') := by
  obtain ⟨q, hq, hqo⟩ := hi.1 i L hL
  rw [hr] at hq; cases hq
  refine ⟨rows, by rw [List.length_set]; exact own_only ho o (fun b h1 h2 => own_own ho hqo (by decide) b h1 h2), fun j M hM => ?_, hi.2⟩
  by_cases hij : j = i
  · subst hij
    have hlt : j < Ls.length := (List.getElem?_eq_some_iff.1 hL).1
    rw [List.getElem?_set_self hlt] at hM
    cases hM
    exact ⟨r, hr, hr1⟩
  · rw [List.getElem?_set_ne (Ne.symm hij)] at hM
    obtain ⟨s, h1, h2⟩ := hi.1 j M hM
    exact ⟨s, h1, own_only h2 o (hi.2 j i s r hij h1 hr)⟩
def revL : List Pt → List Pt
  | [] => []
  | p :: r => p :: r.reverse

end Go.Proofs.Ytlacjifnniahhaa

namespace Go.Proofs.Ytlacjifnniahhaa
open Go Go.RowKit

theorem lists_pt1 (w : World) (p : Pt) (T : TypeId) : Lists (w.alloc (.cells #[.int .i64 p.1, .int .i64 p.2.1, .int .i64 p.2.2] T)) (w.heap.size + 1) (some ⟨w.heap.size, 0, none⟩) (ptCells [p]) :=
  ⟨fun ha => (nomatch ha), fun a ha j u hu => by
    cases ha
    rw [addr_plain, World.cell?_alloc_new, Nat.zero_add, ← hu]
    rw [List.getElem?_toArray]; rfl, fun a ha _ => by cases ha; simp⟩
theorem lists_ptk (w : World) (p : Pt) (T : TypeId) (k : Nat) (hk : k = w.heap.size) : Lists (w.alloc (.cells #[.int .i64 p.1, .int .i64 p.2.1, .int .i64 p.2.2] T)) (w.heap.size + 1) (some ⟨k, 0, none⟩) (ptCells [p]) := by
  subst hk; exact lists_pt1 w p T
theorem revL_at {L : List Pt} {k x : Nat} {p : Pt} (hk : k < L.length) (hx : x = if k = 0 then 0 else L.length - k) (hp : L[x]? = some p) : (revL L)[k]? = some p := by
  cases L with
  | nil => simp at hk
  | cons q R =>
    cases k with
    | zero => rw [if_pos rfl] at hx; subst hx; exact hp
    | succ k =>
      rw [if_neg (by omega)] at hx
      simp only [List.length_cons] at hk hx
      unfold revL
      rw [List.getElem?_cons_succ, List.getElem?_reverse (by omega)]
      obtain ⟨y, rfl⟩ : ∃ y, x = y + 1 := ⟨R.length - 1 - k, by omega⟩
      rw [List.getElem?_cons_succ] at hp
      rw [show R.length - 1 - k = y by omega]
      exact hp
theorem revL_len (L : List Pt) : (revL L).length = L.length := by cases L <;> simp [revL]

end Go.Proofs.Ytlacjifnniahhaa

namespace Go.Proofs.Ytlacjifnniahhaa
open Go Go.RowKit

def midP (p q : Pt) : Pt := ((p.1 + q.1) / 2, (p.2.1 + q.2.1) / 2, 1)
theorem shr1 (a : Int) (w : World) (_ : -9223372036854775808 ≤ a) (_ : a ≤ 9223372036854775807) : (binOp .shr 3 (.int .i64 a) (.int .u64 1)).run Try.prog w = .ok (.int .i64 (a / 2)) w := by
  go_simp
set_option maxRecDepth 100000 in
theorem mid_any (x y z x' y' z' : Int) (w : World) (h1 : mayB x = true) (h2 : mayB y = true) (h3 : mayB x' = true) (h4 : mayB y' = true) :
    Calls Try.prog 98 #[.agg #[.int .i64 x, .int .i64 y, .int .i64 z], .agg #[.int .i64 x', .int .i64 y', .int .i64 z']] w fun e w' => e = .returned (.agg #[.int .i64 ((x + x') / 2), .int .i64 ((y + y') / 2), .int .i64 1]) ∧ Below w.heap.size w w' := by
  unfold mayB at h1 h2 h3 h4
  simp only [Bool.and_eq_true, decide_eq_true_eq] at h1 h2 h3 h4
  obtain ⟨a1, a2⟩ := h1
  obtain ⟨a3, a4⟩ := h2
  obtain ⟨a5, a6⟩ := h3
  obtain ⟨a7, a8⟩ := h4
  have s1 := fun w => shr1 (x + x') w (by omega) (by omega)
  have s2 := fun w => shr1 (y + y') w (by omega) (by omega)
  go_enter Try.func98, Try.ntmps98
  go_wp2
  exact bodyPost_ret (v := .agg #[.int .i64 ((x + x') / 2), .int .i64 ((y + y') / 2), .int .i64 1]) (by simp [results, Try.results98, go_sem]) rfl ⟨rfl, (((Below.refl _ _).alloc (Nat.le_refl _) _).alloc (by simp) _).alloc (by simp; omega) _⟩

set_option maxRecDepth 100000 in
theorem rmid_any (x y z x' y' z' : Int) (w : World) (h1 : mayB x = true) (h2 : mayB y = true) (h3 : mayB x' = true) (h4 : mayB y' = true) :
    Calls Try.prog 104 #[.agg #[.int .i64 x, .int .i64 y, .int .i64 z], .agg #[.int .i64 x', .int .i64 y', .int .i64 z']] w fun e w' => e = .returned (.agg #[.int .i64 ((x + x') / 2), .int .i64 ((y + y') / 2), .int .i64 1]) ∧ Below w.heap.size w w' := by
  unfold mayB at h1 h2 h3 h4
  simp only [Bool.and_eq_true, decide_eq_true_eq] at h1 h2 h3 h4
  obtain ⟨a1, a2⟩ := h1
  obtain ⟨a3, a4⟩ := h2
  obtain ⟨a5, a6⟩ := h3
  obtain ⟨a7, a8⟩ := h4
  have F1 := fun w => floor_ref (x + x') 2 w (by omega) (by omega) (by omega)
  have F2 := fun w => floor_ref (y + y') 2 w (by omega) (by omega) (by omega)
  have e1 : IntKind.i64.wrap (x + x') = x + x' := IntWalk.i64_in _ (by omega)
  have e2 : IntKind.i64.wrap (y + y') = y + y' := IntWalk.i64_in _ (by omega)
  go_enter Try.func104, Try.ntmps104
  go_wp2
  refine wp_region_chain_last (fun W => W = _) [(0, false), (1, false), (2, false), (3, false), (4, false), (6, false), (7, false), (8, false), (9, false), (10, false), (5, true), (11, true), (12, false)] _ _ (by rfl) (by rfl) (by kernel_rfl) (by kernel_rfl) rfl ?_
  repeat (first
    | (refine ChainL.skip (o := ?_) ?_ ?_ ?_; rotate_left; (focus (first | (simp only [List.getElem?_toArray, List.getElem?_cons_succ, List.getElem?_cons_zero]; with_reducible rfl) | (simp only [List.getElem?_toArray, List.getElem?_cons_zero]; with_reducible rfl))); (focus rfl); simp only [Act.put, List.setIfInBounds_toArray, List.set_cons_zero, List.set_cons_succ])
    | (refine ChainL.val (o := ?_) (v := ?_) ?_ ?_ ?_ ?_ ?_; rotate_left 2; (focus (first | (simp only [List.getElem?_toArray, List.getElem?_cons_succ, List.getElem?_cons_zero]; with_reducible rfl) | (simp only [List.getElem?_toArray, List.getElem?_cons_zero]; with_reducible rfl))); (focus (intro _ _ h; cases h)); (focus rfl); (focus (intro w' hJ; subst hJ; go_simp <;> with_reducible rfl)); simp only [Act.put, List.setIfInBounds_toArray, List.set_cons_zero, List.set_cons_succ]))
  refine ChainL.call (o := ?_) (f := ?_) (args := ?_) ?_ ?_ ?_ ?_
  rotate_left 3
  (focus (simp only [List.getElem?_toArray, List.getElem?_cons_succ, List.getElem?_cons_zero]; with_reducible rfl))
  (focus rfl)
  (focus (go_simp; (constructor <;> with_reducible rfl)))
  refine (F1 _).mono ?_
  rintro e _ ⟨rfl, rfl⟩
  refine ⟨_, rfl, rfl, ?_⟩
  simp only [Act.put, List.setIfInBounds_toArray, List.set_cons_zero, List.set_cons_succ]
  refine ChainL.call (o := ?_) (f := ?_) (args := ?_) ?_ ?_ ?_ ?_
  rotate_left 3
  (focus (simp only [List.getElem?_toArray, List.getElem?_cons_succ, List.getElem?_cons_zero]; with_reducible rfl))
  (focus rfl)
  (focus (go_simp; (constructor <;> with_reducible rfl)))
  refine (F2 _).mono ?_
  rintro e _ ⟨rfl, rfl⟩
  refine ⟨_, rfl, rfl, ?_⟩
  simp only [Act.put, List.setIfInBounds_toArray, List.set_cons_zero, List.set_cons_succ]
  repeat (first
    | (refine ChainL.skip (o := ?_) ?_ ?_ ?_; rotate_left; (focus (first | (simp only [List.getElem?_toArray, List.getElem?_cons_succ, List.getElem?_cons_zero]; with_reducible rfl) | (simp only [List.getElem?_toArray, List.getElem?_cons_zero]; with_reducible rfl))); (focus rfl); simp only [Act.put, List.setIfInBounds_toArray, List.set_cons_zero, List.set_cons_succ])
    | (refine ChainL.val (o := ?_) (v := ?_) ?_ ?_ ?_ ?_ ?_; rotate_left 2; (focus (first | (simp only [List.getElem?_toArray, List.getElem?_cons_succ, List.getElem?_cons_zero]; with_reducible rfl) | (simp only [List.getElem?_toArray, List.getElem?_cons_zero]; with_reducible rfl))); (focus (intro _ _ h; cases h)); (focus rfl); (focus (intro w' hJ; subst hJ; go_simp <;> with_reducible rfl)); simp only [Act.put, List.setIfInBounds_toArray, List.set_cons_zero, List.set_cons_succ]))
  refine ChainL.nil ?_
  go_wp2
  exact bodyPost_ret (v := .agg #[.int .i64 ((x + x') / 2), .int .i64 ((y + y') / 2), .int .i64 1]) (by simp [results, Try.results104, go_sem]) rfl ⟨rfl, ((((Below.refl _ _).alloc (Nat.le_refl _) _).alloc (by simp) _).alloc (by simp; omega) _).drew⟩

theorem isOn_any (x y z : Int) (r : Bool) (hr : (z == 1) = r) (w : World) :
    Calls Try.prog 97 #[.agg #[.int .i64 x, .int .i64 y, .int .i64 z]] w fun e w' => e = .returned (.bool r) ∧ Below w.heap.size w w' := by
  go_enter Try.func97, Try.ntmps97
  go_wp2
  go_ret
  exact ⟨rfl, (Below.refl _ _).alloc (Nat.le_refl _) _⟩

def isOn (p : Pt) : Bool := p.2.2 == 1
def hasOn (L : List Pt) : Bool := L.any isOn
def onI (L : List Pt) : Int := if hasOn L then (L.findIdx isOn : Nat) else -1
/-- Where a contour begins. -/
def st (L : List Pt) : Nat := if hasOn L then L.findIdx isOn else 0
theorem on_at {L : List Pt} {k : Nat} {p : Pt} (hp : L[k]? = some p) (h1 : isOn p = true) (h : ∀ (j : Nat) (q : Pt), j < k → L[j]? = some q → isOn q = false) : hasOn L = true ∧ L.findIdx isOn = k := by
  obtain ⟨hk, he⟩ := List.getElem?_eq_some_iff.1 hp
  refine ⟨List.any_eq_true.2 ⟨p, List.mem_of_getElem? hp, h1⟩, (List.findIdx_eq hk).2 ⟨by rw [he]; exact h1, fun j hj => ?_⟩⟩
  exact h j _ hj (List.getElem?_eq_getElem _)
theorem onI_at {L : List Pt} {k : Nat} {p : Pt} (hp : L[k]? = some p) (h1 : isOn p = true) (h : ∀ (j : Nat) (q : Pt), j < k → L[j]? = some q → isOn q = false) : onI L = k := by
  obtain ⟨a, b⟩ := on_at hp h1 h
  unfold onI; rw [if_pos a, b]
theorem on_none {L : List Pt} (h : ∀ (j : Nat) (q : Pt), L[j]? = some q → isOn q = false) : hasOn L = false := by
  cases h2 : hasOn L
  · rfl
  · obtain ⟨p, hp, h3⟩ := List.any_eq_true.1 h2
    obtain ⟨j, hj⟩ := List.mem_iff_getElem?.1 hp
    rw [h j p hj] at h3; cases h3
theorem onI_none {L : List Pt} (h : ∀ (j : Nat) (q : Pt), L[j]? = some q → isOn q = false) : onI L = -1 := by
  unfold onI; rw [on_none h]; rfl
theorem st_lt {L : List Pt} (h : 0 < L.length) : st L < L.length := by
  unfold st
  cases h2 : hasOn L
  · exact h
  · rw [if_pos rfl]; exact List.findIdx_lt_length.2 (by simpa [hasOn] using h2)
theorem st_max (L : List Pt) : max (onI L) 0 = (st L : Int) := by
  unfold onI st
  cases hasOn L
  · rfl
  · simp only [if_true]; omega

set_option maxRecDepth 100000 in
theorem indexOn_any (B : Nat) (A : Option Addr) (c : Nat) (L : List Pt) (w : World) (hB : B ≤ w.heap.size) (h : Lists w B A (ptCells L)) (hn : L.length ≤ 10000000) :
    Calls Try.prog 96 #[.slice A L.length c, .func (.func 97) #[] #[]] w fun e w' => e = .returned (.int .i64 (onI L)) ∧ Below w.heap.size w w' := by
  have HL := Lib.hid h
  clear h
  obtain ⟨n, hnn⟩ : ∃ n, n = L.length := ⟨_, rfl⟩
  rw [← hnn] at hn ⊢
  have HN := Lib.hid hnn
  clear hnn
  obtain ⟨r, hr⟩ : ∃ r, onI L = r := ⟨_, rfl⟩
  rw [hr]
  have HR := Lib.hid hr
  clear hr
  go_enter Try.func96, Try.ntmps96
  go_wp2
  go_loopw [8] (fun i wr => ∃ k : Nat, k ≤ n ∧ i = .int .i64 k ∧ Hid (∀ (j : Nat) (q : Pt), j < k → L[j]? = some q → isOn q = false) ∧ Below w.heap.size w wr) (fun i _ => n - (intOf i).toNat)
  case atStart => exact ⟨0, Nat.zero_le _, rfl, Lib.hid (fun j q h => absurd h (Nat.not_lt_zero _)), Below.refl _ _⟩
  case round =>
    obtain ⟨k, hk, rfl, HK, hb⟩ := hrel
    by_cases hlt : k < n
    · have d1 : decide ((k : Int) < (n : Int)) = true := by simp; omega
      obtain ⟨⟨x, y, z⟩, hp⟩ := at_some (L := L) (k := k) (by rw [← HN.out]; exact hlt)
      obtain ⟨b, o, rfl, hbl, c0, c1, c2⟩ := lists_pt HL.out hp
      have g0 := (hb.cell (p := ⟨b, o + k * 3, none⟩) (Nat.lt_of_lt_of_le hbl hB)).trans c0
      have g1 := (hb.cell (p := ⟨b, o + k * 3 + 1, none⟩) (Nat.lt_of_lt_of_le hbl hB)).trans c1
      have g2 := (hb.cell (p := ⟨b, o + k * 3 + 2, none⟩) (Nat.lt_of_lt_of_le hbl hB)).trans c2
      have g3 : b < wr.heap.size := by have := hb.size; omega
      simp only at g0 g1 g2
      clear c0 c1 c2
      cases hz : (z == 1)
      · have C := isOn_any x y z false hz
        have HS := Lib.hid (show ∀ (j : Nat) (q : Pt), j < k + 1 → L[j]? = some q → isOn q = false from fun j q hj hq => by
          rcases Nat.lt_or_ge j k with h1 | h1
          · exact HK.out j q h1 hq
          · obtain rfl : j = k := by omega
            rw [hp] at hq; cases hq; exact hz)
        clear hp hz
        go_wp2_with (first | (go_at_call 97; ((with_reducible refine (C _).mono ?_); rintro e w1 ⟨rfl, b1⟩)))
        go_roundw
        case rel => exact ⟨k + 1, by omega, by go_num, HS, hb.trans (b1.mono hb.size)⟩
        case measure => simp [intOf]; omega
      · have C := isOn_any x y z true hz
        have HS := Lib.hid (show r = (k : Int) by rw [← HR.out]; exact onI_at hp hz HK.out)
        clear hp hz
        go_wp2_with (first | (go_at_call 97; ((with_reducible refine (C _).mono ?_); rintro e w1 ⟨rfl, b1⟩)))
        go_ret
        exact ⟨ret_int HS.out.symm, hb.trans (b1.mono hb.size)⟩
    · obtain rfl : k = n := by omega
      have d1 : decide ((k : Int) < (k : Int)) = false := by simp
      have HS := Lib.hid (show r = -1 by rw [← HR.out]; exact onI_none (fun j q hq => HK.out j q (by rw [HN.out]; exact (List.getElem?_eq_some_iff.1 hq).1) hq))
      go_wp2
      go_ret
      exact ⟨ret_int HS.out.symm, hb⟩

end Go.Proofs.Ytlacjifnniahhaa

namespace Go.Proofs.Ytlacjifnniahhaa
open Go Go.RowKit

def stepX (L : List Pt) (a : Int) : List Pt := (if kd L (a - 1) == 2 && kd L a == 2 then [midP (ringP L (a - 1)) (ringP L a)] else []) ++ [ringP L a]
def exK (L : List Pt) (k : Nat) : List Pt := (List.range k).flatMap fun (i : Nat) => stepX L ((st L : Int) + i)
def exE (L : List Pt) : List Pt := exK L L.length
theorem exK_succ (L : List Pt) (k : Nat) : exK L (k + 1) = exK L k ++ stepX L ((st L : Int) + k) := by simp [exK, List.range_succ]
/-- All coordinates may be. -/
def Fair (L : List Pt) : Prop := ∀ p ∈ L, mayB p.1 = true ∧ mayB p.2.1 = true
theorem Fair.ring {L : List Pt} (h : Fair L) (h0 : 0 < L.length) (a : Int) : mayB (ringP L a).1 = true ∧ mayB (ringP L a).2.1 = true := by
  obtain ⟨m, _, _, hp⟩ := ring_some h0 a
  exact h _ (List.mem_of_getElem? hp)
theorem fair_of {L : List Pt} (h : mayC L = true) : Fair L := by
  intro p hp
  unfold mayC at h
  rw [Bool.and_eq_true, allI_true] at h
  obtain ⟨j, hj⟩ := List.mem_iff_getElem?.1 hp
  have := h.2 j p hj
  unfold okA okP at this
  simp only [Bool.and_eq_true] at this
  exact ⟨this.1.1.1.1, this.1.1.1.2⟩
theorem may_pos {L : List Pt} (h : mayC L = true) : 0 < L.length := by
  unfold mayC at h
  rw [Bool.and_eq_true, decide_eq_true_eq] at h
  exact h.1

theorem stepX_len (L : List Pt) (a : Int) : (stepX L a).length ≤ 2 := by
  unfold stepX
  split <;> simp
theorem exK_len (L : List Pt) : ∀ k, (exK L k).length ≤ 2 * k
  | 0 => by simp [exK]
  | k + 1 => by
    have h1 := exK_len L k
    have h2 := stepX_len L ((st L : Int) + k)
    rw [exK_succ, List.length_append]
    omega

set_option maxRecDepth 100000 in
set_option maxHeartbeats 4000000 in
theorem explicit_any (B : Nat) (A : Option Addr) (c : Nat) (L : List Pt) (w : World) (hB : B ≤ w.heap.size) (h : Lists w B A (ptCells L)) (hn : L.length ≤ 100000) (hf : Fair L) :
    Calls Try.prog 84 #[.slice A L.length c] w (MadeRow w (exE L)) := by
  have CX := indexOn_any B A c L w hB h (by omega)
  have hmax := st_max L
  have hst : L.length = 0 ∨ st L < L.length := by
    rcases Nat.eq_zero_or_pos L.length with h | h
    · exact .inl h
    · exact .inr (st_lt h)
  have HE := Lib.hid h
  have HF := Lib.hid hf
  obtain ⟨i1, hi1, hz1, hs1, hy1⟩ := info_parts1 ptInfo
  obtain ⟨i2, hi2, hz2, hs2, hy2⟩ := info_parts1 rowInfo
  have HI1 := Lib.hid hi1
  have HZ1 := Lib.hid hz1
  have HS1 := Lib.hid hs1
  have HY1 := Lib.hid hy1
  have HI2 := Lib.hid hi2
  have HZ2 := Lib.hid hz2
  have HS2 := Lib.hid hs2
  have HY2 := Lib.hid hy2
  clear hi1 hz1 hs1 hy1 hi2 hz2 hs2 hy2
  obtain ⟨n, hnn⟩ : ∃ n, n = L.length := ⟨_, rfl⟩
  rw [← hnn] at hn hst CX ⊢
  have HN := Lib.hid hnn
  have HX : ∀ k : Nat, exK L (k + 1) = exK L k ++ stepX L ((st L : Int) + k) := exK_succ L
  have HXX := Lib.hid HX
  obtain ⟨s, hs⟩ : ∃ s, s = st L := ⟨_, rfl⟩
  rw [← hs] at hst hmax
  have HST := Lib.hid hs
  generalize onI L = r at *
  clear h hnn hf HX hs
  go_enter Try.func84, Try.ntmps84
  go_wp2_with (first | (go_at_call 96; ((with_reducible refine (CX).mono ?_); rintro e w0 ⟨rfl, b0⟩)))
  go_loopw [4, 13] (fun v i wr => ∃ k m : Nat, k ≤ n ∧ i = .int .i64 k ∧ m = (exK L k).length ∧ wr.ownsRow w.heap.size 25 3 v m (ptCells (exK L k)) ∧ Below w.heap.size w wr) (fun _ i _ => n - (intOf i).toNat)
  case atStart => exact ⟨0, 0, Nat.zero_le _, rfl, rfl, World.ownsRow_nil _ _ _ _, b0⟩
  case round =>
    clear b0 CX hmax
    obtain ⟨k, m, hk, rfl, hm, hown, hb⟩ := hrel
    by_cases hlt : k < n
    · have d1 : decide ((k : Int) < (n : Int)) = true := by simp; omega
      have hbs := hb.size
      have C := fun (a : Int) (ha : -(n : Int) ≤ a) (ha2 : a ≤ 100000000) (w1 : World) (b1 : Below wr.heap.size wr w1) => ring_any B A c L a w1 (by have := b1.size; omega) (HE.out.below ((hb.trans (b1.mono hbs)).mono hB)) (by rw [← HN.out]; omega) (by rw [← HN.out]; omega) (by rw [← HN.out]; omega) ha2
      have C1 := C ((s : Int) + k - 1) (by omega) (by omega) wr (Below.refl _ _)
      have C2 := C ((s : Int) + k) (by omega) (by omega)
      obtain ⟨m1, m2⟩ := HF.out.ring (by rw [← HN.out]; omega) ((s : Int) + k - 1)
      obtain ⟨m3, m4⟩ := HF.out.ring (by rw [← HN.out]; omega) ((s : Int) + k)
      have hXS := HXX.out k
      rw [← HST.out] at hXS
      unfold stepX kd at hXS
      have hml : m ≤ 2 * k := by rw [hm]; exact exK_len L k
      obtain ⟨v0, hv0⟩ : ∃ v0, v0 = u4 := ⟨_, rfl⟩
      rw [← HN.out] at C1 C2
      have HW := Lib.hid hown
      subst hv0
      generalize ringP L ((s : Int) + k - 1) = p at *
      generalize ringP L ((s : Int) + k) = q at *
      obtain ⟨x, y, z⟩ := p
      obtain ⟨x', y', z'⟩ := q
      simp only [ptV] at C1 C2 hXS m1 m2 m3 m4
      have CM := fun w => mid_any x y z x' y' z' w m1 m2 m3 m4
      clear C hown m1 m2 m3 m4
      have HM := Lib.hid hm
      clear hm
      by_cases hz : z = 2 ∧ z' = 2
      · obtain ⟨rfl, rfl⟩ := hz
        have hX2 : exK L (k + 1) = exK L k ++ [((x + x') / 2, (y + y') / 2, 1), (x', y', 2)] := by rw [hXS]; simp [midP]
        have HM1 := Lib.hid (show m + 2 = (exK L (k + 1)).length by rw [hX2, List.length_append, ← HM.out]; rfl)
        have HP1 := Lib.hid (show ptCells (exK L (k + 1)) = ptCells (exK L k) ++ (ptCells [((x + x') / 2, (y + y') / 2, 1)] ++ ptCells [(x', y', 2)]) by rw [hX2, ptCells_append]; rfl)
        clear hXS hX2
        go_wp2_with (first | (go_at_call 85; ((with_reducible refine (C1).mono ?_); rintro e w1 ⟨rfl, b1⟩)) | (go_at_call 85; ((with_reducible refine (C2 _ b1).mono ?_); rintro e w2 ⟨rfl, b2⟩; have B2 := b1.trans (b2.mono b1.size); have B2s := B2.size; have B2a := (B2.alloc B2.size (.cells #[.int .i64 x, .int .i64 y, .int .i64 2] 25)).alloc (by simp; omega) (.cells #[.int .i64 x', .int .i64 y', .int .i64 2] 25))) | (go_at_call 98; ((with_reducible refine (CM _).mono ?_); rintro e w3 ⟨rfl, b3⟩; have B3 := B2a.trans (b3.mono B2a.size); have B3s := b3.size; simp only [World.size_alloc] at B3s; have K3 := (Blk.new (w2.alloc (.cells #[.int .i64 x, .int .i64 y, .int .i64 2] 25)) 25 #[.int .i64 x', .int .i64 y', .int .i64 2]).below b3)) | (at_builtin; refine wpList_append_src _ rfl (.tmp 35) (.tmp 39) 56 rfl w.heap.size 25 i1 (.agg #[.int .i64 0, .int .i64 0, .int .i64 0]) 3 24 Try.underlying56 HI1.out HZ1.out HS1.out HY1.out rfl (by decide) _ m (ptCells (exK L k)) rfl (own_stay HW.out (B3.alloc B3.size _)) _ _ 1 1 (ptCells [((x + x') / 2, (y + y') / 2, 1)]) rfl (lists_ptk w3 ((x + x') / 2, (y + y') / 2, 1) _ _ (by simp)) rfl (ptCells_one _) (by simp only [maxLen]; omega) (by omega) (by simp; omega) ?_; intro v4 w4 own4 hg4 _; have B4 : Below w.heap.size w w4 := ((hb.trans (B3.mono hb.size)).alloc (by omega) _).grown hg4 (by simp; omega) (fun j hj => (HW.out.lt j hj).1); have K4 := (K3.below ((Below.refl _ _).alloc (Nat.le_refl _) (.cells #[.int .i64 ((x + x') / 2), .int .i64 ((y + y') / 2), .int .i64 1] 25))).only ((Only.refl _ (blk v0)).grown hg4 (fun b hb => .inl (by have hb' : v0.ownBlock = some b := hb; simp [blk, hb']))) (fun hm => by have := blk_lt HW.out _ hm; simp at this; omega); have q0 := K4.cell 0; have q1 := K4.cell 1; have q2 := K4.cell 2; have q3 := K4.lt; simp only [World.size_alloc, List.getElem?_toArray, List.getElem?_cons_zero, List.getElem?_cons_succ] at q0 q1 q2 q3) | (at_builtin; refine wpList_append_src _ rfl (.tmp 41) (.tmp 43) 56 rfl w.heap.size 25 i1 (.agg #[.int .i64 0, .int .i64 0, .int .i64 0]) 3 24 Try.underlying56 HI1.out HZ1.out HS1.out HY1.out rfl (by decide) _ (m + 1) (ptCells (exK L k) ++ ptCells [((x + x') / 2, (y + y') / 2, 1)]) rfl (own_stay own4 ((Below.refl _ _).alloc (Nat.le_refl _) _)) _ _ 1 1 (ptCells [(x', y', 2)]) rfl (lists_ptk w4 (x', y', 2) _ _ (by simp)) rfl (ptCells_one _) (by simp only [maxLen]; omega) (by omega) (by simp; omega) ?_; intro v5 w5 own5 hg5 _))
        go_roundw
        case rel => exact ⟨k + 1, m + 2, by omega, by go_num, HM1.out, by rw [HP1.out, ← List.append_assoc]; exact own5, (B4.alloc B4.size _).grown hg5 (by have := B4.size; simp; omega) (fun j hj => (own4.lt j hj).1)⟩
        case measure => simp [intOf]; omega
      · have hX2 : exK L (k + 1) = exK L k ++ [(x', y', z')] := by
          rw [hXS, if_neg]
          · rfl
          · simp only [Bool.and_eq_true, beq_iff_eq]; exact hz
        have HM1 := Lib.hid (show m + 1 = (exK L (k + 1)).length by rw [hX2, List.length_append, ← HM.out]; rfl)
        have HP1 := Lib.hid (show ptCells (exK L (k + 1)) = ptCells (exK L k) ++ ptCells [(x', y', z')] by rw [hX2, ptCells_append])
        clear hXS hX2 CM
        by_cases hz1 : z = 2
        · have hz2 : ¬ z' = 2 := fun h => hz ⟨hz1, h⟩
          have t0 : (z == 2) = true := by simpa using hz1
          have t1 : (z' == 2) = false := by simpa using hz2
          clear hz hz1 hz2
          go_wp2_with (first | (go_at_call 85; ((with_reducible refine (C1).mono ?_); rintro e w1 ⟨rfl, b1⟩)) | (go_at_call 85; ((with_reducible refine (C2 _ b1).mono ?_); rintro e w2 ⟨rfl, b2⟩; have B2 := b1.trans (b2.mono b1.size); have B2s := B2.size; have B2a := (B2.alloc B2.size (.cells #[.int .i64 x, .int .i64 y, .int .i64 z] 25)).alloc (by simp; omega) (.cells #[.int .i64 x', .int .i64 y', .int .i64 z'] 25))) | (at_builtin; refine wpList_append_src _ rfl (.tmp 41) (.tmp 43) 56 rfl w.heap.size 25 i1 (.agg #[.int .i64 0, .int .i64 0, .int .i64 0]) 3 24 Try.underlying56 HI1.out HZ1.out HS1.out HY1.out rfl (by decide) _ m (ptCells (exK L k)) rfl (own_stay HW.out (B2a.alloc B2a.size _)) _ _ 1 1 (ptCells [(x', y', z')]) rfl (lists_ptk _ (x', y', z') _ _ (by simp)) rfl (ptCells_one _) (by simp only [maxLen]; omega) (by omega) (by simp; omega) ?_; intro v4 w4 own4 hg4 _))
          go_roundw
          case rel => exact ⟨k + 1, m + 1, by omega, by go_num, HM1.out, by rw [HP1.out]; exact own4, (((hb.trans (B2a.mono hb.size)).alloc (by have := hb.size; simp; omega) _).grown hg4 (by have := hb.size; simp; omega) (fun j hj => (HW.out.lt j hj).1))⟩
          case measure => simp [intOf]; omega
        · have t1 : (z == 2) = false := by simpa using hz1
          clear hz
          go_wp2_with (first | (go_at_call 85; ((with_reducible refine (C1).mono ?_); rintro e w1 ⟨rfl, b1⟩)) | (go_at_call 85; ((with_reducible refine (C2 _ b1).mono ?_); rintro e w2 ⟨rfl, b2⟩; have B2 := b1.trans (b2.mono b1.size); have B2s := B2.size; have B2a := (B2.alloc B2.size (.cells #[.int .i64 x, .int .i64 y, .int .i64 z] 25)).alloc (by simp; omega) (.cells #[.int .i64 x', .int .i64 y', .int .i64 z'] 25))) | (at_builtin; refine wpList_append_src _ rfl (.tmp 41) (.tmp 43) 56 rfl w.heap.size 25 i1 (.agg #[.int .i64 0, .int .i64 0, .int .i64 0]) 3 24 Try.underlying56 HI1.out HZ1.out HS1.out HY1.out rfl (by decide) _ m (ptCells (exK L k)) rfl (own_stay HW.out (B2a.alloc B2a.size _)) _ _ 1 1 (ptCells [(x', y', z')]) rfl (lists_ptk _ (x', y', z') _ _ (by simp)) rfl (ptCells_one _) (by simp only [maxLen]; omega) (by omega) (by simp; omega) ?_; intro v4 w4 own4 hg4 _))
          go_roundw
          case rel => exact ⟨k + 1, m + 1, by omega, by go_num, HM1.out, by rw [HP1.out]; exact own4, (((hb.trans (B2a.mono hb.size)).alloc (by have := hb.size; simp; omega) _).grown hg4 (by have := hb.size; simp; omega) (fun j hj => (HW.out.lt j hj).1))⟩
          case measure => simp [intOf]; omega
    · obtain rfl : k = n := by omega
      have d1 : decide ((k : Int) < (k : Int)) = false := by simp
      have HT := Lib.hid (show exK L k = exE L by unfold exE; rw [HN.out])
      go_wp2
      go_ret
      exact ⟨_, rfl, by rw [← HT.out, ← hm]; exact hown, hb⟩

end Go.Proofs.Ytlacjifnniahhaa
