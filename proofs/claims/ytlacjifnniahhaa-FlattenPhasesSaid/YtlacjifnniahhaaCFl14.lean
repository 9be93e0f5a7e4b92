/- Part 15 of the proof: OuD, OuU. -/
import Derived.Laws.Tables
import Derived.Laws.Rows
import Derived.Laws.CopyOwn
import Derived.Deep.WholeRow
import Derived.Test.YtlacjifnniahhaaCFl13

namespace Go.Proofs.Ytlacjifnniahhaa
open Go Go.RowKit

def ExPost (w : World) (Ls : List (List Pt)) (e : Ending) (w' : World) : Prop :=
  (chkE Ls ≠ 0 → e = .returned (.tuple #[.slice none 0 0, .int .i64 (chkE Ls)]) ∧ Below w.heap.size w w') ∧
  (chkE Ls = 0 → ∃ v, e = .returned (.tuple #[v, .int .i64 0]) ∧ Own2 w' w.heap.size v (Ls.map exE) ∧ Below w.heap.size w w')
theorem chk_zero {Ls : List (List Pt)} (h : chkE Ls = 0) : Ls.length ≤ 256 ∧ cntO Ls ≤ 4096 ∧ ∀ L ∈ Ls, mayC L = true := by
  unfold chkE at h
  by_cases h1 : 256 < Ls.length ∨ 4096 < cntO Ls
  · rw [if_pos h1] at h; cases h
  · rw [if_neg h1] at h
    by_cases h2 : Ls.all mayC = true
    · exact ⟨by omega, by omega, fun L hL => List.all_eq_true.1 h2 L hL⟩
    · rw [if_neg h2] at h; cases h

set_option maxRecDepth 100000 in
theorem explicits_any (B : Nat) (A : Option Addr) (c : Nat) (Ls : List (List Pt)) (w : World) (hB : B ≤ w.heap.size) (h : OutAt w B A Ls) (hs : Sm Ls) :
    Calls Try.prog 62 #[.slice A Ls.length c] w (ExPost w Ls) := by
  have C1 := check_any B A c Ls w hB h hs
  have HP : ∀ e w', ((chkE Ls ≠ 0 → e = .returned (.tuple #[.slice none 0 0, .int .i64 (chkE Ls)]) ∧ Below w.heap.size w w') ∧ (chkE Ls = 0 → ∃ v, e = .returned (.tuple #[v, .int .i64 0]) ∧ Own2 w' w.heap.size v (Ls.map exE) ∧ Below w.heap.size w w')) → ExPost w Ls e w' := fun e w' h => h
  have hmay := fun (h : chkE Ls = 0) => (chk_zero h).2.2
  have hn := hs.1
  have HM := Lib.hid hs.2
  have HL := Lib.hid h
  obtain ⟨n, hnn⟩ : ∃ n, n = Ls.length := ⟨_, rfl⟩
  rw [← hnn] at hn C1 ⊢
  have HN := Lib.hid hnn
  clear h hnn hs
  obtain ⟨i1, hi1, hz1, hs1, hy1⟩ := info_parts1 ptInfo
  obtain ⟨i2, hi2, hz2, hs2, hy2⟩ := info_parts1 rowInfo
  have HI1 := Lib.hid hi1
  have HZ1 := Lib.hid hz1
  have HS1 := Lib.hid hs1
  have HY1 := Lib.hid hy1
  have HI2 := Lib.hid hi2
  have HZ2 := Lib.hid hz2
  have HS2 := Lib.hid hs2
  have HY2 := Lib.hid hy2
  clear hi1 hz1 hs1 hy1 hi2 hz2 hs2 hy2
  generalize chkE Ls = x at *
  by_cases hx : x = 0
  · subst hx
    have HF := Lib.hid (fun L hL => fair_of (hmay rfl L hL))
    have HP := Lib.hid HP
    clear hmay
    go_enter Try.func62, Try.ntmps62
    go_wp2_with (first | (go_at_call 36; ((with_reducible refine (C1).mono ?_); rintro e w0 ⟨rfl, b0⟩)))
    go_loopw [5, 15] (fun v i wr => ∃ k : Nat, k ≤ n ∧ i = .int .i64 k ∧ Own2 wr w.heap.size v ((Ls.take k).map exE) ∧ Below w.heap.size w wr) (fun _ i _ => n - (intOf i).toNat)
    case atStart => exact ⟨0, Nat.zero_le _, rfl, Own2.nil _ _, b0⟩
    case round =>
      obtain ⟨k, hk, rfl, hO, hb⟩ := hrel
      by_cases hlt : k < n
      · have d1 : decide ((k : Int) < (n : Int)) = true := by simp; omega
        obtain ⟨L, hL⟩ := at_some (L := Ls) (k := k) (by rw [← HN.out]; exact hlt)
        obtain ⟨b, o, Ai, ci, rfl, hbl, c0, hE⟩ := HL.out.at' k L hL
        have g0 := (hb.cell (p := ⟨b, o + k, none⟩) (Nat.lt_of_lt_of_le hbl hB)).trans c0
        have g3 : b < wr.heap.size := by have := hb.size; omega
        have hl : L.length ≤ 100000 := HM.out L (List.mem_of_getElem? hL)
        have HT := Lib.hid (show (Ls.take (k + 1)).map exE = (Ls.take k).map exE ++ [exE L] by rw [take_snoc1 hL]; simp)
        obtain ⟨rows, ho, hi⟩ := hO
        have HO := Lib.hid ho
        have HI := Lib.hid hi
        have hbs := hb.size
        have C := explicit_any B Ai ci L wr (Nat.le_trans hB hbs) (hE.below (hb.mono hB)) hl (HF.out L (List.mem_of_getElem? hL))
        have HK := Lib.hid (show ((Ls.take k).map exE).length ≤ 100000 by simp; omega)
        clear c0 hE hL ho hi
        generalize (Ls.take k).map exE = RL at *
        go_wp2_with (first
          | (go_at_call 84; ((with_reducible refine (C).mono ?_); rintro e w1 ⟨r1, rfl, own1, b1⟩; obtain ⟨A1, c1, rfl, _⟩ := own_lists own1))
          | (at_builtin; refine wpList_append_src _ rfl (.tmp 19) (.tmp 22) 37 rfl w.heap.size 56 i2 (.slice none 0 0) 1 24 Try.underlying37 HI2.out HZ2.out HS2.out HY2.out rfl (by decide) _ _ rows rfl (own_stay (own_stay HO.out b1) ((Below.refl _ _).alloc (Nat.le_refl _) _)) _ _ 1 1 [.slice A1 _ c1] rfl (lists_new1 w1 _ _) rfl (fun u hu => by simp at hu; subst hu; rfl) (by simp only [maxLen]; have := HK.out; omega) (by have := HK.out; omega) (by have := b1.size; simp; omega) ?_; intro v2 w2 own2 hg2 _))
        go_roundw
        case rel => exact ⟨k + 1, by omega, by go_num, by rw [HT.out]; exact own2_push hbs HO.out HI.out b1 own1 ((Below.refl _ _).alloc (Nat.le_refl _) _) own2 hg2, (hb.trans (b1.mono hbs)).alloc (Nat.le_trans hbs b1.size) _ |>.grown hg2 (by have := b1.size; simp; omega) (fun j hj => (HO.out.lt j hj).1)⟩
        case measure => simp [intOf]; omega
      · obtain rfl : k = n := by omega
        have d1 : decide ((k : Int) < (k : Int)) = false := by simp
        have HT := Lib.hid (show Ls.take k = Ls by rw [HN.out]; exact List.take_length)
        go_wp2
        go_ret2
        exact HP.out _ _ ⟨fun h => absurd rfl h, fun _ => ⟨_, rfl, by rw [HT.out] at hO; exact hO, hb⟩⟩
  · have d1 : (x == 0) = false := by simpa using hx
    have d2 : (x != 0) = true := by simpa using hx
    have HP := Lib.hid HP
    clear hmay
    go_enter Try.func62, Try.ntmps62
    go_wp2_with (first | (go_at_call 36; ((with_reducible refine (C1).mono ?_); rintro e w0 ⟨rfl, b0⟩)))
    go_ret2
    exact HP.out _ _ ⟨fun _ => ⟨rfl, b0⟩, fun h => absurd h hx⟩

set_option maxRecDepth 100000 in
theorem rexplicits_any (B : Nat) (A : Option Addr) (c : Nat) (Ls : List (List Pt)) (w : World) (hB : B ≤ w.heap.size) (h : OutAt w B A Ls) (hs : Sm Ls) (hmay : ∀ L ∈ Ls, mayC L = true) :
    Calls Try.prog 71 #[.slice A Ls.length c] w (MadeOut w (Ls.map rexE)) := by
  have hn := hs.1
  have HM := Lib.hid hs.2
  have HL := Lib.hid h
  have HF := Lib.hid hmay
  obtain ⟨n, hnn⟩ : ∃ n, n = Ls.length := ⟨_, rfl⟩
  rw [← hnn] at hn ⊢
  have HN := Lib.hid hnn
  clear h hnn hs hmay
  obtain ⟨i1, hi1, hz1, hs1, hy1⟩ := info_parts1 ptInfo
  obtain ⟨i2, hi2, hz2, hs2, hy2⟩ := info_parts1 rowInfo
  have HI1 := Lib.hid hi1
  have HZ1 := Lib.hid hz1
  have HS1 := Lib.hid hs1
  have HY1 := Lib.hid hy1
  have HI2 := Lib.hid hi2
  have HZ2 := Lib.hid hz2
  have HS2 := Lib.hid hs2
  have HY2 := Lib.hid hy2
  clear hi1 hz1 hs1 hy1 hi2 hz2 hs2 hy2
  go_enter Try.func71, Try.ntmps71
  go_wp2
  go_loopw [3, 4] (fun v i wr => ∃ k : Nat, k ≤ n ∧ i = .int .i64 k ∧ Own2 wr w.heap.size v ((Ls.take k).map rexE) ∧ Below w.heap.size w wr) (fun _ i _ => n - (intOf i).toNat)
  case atStart => exact ⟨0, Nat.zero_le _, rfl, Own2.nil _ _, Below.refl _ _⟩
  case round =>
    obtain ⟨k, hk, rfl, hO, hb⟩ := hrel
    by_cases hlt : k < n
    · have d1 : decide ((k : Int) < (n : Int)) = true := by simp; omega
      obtain ⟨L, hL⟩ := at_some (L := Ls) (k := k) (by rw [← HN.out]; exact hlt)
      obtain ⟨b, o, Ai, ci, rfl, hbl, c0, hE⟩ := HL.out.at' k L hL
      have g0 := (hb.cell (p := ⟨b, o + k, none⟩) (Nat.lt_of_lt_of_le hbl hB)).trans c0
      have g3 : b < wr.heap.size := by have := hb.size; omega
      have hl : L.length ≤ 100000 := HM.out L (List.mem_of_getElem? hL)
      have HT := Lib.hid (show (Ls.take (k + 1)).map rexE = (Ls.take k).map rexE ++ [rexE L] by rw [take_snoc1 hL]; simp)
      obtain ⟨rows, ho, hi⟩ := hO
      have HO := Lib.hid ho
      have HI := Lib.hid hi
      have hbs := hb.size
      have C := rexplicit_any B Ai ci L wr (Nat.le_trans hB hbs) (hE.below (hb.mono hB)) (may_pos (HF.out L (List.mem_of_getElem? hL))) hl (fair_of (HF.out L (List.mem_of_getElem? hL)))
      have HK := Lib.hid (show ((Ls.take k).map rexE).length ≤ 100000 by simp; omega)
      clear c0 hE hL ho hi
      generalize (Ls.take k).map rexE = RL at *
      go_wp2_with (first
        | (go_at_call 93; ((with_reducible refine (C).mono ?_); rintro e w1 ⟨r1, rfl, own1, b1⟩; obtain ⟨A1, c1, rfl, _⟩ := own_lists own1))
        | (at_builtin; refine wpList_append_src _ rfl (.tmp 11) (.tmp 17) 37 rfl w.heap.size 56 i2 (.slice none 0 0) 1 24 Try.underlying37 HI2.out HZ2.out HS2.out HY2.out rfl (by decide) _ _ rows rfl (own_stay (own_stay HO.out b1) ((Below.refl _ _).alloc (Nat.le_refl _) _)) _ _ 1 1 [.slice A1 _ c1] rfl (lists_new1 w1 _ _) rfl (fun u hu => by simp at hu; subst hu; rfl) (by simp only [maxLen]; have := HK.out; omega) (by have := HK.out; omega) (by have := b1.size; simp; omega) ?_; intro v2 w2 own2 hg2 _))
      go_roundw
      case rel => exact ⟨k + 1, by omega, by go_num, by rw [HT.out]; exact own2_push hbs HO.out HI.out b1 own1 ((Below.refl _ _).alloc (Nat.le_refl _) _) own2 hg2, (hb.trans (b1.mono hbs)).alloc (Nat.le_trans hbs b1.size) _ |>.grown hg2 (by have := b1.size; simp; omega) (fun j hj => (HO.out.lt j hj).1)⟩
      case measure => simp [intOf]; omega
    · obtain rfl : k = n := by omega
      have d1 : decide ((k : Int) < (k : Int)) = false := by simp
      have HT := Lib.hid (show Ls.take k = Ls by rw [HN.out]; exact List.take_length)
      go_wp2
      go_ret
      exact ⟨_, rfl, by rw [HT.out] at hO; exact hO, hb⟩

/-- Curves hands back its walk over the explicit outline, which lies in block k. -/
def CurvesPost (w : World) (Ls : List (List Pt)) (e : Ending) (w' : World) : Prop :=
  ∃ (k : Nat) (A : Option Addr) (c : Nat) (Es : List (List Pt)), e = .returned (.func (.func 63) #[] #[.pointer (some ⟨k, 0, none⟩)]) ∧ w'.cell? ⟨k, 0, none⟩ = some (.slice A Es.length c) ∧ k < w'.heap.size ∧ OutAt w' w'.heap.size A Es ∧
    Es = (if chkE Ls = 0 then Ls.map exE else []) ∧ Below w.heap.size w w'
theorem outAt_nil (w : World) (B : Nat) : OutAt w B none [] := ⟨fun i L h => by simp at h⟩

set_option maxRecDepth 100000 in
theorem curves_any (B : Nat) (A : Option Addr) (c : Nat) (Ls : List (List Pt)) (w : World) (hB : B ≤ w.heap.size) (h : OutAt w B A Ls) (hs : Sm Ls) :
    Calls Try.prog 38 #[.slice A Ls.length c] w (CurvesPost w Ls) := by
  have C := explicits_any B A c Ls w hB h hs
  have hmf : ∀ (fn : Fn) (first cap : Array Value) (w : World), (Instr.makeFunc fn first cap).run Try.prog w = .ok (.func fn first cap) w := fun _ _ _ _ => rfl
  clear h
  by_cases hx : chkE Ls = 0
  · have C' : Calls Try.prog 62 #[.slice A Ls.length c] w fun e w' => ∃ v, e = .returned (.tuple #[v, .int .i64 0]) ∧ Own2 w' w.heap.size v (Ls.map exE) ∧ Below w.heap.size w w' := C.mono fun e w' h => h.2 hx
    have HX := Lib.hid hx
    clear C hx
    go_enter Try.func38, Try.ntmps38
    go_wp2_with (first | (go_at_call 62; ((with_reducible refine (C').mono ?_); rintro e w1 ⟨v1, rfl, own1, b1⟩; obtain ⟨A1, c1, rfl, o1⟩ := own1.out)))
    go_ret
    exact ⟨w1.heap.size, A1, c1, Ls.map exE, rfl, by rw [World.cell?_alloc_new]; simp, by simp, (o1.below ((Below.refl _ _).alloc (Nat.le_refl _) _)).more (by simp), by rw [if_pos HX.out], b1.alloc b1.size _⟩
  · have C' : Calls Try.prog 62 #[.slice A Ls.length c] w fun e w' => e = .returned (.tuple #[.slice none 0 0, .int .i64 (chkE Ls)]) ∧ Below w.heap.size w w' := C.mono fun e w' h => h.1 hx
    have HX := Lib.hid hx
    clear C hx
    generalize chkE Ls = x at C'
    go_enter Try.func38, Try.ntmps38
    go_wp2_with (first | (go_at_call 62; ((with_reducible refine (C').mono ?_); rintro e w1 ⟨rfl, b1⟩)))
    go_ret
    exact ⟨w1.heap.size, none, 0, [], rfl, by rw [World.cell?_alloc_new]; rfl, by simp, outAt_nil _ _, by rw [if_neg HX.out], b1.alloc b1.size _⟩

end Go.Proofs.Ytlacjifnniahhaa

namespace Go.Proofs.Ytlacjifnniahhaa
open Go Go.RowKit

abbrev Cv := Int × Pt × Pt × Pt × Pt
def cvL (c : Cv) : List Value := .int .i64 c.1 :: ptCells [c.2.1, c.2.2.1, c.2.2.2.1, c.2.2.2.2]
def cvV (c : Cv) : Value := .agg (cvL c).toArray
def noP : Pt := (0, 0, 0)
def cvAt (L : List Pt) (k : Nat) : Cv :=
  if kd L ((k : Int) + 1) == 2 then (2, ringP L k, ringP L ((k : Int) + 1), noP, ringP L ((k : Int) + 2))
  else if kd L ((k : Int) + 1) == 3 then (3, ringP L k, ringP L ((k : Int) + 1), ringP L ((k : Int) + 2), ringP L ((k : Int) + 3))
  else (1, ringP L k, noP, noP, ringP L ((k : Int) + 1))
theorem cvSize : (Try.prog.info? 83).map (·.size) = some 13 := by kernel_rfl
/-- What the ring answers at a place, in every later world. -/
def CC (A : Option Addr) (c n : Nat) (w : World) (a : Int) (v : Pt) : Prop := ∀ w1, Below w.heap.size w w1 → Calls Try.prog 85 #[.slice A n c, .int .i64 a] w1 fun e w' => e = .returned (ptV v) ∧ Below w1.heap.size w1 w'
theorem bLine (x y z x' y' z' : Int) : Try.prog.built 83 [(0, .int .i64 1), (1, .agg #[.int .i64 x, .int .i64 y, .int .i64 z]), (4, .agg #[.int .i64 x', .int .i64 y', .int .i64 z'])] = some #[.int .i64 1, .int .i64 x, .int .i64 y, .int .i64 z, .int .i64 0, .int .i64 0, .int .i64 0, .int .i64 0, .int .i64 0, .int .i64 0, .int .i64 x', .int .i64 y', .int .i64 z'] := by kernel_rfl
theorem bQuad (x y z x' y' x2 y2 z2 : Int) : Try.prog.built 83 [(0, .int .i64 2), (1, .agg #[.int .i64 x, .int .i64 y, .int .i64 z]), (2, .agg #[.int .i64 x', .int .i64 y', .int .i64 2]), (4, .agg #[.int .i64 x2, .int .i64 y2, .int .i64 z2])] = some #[.int .i64 2, .int .i64 x, .int .i64 y, .int .i64 z, .int .i64 x', .int .i64 y', .int .i64 2, .int .i64 0, .int .i64 0, .int .i64 0, .int .i64 x2, .int .i64 y2, .int .i64 z2] := by kernel_rfl
theorem bCubic (x y z x' y' x2 y2 z2 x3 y3 z3 : Int) : Try.prog.built 83 [(0, .int .i64 3), (1, .agg #[.int .i64 x, .int .i64 y, .int .i64 z]), (2, .agg #[.int .i64 x', .int .i64 y', .int .i64 3]), (3, .agg #[.int .i64 x2, .int .i64 y2, .int .i64 z2]), (4, .agg #[.int .i64 x3, .int .i64 y3, .int .i64 z3])] = some #[.int .i64 3, .int .i64 x, .int .i64 y, .int .i64 z, .int .i64 x', .int .i64 y', .int .i64 3, .int .i64 x2, .int .i64 y2, .int .i64 z2, .int .i64 x3, .int .i64 y3, .int .i64 z3] := by kernel_rfl
theorem wpList_build_to {P : Program} {ops : Array Oper} {rest : List Oper} {o : Oper} {a : Act} {w : World} {Q : Exit → Act → World → Prop} (hg : o.guard = none) (t : TypeId) (parts : Array (Nat × Operand)) (ho : o.op = .build t parts)
    (l : List (Nat × Value)) (hl : (parts.map fun (i, x) => (i, a.eval x)).toList = l) (v : Array Value) (hf : P.built t l = some v) (h : wpList P ops Q rest (a.put o.dst (.agg v)) w) : wpList P ops Q (o :: rest) a w := by
  subst hl
  exact wpList_build hg t parts ho (by rw [hf]; rfl) (by rw [hf]; exact h)

set_option maxRecDepth 100000 in
set_option maxHeartbeats 1000000 in
theorem cf_line (A : Option Addr) (c n k : Nat) (w : World) (hn : n ≤ 1000000) (hk : k < n) (x y z x' y' z' : Int) (C1 : CC A c n w k (x, y, z)) (C2 : CC A c n w ((k : Int) + 1) (x', y', z')) (t0 : (z' == 2) = false) (t1 : (z' == 3) = false) :
    Calls Try.prog 64 #[.slice A n c, .int .i64 k] w fun e w' => e = .returned (.agg #[.int .i64 1, .int .i64 x, .int .i64 y, .int .i64 z, .int .i64 0, .int .i64 0, .int .i64 0, .int .i64 0, .int .i64 0, .int .i64 0, .int .i64 x', .int .i64 y', .int .i64 z']) ∧ Below w.heap.size w w' := by
  unfold CC ptV at *
  simp only at C1 C2
  have e2 : IntKind.i64.wrap ((k : Int) + 2) = (k : Int) + 2 := IntWalk.i64_in _ (by omega)
  have e3 : IntKind.i64.wrap ((k : Int) + 3) = (k : Int) + 3 := IntWalk.i64_in _ (by omega)
  go_enter Try.func64, Try.ntmps64
  go_wp2_with (first | (go_at_call 85; ((with_reducible refine (C1 _ ((Below.refl _ _).alloc (Nat.le_refl _) _)).mono ?_); rintro e w1 ⟨rfl, b1⟩)) | (go_at_call 85; ((with_reducible refine (C2 _ (((Below.refl _ _).alloc (Nat.le_refl _) _).trans (b1.mono (by simp)))).mono ?_); rintro e w2 ⟨rfl, b2⟩; have K0 := ((Blk.new w 83 #[.int .i64 0, .int .i64 0, .int .i64 0, .int .i64 0, .int .i64 0, .int .i64 0, .int .i64 0, .int .i64 0, .int .i64 0, .int .i64 0, .int .i64 0, .int .i64 0, .int .i64 0]).below b1).below b2; have hs0 := K0.lt; have B2 := (((Below.refl w.heap.size w).alloc (Nat.le_refl _) (.cells #[.int .i64 0, .int .i64 0, .int .i64 0, .int .i64 0, .int .i64 0, .int .i64 0, .int .i64 0, .int .i64 0, .int .i64 0, .int .i64 0, .int .i64 0, .int .i64 0, .int .i64 0] 83)).trans (b1.mono (by simp))).trans (b2.mono (by have := b1.size; simp at this; omega)); have B2s := B2.size; have B4 := (B2.alloc B2s (.cells #[.int .i64 x, .int .i64 y, .int .i64 z] 25)).alloc (by simp; omega) (.cells #[.int .i64 x', .int .i64 y', .int .i64 z'] 25); have KA := (Blk.new w2 25 #[.int .i64 x, .int .i64 y, .int .i64 z]).below ((Below.refl _ _).alloc (Nat.le_refl _) (.cells #[.int .i64 x', .int .i64 y', .int .i64 z'] 25)); have KB := Blk.new (w2.alloc (.cells #[.int .i64 x, .int .i64 y, .int .i64 z] 25)) 25 #[.int .i64 x', .int .i64 y', .int .i64 z']; have K0' := (K0.below ((Below.refl _ _).alloc (Nat.le_refl _) (.cells #[.int .i64 x, .int .i64 y, .int .i64 z] 25))).below ((Below.refl _ _).alloc (Nat.le_refl _) (.cells #[.int .i64 x', .int .i64 y', .int .i64 z'] 25)); have q0 := KB.cell 2; have q1 := KB.cell 1; have q2 := KB.cell 0; have q3 := KA.cell 0; have q4 := KA.cell 1; have q5 := KA.cell 2; simp only [World.size_alloc, List.getElem?_toArray, List.getElem?_cons_zero, List.getElem?_cons_succ] at q0 q1 q2 q3 q4 q5)) | (refine wpList_build_to rfl 83 #[(0, Operand.const (Value.int IntKind.i64 1)), (1, Operand.tmp 38), (4, Operand.tmp 39)] (by with_reducible rfl) [(0, .int .i64 1), (1, .agg #[.int .i64 x, .int .i64 y, .int .i64 z]), (4, .agg #[.int .i64 x', .int .i64 y', .int .i64 z'])] (by rfl) _ (bLine x y z x' y' z') ?_) | (refine wpList_store_row rfl 83 (.tmp 4) (.tmp 40) (by with_reducible rfl) w.heap.size #[.int .i64 1, .int .i64 x, .int .i64 y, .int .i64 z, .int .i64 0, .int .i64 0, .int .i64 0, .int .i64 0, .int .i64 0, .int .i64 0, .int .i64 x', .int .i64 y', .int .i64 z'] (by rfl) (by rfl) 83 #[.int .i64 0, .int .i64 0, .int .i64 0, .int .i64 0, .int .i64 0, .int .i64 0, .int .i64 0, .int .i64 0, .int .i64 0, .int .i64 0, .int .i64 0, .int .i64 0, .int .i64 0] K0' cvSize rfl (by simp [Value.oneCell']) ?_))
  refine bodyPost_ret (v := .agg #[.int .i64 1, .int .i64 x, .int .i64 y, .int .i64 z, .int .i64 0, .int .i64 0, .int .i64 0, .int .i64 0, .int .i64 0, .int .i64 0, .int .i64 x', .int .i64 y', .int .i64 z']) ?_ rfl ⟨rfl, ?_⟩
  · exact results_cell_row Try.results64 _ _ w.heap.size 83 #[.int .i64 1, .int .i64 x, .int .i64 y, .int .i64 z, .int .i64 0, .int .i64 0, .int .i64 0, .int .i64 0, .int .i64 0, .int .i64 0, .int .i64 x', .int .i64 y', .int .i64 z'] (0, 0) _ (by rfl) (setRow_heap _ _ _ #[.int .i64 1, .int .i64 x, .int .i64 y, .int .i64 z, .int .i64 0, .int .i64 0, .int .i64 0, .int .i64 0, .int .i64 0, .int .i64 0, .int .i64 x', .int .i64 y', .int .i64 z'] _ _ K0') Try.underlying83 rfl cvSize
  · exact below_setRow (B4) (Nat.le_refl _) _

set_option maxRecDepth 100000 in
set_option maxHeartbeats 1000000 in
theorem cf_quad (A : Option Addr) (c n k : Nat) (w : World) (hn : n ≤ 1000000) (hk : k < n) (x y z x' y' x2 y2 z2 : Int) (C1 : CC A c n w k (x, y, z)) (C2 : CC A c n w ((k : Int) + 1) (x', y', 2)) (C3 : CC A c n w ((k : Int) + 2) (x2, y2, z2)) :
    Calls Try.prog 64 #[.slice A n c, .int .i64 k] w fun e w' => e = .returned (.agg #[.int .i64 2, .int .i64 x, .int .i64 y, .int .i64 z, .int .i64 x', .int .i64 y', .int .i64 2, .int .i64 0, .int .i64 0, .int .i64 0, .int .i64 x2, .int .i64 y2, .int .i64 z2]) ∧ Below w.heap.size w w' := by
  unfold CC ptV at *
  simp only at C1 C2 C3
  have e2 : IntKind.i64.wrap ((k : Int) + 2) = (k : Int) + 2 := IntWalk.i64_in _ (by omega)
  have e3 : IntKind.i64.wrap ((k : Int) + 3) = (k : Int) + 3 := IntWalk.i64_in _ (by omega)
  go_enter Try.func64, Try.ntmps64
  go_wp2_with (first | (go_at_call 85; ((with_reducible refine (C1 _ ((Below.refl _ _).alloc (Nat.le_refl _) _)).mono ?_); rintro e w1 ⟨rfl, b1⟩)) | (go_at_call 85; ((with_reducible refine (C2 _ (((Below.refl _ _).alloc (Nat.le_refl _) _).trans (b1.mono (by simp)))).mono ?_); rintro e w2 ⟨rfl, b2⟩; have K0 := ((Blk.new w 83 #[.int .i64 0, .int .i64 0, .int .i64 0, .int .i64 0, .int .i64 0, .int .i64 0, .int .i64 0, .int .i64 0, .int .i64 0, .int .i64 0, .int .i64 0, .int .i64 0, .int .i64 0]).below b1).below b2; have hs0 := K0.lt; have B2 := (((Below.refl w.heap.size w).alloc (Nat.le_refl _) (.cells #[.int .i64 0, .int .i64 0, .int .i64 0, .int .i64 0, .int .i64 0, .int .i64 0, .int .i64 0, .int .i64 0, .int .i64 0, .int .i64 0, .int .i64 0, .int .i64 0, .int .i64 0] 83)).trans (b1.mono (by simp))).trans (b2.mono (by have := b1.size; simp at this; omega)); have B2s := B2.size; have B4 := (B2.alloc B2s (.cells #[.int .i64 x, .int .i64 y, .int .i64 z] 25)).alloc (by simp; omega) (.cells #[.int .i64 x', .int .i64 y', .int .i64 2] 25); have KA := (Blk.new w2 25 #[.int .i64 x, .int .i64 y, .int .i64 z]).below ((Below.refl _ _).alloc (Nat.le_refl _) (.cells #[.int .i64 x', .int .i64 y', .int .i64 2] 25)); have KB := Blk.new (w2.alloc (.cells #[.int .i64 x, .int .i64 y, .int .i64 z] 25)) 25 #[.int .i64 x', .int .i64 y', .int .i64 2]; have K0' := (K0.below ((Below.refl _ _).alloc (Nat.le_refl _) (.cells #[.int .i64 x, .int .i64 y, .int .i64 z] 25))).below ((Below.refl _ _).alloc (Nat.le_refl _) (.cells #[.int .i64 x', .int .i64 y', .int .i64 2] 25)); have q0 := KB.cell 2; have q1 := KB.cell 1; have q2 := KB.cell 0; have q3 := KA.cell 0; have q4 := KA.cell 1; have q5 := KA.cell 2; simp only [World.size_alloc, List.getElem?_toArray, List.getElem?_cons_zero, List.getElem?_cons_succ] at q0 q1 q2 q3 q4 q5)))
  obtain ⟨W4, hW4⟩ : ∃ W4, W4 = (w2.alloc (.cells #[.int .i64 x, .int .i64 y, .int .i64 z] 25)).alloc (.cells #[.int .i64 x', .int .i64 y', .int .i64 2] 25) := ⟨_, rfl⟩
  simp only [World.size_alloc] at KA KB K0'
  rw [← hW4] at KA KB K0' B4
  try rw [← hW4]
  have HD : ∀ W, Below W4.heap.size W4 W → W.cell? ⟨w2.heap.size, 0, none⟩ = some (.int .i64 x) ∧ W.cell? ⟨w2.heap.size, 1, none⟩ = some (.int .i64 y) ∧ W.cell? ⟨w2.heap.size, 2, none⟩ = some (.int .i64 z) ∧ w2.heap.size < W.heap.size ∧ W.cell? ⟨w2.heap.size + 1, 0, none⟩ = some (.int .i64 x') ∧ W.cell? ⟨w2.heap.size + 1, 1, none⟩ = some (.int .i64 y') ∧ W.cell? ⟨w2.heap.size + 1, 2, none⟩ = some (.int .i64 2) ∧ w2.heap.size + 1 < W.heap.size := fun W hW => ⟨(KA.below hW).cell 0, (KA.below hW).cell 1, (KA.below hW).cell 2, (KA.below hW).lt, (KB.below hW).cell 0, (KB.below hW).cell 1, (KB.below hW).cell 2, (KB.below hW).lt⟩
  have B4s := B4.size
  have h4 : w.heap.size < W4.heap.size := K0'.lt
  clear KA KB K0 b1 b2 B2 q0 q1 q2 q3 q4 q5
  have hI : Below W4.heap.size W4 W4.drew := (Below.refl _ _).drew
  refine wp_region_chain_last (fun W => Below W4.heap.size W4 W) [(0, false), (1, false), (2, false), (3, false), (4, false), (5, true), (6, false)] _ _ (by rfl) (by rfl) (by kernel_rfl) (by kernel_rfl) hI ?_
  repeat (first
    | (refine ChainL.skip (o := ?_) ?_ ?_ ?_; rotate_left; (focus (first | (simp only [List.getElem?_toArray, List.getElem?_cons_succ, List.getElem?_cons_zero]; with_reducible rfl) | (simp only [List.getElem?_toArray, List.getElem?_cons_zero]; with_reducible rfl))); (focus rfl); simp only [Act.put, List.setIfInBounds_toArray, List.set_cons_zero, List.set_cons_succ])
    | (refine ChainL.val (o := ?_) (v := ?_) ?_ ?_ ?_ ?_ ?_; rotate_left 2; (focus (first | (simp only [List.getElem?_toArray, List.getElem?_cons_succ, List.getElem?_cons_zero]; with_reducible rfl) | (simp only [List.getElem?_toArray, List.getElem?_cons_zero]; with_reducible rfl))); (focus (intro _ _ h; cases h)); (focus rfl); (focus (intro w' hJ; obtain ⟨y1, y2, y3, y4, y5, y6, y7, y8⟩ := HD _ hJ; go_simp <;> with_reducible rfl)); simp only [Act.put, List.setIfInBounds_toArray, List.set_cons_zero, List.set_cons_succ]))
  refine ChainL.call (o := ?_) (f := ?_) (args := ?_) ?_ ?_ ?_ ?_
  rotate_left 3
  (focus (simp only [List.getElem?_toArray, List.getElem?_cons_succ, List.getElem?_cons_zero]; with_reducible rfl))
  (focus rfl)
  (focus (go_simp; (constructor <;> with_reducible rfl)))
  with_reducible refine (C3 _ (B4.trans (hI.mono B4s))).mono ?_
  rintro e w5 ⟨rfl, b5⟩
  have I5 := hI.trans (b5.mono hI.size)
  refine ⟨_, rfl, I5, ?_⟩
  simp only [Act.put, List.setIfInBounds_toArray, List.set_cons_zero, List.set_cons_succ]
  repeat (first
    | (refine ChainL.skip (o := ?_) ?_ ?_ ?_; rotate_left; (focus (first | (simp only [List.getElem?_toArray, List.getElem?_cons_succ, List.getElem?_cons_zero]; with_reducible rfl) | (simp only [List.getElem?_toArray, List.getElem?_cons_zero]; with_reducible rfl))); (focus rfl); simp only [Act.put, List.setIfInBounds_toArray, List.set_cons_zero, List.set_cons_succ])
    | (refine ChainL.val (o := ?_) (v := ?_) ?_ ?_ ?_ ?_ ?_; rotate_left 2; (focus (first | (simp only [List.getElem?_toArray, List.getElem?_cons_succ, List.getElem?_cons_zero]; with_reducible rfl) | (simp only [List.getElem?_toArray, List.getElem?_cons_zero]; with_reducible rfl))); (focus (intro _ _ h; cases h)); (focus rfl); (focus (intro w' hJ; obtain ⟨y1, y2, y3, y4, y5, y6, y7, y8⟩ := HD _ hJ; go_simp <;> with_reducible rfl)); simp only [Act.put, List.setIfInBounds_toArray, List.set_cons_zero, List.set_cons_succ]))
  refine ChainL.nil ?_
  refine wp_store_row 83 _ _ rfl w.heap.size #[.int .i64 2, .int .i64 x, .int .i64 y, .int .i64 z, .int .i64 x', .int .i64 y', .int .i64 2, .int .i64 0, .int .i64 0, .int .i64 0, .int .i64 x2, .int .i64 y2, .int .i64 z2] rfl rfl 83 #[.int .i64 0, .int .i64 0, .int .i64 0, .int .i64 0, .int .i64 0, .int .i64 0, .int .i64 0, .int .i64 0, .int .i64 0, .int .i64 0, .int .i64 0, .int .i64 0, .int .i64 0] (K0'.below I5) cvSize rfl (by simp [Value.oneCell']) ?_
  simp only [Act.put]
  go_wp2
  refine bodyPost_ret (v := .agg #[.int .i64 2, .int .i64 x, .int .i64 y, .int .i64 z, .int .i64 x', .int .i64 y', .int .i64 2, .int .i64 0, .int .i64 0, .int .i64 0, .int .i64 x2, .int .i64 y2, .int .i64 z2]) ?_ rfl ⟨rfl, ?_⟩
  · exact results_cell_row Try.results64 _ _ w.heap.size 83 #[.int .i64 2, .int .i64 x, .int .i64 y, .int .i64 z, .int .i64 x', .int .i64 y', .int .i64 2, .int .i64 0, .int .i64 0, .int .i64 0, .int .i64 x2, .int .i64 y2, .int .i64 z2] (0, 0) _ (by rfl) (setRow_heap _ _ _ #[.int .i64 2, .int .i64 x, .int .i64 y, .int .i64 z, .int .i64 x', .int .i64 y', .int .i64 2, .int .i64 0, .int .i64 0, .int .i64 0, .int .i64 x2, .int .i64 y2, .int .i64 z2] _ _ (K0'.below I5)) Try.underlying83 rfl cvSize
  · exact below_setRow ((B4.trans (I5.mono B4s))) (Nat.le_refl _) _

set_option maxRecDepth 100000 in
set_option maxHeartbeats 1000000 in
theorem cf_cubic (A : Option Addr) (c n k : Nat) (w : World) (hn : n ≤ 1000000) (hk : k < n) (x y z x' y' x2 y2 z2 x3 y3 z3 : Int) (C1 : CC A c n w k (x, y, z)) (C2 : CC A c n w ((k : Int) + 1) (x', y', 3)) (C3 : CC A c n w ((k : Int) + 2) (x2, y2, z2)) (C4 : CC A c n w ((k : Int) + 3) (x3, y3, z3)) :
    Calls Try.prog 64 #[.slice A n c, .int .i64 k] w fun e w' => e = .returned (.agg #[.int .i64 3, .int .i64 x, .int .i64 y, .int .i64 z, .int .i64 x', .int .i64 y', .int .i64 3, .int .i64 x2, .int .i64 y2, .int .i64 z2, .int .i64 x3, .int .i64 y3, .int .i64 z3]) ∧ Below w.heap.size w w' := by
  unfold CC ptV at *
  simp only at C1 C2 C3 C4
  have e2 : IntKind.i64.wrap ((k : Int) + 2) = (k : Int) + 2 := IntWalk.i64_in _ (by omega)
  have e3 : IntKind.i64.wrap ((k : Int) + 3) = (k : Int) + 3 := IntWalk.i64_in _ (by omega)
  go_enter Try.func64, Try.ntmps64
  go_wp2_with (first | (go_at_call 85; ((with_reducible refine (C1 _ ((Below.refl _ _).alloc (Nat.le_refl _) _)).mono ?_); rintro e w1 ⟨rfl, b1⟩)) | (go_at_call 85; ((with_reducible refine (C2 _ (((Below.refl _ _).alloc (Nat.le_refl _) _).trans (b1.mono (by simp)))).mono ?_); rintro e w2 ⟨rfl, b2⟩; have K0 := ((Blk.new w 83 #[.int .i64 0, .int .i64 0, .int .i64 0, .int .i64 0, .int .i64 0, .int .i64 0, .int .i64 0, .int .i64 0, .int .i64 0, .int .i64 0, .int .i64 0, .int .i64 0, .int .i64 0]).below b1).below b2; have hs0 := K0.lt; have B2 := (((Below.refl w.heap.size w).alloc (Nat.le_refl _) (.cells #[.int .i64 0, .int .i64 0, .int .i64 0, .int .i64 0, .int .i64 0, .int .i64 0, .int .i64 0, .int .i64 0, .int .i64 0, .int .i64 0, .int .i64 0, .int .i64 0, .int .i64 0] 83)).trans (b1.mono (by simp))).trans (b2.mono (by have := b1.size; simp at this; omega)); have B2s := B2.size; have B4 := (B2.alloc B2s (.cells #[.int .i64 x, .int .i64 y, .int .i64 z] 25)).alloc (by simp; omega) (.cells #[.int .i64 x', .int .i64 y', .int .i64 3] 25); have KA := (Blk.new w2 25 #[.int .i64 x, .int .i64 y, .int .i64 z]).below ((Below.refl _ _).alloc (Nat.le_refl _) (.cells #[.int .i64 x', .int .i64 y', .int .i64 3] 25)); have KB := Blk.new (w2.alloc (.cells #[.int .i64 x, .int .i64 y, .int .i64 z] 25)) 25 #[.int .i64 x', .int .i64 y', .int .i64 3]; have K0' := (K0.below ((Below.refl _ _).alloc (Nat.le_refl _) (.cells #[.int .i64 x, .int .i64 y, .int .i64 z] 25))).below ((Below.refl _ _).alloc (Nat.le_refl _) (.cells #[.int .i64 x', .int .i64 y', .int .i64 3] 25)); have q0 := KB.cell 2; have q1 := KB.cell 1; have q2 := KB.cell 0; have q3 := KA.cell 0; have q4 := KA.cell 1; have q5 := KA.cell 2; simp only [World.size_alloc, List.getElem?_toArray, List.getElem?_cons_zero, List.getElem?_cons_succ] at q0 q1 q2 q3 q4 q5)))
  obtain ⟨W4, hW4⟩ : ∃ W4, W4 = (w2.alloc (.cells #[.int .i64 x, .int .i64 y, .int .i64 z] 25)).alloc (.cells #[.int .i64 x', .int .i64 y', .int .i64 3] 25) := ⟨_, rfl⟩
  simp only [World.size_alloc] at KA KB K0'
  rw [← hW4] at KA KB K0' B4
  try rw [← hW4]
  have HD : ∀ W, Below W4.heap.size W4 W → W.cell? ⟨w2.heap.size, 0, none⟩ = some (.int .i64 x) ∧ W.cell? ⟨w2.heap.size, 1, none⟩ = some (.int .i64 y) ∧ W.cell? ⟨w2.heap.size, 2, none⟩ = some (.int .i64 z) ∧ w2.heap.size < W.heap.size ∧ W.cell? ⟨w2.heap.size + 1, 0, none⟩ = some (.int .i64 x') ∧ W.cell? ⟨w2.heap.size + 1, 1, none⟩ = some (.int .i64 y') ∧ W.cell? ⟨w2.heap.size + 1, 2, none⟩ = some (.int .i64 3) ∧ w2.heap.size + 1 < W.heap.size := fun W hW => ⟨(KA.below hW).cell 0, (KA.below hW).cell 1, (KA.below hW).cell 2, (KA.below hW).lt, (KB.below hW).cell 0, (KB.below hW).cell 1, (KB.below hW).cell 2, (KB.below hW).lt⟩
  have B4s := B4.size
  have h4 : w.heap.size < W4.heap.size := K0'.lt
  clear KA KB K0 b1 b2 B2 q0 q1 q2 q3 q4 q5
  have hI : Below W4.heap.size W4 W4.drew := (Below.refl _ _).drew
  refine wp_region_chain_last (fun W => Below W4.heap.size W4 W) [(0, false), (1, false), (2, false), (3, false), (4, false), (6, false), (7, false), (8, false), (5, true), (9, true), (10, false)] _ _ (by rfl) (by rfl) (by kernel_rfl) (by kernel_rfl) hI ?_
  repeat (first
    | (refine ChainL.skip (o := ?_) ?_ ?_ ?_; rotate_left; (focus (first | (simp only [List.getElem?_toArray, List.getElem?_cons_succ, List.getElem?_cons_zero]; with_reducible rfl) | (simp only [List.getElem?_toArray, List.getElem?_cons_zero]; with_reducible rfl))); (focus rfl); simp only [Act.put, List.setIfInBounds_toArray, List.set_cons_zero, List.set_cons_succ])
    | (refine ChainL.val (o := ?_) (v := ?_) ?_ ?_ ?_ ?_ ?_; rotate_left 2; (focus (first | (simp only [List.getElem?_toArray, List.getElem?_cons_succ, List.getElem?_cons_zero]; with_reducible rfl) | (simp only [List.getElem?_toArray, List.getElem?_cons_zero]; with_reducible rfl))); (focus (intro _ _ h; cases h)); (focus rfl); (focus (intro w' hJ; obtain ⟨y1, y2, y3, y4, y5, y6, y7, y8⟩ := HD _ hJ; go_simp <;> with_reducible rfl)); simp only [Act.put, List.setIfInBounds_toArray, List.set_cons_zero, List.set_cons_succ]))
  refine ChainL.call (o := ?_) (f := ?_) (args := ?_) ?_ ?_ ?_ ?_
  rotate_left 3
  (focus (simp only [List.getElem?_toArray, List.getElem?_cons_succ, List.getElem?_cons_zero]; with_reducible rfl))
  (focus rfl)
  (focus (go_simp; (constructor <;> with_reducible rfl)))
  with_reducible refine (C3 _ (B4.trans (hI.mono B4s))).mono ?_
  rintro e w5 ⟨rfl, b5⟩
  have I5 := hI.trans (b5.mono hI.size)
  refine ⟨_, rfl, I5, ?_⟩
  simp only [Act.put, List.setIfInBounds_toArray, List.set_cons_zero, List.set_cons_succ]
  refine ChainL.call (o := ?_) (f := ?_) (args := ?_) ?_ ?_ ?_ ?_
  rotate_left 3
  (focus (simp only [List.getElem?_toArray, List.getElem?_cons_succ, List.getElem?_cons_zero]; with_reducible rfl))
  (focus rfl)
  (focus (go_simp; (constructor <;> with_reducible rfl)))
  with_reducible refine (C4 _ (B4.trans (I5.mono B4s))).mono ?_
  rintro e w6 ⟨rfl, b6⟩
  have I6 := I5.trans (b6.mono I5.size)
  refine ⟨_, rfl, I6, ?_⟩
  simp only [Act.put, List.setIfInBounds_toArray, List.set_cons_zero, List.set_cons_succ]
  repeat (first
    | (refine ChainL.skip (o := ?_) ?_ ?_ ?_; rotate_left; (focus (first | (simp only [List.getElem?_toArray, List.getElem?_cons_succ, List.getElem?_cons_zero]; with_reducible rfl) | (simp only [List.getElem?_toArray, List.getElem?_cons_zero]; with_reducible rfl))); (focus rfl); simp only [Act.put, List.setIfInBounds_toArray, List.set_cons_zero, List.set_cons_succ])
    | (refine ChainL.val (o := ?_) (v := ?_) ?_ ?_ ?_ ?_ ?_; rotate_left 2; (focus (first | (simp only [List.getElem?_toArray, List.getElem?_cons_succ, List.getElem?_cons_zero]; with_reducible rfl) | (simp only [List.getElem?_toArray, List.getElem?_cons_zero]; with_reducible rfl))); (focus (intro _ _ h; cases h)); (focus rfl); (focus (intro w' hJ; obtain ⟨y1, y2, y3, y4, y5, y6, y7, y8⟩ := HD _ hJ; go_simp <;> with_reducible rfl)); simp only [Act.put, List.setIfInBounds_toArray, List.set_cons_zero, List.set_cons_succ]))
  refine ChainL.nil ?_
  refine wp_store_row 83 _ _ rfl w.heap.size #[.int .i64 3, .int .i64 x, .int .i64 y, .int .i64 z, .int .i64 x', .int .i64 y', .int .i64 3, .int .i64 x2, .int .i64 y2, .int .i64 z2, .int .i64 x3, .int .i64 y3, .int .i64 z3] rfl rfl 83 #[.int .i64 0, .int .i64 0, .int .i64 0, .int .i64 0, .int .i64 0, .int .i64 0, .int .i64 0, .int .i64 0, .int .i64 0, .int .i64 0, .int .i64 0, .int .i64 0, .int .i64 0] (K0'.below I6) cvSize rfl (by simp [Value.oneCell']) ?_
  simp only [Act.put]
  go_wp2
  refine bodyPost_ret (v := .agg #[.int .i64 3, .int .i64 x, .int .i64 y, .int .i64 z, .int .i64 x', .int .i64 y', .int .i64 3, .int .i64 x2, .int .i64 y2, .int .i64 z2, .int .i64 x3, .int .i64 y3, .int .i64 z3]) ?_ rfl ⟨rfl, ?_⟩
  · exact results_cell_row Try.results64 _ _ w.heap.size 83 #[.int .i64 3, .int .i64 x, .int .i64 y, .int .i64 z, .int .i64 x', .int .i64 y', .int .i64 3, .int .i64 x2, .int .i64 y2, .int .i64 z2, .int .i64 x3, .int .i64 y3, .int .i64 z3] (0, 0) _ (by rfl) (setRow_heap _ _ _ #[.int .i64 3, .int .i64 x, .int .i64 y, .int .i64 z, .int .i64 x', .int .i64 y', .int .i64 3, .int .i64 x2, .int .i64 y2, .int .i64 z2, .int .i64 x3, .int .i64 y3, .int .i64 z3] _ _ (K0'.below I6)) Try.underlying83 rfl cvSize
  · exact below_setRow ((B4.trans (I6.mono B4s))) (Nat.le_refl _) _

theorem curveFrom_any (B : Nat) (A : Option Addr) (c : Nat) (L : List Pt) (k : Nat) (w : World) (hB : B ≤ w.heap.size) (h : Lists w B A (ptCells L)) (hn : L.length ≤ 1000000) (hk : k < L.length) :
    Calls Try.prog 64 #[.slice A L.length c, .int .i64 k] w fun e w' => e = .returned (cvV (cvAt L k)) ∧ Below w.heap.size w w' := by
  have C := fun (a : Int) (ha : 0 ≤ a) (ha2 : a ≤ 100000000) => (fun (w1 : World) (b1 : Below w.heap.size w w1) => ring_any B A c L a w1 (Nat.le_trans hB b1.size) (h.below (b1.mono hB)) (by omega) (by omega) (by omega) ha2 : CC A c L.length w a (ringP L a))
  have C1 := C (k : Int) (by omega) (by omega)
  have C2 := C ((k : Int) + 1) (by omega) (by omega)
  have C3 := C ((k : Int) + 2) (by omega) (by omega)
  have C4 := C ((k : Int) + 3) (by omega) (by omega)
  unfold cvAt kd
  generalize L.length = n at hn hk C1 C2 C3 C4
  clear C h hB
  generalize ringP L (k : Int) = p at *
  generalize ringP L ((k : Int) + 1) = q at *
  generalize ringP L ((k : Int) + 2) = p2 at *
  generalize ringP L ((k : Int) + 3) = p3 at *
  obtain ⟨x, y, z⟩ := p
  obtain ⟨x', y', z'⟩ := q
  obtain ⟨x2, y2, z2⟩ := p2
  obtain ⟨x3, y3, z3⟩ := p3
  dsimp only
  cases t0 : (z' == 2)
  · cases t1 : (z' == 3)
    · exact cf_line A c n k w hn hk x y z x' y' z' C1 C2 t0 t1
    · obtain rfl : z' = 3 := by simpa using t1
      exact cf_cubic A c n k w hn hk x y z x' y' x2 y2 z2 x3 y3 z3 C1 C2 C3 C4
  · obtain rfl : z' = 2 := by simpa using t0
    exact cf_quad A c n k w hn hk x y z x' y' x2 y2 z2 C1 C2 C3

end Go.Proofs.Ytlacjifnniahhaa
