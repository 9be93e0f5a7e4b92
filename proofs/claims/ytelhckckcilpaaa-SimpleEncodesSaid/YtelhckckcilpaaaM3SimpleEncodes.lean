/- Part 19 of the proof: Rw2, SpRf, SpRg, OuN. -/
import Derived.LoopTactic
import Derived.Outline
import Derived.Test.YtelhckckcilpaaaM2SimpleEncodes

namespace Go.Proofs.Ytelhckckcilpaaa
open Go Go.RowKit

theorem RPut.alloc {w w' : World} {o : Obj} {q R : Nat} {F : Bool} {L E : List Value} {fp : List Nat} (h : RPut (w.alloc o) w' q R F L fp E) : RPut w w' q R F L fp E := by
  obtain ⟨fp', h1, h2, h3⟩ := h
  refine ⟨fp', h1, ((Only.refl w fp).alloc o).trans h2 (fun b hb => .inl hb), fun b hb => ?_⟩
  rcases h3 b hb with h | h
  · exact .inl h
  · right
    simp at h
    omega
theorem rbytes1_any (x : Int) (w : World) :
    Calls Try.prog 81 #[.int .i64 1, .int .i64 x] w fun e w' => e = .returned (.slice (some ⟨w.heap.size, 0, none⟩) 1 1) ∧ w' = w.alloc (.cells #[.int .u8 (x % 256)] 5) := by
  have hmk : ∀ w : World, (Instr.makeSlice 22 (.int .i64 1) (.int .i64 1)).run Try.prog w = .ok (.slice (some ⟨w.heap.size, 0, none⟩) 1 1) (w.alloc (.cells #[.int .u8 0] 5)) := fun w => by
    have h := run_make_row' (P := Try.prog) 22 5 (.int .u8 0) 1 Try.underlying22 u8Info rfl .i64 .i64 1 (by omega) (by omega) w
    rw [made_zeros] at h
    exact h
  go_enter Try.func81, Try.ntmps81
  go_wp2
  refine wp_loop_rounds 2 ?_
  rw [rounds_succ]
  go_wp2
  rw [rounds_succ]
  go_wp2
  go_ret
  exact ⟨rfl, rfl⟩
set_option maxRecDepth 100000 in
theorem ru1_any (q R : Nat) (F : Bool) (L : List Value) (fp : List Nat) (x : Int) (w : World) (hW : RWr w q R F L fp) (hR : R ≤ 1099511627776) :
    Calls Try.prog 50 #[.pointer (some ⟨q, 0, none⟩), .int .i64 1, .int .i64 x] w fun e w' => e = .returned (.tuple #[]) ∧ RPut w w' q R F L fp (be1 x) := by
  have C := rdata_any q R F L fp (some ⟨w.heap.size, 0, none⟩) 1 1 (w.alloc (.cells #[.int .u8 (x % 256)] 5)).heap.size (be1 x) (w.alloc (.cells #[.int .u8 (x % 256)] 5)) (hW.only ((Only.refl w []).alloc _) (fun _ _ h => (nomatch h))) hR (lists_new w _ _ _ (fun j u hu => by simpa [be1] using hu)) rfl (Nat.le_refl _) (be1_bytes x)
  have C1 := fun w => rbytes1_any x w
  clear hW hR
  go_enter Try.func50, Try.ntmps50
  go_wp2_with (first | (go_at_call 81; ((with_reducible refine (C1 _).mono ?_); rintro e w1 ⟨rfl, rfl⟩)) | (go_at_call 54; ((with_reducible refine (C).mono ?_); rintro e w1 ⟨rfl, hq⟩)))
  go_end0
  exact ⟨rfl, hq.alloc⟩
set_option maxRecDepth 100000 in
theorem rbytes2_any (x : Int) (w : World) :
    Calls Try.prog 81 #[.int .i64 2, .int .i64 x] w fun e w' => e = .returned (.slice (some ⟨w.heap.size, 0, none⟩) 2 2) ∧ w' = w.alloc (.cells #[.int .u8 (x / 256 % 256), .int .u8 (x % 256)] 5) := by
  have hmk : ∀ w : World, (Instr.makeSlice 22 (.int .i64 2) (.int .i64 2)).run Try.prog w = .ok (.slice (some ⟨w.heap.size, 0, none⟩) 2 2) (w.alloc (.cells #[.int .u8 0, .int .u8 0] 5)) := fun w => by
    have h := run_make_row' (P := Try.prog) 22 5 (.int .u8 0) 1 Try.underlying22 u8Info rfl .i64 .i64 2 (by omega) (by omega) w
    rw [made_zeros] at h
    exact h
  go_enter Try.func81, Try.ntmps81
  go_wp2
  refine wp_loop_rounds 3 ?_
  rw [rounds_succ]
  go_wp2
  rw [rounds_succ]
  go_wp2
  rw [rounds_succ]
  go_wp2
  go_ret
  exact ⟨rfl, rfl⟩
set_option maxRecDepth 100000 in
theorem ru2_any (q R : Nat) (F : Bool) (L : List Value) (fp : List Nat) (x : Int) (w : World) (hW : RWr w q R F L fp) (hR : R ≤ 1099511627776) :
    Calls Try.prog 50 #[.pointer (some ⟨q, 0, none⟩), .int .i64 2, .int .i64 x] w fun e w' => e = .returned (.tuple #[]) ∧ RPut w w' q R F L fp (be2 x) := by
  have C := rdata_any q R F L fp (some ⟨w.heap.size, 0, none⟩) 2 2 (w.alloc (.cells #[.int .u8 (x / 256 % 256), .int .u8 (x % 256)] 5)).heap.size (be2 x) (w.alloc (.cells #[.int .u8 (x / 256 % 256), .int .u8 (x % 256)] 5)) (hW.only ((Only.refl w []).alloc _) (fun _ _ h => (nomatch h))) hR (lists_new w _ _ _ (fun j u hu => by simpa [be2] using hu)) rfl (Nat.le_refl _) (be2_bytes x)
  have C1 := fun w => rbytes2_any x w
  clear hW hR
  go_enter Try.func50, Try.ntmps50
  go_wp2_with (first | (go_at_call 81; ((with_reducible refine (C1 _).mono ?_); rintro e w1 ⟨rfl, rfl⟩)) | (go_at_call 54; ((with_reducible refine (C).mono ?_); rintro e w1 ⟨rfl, hq⟩)))
  go_end0
  exact ⟨rfl, hq.alloc⟩
set_option maxRecDepth 100000 in
theorem rbytes4_any (x : Int) (w : World) :
    Calls Try.prog 81 #[.int .i64 4, .int .i64 x] w fun e w' => e = .returned (.slice (some ⟨w.heap.size, 0, none⟩) 4 4) ∧ w' = w.alloc (.cells #[.int .u8 (x / 16777216 % 256), .int .u8 (x / 65536 % 256), .int .u8 (x / 256 % 256), .int .u8 (x % 256)] 5) := by
  have hmk : ∀ w : World, (Instr.makeSlice 22 (.int .i64 4) (.int .i64 4)).run Try.prog w = .ok (.slice (some ⟨w.heap.size, 0, none⟩) 4 4) (w.alloc (.cells #[.int .u8 0, .int .u8 0, .int .u8 0, .int .u8 0] 5)) := fun w => by
    have h := run_make_row' (P := Try.prog) 22 5 (.int .u8 0) 1 Try.underlying22 u8Info rfl .i64 .i64 4 (by omega) (by omega) w
    rw [made_zeros] at h
    exact h
  go_enter Try.func81, Try.ntmps81
  go_wp2
  refine wp_loop_rounds 5 ?_
  rw [rounds_succ]
  go_wp2
  rw [rounds_succ]
  go_wp2
  rw [rounds_succ]
  go_wp2
  rw [rounds_succ]
  go_wp2
  rw [rounds_succ]
  go_wp2
  go_ret
  exact ⟨rfl, rfl⟩
set_option maxRecDepth 100000 in
theorem ru4_any (q R : Nat) (F : Bool) (L : List Value) (fp : List Nat) (x : Int) (w : World) (hW : RWr w q R F L fp) (hR : R ≤ 1099511627776) :
    Calls Try.prog 50 #[.pointer (some ⟨q, 0, none⟩), .int .i64 4, .int .i64 x] w fun e w' => e = .returned (.tuple #[]) ∧ RPut w w' q R F L fp (be4 x) := by
  have C := rdata_any q R F L fp (some ⟨w.heap.size, 0, none⟩) 4 4 (w.alloc (.cells #[.int .u8 (x / 16777216 % 256), .int .u8 (x / 65536 % 256), .int .u8 (x / 256 % 256), .int .u8 (x % 256)] 5)).heap.size (be4 x) (w.alloc (.cells #[.int .u8 (x / 16777216 % 256), .int .u8 (x / 65536 % 256), .int .u8 (x / 256 % 256), .int .u8 (x % 256)] 5)) (hW.only ((Only.refl w []).alloc _) (fun _ _ h => (nomatch h))) hR (lists_new w _ _ _ (fun j u hu => by simpa [be4] using hu)) rfl (Nat.le_refl _) (be4_bytes x)
  have C1 := fun w => rbytes4_any x w
  clear hW hR
  go_enter Try.func50, Try.ntmps50
  go_wp2_with (first | (go_at_call 81; ((with_reducible refine (C1 _).mono ?_); rintro e w1 ⟨rfl, rfl⟩)) | (go_at_call 54; ((with_reducible refine (C).mono ?_); rintro e w1 ⟨rfl, hq⟩)))
  go_end0
  exact ⟨rfl, hq.alloc⟩

end Go.Proofs.Ytelhckckcilpaaa

namespace Go.Proofs.Ytelhckckcilpaaa
open Go Go.RowKit
set_option linter.unusedVariables false
set_option linter.unusedSimpArgs false

def unitB (x : Int) : Bool := (x.tdiv 65536 * 65536 == x) && inS (x.tdiv 65536)
theorem tmod_iff (x : Int) : x.tmod 65536 = 0 ↔ x.tdiv 65536 * 65536 = x := by rw [Int.tmod_def]; omega
set_option maxRecDepth 100000 in
theorem unit_any (x : Int) (hx : Bd x) (w : World) : Calls Try.prog 51 #[.int .i64 x] w fun e w' => e = .returned (.bool (unitB x)) ∧ w' = w := by
  have hw := wrap_q hx
  have hi := tmod_iff x
  have hb := hx
  have e : unitB x = (decide (x.tdiv 65536 * 65536 = x) && (decide (-32768 ≤ x.tdiv 65536) && decide (x.tdiv 65536 ≤ 32767))) := by
    unfold unitB inS
    congr 1
  obtain ⟨hx0, hx1⟩ := hx
  obtain ⟨q, hq⟩ : ∃ q, q = x.tdiv 65536 := ⟨_, rfl⟩
  by_cases h0 : x.tmod 65536 = 0
  · have h1 := hi.1 h0
    have d0 : (x.tmod 65536 == 0) = true := by simpa using h0
    by_cases h2 : -32768 ≤ x.tdiv 65536
    · by_cases h3 : x.tdiv 65536 ≤ 32767
      · have HE := Lib.hid (show unitB x = true by rw [e]; simp [h1, h2, h3])
        have d2 : decide (x.tdiv 65536 ≥ -32768) = true := by simp; omega
        have d3 : decide (x.tdiv 65536 < 32768) = true := by simp; omega
        have d2' : decide (-32768 ≤ x.tdiv 65536) = true := by simp; omega
        clear e hi hb h1
        go_enter Try.func51, Try.ntmps51
        go_wp2
        go_ret
        exact ⟨by rw [HE.out]; rfl, rfl⟩
      · have HE := Lib.hid (show unitB x = false by rw [e]; simp [h1, h2, h3])
        have d2 : decide (x.tdiv 65536 ≥ -32768) = true := by simp; omega
        have d3 : decide (x.tdiv 65536 < 32768) = false := by simp; omega
        have d2' : decide (-32768 ≤ x.tdiv 65536) = true := by simp; omega
        clear e hi hb h1
        go_enter Try.func51, Try.ntmps51
        go_wp2
        go_ret
        exact ⟨by rw [HE.out]; rfl, rfl⟩
    · have HE := Lib.hid (show unitB x = false by rw [e]; simp [h1, h2])
      have d2 : decide (x.tdiv 65536 ≥ -32768) = false := by simp; omega
      have d2' : decide (-32768 ≤ x.tdiv 65536) = false := by simp; omega
      clear e hi hb h1
      go_enter Try.func51, Try.ntmps51
      go_wp2
      go_ret
      exact ⟨by rw [HE.out]; rfl, rfl⟩
  · have d0 : (x.tmod 65536 == 0) = false := by simpa using h0
    have h1 : ¬ x.tdiv 65536 * 65536 = x := fun h => h0 (hi.2 h)
    have HE := Lib.hid (show unitB x = false by rw [e]; simp [h1])
    clear e hi hb h1
    go_enter Try.func51, Try.ntmps51
    go_wp2
    go_ret
    exact ⟨by rw [HE.out]; rfl, rfl⟩
/-- A step's bytes. -/
def stpB (d : Int) : List Value := if d = 0 then [] else if 0 < d ∧ d ≤ 255 then be1 d else if -255 ≤ d ∧ d < 0 then be1 (-d) else be2 d
theorem stpB_len (d : Int) : (stpB d).length ≤ 2 := by
  unfold stpB
  split
  · simp
  · split
    · simp [be1_len]
    · split <;> simp [be1_len, be2_len]
theorem stpB_bytes (d : Int) : Bytes8 (stpB d) := by
  unfold stpB
  split
  · exact b8_nil
  · split
    · exact be1_bytes d
    · split
      · exact be1_bytes (-d)
      · exact be2_bytes d
theorem own_newU (w : World) (cs : List Value) (h : cs.length ≤ 2) : (w.alloc (.cells cs.toArray 5)).ownsRow w.heap.size 5 1 (.slice (some ⟨w.heap.size, 0, none⟩) cs.length cs.length) cs.length cs :=
  ⟨by rw [Nat.mul_one], .inr ⟨w.heap.size, cs.length, cs.toArray, rfl, Nat.le_refl _, heap_alloc_new w _, Nat.le_refl _, by unfold maxLen; omega, by simp, by simp⟩⟩
/-- What step answers. -/
def StepP (w : World) (b d : Int) (e : Ending) (w' : World) : Prop := ∃ A c x, e = .returned (.tuple #[.int .i64 x, .slice A (stpB d).length c, .bool (inS d)]) ∧ (inS d = true → x = b) ∧ w'.ownsRow w.heap.size 5 1 (.slice A (stpB d).length c) (stpB d).length (stpB d) ∧ Below w.heap.size w w'
theorem step_any (a b : Nat) (hab : (a = 2 ∧ b = 16) ∨ (a = 4 ∧ b = 32)) (d : Int) (h0 : -100000 ≤ d) (h1 : d ≤ 100000) (w : World) : Calls Try.prog 52 #[.int .i64 d, .int .i64 (a : Nat), .int .i64 (b : Nat)] w (StepP w (sbE a b d : Nat) d) := by
  have hor : bits .or .i64 ((a : Nat) : Int) ((b : Nat) : Int) = ((a + b : Nat) : Int) := by rcases hab with ⟨rfl, rfl⟩ | ⟨rfl, rfl⟩ <;> rfl
  have CB := fun W => rbytes2_any d W
  have hs := stpB_len d
  by_cases hz : d = 0
  · subst hz
    have HI := Lib.hid (show inS 0 = true by decide)
    have HE := Lib.hid (show sbE a b 0 = b by unfold sbE; rw [if_pos rfl])
    go_enter Try.func52, Try.ntmps52
    go_wp2
    exact bodyPost_ret (v := .tuple #[.int .i64 (b : Nat), .slice none 0 0, .bool true]) (by simp [results, Try.results52, go_sem]) rfl ⟨none, 0, _, by rw [HI.out]; rfl, fun _ => by rw [HE.out], World.ownsRow_nil _ _ _ _, Below.refl _ _⟩
  · have d0 : (d == 0) = false := by simpa using hz
    by_cases hp : 0 < d
    · have d1 : decide (d > 0) = true := by simpa using hp
      have d1' : decide (0 < d) = true := by simpa using hp
      by_cases hp2 : d ≤ 255
      · have d2 : decide (d < 256) = true := by simp; omega
        have HI := Lib.hid (show inS d = true by rw [inS_iff]; omega)
        have HE := Lib.hid (show sbE a b d = a + b by unfold sbE; rw [if_neg hz, if_pos ⟨hp, hp2⟩])
        have HS := Lib.hid (show stpB d = [.int .u8 (d % 256)] by unfold stpB; rw [if_neg hz, if_pos ⟨hp, hp2⟩]; rfl)
        have hcv : IntKind.u8.wrap d = d % 256 := by unfold IntKind.wrap; rfl
        clear hs
        go_enter Try.func52, Try.ntmps52
        go_wp2
        refine bodyPost_ret (v := .tuple #[.int .i64 ((a + b : Nat) : Int), .slice (some ⟨w.heap.size, 0, none⟩) 1 1, .bool true]) (by simp [results, Try.results52, go_sem]) rfl ⟨some ⟨w.heap.size, 0, none⟩, 1, _, by rw [HI.out, HS.out]; rfl, fun _ => by rw [HE.out], ?_, below_a1 _ _⟩
        rw [HS.out]
        exact own_newU w [.int .u8 (d % 256)] (by simp)
      · have d2 : decide (d < 256) = false := by simp; omega
        have d3 : decide (d < 0) = false := by simp; omega
        have HE := Lib.hid (show sbE a b d = 0 by unfold sbE; rw [if_neg hz, if_neg (by omega), if_neg (by omega)])
        have HS := Lib.hid (show stpB d = [.int .u8 (d / 256 % 256), .int .u8 (d % 256)] by unfold stpB; rw [if_neg hz, if_neg (by omega), if_neg (by omega)]; rfl)
        have d4 : decide (d ≥ -32768) = true := by simp; omega
        have d4' : decide (-32768 ≤ d) = true := by simp; omega
        have HI : Hid (inS d = decide (d < 32768)) := Lib.hid (by unfold inS; rw [d4', Bool.true_and]; simp; omega)
        clear hs
        go_enter Try.func52, Try.ntmps52
        go_wp2_with (first | (go_at_call 81; ((with_reducible refine (CB _).mono ?_); rintro e w1 ⟨rfl, rfl⟩)))
        refine bodyPost_ret (v := .tuple #[.int .i64 0, .slice (some ⟨w.heap.size, 0, none⟩) 2 2, .bool (decide (d < 32768))]) (by simp [results, Try.results52, go_sem]) rfl ⟨some ⟨w.heap.size, 0, none⟩, 2, _, by rw [HI.out, HS.out]; rfl, fun _ => by rw [HE.out]; rfl, ?_, below_a1 _ _⟩
        rw [HS.out]
        exact own_newU w [.int .u8 (d / 256 % 256), .int .u8 (d % 256)] (by simp)
    · have d1 : decide (d > 0) = false := by simp; omega
      have d1' : decide (0 < d) = false := by simp; omega
      have d3 : decide (d < 0) = true := by simp; omega
      by_cases hp2 : -255 ≤ d
      · have d5 : decide (d > -256) = true := by simp; omega
        have d5' : decide (-256 < d) = true := by simp; omega
        have HI := Lib.hid (show inS d = true by rw [inS_iff]; omega)
        have HE := Lib.hid (show sbE a b d = a by unfold sbE; rw [if_neg hz, if_neg (by omega), if_pos (by omega)])
        have HS := Lib.hid (show stpB d = [.int .u8 ((-d) % 256)] by unfold stpB; rw [if_neg hz, if_neg (by omega), if_pos (by omega)]; rfl)
        have e1 : wrap64 (-d) = -d := by unfold wrap64; omega
        have hcv : IntKind.u8.wrap (-d) = (-d) % 256 := by unfold IntKind.wrap; rfl
        clear hs
        go_enter Try.func52, Try.ntmps52
        go_wp2
        refine bodyPost_ret (v := .tuple #[.int .i64 (a : Nat), .slice (some ⟨w.heap.size, 0, none⟩) 1 1, .bool true]) (by simp [results, Try.results52, go_sem]) rfl ⟨some ⟨w.heap.size, 0, none⟩, 1, _, by rw [HI.out, HS.out]; rfl, fun _ => by rw [HE.out], ?_, below_a1 _ _⟩
        rw [HS.out]
        exact own_newU w [.int .u8 ((-d) % 256)] (by simp)
      · have d5 : decide (d > -256) = false := by simp; omega
        have d5' : decide (-256 < d) = false := by simp; omega
        have HE := Lib.hid (show sbE a b d = 0 by unfold sbE; rw [if_neg hz, if_neg (by omega), if_neg (by omega)])
        have HS := Lib.hid (show stpB d = [.int .u8 (d / 256 % 256), .int .u8 (d % 256)] by unfold stpB; rw [if_neg hz, if_neg (by omega), if_neg (by omega)]; rfl)
        by_cases hlo : -32768 ≤ d
        · have d4 : decide (d ≥ -32768) = true := by simp; omega
          have d4' : decide (-32768 ≤ d) = true := by simp; omega
          have d6 : decide (d < 32768) = true := by simp; omega
          have HI := Lib.hid (show inS d = true by rw [inS_iff]; omega)
          clear hs
          go_enter Try.func52, Try.ntmps52
          go_wp2_with (first | (go_at_call 81; ((with_reducible refine (CB _).mono ?_); rintro e w1 ⟨rfl, rfl⟩)))
          refine bodyPost_ret (v := .tuple #[.int .i64 0, .slice (some ⟨w.heap.size, 0, none⟩) 2 2, .bool true]) (by simp [results, Try.results52, go_sem]) rfl ⟨some ⟨w.heap.size, 0, none⟩, 2, _, by rw [HI.out, HS.out]; rfl, fun _ => by rw [HE.out]; rfl, ?_, below_a1 _ _⟩
          rw [HS.out]
          exact own_newU w [.int .u8 (d / 256 % 256), .int .u8 (d % 256)] (by simp)
        · have d4 : decide (d ≥ -32768) = false := by simp; omega
          have d4' : decide (-32768 ≤ d) = false := by simp; omega
          have HI := Lib.hid (show inS d = false by unfold inS; rw [d4']; rfl)
          clear hs
          go_enter Try.func52, Try.ntmps52
          go_wp2_with (first | (go_at_call 81; ((with_reducible refine (CB _).mono ?_); rintro e w1 ⟨rfl, rfl⟩)))
          refine bodyPost_ret (v := .tuple #[.int .i64 0, .slice (some ⟨w.heap.size, 0, none⟩) 2 2, .bool false]) (by simp [results, Try.results52, go_sem]) rfl ⟨some ⟨w.heap.size, 0, none⟩, 2, _, by rw [HI.out, HS.out]; rfl, fun _ => by rw [HE.out]; rfl, ?_, below_a1 _ _⟩
          rw [HS.out]
          exact own_newU w [.int .u8 (d / 256 % 256), .int .u8 (d % 256)] (by simp)
/-- The reference's writer, made since w0, beside blocks K that are none of its own. -/
def RWK (w0 w : World) (q R : Nat) (L : List Value) (K : List Nat) : Prop := ∃ fp, RWr w q R false L fp ∧ Below w0.heap.size w0 w ∧ ∀ b ∈ fp, w0.heap.size ≤ b ∧ b ∉ K
theorem RWK.old {w0 w : World} {q R : Nat} {L : List Value} {K : List Nat} (h : RWK w0 w q R L K) : Below w0.heap.size w0 w := h.elim fun _ h => h.2.1
theorem RWK.below {w0 w w1 : World} {q R : Nat} {L : List Value} {K : List Nat} (h : RWK w0 w q R L K) (k : Below w.heap.size w w1) : RWK w0 w1 q R L K := by
  obtain ⟨fp, hW, b, hf⟩ := h
  exact ⟨fp, hW.only (Only.of_below k []) (fun _ _ h => (nomatch h)), b.trans (k.mono b.size), hf⟩
def RWrK (w0 w : World) (q R : Nat) (L E : List Value) (K : List Nat) (e : Ending) (w' : World) : Prop := e = .returned (.tuple #[]) ∧ RWK w0 w' q R (L ++ E) K ∧ (∀ b ∈ K, w'.heap[b]? = w.heap[b]?) ∧ w.heap.size ≤ w'.heap.size
theorem rwk_put {w0 w : World} {q R : Nat} {L E : List Value} {K : List Nat} {f : FuncId} {args : Array Value} (h : RWK w0 w q R L K) (hK : ∀ b ∈ K, b < w.heap.size) (hx : L.length + E.length ≤ R)
    (hc : ∀ fp, RWr w q R false L fp → Calls Try.prog f args w fun e w' => e = .returned (.tuple #[]) ∧ RPut w w' q R false L fp E) :
    Calls Try.prog f args w (RWrK w0 w q R L E K) := by
  obtain ⟨fp, hW, b, hf⟩ := h
  refine (hc fp hW).mono fun e w' ⟨he, fp', h1, h2, h3⟩ => ⟨he, ⟨fp', ?_, ?_, fun x hx => ?_⟩, fun x hx => h2.block x (hK x hx) (fun hm => (hf x hm).2 hx), h2.size⟩
  · have e1 : putF R false L E = false := by unfold putF; simp; exact hx
    rw [e1] at h1
    unfold putL at h1
    rw [e1, if_neg (by simp)] at h1
    exact h1
  · exact b.trans (h2.to_below b.size (fun x hx => (hf x hx).1))
  · rcases h3 x hx with h | h
    · exact hf x h
    · exact ⟨by have := b.size; omega, fun hm => by have := hK x hm; omega⟩
theorem rwk_u2 (w0 w : World) (q R : Nat) (L : List Value) (K : List Nat) (x : Int) (h : RWK w0 w q R L K) (hK : ∀ b ∈ K, b < w.heap.size) (hx : L.length + 2 ≤ R) (hR : R ≤ 1099511627776) :
    Calls Try.prog 50 #[.pointer (some ⟨q, 0, none⟩), .int .i64 2, .int .i64 x] w (RWrK w0 w q R L (be2 x) K) := rwk_put h hK hx fun fp hW => ru2_any q R false L fp x w hW hR
theorem rwk_data (w0 w : World) (q R : Nat) (L : List Value) (K : List Nat) (A : Option Addr) (m c : Nat) (E : List Value) (h : RWK w0 w q R L K) (hK : ∀ b ∈ K, b < w.heap.size) (hE : Lists w w.heap.size A E) (hm : E.length = m) (h8 : Bytes8 E) (hx : L.length + m ≤ R) (hR : R ≤ 1099511627776) :
    Calls Try.prog 54 #[.pointer (some ⟨q, 0, none⟩), .slice A m c] w (RWrK w0 w q R L E K) := rwk_put h hK (by rw [hm]; exact hx) fun fp hW => rdata_any q R false L fp A m c w.heap.size E w hW hR hE hm (Nat.le_refl _) h8
theorem rwk_new (w0 w : World) (R : Nat) (hb : Below w0.heap.size w0 w) : RWK w0 (w.alloc (.cells #[.slice none 0 0, .int .i64 (R : Nat), .bool false] 81)) w.heap.size R [] [] := by
  refine ⟨[w.heap.size], ⟨.slice none 0 0, Blk.new w _ _, ⟨rfl, .inl ⟨rfl, rfl⟩⟩, fun u hu => (by cases hu), Nat.zero_le _, rfl⟩, hb.trans ((Below.refl w.heap.size w).alloc (Nat.le_refl _) _ |>.mono hb.size), fun b hb2 => ?_⟩
  have := hb.size
  simp at hb2
  exact ⟨by omega, by simp⟩
theorem RWK.give {w0 w : World} {q R : Nat} {L : List Value} {K : List Nat} (h : RWK w0 w q R L K) : ∃ A c, w.cell? ⟨q, 0, none⟩ = some (.slice A L.length c) ∧ Lists w w.heap.size A L ∧ L.length ≤ c ∧ q < w.heap.size := by
  obtain ⟨fp, ⟨bv, hb, ho, _⟩, _⟩ := h
  obtain ⟨A, c, rfl, hl, hc⟩ := own_lists ho
  exact ⟨A, c, hb.cell 0, hl, hc, hb.lt⟩
theorem RWK.beside {w0 w : World} {q R : Nat} {L : List Value} {K0 : List Nat} (h : RWK w0 w q R L K0) : ∃ B, B = w.heap.size ∧ ∀ (K : List Nat) (w1 : World), Below w.heap.size w w1 → (∀ b ∈ K, B ≤ b) → RWK w0 w1 q R L K := by
  obtain ⟨fp, hW, b, hf⟩ := h
  refine ⟨_, rfl, fun K w1 hb hK => ⟨fp, hW.only (Only.of_below hb []) (fun _ _ h => (nomatch h)), b.trans (hb.mono b.size), fun x hx => ⟨(hf x hx).1, fun hm => ?_⟩⟩⟩
  have h1 := hW.lt x hx
  have h2 := hK x hm
  omega
theorem own_kept {w w' : World} {base n s : Nat} {e : TypeId} {v : Value} {xs : List Value} {K : List Nat} (h : w.ownsRow base e s v n xs) (hs : ∀ b ∈ K, w'.heap[b]? = w.heap[b]?) (hv : ∀ b ∈ blk v, b ∈ K) : w'.ownsRow base e s v n xs := by
  rcases h.2 with ⟨h1, h2⟩ | ⟨g, cap, cur, h1, h2, h3, h5⟩
  · exact ⟨h.1, .inl ⟨h1, h2⟩⟩
  · exact ⟨h.1, .inr ⟨g, cap, cur, h1, h2, (hs g (hv g (by rw [h1]; simp [blk, Value.ownBlock]))).trans h3, h5⟩⟩
end Go.Proofs.Ytelhckckcilpaaa

namespace Go.Proofs.Ytelhckckcilpaaa
open Go Go.RowKit
set_option linter.unusedVariables false
set_option linter.unusedSimpArgs false

def rE : List Pt → Int → Int → Option (List Int × List Int)
  | [], _, _ => some ([], [])
  | p :: P, a, b => if !isCub p && (unitB p.1 && unitB p.2.1) && (inS (p.1.tdiv 65536 - a) && inS (p.2.1.tdiv 65536 - b)) then (rE P (p.1.tdiv 65536) (p.2.1.tdiv 65536)).map (fun r => ((p.1.tdiv 65536 - a) :: r.1, (p.2.1.tdiv 65536 - b) :: r.2)) else none
theorem rE_eq : ∀ (P : List Pt) (a b : Int), rE P a b = match stpE (fun p => p.1) P a, stpE (fun p => p.2.1) P b with | some X, some Y => if P.any isCub then none else some (X, Y) | _, _ => none
  | [], a, b => rfl
  | p :: P, a, b => by
    rw [rE, stpE, stpE, rE_eq P, List.any_cons]
    unfold unitB
    cases isCub p <;> cases (p.1.tdiv 65536 * 65536 == p.1) <;> cases (p.2.1.tdiv 65536 * 65536 == p.2.1) <;> cases inS (p.1.tdiv 65536) <;> cases inS (p.2.1.tdiv 65536) <;> cases inS (p.1.tdiv 65536 - a) <;> cases inS (p.2.1.tdiv 65536 - b) <;> cases stpE (fun p => p.1) P (p.1.tdiv 65536) <;> cases stpE (fun p => p.2.1) P (p.2.1.tdiv 65536) <;> cases P.any isCub <;> simp
theorem encS_rE {Ls : List (List Pt)} (hc : chkE Ls = 0) (hne : Ls ≠ []) : encS Ls = match rE Ls.flatten 0 0 with | some (X, Y) => (0, spB Ls X Y) | none => (1, []) := by
  unfold encS
  rw [if_pos hc, rE_eq]
  cases stpE (fun p => p.1) Ls.flatten 0 with
  | none => rfl
  | some X => cases stpE (fun p => p.2.1) Ls.flatten 0 with
    | none => rfl
    | some Y =>
      simp only
      cases Ls.flatten.any isCub
      · rw [if_neg (by simp), if_neg hne]; rfl
      · rfl
theorem rE_some {P : List Pt} {a b : Int} {X Y : List Int} (h : rE P a b = some (X, Y)) : stpE (fun p => p.1) P a = some X ∧ stpE (fun p => p.2.1) P b = some Y ∧ P.any isCub = false := by
  rw [rE_eq] at h
  cases hX : stpE (fun p => p.1) P a with
  | none => rw [hX] at h; cases h
  | some X' => cases hY : stpE (fun p => p.2.1) P b with
    | none => rw [hX, hY] at h; cases h
    | some Y' =>
      rw [hX, hY] at h
      simp only at h
      cases hc : P.any isCub
      · rw [hc] at h; simp at h; obtain ⟨rfl, rfl⟩ := h; exact ⟨rfl, rfl, rfl⟩
      · rw [hc] at h; simp at h
/-- Between two points. -/
structure GQ (R : Option (List Int × List Int)) (P Q rem : List Pt) (X Y : List Int) (a b : Int) : Prop where
  run : R = (rE rem a b).map (fun r => (X ++ r.1, Y ++ r.2))
  all : P = Q ++ rem
  xl : X.length = Q.length
  yl : Y.length = Q.length
  ain : -32768 ≤ a ∧ a ≤ 32767
  bin : -32768 ≤ b ∧ b ≤ 32767
theorem GQ.bad {R : Option (List Int × List Int)} {P Q rem : List Pt} {X Y : List Int} {a b : Int} {p : Pt} (h : GQ R P Q (p :: rem) X Y a b) (hb : (!isCub p && (unitB p.1 && unitB p.2.1) && (inS (p.1.tdiv 65536 - a) && inS (p.2.1.tdiv 65536 - b))) = false) : R = none := by
  rw [h.run, rE, hb]; rfl
theorem GQ.next {R : Option (List Int × List Int)} {P Q rem : List Pt} {X Y : List Int} {a b : Int} {p : Pt} (h : GQ R P Q (p :: rem) X Y a b) (hb : (!isCub p && (unitB p.1 && unitB p.2.1) && (inS (p.1.tdiv 65536 - a) && inS (p.2.1.tdiv 65536 - b))) = true) : GQ R P (Q ++ [p]) rem (X ++ [p.1.tdiv 65536 - a]) (Y ++ [p.2.1.tdiv 65536 - b]) (p.1.tdiv 65536) (p.2.1.tdiv 65536) := by
  have hq : inS (p.1.tdiv 65536) = true ∧ inS (p.2.1.tdiv 65536) = true := by
    simp only [Bool.and_eq_true] at hb
    unfold unitB at hb
    simp only [Bool.and_eq_true] at hb
    exact ⟨hb.1.2.1.2, hb.1.2.2.2⟩
  refine ⟨?_, by rw [h.all]; simp, by simp [h.xl], by simp [h.yl], inS_iff.1 hq.1, inS_iff.1 hq.2⟩
  rw [h.run, rE, hb, if_pos rfl]
  cases rE rem (p.1.tdiv 65536) (p.2.1.tdiv 65536) <;> simp
theorem fgs_snoc : ∀ (Q : List Pt) (X Y : List Int) (p : Pt) (x y : Int), X.length = Q.length → Y.length = Q.length → fgsE (Q ++ [p]) (X ++ [x]) (Y ++ [y]) = fgsE Q X Y ++ [fgE x y p.2.2]
  | [], [], [], p, x, y, _, _ => rfl
  | q :: Q, u :: X, v :: Y, p, x, y, h1, h2 => by
    simp only [List.cons_append, fgsE]
    rw [fgs_snoc Q X Y p x y (by simpa using h1) (by simpa using h2)]
  | [], _ :: _, _, _, _, _, h1, _ => by simp at h1
  | [], [], _ :: _, _, _, _, _, h2 => by simp at h2
  | q :: Q, [], _, _, _, _, h1, _ => by simp at h1
  | q :: Q, u :: X, [], _, _, _, _, h2 => by simp at h2
/-- Flags as bytes; steps as bytes. -/
def fB (F : List Nat) : List Value := F.map fun f => .int .u8 (f : Nat)
def sB (X : List Int) : List Value := X.flatMap stpB
theorem fB_snoc (F : List Nat) (f : Nat) : fB (F ++ [f]) = fB F ++ [.int .u8 (f : Nat)] := by simp [fB]
theorem sB_snoc (X : List Int) (x : Int) : sB (X ++ [x]) = sB X ++ stpB x := by simp [sB]
theorem fB_len (F : List Nat) : (fB F).length = F.length := by simp [fB]
theorem sB_len : ∀ X : List Int, (sB X).length ≤ 2 * X.length
  | [] => Nat.le_refl _
  | x :: X => by
    have := sB_len X
    have h2 := stpB_len x
    unfold sB at this ⊢
    rw [List.flatMap_cons, List.length_append, List.length_cons]; omega
theorem b8_fB (F : List Nat) (h : ∀ f ∈ F, f < 256) : Bytes8 (fB F) := fun u hu => by
  obtain ⟨f, hf, rfl⟩ := List.mem_map.1 hu
  exact ⟨f, h f hf, rfl⟩
theorem b8_sB : ∀ X : List Int, Bytes8 (sB X)
  | [] => b8_nil
  | x :: X => by unfold sB; rw [List.flatMap_cons]; exact (stpB_bytes x).append (b8_sB X)
set_option maxRecDepth 100000 in
theorem fg_st (x y k : Int) : (if bt (fgE x y k) 1 then (if bt (fgE x y k) 4 then be1 x else be1 (-x)) else if bt (fgE x y k) 4 then [] else be2 x) = stpB x ∧ (if bt (fgE x y k) 2 then (if bt (fgE x y k) 5 then be1 y else be1 (-y)) else if bt (fgE x y k) 5 then [] else be2 y) = stpB y := by
  unfold fgE stpB
  rcases sb_spec 2 16 x with ⟨h, hx0⟩ | ⟨h, hx0, hx1⟩ | ⟨h, hx0, hx1⟩ | ⟨h, hx0⟩ <;> rcases sb_spec 4 32 y with ⟨g, hy0⟩ | ⟨g, hy0, hy1⟩ | ⟨g, hy0, hy1⟩ | ⟨g, hy0⟩ <;> (rw [h, g]; by_cases hk : k = 1)
  all_goals first | rw [if_pos hk] | rw [if_neg hk]
  all_goals (constructor <;> (simp only [bt, Nat.reduceAdd]; (try rw [show Nat.testBit _ _ = _ from rfl]); simp (config := {decide := true}) only [if_true, if_false]; first | rfl | skip))
  all_goals first
    | (rw [if_pos (by omega)])
    | (rw [if_neg (by omega), if_pos (by omega)])
    | (rw [if_neg (by omega), if_neg (by omega), if_pos (by omega)])
    | (rw [if_neg (by omega), if_neg (by omega), if_neg (by omega)])
theorem stB_sB : ∀ (P : List Pt) (X Y : List Int), X.length = P.length → Y.length = P.length → stB 1 4 (fgsE P X Y) X = sB X ∧ stB 2 5 (fgsE P X Y) Y = sB Y
  | [], [], [], _, _ => ⟨rfl, rfl⟩
  | p :: P, x :: X, y :: Y, h1, h2 => by
    obtain ⟨a, b⟩ := stB_sB P X Y (by simpa using h1) (by simpa using h2)
    obtain ⟨c, d⟩ := fg_st x y p.2.2
    rw [fgsE, stB, stB, c, d, a, b]
    unfold sB
    rw [List.flatMap_cons, List.flatMap_cons]
    exact ⟨rfl, rfl⟩
  | [], _ :: _, _, h1, _ => by simp at h1
  | [], [], _ :: _, _, h2 => by simp at h2
  | p :: P, [], _, h1, _ => by simp at h1
  | p :: P, x :: X, [], _, h2 => by simp at h2
theorem spB_sB {Ls : List (List Pt)} {X Y : List Int} (hx : X.length = Ls.flatten.length) (hy : Y.length = Ls.flatten.length) : spB Ls X Y = ((((be2 (Ls.length : Nat) ++ boxB Ls) ++ lastsE 0 Ls) ++ be2 0) ++ pfE (fgsE Ls.flatten X Y).length (iF (fgsE Ls.flatten X Y))) ++ (sB X ++ sB Y) := by
  obtain ⟨a, b⟩ := stB_sB Ls.flatten X Y hx hy
  unfold spB iF
  rw [a, b]
/-- How many are the same, from the first on. -/
theorem idx_spec {f : Int} : ∀ (F : List Int) (v : Nat), v = (if F.any (fun x => x != f) then (idxP (fun x => x != f) F).toNat else F.length) → v ≤ F.length ∧ (v < F.length → ∃ g, F[v]? = some g ∧ g ≠ f)
  | [], v, h => by simp at h; subst h; simp
  | x :: F, v, h => by
    by_cases hx : x = f
    · subst hx
      have e : (x != x) = false := by simp
      rw [List.any_cons, e, Bool.false_or] at h
      unfold idxP at h
      rw [e] at h
      simp only [Bool.false_eq_true, if_false] at h
      obtain ⟨h1, h2⟩ := idx_spec (f := x) F _ rfl
      by_cases ha : F.any (fun y => y != x) = true
      · rw [if_pos ha] at h h1 h2
        have hn : ¬ idxP (fun y => y != x) F < 0 := by
          intro hneg
          have := spidxP_any (fun y => y != x) F
          rw [ha] at this
          simp at this
          omega
        rw [if_neg hn] at h
        generalize idxP (fun y => y != x) F = z at *
        have hv : v = z.toNat + 1 := by clear h1 h2 ha; rw [h]; have h0 : 0 ≤ z := Int.not_lt.1 hn; rw [Int.toNat_add h0 (by decide)]; rfl
        subst hv
        refine ⟨by rw [List.length_cons]; omega, fun hl => ?_⟩
        rw [List.getElem?_cons_succ]
        exact h2 (by rw [List.length_cons] at hl; omega)
      · rw [if_neg ha] at h
        subst h
        exact ⟨Nat.le_refl _, fun hl => by simp at hl⟩
    · have hx2 : (x != f) = true := by simpa using hx
      rw [List.any_cons, hx2, Bool.true_or, if_pos rfl] at h
      unfold idxP at h
      rw [hx2, if_pos rfl] at h
      simp at h
      subst h
      exact ⟨by simp, fun _ => ⟨x, rfl, hx⟩⟩
theorem runL_is {f : Int} {F : List Int} {r : Nat} (hr : r ≤ F.length) (h256 : r ≤ 256) (hs : ∀ j, j < r → F[j]? = some f) (he : r = 256 ∨ r = F.length ∨ ∃ g, F[r]? = some g ∧ g ≠ f) : runL f F = r := by
  obtain ⟨h1, h2⟩ := idx_spec (f := f) F _ rfl
  have h3 := run_same (f := f) F (if F.any (fun x => x != f) then (idxP (fun x => x != f) F).toNat else F.length) (Nat.le_refl _)
  unfold runL
  generalize (if F.any (fun x => x != f) then (idxP (fun x => x != f) F).toNat else F.length) = v at *
  have hge : r ≤ v := by
    rcases Nat.lt_or_ge v r with h | h
    · obtain ⟨g, hg, hne⟩ := h2 (by omega)
      rw [hs v h] at hg
      cases hg
      exact absurd rfl hne
    · exact h
  rcases he with rfl | rfl | ⟨g, hg, hne⟩
  · omega
  · omega
  · have : v ≤ r := by
      rcases Nat.lt_or_ge r v with h | h
      · exfalso
        have e : (F.take v)[r]? = some f := by rw [h3, List.getElem?_replicate, if_pos h]
        rw [List.getElem?_take, if_pos h, hg] at e
        cases e
        exact hne rfl
      · exact h
    omega
end Go.Proofs.Ytelhckckcilpaaa

namespace Go.Proofs.Ytelhckckcilpaaa
open Go Go.RowKit

theorem ringP_shift (L : List Pt) (i q : Int) : ringP L (i + L.length * q) = ringP L i := by unfold ringP; rw [Int.add_mul_emod_self_left]
theorem kd_add (L : List Pt) (i : Int) : kd L (i + L.length) = kd L i := by unfold kd; rw [ringP_add]
theorem kd_shift (L : List Pt) (i q : Int) : kd L (i + L.length * q) = kd L i := by unfold kd; rw [ringP_shift]
/-- An index in the ring, and its place in the list. -/
theorem ring_index {L : List Pt} (h : 0 < L.length) (i : Int) : ∃ (m : Nat) (q : Int), i = (m : Int) + L.length * q ∧ m < L.length ∧ L[m]? = some (ringP L i) := by
  obtain ⟨m, h1, h2, h3⟩ := ring_some h i
  refine ⟨m, i / L.length, ?_, h2, h3⟩
  have := Int.emod_add_mul_ediv i L.length
  omega
theorem okA_ring {L : List Pt} (h : mayC L = true) (i : Int) : okP (ringP L i) = true ∧ (kd L i = 3 → pairK (kd L (i - 1)) (kd L (i + 1)) = true) := by
  have h0 := may_pos h
  unfold mayC at h
  rw [Bool.and_eq_true, allI_true] at h
  obtain ⟨m, q, hi, hm, hp⟩ := ring_index h0 i
  have := h.2 m _ hp
  unfold okA at this
  rw [Bool.and_eq_true] at this
  refine ⟨this.1, fun h3 => ?_⟩
  have h4 : ((ringP L i).2.2 == 3) = true := by unfold kd at h3; rw [h3]; rfl
  rw [h4, Bool.not_true, Bool.false_or] at this
  have h5 := this.2
  unfold pairB at h5
  rw [hi, show (m : Int) + L.length * q - 1 = ((m : Int) - 1) + L.length * q by omega, show (m : Int) + L.length * q + 1 = ((m : Int) + 1) + L.length * q by omega, kd_shift, kd_shift]
  exact h5
theorem pairK_iff {a b : Int} : pairK a b = true ↔ (a = 1 ∧ b = 3) ∨ (a = 3 ∧ b = 1) := by simp [pairK]
theorem may_cub {L : List Pt} (h : mayC L = true) (i : Int) (h3 : kd L i = 3) : cubK L.length (kd L (i - 1)) (kd L (i + 1)) (kd L (i + 2)) (kd L (i - 2)) = true := by
  have h0 := may_pos h
  have hp := pairK_iff.1 ((okA_ring h i).2 h3)
  have hn : ¬ L.length < 3 := by
    intro hn
    have e : L.length = 1 ∨ L.length = 2 := by omega
    rcases e with e | e
    · have e1 := kd_add L (i - 1)
      have e2 := kd_add L i
      rw [e] at e1 e2
      rw [show i - 1 + ((1 : Nat) : Int) = i by omega] at e1
      rw [show i + ((1 : Nat) : Int) = i + 1 by omega] at e2
      omega
    · have e1 := kd_add L (i - 1)
      rw [e, show i - 1 + ((2 : Nat) : Int) = i + 1 by omega] at e1
      omega
  unfold cubK
  rw [if_neg hn]
  rcases hp with ⟨a, b⟩ | ⟨a, b⟩
  · rw [if_pos (by rw [a, b]; rfl)]
    have h4 := pairK_iff.1 ((okA_ring h (i + 1)).2 b)
    rw [show i + 1 - 1 = i by omega, show i + 1 + 1 = i + 2 by omega] at h4
    have : kd L (i + 2) = 1 := by omega
    rw [this]; rfl
  · rw [if_neg (by rw [a, b]; decide)]
    have h4 := pairK_iff.1 ((okA_ring h (i - 1)).2 a)
    rw [show i - 1 - 1 = i - 2 by omega, show i - 1 + 1 = i by omega] at h4
    have : kd L (i - 2) = 1 := by omega
    rw [a, b, this]; rfl
theorem cub_pair {n : Nat} {a b p q : Int} (h : cubK n a b p q = true) : pairK a b = true := by
  unfold cubK at h
  split at h
  · cases h
  · split at h
    · rename_i h1
      simp at h1
      rw [pairK_iff]; exact .inl h1
    · simp at h
      rw [pairK_iff]; exact .inr ⟨h.1.1, h.1.2⟩
theorem may_same (L : List Pt) : mayC L = rmayC L := by
  rw [Bool.eq_iff_iff]
  constructor
  · intro h
    have hm := h
    unfold mayC at h
    unfold rmayC
    rw [Bool.and_eq_true, allI_true] at h ⊢
    refine ⟨h.1, fun j p hp => ?_⟩
    have h1 := h.2 j p hp
    unfold okA at h1
    unfold okC
    rw [Bool.and_eq_true] at h1 ⊢
    refine ⟨h1.1, ?_⟩
    cases h3 : (p.2.2 == 3)
    · rfl
    · rw [Bool.not_true, Bool.false_or]
      unfold cubB
      exact may_cub hm j (by unfold kd; rw [ringP_nat hp]; simpa using h3)
  · intro h
    unfold rmayC at h
    unfold mayC
    rw [Bool.and_eq_true, allI_true] at h ⊢
    refine ⟨h.1, fun j p hp => ?_⟩
    have h1 := h.2 j p hp
    unfold okC at h1
    unfold okA
    rw [Bool.and_eq_true] at h1 ⊢
    refine ⟨h1.1, ?_⟩
    have h2 := h1.2
    cases h3 : (p.2.2 == 3)
    · rfl
    · rw [h3, Bool.not_true, Bool.false_or] at h2
      rw [Bool.not_true, Bool.false_or]
      unfold cubB at h2
      unfold pairB
      exact cub_pair h2
theorem chk_same (Ls : List (List Pt)) : rchkE Ls = chkE Ls := by
  unfold rchkE chkE
  rw [show rmayC = mayC from funext fun L => (may_same L).symm]
theorem revL_twice (L : List Pt) : revL (revL L) = L := by cases L <;> simp [revL]
theorem rev_twice (Ls : List (List Pt)) : (Ls.map revL).map revL = Ls := by
  rw [List.map_map]
  exact (List.map_congr_left (fun L _ => revL_twice L)).trans (List.map_id' Ls)
theorem cntO_app (a b : List (List Pt)) : cntO (a ++ b) = cntO a + cntO b := by simp [cntO]
theorem join_many {a b : List (List Pt)} (ha : chkE a = 0) (hb : chkE b = 0) : joinE a b = if 256 < a.length + b.length ∨ 4096 < cntO a + cntO b then 100 else 0 := by
  unfold joinE
  rw [if_pos ha, if_pos hb]
  have h1 := (chk_zero ha).2.2
  have h2 := (chk_zero hb).2.2
  unfold chkE
  rw [List.length_append, cntO_app]
  have : (a ++ b).all mayC = true := by
    rw [List.all_eq_true]
    intro L hL
    rcases List.mem_append.1 hL with h | h
    · exact h1 L h
    · exact h2 L h
  rw [if_pos this]

end Go.Proofs.Ytelhckckcilpaaa
