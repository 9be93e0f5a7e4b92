/- Part 4 of the proof: Box6, Box7, Box8, Rd1, Rd2, Rd3, Rd4, Conv, CnA, Eq4n, CnE. -/
import Derived.Lib.Hide
import Derived.LoopTactic
import Derived.WalkSpells
import Derived.Laws.IdiomStrings
import Derived.Laws.BytesArg
import Derived.Test.YtaaboochologaaaM2LruDoes

namespace Go.Proofs.Ytaaboochologaaa
open Go.RowKit

theorem empty_lims {A : Q} (h : emptyQ A = false) : A.x0 < A.x1 ∧ A.y0 < A.y1 := by
  unfold emptyQ at h
  simp only [Bool.or_eq_false_iff, decide_eq_false_iff_not] at h
  omega

theorem area_full (A : Q) (w : World) (hm : mayQ A = true) (he : emptyQ A = false) :
    Calls Try.prog 48 #[.agg #[.int .i64 A.x0, .int .i64 A.y0, .int .i64 A.x1, .int .i64 A.y1]] w fun e w' => e = .returned (.tuple #[.int .i64 (if 1099511627776 / (A.x1 - A.x0) < A.y1 - A.y0 then 0 else (A.x1 - A.x0) * (A.y1 - A.y0)), .int .i64 (if 1099511627776 / (A.x1 - A.x0) < A.y1 - A.y0 then 10 else 0)]) ∧ Below w.heap.size w w' := by
  obtain ⟨⟨l1, l2⟩, ⟨l3, l4⟩, ⟨l5, l6⟩, ⟨l7, l8⟩⟩ := mayQ_lims hm
  obtain ⟨m1, m2⟩ := empty_lims he
  have M := fun w => mayBox_any A w
  have P := fun w => plain_same A w he
  have q1 := fun w => eqB_run A.x0 A.y0 A.x1 A.y1 0 0 0 0 w
  have q2 := fun x y w => eqB_guard A.x0 A.y0 A.x1 A.y1 0 0 0 0 x y w
  rw [not_zero A he] at q1
  rw [hm] at M
  clear hm he
  have I := In1.start w A
  have s1 : IntKind.i64.wrap (A.x1 - A.x0) = A.x1 - A.x0 := IntWalk.i64_in _ (by omega)
  have s2 : IntKind.i64.wrap (A.y1 - A.y0) = A.y1 - A.y0 := IntWalk.i64_in _ (by omega)
  have n1 : 1 ≤ A.x1 - A.x0 := by omega
  have n2 : A.x1 - A.x0 ≤ 4294967296 := by omega
  have n3 : 1 ≤ A.y1 - A.y0 := by omega
  have n4 : A.y1 - A.y0 ≤ 4294967296 := by omega
  obtain ⟨W, hW⟩ : ∃ W : Int, W = A.x1 - A.x0 := ⟨_, rfl⟩
  obtain ⟨H, hH⟩ : ∃ H : Int, H = A.y1 - A.y0 := ⟨_, rfl⟩
  by_cases hc : 1099511627776 / (A.x1 - A.x0) < A.y1 - A.y0
  · rw [if_pos hc, if_pos hc]
    clear hW hH
    go_enter Try.func48, Try.ntmps48
    go_wp2_with (first | (go_at_call 49; ((with_reducible refine (M _).mono ?_); rintro e w1 ⟨rfl, b1⟩; have I := I.next b1; obtain ⟨_, y1, hA⟩ := id I)) | (go_at_call 50; ((with_reducible refine (P _).mono ?_); rintro e w2 ⟨rfl, b2⟩; have I := I.next b2; obtain ⟨_, y1, hA⟩ := id I)))
    go_quiet (fail)
    clear s1 s2
    go_wp2
    go_ret2
    exact ⟨rfl, below_drewN I.1 _⟩
  · rw [if_neg hc, if_neg hc]
    have p0 : (A.x1 - A.x0) * (A.y1 - A.y0) ≤ 1099511627776 := by
      have h1 : (A.x1 - A.x0) * (A.y1 - A.y0) ≤ (A.x1 - A.x0) * (1099511627776 / (A.x1 - A.x0)) := Int.mul_le_mul_of_nonneg_left (by omega) (by omega)
      have h2 := Int.mul_ediv_self_le (x := 1099511627776) (k := A.x1 - A.x0) (by omega)
      omega
    have p1 : 0 ≤ (A.x1 - A.x0) * (A.y1 - A.y0) := Int.mul_nonneg (by omega) (by omega)
    have hc' : A.y1 - A.y0 ≤ 1099511627776 / (A.x1 - A.x0) := by omega
    clear hW hH hc
    go_enter Try.func48, Try.ntmps48
    go_wp2_with (first | (go_at_call 49; ((with_reducible refine (M _).mono ?_); rintro e w1 ⟨rfl, b1⟩; have I := I.next b1; obtain ⟨_, y1, hA⟩ := id I)) | (go_at_call 50; ((with_reducible refine (P _).mono ?_); rintro e w2 ⟨rfl, b2⟩; have I := I.next b2; obtain ⟨_, y1, hA⟩ := id I)))
    go_quiet (fail)
    clear s1 s2
    go_wp2
    go_ret2
    exact ⟨rfl, below_drewN I.1 _⟩

def shiftQ (A : Q) (x y : Int) : Q := ⟨A.x0 + x, A.y0 + y, A.x1 + x, A.y1 + y⟩

theorem In2.alloc {w wx : World} {A Z : Q} (h : In2 w wx A Z) (o : Obj) : In2 w (wx.alloc o) A Z := h.next (below_a1 _ _)

end Go.Proofs.Ytaaboochologaaa

namespace Go.Proofs.Ytaaboochologaaa
open Go.RowKit

theorem rmayQ_any (A : Q) (w : World) :
    Calls Try.prog 42 #[.agg #[.int .i64 A.x0, .int .i64 A.y0, .int .i64 A.x1, .int .i64 A.y1]] w fun e w' => e = .returned (.bool (mayQ A)) ∧ Below w.heap.size w w' := by
  unfold mayQ
  have F := fun x w => may_ref x w
  cases ha : mayB A.x0 <;> cases hb : mayB A.y0 <;> cases hc : mayB A.x1 <;> cases hd : mayB A.y1
  all_goals
    have F1 := fun w => F A.x0 w
    have F2 := fun w => F A.y0 w
    have F3 := fun w => F A.x1 w
    have F4 := fun w => F A.y1 w
    rw [ha] at F1
    rw [hb] at F2
    rw [hc] at F3
    rw [hd] at F4
    clear ha hb hc hd F
    go_enter Try.func42, Try.ntmps42
    go_wp2_with (first | (go_at_call 45; ((with_reducible refine (F1 _).mono ?_); rintro e w' ⟨rfl, rfl⟩)) | (go_at_call 45; ((with_reducible refine (F2 _).mono ?_); rintro e w' ⟨rfl, rfl⟩)) | (go_at_call 45; ((with_reducible refine (F3 _).mono ?_); rintro e w' ⟨rfl, rfl⟩)) | (go_at_call 45; ((with_reducible refine (F4 _).mono ?_); rintro e w' ⟨rfl, rfl⟩)))
    go_ret
    exact ⟨rfl, below_a1 _ _⟩

end Go.Proofs.Ytaaboochologaaa

namespace Go.Proofs.Ytaaboochologaaa
open Go.RowKit

end Go.Proofs.Ytaaboochologaaa

namespace Go.Proofs.Ytaaboochologaaa
open Go Go.RowKit


theorem addr_add_add1 (a : Addr) (i j : Nat) : (a.add i).add j = a.add (i + j) := by
  unfold Addr.add
  by_cases hi : i = 0
  · subst hi; simp
  · by_cases hj : j = 0
    · subst hj; simp [hi]
    · simp [hi, hj, Nat.add_assoc]

/-- A part of a list. -/
theorem lists_part {w : World} {B : Nat} {A : Option Addr} {xs : List Value} (h : Lists w B A xs) (i m : Nat) : Lists w B (A.map (·.add i)) ((xs.drop i).take m) := by
  refine ⟨fun ha => ?_, fun a ha j u hu => ?_, fun a ha hx => ?_⟩
  · cases A with
    | none => rw [h.nil rfl]; simp
    | some a => cases ha
  · cases A with
    | none => cases ha
    | some a0 =>
      cases ha
      rw [addr_add_add1]
      refine h.cell a0 rfl (i + j) u ?_
      rw [List.getElem?_take] at hu
      split at hu
      · rwa [List.getElem?_drop] at hu
      · cases hu
  · cases A with
    | none => cases ha
    | some a0 =>
      cases ha
      rw [addr_add_block]
      exact h.lt a0 rfl (by intro e; subst e; simp at hx)

/-- A slice that reads as xs, of just its capacity. -/
def GavePart (w : World) (xs : List Value) (e : Ending) (w' : World) : Prop := ∃ A, e = .returned (.slice A xs.length xs.length) ∧ Lists w w.heap.size A xs ∧ w = w'

end Go.Proofs.Ytaaboochologaaa

namespace Go.Proofs.Ytaaboochologaaa
open Go Go.RowKit
variable {q : Nat → Prop}

end Go.Proofs.Ytaaboochologaaa

namespace Go.Proofs.Ytaaboochologaaa
open Go Go.RowKit
variable {q : Nat → Prop}

theorem or_nat (a b : Nat) (ha : a < 4611686018427387904) (hb : b < 4611686018427387904) : bits .or .i64 (a : Int) (b : Int) = ((a ||| b : Nat) : Int) := by
  have hx : a ||| b < 2 ^ 62 := Nat.or_lt_two_pow (by omega) (by omega)
  have h1 : (BitVec.ofInt 64 (a : Int)).toNat = a := by
    rw [BitVec.ofInt_natCast, BitVec.toNat_ofNat]; exact Nat.mod_eq_of_lt (by omega)
  have h2 : (BitVec.ofInt 64 (b : Int)).toNat = b := by
    rw [BitVec.ofInt_natCast, BitVec.toNat_ofNat]; exact Nat.mod_eq_of_lt (by omega)
  show IntKind.i64.wrap ((BitVec.ofInt 64 (a : Int) ||| BitVec.ofInt 64 (b : Int)).toNat : Int) = _
  rw [BitVec.toNat_or, h1, h2]
  exact IntWalk.i64_in _ (by omega)
theorem or_first (x : Nat) (hx : x < 256) : bits .or .i64 0 (x : Int) = (x : Int) := by
  have := or_nat 0 x (by omega) (by omega)
  rwa [Nat.zero_or] at this
theorem or_next (a x : Nat) (ha : a < 1099511627776) (hx : x < 256) : bits .or .i64 (wrap64 ((a : Int) * 256)) (x : Int) = ((a * 256 + x : Nat) : Int) := by
  have e1 : wrap64 ((a : Int) * 256) = ((a * 256 : Nat) : Int) := by unfold wrap64; omega
  rw [e1, or_nat (a * 256) x (by omega) (by omega), show a * 256 = 2 ^ 8 * a by omega, ← Nat.two_pow_add_eq_or_of_lt (by omega)]

end Go.Proofs.Ytaaboochologaaa

namespace Go.Proofs.Ytaaboochologaaa
open Go Go.RowKit
variable {q : Nat → Prop}

/-- A copy in new memory. -/
def GaveClone (w : World) (E : List Value) (e : Ending) (w' : World) : Prop := ∃ A c, e = .returned (.slice A E.length c) ∧ Lists w' w'.heap.size A E ∧ E.length ≤ c ∧ c ≤ 9223372036854775807 ∧ Below w.heap.size w w' ∧ (∀ a, A = some a → w.heap.size ≤ a.block)


end Go.Proofs.Ytaaboochologaaa

namespace Go.Proofs.Ytaaboochologaaa
open Go Go.RowKit

/-- A cell of a byte, as a byte. -/
def toU8 : Value → UInt8
  | .int _ n => UInt8.ofNat n.toNat
  | _ => 0
set_option maxRecDepth 100000 in
/-- string(b) -/
theorem conv_lists {w : World} {B n c : Nat} {A : Option Addr} {E : List Value} (hl : Lists w B A E) (hn : E.length = n) (h8 : Bytes8 E) :
    ∀ dst, Try.prog.underlying dst = some .string → (convert 35 dst (.slice A n c)).run Try.prog w = .ok (.string ⟨(E.map toU8).toArray⟩) w := by
  intro dst hd
  cases A with
  | none =>
    rw [hl.nil rfl]
    exact run_convert_bytes_nil w 35 5 Try.underlying35 Try.underlying5 n c dst hd
  | some a =>
    have := run_convert_bytes_back (P := Try.prog) w 35 dst 5 a c (E.map toU8) Try.underlying35 Try.underlying5 hd (fun j hj => by
      rw [List.length_map] at hj
      obtain ⟨x, hx, he⟩ := h8 E[j] (List.getElem_mem hj)
      rw [hl.cell a rfl j E[j] (List.getElem?_eq_getElem hj)]
      simp only [List.getElem_map, he, toU8]
      congr 2
      rw [Int.toNat_natCast, UInt8.toNat_ofNat']
      congr 1
      omega)
    rw [List.length_map, hn] at this
    exact this

end Go.Proofs.Ytaaboochologaaa

namespace Go.Proofs.Ytaaboochologaaa
open Go Go.RowKit
set_option linter.unusedVariables false
set_option linter.unusedSimpArgs false

/-- Is a number from lo to hi? -/
def inZ (lo hi x : Int) : Bool := decide (lo ≤ x) && decide (x ≤ hi)
theorem inB_out {lo hi x : Int} (h : inZ lo hi x = false) : x < lo ∨ (lo ≤ x ∧ hi < x) := by
  unfold inZ at h; simp at h; omega
theorem inB_in {lo hi x : Int} (h : inZ lo hi x = true) : lo ≤ x ∧ x ≤ hi := by
  unfold inZ at h; simpa using h
/-- What is put of a colour c onto a byte d by a mask's byte m. -/
def mixZ (d c m : Int) : Int := (d * (255 - m) + c * m + 127) / 255
theorem prod_bd {a b M : Int} (ha : 0 ≤ a ∧ a ≤ M) (hb : 0 ≤ b ∧ b ≤ 255) : 0 ≤ a * b ∧ a * b ≤ M * 255 := by
  have h1 := Int.mul_nonneg ha.1 hb.1
  have h2 : a * b ≤ M * b := Int.mul_le_mul_of_nonneg_right ha.2 hb.1
  have h3 : M * b ≤ M * 255 := Int.mul_le_mul_of_nonneg_left hb.2 (by omega)
  omega
theorem mixZ_bd {d c m : Int} (hd : inZ 0 255 d = true) (hc : inZ 0 255 c = true) (hm : inZ 0 255 m = true) : 0 ≤ mixZ d c m ∧ mixZ d c m ≤ 255 := by
  have a1 := inB_in hd
  have a2 := inB_in hc
  have a3 := inB_in hm
  have p1 := prod_bd a1 (b := 255 - m) (by omega)
  have p2 := prod_bd a2 a3
  have p3 : d * (255 - m) ≤ 255 * (255 - m) := Int.mul_le_mul_of_nonneg_right a1.2 (by omega)
  have p4 : c * m ≤ 255 * m := Int.mul_le_mul_of_nonneg_right a2.2 a3.1
  unfold mixZ
  omega
theorem mix_facts {d c m : Int} (hd : inZ 0 255 d = true) (hc : inZ 0 255 c = true) (hm : inZ 0 255 m = true) :
    wrap64 (255 - m) = 255 - m ∧ wrap64 (d * (255 - m)) = d * (255 - m) ∧ wrap64 (c * m) = c * m ∧ wrap64 (d * (255 - m) + c * m) = d * (255 - m) + c * m ∧ wrap64 (d * (255 - m) + c * m + 127) = d * (255 - m) + c * m + 127 ∧ wrap64 ((d * (255 - m) + c * m + 127).tdiv 255) = mixZ d c m := by
  have a1 := inB_in hd
  have a2 := inB_in hc
  have a3 := inB_in hm
  have b := mixZ_bd hd hc hm
  have p1 := prod_bd a1 (b := 255 - m) (by omega)
  have p2 := prod_bd a2 a3
  have w64 : ∀ x : Int, -9223372036854775808 ≤ x → x ≤ 9223372036854775807 → wrap64 x = x := fun x h1 h2 => by unfold wrap64; omega
  refine ⟨w64 _ (by omega) (by omega), w64 _ (by omega) (by omega), w64 _ (by omega) (by omega), w64 _ (by omega) (by omega), w64 _ (by omega) (by omega), ?_⟩
  rw [Int.tdiv_eq_ediv_of_nonneg (by omega)]
  exact w64 _ (by unfold mixZ at b; omega) (by unfold mixZ at b; omega)
/-- May a canvas be? -/
def mayCn (x y c : Int) : Bool := inZ 1 4096 x && inZ 1 4096 y && inZ 0 255 c
theorem alloc_ints (w : World) (zs : List Int) : Blk (w.alloc (.cells (intCells zs).toArray 3)) w.heap.size 3 (intCells zs).toArray := Blk.new w _ _
/-- Mix. -/
def mixE (d c m : Int) : Int := if inZ 0 255 d && inZ 0 255 c && inZ 0 255 m then mixZ d c m else 0
end Go.Proofs.Ytaaboochologaaa

namespace Go.Proofs.Ytaaboochologaaa
open Go.RowKit

theorem neB_run (a b c d a' b' c' d' : Int) (w : World) :
    (binOp .neq 34 (.agg #[.int .i64 a, .int .i64 b, .int .i64 c, .int .i64 d]) (.agg #[.int .i64 a', .int .i64 b', .int .i64 c', .int .i64 d'])).run Try.prog w = .ok (.bool (!eq4 a b c d a' b' c' d')) w := by
  have hS : Try.prog.underlying 34 = some (.struct (Try.prog.fieldsOf 34)) := by kernel_rfl
  have hp : Try.prog.stoodInHeld 34 = false := by kernel_rfl
  have u3 := Try.underlying3
  have a3 := Try.isAgg3
  have z3 := Try.sizeOf3
  rw [run_neq_struct, show (10000 : Nat) = 9999 + 1 from rfl, run_equalIn_agg w 9999 34 _ _ hS hp]
  simp only [Program.fieldsOf, Try.underlying34]
  unfold eq4
  go_simp
  by_cases h1 : a = a' <;> by_cases h2 : b = b' <;> by_cases h3 : c = c' <;> by_cases h4 : d = d' <;> simp [h1, h2, h3, h4]

theorem neB_guard (a b c d a' b' c' d' : Int) (x y : Operand) (w : World) :
    (eqGuard .neq 34 x y (.agg #[.int .i64 a, .int .i64 b, .int .i64 c, .int .i64 d]) (.agg #[.int .i64 a', .int .i64 b', .int .i64 c', .int .i64 d'])).run Try.prog w = .ok () w :=
  run_eqGuard_agg w .neq 34 x y _ _ (by kernel_rfl)

end Go.Proofs.Ytaaboochologaaa

namespace Go.Proofs.Ytaaboochologaaa
open Go Go.RowKit
set_option linter.unusedVariables false
set_option linter.unusedSimpArgs false

theorem mk_any_false {f : Int → Bool} {zs : List Int} {k : Nat} {z : Int} (hk : k < zs.length) (hz : zs.getD k 0 = z) (h : f z = false) : zs.all f = false := by
  rw [List.all_eq_false]
  refine ⟨z, ?_, by simp [h]⟩
  rw [← hz, List.getD_eq_getElem?_getD, List.getElem?_eq_getElem hk, Option.getD_some]
  exact List.getElem_mem hk
set_option maxRecDepth 100000 in
theorem rbeyond_any (b len cap : Nat) (zs : List Int) (w : World) (hl : len = zs.length) (hm : len ≤ 9223372036854775807) (h : Blk w b 3 (intCells zs).toArray) :
    Calls Try.prog 46 #[.slice (some ⟨b, 0, none⟩) len cap] w fun e w' => e = .returned (.bool (!zs.all (inZ (-16384) 16384))) ∧ w = w' := by
  have HL : Hid (len = zs.length) := hl
  have HC : Hid (∀ j, j < zs.length → w.cell? ⟨b, j, none⟩ = some (.int .i64 (zs.getD j 0))) := fun j hj => by rw [h.cell, List.getElem?_toArray, intCells_get zs j hj]
  clear hl h
  go_enter Try.func46, Try.ntmps46
  go_wp2
  go_loop [4, 7] (fun _ i => ∃ k : Nat, k ≤ len ∧ i = .int .i64 k ∧ (zs.take k).all (inZ (-16384) 16384) = true) (fun _ i => len - (intOf i).toNat)
  case atStart => exact ⟨0, Nat.zero_le _, rfl, rfl⟩
  case round =>
    obtain ⟨k, hk, rfl, hall⟩ := hrel
    have HA : Hid ((zs.take k).all (inZ (-16384) 16384) = true) := hall
    clear hall
    by_cases hlt : k < len
    · have hcell : w.cell? ⟨b, k, none⟩ = some (.int .i64 (zs.getD k 0)) := HC.out k (by have := HL.out; omega)
      have hts := Hid.out (p := _) (all_take_snoc (inZ (-16384) 16384) zs k (by have := HL.out; omega))
      generalize hz : zs.getD k 0 = z at hcell hts
      have HT : Hid ((zs.take (k + 1)).all (inZ (-16384) 16384) = ((zs.take k).all (inZ (-16384) 16384) && inZ (-16384) 16384 z)) := hts
      clear hts hz
      by_cases hmz : inZ (-16384) 16384 z = true
      · have hm2 := inB_in hmz
        obtain ⟨g1, g2⟩ := hm2
        go_wp2
        go_round
        case rel => exact ⟨k + 1, by omega, by go_num, by rw [HT.out, HA.out, hmz]; rfl⟩
        case measure => simp [intOf]; omega
      · have hmf : inZ (-16384) 16384 z = false := by simpa using hmz
        clear hmz
        rcases inB_out hmf with g | ⟨g1, g2⟩
        all_goals
          go_wp2
          go_ret
          refine ⟨?_, rfl⟩
          have := all_false_of_take (inZ (-16384) 16384) zs (k + 1) (by rw [HT.out, hmf, Bool.and_false])
          rw [this]; rfl
    · go_wp2
      go_ret
      refine ⟨?_, rfl⟩
      have : zs.all (inZ (-16384) 16384) = true := by rw [← HA.out, List.take_of_length_le (by have := HL.out; omega)]
      rw [this]; rfl
/-- All numbers of a box are near enough to 0. -/
def in4 (A : Q) : Bool := [A.x0, A.y0, A.x1, A.y1].all (inZ (-16384) 16384)
theorem in4_lims {A : Q} (h : in4 A = true) : (-16384 ≤ A.x0 ∧ A.x0 ≤ 16384) ∧ (-16384 ≤ A.y0 ∧ A.y0 ≤ 16384) ∧ (-16384 ≤ A.x1 ∧ A.x1 ≤ 16384) ∧ (-16384 ≤ A.y1 ∧ A.y1 ≤ 16384) := by
  unfold in4 inZ at h
  simp at h
  omega
theorem in4_may {A : Q} (h : in4 A = true) : mayQ A = true := by
  have := in4_lims h
  simp [mayQ, mayB]; omega
def areaQ (A : Q) : Int := if emptyQ A then 0 else (A.x1 - A.x0) * (A.y1 - A.y0)
def zerB (A : Q) : Bool := eq4 A.x0 A.y0 A.x1 A.y1 0 0 0 0
/-- May a mask have this box? -/
def msB (A : Q) : Bool := in4 A && (!emptyQ A || zerB A) && decide (areaQ A ≤ 4194304)
theorem prod4 {A : Q} (h : in4 A = true) (he : emptyQ A = false) : 1 ≤ A.x1 - A.x0 ∧ A.x1 - A.x0 ≤ 32768 ∧ 1 ≤ A.y1 - A.y0 ∧ A.y1 - A.y0 ≤ 32768 ∧ 1 ≤ (A.x1 - A.x0) * (A.y1 - A.y0) ∧ (A.x1 - A.x0) * (A.y1 - A.y0) ≤ 1073741824 := by
  have h1 := in4_lims h
  have h2 := empty_lims he
  have h3 : (A.x1 - A.x0) * (A.y1 - A.y0) ≤ 32768 * (A.y1 - A.y0) := Int.mul_le_mul_of_nonneg_right (by omega) (by omega)
  have h4 : 1 * (A.y1 - A.y0) ≤ (A.x1 - A.x0) * (A.y1 - A.y0) := Int.mul_le_mul_of_nonneg_right (by omega) (by omega)
  omega
theorem area_near {A : Q} (h : in4 A = true) (he : emptyQ A = false) (w : World) : Calls Try.prog 48 #[.agg #[.int .i64 A.x0, .int .i64 A.y0, .int .i64 A.x1, .int .i64 A.y1]] w fun e w' => e = .returned (.tuple #[.int .i64 ((A.x1 - A.x0) * (A.y1 - A.y0)), .int .i64 0]) ∧ Below w.heap.size w w' := by
  have h1 := area_full A w (in4_may h) he
  have h2 := prod4 h he
  have h3 : ¬ (1099511627776 / (A.x1 - A.x0) < A.y1 - A.y0) := by
    have : (32768 : Int) ≤ 1099511627776 / (A.x1 - A.x0) := by
      rw [Int.le_ediv_iff_mul_le (by omega)]
      omega
    omega
  rw [if_neg h3, if_neg h3] at h1
  exact h1
set_option maxRecDepth 100000 in
theorem size_far (A : Q) (h4 : in4 A = false) (w : World) : Calls Try.prog 44 #[.agg #[.int .i64 A.x0, .int .i64 A.y0, .int .i64 A.x1, .int .i64 A.y1]] w fun e w' => e = .returned (.tuple #[.int .i64 0, .int .i64 220]) ∧ Below w.heap.size w w' := by
  have B : Below w.heap.size w (w.alloc (.cells #[.int .i64 A.x0, .int .i64 A.y0, .int .i64 A.x1, .int .i64 A.y1] 34)) := below_a1 _ _
  have K := Blk.new w 34 #[.int .i64 A.x0, .int .i64 A.y0, .int .i64 A.x1, .int .i64 A.y1]
  have CB := rbeyond_any (w.heap.size + 1) 4 4 [A.x0, A.y0, A.x1, A.y1] ((w.alloc (.cells #[.int .i64 A.x0, .int .i64 A.y0, .int .i64 A.x1, .int .i64 A.y1] 34)).alloc (.cells #[.int .i64 A.x0, .int .i64 A.y0, .int .i64 A.x1, .int .i64 A.y1] 3)) rfl (by decide) (by have := Blk.new (w.alloc (.cells #[.int .i64 A.x0, .int .i64 A.y0, .int .i64 A.x1, .int .i64 A.y1] 34)) 3 #[.int .i64 A.x0, .int .i64 A.y0, .int .i64 A.x1, .int .i64 A.y1]; rw [World.size_alloc] at this; exact this)
  rw [show [A.x0, A.y0, A.x1, A.y1].all (inZ (-16384) 16384) = in4 A from rfl, h4] at CB
  have CE := fun W => empty_any A W
  have q1 := fun w => neB_run A.x0 A.y0 A.x1 A.y1 0 0 0 0 w
  have q2 := fun x y w => neB_guard A.x0 A.y0 A.x1 A.y1 0 0 0 0 x y w
  clear CE q1 q2 h4
  go_enter Try.func44, Try.ntmps44
  go_wp2_with (first | (go_at_call 46; ((with_reducible refine (CB).mono ?_); rintro e w' ⟨rfl, rfl⟩; have B := B.alloc B.size (.cells #[.int .i64 A.x0, .int .i64 A.y0, .int .i64 A.x1, .int .i64 A.y1] 3); have K := K.below (below_a1 _ (.cells #[.int .i64 A.x0, .int .i64 A.y0, .int .i64 A.x1, .int .i64 A.y1] 3)); have k0 := K.cell 0; have k1 := K.cell 1; have k2 := K.cell 2; have k3 := K.cell 3; have kl := K.lt; simp only [List.getElem?_toArray, List.getElem?_cons_succ, List.getElem?_cons_zero] at k0 k1 k2 k3)))
  exact bodyPost_ret (results_tmp2 rfl _ _ _) rfl ⟨rfl, B⟩
set_option maxRecDepth 100000 in
theorem size_odd (A : Q) (h4 : in4 A = true) (he : emptyQ A = true) (hz : zerB A = false) (w : World) : Calls Try.prog 44 #[.agg #[.int .i64 A.x0, .int .i64 A.y0, .int .i64 A.x1, .int .i64 A.y1]] w fun e w' => e = .returned (.tuple #[.int .i64 0, .int .i64 220]) ∧ Below w.heap.size w w' := by
  have B : Below w.heap.size w (w.alloc (.cells #[.int .i64 A.x0, .int .i64 A.y0, .int .i64 A.x1, .int .i64 A.y1] 34)) := below_a1 _ _
  have K := Blk.new w 34 #[.int .i64 A.x0, .int .i64 A.y0, .int .i64 A.x1, .int .i64 A.y1]
  have CB := rbeyond_any (w.heap.size + 1) 4 4 [A.x0, A.y0, A.x1, A.y1] ((w.alloc (.cells #[.int .i64 A.x0, .int .i64 A.y0, .int .i64 A.x1, .int .i64 A.y1] 34)).alloc (.cells #[.int .i64 A.x0, .int .i64 A.y0, .int .i64 A.x1, .int .i64 A.y1] 3)) rfl (by decide) (by have := Blk.new (w.alloc (.cells #[.int .i64 A.x0, .int .i64 A.y0, .int .i64 A.x1, .int .i64 A.y1] 34)) 3 #[.int .i64 A.x0, .int .i64 A.y0, .int .i64 A.x1, .int .i64 A.y1]; rw [World.size_alloc] at this; exact this)
  rw [show [A.x0, A.y0, A.x1, A.y1].all (inZ (-16384) 16384) = in4 A from rfl, h4] at CB
  have CE := fun W => empty_any A W
  have q1 := fun w => neB_run A.x0 A.y0 A.x1 A.y1 0 0 0 0 w
  have q2 := fun x y w => neB_guard A.x0 A.y0 A.x1 A.y1 0 0 0 0 x y w
  rw [he] at CE
  rw [show eq4 A.x0 A.y0 A.x1 A.y1 0 0 0 0 = false from hz] at q1
  clear h4 he hz
  go_enter Try.func44, Try.ntmps44
  go_wp2_with (first | (go_at_call 46; ((with_reducible refine (CB).mono ?_); rintro e w' ⟨rfl, rfl⟩; have B := B.alloc B.size (.cells #[.int .i64 A.x0, .int .i64 A.y0, .int .i64 A.x1, .int .i64 A.y1] 3); have K := K.below (below_a1 _ (.cells #[.int .i64 A.x0, .int .i64 A.y0, .int .i64 A.x1, .int .i64 A.y1] 3)); have k0 := K.cell 0; have k1 := K.cell 1; have k2 := K.cell 2; have k3 := K.cell 3; have kl := K.lt; simp only [List.getElem?_toArray, List.getElem?_cons_succ, List.getElem?_cons_zero] at k0 k1 k2 k3)) | (go_at_call 47; ((with_reducible refine (CE _).mono ?_); rintro e w1 ⟨rfl, b1⟩; have B := B.trans (b1.mono B.size); have K := K.below b1; have k0 := K.cell 0; have k1 := K.cell 1; have k2 := K.cell 2; have k3 := K.cell 3; have kl := K.lt; simp only [List.getElem?_toArray, List.getElem?_cons_succ, List.getElem?_cons_zero] at k0 k1 k2 k3)))
  exact bodyPost_ret (results_tmp2 rfl _ _ _) rfl ⟨rfl, B⟩
set_option maxRecDepth 100000 in
theorem size_none (A : Q) (h4 : in4 A = true) (he : emptyQ A = true) (hz : zerB A = true) (w : World) : Calls Try.prog 44 #[.agg #[.int .i64 A.x0, .int .i64 A.y0, .int .i64 A.x1, .int .i64 A.y1]] w fun e w' => e = .returned (.tuple #[.int .i64 0, .int .i64 0]) ∧ Below w.heap.size w w' := by
  have B : Below w.heap.size w (w.alloc (.cells #[.int .i64 A.x0, .int .i64 A.y0, .int .i64 A.x1, .int .i64 A.y1] 34)) := below_a1 _ _
  have K := Blk.new w 34 #[.int .i64 A.x0, .int .i64 A.y0, .int .i64 A.x1, .int .i64 A.y1]
  have CB := rbeyond_any (w.heap.size + 1) 4 4 [A.x0, A.y0, A.x1, A.y1] ((w.alloc (.cells #[.int .i64 A.x0, .int .i64 A.y0, .int .i64 A.x1, .int .i64 A.y1] 34)).alloc (.cells #[.int .i64 A.x0, .int .i64 A.y0, .int .i64 A.x1, .int .i64 A.y1] 3)) rfl (by decide) (by have := Blk.new (w.alloc (.cells #[.int .i64 A.x0, .int .i64 A.y0, .int .i64 A.x1, .int .i64 A.y1] 34)) 3 #[.int .i64 A.x0, .int .i64 A.y0, .int .i64 A.x1, .int .i64 A.y1]; rw [World.size_alloc] at this; exact this)
  rw [show [A.x0, A.y0, A.x1, A.y1].all (inZ (-16384) 16384) = in4 A from rfl, h4] at CB
  have CE := fun W => empty_any A W
  have q1 := fun w => neB_run A.x0 A.y0 A.x1 A.y1 0 0 0 0 w
  have q2 := fun x y w => neB_guard A.x0 A.y0 A.x1 A.y1 0 0 0 0 x y w
  rw [he] at CE
  rw [show eq4 A.x0 A.y0 A.x1 A.y1 0 0 0 0 = true from hz] at q1
  have CA := fun W => area_none A W (in4_may h4) he
  clear h4 he hz
  go_enter Try.func44, Try.ntmps44
  go_wp2_with (first | (go_at_call 46; ((with_reducible refine (CB).mono ?_); rintro e w' ⟨rfl, rfl⟩; have B := B.alloc B.size (.cells #[.int .i64 A.x0, .int .i64 A.y0, .int .i64 A.x1, .int .i64 A.y1] 3); have K := K.below (below_a1 _ (.cells #[.int .i64 A.x0, .int .i64 A.y0, .int .i64 A.x1, .int .i64 A.y1] 3)); have k0 := K.cell 0; have k1 := K.cell 1; have k2 := K.cell 2; have k3 := K.cell 3; have kl := K.lt; simp only [List.getElem?_toArray, List.getElem?_cons_succ, List.getElem?_cons_zero] at k0 k1 k2 k3)) | (go_at_call 47; ((with_reducible refine (CE _).mono ?_); rintro e w1 ⟨rfl, b1⟩; have B := B.trans (b1.mono B.size); have K := K.below b1; have k0 := K.cell 0; have k1 := K.cell 1; have k2 := K.cell 2; have k3 := K.cell 3; have kl := K.lt; simp only [List.getElem?_toArray, List.getElem?_cons_succ, List.getElem?_cons_zero] at k0 k1 k2 k3)) | (go_at_call 48; ((with_reducible refine (CA _).mono ?_); rintro e w1 ⟨rfl, b1⟩; have B := B.trans (b1.mono B.size); have K := K.below b1; have k0 := K.cell 0; have k1 := K.cell 1; have k2 := K.cell 2; have k3 := K.cell 3; have kl := K.lt; simp only [List.getElem?_toArray, List.getElem?_cons_succ, List.getElem?_cons_zero] at k0 k1 k2 k3)))
  exact bodyPost_ret (results_tmp2 rfl _ _ _) rfl ⟨rfl, B⟩
set_option maxRecDepth 100000 in
theorem size_great (A : Q) (h4 : in4 A = true) (he : emptyQ A = false) (hg : 4194304 < (A.x1 - A.x0) * (A.y1 - A.y0)) (w : World) : Calls Try.prog 44 #[.agg #[.int .i64 A.x0, .int .i64 A.y0, .int .i64 A.x1, .int .i64 A.y1]] w fun e w' => e = .returned (.tuple #[.int .i64 0, .int .i64 220]) ∧ Below w.heap.size w w' := by
  have B : Below w.heap.size w (w.alloc (.cells #[.int .i64 A.x0, .int .i64 A.y0, .int .i64 A.x1, .int .i64 A.y1] 34)) := below_a1 _ _
  have K := Blk.new w 34 #[.int .i64 A.x0, .int .i64 A.y0, .int .i64 A.x1, .int .i64 A.y1]
  have CB := rbeyond_any (w.heap.size + 1) 4 4 [A.x0, A.y0, A.x1, A.y1] ((w.alloc (.cells #[.int .i64 A.x0, .int .i64 A.y0, .int .i64 A.x1, .int .i64 A.y1] 34)).alloc (.cells #[.int .i64 A.x0, .int .i64 A.y0, .int .i64 A.x1, .int .i64 A.y1] 3)) rfl (by decide) (by have := Blk.new (w.alloc (.cells #[.int .i64 A.x0, .int .i64 A.y0, .int .i64 A.x1, .int .i64 A.y1] 34)) 3 #[.int .i64 A.x0, .int .i64 A.y0, .int .i64 A.x1, .int .i64 A.y1]; rw [World.size_alloc] at this; exact this)
  rw [show [A.x0, A.y0, A.x1, A.y1].all (inZ (-16384) 16384) = in4 A from rfl, h4] at CB
  have CE := fun W => empty_any A W
  have q1 := fun w => neB_run A.x0 A.y0 A.x1 A.y1 0 0 0 0 w
  have q2 := fun x y w => neB_guard A.x0 A.y0 A.x1 A.y1 0 0 0 0 x y w
  have CA := fun W => area_near h4 he W
  rw [he] at CE
  clear h4 he
  generalize (A.x1 - A.x0) * (A.y1 - A.y0) = ar at *
  go_enter Try.func44, Try.ntmps44
  go_wp2_with (first | (go_at_call 46; ((with_reducible refine (CB).mono ?_); rintro e w' ⟨rfl, rfl⟩; have B := B.alloc B.size (.cells #[.int .i64 A.x0, .int .i64 A.y0, .int .i64 A.x1, .int .i64 A.y1] 3); have K := K.below (below_a1 _ (.cells #[.int .i64 A.x0, .int .i64 A.y0, .int .i64 A.x1, .int .i64 A.y1] 3)); have k0 := K.cell 0; have k1 := K.cell 1; have k2 := K.cell 2; have k3 := K.cell 3; have kl := K.lt; simp only [List.getElem?_toArray, List.getElem?_cons_succ, List.getElem?_cons_zero] at k0 k1 k2 k3)) | (go_at_call 47; ((with_reducible refine (CE _).mono ?_); rintro e w1 ⟨rfl, b1⟩; have B := B.trans (b1.mono B.size); have K := K.below b1; have k0 := K.cell 0; have k1 := K.cell 1; have k2 := K.cell 2; have k3 := K.cell 3; have kl := K.lt; simp only [List.getElem?_toArray, List.getElem?_cons_succ, List.getElem?_cons_zero] at k0 k1 k2 k3)) | (go_at_call 48; ((with_reducible refine (CA _).mono ?_); rintro e w1 ⟨rfl, b1⟩; have B := B.trans (b1.mono B.size); have K := K.below b1; have k0 := K.cell 0; have k1 := K.cell 1; have k2 := K.cell 2; have k3 := K.cell 3; have kl := K.lt; simp only [List.getElem?_toArray, List.getElem?_cons_succ, List.getElem?_cons_zero] at k0 k1 k2 k3)))
  exact bodyPost_ret (results_tmp2 rfl _ _ _) rfl ⟨rfl, B⟩
set_option maxRecDepth 100000 in
theorem size_good (A : Q) (h4 : in4 A = true) (he : emptyQ A = false) (hg : (A.x1 - A.x0) * (A.y1 - A.y0) ≤ 4194304) (w : World) : Calls Try.prog 44 #[.agg #[.int .i64 A.x0, .int .i64 A.y0, .int .i64 A.x1, .int .i64 A.y1]] w fun e w' => e = .returned (.tuple #[.int .i64 ((A.x1 - A.x0) * (A.y1 - A.y0)), .int .i64 0]) ∧ Below w.heap.size w w' := by
  have B : Below w.heap.size w (w.alloc (.cells #[.int .i64 A.x0, .int .i64 A.y0, .int .i64 A.x1, .int .i64 A.y1] 34)) := below_a1 _ _
  have K := Blk.new w 34 #[.int .i64 A.x0, .int .i64 A.y0, .int .i64 A.x1, .int .i64 A.y1]
  have CB := rbeyond_any (w.heap.size + 1) 4 4 [A.x0, A.y0, A.x1, A.y1] ((w.alloc (.cells #[.int .i64 A.x0, .int .i64 A.y0, .int .i64 A.x1, .int .i64 A.y1] 34)).alloc (.cells #[.int .i64 A.x0, .int .i64 A.y0, .int .i64 A.x1, .int .i64 A.y1] 3)) rfl (by decide) (by have := Blk.new (w.alloc (.cells #[.int .i64 A.x0, .int .i64 A.y0, .int .i64 A.x1, .int .i64 A.y1] 34)) 3 #[.int .i64 A.x0, .int .i64 A.y0, .int .i64 A.x1, .int .i64 A.y1]; rw [World.size_alloc] at this; exact this)
  rw [show [A.x0, A.y0, A.x1, A.y1].all (inZ (-16384) 16384) = in4 A from rfl, h4] at CB
  have CE := fun W => empty_any A W
  have q1 := fun w => neB_run A.x0 A.y0 A.x1 A.y1 0 0 0 0 w
  have q2 := fun x y w => neB_guard A.x0 A.y0 A.x1 A.y1 0 0 0 0 x y w
  have CA := fun W => area_near h4 he W
  rw [he] at CE
  clear h4 he
  generalize (A.x1 - A.x0) * (A.y1 - A.y0) = ar at *
  go_enter Try.func44, Try.ntmps44
  go_wp2_with (first | (go_at_call 46; ((with_reducible refine (CB).mono ?_); rintro e w' ⟨rfl, rfl⟩; have B := B.alloc B.size (.cells #[.int .i64 A.x0, .int .i64 A.y0, .int .i64 A.x1, .int .i64 A.y1] 3); have K := K.below (below_a1 _ (.cells #[.int .i64 A.x0, .int .i64 A.y0, .int .i64 A.x1, .int .i64 A.y1] 3)); have k0 := K.cell 0; have k1 := K.cell 1; have k2 := K.cell 2; have k3 := K.cell 3; have kl := K.lt; simp only [List.getElem?_toArray, List.getElem?_cons_succ, List.getElem?_cons_zero] at k0 k1 k2 k3)) | (go_at_call 47; ((with_reducible refine (CE _).mono ?_); rintro e w1 ⟨rfl, b1⟩; have B := B.trans (b1.mono B.size); have K := K.below b1; have k0 := K.cell 0; have k1 := K.cell 1; have k2 := K.cell 2; have k3 := K.cell 3; have kl := K.lt; simp only [List.getElem?_toArray, List.getElem?_cons_succ, List.getElem?_cons_zero] at k0 k1 k2 k3)) | (go_at_call 48; ((with_reducible refine (CA _).mono ?_); rintro e w1 ⟨rfl, b1⟩; have B := B.trans (b1.mono B.size); have K := K.below b1; have k0 := K.cell 0; have k1 := K.cell 1; have k2 := K.cell 2; have k3 := K.cell 3; have kl := K.lt; simp only [List.getElem?_toArray, List.getElem?_cons_succ, List.getElem?_cons_zero] at k0 k1 k2 k3)))
  exact bodyPost_ret (results_tmp2 rfl _ _ _) rfl ⟨rfl, B⟩
theorem rsize_any (A : Q) (w : World) : Calls Try.prog 44 #[.agg #[.int .i64 A.x0, .int .i64 A.y0, .int .i64 A.x1, .int .i64 A.y1]] w fun e w' => e = .returned (.tuple #[.int .i64 (if msB A then areaQ A else 0), .int .i64 (if msB A then 0 else 220)]) ∧ Below w.heap.size w w' := by
  unfold msB areaQ
  cases h4 : in4 A
  · exact size_far A h4 w
  · cases he : emptyQ A
    · simp only [Bool.false_eq_true, if_false, Bool.not_false, Bool.true_or, Bool.and_true, Bool.true_and, decide_eq_true_eq]
      by_cases hg : (A.x1 - A.x0) * (A.y1 - A.y0) ≤ 4194304
      · rw [if_pos hg, if_pos hg]; exact size_good A h4 he hg w
      · rw [if_neg hg, if_neg hg]; exact size_great A h4 he (by omega) w
    · cases hz : zerB A
      · exact size_odd A h4 he hz w
      · exact size_none A h4 he hz w
end Go.Proofs.Ytaaboochologaaa
