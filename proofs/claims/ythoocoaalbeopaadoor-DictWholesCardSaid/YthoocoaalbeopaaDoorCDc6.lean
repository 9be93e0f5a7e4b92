/- Part 7 of the proof: DcS, Fix2, Fix3, Rnd, DcT, DcU, May, Fix4, DcO, RangeC, DcBk. -/
import Derived.Lib.Strings
import Derived.Lib.Slices
import Derived.Lib.Walk
import Derived.Lib.Bytealg
import Derived.Laws.RangeString
import Derived.Laws.Externs
import Derived.Shelf.Abstract
import Derived.RangeFuncFrom
import Derived.RangeFuncKeeps
import Derived.RangeFuncCalls
import Derived.RangeFuncLeaves
import Derived.RangeFuncNested
import Derived.RangeFuncBound
import Derived.Shelf.RegionOpen
import Derived.WalkKit
import Derived.OwnWalkIn
import Derived.TacticsInMore
import Derived.LoopNIn
import Derived.LoopIn
import Derived.Test.YthoocoaalbeopaaDoorCDc5

namespace Go.Proofs.YthoocoaalbeopaaDoor
open Go Go.RowKit
set_option linter.unusedVariables false
set_option linter.unusedSimpArgs false

theorem w64d (x : Int) (h0 : -9223372036854775808 ≤ x) (h1 : x ≤ 9223372036854775807) : wrap64 x = x := by
  unfold wrap64; omega
set_option maxHeartbeats 1000000 in
theorem scutp_any (s p : ByteArray) (w : World) :
    Calls Tryd.prog 62 #[.string s, .string p] w fun e w' => e = .returned (.tuple #[.string ⟨(Lib.trimPrefix s.data.toList p.data.toList).toArray⟩, .bool (Lib.hasPrefix s.data.toList p.data.toList)]) ∧ w' = w := by
  go_enter Tryd.func62, Tryd.ntmps62
  go_wp2
  · have h2 : (!((s.extract 0 p.size).toList == p.toList)) = true := by assumption
    have h3 : (decide (p.size ≤ s.size) && ((s.extract 0 p.size).toList == p.toList)) = false := by
      have : ((s.extract 0 p.size).toList == p.toList) = false := by simpa using h2
      rw [this]
      simp
    go_ret2
    refine ⟨?_, rfl⟩
    rw [Lib.trimPrefix_miss s p h3, ← Lib.hasPrefix_raw, h3]
    rfl
  · have h1 : p.size ≤ s.size := by assumption
    have h2 : (!((s.extract 0 p.size).toList == p.toList)) = false := by assumption
    have h2' : ((s.extract 0 p.size).toList == p.toList) = true := by simpa using h2
    go_ret2
    refine ⟨?_, rfl⟩
    rw [Lib.trimPrefix_hit s p h1 h2', ← Lib.hasPrefix_raw, h2', decide_eq_true h1]
    rfl
  · have h1 : ¬ p.size ≤ s.size := by assumption
    have h3 : (decide (p.size ≤ s.size) && ((s.extract 0 p.size).toList == p.toList)) = false := by simp [h1]
    go_ret2
    refine ⟨?_, rfl⟩
    rw [Lib.trimPrefix_miss s p h3, ← Lib.hasPrefix_raw, h3]
    rfl
set_option maxHeartbeats 1000000 in
set_option maxRecDepth 100000 in
theorem sidxb_any (s : ByteArray) (c : Int) (w : World) :
    Calls Tryd.prog 82 #[.string s, .int .u8 c] w fun e w' => e = .returned (.int .i64 (Lib.indexByte s.data.toList c.toNat.toUInt8)) ∧ w' = w := by
  go_enter Tryd.func82, Tryd.ntmps82
  go_wp2
  rw [run_callFunc_extern Tryd.func87 (by kernel_rfl) (by kernel_rfl) (by kernel_rfl) (e := Extern.BytealgIndexByte.indexByte) (by kernel_rfl), Lib.run_indexByteString]
  simp only [Result.andThen]
  rw [Oper.upon_value]
  go_wp2
  go_ret
  exact ⟨rfl, rfl⟩
set_option maxHeartbeats 2000000 in
set_option maxRecDepth 100000 in
theorem sidx_one (s : ByteArray) (c : UInt8) (w : World) :
    Calls Tryd.prog 80 #[.string s, .string ⟨#[c]⟩] w fun e w' => e = .returned (.int .i64 (Lib.indexByte s.data.toList c)) ∧ w' = w := by
  go_enter Tryd.func80, Tryd.ntmps80
  go_wp2_with (go_at_call 82; refine (sidxb_any _ _ _).mono ?_; rintro e w' ⟨rfl, rfl⟩)
  · have h : ([c] == s.toList) = true := by assumption
    go_ret
    refine ⟨?_, rfl⟩
    have e : s.data.toList = [c] := by rw [← Lib.toList_data]; exact (beq_iff_eq.1 h).symm
    rw [e]
    simp [Lib.indexByte]
  · go_ret
    exact ⟨rfl, rfl⟩
set_option maxRecDepth 100000 in
theorem scutl_no (s : ByteArray) (c : UInt8) (h : Lib.indexByte s.data.toList c = -1) (w : World) :
    Calls Tryd.prog 77 #[.string s, .string ⟨#[c]⟩] w fun e w' => e = .returned (.tuple #[.string s, .string ⟨#[]⟩, .bool false]) ∧ w' = w := by
  go_enter Tryd.func77, Tryd.ntmps77
  go_wp2_with (go_at_call 80; refine (sidx_one _ _ _).mono ?_; rintro e w' ⟨rfl, rfl⟩; simp only [h])
  go_ret3
  exact ⟨rfl, rfl⟩
set_option maxRecDepth 100000 in
theorem scut_no (s : ByteArray) (c : UInt8) (h : Lib.indexByte s.data.toList c = -1) (w : World) :
    Calls Tryd.prog 72 #[.string s, .string ⟨#[c]⟩] w fun e w' => e = .returned (.tuple #[.string s, .string ⟨#[]⟩, .bool false]) ∧ w' = w := by
  go_enter Tryd.func72, Tryd.ntmps72
  go_wp2_with (go_at_call 77; refine (scutl_no _ _ h _).mono ?_; rintro e w' ⟨rfl, rfl⟩)
  go_ret3
  exact ⟨rfl, rfl⟩
set_option maxRecDepth 100000 in
theorem scutl_at (s : ByteArray) (c : UInt8) (k : Nat) (h : Lib.indexByte s.data.toList c = (k : Nat)) (hk : k + 1 ≤ s.size) (hs : s.size ≤ 1000) (w : World) :
    Calls Tryd.prog 77 #[.string s, .string ⟨#[c]⟩] w fun e w' => e = .returned (.tuple #[.string (s.extract 0 k), .string (s.extract (k + 1) s.size), .bool true]) ∧ Below w.heap.size w w' := by
  go_enter Tryd.func77, Tryd.ntmps77
  have z1 : (0 : Int) ≤ (k : Int) := Int.natCast_nonneg k
  have z2 : wrap64 ((k : Int) + 1) = (k : Int) + 1 := w64d _ (by omega) (by omega)
  have z3 : ((k : Int) + 1).toNat = k + 1 := by omega
  have z4 : k ≤ s.size := by omega
  have z5 : k + 1 ≤ s.size := hk
  go_wp2_with (go_at_call 80; refine (sidx_one _ _ _).mono ?_; rintro e w' ⟨rfl, rfl⟩; simp only [h])
  go_region
  go_wp2
  go_ret3
  exact ⟨rfl, (Below.refl _ _).drew⟩
set_option maxRecDepth 100000 in
theorem scut_at (s : ByteArray) (c : UInt8) (k : Nat) (h : Lib.indexByte s.data.toList c = (k : Nat)) (hk : k + 1 ≤ s.size) (hs : s.size ≤ 1000) (w : World) :
    Calls Tryd.prog 72 #[.string s, .string ⟨#[c]⟩] w fun e w' => e = .returned (.tuple #[.string (s.extract 0 k), .string (s.extract (k + 1) s.size), .bool true]) ∧ Below w.heap.size w w' := by
  go_enter Tryd.func72, Tryd.ntmps72
  go_wp2_with (go_at_call 77; refine (scutl_at _ _ k h hk hs _).mono ?_; rintro e w' ⟨rfl, b⟩)
  go_ret3
  exact ⟨rfl, b⟩
/-- A text of digits, and their value. -/
def digB (Ds : List Nat) : ByteArray := ⟨(Ds.map fun d => (48 + d).toUInt8).toArray⟩
def digV (Ds : List Nat) : Nat := Ds.foldl (fun x d => x * 10 + d) 0
theorem digB_size (Ds : List Nat) : (digB Ds).size = Ds.length := by simp [digB, ByteArray.size]
theorem digB_at (Ds : List Nat) (hD : ∀ d ∈ Ds, d ≤ 9) (i : Nat) (h : i < (digB Ds).size) : (((digB Ds)[i]'h).toNat : Nat) = 48 + Ds.getD i 0 := by
  have hi : i < Ds.length := by rw [digB_size] at h; exact h
  have e : (digB Ds)[i]'h = (48 + Ds[i]).toUInt8 := by simp [digB, ByteArray.getElem_eq_getElem_data]
  rw [e]
  have := hD _ (List.getElem_mem hi)
  have e2 : Ds.getD i 0 = Ds[i] := by simp [List.getD_eq_getElem?_getD, List.getElem?_eq_getElem hi]
  rw [e2]
  generalize Ds[i] = d at *
  match d, this with
  | 0, _ | 1, _ | 2, _ | 3, _ | 4, _ | 5, _ | 6, _ | 7, _ | 8, _ | 9, _ => rfl
theorem digV_snoc (Ds : List Nat) (i : Nat) (hi : i < Ds.length) : digV (Ds.take (i + 1)) = digV (Ds.take i) * 10 + Ds.getD i 0 := by
  rw [List.take_add_one, List.getElem?_eq_getElem hi]
  unfold digV
  rw [List.foldl_append]
  simp only [Option.toList_some, List.foldl_cons, List.foldl_nil, List.getD_eq_getElem?_getD, List.getElem?_eq_getElem hi, Option.getD_some]
theorem digV_lt (Ds : List Nat) (hD : ∀ d ∈ Ds, d ≤ 9) : ∀ i, i ≤ Ds.length → digV (Ds.take i) < 10 ^ i := by
  intro i
  induction i with
  | zero => intro _; simp [digV]
  | succ i ih =>
    intro hi
    rw [digV_snoc Ds i (by omega), Nat.pow_succ]
    have h1 := ih (by omega)
    have h2 : Ds.getD i 0 ≤ 9 := by
      rw [List.getD_eq_getElem?_getD, List.getElem?_eq_getElem (by omega)]
      exact hD _ (List.getElem_mem _)
    omega
theorem digV_lt15 (Ds : List Nat) (hD : ∀ d ∈ Ds, d ≤ 9) (h : Ds.length ≤ 15) (i : Nat) (hi : i < Ds.length) : (digV (Ds.take i) : Int) ≤ 100000000000000 := by
  have h1 := digV_lt Ds hD i (by omega)
  have h2 : 10 ^ i ≤ 10 ^ 14 := Nat.pow_le_pow_right (by decide) (by omega)
  have h3 : 10 ^ 14 = 100000000000000 := by decide
  rw [h3] at h2
  omega
set_option maxHeartbeats 1000000 in
set_option maxRecDepth 100000 in
theorem ddig_any (Ds : List Nat) (hD : ∀ d ∈ Ds, d ≤ 9) (h1 : 1 ≤ Ds.length) (h2 : Ds.length ≤ 15) (w : World) :
    Calls Tryd.prog 73 #[.string (digB Ds), .int .i64 15] w fun e w' => e = .returned (.tuple #[.int .i64 (digV Ds : Nat), .bool true]) ∧ Below w.heap.size w w' := by
  have hz := digB_size Ds
  have d1 : inB 1 15 ((digB Ds).size : Int) = true := by rw [hz]; unfold inB; simp; omega
  have HV2 := Lib.hid (digV_lt15 Ds hD h2)
  have HD := Lib.hid hD
  clear hD
  have HA := Lib.hid (digB_at Ds HD.out)
  have HS := Lib.hid (digV_snoc Ds)
  have HE := Lib.hid (show digV (Ds.take Ds.length) = digV Ds by rw [List.take_length])
  have HL := Lib.hid h2
  have hpre := Lib.hid hz
  clear h2 hz h1
  generalize digB Ds = s at *
  go_enter Tryd.func73, Tryd.ntmps73
  go_wp2_with (go_at_call 51; ((with_reducible refine (dwithin_any 1 15 (s.size : Int) true d1 _).mono ?_); rintro e w' ⟨rfl, rfl⟩))
  go_loopw [6, 8] (fun a b w' => ∃ pos, w' = w.iter s pos ∧ pos ≤ s.size ∧ a = .int .i64 (digV (Ds.take pos) : Nat) ∧ b = b) (fun _ _ w' => s.size - w'.iterPos w.heap.size)
  case atStart => exact ⟨0, rfl, Nat.zero_le _, by simp [digV], rfl⟩
  case round =>
    obtain ⟨pos, rfl, hp1, rfl, -⟩ := hrel
    by_cases hp : pos < s.size
    · have a1 := HA.out pos hp
      have a2 := HS.out pos (by rw [← hpre.out]; exact hp)
      have a3 := HV2.out pos (by rw [← hpre.out]; exact hp)
      have a4 : Ds.getD pos 0 ≤ 9 := by
        rw [List.getD_eq_getElem?_getD, List.getElem?_eq_getElem (by rw [← hpre.out]; exact hp)]
        exact HD.out _ (List.getElem_mem _)
      have a5 := Lib.hid a2
      clear a2
      generalize Ds.getD pos 0 = d at *
      generalize digV (Ds.take pos) = x at *
      have hnx : ∀ ty, (Instr.next (.pointer (some ⟨w.heap.size, 0, none⟩)) true ty).run Tryd.prog (w.iter s pos) = .ok (.tuple #[.bool true, .int .i64 pos, .int .i32 ((48 + d : Nat) : Int)]) (w.iter s (pos + 1)) := fun ty => by
        rw [run_next_ascii w s pos ty hp (by rw [a1]; omega), a1]
      go_wp2
      have a6 : wrap64 ((x : Int) * 10) = (x : Int) * 10 := w64d _ (by omega) (by omega)
      have a7 : wrap64 ((x : Int) * 10 + (d : Nat)) = (x : Int) * 10 + (d : Nat) := w64d _ (by omega) (by omega)
      go_roundw
      case rel =>
        refine ⟨pos + 1, rfl, by omega, ?_, by trivial⟩
        rw [a5.out]
        have e : (48 + (d : Int) - 48) = (d : Int) := by omega
        simp [e]
      case measure => 
        simp
        omega
    · have hnx : ∀ ty, (Instr.next (.pointer (some ⟨w.heap.size, 0, none⟩)) true ty).run Tryd.prog (w.iter s pos) = _ := fun ty => run_next_end w s pos ty hp
      go_wp2
      go_ret2
      have e : pos = Ds.length := by have := hpre.out; omega
      subst e
      rw [HE.out]
      exact ⟨rfl, (Below.refl _ _).alloc (Nat.le_refl _) _⟩
end Go.Proofs.YthoocoaalbeopaaDoor

namespace Go.Proofs.YthoocoaalbeopaaDoor
open Go.RowKit

theorem ret_iiv {k l : IntKind} {a b a' b' : Int} {v : Value} (h : a = a') (g : b = b') : Ending.returned (.tuple #[.int k a, .int l b, v]) = .returned (.tuple #[.int k a', .int l b', v]) := by rw [h, g]

end Go.Proofs.YthoocoaalbeopaaDoor

namespace Go.Proofs.YthoocoaalbeopaaDoor
open Go.RowKit

theorem ret_ii {k l : IntKind} {a b a' b' : Int} (h : a = a') (g : b = b') : Ending.returned (.tuple #[.int k a, .int l b]) = .returned (.tuple #[.int k a', .int l b']) := by rw [h, g]

end Go.Proofs.YthoocoaalbeopaaDoor

namespace Go.Proofs.YthoocoaalbeopaaDoor
open Go.RowKit

theorem i64_mask (n : Int) (k : Nat) (hk : k ≤ 62) : bits .and .i64 n ((2 ^ k - 1 : Nat) : Int) = n % ((2 ^ k : Nat) : Int) := by
  have hlt : 2 ^ k ≤ 2 ^ 62 := Nat.pow_le_pow_right (by omega) hk
  have hpos : 0 < 2 ^ k := Nat.two_pow_pos k
  have h1 : (BitVec.ofInt 64 ((2 ^ k - 1 : Nat) : Int)).toNat = 2 ^ k - 1 := by
    rw [BitVec.ofInt_natCast, BitVec.toNat_ofNat]; exact Nat.mod_eq_of_lt (by omega)
  have key : (BitVec.ofInt 64 n &&& BitVec.ofInt 64 ((2 ^ k - 1 : Nat) : Int)).toNat = (n % ((2 ^ 64 : Nat) : Int)).toNat % 2 ^ k := by
    rw [BitVec.toNat_and, BitVec.toNat_ofInt, h1, Nat.and_two_pow_sub_one_eq_mod]
  show IntKind.i64.wrap ((BitVec.ofInt 64 n &&& BitVec.ofInt 64 ((2 ^ k - 1 : Nat) : Int)).toNat : Nat) = _
  have hd : ((2 ^ k : Nat) : Int) ∣ ((2 ^ 64 : Nat) : Int) := Int.natCast_dvd_natCast.mpr (Nat.pow_dvd_pow 2 (by omega))
  have hm : n % ((2 ^ 64 : Nat) : Int) % ((2 ^ k : Nat) : Int) = n % ((2 ^ k : Nat) : Int) := Int.emod_emod_of_dvd n hd
  have h0 : 0 ≤ n % ((2 ^ 64 : Nat) : Int) := Int.emod_nonneg n (by omega)
  have hb := Int.emod_lt_of_pos n (show (0 : Int) < ((2 ^ k : Nat) : Int) by omega)
  have hb0 := Int.emod_nonneg n (show ((2 ^ k : Nat) : Int) ≠ 0 by omega)
  rw [key, Int.natCast_emod, Int.toNat_of_nonneg h0, hm]
  exact IntWalk.i64_in _ (by omega)

theorem i64_and63 (n : Int) : bits .and .i64 n 63 = n % 64 := i64_mask n 6 (by decide)
theorem i64_and1 (n : Int) : bits .and .i64 n 1 = n % 2 := i64_mask n 1 (by decide)

end Go.Proofs.YthoocoaalbeopaaDoor

namespace Go.Proofs.YthoocoaalbeopaaDoor
open Go Go.RowKit
set_option linter.unusedVariables false
set_option linter.unusedSimpArgs false
variable {q : Nat → Prop}

/-- The half byte at a place, counted in halves. -/
def half (bs : List Value) (j : Nat) : Nat := if j % 2 = 0 then byteAt bs (j / 2) / 16 else byteAt bs (j / 2) % 16
def spT (H : List Nat) : ByteArray := H.foldl (fun s h => s ++ spD h) ⟨#[]⟩
theorem spT_snoc {H : List Nat} {j h : Nat} (hj : H[j]? = some h) : spT (H.take (j + 1)) = spT (H.take j) ++ spD h := by
  rw [List.take_add_one, hj]
  simp [spT, List.foldl_append]
theorem spT_grow : ∀ (H : List Nat) (s : ByteArray), s.size ≤ (H.foldl (fun s h => s ++ spD h) s).size
  | [], _ => Nat.le_refl _
  | h :: H, s => Nat.le_trans (by simp) (spT_grow H (s ++ spD h))
theorem spT_le (H : List Nat) (j : Nat) : (spT (H.take j)).size ≤ (spT H).size := by
  have e : spT H = (H.drop j).foldl (fun s h => s ++ spD h) (spT (H.take j)) := by
    unfold spT
    rw [← List.foldl_append, List.take_append_drop]
  rw [e]
  exact spT_grow _ _
/-- These half bytes, and the end behind them, lie there. -/
structure Hv (bs : List Value) (k : Nat) (H : List Nat) : Prop where
  at' : ∀ j h, H[j]? = some h → h < 15 ∧ half bs (2 * k + j) = h
  fin : half bs (2 * k + H.length) = 15
  len : k + H.length / 2 + 1 ≤ bs.length
  txt : (spT H).size ≤ 21
def posR (w : World) (p : Nat) : Nat := match w.cell? ⟨p, 1, none⟩ with | some (.int _ i) => i.toNat | _ => 0
theorem posR_rs {w : World} {p k : Nat} {bs : List Value} (h : RS q w p bs k) (hk : k ≤ bs.length) : posR w p = k := by
  rcases h with ⟨_, A, c, hb, _⟩ | ⟨h1, _⟩
  · have := hb.cell 1
    simp only [List.getElem?_toArray, List.getElem?_cons_zero, List.getElem?_cons_succ] at this
    unfold posR
    rw [this]
    simp
  · omega
theorem dleft_any (p : Nat) (bs : List Value) (k : Nat) (w : World) (h : RS q w p bs k) (hk : k ≤ bs.length) (hL : bs.length ≤ 4611686018427387904) :
    Calls Tryd.prog 22 #[.pointer (some ⟨p, 0, none⟩)] w fun e w' => e = .returned (.int .i64 ((bs.length - k : Nat) : Int)) ∧ Below w.heap.size w w' := by
  rcases h with ⟨_, A, c, hb, hl, h8, hi, _⟩ | ⟨h1, _⟩
  · exact left_low p bs.length c k A w hb hL hi
  · omega
theorem idx0D (x y : Int) (w : World) : (Instr.index 101 (.agg #[.int .i64 x, .int .i64 y]) (.int .i64 0)).run Tryd.prog w = .ok (.int .i64 x) w := by kernel_rfl
theorem idx1D (x y : Int) (w : World) : (Instr.index 101 (.agg #[.int .i64 x, .int .i64 y]) (.int .i64 1)).run Tryd.prog w = .ok (.int .i64 y) w := by kernel_rfl
theorem shr4 (a : Int) (w : World) : (binOp .shr 3 (.int .i64 a) (.int .u64 4)).run Tryd.prog w = .ok (.int .i64 (a / 16)) w := by
  go_simp
theorem and15 (n : Int) : bits .and .i64 n 15 = n % 16 := i64_mask n 4 (by decide)
structure TSt (q : Nat → Prop) (w : World) (p s : Nat) (bs : List Value) (i j : Nat) (H : List Nat) (W : World) : Prop where
  rs : RS q W p bs i
  sp : Blk W s 91 #[.string (spT (H.take j)), .bool false]
  on : Only w W [p, s]
  gd : GD W
set_option maxRecDepth 100000 in
theorem each_any (p s k : Nat) (bs : List Value) (H : List Nat) (w : World) (h : RS q w p bs k) (hL : bs.length ≤ 4611686018427387904) (hv : Hv bs k H) (hG : GD w) (hs : Blk w s 91 #[.string ⟨#[]⟩, .bool false]) (hp0 : p ≠ 0) (hs0 : s ≠ 0) (hps : p ≠ s) (hq : ¬ q s) :
    Calls Tryd.prog 60 #[.pointer (some ⟨p, 0, none⟩), .func (.func 61) #[.pointer (some ⟨s, 0, none⟩)] #[]] w fun e w' => e = .returned (.tuple #[]) ∧ RS q w' p bs (k + H.length / 2 + 1) ∧ Blk w' s 91 #[.string (spT H), .bool true] ∧ Only w w' [p, s] := by
  have h8 := h.bytes
  have T0 : TSt q w p s bs (k + 0) (2 * 0) H w := ⟨h, hs, Only.refl _ _, hG⟩
  have HV := Lib.hid hv
  have hlen := hv.len
  clear h hs hG hv
  go_enter Tryd.func60, Tryd.ntmps60
  go_wp2
  go_loopw [4] (fun a w' => ∃ i, 2 * i ≤ H.length ∧ a = a ∧ TSt q w p s bs (k + i) (2 * i) H w') (fun _ w' => bs.length - posR w' p)
  case atStart => exact ⟨0, Nat.zero_le _, rfl, T0⟩
  case round =>
    clear T0
    obtain ⟨i, hi, -, T⟩ := hrel
    have hki : k + i + 1 ≤ bs.length := by omega
    have CL := dleft_any p bs (k + i) wr T.rs (by omega) hL
    have hpos : posR wr p = k + i := posR_rs T.rs (by omega)
    have hb := byteAt_lt h8 (k + i)
    have HB := Lib.hid (show ∀ t, t < 2 → (half bs (2 * (k + i) + t) : Nat) = if t = 0 then byteAt bs (k + i) / 16 else byteAt bs (k + i) % 16 from fun t ht => by
      unfold half
      match t, ht with
      | 0, _ => simp
      | 1, _ => rw [if_neg (by omega), if_neg (by omega), show (2 * (k + i) + 1) / 2 = k + i by omega])
    have CU : ∀ W, RS q W p bs (k + i) → Calls Tryd.prog 23 #[.pointer (some ⟨p, 0, none⟩)] W (ReadS q W p bs (k + i + 1) ((byteAt bs (k + i) : Nat) : Int)) := fun W r => by
      have C := rsU8 p bs (k + i) W r hL
      unfold rsn at C
      rwa [if_pos (by omega)] at C
    generalize byteAt bs (k + i) = x at *
    have hd : ((bs.length - (k + i) : Nat) : Int) > 0 := by omega
    generalize ((bs.length - (k + i) : Nat) : Int) = lf at *
    have e15 := and15 (x : Int)
    go_wp2_with (first | (go_at_call 22; ((with_reducible refine (CL).mono ?_); rintro e w1 ⟨rfl, b1⟩)) | (go_at_call 23; ((with_reducible refine (CU _ (T.rs.below b1)).mono ?_); rintro e w2 ⟨rfl, r2, o2⟩)))
    have T2 : TSt q w p s bs (k + i + 1) (2 * i + 0) H w2 := ⟨r2, (T.sp.below b1).only o2 (by simp; omega), (T.on.then_below b1).trans o2 (fun b hb => .inl (by simp at hb; simp [hb])), (T.gd.below b1).only o2 hp0⟩
    clear T b1 o2 r2 CL CU
    go_loopw [17, 6] (fun a b w' => ∃ t, t ≤ 2 ∧ 2 * i + t ≤ H.length ∧ a = .int .i64 (t : Nat) ∧ b = b ∧ TSt q w p s bs (k + i + 1) (2 * i + t) H w') (fun a _ _ => 2 - (intOf a).toNat)
    case atStart => exact ⟨0, by omega, by omega, rfl, rfl, T2⟩
    case round =>
      clear T2
      obtain ⟨t, ht, hit, rfl, -, T⟩ := hrel
      by_cases h2 : t = 2
      · subst h2
        have hlt : 2 * (i + 1) ≤ H.length := by omega
        have T9 : TSt q w p s bs (k + (i + 1)) (2 * (i + 1)) H wr := by rw [← Nat.add_assoc, show 2 * (i + 1) = 2 * i + 2 by omega]; exact T
        clear T
        go_wp2
        go_roundw
        case rel => exact ⟨i + 1, hlt, by trivial, T9⟩
        case measure => rw [posR_rs T9.rs (by omega), hpos]; omega
      · have d1 : decide ((t : Int) < 2) = true := by simp; omega
        have ht2 : t < 2 := by omega
        have hx : ∀ W, (Instr.index 101 (.agg #[.int .i64 ((x : Int) / 16), .int .i64 ((x : Int) % 16)]) (.int .i64 (t : Nat))).run Tryd.prog W = .ok (.int .i64 (half bs (2 * (k + i) + t) : Nat)) W := fun W => by
          rw [HB.out t ht2]
          match t, ht2 with
          | 0, _ => rw [if_pos rfl]; exact idx0D _ _ W
          | 1, _ => rw [if_neg (by decide)]; exact idx1D _ _ W
        by_cases he : 2 * i + t = H.length
        · have hh : half bs (2 * (k + i) + t) = 15 := by
            rw [show 2 * (k + i) + t = 2 * k + H.length by omega]; exact HV.out.fin
          rw [hh] at hx
          have CE := take_end s (spT (H.take (2 * i + t))) wr T.sp
          have e1 : k + i + 1 = k + H.length / 2 + 1 := by omega
          have e2 : spT (H.take (2 * i + t)) = spT H := by rw [he, List.take_length]
          rw [e2] at CE
          have hr := Lib.hid (e1 ▸ T.rs)
          have ho := Lib.hid T.on
          have e1' := Lib.hid e1
          clear e1 e2 he hh T
          go_wp2_with (go_at_call 61; ((with_reducible refine (CE).mono ?_); rintro e w3 ⟨rfl, k3, o3⟩))
          exact bodyPost_ret (results_none rfl _ _ _) rfl ⟨rfl, hr.out.only o3 (by simp; omega) (fun b hb => by simp at hb; subst hb; exact hq), k3, ho.out.trans o3 (fun b hb => .inl (by simp at hb; simp [hb]))⟩
        · obtain ⟨h, hh⟩ : ∃ h, H[2 * i + t]? = some h := ⟨_, List.getElem?_eq_getElem (by omega)⟩
          obtain ⟨h15, hat⟩ := HV.out.at' _ _ hh
          rw [show 2 * (k + i) + t = 2 * k + (2 * i + t) by omega, hat] at hx
          have hsn := spT_snoc hh
          have hz := Nat.le_trans (spT_le H (2 * i + t + 1)) HV.out.txt
          have hz0 := Nat.le_trans (spT_le H (2 * i + t)) HV.out.txt
          have CT := take_any s h (spT (H.take (2 * i + t))) true wr T.gd h15 T.sp (by omega) (by rw [hsn] at hz; simp at hz; simp; omega)
          rw [← hsn] at CT
          have hT := Lib.hid T
          have hlt : 2 * i + (t + 1) ≤ H.length := by omega
          clear hh hat hz hz0 T hsn h15 he
          go_wp2_with (go_at_call 61; ((with_reducible refine (CT).mono ?_); rintro e w3 ⟨rfl, k3, o3⟩))
          have T := hT.out
          have T4 : TSt q w p s bs (k + i + 1) (2 * i + (t + 1)) H w3 := ⟨T.rs.only o3 (by simp; omega) (fun b hb => by simp at hb; subst hb; exact hq), k3, T.on.trans o3 (fun b hb => .inl (by simp at hb; simp [hb])), T.gd.only o3 hs0⟩
          go_roundw
          case rel => exact ⟨t + 1, by omega, hlt, by trivial, by trivial, T4⟩
          case measure => show 2 - (intOf (.int .i64 ((t : Int) + 1))).toNat < 2 - (intOf (.int .i64 (t : Nat))).toNat; simp [intOf]; omega
end Go.Proofs.YthoocoaalbeopaaDoor

namespace Go.Proofs.YthoocoaalbeopaaDoor
open Go Go.RowKit
set_option linter.unusedVariables false
set_option linter.unusedSimpArgs false
variable {q : Nat → Prop}

theorem idx_none (c : UInt8) : ∀ l : List UInt8, (∀ x ∈ l, x ≠ c) → Lib.indexByte l c = -1
  | [], _ => rfl
  | b :: l, h => by
    have h1 : (b == c) = false := by simpa using h b (by simp)
    have h2 := idx_none c l fun x hx => h x (by simp [hx])
    simp [Lib.indexByte, h1, h2]
theorem digB_ne (Ds : List Nat) (hD : ∀ d ∈ Ds, d ≤ 9) (c : UInt8) (hc : ∀ d, d ≤ 9 → (48 + d).toUInt8 ≠ c) : Lib.indexByte (digB Ds).data.toList c = -1 := by
  refine idx_none c _ fun x hx => ?_
  simp only [digB, List.mem_map] at hx
  obtain ⟨d, hd, rfl⟩ := hx
  exact hc d (hD d hd)
theorem dig_not (c : UInt8) (h : (List.range 10).all (fun d => (48 + d).toUInt8 != c) = true) : ∀ d, d ≤ 9 → (48 + d).toUInt8 ≠ c := fun d hd => by
  have := List.all_eq_true.1 h d (by simp; omega)
  simpa using this
theorem cat_nil (s : ByteArray) : s ++ (⟨#[]⟩ : ByteArray) = s := by
  apply ByteArray.ext
  simp
set_option maxRecDepth 100000 in
theorem dval_dig (Ds : List Nat) (hD : ∀ d ∈ Ds, d ≤ 9) (h1 : 1 ≤ Ds.length) (h2 : Ds.length ≤ 15) (hv : digV Ds ≤ 2147483648) (w : World) :
    Calls Tryd.prog 63 #[.string (digB Ds)] w fun e w' => e = .returned (.tuple #[.int .i64 ((digV Ds : Int) * 65536), .bool true]) ∧ Below w.heap.size w w' := by
  have C1 := fun w => scut_no (digB Ds) 69 (digB_ne Ds hD 69 (dig_not 69 (by decide))) w
  have C2 := fun w => scut_no (digB Ds) 46 (digB_ne Ds hD 46 (dig_not 46 (by decide))) w
  have C3 := fun w => ddig_any Ds hD h1 h2 w
  have C4 := fun w => dsc_zero (digV Ds) hv w
  have hz := Lib.hid (show (digB Ds).size ≤ 1000 by rw [digB_size]; omega)
  clear hD h1 h2 hv
  generalize digB Ds = s at *
  generalize digV Ds = x at *
  have C3 : ∀ w, Calls Tryd.prog 73 #[.string (s ++ (⟨#[]⟩ : ByteArray)), .int .i64 15] w fun e w' => e = .returned (.tuple #[.int .i64 (x : Nat), .bool true]) ∧ Below w.heap.size w w' := by rw [cat_nil]; exact C3
  have hz1 : s.size ≤ 9223372036854775807 := Nat.le_trans hz.out (by decide)
  go_enter Tryd.func63, Tryd.ntmps63
  go_wp2_with (first | (go_at_call 72; ((with_reducible refine (C1 _).mono ?_); rintro e w1 ⟨rfl, rfl⟩)) | (go_at_call 72; ((with_reducible refine (C2 _).mono ?_); rintro e w1 ⟨rfl, rfl⟩)) | (go_at_call 73; ((with_reducible refine (C3 _).mono ?_); rintro e w3 ⟨rfl, b3⟩)) | (go_at_call 74; ((with_reducible refine (C4 _).mono ?_); rintro e w4 ⟨rfl, rfl⟩)))
  exact bodyPost_ret (results_tmp2 rfl _ _ _) rfl ⟨rfl, b3⟩
set_option maxRecDepth 100000 in
theorem dval_225 (w : World) :
    Calls Tryd.prog 63 #[.string ⟨#[50, 46, 50, 53]⟩] w fun e w' => e = .returned (.tuple #[.int .i64 147456, .bool true]) ∧ Below w.heap.size w w' := by
  have C1 := fun w => scut_no ⟨#[50, 46, 50, 53]⟩ 69 (by decide) w
  have C2 := fun w => scut_at ⟨#[50, 46, 50, 53]⟩ 46 1 (by decide) (by decide) (by decide) w
  have C3 := fun w => ddig_any [2, 2, 5] (by decide) (by decide) (by decide) w
  have C4 := fun w => dsc_225 w
  have e1 : digB [2, 2, 5] = ⟨#[50, 50, 53]⟩ := by rfl
  have e2 : digV [2, 2, 5] = 225 := by rfl
  have e3 : (⟨#[50, 46, 50, 53]⟩ : ByteArray).extract 0 1 = ⟨#[50]⟩ := by rfl
  have e4 : (⟨#[50, 46, 50, 53]⟩ : ByteArray).extract (1 + 1) (⟨#[50, 46, 50, 53]⟩ : ByteArray).size = ⟨#[50, 53]⟩ := by rfl
  rw [e1, e2] at C3
  simp only [e3, e4] at C2
  rw [show (⟨#[50, 50, 53]⟩ : ByteArray) = ⟨#[50]⟩ ++ ⟨#[50, 53]⟩ from rfl] at C3
  go_enter Tryd.func63, Tryd.ntmps63
  go_wp2_with (first | (go_at_call 72; ((with_reducible refine (C1 _).mono ?_); rintro e w1 ⟨rfl, rfl⟩)) | (go_at_call 72; ((with_reducible refine (C2 _).mono ?_); rintro e w2 ⟨rfl, b2⟩)) | (go_at_call 73; ((with_reducible refine (C3 _).mono ?_); rintro e w3 ⟨rfl, b3⟩)) | (go_at_call 74; ((with_reducible refine (C4 _).mono ?_); rintro e w4 ⟨rfl, b4⟩)))
  exact bodyPost_ret (results_tmp2 rfl _ _ _) rfl ⟨rfl, (b2.trans (b3.mono b2.size)).trans (b4.mono (Nat.le_trans b2.size b3.size))⟩
/-- What a text says, its minus told apart. -/
def valT (s : ByteArray) (v : Int) : Prop := ∀ w, Calls Tryd.prog 63 #[.string s] w fun e w' => e = .returned (.tuple #[.int .i64 v, .bool true]) ∧ Below w.heap.size w w'
set_option maxRecDepth 100000 in
theorem dreal_any (p k : Nat) (bs : List Value) (H : List Nat) (s : ByteArray) (m : Bool) (v : Int) (w : World) (h : RS q w p bs k) (hL : bs.length ≤ 4611686018427387904) (hv : Hv bs k H) (hG : GD w) (hp0 : p ≠ 0) (hpw : p < w.heap.size) (hq : ∀ b, q b → b < w.heap.size)
    (hm : Lib.hasPrefix (spT H).data.toList [45] = m) (ht : (⟨(Lib.trimPrefix (spT H).data.toList [45]).toArray⟩ : ByteArray) = s) (hs : valT s v) (v1 : -9223372036854775807 ≤ v) (v2 : v ≤ 9223372036854775807) :
    Calls Tryd.prog 43 #[.pointer (some ⟨p, 0, none⟩)] w fun e w' => e = .returned (.tuple #[.int .i64 (if m then -v else v), .bool true]) ∧ RS q w' p bs (k + H.length / 2 + 1) ∧ Only w w' [p] := by
  have hw0 := hG.lt
  have B0 : Below w.heap.size w (w.alloc (.cells #[.string ⟨#[]⟩, .bool false] 91)) := (Below.refl _ _).alloc (Nat.le_refl _) _
  have CE := each_any p w.heap.size k bs H (w.alloc (.cells #[.string ⟨#[]⟩, .bool false] 91)) (h.below B0) hL hv (hG.below B0) (Blk.new _ _ _) hp0 (by omega) (by omega) (fun hb => by have := hq _ hb; omega)
  have CP := fun w => scutp_any (spT H) ⟨#[45]⟩ w
  rw [show (⟨#[45]⟩ : ByteArray).data.toList = [45] from rfl, hm, ht] at CP
  have CV := hs
  have HK := Lib.hid (show wrap64 (-v) = -v by unfold wrap64; omega)
  clear hm ht hv hs h hG
  generalize spT H = t at *
  obtain ⟨k2, hk2⟩ : ∃ k2, k2 = k + H.length / 2 + 1 := ⟨_, rfl⟩
  rw [← hk2] at CE ⊢
  clear hk2
  unfold valT at CV
  cases m
  · go_enter Tryd.func43, Tryd.ntmps43
    go_wp2_with (first | (go_at_call 60; ((with_reducible refine (CE).mono ?_); rintro e w1 ⟨rfl, r1, k1, o1⟩; have F := k1.kb; simp only [KB, CellsAt, Nat.zero_add, Nat.reduceAdd, and_true] at F)) | (go_at_call 62; ((with_reducible refine (CP _).mono ?_); rintro e w2 ⟨rfl, rfl⟩)) | (go_at_call 63; ((with_reducible refine (CV _).mono ?_); rintro e w3 ⟨rfl, b3⟩)))
    exact bodyPost_ret (results_tmp2 rfl _ _ _) rfl ⟨rfl, r1.below b3, (((Only.refl w [p]).then_below B0).trans (o1) (fun b hb => by simp at hb; rcases hb with rfl | rfl <;> simp)).then_below b3⟩
  · go_enter Tryd.func43, Tryd.ntmps43
    have HK2 := HK.out
    go_wp2_with (first | (go_at_call 60; ((with_reducible refine (CE).mono ?_); rintro e w1 ⟨rfl, r1, k1, o1⟩; have F := k1.kb; simp only [KB, CellsAt, Nat.zero_add, Nat.reduceAdd, and_true] at F)) | (go_at_call 62; ((with_reducible refine (CP _).mono ?_); rintro e w2 ⟨rfl, rfl⟩)) | (go_at_call 63; ((with_reducible refine (CV _).mono ?_); rintro e w3 ⟨rfl, b3⟩)))
    exact bodyPost_ret (results_tmp2 rfl _ _ _) rfl ⟨rfl, r1.below b3, (((Only.refl w [p]).then_below B0).trans (o1) (fun b hb => by simp at hb; rcases hb with rfl | rfl <;> simp)).then_below b3⟩
end Go.Proofs.YthoocoaalbeopaaDoor

namespace Go.Proofs.YthoocoaalbeopaaDoor
open Go.RowKit

theorem all_take_snoc (f : Int → Bool) (zs : List Int) (k : Nat) (h : k < zs.length) : (zs.take (k + 1)).all f = ((zs.take k).all f && f (zs.getD k 0)) := by
  rw [List.take_succ_eq_append_getElem h, List.all_append]; simp [List.getD, h]

theorem all_false_of_take (f : Int → Bool) (zs : List Int) (k : Nat) (h : (zs.take k).all f = false) : zs.all f = false := by
  have e := List.take_append_drop k zs
  rw [← e, List.all_append, h, Bool.false_and]

end Go.Proofs.YthoocoaalbeopaaDoor

namespace Go.Proofs.YthoocoaalbeopaaDoor
open Go.RowKit

theorem cells2 (w0 : World) (b : Nat) (hb : w0.heap.size = b) (x y : Int) (t : TypeId) (j : Nat) (hj : j < [x, y].length) :
    (w0.alloc (.cells #[.int .i64 x, .int .i64 y] t)).cell? ⟨b, 0 + j, none⟩ = some (.int .i64 ([x, y].getD j 0)) := by
  rw [World.cell?_alloc_at _ _ _ _ hb.symm]
  match j, hj with
  | 0, _ => rfl
  | 1, _ => rfl

theorem cells3 (w0 : World) (b : Nat) (hb : w0.heap.size = b) (x y z : Int) (t : TypeId) (j : Nat) (hj : j < [x, y, z].length) :
    (w0.alloc (.cells #[.int .i64 x, .int .i64 y, .int .i64 z] t)).cell? ⟨b, 0 + j, none⟩ = some (.int .i64 ([x, y, z].getD j 0)) := by
  rw [World.cell?_alloc_at _ _ _ _ hb.symm]
  match j, hj with
  | 0, _ => rfl
  | 1, _ => rfl
  | 2, _ => rfl

theorem all2 (x y : Int) : [x, y].all mayB = (mayB x && mayB y) := by simp
theorem all3 (x y z : Int) : [x, y, z].all mayB = (mayB x && mayB y && mayB z) := by simp [Bool.and_assoc]

/-- a result, if it may be -/
def outR (x : Int) : Int := if mayB x then x else 0
def outE (x : Int) : Int := if mayB x then 0 else 10

theorem mayB_lo {x : Int} (h : mayB x = true) : -2147483648 ≤ x := by unfold mayB at h; simp at h; exact h.1
theorem mayB_hi {x : Int} (h : mayB x = true) : x ≤ 2147483648 := by unfold mayB at h; simp at h; exact h.2

theorem below_next {w w1 w2 : World} (h : Below w.heap.size w w1) (g : Below w1.heap.size w1 w2) : Below w.heap.size w w2 := h.trans (g.mono h.size)
theorem below_a1 (w : World) (o : Obj) : Below w.heap.size w (w.alloc o) := (Below.refl _ _).alloc (Nat.le_refl _) o
theorem below_a2 (w : World) (o p : Obj) : Below w.heap.size w ((w.alloc o).alloc p) := (below_a1 w o).alloc (by simp) p
theorem below_a3 (w : World) (o p q : Obj) : Below w.heap.size w (((w.alloc o).alloc p).alloc q) := (below_a2 w o p).alloc (by simp; omega) q
theorem below_a4 (w : World) (o p q r : Obj) : Below w.heap.size w ((((w.alloc o).alloc p).alloc q).alloc r) := (below_a3 w o p q).alloc (by simp; omega) r
theorem below_a5 (w : World) (o p q r s : Obj) : Below w.heap.size w (((((w.alloc o).alloc p).alloc q).alloc r).alloc s) := (below_a4 w o p q r).alloc (by simp; omega) s

end Go.Proofs.YthoocoaalbeopaaDoor

namespace Go.Proofs.YthoocoaalbeopaaDoor
open Go Go.ChangeShapes Go.WideShapes Go.ChangeAt Go.RowKit
set_option linter.unusedVariables false
set_option linter.unusedSimpArgs false

/-- An entry: its operator and its operands. -/
abbrev Ent := Int × List Int
/-- A number that an int can be. -/
def In64 (x : Int) : Prop := -9223372036854775808 ≤ x ∧ x ≤ 9223372036854775807
/-- A list of entries, read: all lies below block B. -/
structure EntAt (w : World) (B : Nat) (A : Option Addr) (Es : List Ent) : Prop where
  at' : ∀ (i : Nat) (q : Ent), Es[i]? = some q → ∃ (b o : Nat) (Ai : Option Addr) (ci : Nat), A = some ⟨b, o, none⟩ ∧ b < B ∧ w.cell? ⟨b, o + i * 2, none⟩ = some (.int .i64 q.1) ∧ w.cell? ⟨b, o + i * 2 + 1, none⟩ = some (.slice Ai q.2.length ci) ∧ q.2.length ≤ ci ∧ Lists w B Ai (q.2.map (Value.int .i64))
theorem EntAt.below {w w1 : World} {B : Nat} {A : Option Addr} {Es : List Ent} (h : EntAt w B A Es) (hb : Below B w w1) : EntAt w1 B A Es :=
  ⟨fun i q hq => by
    obtain ⟨b, o, Ai, ci, h1, h2, h3, h4, h5, h6⟩ := h.at' i q hq
    exact ⟨b, o, Ai, ci, h1, h2, (hb.cell (p := ⟨b, o + i * 2, none⟩) h2).trans h3, (hb.cell (p := ⟨b, o + i * 2 + 1, none⟩) h2).trans h4, h5, h6.below hb⟩⟩
theorem EntAt.more {w : World} {B B1 : Nat} {A : Option Addr} {Es : List Ent} (h : EntAt w B A Es) (hB : B ≤ B1) : EntAt w B1 A Es :=
  ⟨fun i q hq => by
    obtain ⟨b, o, Ai, ci, h1, h2, h3, h4, h5, h6⟩ := h.at' i q hq
    exact ⟨b, o, Ai, ci, h1, Nat.lt_of_lt_of_le h2 hB, h3, h4, h5, h6.more hB⟩⟩
theorem in64_wf {z : Int} (h : (Lit.int .i64 z).wf = true) : In64 z := by
  simp [Lit.wf, IntKind.min, IntKind.max, IntKind.signed, IntKind.bits] at h
  unfold In64
  omega

theorem chooseE {α : Type} {p : Nat → α → Prop} : ∀ {n : Nat}, (∀ i, i < n → ∃ x, p i x) → ∃ L : List α, L.length = n ∧ ∀ i x, L[i]? = some x → p i x
  | 0, _ => ⟨[], rfl, fun i x h => by simp at h⟩
  | n + 1, h => by
    obtain ⟨L, h1, h2⟩ := chooseE (n := n) fun i hi => h i (by omega)
    obtain ⟨x, hx⟩ := h n (by omega)
    refine ⟨L ++ [x], by simp [h1], fun i y hy => ?_⟩
    rcases Nat.lt_or_ge i n with hi | hi
    · rw [List.getElem?_append_left (by omega)] at hy
      exact h2 i y hy
    · rw [List.getElem?_append_right (by omega)] at hy
      have h3 : i - L.length = 0 := by
        rcases Nat.eq_zero_or_pos (i - L.length) with h | h
        · exact h
        · rw [List.getElem?_eq_none (by simp; omega)] at hy; cases hy
      rw [h3] at hy
      cases hy
      rw [show i = n by omega]
      exact hx

section
variable {H : Type} {enc : TypeId × Value → H} {P : Program}
theorem open_ents {w : World} {t e s : TypeId} {f0 f1 : Field} {base : Nat} {spare : Nat → Bool} {held : Bool} {r : Reach} {b0 : Nat} {v : Value} {d : DataW H} {p : List MemPlace}
    (ht : P.underlying t = some (.slice e)) (he : P.underlying e = some (.struct #[f0, f1])) (hone : Deep.oneCellFields P #[f0, f1] = true) (hC : P.cellsOf e = 2)
    (i0 : P.underlying f0.type = some (.int .i64)) (i1 : P.underlying f1.type = some (.slice s)) (is : P.underlying s = some (.int .i64)) (hs1 : P.cellsOf s = 1) (hs8 : P.bytesOf s = 8)
    (hv : Value.okWide P w r b0 t v) (h : DataW.Trod enc P w base spare held t v d p) (hz : ∀ m ∈ d.weights P t, m ≤ reachBytes) :
    ∃ (A : Option Addr) (c : Nat) (Es : List Ent), v = .slice A Es.length c ∧ Es.length ≤ c ∧ c ≤ 9223372036854775807 ∧ EntAt w w.heap.size A Es ∧ ∀ q ∈ Es, q.2.length ≤ 17592186044416 ∧ In64 q.1 ∧ ∀ x ∈ q.2, In64 x := by
  obtain ⟨a0, len, cap, rfl⟩ := okWide_slice ht hv
  obtain ⟨fuel, hf⟩ := h
  rcases Deep.open_slice ht hf with ⟨hcs, _⟩ | ⟨a, len', cap', m, n, D, Pl, hcs, hb, hl, hm, hmm, hx, hi⟩
  · simp [Value.cells] at hcs
    obtain ⟨rfl, rfl, rfl⟩ := hcs
    exact ⟨none, 0, [], rfl, Nat.le_refl _, Nat.zero_le _, ⟨fun i q h => by simp at h⟩, fun q h => by simp at h⟩
  · simp [Value.cells] at hcs
    obtain ⟨rfl, rfl, rfl⟩ := hcs
    unfold maxLen at hm
    have hlm : len ≤ m := by split at hmm <;> omega
    obtain ⟨Es, hEl, hE⟩ := chooseE (n := len) (p := fun i (q : Ent) => (w.cell? (a.add (i * 2)) = some (.int .i64 q.1) ∧ ∃ Ai ci, w.cell? (a.add (i * 2 + 1)) = some (.slice Ai q.2.length ci) ∧ q.2.length ≤ ci ∧ Lists w w.heap.size Ai (q.2.map (Value.int .i64))) ∧ q.2.length ≤ 17592186044416 ∧ In64 q.1 ∧ ∀ x ∈ q.2, In64 x) fun i hil => by
      obtain ⟨cs', hc, ht'⟩ := hi i (by omega)
      rw [hC] at hc
      obtain ⟨ys, n', _, hy, _, hyl, hg⟩ := DataW.trod_struct he ht'
      obtain ⟨_, hcl, hat⟩ := World.cells?_some hc
      match cs', hcl with
      | [c0, c1], _ =>
        match ys, hyl with
        | [y0, y1], _ =>
          have k0 := one_of hone hg (j := 0) rfl rfl rfl
          have k1 := one_of hone hg (j := 1) rfl rfl rfl
          obtain ⟨z0, e0, _, wf0⟩ := DataW.trod_int i0 k0
          obtain ⟨Ai, ni, ci, zs, rfl, hzl, hzc, _, hL, hwf, hwz⟩ := open_nums i1 is hs1 k1
          simp only [List.cons.injEq, and_true] at e0
          subst e0 hzl
          have a0 : w.cell? (a.add (i * 2)) = some (.int .i64 z0) := by have := hat 0 (by omega); rw [Go.Deep.add_add] at this; exact this
          have a1 : w.cell? (a.add (i * 2 + 1)) = some (.slice Ai zs.length ci) := by have := hat 1 (by omega); rw [Go.Deep.add_add] at this; exact this
          refine ⟨(z0, zs), ⟨a0, Ai, ci, a1, hzc, hL⟩, ?_, in64_wf wf0, fun x hx => in64_wf (hwf x hx)⟩
          have := hwz reachBytes fun m' hm' => hz m' (by
            simp only [Prod.mk.injEq] at hx
            rw [hx.1]
            simp only [DataW.weights, ht]
            refine List.mem_cons_of_mem _ (List.mem_append_left _ (weights_all (d := .agg [y0.1, y1.1]) ?_ (List.mem_map.2 ⟨i, List.mem_range.2 hil, ?_⟩)))
            · simp only [DataW.weights, he, List.map, DataW.weightsEach]
              exact List.mem_append_right _ (List.mem_append_left _ hm')
            · exact congrArg Prod.fst hy)
          rw [hs8] at this
          have hr := reachBytes_lt
          show zs.length ≤ _
          omega
    refine ⟨some a, cap, Es, by rw [hEl], by omega, hm, ⟨fun i q hq => ?_⟩, fun q hq => ?_⟩
    · obtain ⟨⟨h1, Ai, ci, h2, h3, h4⟩, _⟩ := hE i q hq
      have hlt := cell_lt h1
      obtain ⟨b, o, sp⟩ := a
      have hs : sp = none := by
        have h0 : 0 < Es.length := by have := (List.getElem?_eq_some_iff.1 hq).1; omega
        obtain ⟨⟨h4, _⟩, _⟩ := hE 0 _ (List.getElem?_eq_getElem h0)
        simpa [Addr.add] using World.cell?_spot h4
      subst hs
      rw [addr_plain] at h1 hlt h2
      exact ⟨b, o, Ai, ci, rfl, hlt, h1, by rw [Nat.add_assoc]; exact h2, h3, h4⟩
    · obtain ⟨i, hi⟩ := List.mem_iff_getElem?.1 hq
      exact (hE i q hi).2
end

end Go.Proofs.YthoocoaalbeopaaDoor

namespace Go.Proofs.YthoocoaalbeopaaDoor
open Go Go.RowKit

/-- What bears whatever is laid later. -/
def Stays {β : Type} (I : β → World → Prop) : Prop := ∀ s W W', I s W → Below W.heap.size W W' → I s W'

theorem stays_own {β : Type} {B : Nat} {I : β → World → Prop} (h : OwnFrom B I) : Stays I := fun s W W' hs hb =>
  h s W W' none hs ⟨hb.os, hb.tape, hb.output, hb.size, fun k hk _ => hb.block k hk⟩ (fun r e => by cases e)

/-- An iterator's word: wherever it yields x, behind those of pre, C pre x holds of the memory. -/
def SeqC {α : Type} (F : Fence) (n : Nat) (P : Program) (g : Nat) (lb : Array Value) (encs : α → Array Value) (C : List α → α → World → Prop) (Kp : World → World → Prop)
    (S Sp : List α → Prop) (w : World) : Prop :=
  ∀ (l : Nat) (J Jx : List α → World → Prop) (W : World), Below w.heap.size w W → Stays J → Stays Jx →
    (∀ pre x V, J pre V → C pre x V → YieldAt F (n - 1) P l (encs x) V fun e V' =>
      (e = .returned (.bool true) ∧ J (pre ++ [x]) V' ∧ Kp V V') ∨ (e = .returned (.bool false) ∧ Jx (pre ++ [x]) V')) →
    J [] W →
    CallsIn F n P g (#[.func (.yield l) #[] #[]] ++ lb) W fun e V => (∃ v, e = .returned v) ∧ ((∃ xs, S xs ∧ J xs V) ∨ (∃ pre, Sp pre ∧ Jx pre V))

/-- The two blocks of a loop's own, as they lie between its rounds. -/
structure Books (B : Nat) (r : Loop) (W : World) : Prop where
  marks : W.heap[B]? = some (.deferred (some []))
  record : W.heap[B + 1]? = some (.loop r)

theorem Books.lt {B : Nat} {r : Loop} {W : World} (h : Books B r W) : B + 1 < W.heap.size := (Array.getElem?_eq_some_iff.1 h.record).1
theorem Books.below {B : Nat} {r : Loop} {W V : World} (h : Books B r W) (hb : Below W.heap.size W V) : Books B r V :=
  ⟨(hb.block _ (by have := h.lt; omega)).trans h.marks, (hb.block _ h.lt).trans h.record⟩
theorem Books.put {B : Nat} {r : Loop} {W : World} (h : Books B r W) (r' : Loop) : Books B r' (W.putObj (B + 1) (.loop r')) :=
  ⟨(World.putObj_heap_other (by omega)).trans h.marks, World.putObj_heap_same h.lt⟩
theorem Books.others {B : Nat} {r : Loop} {W V : World} (h : Books B r W) (hk : KeepsOthers W V) : Books B r V :=
  ⟨hk.same _ _ h.marks rfl, hk.same _ _ h.record rfl⟩
theorem OwnFrom.book {β : Type} {B : Nat} {I : β → World → Prop} (h : OwnFrom B I) {s : β} {W : World} {r : Loop} (hb : Books B r W) (hs : I s W) (r' : Loop) : I s (W.putObj (B + 1) (.loop r')) :=
  h.putObj _ hs (by omega) hb.record rfl

variable {F : Fence} {n : Nat} {P : Program}

/-- How a body may end, by the jump that it leaves behind (none: the loop goes on). -/
def outC {α : Type} (Kp : World → World → Prop) (I : List α → World → Prop) (Ix : Code → List α → World → Prop) (xs : List α) (W : World) : Exit → Act → World → Prop
  | .normal, _, V => KeepsOthers W V ∧ Kp W V ∧ I xs V
  | .ret, _, V => KeepsOthers W V ∧ Ix .ret xs V
  | .exit id, _, V => KeepsOthers W V ∧ Ix (.exit id) xs V
  | _, _, _ => False

theorem wpIn_rangeC {α : Type} {g : Operand} {ps : Array Tmp} {assign body : Code} {Q : Exit → Act → World → Prop} {a : Act} {w : World}
    (hro : F.round = none) (h1 : 1 ≤ n) {gf : Nat} {lb : Array Value} (hg : a.eval g = .func (.func gf) #[] lb) (hFg : F.fn gf) (eg : ∀ args w, (callFunc gf args).run P w = .ok (.enter gf args) w)
    {encs : α → Array Value} {C : List α → α → World → Prop} {Kp : World → World → Prop} {S Sp : List α → Prop} {w0 : World} (hseq : SeqC F (n - 1) P gf lb encs C Kp S Sp w0)
    (hKt : ∀ {X Y Z : World}, Kp X Y → Kp Y Z → Kp X Z)
    (hKb : ∀ (W : World) (l : Nat) (o o' : Obj), w.heap.size ≤ l → W.heap[l]? = some o → o.isCells = false → o.isWalk = false → Kp W (W.putObj l o'))
    (hb0 : Below w0.heap.size w0 w) (hps : ∀ x, (encs x).size = ps.size) (hC : ∀ pre, OwnFrom w.heap.size (C pre))
    (I : List α → World → Prop) (Ix : Code → List α → World → Prop) (hI : OwnFrom w.heap.size I) (hIx : ∀ c, OwnFrom w.heap.size (Ix c)) (h0 : I [] w) (a₁ : α → Act)
    (hassign : ∀ (l : Nat) (x : α) (W : World) (K : Act → World → Prop), K (a₁ x) W →
      assign.wpIn (F.inRound l) (n - 1 - 1) P (Exit.then K (fun _ _ _ => False)) { tmps := (ps.zip (encs x)).foldl (fun t (p, v) => t.setIfInBounds p v) a.tmps, defers := [] } W)
    (hbody : ∀ (l : Nat) (pre : List α) (x : α) (W : World), I pre W → C pre x W → body.wpIn (F.inRound l) (n - 1 - 1) P (outC Kp I Ix (pre ++ [x]) W) (a₁ x) W)
    (hdone : ∀ (D : Nat) (xs : List α) (W : World), w.heap.size ≤ D → S xs → I xs W → W.heap[D]? = some (.deferred (some [])) →
      Q .normal { a with defers := { target := .collected D, args := #[] } :: a.defers } W)
    (hstop : ∀ (D : Nat) (c : Code) (pre : List α) (W : World), w.heap.size ≤ D → Sp pre → Ix c pre W → W.heap[D]? = some (.deferred (some [])) →
      c.wpIn F n P Q { a with defers := { target := .collected D, args := #[] } :: a.defers } W) :
    (Code.rangeFunc g ps assign body).wpIn F n P Q a w := by
  refine wpIn_rangeFunc fun fn hfn => ?_
  obtain ⟨r, hr⟩ : ∃ r : LoopState → Option Code → Loop, r = fun st pe => { state := st, pending := pe, fn, tmps := a.tmps, params := ps, assign, body, defers := w.heap.size } := ⟨_, rfl⟩
  have bk : Books w.heap.size (r .ready none) ((w.alloc (.deferred (some []))).alloc (.loop (r .ready none))) :=
    ⟨(Below.heap_alloc _ _ _ (by simp)).trans (World.alloc_heap_new w _), by
      have := World.alloc_heap_new (w.alloc (.deferred (some []))) (.loop (r .ready none)); rwa [World.size_alloc] at this⟩
  have ent := run_enterLoop_outer (P := P) (w := w) fn a.tmps ps assign body
  rw [show (Loop.mk .ready none fn a.tmps ps assign body w.heap.size) = r .ready none by rw [hr]] at ent
  have i0 : I [] ((w.alloc (.deferred (some []))).alloc (.loop (r .ready none))) := hI.alloc _ (hI.alloc _ h0)
  have b1 : Below w0.heap.size w0 ((w.alloc (.deferred (some []))).alloc (.loop (r .ready none))) :=
    (hb0.alloc hb0.size _).alloc (by have := hb0.size; simp; omega) _
  generalize (w.alloc (.deferred (some []))).alloc (.loop (r .ready none)) = W1 at *
  rw [hro]
  refine ⟨_, _, W1, { target := .fn (.func gf) lb, args := #[.func (.yield (w.heap.size + 1)) #[] #[]] }, W1, gf, #[.func (.yield (w.heap.size + 1)) #[] #[]] ++ lb, W1,
    ent, ?_, ?_, ?_, fun _ => h1, ?_⟩
  · simp only [resolve, hg]
    simp [go_sem]
  · intro f' hf'; simp [Target.leads] at hf'; subst hf'; exact hFg
  · simp [invoke, go_sem, eg]
  refine (hseq (w.heap.size + 1) (fun pre W => I pre W ∧ Books w.heap.size (r .ready none) W) (fun pre W => ∃ c, Ix c pre W ∧ Books w.heap.size (r .done (some c)) W) W1 b1
    (fun s W V h hb => ⟨stays_own hI s W V h.1 hb, h.2.below hb⟩)
    (fun s W V h hb => by obtain ⟨c, hc, hk⟩ := h; exact ⟨c, stays_own (hIx c) s W V hc hb, hk.below hb⟩)
    ?round ⟨i0, bk⟩).mono ?behind
  case round =>
    rintro pre x V ⟨hi, hk⟩ hc
    have y := run_yield (P := P) (args := encs x) hk.record (by rw [hr]; exact hps x)
    have bg := run_beginRound (P := P) hk.record (by rw [hr])
    obtain ⟨rb, hrb⟩ : ∃ rb, rb = { r .ready none with state := .busy } := ⟨_, rfl⟩
    rw [← hrb] at bg
    have hkb := hk.put rb
    have kp1 : Kp V (V.putObj (w.heap.size + 1) (.loop rb)) := hKb _ _ _ _ (by omega) hk.record rfl rfl
    have fin : ∀ (jump : Option Code) (V' : World), Books w.heap.size rb V' →
        (Instr.endRound (w.heap.size + 1) jump).run P V' = .ok (.bool jump.isNone) (V'.putObj (w.heap.size + 1) (.loop (r (if jump.isNone then .ready else .done) jump))) := fun jump V' h => by
      rw [run_endRound (P := P) jump h.record, hrb, hr]
    rw [hr] at y
    refine ⟨fn, _, assign, body, y, roundIn_of_wpIn hfn (hassign _ x V _ ⟨_, bg, ?_⟩)⟩
    refine wpIn_mono (hbody _ pre x _ (OwnFrom.book hI hk hi rb) (OwnFrom.book (hC pre) hk hc rb)) ?_
    rintro e a3 V' h
    cases e with
    | normal =>
      obtain ⟨h1, h2, h3⟩ := h
      have hk' := hkb.others h1
      exact ⟨_, _, fin none V' hk', .inl ⟨rfl, ⟨OwnFrom.book hI hk' h3 _, hk'.put _⟩, hKt (hKt kp1 h2) (hKb _ _ _ _ (by omega) hk'.record rfl rfl)⟩⟩
    | ret =>
      obtain ⟨h1, h3⟩ := h
      have hk' := hkb.others h1
      exact ⟨_, _, fin (some .ret) V' hk', .inr ⟨rfl, .ret, OwnFrom.book (hIx _) hk' h3 _, hk'.put _⟩⟩
    | exit id =>
      obtain ⟨h1, h3⟩ := h
      have hk' := hkb.others h1
      exact ⟨_, _, fin (some (.exit id)) V' hk', .inr ⟨rfl, .exit id, OwnFrom.book (hIx _) hk' h3 _, hk'.put _⟩⟩
    | goto t => exact h.elim
    | panic ch => exact h.elim
    | outgrown => exact h.elim
  case behind =>
    rintro e V ⟨⟨v, rfl⟩, (⟨xs, hS, hi, hk⟩ | ⟨pre, hSp, c, hi, hk⟩)⟩
    · have en := run_endLoop (P := P) hk.record (by rw [hr]; simp)
      exact ⟨_, _, en, by rw [show (r .ready none).pending = none by rw [hr]]; exact hdone _ xs _ (Nat.le_refl _) hS (OwnFrom.book hI hk hi _) (hk.put _).marks⟩
    · have en := run_endLoop (P := P) hk.record (by rw [hr]; simp)
      exact ⟨_, _, en, by rw [show (r .done (some c)).pending = some c by rw [hr]]; exact hstop _ c pre _ (Nat.le_refl _) hSp (OwnFrom.book (hIx c) hk hi _) (hk.put _).marks⟩
end Go.Proofs.YthoocoaalbeopaaDoor

namespace Go.Proofs.YthoocoaalbeopaaDoor
open Go Go.RowKit Go.Shelf
set_option linter.unusedVariables false
set_option linter.unusedSimpArgs false

abbrev GotE := Nat × Int × Value
/-- What a round is handed: a place, counted from the end, and the entry there. -/
def CBk (w0 : World) (N : Nat) (Es : List Ent) (pre : List GotE) (x : GotE) : Prop :=
  x.1 + pre.length + 1 = N ∧ ∃ (q : Ent) (Ai : Option Addr) (ci : Nat), Es[x.1]? = some q ∧ x.2.1 = q.1 ∧ x.2.2 = .slice Ai q.2.length ci ∧ q.2.length ≤ ci ∧ Lists w0 w0.heap.size Ai (q.2.map (Value.int .i64))
attribute [local go_sem] Oper.semAt_some
set_option maxRecDepth 100000 in
set_option maxHeartbeats 1000000 in
theorem back_stops (Bx N c : Nat) (A : Option Addr) (Es : List Ent) (wE w0 : World) (hWE : Below wE.heap.size wE w0) (hK : Blk w0 Bx 24 #[.slice A N c]) (hE : EntAt wE wE.heap.size A Es) (hN : Es.length = N) (hn : N ≤ 1000000000000) :
    SeqC Fence.wide 2 Tryd.prog 69 #[.pointer (some ⟨Bx, 0, none⟩)] (fun x : GotE => #[.int .i64 x.1, .agg #[.int .i64 x.2.1, x.2.2]]) (fun pre x _ => CBk wE N Es pre x) (Below w0.heap.size) (fun xs => xs.length = N) (fun _ => True) w0 := by
  intro l J Jx W hW hJ hJx hY h0
  have HK := Lib.hid (show ∀ V, Below w0.heap.size W V → V.cell? ⟨Bx, 0, none⟩ = some (.slice A N c) ∧ Bx < V.heap.size from fun V hV =>
    ⟨((hW.trans hV).cell (p := ⟨Bx, 0, none⟩) hK.lt).trans (hK.cell 0), by have := (hW.trans hV).size; have := hK.lt; omega⟩)
  have HE := Lib.hid hE
  have HN := Lib.hid hN
  have HW := Lib.hid (hWE.trans (hW.mono hWE.size))
  have HWL := Lib.hid hWE.size
  obtain ⟨c0, l0⟩ := HK.out W (Below.refl _ _)
  have e0 : IntKind.i64.wrap ((N : Int) - 1) = (N : Int) - 1 := IntWalk.i64_in _ (by omega)
  clear hK hE hN hW
  refine callsIn_of_wp Tryd.func69 rfl trivial ?_ rfl
  simp only [Tryd.ntmps69, List.size_toArray, List.length_cons, List.length_nil, Nat.reduceAdd, Nat.reduceSub, Array.replicate_succ, Array.replicate_zero, List.push_toArray, List.append_toArray, List.nil_append, List.cons_append]
  gi_wp2
  gi_loopw [3] (fun i wr => ∃ (pre : List GotE) (j : Int), j + 1 + pre.length = N ∧ 0 ≤ j + 1 ∧ i = .int .i64 j ∧ J pre wr ∧ Below w0.heap.size W wr) (fun i _ => (intOf i + 1).toNat)
  case atStart => exact ⟨[], (N : Int) - 1, by simp, by omega, by simp, h0, Below.refl _ _⟩
  case round =>
    obtain ⟨pre, j, hj, hj0, rfl, hJk, hb⟩ := hrel
    clear h0 c0 l0 e0
    obtain ⟨c1, l1⟩ := HK.out wr hb
    by_cases hlt : 0 ≤ j
    · obtain ⟨i, rfl⟩ : ∃ i : Nat, j = (i : Int) := ⟨j.toNat, by omega⟩
      obtain ⟨q, hq⟩ : ∃ q, Es[i]? = some q := ⟨_, List.getElem?_eq_getElem (by have := HN.out; omega)⟩
      obtain ⟨b, o, Ai, ci, rfl, hbl, f0, f1, hci, hli⟩ := HE.out.at' i q hq
      have hb2 := HW.out.trans (hb.mono HWL.out)
      have f0 := (hb2.cell (p := ⟨b, o + i * 2, none⟩) hbl).trans f0
      have f1 := (hb2.cell (p := ⟨b, o + i * 2 + 1, none⟩) hbl).trans f1
      have fl : b < wr.heap.size := by have := hb2.size; omega
      have hC : CBk wE N Es pre (i, q.1, .slice Ai q.2.length ci) := ⟨by show i + pre.length + 1 = N; omega, q, Ai, ci, hq, rfl, rfl, hci, hli⟩
      have d1 : i < N := by omega
      have hYY := hY pre (i, q.1, .slice Ai q.2.length ci)
      have HC := Lib.hid hC
      have HJ := Lib.hid hj
      have eN : IntKind.i64.wrap ((i : Int) - 1) = (i : Int) - 1 := IntWalk.i64_in _ (by omega)
      clear hC hY hq hli hci hj
      dsimp only at hYY
      generalize q.2.length = m at *
      generalize q.1 = qo at *
      obtain ⟨fn, tmps, assign, body, hy, hRd⟩ := hYY wr hJk HC.out
      clear hYY
      gi_wp2
      refine hRd.mono ?_
      rintro e V (⟨rfl, hJ3, lv⟩ | ⟨rfl, hJx3⟩)
      · gi_wp2
        go_roundw
        case rel => exact ⟨_, (i : Int) - 1, by rw [List.length_append]; have := HJ.out; simp; omega, by omega, rfl, hJ3, hb.trans lv⟩
        case measure => simp [intOf]
      · gi_wp2
        refine bodyPost_ret (results_none rfl _ _ _) rfl ?_
        exact ⟨⟨_, rfl⟩, .inr ⟨_, trivial, hJx3⟩⟩
    · have hz : j = -1 := by omega
      subst hz
      gi_wp2
      go_end0
      exact ⟨⟨_, rfl⟩, .inl ⟨pre, by omega, hJk⟩⟩
theorem back_any (A : Option Addr) (N c : Nat) (w : World) : Calls Tryd.prog 58 #[.slice A N c] w fun e w' => e = .returned (.func (.func 69) #[] #[.pointer (some ⟨w.heap.size, 0, none⟩)]) ∧ w' = w.alloc (.cells #[.slice A N c] 24) := by
  go_enter Tryd.func58, Tryd.ntmps58
  go_wp2
  go_ret
  exact ⟨rfl, rfl⟩
/-- The operands of the last entry with that operator. -/
def lastE : List Ent → Int → Option (List Int)
  | [], _ => none
  | q :: Es, op => match lastE Es op with
    | some L => some L
    | none => if q.1 = op then some q.2 else none
theorem lastE_none {op : Int} : ∀ {Es : List Ent}, (∀ (i : Nat) (q : Ent), Es[i]? = some q → q.1 ≠ op) → lastE Es op = none
  | [], _ => rfl
  | q :: Es, h => by
    have h1 : lastE Es op = none := lastE_none fun i p hp => h (i + 1) p (by simpa using hp)
    have h2 := h 0 q rfl
    unfold lastE
    rw [h1]
    simp [h2]
theorem lastE_at {op : Int} : ∀ {Es : List Ent} {i : Nat} {q : Ent}, Es[i]? = some q → q.1 = op → (∀ (j : Nat) (p : Ent), i < j → Es[j]? = some p → p.1 ≠ op) → lastE Es op = some q.2
  | p :: Es, 0, q, h, hq, hn => by
    have h1 : lastE Es op = none := lastE_none fun i p hp => hn (i + 1) p (by omega) (by simpa using hp)
    simp at h
    subst h
    unfold lastE
    rw [h1]
    simp [hq]
  | p :: Es, i + 1, q, h, hq, hn => by
    have h1 : lastE Es op = some q.2 := lastE_at (i := i) (by simpa using h) hq fun j p hj hp => hn (j + 1) p (by omega) (by simpa using hp)
    unfold lastE
    rw [h1]
end Go.Proofs.YthoocoaalbeopaaDoor
