/- Part 3 of the proof: CvW, CvB, CvX. -/
import Derived.Test.YtngfillgndhfbaaCCv1

namespace Go.Proofs.Ytngfillgndhfbaa
open Go Go.RowKit
set_option linter.unusedVariables false
set_option linter.unusedSimpArgs false


abbrev W4 := Int × Int × Int × Int
def stp (k i : Int) (w : W4) : W4 := (w.1 * k, w.2.1 * k + w.1 * i, w.2.2.1 * k + w.2.1 * i, w.2.2.2 * k + w.2.2.1 * i)
def wts (k i : Int) : Nat → W4
  | 0 => (1, 0, 0, 0)
  | t + 1 => stp k i (wts k i t)
def w4L (w : W4) : Array Value := #[.int .i64 w.1, .int .i64 w.2.1, .int .i64 w.2.2.1, .int .i64 w.2.2.2]
def W4le (w : W4) (B : Int) : Prop := (0 ≤ w.1 ∧ w.1 ≤ B) ∧ (0 ≤ w.2.1 ∧ w.2.1 ≤ B) ∧ (0 ≤ w.2.2.1 ∧ w.2.2.1 ≤ B) ∧ (0 ≤ w.2.2.2 ∧ w.2.2.2 ≤ B)
theorem mul_in {a B k : Int} (h : 0 ≤ a ∧ a ≤ B) (h0 : 0 ≤ k) (h1 : k ≤ 512) : 0 ≤ a * k ∧ a * k ≤ B * 512 := ⟨Int.mul_nonneg h.1 h0, Int.mul_le_mul h.2 h1 h0 (by omega)⟩
theorem stp_le {k i B : Int} {w : W4} (h : W4le w B) (k0 : 0 ≤ k) (k1 : k ≤ 512) (i0 : 0 ≤ i) (i1 : i ≤ 512) : W4le (stp k i w) (1024 * B) := by
  obtain ⟨h1, h2, h3, h4⟩ := h
  have a1 := mul_in h1 k0 k1
  have a2 := mul_in h2 k0 k1
  have a3 := mul_in h3 k0 k1
  have a4 := mul_in h4 k0 k1
  have b1 := mul_in h1 i0 i1
  have b2 := mul_in h2 i0 i1
  have b3 := mul_in h3 i0 i1
  unfold stp W4le
  dsimp only
  omega
theorem wts_le {k i : Int} (k0 : 0 ≤ k) (k1 : k ≤ 512) (i0 : 0 ≤ i) (i1 : i ≤ 512) : ∀ t : Nat, t ≤ 3 → W4le (wts k i t) 1073741824 := by
  have h0 : W4le (wts k i 0) 1 := by unfold wts W4le; simp
  have h1 := stp_le h0 k0 k1 i0 i1
  have h2 := stp_le h1 k0 k1 i0 i1
  have h3 := stp_le h2 k0 k1 i0 i1
  intro t ht
  have hs : ∀ {v : W4} {B : Int}, W4le v B → B ≤ 1073741824 → W4le v 1073741824 := fun h g => by unfold W4le at *; omega
  match t, ht with
  | 0, _ => exact hs h0 (by omega)
  | 1, _ => exact hs h1 (by omega)
  | 2, _ => exact hs h2 (by omega)
  | 3, _ => exact hs h3 (by omega)
theorem wInfo : (Try.prog.info? 49).map (·.size) = some 4 := by kernel_rfl
theorem idxW0 (a b c d : Value) (w : World) : (Instr.index 49 (.agg #[a, b, c, d]) (.int .i64 0)).run Try.prog w = .ok a w := rfl
theorem idxW1 (a b c d : Value) (w : World) : (Instr.index 49 (.agg #[a, b, c, d]) (.int .i64 1)).run Try.prog w = .ok b w := rfl
theorem idxW2 (a b c d : Value) (w : World) : (Instr.index 49 (.agg #[a, b, c, d]) (.int .i64 2)).run Try.prog w = .ok c w := rfl
theorem idxW3 (a b c d : Value) (w : World) : (Instr.index 49 (.agg #[a, b, c, d]) (.int .i64 3)).run Try.prog w = .ok d w := rfl
set_option maxRecDepth 100000 in
set_option maxHeartbeats 4000000 in
theorem weights_any (deg : Nat) (i n : Int) (w : World) (hd : deg ≤ 3) (i0 : 0 ≤ i) (hin : i ≤ n) (hn : n ≤ 512) :
    Calls Try.prog 36 #[.int .i64 deg, .int .i64 i, .int .i64 n] w fun e w' => e = .returned (.agg (w4L (wts (n - i) i deg))) ∧ Below w.heap.size w w' := by
  have HL := Lib.hid (wts_le (k := n - i) (i := i) (by omega) (by omega) i0 (by omega))
  have K1 := Blk.new w 49 #[.int .i64 0, .int .i64 0, .int .i64 0, .int .i64 0]
  have K2 := Blk.new (w.alloc (.cells #[.int .i64 0, .int .i64 0, .int .i64 0, .int .i64 0] 49)) 49 #[.int .i64 1, .int .i64 0, .int .i64 0, .int .i64 0]
  rw [World.size_alloc] at K2
  have HZ0 := Lib.hid (K1.below (below_a1 _ (.cells #[.int .i64 1, .int .i64 0, .int .i64 0, .int .i64 0] 49)))
  have HK0 := Lib.hid K2
  have ek : IntKind.i64.wrap (n - i) = n - i := IntWalk.i64_in _ (by omega)
  obtain ⟨kk, hkk⟩ : ∃ kk, kk = n - i := ⟨_, rfl⟩
  have k0 : 0 ≤ kk := by omega
  have k1 : kk ≤ 512 := by omega
  have i1 : i ≤ 512 := by omega
  rw [← hkk] at HL ek ⊢
  have HKK := Lib.hid hkk
  clear K1 K2 hkk
  have ek2 : n - i = kk := HKK.out.symm
  have HE := Lib.hid ek2
  clear ek2
  go_enter Try.func36, Try.ntmps36
  go_wp2
  go_loopw [13] (fun j wr => ∃ t : Nat, t ≤ deg ∧ j = .int .i64 t ∧ Below w.heap.size w wr ∧ Blk wr w.heap.size 49 #[.int .i64 0, .int .i64 0, .int .i64 0, .int .i64 0] ∧ Blk wr (w.heap.size + 1) 49 (w4L (wts kk i t))) (fun j _ => deg - (intOf j).toNat)
  case atStart => exact ⟨0, Nat.zero_le _, rfl, below_a2 _ _ _, HZ0.out, HK0.out⟩
  case round =>
  obtain ⟨t, ht, rfl, hb, hz, K⟩ := hrel
  have HB := Lib.hid hb
  have HZ := Lib.hid hz
  clear hb hz
  by_cases hlt : t < deg
  · have d1 : decide ((t : Int) < (deg : Int)) = true := by simp; omega
    have hle := HL.out t (by omega)
    have HT := Lib.hid (show wts kk i (t + 1) = stp kk i (wts kk i t) from rfl)
    generalize wts kk i t = v at *
    obtain ⟨a, b, c, d⟩ := v
    unfold W4le at hle
    dsimp only at hle
    obtain ⟨ha, hb, hc, hdd⟩ := hle
    have a1 := mul_in ha k0 k1
    have a2 := mul_in hb k0 k1
    have a3 := mul_in hc k0 k1
    have a4 := mul_in hdd k0 k1
    have b1 := mul_in ha i0 i1
    have b2 := mul_in hb i0 i1
    have b3 := mul_in hc i0 i1
    obtain ⟨a11, a12⟩ := a1
    obtain ⟨a21, a22⟩ := a2
    obtain ⟨a31, a32⟩ := a3
    obtain ⟨a41, a42⟩ := a4
    obtain ⟨b11, b12⟩ := b1
    obtain ⟨b21, b22⟩ := b2
    obtain ⟨b31, b32⟩ := b3
    have X0 := idxW0 (.int .i64 a) (.int .i64 b) (.int .i64 c) (.int .i64 d)
    have X1 := idxW1 (.int .i64 a) (.int .i64 b) (.int .i64 c) (.int .i64 d)
    have X2 := idxW2 (.int .i64 a) (.int .i64 b) (.int .i64 c) (.int .i64 d)
    have X3 := idxW3 (.int .i64 a) (.int .i64 b) (.int .i64 c) (.int .i64 d)
    have HK := Lib.hid K
    clear K
    have HI := Lib.hid (show n - i = kk from HE.out)
    go_wp2_with (first | (refine wpList_load_row rfl 49 (.tmp 7) (by with_reducible rfl) (w.heap.size + 1) (by rfl) 49 #[.int .i64 a, .int .i64 b, .int .i64 c, .int .i64 d] (0, 0) _ (by exact HK.out) Try.underlying49 rfl wInfo ?_))
    go_loopw [8, 16] (fun ah jj wq => Below w.heap.size w wq ∧ Blk wq w.heap.size 49 #[.int .i64 0, .int .i64 0, .int .i64 0, .int .i64 0] ∧ ((ah = .int .i64 0 ∧ jj = .int .i64 0 ∧ Blk wq (w.heap.size + 1) 49 #[.int .i64 a, .int .i64 b, .int .i64 c, .int .i64 d]) ∨ (ah = .int .i64 a ∧ jj = .int .i64 1 ∧ Blk wq (w.heap.size + 1) 49 #[.int .i64 (a * kk), .int .i64 b, .int .i64 c, .int .i64 d]) ∨ (ah = .int .i64 b ∧ jj = .int .i64 2 ∧ Blk wq (w.heap.size + 1) 49 #[.int .i64 (a * kk), .int .i64 (b * kk + a * i), .int .i64 c, .int .i64 d]) ∨ (ah = .int .i64 c ∧ jj = .int .i64 3 ∧ Blk wq (w.heap.size + 1) 49 #[.int .i64 (a * kk), .int .i64 (b * kk + a * i), .int .i64 (c * kk + b * i), .int .i64 d]) ∨ (ah = .int .i64 d ∧ jj = .int .i64 4 ∧ Blk wq (w.heap.size + 1) 49 #[.int .i64 (a * kk), .int .i64 (b * kk + a * i), .int .i64 (c * kk + b * i), .int .i64 (d * kk + c * i)]))) (fun _ j _ => 4 - (intOf j).toNat)
    case atStart => exact ⟨HB.out, HZ.out, .inl ⟨rfl, rfl, HK.out⟩⟩
    case round =>
      obtain ⟨hb2, hz2, hst⟩ := hrel
      have HB2 := Lib.hid hb2
      have HZ2 := Lib.hid hz2
      clear hb2 hz2 HK
      have ek2 : n - i = kk := HE.out
      rcases hst with ⟨rfl, rfl, K⟩ | ⟨rfl, rfl, K⟩ | ⟨rfl, rfl, K⟩ | ⟨rfl, rfl, K⟩ | ⟨rfl, rfl, K⟩
      · have c0 := K.cell 0
        have f0 := K.frozen 0
        have hl := K.lt
        simp only [List.getElem?_toArray, List.getElem?_cons_succ, List.getElem?_cons_zero] at c0
        have HK := Lib.hid K
        clear K
        go_wp2
        go_roundw
        case rel => exact ⟨HB2.out.setCell (p := ⟨w.heap.size + 1, 0, none⟩) (by simp) _, HZ2.out.other (q := ⟨w.heap.size + 1, 0, none⟩) (by simp) _, .inr (.inl ⟨rfl, rfl, HK.out.set 0 _⟩)⟩
        case measure => simp [intOf]
      · have c1 := K.cell 1
        have f1 := K.frozen 1
        have hl := K.lt
        simp only [List.getElem?_toArray, List.getElem?_cons_succ, List.getElem?_cons_zero] at c1
        have HK := Lib.hid K
        clear K
        go_wp2
        go_roundw
        case rel => exact ⟨HB2.out.setCell (p := ⟨w.heap.size + 1, 1, none⟩) (by simp) _, HZ2.out.other (q := ⟨w.heap.size + 1, 1, none⟩) (by simp) _, .inr (.inr (.inl ⟨rfl, rfl, HK.out.set 1 _⟩))⟩
        case measure => simp [intOf]
      · have c2 := K.cell 2
        have f2 := K.frozen 2
        have hl := K.lt
        simp only [List.getElem?_toArray, List.getElem?_cons_succ, List.getElem?_cons_zero] at c2
        have HK := Lib.hid K
        clear K
        go_wp2
        go_roundw
        case rel => exact ⟨HB2.out.setCell (p := ⟨w.heap.size + 1, 2, none⟩) (by simp) _, HZ2.out.other (q := ⟨w.heap.size + 1, 2, none⟩) (by simp) _, .inr (.inr (.inr (.inl ⟨rfl, rfl, HK.out.set 2 _⟩)))⟩
        case measure => simp [intOf]
      · have c3 := K.cell 3
        have f3 := K.frozen 3
        have hl := K.lt
        simp only [List.getElem?_toArray, List.getElem?_cons_succ, List.getElem?_cons_zero] at c3
        have HK := Lib.hid K
        clear K
        go_wp2
        go_roundw
        case rel => exact ⟨HB2.out.setCell (p := ⟨w.heap.size + 1, 3, none⟩) (by simp) _, HZ2.out.other (q := ⟨w.heap.size + 1, 3, none⟩) (by simp) _, .inr (.inr (.inr (.inr (⟨rfl, rfl, HK.out.set 3 _⟩))))⟩
        case measure => simp [intOf]
      · have HK := Lib.hid K
        clear K
        go_wp2
        go_roundw
        case rel => exact ⟨t + 1, by omega, by go_num, HB2.out, HZ2.out, by rw [HT.out]; exact HK.out⟩
        case measure => simp [intOf]; omega
  · have d1 : decide ((t : Int) < (deg : Int)) = false := by simp; omega
    obtain rfl : t = deg := by omega
    have HK := Lib.hid K
    clear K
    generalize hv : wts kk i t = v at *
    obtain ⟨a, b, c, d⟩ := v
    have HV := Lib.hid hv
    clear hv
    go_wp2_with (first | (refine wpList_load_row rfl 49 (.tmp 7) (by with_reducible rfl) (w.heap.size + 1) (by rfl) 49 #[.int .i64 a, .int .i64 b, .int .i64 c, .int .i64 d] (0, 0) _ (by exact HK.out) Try.underlying49 rfl wInfo ?_) | (refine wpList_store_row rfl 49 (.tmp 6) (.tmp 34) (by with_reducible rfl) w.heap.size #[.int .i64 a, .int .i64 b, .int .i64 c, .int .i64 d] (by rfl) (by rfl) 49 #[.int .i64 0, .int .i64 0, .int .i64 0, .int .i64 0] (by exact HZ.out) wInfo rfl (by simp [Value.oneCell']) ?_))
    exact bodyPost_ret (results_cell_row Try.results36 _ _ w.heap.size 49 #[.int .i64 a, .int .i64 b, .int .i64 c, .int .i64 d] (0, 0) _ (by rfl) (show Blk _ _ _ _ from blk_row HZ.out _) Try.underlying49 rfl wInfo) rfl ⟨by rw [HV.out]; rfl, below_setRow HB.out (Nat.le_refl _) _⟩
end Go.Proofs.Ytngfillgndhfbaa

namespace Go.Proofs.Ytngfillgndhfbaa
open Go Go.RowKit
set_option linter.unusedVariables false
set_option linter.unusedSimpArgs false

set_option maxRecDepth 100000 in
theorem rowD1 (xa ya xd yd : Int) (w : World) : (Instr.buildSlice 40 2 #[(0, .agg #[.int .i64 xa, .int .i64 ya]), (1, .agg #[.int .i64 xd, .int .i64 yd])]).run Try.prog w = .ok (.slice (some ⟨w.heap.size, 0, none⟩) 2 2) (w.alloc (.cells #[.int .i64 xa, .int .i64 ya, .int .i64 xd, .int .i64 yd] 23)) := by
  go_simp
set_option maxRecDepth 100000 in
theorem rowD2 (xa ya xb yb xd yd : Int) (w : World) : (Instr.buildSlice 40 3 #[(0, .agg #[.int .i64 xa, .int .i64 ya]), (1, .agg #[.int .i64 xb, .int .i64 yb]), (2, .agg #[.int .i64 xd, .int .i64 yd])]).run Try.prog w = .ok (.slice (some ⟨w.heap.size, 0, none⟩) 3 3) (w.alloc (.cells #[.int .i64 xa, .int .i64 ya, .int .i64 xb, .int .i64 yb, .int .i64 xd, .int .i64 yd] 23)) := by
  go_simp
set_option maxRecDepth 100000 in
theorem rowD3 (xa ya xb yb xc yc xd yd : Int) (w : World) : (Instr.buildSlice 40 4 #[(0, .agg #[.int .i64 xa, .int .i64 ya]), (1, .agg #[.int .i64 xb, .int .i64 yb]), (2, .agg #[.int .i64 xc, .int .i64 yc]), (3, .agg #[.int .i64 xd, .int .i64 yd])]).run Try.prog w = .ok (.slice (some ⟨w.heap.size, 0, none⟩) 4 4) (w.alloc (.cells #[.int .i64 xa, .int .i64 ya, .int .i64 xb, .int .i64 yb, .int .i64 xc, .int .i64 yc, .int .i64 xd, .int .i64 yd] 23)) := by
  go_simp
set_option maxRecDepth 100000 in
set_option maxHeartbeats 1000000 in
theorem places_1 (xa ya xb yb xc yc xd yd : Int) (w : World) : Calls Try.prog 22 #[.agg #[.int .i64 1, .int .i64 xa, .int .i64 ya, .int .i64 xb, .int .i64 yb, .int .i64 xc, .int .i64 yc, .int .i64 xd, .int .i64 yd]] w fun e w' => ∃ b, e = .returned (.slice (some ⟨b, 0, none⟩) 2 2) ∧ Blk w' b 23 #[.int .i64 xa, .int .i64 ya, .int .i64 xd, .int .i64 yd] ∧ w.heap.size ≤ b ∧ Below w.heap.size w w' := by
  have R := rowD1 xa ya xd yd
  have F : (w.alloc (.cells #[.int .i64 1, .int .i64 xa, .int .i64 ya, .int .i64 xb, .int .i64 yb, .int .i64 xc, .int .i64 yc, .int .i64 xd, .int .i64 yd] 25)).heap.size = w.heap.size + 1 := by simp
  go_enter Try.func22, Try.ntmps22
  go_wp2
  go_ret
  refine ⟨_, rfl, ?_, ?_, below_a2 _ _ _⟩
  · have := Blk.new (w.alloc (.cells #[.int .i64 1, .int .i64 xa, .int .i64 ya, .int .i64 xb, .int .i64 yb, .int .i64 xc, .int .i64 yc, .int .i64 xd, .int .i64 yd] 25)) 23 #[.int .i64 xa, .int .i64 ya, .int .i64 xd, .int .i64 yd]
    simpa using this
  · simp
set_option maxRecDepth 100000 in
set_option maxHeartbeats 1000000 in
theorem places_2 (xa ya xb yb xc yc xd yd : Int) (w : World) : Calls Try.prog 22 #[.agg #[.int .i64 2, .int .i64 xa, .int .i64 ya, .int .i64 xb, .int .i64 yb, .int .i64 xc, .int .i64 yc, .int .i64 xd, .int .i64 yd]] w fun e w' => ∃ b, e = .returned (.slice (some ⟨b, 0, none⟩) 3 3) ∧ Blk w' b 23 #[.int .i64 xa, .int .i64 ya, .int .i64 xb, .int .i64 yb, .int .i64 xd, .int .i64 yd] ∧ w.heap.size ≤ b ∧ Below w.heap.size w w' := by
  have R := rowD2 xa ya xb yb xd yd
  have F : (w.alloc (.cells #[.int .i64 2, .int .i64 xa, .int .i64 ya, .int .i64 xb, .int .i64 yb, .int .i64 xc, .int .i64 yc, .int .i64 xd, .int .i64 yd] 25)).heap.size = w.heap.size + 1 := by simp
  go_enter Try.func22, Try.ntmps22
  go_wp2
  go_ret
  refine ⟨_, rfl, ?_, ?_, below_a2 _ _ _⟩
  · have := Blk.new (w.alloc (.cells #[.int .i64 2, .int .i64 xa, .int .i64 ya, .int .i64 xb, .int .i64 yb, .int .i64 xc, .int .i64 yc, .int .i64 xd, .int .i64 yd] 25)) 23 #[.int .i64 xa, .int .i64 ya, .int .i64 xb, .int .i64 yb, .int .i64 xd, .int .i64 yd]
    simpa using this
  · simp
set_option maxRecDepth 100000 in
set_option maxHeartbeats 1000000 in
theorem places_3 (xa ya xb yb xc yc xd yd : Int) (w : World) : Calls Try.prog 22 #[.agg #[.int .i64 3, .int .i64 xa, .int .i64 ya, .int .i64 xb, .int .i64 yb, .int .i64 xc, .int .i64 yc, .int .i64 xd, .int .i64 yd]] w fun e w' => ∃ b, e = .returned (.slice (some ⟨b, 0, none⟩) 4 4) ∧ Blk w' b 23 #[.int .i64 xa, .int .i64 ya, .int .i64 xb, .int .i64 yb, .int .i64 xc, .int .i64 yc, .int .i64 xd, .int .i64 yd] ∧ w.heap.size ≤ b ∧ Below w.heap.size w w' := by
  have R := rowD3 xa ya xb yb xc yc xd yd
  have F : (w.alloc (.cells #[.int .i64 3, .int .i64 xa, .int .i64 ya, .int .i64 xb, .int .i64 yb, .int .i64 xc, .int .i64 yc, .int .i64 xd, .int .i64 yd] 25)).heap.size = w.heap.size + 1 := by simp
  go_enter Try.func22, Try.ntmps22
  go_wp2
  go_ret
  refine ⟨_, rfl, ?_, ?_, below_a2 _ _ _⟩
  · have := Blk.new (w.alloc (.cells #[.int .i64 3, .int .i64 xa, .int .i64 ya, .int .i64 xb, .int .i64 yb, .int .i64 xc, .int .i64 yc, .int .i64 xd, .int .i64 yd] 25)) 23 #[.int .i64 xa, .int .i64 ya, .int .i64 xb, .int .i64 yb, .int .i64 xc, .int .i64 yc, .int .i64 xd, .int .i64 yd]
    simpa using this
  · simp
set_option maxRecDepth 100000 in
set_option maxHeartbeats 1000000 in
theorem places_0 (k : Int) (xa ya xb yb xc yc xd yd : Int) (w : World) (h1 : (k == 1) = false) (h2 : (k == 2) = false) (h3 : (k == 3) = false) : Calls Try.prog 22 #[.agg #[.int .i64 k, .int .i64 xa, .int .i64 ya, .int .i64 xb, .int .i64 yb, .int .i64 xc, .int .i64 yc, .int .i64 xd, .int .i64 yd]] w fun e w' => e = .returned (.slice none 0 0) ∧ Below w.heap.size w w' := by
  go_enter Try.func22, Try.ntmps22
  go_wp2
  go_ret
  exact ⟨rfl, below_a1 _ _⟩

theorem take_any_noD {α : Type} {L : List α} {p : α → Bool} {k : Nat} {x : α} (hx : L[k]? = some x) (h : (L.take k).any p = false) (ht : p x = false) : (L.take (k + 1)).any p = false := by
  rw [List.take_add_one, hx]
  simp only [Option.toList_some, List.any_append, h, List.any_cons, ht, List.any_nil, Bool.or_self]
theorem any_atD {α : Type} {L : List α} {p : α → Bool} {k : Nat} {x : α} (hx : L[k]? = some x) (ht : p x = true) : L.any p = true := List.any_eq_true.2 ⟨x, List.mem_of_getElem? hx, ht⟩
set_option maxRecDepth 100000 in
set_option maxHeartbeats 1000000 in
theorem idxD_any (p : Nat) (B : Nat) (A : Option Addr) (c : Nat) (L : List Dt) (w : World) (hB : B ≤ w.heap.size) (hL : Lists w B A (L.flatMap dtL)) (hn : L.length ≤ 1099511627776) (hp : FarAt w p) :
    Calls Try.prog 34 #[.slice A L.length c, .func (.func 27) #[] #[.pointer (some ⟨p, 0, none⟩)]] w fun e w' => (∃ i : Int, e = .returned (.int .i64 i) ∧ decide (i ≥ 0) = L.any farD) ∧ Below w.heap.size w w' := by
  have HL := Lib.hid hL
  have HP := Lib.hid hp
  have hplt := hp.lt
  clear hL hp
  obtain ⟨n, hnn⟩ : ∃ n, n = L.length := ⟨_, rfl⟩
  rw [← hnn] at hn ⊢
  have HN := Lib.hid hnn
  clear hnn
  go_enter Try.func34, Try.ntmps34
  go_wp2
  go_loopw [8] (fun i wr => ∃ k : Nat, k ≤ n ∧ i = .int .i64 k ∧ Hid ((L.take k).any farD = false) ∧ Below w.heap.size w wr) (fun i _ => n - (intOf i).toNat)
  case atStart => exact ⟨0, Nat.zero_le _, rfl, Lib.hid rfl, Below.refl _ _⟩
  case round =>
    obtain ⟨k, hk, rfl, HK, hb⟩ := hrel
    by_cases hlt : k < n
    · have d1 : decide ((k : Int) < (n : Int)) = true := by simp; omega
      obtain ⟨x, hx⟩ : ∃ x, L[k]? = some x := ⟨L[k]'(by rw [← HN.out]; exact hlt), List.getElem?_eq_getElem _⟩
      obtain ⟨b, o, hA, hbl, hcl⟩ := lists_flat dtLen (by decide) HL.out hx
      subst hA
      have g0 := Lib.hid (range_below hcl (Nat.lt_of_lt_of_le hbl hB) hb)
      have C := farD_any p x wr (HP.out.below hb)
      have HX := Lib.hid hx
      clear hcl hx
      cases ht : farD x
      · rw [ht] at C
        have HT := Lib.hid (take_any_noD HX.out HK.out ht)
        clear ht
        go_wp2_with (first | (refine wpList_load_mid rfl 23 _ (by with_reducible rfl) b (o + k * 2) (by rfl) (dtL x) _ g0.out Try.underlying23 rfl (by rw [dtLen]; kernel_rfl) ?_) | (go_at_call 27; ((with_reducible refine (C).mono ?_); rintro e w1 ⟨rfl, b1⟩)))
        go_roundw
        case rel => exact ⟨k + 1, by omega, by go_num, HT, hb.trans (b1.mono hb.size)⟩
        case measure => simp [intOf]; omega
      · rw [ht] at C
        have HT := Lib.hid (any_atD HX.out ht)
        clear ht
        go_wp2_with (first | (refine wpList_load_mid rfl 23 _ (by with_reducible rfl) b (o + k * 2) (by rfl) (dtL x) _ g0.out Try.underlying23 rfl (by rw [dtLen]; kernel_rfl) ?_) | (go_at_call 27; ((with_reducible refine (C).mono ?_); rintro e w1 ⟨rfl, b1⟩)))
        go_ret
        exact ⟨⟨(k : Int), rfl, by rw [HT.out]; simp⟩, hb.trans (b1.mono hb.size)⟩
    · have d1 : decide ((k : Int) < (n : Int)) = false := by simp; omega
      have HT := Lib.hid (show L.any farD = false by have := HK.out; rwa [List.take_of_length_le (by have := HN.out; omega)] at this)
      go_wp2
      go_ret
      exact ⟨⟨-1, rfl, by rw [HT.out]; rfl⟩, hb⟩

set_option maxRecDepth 100000 in
theorem hasD_any (p : Nat) (B : Nat) (A : Option Addr) (c : Nat) (L : List Dt) (w : World) (hB : B ≤ w.heap.size) (hL : Lists w B A (L.flatMap dtL)) (hn : L.length ≤ 1099511627776) (hp : FarAt w p) :
    Calls Try.prog 26 #[.slice A L.length c, .func (.func 27) #[] #[.pointer (some ⟨p, 0, none⟩)]] w fun e w' => e = .returned (.bool (L.any farD)) ∧ Below w.heap.size w w' := by
  have C := idxD_any p B A c L w hB hL hn hp
  clear hL hp
  cases hh : L.any farD <;> rw [hh] at C <;> clear hh
  all_goals
    go_enter Try.func26, Try.ntmps26
    go_wp2_with (first | (go_at_call 34; ((with_reducible refine (C).mono ?_); rintro e w1 ⟨⟨i, rfl, hi⟩, b1⟩)))
    go_ret
    exact ⟨rfl, b1⟩

theorem lists_blkD {w : World} {b : Nat} {T : TypeId} {cs : List Value} (h : Blk w b T cs.toArray) : Lists w (b + 1) (some ⟨b, 0, none⟩) cs :=
  ⟨fun ha => (nomatch ha), fun a ha j u hu => by
    cases ha
    rw [addr_plain, Nat.zero_add, h.cell j, List.getElem?_toArray]; exact hu, fun a ha _ => by cases ha; simp⟩
set_option maxRecDepth 100000 in
set_option maxHeartbeats 1000000 in
theorem may_1 (xa ya xb yb xc yc xd yd : Int) (w : World) : Calls Try.prog 11 #[.agg #[.int .i64 1, .int .i64 xa, .int .i64 ya, .int .i64 xb, .int .i64 yb, .int .i64 xc, .int .i64 yc, .int .i64 xd, .int .i64 yd]] w fun e w' => e = .returned (.bool (!([(xa, ya), (xd, yd)] : List Dt).any farD)) ∧ Below w.heap.size w w' := by
  have CP := fun W => places_1 xa ya xb yb xc yc xd yd W
  have HC := Lib.hid (fun (W : World) b (hK : Blk W b 23 #[.int .i64 xa, .int .i64 ya, .int .i64 xd, .int .i64 yd]) (p : Nat) (hp : FarAt W p) => hasD_any p W.heap.size (some ⟨b, 0, none⟩) 2 ([(xa, ya), (xd, yd)] : List Dt) W (Nat.le_refl _) ((lists_blkD hK).more hK.lt) (by simp) hp)
  cases hh : ([(xa, ya), (xd, yd)] : List Dt).any farD <;> rw [hh] at HC <;> clear hh
  all_goals
    go_enter Try.func11, Try.ntmps11
    go_wp2_with (first | (go_at_call 22; ((with_reducible refine (CP _).mono ?_); rintro e w1 ⟨b, rfl, K1, hb, b1⟩; have B1 := (below_a1 w (.cells #[.int .i64 1, .int .i64 xa, .int .i64 ya, .int .i64 xb, .int .i64 yb, .int .i64 xc, .int .i64 yc, .int .i64 xd, .int .i64 yd] 25)).trans (b1.mono (below_a1 w _).size); have K2 := K1.below (below_a1 w1 (.cells #[.func (.func 25) #[] #[]] 39)); have C := HC.out _ b K2 w1.heap.size (Blk.new w1 _ _); rw [show ([(xa, ya), (xd, yd)] : List Dt).length = 2 from rfl] at C; have hl := K1.lt; have KF := Blk.new w1 39 #[.nilFunc]; have kc := KF.cell 0; have kf := KF.frozen 0; clear KF)) | (go_at_call 26; ((with_reducible refine (C).mono ?_); rintro e w2 ⟨rfl, b2⟩)))
    go_ret
    exact ⟨rfl, (B1.alloc B1.size _).trans (b2.mono (by simp; have := B1.size; omega))⟩
set_option maxRecDepth 100000 in
set_option maxHeartbeats 1000000 in
theorem may_2 (xa ya xb yb xc yc xd yd : Int) (w : World) : Calls Try.prog 11 #[.agg #[.int .i64 2, .int .i64 xa, .int .i64 ya, .int .i64 xb, .int .i64 yb, .int .i64 xc, .int .i64 yc, .int .i64 xd, .int .i64 yd]] w fun e w' => e = .returned (.bool (!([(xa, ya), (xb, yb), (xd, yd)] : List Dt).any farD)) ∧ Below w.heap.size w w' := by
  have CP := fun W => places_2 xa ya xb yb xc yc xd yd W
  have HC := Lib.hid (fun (W : World) b (hK : Blk W b 23 #[.int .i64 xa, .int .i64 ya, .int .i64 xb, .int .i64 yb, .int .i64 xd, .int .i64 yd]) (p : Nat) (hp : FarAt W p) => hasD_any p W.heap.size (some ⟨b, 0, none⟩) 3 ([(xa, ya), (xb, yb), (xd, yd)] : List Dt) W (Nat.le_refl _) ((lists_blkD hK).more hK.lt) (by simp) hp)
  cases hh : ([(xa, ya), (xb, yb), (xd, yd)] : List Dt).any farD <;> rw [hh] at HC <;> clear hh
  all_goals
    go_enter Try.func11, Try.ntmps11
    go_wp2_with (first | (go_at_call 22; ((with_reducible refine (CP _).mono ?_); rintro e w1 ⟨b, rfl, K1, hb, b1⟩; have B1 := (below_a1 w (.cells #[.int .i64 2, .int .i64 xa, .int .i64 ya, .int .i64 xb, .int .i64 yb, .int .i64 xc, .int .i64 yc, .int .i64 xd, .int .i64 yd] 25)).trans (b1.mono (below_a1 w _).size); have K2 := K1.below (below_a1 w1 (.cells #[.func (.func 25) #[] #[]] 39)); have C := HC.out _ b K2 w1.heap.size (Blk.new w1 _ _); rw [show ([(xa, ya), (xb, yb), (xd, yd)] : List Dt).length = 3 from rfl] at C; have hl := K1.lt; have KF := Blk.new w1 39 #[.nilFunc]; have kc := KF.cell 0; have kf := KF.frozen 0; clear KF)) | (go_at_call 26; ((with_reducible refine (C).mono ?_); rintro e w2 ⟨rfl, b2⟩)))
    go_ret
    exact ⟨rfl, (B1.alloc B1.size _).trans (b2.mono (by simp; have := B1.size; omega))⟩
set_option maxRecDepth 100000 in
set_option maxHeartbeats 1000000 in
theorem may_3 (xa ya xb yb xc yc xd yd : Int) (w : World) : Calls Try.prog 11 #[.agg #[.int .i64 3, .int .i64 xa, .int .i64 ya, .int .i64 xb, .int .i64 yb, .int .i64 xc, .int .i64 yc, .int .i64 xd, .int .i64 yd]] w fun e w' => e = .returned (.bool (!([(xa, ya), (xb, yb), (xc, yc), (xd, yd)] : List Dt).any farD)) ∧ Below w.heap.size w w' := by
  have CP := fun W => places_3 xa ya xb yb xc yc xd yd W
  have HC := Lib.hid (fun (W : World) b (hK : Blk W b 23 #[.int .i64 xa, .int .i64 ya, .int .i64 xb, .int .i64 yb, .int .i64 xc, .int .i64 yc, .int .i64 xd, .int .i64 yd]) (p : Nat) (hp : FarAt W p) => hasD_any p W.heap.size (some ⟨b, 0, none⟩) 4 ([(xa, ya), (xb, yb), (xc, yc), (xd, yd)] : List Dt) W (Nat.le_refl _) ((lists_blkD hK).more hK.lt) (by simp) hp)
  cases hh : ([(xa, ya), (xb, yb), (xc, yc), (xd, yd)] : List Dt).any farD <;> rw [hh] at HC <;> clear hh
  all_goals
    go_enter Try.func11, Try.ntmps11
    go_wp2_with (first | (go_at_call 22; ((with_reducible refine (CP _).mono ?_); rintro e w1 ⟨b, rfl, K1, hb, b1⟩; have B1 := (below_a1 w (.cells #[.int .i64 3, .int .i64 xa, .int .i64 ya, .int .i64 xb, .int .i64 yb, .int .i64 xc, .int .i64 yc, .int .i64 xd, .int .i64 yd] 25)).trans (b1.mono (below_a1 w _).size); have K2 := K1.below (below_a1 w1 (.cells #[.func (.func 25) #[] #[]] 39)); have C := HC.out _ b K2 w1.heap.size (Blk.new w1 _ _); rw [show ([(xa, ya), (xb, yb), (xc, yc), (xd, yd)] : List Dt).length = 4 from rfl] at C; have hl := K1.lt; have KF := Blk.new w1 39 #[.nilFunc]; have kc := KF.cell 0; have kf := KF.frozen 0; clear KF)) | (go_at_call 26; ((with_reducible refine (C).mono ?_); rintro e w2 ⟨rfl, b2⟩)))
    go_ret
    exact ⟨rfl, (B1.alloc B1.size _).trans (b2.mono (by simp; have := B1.size; omega))⟩
set_option maxRecDepth 100000 in
set_option maxHeartbeats 1000000 in
theorem may_0 (k : Int) (xa ya xb yb xc yc xd yd : Int) (w : World) (h1 : (k == 1) = false) (h2 : (k == 2) = false) (h3 : (k == 3) = false) : Calls Try.prog 11 #[.agg #[.int .i64 k, .int .i64 xa, .int .i64 ya, .int .i64 xb, .int .i64 yb, .int .i64 xc, .int .i64 yc, .int .i64 xd, .int .i64 yd]] w fun e w' => e = .returned (.bool false) ∧ Below w.heap.size w w' := by
  have CP := fun W => places_0 k xa ya xb yb xc yc xd yd W h1 h2 h3
  clear h1 h2 h3
  go_enter Try.func11, Try.ntmps11
  go_wp2_with (first | (go_at_call 22; ((with_reducible refine (CP _).mono ?_); rintro e w1 ⟨rfl, b1⟩; have B1 := (below_a1 w (.cells #[.int .i64 k, .int .i64 xa, .int .i64 ya, .int .i64 xb, .int .i64 yb, .int .i64 xc, .int .i64 yc, .int .i64 xd, .int .i64 yd] 25)).trans (b1.mono (below_a1 w _).size); have KF := Blk.new w1 39 #[.nilFunc]; have kc := KF.cell 0; have kf := KF.frozen 0; clear KF)))
  go_ret
  exact ⟨rfl, B1.alloc B1.size _⟩
theorem kinds (k : Int) : k = 1 ∨ k = 2 ∨ k = 3 ∨ ((k == 1) = false ∧ (k == 2) = false ∧ (k == 3) = false) := by
  by_cases h1 : k = 1
  · exact .inl h1
  · by_cases h2 : k = 2
    · exact .inr (.inl h2)
    · by_cases h3 : k = 3
      · exact .inr (.inr (.inl h3))
      · exact .inr (.inr (.inr ⟨by simpa using h1, by simpa using h2, by simpa using h3⟩))
theorem plc_0 {c : Bw} (h1 : (c.k == 1) = false) (h2 : (c.k == 2) = false) (h3 : (c.k == 3) = false) : plc c = [] := by
  unfold plc
  rw [if_neg (by simpa using h1), if_neg (by simpa using h2), if_neg (by simpa using h3)]
theorem cmay_any (c : Bw) (w : World) : Calls Try.prog 11 #[bwV c] w fun e w' => e = .returned (.bool (mayW c)) ∧ Below w.heap.size w w' := by
  obtain ⟨k, xa, ya, xb, yb, xc, yc, xd, yd⟩ := c
  unfold bwV mayW
  dsimp only
  rcases kinds k with rfl | rfl | rfl | ⟨h1, h2, h3⟩
  · exact may_1 xa ya xb yb xc yc xd yd w
  · exact may_2 xa ya xb yb xc yc xd yd w
  · exact may_3 xa ya xb yb xc yc xd yd w
  · rw [plc_0 h1 h2 h3]; exact may_0 k xa ya xb yb xc yc xd yd w h1 h2 h3
end Go.Proofs.Ytngfillgndhfbaa

namespace Go.Proofs.Ytngfillgndhfbaa
open Go Go.RowKit
set_option linter.unusedVariables false
set_option linter.unusedSimpArgs false


def dp (f g : Nat → Int) : Nat → Int
  | 0 => 0
  | k + 1 => dp f g k + f k * g k
def al (f : Nat → Int) : Nat → Int
  | 0 => 0
  | k + 1 => al f k + f k
def w4g (w : W4) : Nat → Int
  | 0 => w.1
  | 1 => w.2.1
  | 2 => w.2.2.1
  | _ => w.2.2.2
theorem w4g_at (w : W4) (k : Nat) (h : k < 4) : (w4L w)[k]? = some (.int .i64 (w4g w k)) := by
  match k, h with
  | 0, _ => rfl
  | 1, _ => rfl
  | 2, _ => rfl
  | 3, _ => rfl
theorem w4g_le {w : W4} {B : Int} (h : W4le w B) (k : Nat) : 0 ≤ w4g w k ∧ w4g w k ≤ B := by
  obtain ⟨h1, h2, h3, h4⟩ := h
  match k with
  | 0 => exact h1
  | 1 => exact h2
  | 2 => exact h3
  | _ + 3 => exact h4
theorem mul_sym {f g : Int} (h : 0 ≤ f ∧ f ≤ 1073741824) (h2 : -1048576 ≤ g ∧ g ≤ 1048576) : -1125899906842624 ≤ f * g ∧ f * g ≤ 1125899906842624 := by
  have a := Int.mul_le_mul_of_nonneg_left h2.1 h.1
  have b := Int.mul_le_mul_of_nonneg_left h2.2 h.1
  omega
theorem dp_le {f g : Nat → Int} (h : ∀ k, 0 ≤ f k ∧ f k ≤ 1073741824) (h2 : ∀ k, -1048576 ≤ g k ∧ g k ≤ 1048576) : ∀ k : Nat, -1125899906842624 * (k : Int) ≤ dp f g k ∧ dp f g k ≤ 1125899906842624 * (k : Int)
  | 0 => by simp [dp]
  | k + 1 => by
    have := dp_le h h2 k
    have m := mul_sym (h k) (h2 k)
    unfold dp
    omega
theorem al_le {f : Nat → Int} (h : ∀ k, 0 ≤ f k ∧ f k ≤ 1073741824) : ∀ k : Nat, 0 ≤ al f k ∧ al f k ≤ 1073741824 * (k : Int)
  | 0 => by simp [al]
  | k + 1 => by
    have := al_le h k
    have m := h k
    unfold al
    omega
theorem at_x (x y : Int) (w : World) : Calls Try.prog 38 #[.agg #[.int .i64 x, .int .i64 y]] w fun e w' => e = .returned (.int .i64 x) ∧ Below w.heap.size w w' := by
  go_enter Try.func38, Try.ntmps38
  go_wp2
  go_ret
  exact ⟨rfl, below_a1 _ _⟩
theorem at_y (x y : Int) (w : World) : Calls Try.prog 39 #[.agg #[.int .i64 x, .int .i64 y]] w fun e w' => e = .returned (.int .i64 y) ∧ Below w.heap.size w w' := by
  go_enter Try.func39, Try.ntmps39
  go_wp2
  go_ret
  exact ⟨rfl, below_a1 _ _⟩
def gx (L : List Dt) (k : Nat) : Int := (L.getD k (0, 0)).1
def gy (L : List Dt) (k : Nat) : Int := (L.getD k (0, 0)).2
theorem gx_at {L : List Dt} {k : Nat} {x y : Int} (h : L[k]? = some (x, y)) : gx L k = x := by unfold gx; rw [List.getD_eq_getElem?_getD, h]; rfl
theorem gy_at {L : List Dt} {k : Nat} {x y : Int} (h : L[k]? = some (x, y)) : gy L k = y := by unfold gy; rw [List.getD_eq_getElem?_getD, h]; rfl
theorem g_le {L : List Dt} (h : L.any farD = false) (k : Nat) : (-1048576 ≤ gx L k ∧ gx L k ≤ 1048576) ∧ (-1048576 ≤ gy L k ∧ gy L k ≤ 1048576) := by
  unfold gx gy
  cases hk : L[k]? with
  | none => rw [List.getD_eq_getElem?_getD, hk]; simp
  | some d =>
    obtain ⟨x, y⟩ := d
    rw [List.getD_eq_getElem?_getD, hk]
    have := List.any_eq_false.1 h (x, y) (List.mem_of_getElem? hk)
    have h3 : farD (x, y) = false := by simpa using this
    unfold farD at h3
    simp only [Bool.or_eq_false_iff] at h3
    exact ⟨farB_ok h3.1, farB_ok h3.2⟩
set_option maxRecDepth 100000 in
set_option maxHeartbeats 2000000 in
theorem weighed_x (v : W4) (B : Nat) (A : Option Addr) (c : Nat) (L : List Dt) (w : World) (hB : B ≤ w.heap.size) (hL : Lists w B A (L.flatMap dtL)) (hn : L.length ≤ 4) (hv : W4le v 1073741824) (hf : L.any farD = false) (h1 : 1 ≤ al (w4g v) L.length) :
    Calls Try.prog 37 #[.agg (w4L v), .slice A L.length c, .func (.func 38) #[] #[]] w fun e w' => e = .returned (.int .i64 (near (dp (w4g v) (gx L) L.length) (al (w4g v) L.length))) ∧ Below w.heap.size w w' := by
  have HL := Lib.hid hL
  have HV := Lib.hid (w4g_le hv)
  have HG := Lib.hid (fun k => (g_le hf k).1)
  have HWC := Lib.hid (w4g_at v)
  have DL := dp_le HV.out HG.out L.length
  have AL := al_le HV.out L.length
  have KB := Blk.new w 49 (w4L v)
  have B0 := below_a1 w (.cells (w4L v) 49)
  obtain ⟨n, hnn⟩ : ∃ n, n = L.length := ⟨_, rfl⟩
  rw [← hnn] at hn h1 DL AL ⊢
  have HN := Lib.hid hnn
  have HK := Lib.hid KB
  clear hL hv hf hnn KB
  have CN := fun W => near_ok (dp (w4g v) (gx L) n) (al (w4g v) n) W h1 (by omega) (by omega) (by omega)
  generalize hw : w4L v = ww at *
  have HWW := Lib.hid hw
  obtain ⟨v0, v1, v2, v3⟩ := v
  simp only [w4L] at hw
  subst hw
  go_enter Try.func37, Try.ntmps37
  go_wp2
  go_loopw [7, 8, 15] (fun s a i wr => ∃ k : Nat, k ≤ n ∧ s = .int .i64 (dp (w4g (v0, v1, v2, v3)) (gx L) k) ∧ a = .int .i64 (al (w4g (v0, v1, v2, v3)) k) ∧ i = .int .i64 k ∧ Below w.heap.size w wr ∧ Blk wr w.heap.size 49 #[.int .i64 v0, .int .i64 v1, .int .i64 v2, .int .i64 v3]) (fun _ _ i _ => n - (intOf i).toNat)
  case atStart => exact ⟨0, Nat.zero_le _, rfl, rfl, rfl, B0, HK.out⟩
  case round =>
    obtain ⟨k, hk, rfl, rfl, rfl, hb, KB⟩ := hrel
    by_cases hlt : k < n
    · have d1 : decide ((k : Int) < (n : Int)) = true := by simp; omega
      obtain ⟨p, hp⟩ : ∃ p, L[k]? = some p := ⟨L[k]'(by rw [← HN.out]; exact hlt), List.getElem?_eq_getElem _⟩
      obtain ⟨x, y⟩ := p
      obtain ⟨b, o, hA, hbl, hcl⟩ := lists_flat dtLen (by decide) HL.out hp
      subst hA
      have g0 : Hid (wr.rangeAt b (o + k * 2) [.int .i64 x, .int .i64 y]) := Lib.hid (range_below hcl (Nat.lt_of_lt_of_le hbl hB) hb)
      have hxx := gx_at hp
      have hS := Lib.hid (show dp (w4g (v0, v1, v2, v3)) (gx L) (k + 1) = dp (w4g (v0, v1, v2, v3)) (gx L) k + w4g (v0, v1, v2, v3) k * x by rw [← hxx]; rfl)
      have hA2 := Lib.hid (show al (w4g (v0, v1, v2, v3)) (k + 1) = al (w4g (v0, v1, v2, v3)) k + w4g (v0, v1, v2, v3) k from rfl)
      have ckk : wr.cell? ⟨w.heap.size, k, none⟩ = some (.int .i64 (w4g (v0, v1, v2, v3) k)) := (KB.cell k).trans (HWC.out k (by omega))
      have m1 := HV.out k
      have m2 : -1048576 ≤ x ∧ x ≤ 1048576 := hxx ▸ HG.out k
      have m3 := mul_sym m1 m2
      have m4 := dp_le HV.out HG.out k
      have m5 := al_le HV.out k
      generalize dp (w4g (v0, v1, v2, v3)) (gx L) k = s at *
      generalize al (w4g (v0, v1, v2, v3)) k = a at *
      generalize w4g (v0, v1, v2, v3) k = u at *
      have r1 : IntKind.i64.wrap (u * x) = u * x := IntWalk.i64_in _ (by omega)
      have r2 : IntKind.i64.wrap (s + u * x) = s + u * x := IntWalk.i64_in _ (by omega)
      have r3 : IntKind.i64.wrap (a + u) = a + u := IntWalk.i64_in _ (by omega)
      have hbs := KB.lt
      have KD := Blk.new wr 23 #[.int .i64 x, .int .i64 y]
      have BA := below_a1 wr (.cells #[.int .i64 x, .int .i64 y] 23)
      obtain ⟨W1, hW1⟩ : ∃ W1, W1 = wr.alloc (.cells #[.int .i64 x, .int .i64 y] 23) := ⟨_, rfl⟩
      rw [← hW1] at KD BA
      have KB1 := KB.below BA
      have hWd : ∀ V, Below W1.heap.size W1 V → V.cell? ⟨wr.heap.size, 0, none⟩ = some (.int .i64 x) ∧ V.cell? ⟨wr.heap.size, 1, none⟩ = some (.int .i64 y) ∧ wr.heap.size < V.heap.size ∧ V.cell? ⟨w.heap.size, k, none⟩ = some (.int .i64 u) ∧ w.heap.size < V.heap.size := fun V hV => ⟨(KD.below hV).cell 0, (KD.below hV).cell 1, (KD.below hV).lt, ((KB1.below hV).cell k).trans (((KB.cell k).symm.trans ckk)), (KB1.below hV).lt⟩
      have HWd := Lib.hid hWd
      have HB := Lib.hid (hb.trans (BA.mono hb.size))
      have HKB := Lib.hid KB1
      have HW1 := Lib.hid hW1
      have k4 : k < 4 := by omega
      have q4 : (k : Int) < 4 := by omega
      have r4 := Lib.hid r1
      have r5 := Lib.hid r2
      have r6 := Lib.hid r3
      clear m1 m2 m3 m4 m5 r1 r2 r3 hWd hb KB KB1 hW1 hcl hp hxx BA KD HL HWC HV HG DL AL HK HN HWW
      go_wp2_with (first | (refine wpList_load_mid rfl 23 _ (by with_reducible rfl) b (o + k * 2) (by rfl) [.int .i64 x, .int .i64 y] _ g0.out Try.underlying23 rfl (by kernel_rfl) ?_))
      rw [← HW1.out]
      have hI : Below W1.heap.size W1 W1.drew := (Below.refl _ _).drew
      have r1 := r4.out
      have r2 := r5.out
      have r3 := r6.out
      have CF := fun W => at_x x y W
      refine wp_region_chain (fun V => Below W1.heap.size W1 V) [(0, false), (1, false), (2, false), (3, false), (4, false), (5, false), (6, true), (7, false), (8, false), (9, false)] (by kernel_rfl) (by kernel_rfl) hI ?_
      repeat (first
        | (refine ChainL.skip (o := ?_) ?_ ?_ ?_; rotate_left; (focus (first | (simp only [List.getElem?_toArray, List.getElem?_cons_succ, List.getElem?_cons_zero]; with_reducible rfl) | (simp only [List.getElem?_toArray, List.getElem?_cons_zero]; with_reducible rfl))); (focus rfl); simp only [Act.put, List.setIfInBounds_toArray, List.set_cons_zero, List.set_cons_succ])
        | (refine ChainL.val (o := ?_) (v := ?_) ?_ ?_ ?_ ?_ ?_; rotate_left 2; (focus (first | (simp only [List.getElem?_toArray, List.getElem?_cons_succ, List.getElem?_cons_zero]; with_reducible rfl) | (simp only [List.getElem?_toArray, List.getElem?_cons_zero]; with_reducible rfl))); (focus (intro _ _ h; cases h)); (focus rfl); (focus (intro w' hJ; obtain ⟨y0, y1, y2, y3, y4⟩ := HWd.out _ hJ; go_simp <;> with_reducible rfl)); simp only [Act.put, List.setIfInBounds_toArray, List.set_cons_zero, List.set_cons_succ]))
      refine ChainL.call (o := ?_) (f := ?_) (args := ?_) ?_ ?_ ?_ ?_
      rotate_left 3
      (focus (first | (simp only [List.getElem?_toArray, List.getElem?_cons_succ, List.getElem?_cons_zero]; with_reducible rfl) | (simp only [List.getElem?_toArray, List.getElem?_cons_zero]; with_reducible rfl)))
      (focus rfl)
      (focus (go_simp; (constructor <;> with_reducible rfl)))
      with_reducible refine (CF _).mono ?_
      rintro e w5 ⟨rfl, b5⟩
      have I5 := hI.trans (b5.mono hI.size)
      refine ⟨_, rfl, I5, ?_⟩
      simp only [Act.put, List.setIfInBounds_toArray, List.set_cons_zero, List.set_cons_succ]
      repeat (first
        | (refine ChainL.skip (o := ?_) ?_ ?_ ?_; rotate_left; (focus (first | (simp only [List.getElem?_toArray, List.getElem?_cons_succ, List.getElem?_cons_zero]; with_reducible rfl) | (simp only [List.getElem?_toArray, List.getElem?_cons_zero]; with_reducible rfl))); (focus rfl); simp only [Act.put, List.setIfInBounds_toArray, List.set_cons_zero, List.set_cons_succ])
        | (refine ChainL.val (o := ?_) (v := ?_) ?_ ?_ ?_ ?_ ?_; rotate_left 2; (focus (first | (simp only [List.getElem?_toArray, List.getElem?_cons_succ, List.getElem?_cons_zero]; with_reducible rfl) | (simp only [List.getElem?_toArray, List.getElem?_cons_zero]; with_reducible rfl))); (focus (intro _ _ h; cases h)); (focus rfl); (focus (intro w' hJ; obtain ⟨y0, y1, y2, y3, y4⟩ := HWd.out _ hJ; go_simp <;> with_reducible rfl)); simp only [Act.put, List.setIfInBounds_toArray, List.set_cons_zero, List.set_cons_succ]))
      refine ChainL.nil ?_
      obtain ⟨y0, y1, y2, y3, y4⟩ := HWd.out _ I5
      go_wp2
      go_roundw
      case rel => exact ⟨k + 1, by omega, by rw [hS.out], by rw [hA2.out], by go_num, HB.out.trans (I5.mono HB.out.size), HKB.out.below I5⟩
      case measure => simp [intOf]; omega
    · have d1 : decide ((k : Int) < (n : Int)) = false := by simp; omega
      obtain rfl : k = n := by omega
      clear HL HWC HV HG DL AL HK HN HWW
      generalize hs : dp (w4g (v0, v1, v2, v3)) (gx L) k = s at *
      generalize ha : al (w4g (v0, v1, v2, v3)) k = a at *
      have HS := Lib.hid hs
      have HA := Lib.hid ha
      clear hs ha
      go_wp2_with (first | (go_at_call 41; ((with_reducible refine (CN _).mono ?_); rintro e w' ⟨rfl, j, rfl⟩)))
      go_ret
      exact ⟨ret_int (by rw [HS.out, HA.out]), below_drewN hb _⟩
set_option maxRecDepth 100000 in
set_option maxHeartbeats 2000000 in
theorem weighed_y (v : W4) (B : Nat) (A : Option Addr) (c : Nat) (L : List Dt) (w : World) (hB : B ≤ w.heap.size) (hL : Lists w B A (L.flatMap dtL)) (hn : L.length ≤ 4) (hv : W4le v 1073741824) (hf : L.any farD = false) (h1 : 1 ≤ al (w4g v) L.length) :
    Calls Try.prog 37 #[.agg (w4L v), .slice A L.length c, .func (.func 39) #[] #[]] w fun e w' => e = .returned (.int .i64 (near (dp (w4g v) (gy L) L.length) (al (w4g v) L.length))) ∧ Below w.heap.size w w' := by
  have HL := Lib.hid hL
  have HV := Lib.hid (w4g_le hv)
  have HG := Lib.hid (fun k => (g_le hf k).2)
  have HWC := Lib.hid (w4g_at v)
  have DL := dp_le HV.out HG.out L.length
  have AL := al_le HV.out L.length
  have KB := Blk.new w 49 (w4L v)
  have B0 := below_a1 w (.cells (w4L v) 49)
  obtain ⟨n, hnn⟩ : ∃ n, n = L.length := ⟨_, rfl⟩
  rw [← hnn] at hn h1 DL AL ⊢
  have HN := Lib.hid hnn
  have HK := Lib.hid KB
  clear hL hv hf hnn KB
  have CN := fun W => near_ok (dp (w4g v) (gy L) n) (al (w4g v) n) W h1 (by omega) (by omega) (by omega)
  generalize hw : w4L v = ww at *
  have HWW := Lib.hid hw
  obtain ⟨v0, v1, v2, v3⟩ := v
  simp only [w4L] at hw
  subst hw
  go_enter Try.func37, Try.ntmps37
  go_wp2
  go_loopw [7, 8, 15] (fun s a i wr => ∃ k : Nat, k ≤ n ∧ s = .int .i64 (dp (w4g (v0, v1, v2, v3)) (gy L) k) ∧ a = .int .i64 (al (w4g (v0, v1, v2, v3)) k) ∧ i = .int .i64 k ∧ Below w.heap.size w wr ∧ Blk wr w.heap.size 49 #[.int .i64 v0, .int .i64 v1, .int .i64 v2, .int .i64 v3]) (fun _ _ i _ => n - (intOf i).toNat)
  case atStart => exact ⟨0, Nat.zero_le _, rfl, rfl, rfl, B0, HK.out⟩
  case round =>
    obtain ⟨k, hk, rfl, rfl, rfl, hb, KB⟩ := hrel
    by_cases hlt : k < n
    · have d1 : decide ((k : Int) < (n : Int)) = true := by simp; omega
      obtain ⟨p, hp⟩ : ∃ p, L[k]? = some p := ⟨L[k]'(by rw [← HN.out]; exact hlt), List.getElem?_eq_getElem _⟩
      obtain ⟨x, y⟩ := p
      obtain ⟨b, o, hA, hbl, hcl⟩ := lists_flat dtLen (by decide) HL.out hp
      subst hA
      have g0 : Hid (wr.rangeAt b (o + k * 2) [.int .i64 x, .int .i64 y]) := Lib.hid (range_below hcl (Nat.lt_of_lt_of_le hbl hB) hb)
      have hxx := gy_at hp
      have hS := Lib.hid (show dp (w4g (v0, v1, v2, v3)) (gy L) (k + 1) = dp (w4g (v0, v1, v2, v3)) (gy L) k + w4g (v0, v1, v2, v3) k * y by rw [← hxx]; rfl)
      have hA2 := Lib.hid (show al (w4g (v0, v1, v2, v3)) (k + 1) = al (w4g (v0, v1, v2, v3)) k + w4g (v0, v1, v2, v3) k from rfl)
      have ckk : wr.cell? ⟨w.heap.size, k, none⟩ = some (.int .i64 (w4g (v0, v1, v2, v3) k)) := (KB.cell k).trans (HWC.out k (by omega))
      have m1 := HV.out k
      have m2 : -1048576 ≤ y ∧ y ≤ 1048576 := hxx ▸ HG.out k
      have m3 := mul_sym m1 m2
      have m4 := dp_le HV.out HG.out k
      have m5 := al_le HV.out k
      generalize dp (w4g (v0, v1, v2, v3)) (gy L) k = s at *
      generalize al (w4g (v0, v1, v2, v3)) k = a at *
      generalize w4g (v0, v1, v2, v3) k = u at *
      have r1 : IntKind.i64.wrap (u * y) = u * y := IntWalk.i64_in _ (by omega)
      have r2 : IntKind.i64.wrap (s + u * y) = s + u * y := IntWalk.i64_in _ (by omega)
      have r3 : IntKind.i64.wrap (a + u) = a + u := IntWalk.i64_in _ (by omega)
      have hbs := KB.lt
      have KD := Blk.new wr 23 #[.int .i64 x, .int .i64 y]
      have BA := below_a1 wr (.cells #[.int .i64 x, .int .i64 y] 23)
      obtain ⟨W1, hW1⟩ : ∃ W1, W1 = wr.alloc (.cells #[.int .i64 x, .int .i64 y] 23) := ⟨_, rfl⟩
      rw [← hW1] at KD BA
      have KB1 := KB.below BA
      have hWd : ∀ V, Below W1.heap.size W1 V → V.cell? ⟨wr.heap.size, 0, none⟩ = some (.int .i64 x) ∧ V.cell? ⟨wr.heap.size, 1, none⟩ = some (.int .i64 y) ∧ wr.heap.size < V.heap.size ∧ V.cell? ⟨w.heap.size, k, none⟩ = some (.int .i64 u) ∧ w.heap.size < V.heap.size := fun V hV => ⟨(KD.below hV).cell 0, (KD.below hV).cell 1, (KD.below hV).lt, ((KB1.below hV).cell k).trans (((KB.cell k).symm.trans ckk)), (KB1.below hV).lt⟩
      have HWd := Lib.hid hWd
      have HB := Lib.hid (hb.trans (BA.mono hb.size))
      have HKB := Lib.hid KB1
      have HW1 := Lib.hid hW1
      have k4 : k < 4 := by omega
      have q4 : (k : Int) < 4 := by omega
      have r4 := Lib.hid r1
      have r5 := Lib.hid r2
      have r6 := Lib.hid r3
      clear m1 m2 m3 m4 m5 r1 r2 r3 hWd hb KB KB1 hW1 hcl hp hxx BA KD HL HWC HV HG DL AL HK HN HWW
      go_wp2_with (first | (refine wpList_load_mid rfl 23 _ (by with_reducible rfl) b (o + k * 2) (by rfl) [.int .i64 x, .int .i64 y] _ g0.out Try.underlying23 rfl (by kernel_rfl) ?_))
      rw [← HW1.out]
      have hI : Below W1.heap.size W1 W1.drew := (Below.refl _ _).drew
      have r1 := r4.out
      have r2 := r5.out
      have r3 := r6.out
      have CF := fun W => at_y x y W
      refine wp_region_chain (fun V => Below W1.heap.size W1 V) [(0, false), (1, false), (2, false), (3, false), (4, false), (5, false), (6, true), (7, false), (8, false), (9, false)] (by kernel_rfl) (by kernel_rfl) hI ?_
      repeat (first
        | (refine ChainL.skip (o := ?_) ?_ ?_ ?_; rotate_left; (focus (first | (simp only [List.getElem?_toArray, List.getElem?_cons_succ, List.getElem?_cons_zero]; with_reducible rfl) | (simp only [List.getElem?_toArray, List.getElem?_cons_zero]; with_reducible rfl))); (focus rfl); simp only [Act.put, List.setIfInBounds_toArray, List.set_cons_zero, List.set_cons_succ])
        | (refine ChainL.val (o := ?_) (v := ?_) ?_ ?_ ?_ ?_ ?_; rotate_left 2; (focus (first | (simp only [List.getElem?_toArray, List.getElem?_cons_succ, List.getElem?_cons_zero]; with_reducible rfl) | (simp only [List.getElem?_toArray, List.getElem?_cons_zero]; with_reducible rfl))); (focus (intro _ _ h; cases h)); (focus rfl); (focus (intro w' hJ; obtain ⟨y0, y1, y2, y3, y4⟩ := HWd.out _ hJ; go_simp <;> with_reducible rfl)); simp only [Act.put, List.setIfInBounds_toArray, List.set_cons_zero, List.set_cons_succ]))
      refine ChainL.call (o := ?_) (f := ?_) (args := ?_) ?_ ?_ ?_ ?_
      rotate_left 3
      (focus (first | (simp only [List.getElem?_toArray, List.getElem?_cons_succ, List.getElem?_cons_zero]; with_reducible rfl) | (simp only [List.getElem?_toArray, List.getElem?_cons_zero]; with_reducible rfl)))
      (focus rfl)
      (focus (go_simp; (constructor <;> with_reducible rfl)))
      with_reducible refine (CF _).mono ?_
      rintro e w5 ⟨rfl, b5⟩
      have I5 := hI.trans (b5.mono hI.size)
      refine ⟨_, rfl, I5, ?_⟩
      simp only [Act.put, List.setIfInBounds_toArray, List.set_cons_zero, List.set_cons_succ]
      repeat (first
        | (refine ChainL.skip (o := ?_) ?_ ?_ ?_; rotate_left; (focus (first | (simp only [List.getElem?_toArray, List.getElem?_cons_succ, List.getElem?_cons_zero]; with_reducible rfl) | (simp only [List.getElem?_toArray, List.getElem?_cons_zero]; with_reducible rfl))); (focus rfl); simp only [Act.put, List.setIfInBounds_toArray, List.set_cons_zero, List.set_cons_succ])
        | (refine ChainL.val (o := ?_) (v := ?_) ?_ ?_ ?_ ?_ ?_; rotate_left 2; (focus (first | (simp only [List.getElem?_toArray, List.getElem?_cons_succ, List.getElem?_cons_zero]; with_reducible rfl) | (simp only [List.getElem?_toArray, List.getElem?_cons_zero]; with_reducible rfl))); (focus (intro _ _ h; cases h)); (focus rfl); (focus (intro w' hJ; obtain ⟨y0, y1, y2, y3, y4⟩ := HWd.out _ hJ; go_simp <;> with_reducible rfl)); simp only [Act.put, List.setIfInBounds_toArray, List.set_cons_zero, List.set_cons_succ]))
      refine ChainL.nil ?_
      obtain ⟨y0, y1, y2, y3, y4⟩ := HWd.out _ I5
      go_wp2
      go_roundw
      case rel => exact ⟨k + 1, by omega, by rw [hS.out], by rw [hA2.out], by go_num, HB.out.trans (I5.mono HB.out.size), HKB.out.below I5⟩
      case measure => simp [intOf]; omega
    · have d1 : decide ((k : Int) < (n : Int)) = false := by simp; omega
      obtain rfl : k = n := by omega
      clear HL HWC HV HG DL AL HK HN HWW
      generalize hs : dp (w4g (v0, v1, v2, v3)) (gy L) k = s at *
      generalize ha : al (w4g (v0, v1, v2, v3)) k = a at *
      have HS := Lib.hid hs
      have HA := Lib.hid ha
      clear hs ha
      go_wp2_with (first | (go_at_call 41; ((with_reducible refine (CN _).mono ?_); rintro e w' ⟨rfl, j, rfl⟩)))
      go_ret
      exact ⟨ret_int (by rw [HS.out, HA.out]), below_drewN hb _⟩
end Go.Proofs.Ytngfillgndhfbaa
