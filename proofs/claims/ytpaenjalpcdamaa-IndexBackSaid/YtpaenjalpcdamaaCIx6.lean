/- Part 7 of the proof: IxF, IxG, IxD, IxH, RangeC. -/
import Derived.Deep.Cut
import Derived.RangeFuncFrom
import Derived.Test.YtpaenjalpcdamaaCIx5

namespace Go.Proofs.Ytpaenjalpcdamaa
open Go Go.RowKit
set_option linter.unusedVariables false
set_option linter.unusedSimpArgs false
variable {q : Nat → Prop}

theorem rs_doneI (p : Nat) (bs : List Value) (k : Nat) (w : World) (h : RS q w p bs k) : Calls Try.prog 20 #[.pointer (some ⟨p, 0, none⟩)] w fun e w' => e = .returned (.int .i64 (if k ≤ bs.length then 0 else 30)) ∧ w = w' := by
  rcases h with ⟨h1, A, c, hb, _⟩ | ⟨h1, i, A, c, hb, _⟩
  · rw [if_pos h1]
    exact rdone_low p bs.length c k A false w hb
  · rw [if_neg (by omega)]
    exact rdone_low p bs.length c i A true w hb
/-- Load refuses. -/
def NoIx (w : World) (e : Ending) (w' : World) : Prop := e = .returned (.tuple #[.pointer none, .int .i64 140]) ∧ Below w.heap.size w w'
/-- Load answers an Index. -/
def GotIx (w : World) (os : List Nat) (D : List Value) (size : Int) (e : Ending) (w' : World) : Prop := ∃ p, e = .returned (.tuple #[.pointer (some ⟨p, 0, none⟩), .int .i64 0]) ∧ IxAt w' p w'.heap.size os D size ∧ Below w.heap.size w w'
set_option maxRecDepth 100000 in
set_option maxHeartbeats 1000000 in
theorem load_zero_s (A : Option Addr) (c n : Nat) (E3 : List Value) (w : World) (hE : Lists w w.heap.size A E3) (h8 : Bytes8 E3) (hl : E3.length = n) (hmn : n ≤ 3) (hm : n ≤ 281474976710656) (hc : n ≤ c) (v : Nat) (hv : rsn E3 2 0 (rd2 E3 0) = v) (h2 : 2 ≤ E3.length) (hz : v = 0) : Calls Try.prog 8 #[.slice A n c] w (GotIx w [] [] 2) := by
  have CN := fun c' => new_any A n c' E3 w hE hl h8 (by omega)
  have hL : E3.length ≤ 4611686018427387904 := by omega
  have hc3 : n ≤ c := by omega
  have hmn2 : (n : Int) ≤ 3 := by omega
  subst hz
  have CI := fun W (hb : Below w.heap.size w W) => (show GotIx w [] [] 2 (.returned (.tuple #[.pointer (some ⟨W.heap.size, 0, none⟩), .int .i64 0])) (W.alloc (.cells #[.slice none 0 0, .slice none 0 0, .int .i64 2] 50)) from ⟨W.heap.size, rfl, ⟨by simp, none, 0, none, 0, Blk.new W _ _, Lists.empty _ _ _, Lists.empty _ _ _, Nat.le_refl _, fun u hu => by simp at hu, by simp⟩, hb.alloc hb.size _⟩)
  have HCI := Lib.hid CI
  have he : (if 2 ≤ E3.length then (0 : Int) else 30) = 0 := if_pos h2
  have H2 := Lib.hid h2
  clear hE CI hl h2
  go_enter Try.func8, Try.ntmps8
  go_wp2_with (first | (go_at_call 18; ((with_reducible refine (CN _).mono ?_); rintro e w1 ⟨p, rfl, r1, b1, hp1⟩; have CU := rsU16 p E3 0 w1 (.inl ⟨Nat.zero_le _, r1⟩) (by omega); rw [hv] at CU; have hp2 := r1.lt)) | (go_at_call 19; ((with_reducible refine (CU).mono ?_); rintro e w2 ⟨rfl, r2, o2⟩; have B2 := b1.trans (o2.to_below b1.size (by simp; omega)); have CD := rs_doneI p E3 2 w2 r2; rw [he] at CD)) | (go_at_call 20; ((with_reducible refine (CD).mono ?_); rintro e w3 ⟨rfl, rfl⟩)))
  exact bodyPost_ret (v := .tuple #[.pointer (some ⟨w2.heap.size, 0, none⟩), .int .i64 0]) (by simp [results, Try.results8, go_sem]) rfl (HCI.out w2 B2)
set_option maxRecDepth 100000 in
set_option maxHeartbeats 1000000 in
theorem load_zero_l (A : Option Addr) (c n : Nat) (E3 : List Value) (w : World) (hE : Lists w w.heap.size A E3) (h8 : Bytes8 E3) (hl : E3.length = 3) (hmn : 3 < n) (hm : n ≤ 281474976710656) (hc : n ≤ c) (v : Nat) (hv : rsn E3 2 0 (rd2 E3 0) = v) (h2 : 2 ≤ E3.length) (hz : v = 0) : Calls Try.prog 8 #[.slice A n c] w (GotIx w [] [] 2) := by
  have CN := fun c' => new_any A 3 c' E3 w hE hl h8 (by omega)
  have hL : E3.length ≤ 4611686018427387904 := by omega
  have hc3 : 3 ≤ c := by omega
  have hmn2 : (3 : Int) < (n : Int) := by omega
  subst hz
  have CI := fun W (hb : Below w.heap.size w W) => (show GotIx w [] [] 2 (.returned (.tuple #[.pointer (some ⟨W.heap.size, 0, none⟩), .int .i64 0])) (W.alloc (.cells #[.slice none 0 0, .slice none 0 0, .int .i64 2] 50)) from ⟨W.heap.size, rfl, ⟨by simp, none, 0, none, 0, Blk.new W _ _, Lists.empty _ _ _, Lists.empty _ _ _, Nat.le_refl _, fun u hu => by simp at hu, by simp⟩, hb.alloc hb.size _⟩)
  have HCI := Lib.hid CI
  have he : (if 2 ≤ E3.length then (0 : Int) else 30) = 0 := if_pos h2
  have H2 := Lib.hid h2
  clear hE CI hl h2
  go_enter Try.func8, Try.ntmps8
  go_wp2_with (first | (go_at_call 18; ((with_reducible refine (CN _).mono ?_); rintro e w1 ⟨p, rfl, r1, b1, hp1⟩; have CU := rsU16 p E3 0 w1 (.inl ⟨Nat.zero_le _, r1⟩) (by omega); rw [hv] at CU; have hp2 := r1.lt)) | (go_at_call 19; ((with_reducible refine (CU).mono ?_); rintro e w2 ⟨rfl, r2, o2⟩; have B2 := b1.trans (o2.to_below b1.size (by simp; omega)); have CD := rs_doneI p E3 2 w2 r2; rw [he] at CD)) | (go_at_call 20; ((with_reducible refine (CD).mono ?_); rintro e w3 ⟨rfl, rfl⟩)))
  exact bodyPost_ret (v := .tuple #[.pointer (some ⟨w2.heap.size, 0, none⟩), .int .i64 0]) (by simp [results, Try.results8, go_sem]) rfl (HCI.out w2 B2)
set_option maxRecDepth 100000 in
set_option maxHeartbeats 1000000 in
theorem load_bad_s (A : Option Addr) (c n : Nat) (E3 : List Value) (w : World) (hE : Lists w w.heap.size A E3) (h8 : Bytes8 E3) (hl : E3.length = n) (hmn : n ≤ 3) (hm : n ≤ 281474976710656) (hc : n ≤ c) (v : Nat) (hv : rsn E3 2 0 (rd2 E3 0) = v) (hz : ¬ (2 ≤ E3.length ∧ v = 0)) (hvb : v < 65536) : Calls Try.prog 8 #[.slice A n c] w (NoIx w) := by
  have CN := fun c' => new_any A n c' E3 w hE hl h8 (by omega)
  have hL : E3.length ≤ 4611686018427387904 := by omega
  have hc3 : n ≤ c := by omega
  have hmn2 : (n : Int) ≤ 3 := by omega
  obtain ⟨wd, hwd⟩ : ∃ wd, rsn E3 1 2 (byteAt E3 2) = wd := ⟨_, rfl⟩
  have hwb : wd < 256 := by rw [← hwd]; exact rsn_lt (byteAt_lt h8 2)
  have hcase : (v = 0 ∧ E3.length < 2 ∧ wd = 0) ∨ (v ≠ 0 ∧ 2 ≤ E3.length) := by
    rcases Nat.lt_or_ge E3.length 2 with h | h
    · left
      refine ⟨?_, h, ?_⟩
      · rw [← hv]; unfold rsn; rw [if_neg (by omega)]
      · rw [← hwd]; unfold rsn; rw [if_neg (by omega)]
    · exact .inr ⟨fun h0 => hz ⟨h, h0⟩, h⟩
  have CB : ∀ W p, RS (fun b => w.heap.size ≤ b ∧ b < W.heap.size) W p E3 2 → True := fun _ _ _ => trivial
  obtain ⟨mm, hmm⟩ : ∃ mm : Nat, (v + 1) * wd = mm := ⟨_, rfl⟩
  have hmb : mm ≤ 16711680 := by rw [← hmm]; exact Nat.le_trans (Nat.mul_le_mul (show v + 1 ≤ 65536 by omega) (show wd ≤ 255 by omega)) (by decide)
  have hmi : ((v : Int) + 1) * (wd : Int) = (mm : Int) := by rw [← hmm]; push_cast; rfl
  rcases hcase with ⟨h0, h2, hw0⟩ | ⟨h0, h2⟩
  · have he : (if 2 ≤ E3.length then (0 : Int) else 30) = 30 := if_neg (by omega)
    have hm0 : mm = 0 := by rw [← hmm, hw0, Nat.mul_zero]
    subst h0 hw0 hm0
    have H2 := Lib.hid h2
    clear hE hl h2 hz hmm
    go_enter Try.func8, Try.ntmps8
    go_wp2_with (first | (go_at_call 18; ((with_reducible refine (CN _).mono ?_); rintro e w1 ⟨p, rfl, r1, b1, hp1⟩; have CU := rsU16 p E3 0 w1 (.inl ⟨Nat.zero_le _, r1⟩) (by omega); rw [hv] at CU; have hp2 := r1.lt)) | (go_at_call 19; ((with_reducible refine (CU).mono ?_); rintro e w2 ⟨rfl, r2, o2⟩; have B2 := b1.trans (o2.to_below b1.size (by simp; omega)); have CD := rs_doneI p E3 2 w2 r2; rw [he] at CD; have CE := rsU8 p E3 2 w2 r2 (by omega); rw [hwd] at CE)) | (go_at_call 20; ((with_reducible refine (CD).mono ?_); rintro e w3 ⟨rfl, rfl⟩)) | (go_at_call 21; ((with_reducible refine (CE).mono ?_); rintro e w4 ⟨rfl, r4, o4⟩; have B4 := B2.trans (o4.to_below B2.size (by simp; omega)))))
    exact bodyPost_ret (v := .tuple #[.pointer none, .int .i64 140]) (by simp [results, Try.results8, go_sem]) rfl ⟨rfl, B4⟩
  · have hvz : ((v : Int) == 0) = false := by simp; omega
    have hc2 : wd < 1 ∨ 4 < wd ∨ (1 ≤ wd ∧ wd ≤ 4 ∧ n < 3 + mm) := by
      rcases Nat.lt_or_ge wd 1 with h | h
      · exact .inl h
      · rcases Nat.lt_or_ge 4 wd with h4 | h4
        · exact .inr (.inl h4)
        · refine .inr (.inr ⟨h, h4, ?_⟩)
          have : 1 * 1 ≤ (v + 1) * wd := Nat.mul_le_mul (by omega) h
          omega
    clear hE hl hz hmm h2
    rcases hc2 with h | h | ⟨ha, hb4, hc4⟩
    all_goals
      go_enter Try.func8, Try.ntmps8
      go_wp2_with (first | (go_at_call 18; ((with_reducible refine (CN _).mono ?_); rintro e w1 ⟨p, rfl, r1, b1, hp1⟩; have CU := rsU16 p E3 0 w1 (.inl ⟨Nat.zero_le _, r1⟩) (by omega); rw [hv] at CU; have hp2 := r1.lt)) | (go_at_call 19; ((with_reducible refine (CU).mono ?_); rintro e w2 ⟨rfl, r2, o2⟩; have B2 := b1.trans (o2.to_below b1.size (by simp; omega)); have CD := rs_doneI p E3 2 w2 r2; have CE := rsU8 p E3 2 w2 r2 (by omega); rw [hwd] at CE)) | (go_at_call 20; ((with_reducible refine (CD).mono ?_); rintro e w3 ⟨rfl, rfl⟩)) | (go_at_call 21; ((with_reducible refine (CE).mono ?_); rintro e w4 ⟨rfl, r4, o4⟩; have B4 := B2.trans (o4.to_below B2.size (by simp; omega)))))
      exact bodyPost_ret (v := .tuple #[.pointer none, .int .i64 140]) (by simp [results, Try.results8, go_sem]) rfl ⟨rfl, B4⟩
set_option maxRecDepth 100000 in
set_option maxHeartbeats 1000000 in
theorem load_bad_l (A : Option Addr) (c n : Nat) (E3 : List Value) (w : World) (hE : Lists w w.heap.size A E3) (h8 : Bytes8 E3) (hl : E3.length = 3) (hmn : 3 < n) (hm : n ≤ 281474976710656) (hc : n ≤ c) (v : Nat) (hv : rsn E3 2 0 (rd2 E3 0) = v) (hz : v ≠ 0) (hvb : v < 65536) (wd mm : Nat) (hwd : rsn E3 1 2 (byteAt E3 2) = wd) (hmm : (v + 1) * wd = mm) (hbad : wd < 1 ∨ 4 < wd ∨ (1 ≤ wd ∧ wd ≤ 4 ∧ n < 3 + mm)) : Calls Try.prog 8 #[.slice A n c] w (NoIx w) := by
  have CN := fun c' => new_any A 3 c' E3 w hE hl h8 (by omega)
  have hL : E3.length ≤ 4611686018427387904 := by omega
  have hc3 : 3 ≤ c := by omega
  have hmn2 : (3 : Int) < (n : Int) := by omega
  have hwb : wd < 256 := by rw [← hwd]; exact rsn_lt (byteAt_lt h8 2)
  have hmb : mm ≤ 16711680 := by rw [← hmm]; exact Nat.le_trans (Nat.mul_le_mul (show v + 1 ≤ 65536 by omega) (show wd ≤ 255 by omega)) (by decide)
  have hmi : ((v : Int) + 1) * (wd : Int) = (mm : Int) := by rw [← hmm]; push_cast; rfl
  have hvz : ((v : Int) == 0) = false := by simp; omega
  clear hE hl hmm
  rcases hbad with h | h | ⟨ha, hb4, hc4⟩
  all_goals
    go_enter Try.func8, Try.ntmps8
    go_wp2_with (first | (go_at_call 18; ((with_reducible refine (CN _).mono ?_); rintro e w1 ⟨p, rfl, r1, b1, hp1⟩; have CU := rsU16 p E3 0 w1 (.inl ⟨Nat.zero_le _, r1⟩) (by omega); rw [hv] at CU; have hp2 := r1.lt)) | (go_at_call 19; ((with_reducible refine (CU).mono ?_); rintro e w2 ⟨rfl, r2, o2⟩; have B2 := b1.trans (o2.to_below b1.size (by simp; omega)); have CD := rs_doneI p E3 2 w2 r2; have CE := rsU8 p E3 2 w2 r2 (by omega); rw [hwd] at CE)) | (go_at_call 20; ((with_reducible refine (CD).mono ?_); rintro e w3 ⟨rfl, rfl⟩)) | (go_at_call 21; ((with_reducible refine (CE).mono ?_); rintro e w4 ⟨rfl, r4, o4⟩; have B4 := B2.trans (o4.to_below B2.size (by simp; omega)))))
    exact bodyPost_ret (v := .tuple #[.pointer none, .int .i64 140]) (by simp [results, Try.results8, go_sem]) rfl ⟨rfl, B4⟩
end Go.Proofs.Ytpaenjalpcdamaa

namespace Go.Proofs.Ytpaenjalpcdamaa
open Go Go.RowKit
set_option linter.unusedVariables false
set_option linter.unusedSimpArgs false

theorem offs_ge (bs : List Value) (wd : Nat) : ∀ m, okOs bs wd m = true → ∀ j, j < m → 0 ≤ offI bs wd j ∧ (∀ i, i < j → offI bs wd i ≤ offI bs wd j)
  | 0, _, j, hj => by omega
  | m + 1, h, j, hj => by
    have h1 : okOs bs wd m = true ∧ okO bs wd m = true := by
      unfold okOs at h ⊢
      rw [List.range_succ, List.all_append, Bool.and_eq_true] at h
      exact ⟨h.1, by simpa using h.2⟩
    rcases Nat.lt_or_ge j m with hjm | hjm
    · exact offs_ge bs wd m h1.1 j hjm
    · obtain rfl : j = m := by omega
      have h2 := of_decide_eq_true h1.2
      cases j with
      | zero =>
        simp [lastO] at h2
        exact ⟨by omega, fun i hi => by omega⟩
      | succ j =>
        have h3 := offs_ge bs wd (j + 1) h1.1 j (by omega)
        have h4 : offI bs wd j ≤ offI bs wd (j + 1) := by
          simp [lastO] at h2
          omega
        refine ⟨by omega, fun i hi => ?_⟩
        rcases Nat.lt_or_ge i j with h5 | h5
        · have := h3.2 i h5
          omega
        · obtain rfl : i = j := by omega
          exact h4
theorem offs_zero (bs : List Value) (wd m : Nat) (h : okOs bs wd (m + 1) = true) : offI bs wd 0 = 0 := by
  have h1 := List.all_eq_true.1 h 0 (List.mem_range.2 (by omega))
  have h2 := of_decide_eq_true h1
  simp [lastO] at h2
  omega
/-- The offsets, as numbers. -/
def osN (bs : List Value) (wd m : Nat) : List Nat := (List.range m).map fun i => (offI bs wd i).toNat
theorem osN_cells (bs : List Value) (wd m : Nat) (h : okOs bs wd m = true) : intCells ((osN bs wd m).map Int.ofNat) = intCells (offsL bs wd m) := by
  unfold osN offsL intCells
  rw [List.map_map, List.map_map, List.map_map]
  refine List.map_congr_left fun i hi => ?_
  have := (offs_ge bs wd m h i (List.mem_range.1 hi)).1
  simp only [Function.comp]
  congr 1
  exact Int.toNat_of_nonneg this
set_option maxRecDepth 100000 in
set_option maxHeartbeats 2000000 in
theorem load_no (A : Option Addr) (c n : Nat) (Eb E3 E2 : List Value) (w : World) (hB : Lists w w.heap.size A Eb) (h8b : Bytes8 Eb) (hbl : Eb.length = n) (hE : Lists w w.heap.size A E3) (h8 : Bytes8 E3) (hl : E3.length = 3) (hmn : 3 < n) (hm : n ≤ 281474976710656) (hc : n ≤ c) (v : Nat) (hv : rsn E3 2 0 (rd2 E3 0) = v) (hz : v ≠ 0) (hvb : v < 65536) (wd mm : Nat) (hwd : rsn E3 1 2 (byteAt E3 2) = wd) (hmm : (v + 1) * wd = mm) (hw1 : 1 ≤ wd) (hw4 : wd ≤ 4) (hfit : 3 + mm ≤ n) (he2 : E2 = (Eb.drop 3).take mm) (hno : okOs E2 wd (v + 1) = false) : Calls Try.prog 8 #[.slice A n c] w (NoIx w) := by
  have CN := fun c' => new_any A 3 c' E3 w hE hl h8 (by omega)
  have hL : E3.length ≤ 4611686018427387904 := by omega
  have hc3 : 3 ≤ c := by omega
  have hmn2 : (3 : Int) < (n : Int) := by omega
  have hmb : mm ≤ 262144 := by rw [← hmm]; exact Nat.le_trans (Nat.mul_le_mul (show v + 1 ≤ 65536 by omega) hw4) (by decide)
  have hmi : ((v : Int) + 1) * (wd : Int) = (mm : Int) := by rw [← hmm]; push_cast; rfl
  have hvz : ((v : Int) == 0) = false := by simp; omega
  have h82 : Bytes8 E2 := fun u hu => h8b u (by rw [he2] at hu; exact List.mem_of_mem_drop (List.mem_of_mem_take hu))
  have hl2 : E2.length = mm := by rw [he2]; simp; omega
  have hcut := lists_cut hB 3 (3 + mm) c (by omega) (by omega)
  rw [show 3 + mm - 3 = mm by omega, ← he2] at hcut
  have SL1 : ∀ W, (Instr.sliceAt 22 (.slice A n c) (some (.int .i64 3)) (some (.int .i64 (3 + (mm : Int)))) none).run Try.prog W = .ok (.slice (if c = 3 then A else A.map (·.add 3)) mm (c - 3)) W := fun W => by
    have h := slice_ok A n c 3 (3 + mm) (by omega) (by omega) W
    rw [show 3 + mm - 3 = mm by omega] at h
    exact h
  generalize (if c = 3 then A else A.map (·.add 3)) = A3 at *
  have CN2 := fun W (hb : Below w.heap.size w W) c' => new_any A3 mm c' E2 W ((hcut.below hb).more hb.size) hl2 h82 (by omega)
  have CR : ∀ W p2 tw to (q : Nat → Prop), RS q W p2 E2 0 → (∀ b, q b → b < W.heap.size) → p2 < W.heap.size → Blk W tw 3 #[.int .i64 (wd : Nat)] → Blk W to 43 #[.func (.func 21) #[.pointer (some ⟨p2, 0, none⟩)] #[]] → tw ≠ p2 → to ≠ p2 →
      Calls Try.prog 22 #[.int .i64 ((v : Int) + 1), .func (.func 35) #[] #[.pointer (some ⟨tw, 0, none⟩), .pointer (some ⟨to, 0, none⟩)]] W fun e w' => (okOs E2 wd (v + 1) = true → ∃ v7, e = .returned (.tuple #[v7, .bool true]) ∧ w'.ownsRow W.heap.size 3 1 v7 (v + 1) (intCells (offsL E2 wd (v + 1)))) ∧ (okOs E2 wd (v + 1) = false → e = .returned (.tuple #[.slice none 0 0, .bool false])) ∧ Only W w' [p2] := fun W p2 tw to q h1 h2 h3 h4 h5 h6 h7 => by
    have h := readOffsets_any p2 tw to wd (v + 1) E2 W h1 h2 h3 (by omega) hw4 (by omega) (by rw [hmm, hl2]; exact Nat.le_refl _) h4 h5 h6 h7
    rw [show (((v + 1 : Nat)) : Int) = (v : Int) + 1 by omega] at h
    exact h

  have HNO := Lib.hid hno
  clear hno hE hl hB hmm hcut he2 hl2 h8 h8b h82 hbl
  go_enter Try.func8, Try.ntmps8
  go_wp2_with (first | (go_at_call 18; ((with_reducible refine (CN _).mono ?_); rintro e w1 ⟨p, rfl, r1, b1, hp1⟩; have CU := rsU16 p E3 0 w1 (.inl ⟨Nat.zero_le _, r1⟩) (by omega); rw [hv] at CU; have hp2 := r1.lt)) | (go_at_call 19; ((with_reducible refine (CU).mono ?_); rintro e w2 ⟨rfl, r2, o2⟩; have B2 := b1.trans (o2.to_below b1.size (by simp; omega)); have CD := rs_doneI p E3 2 w2 r2; have CE := rsU8 p E3 2 w2 r2 (by omega); rw [hwd] at CE)) | (go_at_call 20; ((with_reducible refine (CD).mono ?_); rintro e w3 ⟨rfl, rfl⟩)) | (go_at_call 21; ((with_reducible refine (CE).mono ?_); rintro e w4 ⟨rfl, r4, o4⟩; have B4 := B2.trans (o4.to_below B2.size (by simp; omega)))) | (go_at_call 18; ((with_reducible refine (CN2 w4 B4 _).mono ?_); rintro e w5 ⟨p2, rfl, r5, b5, hp5⟩; have B5 := B4.trans (b5.mono B4.size); have hp52 := r5.lt)) | (go_at_call 23; ((with_reducible refine (reading_any wd p2 _ w5 rfl).mono ?_); rintro e w6 ⟨tw, to, rfl, KW, KF, b6, htw, hto⟩; have B6 := B5.trans (b6.mono B5.size); have r6 := r5.below b6; have hz6 := b6.size; have CO := CR w6 p2 tw to (fun b => w4.heap.size ≤ b ∧ b < w5.heap.size) (.inl ⟨Nat.zero_le _, r6⟩) (fun b hb => by omega) (by omega) KW KF (by omega) (by omega))) | (go_at_call 22; ((with_reducible refine (CO).mono ?_); rintro e w7 ⟨_, k7, o7⟩; obtain rfl := k7 HNO.out; have B7 := B6.trans (o7.to_below B6.size (by have := B4.size; simp; omega)))))
  exact bodyPost_ret (v := .tuple #[.pointer none, .int .i64 140]) (by simp [results, Try.results8, go_sem]) rfl ⟨rfl, B7⟩
set_option maxRecDepth 100000 in
set_option maxHeartbeats 2000000 in
theorem load_far (A : Option Addr) (c n : Nat) (Eb E3 E2 : List Value) (w : World) (hB : Lists w w.heap.size A Eb) (h8b : Bytes8 Eb) (hbl : Eb.length = n) (hE : Lists w w.heap.size A E3) (h8 : Bytes8 E3) (hl : E3.length = 3) (hmn : 3 < n) (hm : n ≤ 281474976710656) (hc : n ≤ c) (v : Nat) (hv : rsn E3 2 0 (rd2 E3 0) = v) (hz : v ≠ 0) (hvb : v < 65536) (wd mm : Nat) (hwd : rsn E3 1 2 (byteAt E3 2) = wd) (hmm : (v + 1) * wd = mm) (hw1 : 1 ≤ wd) (hw4 : wd ≤ 4) (hfit : 3 + mm ≤ n) (he2 : E2 = (Eb.drop 3).take mm) (hok : okOs E2 wd (v + 1) = true) (ln : Nat) (hln : offI E2 wd v = ln) (hfar : n < 3 + mm + ln) (hlb : ln < 4294967296) : Calls Try.prog 8 #[.slice A n c] w (NoIx w) := by
  have CN := fun c' => new_any A 3 c' E3 w hE hl h8 (by omega)
  have hL : E3.length ≤ 4611686018427387904 := by omega
  have hc3 : 3 ≤ c := by omega
  have hmn2 : (3 : Int) < (n : Int) := by omega
  have hmb : mm ≤ 262144 := by rw [← hmm]; exact Nat.le_trans (Nat.mul_le_mul (show v + 1 ≤ 65536 by omega) hw4) (by decide)
  have hmi : ((v : Int) + 1) * (wd : Int) = (mm : Int) := by rw [← hmm]; push_cast; rfl
  have hvz : ((v : Int) == 0) = false := by simp; omega
  have h82 : Bytes8 E2 := fun u hu => h8b u (by rw [he2] at hu; exact List.mem_of_mem_drop (List.mem_of_mem_take hu))
  have hl2 : E2.length = mm := by rw [he2]; simp; omega
  have hcut := lists_cut hB 3 (3 + mm) c (by omega) (by omega)
  rw [show 3 + mm - 3 = mm by omega, ← he2] at hcut
  have SL1 : ∀ W, (Instr.sliceAt 22 (.slice A n c) (some (.int .i64 3)) (some (.int .i64 (3 + (mm : Int)))) none).run Try.prog W = .ok (.slice (if c = 3 then A else A.map (·.add 3)) mm (c - 3)) W := fun W => by
    have h := slice_ok A n c 3 (3 + mm) (by omega) (by omega) W
    rw [show 3 + mm - 3 = mm by omega] at h
    exact h
  generalize (if c = 3 then A else A.map (·.add 3)) = A3 at *
  have CN2 := fun W (hb : Below w.heap.size w W) c' => new_any A3 mm c' E2 W ((hcut.below hb).more hb.size) hl2 h82 (by omega)
  have CR : ∀ W p2 tw to (q : Nat → Prop), RS q W p2 E2 0 → (∀ b, q b → b < W.heap.size) → p2 < W.heap.size → Blk W tw 3 #[.int .i64 (wd : Nat)] → Blk W to 43 #[.func (.func 21) #[.pointer (some ⟨p2, 0, none⟩)] #[]] → tw ≠ p2 → to ≠ p2 →
      Calls Try.prog 22 #[.int .i64 ((v : Int) + 1), .func (.func 35) #[] #[.pointer (some ⟨tw, 0, none⟩), .pointer (some ⟨to, 0, none⟩)]] W fun e w' => (okOs E2 wd (v + 1) = true → ∃ v7, e = .returned (.tuple #[v7, .bool true]) ∧ w'.ownsRow W.heap.size 3 1 v7 (v + 1) (intCells (offsL E2 wd (v + 1)))) ∧ (okOs E2 wd (v + 1) = false → e = .returned (.tuple #[.slice none 0 0, .bool false])) ∧ Only W w' [p2] := fun W p2 tw to q h1 h2 h3 h4 h5 h6 h7 => by
    have h := readOffsets_any p2 tw to wd (v + 1) E2 W h1 h2 h3 (by omega) hw4 (by omega) (by rw [hmm, hl2]; exact Nat.le_refl _) h4 h5 h6 h7
    rw [show (((v + 1 : Nat)) : Int) = (v : Int) + 1 by omega] at h
    exact h

  have HOK := Lib.hid hok
  have HLN := Lib.hid (show (intCells (offsL E2 wd (v + 1)))[v]? = some (.int .i64 (ln : Int)) by simp [intCells, offsL, hln])
  have hd : decide ((ln : Int) > (n : Int) - (3 + (mm : Int))) = true := by simp; omega
  clear hok hln hE hl hB hmm hcut he2 hl2 h8 h8b h82 hbl
  go_enter Try.func8, Try.ntmps8
  go_wp2_with (first | (go_at_call 18; ((with_reducible refine (CN _).mono ?_); rintro e w1 ⟨p, rfl, r1, b1, hp1⟩; have CU := rsU16 p E3 0 w1 (.inl ⟨Nat.zero_le _, r1⟩) (by omega); rw [hv] at CU; have hp2 := r1.lt)) | (go_at_call 19; ((with_reducible refine (CU).mono ?_); rintro e w2 ⟨rfl, r2, o2⟩; have B2 := b1.trans (o2.to_below b1.size (by simp; omega)); have CD := rs_doneI p E3 2 w2 r2; have CE := rsU8 p E3 2 w2 r2 (by omega); rw [hwd] at CE)) | (go_at_call 20; ((with_reducible refine (CD).mono ?_); rintro e w3 ⟨rfl, rfl⟩)) | (go_at_call 21; ((with_reducible refine (CE).mono ?_); rintro e w4 ⟨rfl, r4, o4⟩; have B4 := B2.trans (o4.to_below B2.size (by simp; omega)))) | (go_at_call 18; ((with_reducible refine (CN2 w4 B4 _).mono ?_); rintro e w5 ⟨p2, rfl, r5, b5, hp5⟩; have B5 := B4.trans (b5.mono B4.size); have hp52 := r5.lt)) | (go_at_call 23; ((with_reducible refine (reading_any wd p2 _ w5 rfl).mono ?_); rintro e w6 ⟨tw, to, rfl, KW, KF, b6, htw, hto⟩; have B6 := B5.trans (b6.mono B5.size); have r6 := r5.below b6; have hz6 := b6.size; have CO := CR w6 p2 tw to (fun b => w4.heap.size ≤ b ∧ b < w5.heap.size) (.inl ⟨Nat.zero_le _, r6⟩) (fun b hb => by omega) (by omega) KW KF (by omega) (by omega))) | (go_at_call 22; ((with_reducible refine (CO).mono ?_); rintro e w7 ⟨k7, _, o7⟩; obtain ⟨v7, rfl, own7⟩ := k7 HOK.out; have B7 := B6.trans (o7.to_below B6.size (by have := B4.size; simp; omega)); obtain ⟨g, cap, cur, rfl, KO, hcur⟩ := own_blk own7; have g0 := (KO.cell v).trans (hcur v _ HLN.out); have gl := KO.lt; clear hcur k7)))
  exact bodyPost_ret (v := .tuple #[.pointer none, .int .i64 140]) (by simp [results, Try.results8, go_sem]) rfl ⟨rfl, B7⟩
set_option maxRecDepth 100000 in
set_option maxHeartbeats 2000000 in
theorem load_ok (A : Option Addr) (c n : Nat) (Eb E3 E2 : List Value) (w : World) (hB : Lists w w.heap.size A Eb) (h8b : Bytes8 Eb) (hbl : Eb.length = n) (hE : Lists w w.heap.size A E3) (h8 : Bytes8 E3) (hl : E3.length = 3) (hmn : 3 < n) (hm : n ≤ 281474976710656) (hc : n ≤ c) (v : Nat) (hv : rsn E3 2 0 (rd2 E3 0) = v) (hz : v ≠ 0) (hvb : v < 65536) (wd mm : Nat) (hwd : rsn E3 1 2 (byteAt E3 2) = wd) (hmm : (v + 1) * wd = mm) (hw1 : 1 ≤ wd) (hw4 : wd ≤ 4) (hfit : 3 + mm ≤ n) (he2 : E2 = (Eb.drop 3).take mm) (hok : okOs E2 wd (v + 1) = true) (ln : Nat) (hln : offI E2 wd v = ln) (hnear : 3 + mm + ln ≤ n) (hlb : ln < 4294967296) : Calls Try.prog 8 #[.slice A n c] w (GotIx w (osN E2 wd (v + 1)) ((Eb.drop (3 + mm)).take ln) ((3 + mm + ln : Nat) : Int)) := by
  have CN := fun c' => new_any A 3 c' E3 w hE hl h8 (by omega)
  have hL : E3.length ≤ 4611686018427387904 := by omega
  have hc3 : 3 ≤ c := by omega
  have hmn2 : (3 : Int) < (n : Int) := by omega
  have hmb : mm ≤ 262144 := by rw [← hmm]; exact Nat.le_trans (Nat.mul_le_mul (show v + 1 ≤ 65536 by omega) hw4) (by decide)
  have hmi : ((v : Int) + 1) * (wd : Int) = (mm : Int) := by rw [← hmm]; push_cast; rfl
  have hvz : ((v : Int) == 0) = false := by simp; omega
  have h82 : Bytes8 E2 := fun u hu => h8b u (by rw [he2] at hu; exact List.mem_of_mem_drop (List.mem_of_mem_take hu))
  have hl2 : E2.length = mm := by rw [he2]; simp; omega
  have hcut := lists_cut hB 3 (3 + mm) c (by omega) (by omega)
  rw [show 3 + mm - 3 = mm by omega, ← he2] at hcut
  have SL1 : ∀ W, (Instr.sliceAt 22 (.slice A n c) (some (.int .i64 3)) (some (.int .i64 (3 + (mm : Int)))) none).run Try.prog W = .ok (.slice (if c = 3 then A else A.map (·.add 3)) mm (c - 3)) W := fun W => by
    have h := slice_ok A n c 3 (3 + mm) (by omega) (by omega) W
    rw [show 3 + mm - 3 = mm by omega] at h
    exact h
  generalize (if c = 3 then A else A.map (·.add 3)) = A3 at *
  have CN2 := fun W (hb : Below w.heap.size w W) c' => new_any A3 mm c' E2 W ((hcut.below hb).more hb.size) hl2 h82 (by omega)
  have CR : ∀ W p2 tw to (q : Nat → Prop), RS q W p2 E2 0 → (∀ b, q b → b < W.heap.size) → p2 < W.heap.size → Blk W tw 3 #[.int .i64 (wd : Nat)] → Blk W to 43 #[.func (.func 21) #[.pointer (some ⟨p2, 0, none⟩)] #[]] → tw ≠ p2 → to ≠ p2 →
      Calls Try.prog 22 #[.int .i64 ((v : Int) + 1), .func (.func 35) #[] #[.pointer (some ⟨tw, 0, none⟩), .pointer (some ⟨to, 0, none⟩)]] W fun e w' => (okOs E2 wd (v + 1) = true → ∃ v7, e = .returned (.tuple #[v7, .bool true]) ∧ w'.ownsRow W.heap.size 3 1 v7 (v + 1) (intCells (offsL E2 wd (v + 1)))) ∧ (okOs E2 wd (v + 1) = false → e = .returned (.tuple #[.slice none 0 0, .bool false])) ∧ Only W w' [p2] := fun W p2 tw to q h1 h2 h3 h4 h5 h6 h7 => by
    have h := readOffsets_any p2 tw to wd (v + 1) E2 W h1 h2 h3 (by omega) hw4 (by omega) (by rw [hmm, hl2]; exact Nat.le_refl _) h4 h5 h6 h7
    rw [show (((v + 1 : Nat)) : Int) = (v : Int) + 1 by omega] at h
    exact h

  have HOK := Lib.hid hok
  have HLN := Lib.hid (show (intCells (offsL E2 wd (v + 1)))[v]? = some (.int .i64 (ln : Int)) by simp [intCells, offsL, hln])
  have hd : decide ((ln : Int) > (n : Int) - (3 + (mm : Int))) = false := by simp; omega
  have h8D : Bytes8 ((Eb.drop (3 + mm)).take ln) := fun u hu => h8b u (List.mem_of_mem_drop (List.mem_of_mem_take hu))
  have hlD : ((Eb.drop (3 + mm)).take ln).length = ln := by simp; omega
  have hcut2 := lists_cut hB (3 + mm) (3 + mm + ln) c (by omega) (by omega)
  rw [show 3 + mm + ln - (3 + mm) = ln by omega] at hcut2
  have SL2 : ∀ W, (Instr.sliceAt 22 (.slice A n c) (some (.int .i64 (3 + (mm : Int)))) (some (.int .i64 (3 + (mm : Int) + (ln : Int)))) none).run Try.prog W = .ok (.slice (if c = 3 + mm then A else A.map (·.add (3 + mm))) ln (c - (3 + mm))) W := fun W => by
    have h := slice_ok A n c (3 + mm) (3 + mm + ln) (by omega) (by omega) W
    rw [show 3 + mm + ln - (3 + mm) = ln by omega] at h
    exact h
  have HOS := Lib.hid (osN_cells E2 wd (v + 1) hok)
  have hol : (osN E2 wd (v + 1)).length = v + 1 := by simp [osN]
  have HOL := Lib.hid hol
  have H8D := Lib.hid h8D
  have HLD := Lib.hid hlD
  generalize (if c = 3 + mm then A else A.map (·.add (3 + mm))) = A4 at *
  generalize (Eb.drop (3 + mm)).take ln = D at *
  have CC := fun W (hb : Below w.heap.size w W) c' => clone_any A4 ln c' D W ((hcut2.below hb).more hb.size) hlD h8D (by omega)
  generalize osN E2 wd (v + 1) = os at *
  clear hok hln hE hl hB hmm hcut he2 hl2 h8 h8b h82 hbl hcut2 h8D hlD hol
  go_enter Try.func8, Try.ntmps8
  go_wp2_with (first | (go_at_call 18; ((with_reducible refine (CN _).mono ?_); rintro e w1 ⟨p, rfl, r1, b1, hp1⟩; have CU := rsU16 p E3 0 w1 (.inl ⟨Nat.zero_le _, r1⟩) (by omega); rw [hv] at CU; have hp2 := r1.lt)) | (go_at_call 19; ((with_reducible refine (CU).mono ?_); rintro e w2 ⟨rfl, r2, o2⟩; have B2 := b1.trans (o2.to_below b1.size (by simp; omega)); have CD := rs_doneI p E3 2 w2 r2; have CE := rsU8 p E3 2 w2 r2 (by omega); rw [hwd] at CE)) | (go_at_call 20; ((with_reducible refine (CD).mono ?_); rintro e w3 ⟨rfl, rfl⟩)) | (go_at_call 21; ((with_reducible refine (CE).mono ?_); rintro e w4 ⟨rfl, r4, o4⟩; have B4 := B2.trans (o4.to_below B2.size (by simp; omega)))) | (go_at_call 18; ((with_reducible refine (CN2 w4 B4 _).mono ?_); rintro e w5 ⟨p2, rfl, r5, b5, hp5⟩; have B5 := B4.trans (b5.mono B4.size); have hp52 := r5.lt)) | (go_at_call 23; ((with_reducible refine (reading_any wd p2 _ w5 rfl).mono ?_); rintro e w6 ⟨tw, to, rfl, KW, KF, b6, htw, hto⟩; have B6 := B5.trans (b6.mono B5.size); have r6 := r5.below b6; have hz6 := b6.size; have CO := CR w6 p2 tw to (fun b => w4.heap.size ≤ b ∧ b < w5.heap.size) (.inl ⟨Nat.zero_le _, r6⟩) (fun b hb => by omega) (by omega) KW KF (by omega) (by omega))) | (go_at_call 22; ((with_reducible refine (CO).mono ?_); rintro e w7 ⟨k7, _, o7⟩; obtain ⟨v7, rfl, own7⟩ := k7 HOK.out; have B7 := B6.trans (o7.to_below B6.size (by have := B4.size; simp; omega)); obtain ⟨A7, c7, hv7, hl7, _⟩ := own_lists own7; obtain ⟨g, cap, cur, rfl, KO, hcur⟩ := own_blk own7; have g0 := (KO.cell v).trans (hcur v _ HLN.out); have gl := KO.lt; have HL7 := Lib.hid hl7; have HV7 := Lib.hid hv7; clear hcur k7 hl7 hv7)) | (go_at_call 24; ((with_reducible refine (CC w7 B7 _).mono ?_); rintro e w8 ⟨A8, c8, rfl, l8, hc8, hm8, b8, hf8⟩; have B8 := B7.trans (b8.mono B7.size); have l7 := Lib.hid ((HL7.out.below b8).more b8.size))))
  have hal : Below w8.heap.size w8 (w8.alloc (.cells #[.slice (some ⟨g, 0, none⟩) (v + 1) cap, .slice A8 D.length c8, .int .i64 (3 + (mm : Int) + (ln : Int))] 50)) := (Below.refl _ _).alloc (Nat.le_refl _) _
  have hV := HV7.out
  have hfin : GotIx w os D ((3 + mm + ln : Nat) : Int) (.returned (.tuple #[.pointer (some ⟨w8.heap.size, 0, none⟩), .int .i64 0])) (w8.alloc (.cells #[.slice (some ⟨g, 0, none⟩) (v + 1) cap, .slice A8 D.length c8, .int .i64 (3 + (mm : Int) + (ln : Int))] 50)) := by
    refine ⟨w8.heap.size, rfl, ⟨by simp, some ⟨g, 0, none⟩, cap, A8, c8, ?_, ?_, ?_, ?_, H8D.out, by rw [HLD.out]; omega⟩, B8.trans (hal.mono B8.size)⟩
    · rw [HOL.out]
      exact Blk.new w8 50 _
    · rw [HOS.out]
      cases hV
      exact (l7.out.below hal).more hal.size
    · exact (l8.below hal).more hal.size
    · exact hc8
  exact bodyPost_ret (v := .tuple #[.pointer (some ⟨w8.heap.size, 0, none⟩), .int .i64 0]) (by simp [results, Try.results8, go_sem]) rfl hfin
end Go.Proofs.Ytpaenjalpcdamaa

namespace Go.Proofs.Ytpaenjalpcdamaa
open Go Go.RowKit
set_option linter.unusedVariables false
set_option linter.unusedSimpArgs false

/-- A writer that may be full, made since w0. -/
def WSF (w0 w : World) (p R : Nat) (F : Bool) (L : List Value) : Prop := ∃ fp, Wr w p R F L fp ∧ Below w0.heap.size w0 w ∧ ∀ b ∈ fp, w0.heap.size ≤ b
theorem WSF.old {w0 w : World} {p R : Nat} {F : Bool} {L : List Value} (h : WSF w0 w p R F L) : Below w0.heap.size w0 w := h.elim fun _ h => h.2.1
theorem WSF.ws {w0 w : World} {p R : Nat} {L : List Value} (h : WSF w0 w p R false L) : WS w0 w p R L := h
theorem WSF.full {w0 w : World} {p R : Nat} {L : List Value} (h : WSF w0 w p R true L) : Calls Try.prog 30 #[.pointer (some ⟨p, 0, none⟩)] w fun e w' => e = .returned (.tuple #[.slice none 0 0, .int .i64 2]) ∧ Below w.heap.size w w' := by
  obtain ⟨fp, h1, _⟩ := h
  exact wdone_full p R L fp w h1
theorem wsf_data (w0 w : World) (p R : Nat) (F : Bool) (L : List Value) (A : Option Addr) (m c : Nat) (X : List Value) (h : WSF w0 w p R F L) (hX : Lists w w0.heap.size A X) (hm : X.length = m) (h8 : Bytes8 X) (hR : R ≤ 1099511627776) :
    Calls Try.prog 29 #[.pointer (some ⟨p, 0, none⟩), .slice A m c] w fun e w' => e = .returned (.pointer (some ⟨p, 0, none⟩)) ∧ WSF w0 w' p R (putF R F L X) (putL R F L X) := by
  obtain ⟨fp, hW, b, hf⟩ := h
  have hp : p ∈ fp := by
    obtain ⟨D, G, dv, gv, _, _, _, _, _, _, _, rfl⟩ := hW
    exact List.mem_cons_self ..
  refine (data_any p R F L fp A m c w0.heap.size X w hW hR hX hm b.size h8 (fun a ha hne => ?_)).mono fun e w' ⟨he, fp', h1, h2, h3⟩ => ⟨he, fp', h1, b.trans (h2.to_below b.size hf), fun x hx => ?_⟩
  · have := hX.lt a ha hne
    have := hf p hp
    omega
  · rcases h3 x hx with h | h
    · exact hf x h
    · have := b.size; omega
/-- What Put puts ahead of the lists. -/
def hdE (Ls : List (List Value)) : List Value := if Ls.length = 0 then be2 0 else be2 (Ls.length : Nat) ++ offE Ls
def putIx (Ls : List (List Value)) : List Value := hdE Ls ++ Ls.flatten
def okIx (Ls : List (List Value)) : Bool := decide (Ls.length ≤ 65535) && decide ((putIx Ls).length ≤ 1048576)
theorem putIx_len (Ls : List (List Value)) : (putIx Ls).length = (hdE Ls).length + tot Ls := by
  unfold putIx
  rw [List.length_append, List.length_flatten]
  rfl
theorem wd_le {x : Nat} (h1 : 1 ≤ x) (h2 : x ≤ 16777215) : 1 ≤ wdN x ∧ wdN x ≤ 3 := by
  unfold wdN
  repeat' split
  all_goals omega
theorem hd_len (Ls : List (List Value)) (hn : Ls.length ≤ 65535) (ht : tot Ls ≤ 8388608) : (hdE Ls).length ≤ 262147 := by
  unfold hdE
  split
  · simp [be2]
  · obtain ⟨h1, h3⟩ := wd_le (x := 1 + tot Ls) (by omega) (by omega)
    unfold offE
    generalize wdN (1 + tot Ls) = wd at *
    have hlen : ∀ l : List Nat, (l.flatMap fun o => beN wd ((o : Nat) : Int)).length = l.length * wd := fun l => by
      induction l with
      | nil => simp
      | cons x l ih => rw [List.flatMap_cons, List.length_append, ih, beN_len h1 h3, List.length_cons, Nat.add_mul]; omega
    have h5 : (Ls.length + 1) * wd ≤ 65536 * 3 := Nat.mul_le_mul (by omega) h3
    rw [List.length_append, List.length_append, hlen, offT_len]
    simp [be2, be1]
    omega
/-- What Put answers. -/
def PutPost (w : World) (Ls : List (List Value)) (e : Ending) (w' : World) : Prop := (okIx Ls = true → Gave w (putIx Ls) e w') ∧ (okIx Ls = false → e = .returned (.tuple #[.slice none 0 0, .int .i64 3]) ∧ Below w.heap.size w w')
set_option maxRecDepth 100000 in
theorem put_many (A : Option Addr) (c n : Nat) (w : World) (hn : 65535 < n) (hn2 : n ≤ 4611686018427387904) : Calls Try.prog 12 #[.slice A n c] w fun e w' => e = .returned (.tuple #[.slice none 0 0, .int .i64 3]) ∧ Below w.heap.size w w' := by
  have d0 : decide ((n : Int) > 65535) = true := by simp; omega
  go_enter Try.func12, Try.ntmps12
  go_wp2
  exact bodyPost_ret (v := .tuple #[.slice none 0 0, .int .i64 3]) (by simp [results, Try.results12, go_sem]) rfl ⟨rfl, Below.refl _ _⟩
set_option maxRecDepth 100000 in
set_option maxHeartbeats 2000000 in
theorem put_few (A : Option Addr) (c n : Nat) (Ls : List (List Value)) (hd : List Value) (w : World) (hl : RowsAt w w.heap.size A Ls) (h8 : ∀ L ∈ Ls, Bytes8 L) (hnn : Ls.length = n) (hn : n ≤ 65535) (ht : tot Ls ≤ 8388608) (hhd : hdE Ls = hd) (Q : Ending → World → Prop)
    (hfin : (¬ 1048576 < hd.length + tot Ls → ∀ e w', Gave w (hd ++ Ls.flatten) e w' → Q e w') ∧ (1048576 < hd.length + tot Ls → ∀ w', Below w.heap.size w w' → Q (.returned (.tuple #[.slice none 0 0, .int .i64 3])) w')) :
    Calls Try.prog 12 #[.slice A n c] w Q := by
  have HL := Lib.hid hl
  have H8 := Lib.hid h8
  have HN := Lib.hid hnn
  have HFIN := Lib.hid hfin
  have hhl := hd_len Ls (by omega) ht
  rw [hhd] at hhl
  have d0 : decide ((n : Int) > 65535) = false := by simp; omega
  have CT : ∀ W, Below w.heap.size w W → Calls Try.prog 26 #[.int .i64 1048576] W (MadeWS w W 1048576) := fun W hb => wsTo w W 1048576 hb
  have hWS0 : ∀ w2 p, WS w w2 p 1048576 (be2 (n : Nat)) → n = 0 → WSF w w2 p 1048576 false hd := fun w2 p h h0 => by
    subst h0
    rw [← hhd]
    unfold hdE
    rw [hnn, if_pos rfl]
    exact h
  have HWS0 := Lib.hid hWS0
  have CP : ∀ w2 p, 0 < n → WS w w2 p 1048576 (be2 (n : Nat)) → Calls Try.prog 28 #[.pointer (some ⟨p, 0, none⟩), .slice A n c] w2 fun e w' => e = .returned (.tuple #[]) ∧ WSF w w' p 1048576 false hd := fun w2 p h0 h => by
    have h9 := putOffsets_any w w2 p 1048576 w.heap.size (be2 (n : Nat)) A c Ls h h.old.size (hl.below h.old) (by omega) ht (by simp [be2]) (by decide)
    rw [hnn] at h9
    refine h9.mono fun e w' ⟨h1, h2⟩ => ⟨h1, ?_⟩
    rw [← hhd]
    unfold hdE
    rw [hnn, if_neg (by omega)]
    exact h2
  clear hl h8 hnn hfin hhd hWS0
  go_enter Try.func12, Try.ntmps12
  go_upto_if 18 with (first
    | (go_at_call 26; ((with_reducible refine (CT _ (Below.refl _ _)).mono ?_); rintro e w1 ⟨p, rfl, h1, b1⟩))
    | (go_at_call 27; ((with_reducible refine (wsU16 w _ p 1048576 [] (n : Nat) h1 (by decide) (by decide)).mono ?_); rintro e w2 ⟨rfl, h2, s2, z2⟩)))
  go_cut [4] from 9 (fun pv wx => pv = .pointer (some ⟨p, 0, none⟩) ∧ WSF w wx p 1048576 false hd)
  case first =>
    by_cases h0 : 0 < n
    · have d2 : decide ((n : Int) > 0) = true := by simp; omega
      go_wp2_with (go_at_call 28; ((with_reducible refine (CP _ p h0 h2).mono ?_); rintro e w3 ⟨rfl, h3⟩))
      go_meet
      case rel => exact ⟨rfl, h3⟩
    · obtain rfl : n = 0 := by omega
      have d2 : decide (((0 : Nat) : Int) > 0) = false := by simp
      go_wp2
      go_meet
      case rel => exact ⟨rfl, HWS0.out _ _ h2 (by trivial)⟩
  case rest =>
  obtain ⟨rfl, hWS⟩ := hcut
  clear CP HWS0 h1 h2 s2
  go_wp2
  go_loopw [24] (fun iv wr => ∃ k : Nat, k ≤ n ∧ iv = .int .i64 (k : Nat) ∧ ∃ F L', WSF w wr p 1048576 F L' ∧ Hid (F = decide (1048576 < hd.length + tot (Ls.take k))) ∧ Hid (F = false → L' = hd ++ (Ls.take k).flatten)) (fun iv _ => n - (intOf iv).toNat)
  case atStart => exact ⟨0, Nat.zero_le _, rfl, false, hd, hWS, Lib.hid (by simp [tot]; omega), Lib.hid (fun _ => by simp)⟩
  case round =>
    obtain ⟨k, hk, rfl, F, L', HW, HF, HLL⟩ := hrel
    clear hWS
    by_cases hlt : k < n
    · have d1 : decide ((k : Int) < (n : Int)) = true := by simp; omega
      obtain ⟨M, hM⟩ : ∃ M, Ls[k]? = some M := ⟨Ls[k]'(by rw [HN.out]; exact hlt), List.getElem?_eq_getElem _⟩
      obtain ⟨b, o, Ai, ci, rfl, hbl, c0, hE⟩ := HL.out.at' k M hM
      have hbo := HW.old
      have g0 := (hbo.cell (p := ⟨b, o + k, none⟩) hbl).trans c0
      have hbr := Nat.lt_of_lt_of_le hbl hbo.size
      have CD := wsf_data w wr p 1048576 F L' Ai M.length ci M HW (hE.below hbo) rfl (H8.out M (List.mem_of_getElem? hM)) (by decide)
      have hT : Ls.take (k + 1) = Ls.take k ++ [M] := by rw [List.take_add_one, hM]; rfl
      have HF2 := Lib.hid (show putF 1048576 F L' M = decide (1048576 < hd.length + tot (Ls.take (k + 1))) by
        rw [hT, tot_snoc]
        unfold putF
        have h1 := HF.out
        cases F
        · rw [HLL.out rfl, List.length_append, List.length_flatten]
          have : (List.map List.length (Ls.take k)).sum = tot (Ls.take k) := rfl
          rw [this, Bool.false_or, Nat.add_assoc]
        · have h2 := of_decide_eq_true h1.symm
          simp
          omega)
      have HL2 := Lib.hid (show putF 1048576 F L' M = false → putL 1048576 F L' M = hd ++ (Ls.take (k + 1)).flatten from fun hf => by
        unfold putL
        rw [hf, if_neg (by simp)]
        have h1 : F = false := by
          unfold putF at hf
          simp at hf
          exact hf.1
        rw [HLL.out h1, hT, List.flatten_append]
        simp)
      obtain ⟨ml, hml⟩ : ∃ ml, M.length = ml := ⟨_, rfl⟩
      rw [hml] at c0 g0 CD
      generalize putF 1048576 F L' M = F2 at *
      generalize putL 1048576 F L' M = L2 at *
      clear hM c0 hE hml hT
      go_wp2_with (go_at_call 29; ((with_reducible refine (CD).mono ?_); rintro e w3 ⟨rfl, h3⟩))
      go_roundw
      case rel => exact ⟨k + 1, by omega, by go_num, F2, L2, h3, HF2, HL2⟩
      case measure => simp [intOf]; omega
    · obtain rfl : k = n := by omega
      have d1 : decide ((k : Int) < (k : Int)) = false := by simp
      have hTk : Ls.take k = Ls := List.take_of_length_le (by rw [HN.out]; exact Nat.le_refl _)
      rw [hTk] at HF HLL
      clear hTk
      cases F
      · have CX := wsDone w wr p 1048576 L' HW.ws (by decide)
        have HG := Lib.hid (show ∀ e w', Gave w L' e w' → _ from fun e w' hg => HFIN.out.1 (of_decide_eq_false HF.out.symm) e w' (by rw [← HLL.out rfl]; exact hg))
        go_wp2_with (go_at_call 30; ((with_reducible refine (CX).mono ?_); rintro e w4 ⟨A9, c9, rfl, ho9, b9⟩))
        exact HG.out _ _ ⟨A9, c9, rfl, ho9, b9⟩
      · have CX := HW.full
        have HG := HFIN.out.2 (of_decide_eq_true HF.out.symm)
        have HGG := Lib.hid HG
        clear HG
        go_wp2_with (go_at_call 30; ((with_reducible refine (CX).mono ?_); rintro e w4 ⟨rfl, b4⟩))
        exact HGG.out _ (HW.old.trans (b4.mono HW.old.size))
theorem put_any (A : Option Addr) (c : Nat) (Ls : List (List Value)) (w : World) (hl : RowsAt w w.heap.size A Ls) (h8 : ∀ L ∈ Ls, Bytes8 L) (hn : Ls.length ≤ 4611686018427387904) (ht : Ls.length ≤ 65535 → tot Ls ≤ 8388608) :
    Calls Try.prog 12 #[.slice A Ls.length c] w (PutPost w Ls) := by
  rcases Nat.lt_or_ge 65535 Ls.length with h | h
  · exact (put_many A c _ w h hn).mono fun e w' k => ⟨fun hk => absurd (of_decide_eq_true (Bool.and_eq_true_iff.1 hk).1) (by omega), fun _ => k⟩
  · have hl2 := putIx_len Ls
    refine put_few A c _ Ls (hdE Ls) w hl h8 rfl h (ht h) rfl _ ⟨fun hr e w' hg => ⟨fun _ => hg, fun hk => ?_⟩, fun hr w' hb => ⟨fun hk => ?_, fun _ => ⟨rfl, hb⟩⟩⟩
    · rw [show okIx Ls = true by unfold okIx; rw [decide_eq_true h, decide_eq_true (by omega)]; rfl] at hk
      cases hk
    · have := of_decide_eq_true (Bool.and_eq_true_iff.1 hk).2
      omega
end Go.Proofs.Ytpaenjalpcdamaa

namespace Go.Proofs.Ytpaenjalpcdamaa
open Go Go.RowKit
set_option linter.unusedVariables false
set_option linter.unusedSimpArgs false

/-- What Load makes of bytes: offsets, bytes, size. -/
def ldX (E : List Value) : Option (List Nat × List Value × Nat) :=
  if E.length < 2 then none
  else if rd2 E 0 = 0 then some ([], [], 2)
  else
    let v := rd2 E 0
    let wd := byteAt E 2
    let mm := (v + 1) * wd
    let E2 := (E.drop 3).take mm
    let ln := (offI E2 wd v).toNat
    if 1 ≤ wd ∧ wd ≤ 4 ∧ 3 + mm ≤ E.length ∧ okOs E2 wd (v + 1) = true ∧ 3 + mm + ln ≤ E.length then some (osN E2 wd (v + 1), (E.drop (3 + mm)).take ln, 3 + mm + ln) else none
def LdPost (w : World) (r : Option (List Nat × List Value × Nat)) (e : Ending) (w' : World) : Prop :=
  match r with
  | some (os, D, s) => GotIx w os D (s : Nat) e w'
  | none => NoIx w e w'
theorem take3_rd2 {E : List Value} (h : 2 ≤ E.length) : rsn (E.take 3) 2 0 (rd2 (E.take 3) 0) = rd2 E 0 := by
  unfold rsn
  rw [if_pos (by simp; omega), rd2_take (by omega)]
theorem byteAt_out {E : List Value} {i : Nat} (h : E.length ≤ i) : byteAt E i = 0 := by
  unfold byteAt
  rw [List.getD, List.getElem?_eq_none h]
  rfl
theorem take3_b {E : List Value} : rsn (E.take 3) 1 2 (byteAt (E.take 3) 2) = byteAt E 2 := by
  unfold rsn
  rw [byteAt_take (by omega)]
  split
  · rfl
  · rename_i h
    simp at h
    exact (byteAt_out (by omega)).symm
theorem load_any (A : Option Addr) (c : Nat) (E : List Value) (w : World) (hE : Lists w w.heap.size A E) (h8 : Bytes8 E) (hc : E.length ≤ c) (hm : E.length ≤ 281474976710656) :
    Calls Try.prog 8 #[.slice A E.length c] w (LdPost w (ldX E)) := by
  have hE3 : Lists w w.heap.size A (E.take 3) := lists_takeF hE 3
  have h83 : Bytes8 (E.take 3) := fun u hu => h8 u (List.mem_of_mem_take hu)
  have hvb : rd2 E 0 < 65536 := rd2_lt h8 0
  have bad : ldX E = none → ∀ e w', NoIx w e w' → LdPost w (ldX E) e w' := fun h e w' k => by rw [h]; exact k
  rcases Nat.lt_or_ge E.length 2 with h2 | h2
  · have hn : ldX E = none := by unfold ldX; rw [if_pos h2]
    have hv : rsn (E.take 3) 2 0 (rd2 (E.take 3) 0) = 0 := by unfold rsn; rw [if_neg (by simp; omega)]
    exact (load_bad_s A c E.length (E.take 3) w hE3 h83 (by simp; omega) (by omega) hm hc 0 hv (fun h => by have := h.1; simp at this; omega) (by omega)).mono (bad hn)
  · by_cases hz : rd2 E 0 = 0
    · have hn : ldX E = some ([], [], 2) := by unfold ldX; rw [if_neg (by omega), if_pos hz]
      have hv : rsn (E.take 3) 2 0 (rd2 (E.take 3) 0) = 0 := by rw [take3_rd2 h2, hz]
      rw [hn]
      rcases Nat.lt_or_ge 3 E.length with h3 | h3
      · exact load_zero_l A c E.length (E.take 3) w hE3 h83 (by simp; omega) h3 hm hc 0 hv (by simp; omega) rfl
      · exact load_zero_s A c E.length (E.take 3) w hE3 h83 (by simp; omega) h3 hm hc 0 hv (by simp; omega) rfl
    · rcases Nat.lt_or_ge 3 E.length with h3 | h3
      · obtain ⟨v, hv⟩ : ∃ v, rd2 E 0 = v := ⟨_, rfl⟩
        obtain ⟨wd, hwd⟩ : ∃ wd, byteAt E 2 = wd := ⟨_, rfl⟩
        obtain ⟨mm, hmm⟩ : ∃ mm, (v + 1) * wd = mm := ⟨_, rfl⟩
        obtain ⟨E2, he2⟩ : ∃ E2, E2 = (E.drop 3).take mm := ⟨_, rfl⟩
        have hv3 : rsn (E.take 3) 2 0 (rd2 (E.take 3) 0) = v := by rw [take3_rd2 h2, hv]
        have hw3 : rsn (E.take 3) 1 2 (byteAt (E.take 3) 2) = wd := by rw [take3_b, hwd]
        rw [hv] at hz hvb
        have hx : ldX E = if 1 ≤ wd ∧ wd ≤ 4 ∧ 3 + mm ≤ E.length ∧ okOs E2 wd (v + 1) = true ∧ 3 + mm + (offI E2 wd v).toNat ≤ E.length then some (osN E2 wd (v + 1), (E.drop (3 + mm)).take (offI E2 wd v).toNat, 3 + mm + (offI E2 wd v).toNat) else none := by
          unfold ldX
          rw [if_neg (by omega), hv, if_neg hz, hwd]
          simp only [hmm, ← he2]
        by_cases hh : 1 ≤ wd ∧ wd ≤ 4 ∧ 3 + mm ≤ E.length
        · obtain ⟨h1, h4, hfit⟩ := hh
          cases hok : okOs E2 wd (v + 1)
          · have hn : ldX E = none := by rw [hx, if_neg (by rw [hok]; simp)]
            exact (load_no A c E.length E (E.take 3) E2 w hE h8 rfl hE3 h83 (by simp; omega) h3 hm hc v hv3 hz hvb wd mm hw3 hmm h1 h4 hfit he2 hok).mono (bad hn)
          · have hge := (offs_ge E2 wd (v + 1) hok v (by omega)).1
            obtain ⟨ln, hln⟩ : ∃ ln : Nat, offI E2 wd v = ln := ⟨(offI E2 wd v).toNat, by omega⟩
            rw [hln, Int.toNat_natCast] at hx
            have hlb : ln < 4294967296 := by
              have h82 : Bytes8 E2 := fun u hu => h8 u (by rw [he2] at hu; exact List.mem_of_mem_drop (List.mem_of_mem_take hu))
              have := rdB_lt h82 wd (v * wd) h4
              unfold offI at hln
              omega
            rcases Nat.lt_or_ge E.length (3 + mm + ln) with hfar | hnear
            · have hn : ldX E = none := by rw [hx, if_neg (by omega)]
              exact (load_far A c E.length E (E.take 3) E2 w hE h8 rfl hE3 h83 (by simp; omega) h3 hm hc v hv3 hz hvb wd mm hw3 hmm h1 h4 hfit he2 hok ln hln hfar hlb).mono (bad hn)
            · rw [hx, if_pos ⟨h1, h4, hfit, hok, hnear⟩]
              exact load_ok A c E.length E (E.take 3) E2 w hE h8 rfl hE3 h83 (by simp; omega) h3 hm hc v hv3 hz hvb wd mm hw3 hmm h1 h4 hfit he2 hok ln hln hnear hlb
        · have hn : ldX E = none := by rw [hx, if_neg (fun h => hh ⟨h.1, h.2.1, h.2.2.1⟩)]
          exact (load_bad_l A c E.length (E.take 3) w hE3 h83 (by simp; omega) h3 hm hc v hv3 hz hvb wd mm hw3 hmm (by omega)).mono (bad hn)
      · have hv : rsn (E.take 3) 2 0 (rd2 (E.take 3) 0) = rd2 E 0 := take3_rd2 h2
        have hn : ldX E = none := by
          unfold ldX
          rw [if_neg (by omega), if_neg hz]
          simp only
          rw [if_neg]
          intro h
          have : (1 + 1) * 1 ≤ (rd2 E 0 + 1) * byteAt E 2 := Nat.mul_le_mul (by omega) h.1
          omega
        exact (load_bad_s A c E.length (E.take 3) w hE3 h83 (by simp; omega) h3 hm hc _ hv (fun h => hz h.2) hvb).mono (bad hn)
set_option maxRecDepth 100000 in
theorem ixall_any (v : Value) (hv : v.oneCell' = true) (w : World) : Calls Try.prog 14 #[v] w fun e w' => ∃ k, e = .returned (.func (.func 32) #[] #[.pointer (some ⟨k, 0, none⟩)]) ∧ Blk w' k 24 #[v] ∧ Below w.heap.size w w' := by
  have K := Blk.new w 24 #[v]
  have B := (Below.refl w.heap.size w).alloc (Nat.le_refl _) (.cells #[v] 24)
  have hc : v.cells = #[v] := by cases v <;> first | rfl | simp [Value.oneCell'] at hv
  go_enter Try.func14, Try.ntmps14
  go_wp2
  go_ret
  exact ⟨_, rfl, K, B⟩
end Go.Proofs.Ytpaenjalpcdamaa

namespace Go.Proofs.Ytpaenjalpcdamaa
open Go Go.RowKit

/-- What bears whatever is laid later. -/
def Stays {β : Type} (I : β → World → Prop) : Prop := ∀ s W W', I s W → Below W.heap.size W W' → I s W'

theorem stays_own {β : Type} {B : Nat} {I : β → World → Prop} (h : OwnFrom B I) : Stays I := fun s W W' hs hb =>
  h s W W' none hs ⟨hb.os, hb.tape, hb.output, hb.size, fun k hk _ => hb.block k hk⟩ (fun r e => by cases e)

/-- An iterator's word: wherever it yields x, behind those of pre, C pre x holds of the memory. -/
def SeqC {α : Type} (F : Fence) (n : Nat) (P : Program) (g : Nat) (lb : Array Value) (encs : α → Array Value) (C : List α → α → World → Prop) (Kp : World → World → Prop)
    (S Sp : List α → Prop) (w : World) : Prop :=
  ∀ (l : Nat) (J Jx : List α → World → Prop) (W : World), Below w.heap.size w W → Stays J → Stays Jx →
    (∀ pre x V, J pre V → C pre x V → YieldAt F (n - 1) P l (encs x) V fun e V' =>
      (e = .returned (.bool true) ∧ J (pre ++ [x]) V' ∧ Kp V V') ∨ (e = .returned (.bool false) ∧ Jx (pre ++ [x]) V')) →
    J [] W →
    CallsIn F n P g (#[.func (.yield l) #[] #[]] ++ lb) W fun e V => (∃ v, e = .returned v) ∧ ((∃ xs, S xs ∧ J xs V) ∨ (∃ pre, Sp pre ∧ Jx pre V))

/-- The two blocks of a loop's own, as they lie between its rounds. -/
structure Books (B : Nat) (r : Loop) (W : World) : Prop where
  marks : W.heap[B]? = some (.deferred (some []))
  record : W.heap[B + 1]? = some (.loop r)

theorem Books.lt {B : Nat} {r : Loop} {W : World} (h : Books B r W) : B + 1 < W.heap.size := (Array.getElem?_eq_some_iff.1 h.record).1
theorem Books.below {B : Nat} {r : Loop} {W V : World} (h : Books B r W) (hb : Below W.heap.size W V) : Books B r V :=
  ⟨(hb.block _ (by have := h.lt; omega)).trans h.marks, (hb.block _ h.lt).trans h.record⟩
theorem Books.put {B : Nat} {r : Loop} {W : World} (h : Books B r W) (r' : Loop) : Books B r' (W.putObj (B + 1) (.loop r')) :=
  ⟨(World.putObj_heap_other (by omega)).trans h.marks, World.putObj_heap_same h.lt⟩
theorem Books.others {B : Nat} {r : Loop} {W V : World} (h : Books B r W) (hk : KeepsOthers W V) : Books B r V :=
  ⟨hk.same _ _ h.marks rfl, hk.same _ _ h.record rfl⟩
theorem OwnFrom.book {β : Type} {B : Nat} {I : β → World → Prop} (h : OwnFrom B I) {s : β} {W : World} {r : Loop} (hb : Books B r W) (hs : I s W) (r' : Loop) : I s (W.putObj (B + 1) (.loop r')) :=
  h.putObj _ hs (by omega) hb.record rfl

variable {F : Fence} {n : Nat} {P : Program}

/-- How a body may end, by the jump that it leaves behind (none: the loop goes on). -/
def outC {α : Type} (Kp : World → World → Prop) (I : List α → World → Prop) (Ix : Code → List α → World → Prop) (xs : List α) (W : World) : Exit → Act → World → Prop
  | .normal, _, V => KeepsOthers W V ∧ Kp W V ∧ I xs V
  | .ret, _, V => KeepsOthers W V ∧ Ix .ret xs V
  | .exit id, _, V => KeepsOthers W V ∧ Ix (.exit id) xs V
  | _, _, _ => False

theorem wpIn_rangeC {α : Type} {g : Operand} {ps : Array Tmp} {assign body : Code} {Q : Exit → Act → World → Prop} {a : Act} {w : World}
    (hro : F.round = none) (h1 : 1 ≤ n) {gf : Nat} {lb : Array Value} (hg : a.eval g = .func (.func gf) #[] lb) (hFg : F.fn gf) (eg : ∀ args w, (callFunc gf args).run P w = .ok (.enter gf args) w)
    {encs : α → Array Value} {C : List α → α → World → Prop} {Kp : World → World → Prop} {S Sp : List α → Prop} {w0 : World} (hseq : SeqC F (n - 1) P gf lb encs C Kp S Sp w0)
    (hKt : ∀ {X Y Z : World}, Kp X Y → Kp Y Z → Kp X Z)
    (hKb : ∀ (W : World) (l : Nat) (o o' : Obj), w.heap.size ≤ l → W.heap[l]? = some o → o.isCells = false → o.isWalk = false → Kp W (W.putObj l o'))
    (hb0 : Below w0.heap.size w0 w) (hps : ∀ x, (encs x).size = ps.size) (hC : ∀ pre, OwnFrom w.heap.size (C pre))
    (I : List α → World → Prop) (Ix : Code → List α → World → Prop) (hI : OwnFrom w.heap.size I) (hIx : ∀ c, OwnFrom w.heap.size (Ix c)) (h0 : I [] w) (a₁ : α → Act)
    (hassign : ∀ (l : Nat) (x : α) (W : World) (K : Act → World → Prop), K (a₁ x) W →
      assign.wpIn (F.inRound l) (n - 1 - 1) P (Exit.then K (fun _ _ _ => False)) { tmps := (ps.zip (encs x)).foldl (fun t (p, v) => t.setIfInBounds p v) a.tmps, defers := [] } W)
    (hbody : ∀ (l : Nat) (pre : List α) (x : α) (W : World), I pre W → C pre x W → body.wpIn (F.inRound l) (n - 1 - 1) P (outC Kp I Ix (pre ++ [x]) W) (a₁ x) W)
    (hdone : ∀ (D : Nat) (xs : List α) (W : World), w.heap.size ≤ D → S xs → I xs W → W.heap[D]? = some (.deferred (some [])) →
      Q .normal { a with defers := { target := .collected D, args := #[] } :: a.defers } W)
    (hstop : ∀ (D : Nat) (c : Code) (pre : List α) (W : World), w.heap.size ≤ D → Sp pre → Ix c pre W → W.heap[D]? = some (.deferred (some [])) →
      c.wpIn F n P Q { a with defers := { target := .collected D, args := #[] } :: a.defers } W) :
    (Code.rangeFunc g ps assign body).wpIn F n P Q a w := by
  refine wpIn_rangeFunc fun fn hfn => ?_
  obtain ⟨r, hr⟩ : ∃ r : LoopState → Option Code → Loop, r = fun st pe => { state := st, pending := pe, fn, tmps := a.tmps, params := ps, assign, body, defers := w.heap.size } := ⟨_, rfl⟩
  have bk : Books w.heap.size (r .ready none) ((w.alloc (.deferred (some []))).alloc (.loop (r .ready none))) :=
    ⟨(Below.heap_alloc _ _ _ (by simp)).trans (World.alloc_heap_new w _), by
      have := World.alloc_heap_new (w.alloc (.deferred (some []))) (.loop (r .ready none)); rwa [World.size_alloc] at this⟩
  have ent := run_enterLoop_outer (P := P) (w := w) fn a.tmps ps assign body
  rw [show (Loop.mk .ready none fn a.tmps ps assign body w.heap.size) = r .ready none by rw [hr]] at ent
  have i0 : I [] ((w.alloc (.deferred (some []))).alloc (.loop (r .ready none))) := hI.alloc _ (hI.alloc _ h0)
  have b1 : Below w0.heap.size w0 ((w.alloc (.deferred (some []))).alloc (.loop (r .ready none))) :=
    (hb0.alloc hb0.size _).alloc (by have := hb0.size; simp; omega) _
  generalize (w.alloc (.deferred (some []))).alloc (.loop (r .ready none)) = W1 at *
  rw [hro]
  refine ⟨_, _, W1, { target := .fn (.func gf) lb, args := #[.func (.yield (w.heap.size + 1)) #[] #[]] }, W1, gf, #[.func (.yield (w.heap.size + 1)) #[] #[]] ++ lb, W1,
    ent, ?_, ?_, ?_, fun _ => h1, ?_⟩
  · simp only [resolve, hg]
    simp [go_sem]
  · intro f' hf'; simp [Target.leads] at hf'; subst hf'; exact hFg
  · simp [invoke, go_sem, eg]
  refine (hseq (w.heap.size + 1) (fun pre W => I pre W ∧ Books w.heap.size (r .ready none) W) (fun pre W => ∃ c, Ix c pre W ∧ Books w.heap.size (r .done (some c)) W) W1 b1
    (fun s W V h hb => ⟨stays_own hI s W V h.1 hb, h.2.below hb⟩)
    (fun s W V h hb => by obtain ⟨c, hc, hk⟩ := h; exact ⟨c, stays_own (hIx c) s W V hc hb, hk.below hb⟩)
    ?round ⟨i0, bk⟩).mono ?behind
  case round =>
    rintro pre x V ⟨hi, hk⟩ hc
    have y := run_yield (P := P) (args := encs x) hk.record (by rw [hr]; exact hps x)
    have bg := run_beginRound (P := P) hk.record (by rw [hr])
    obtain ⟨rb, hrb⟩ : ∃ rb, rb = { r .ready none with state := .busy } := ⟨_, rfl⟩
    rw [← hrb] at bg
    have hkb := hk.put rb
    have kp1 : Kp V (V.putObj (w.heap.size + 1) (.loop rb)) := hKb _ _ _ _ (by omega) hk.record rfl rfl
    have fin : ∀ (jump : Option Code) (V' : World), Books w.heap.size rb V' →
        (Instr.endRound (w.heap.size + 1) jump).run P V' = .ok (.bool jump.isNone) (V'.putObj (w.heap.size + 1) (.loop (r (if jump.isNone then .ready else .done) jump))) := fun jump V' h => by
      rw [run_endRound (P := P) jump h.record, hrb, hr]
    rw [hr] at y
    refine ⟨fn, _, assign, body, y, roundIn_of_wpIn hfn (hassign _ x V _ ⟨_, bg, ?_⟩)⟩
    refine wpIn_mono (hbody _ pre x _ (OwnFrom.book hI hk hi rb) (OwnFrom.book (hC pre) hk hc rb)) ?_
    rintro e a3 V' h
    cases e with
    | normal =>
      obtain ⟨h1, h2, h3⟩ := h
      have hk' := hkb.others h1
      exact ⟨_, _, fin none V' hk', .inl ⟨rfl, ⟨OwnFrom.book hI hk' h3 _, hk'.put _⟩, hKt (hKt kp1 h2) (hKb _ _ _ _ (by omega) hk'.record rfl rfl)⟩⟩
    | ret =>
      obtain ⟨h1, h3⟩ := h
      have hk' := hkb.others h1
      exact ⟨_, _, fin (some .ret) V' hk', .inr ⟨rfl, .ret, OwnFrom.book (hIx _) hk' h3 _, hk'.put _⟩⟩
    | exit id =>
      obtain ⟨h1, h3⟩ := h
      have hk' := hkb.others h1
      exact ⟨_, _, fin (some (.exit id)) V' hk', .inr ⟨rfl, .exit id, OwnFrom.book (hIx _) hk' h3 _, hk'.put _⟩⟩
    | goto t => exact h.elim
    | panic ch => exact h.elim
    | outgrown => exact h.elim
  case behind =>
    rintro e V ⟨⟨v, rfl⟩, (⟨xs, hS, hi, hk⟩ | ⟨pre, hSp, c, hi, hk⟩)⟩
    · have en := run_endLoop (P := P) hk.record (by rw [hr]; simp)
      exact ⟨_, _, en, by rw [show (r .ready none).pending = none by rw [hr]]; exact hdone _ xs _ (Nat.le_refl _) hS (OwnFrom.book hI hk hi _) (hk.put _).marks⟩
    · have en := run_endLoop (P := P) hk.record (by rw [hr]; simp)
      exact ⟨_, _, en, by rw [show (r .done (some c)).pending = some c by rw [hr]]; exact hstop _ c pre _ (Nat.le_refl _) hSp (OwnFrom.book (hIx c) hk hi _) (hk.put _).marks⟩
end Go.Proofs.Ytpaenjalpcdamaa
