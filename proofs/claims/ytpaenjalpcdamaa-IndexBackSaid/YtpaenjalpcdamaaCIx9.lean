/- Part 10 of the proof: IxP, IxQ, IxK, OpenLess. -/
import Derived.Deep.Cut
import Derived.Deep.CutBlock
import Derived.Test.YtpaenjalpcdamaaCIx8

namespace Go.Proofs.Ytpaenjalpcdamaa
open Go Go.RowKit Go.ChangeShapes Go.WideShapes Go.ChangeAt
set_option linter.unusedVariables false
set_option linter.unusedSimpArgs false

set_option maxRecDepth 100000 in
theorem rbytes3_any (x : Int) (w : World) :
    Calls Try.prog 31 #[.int .i64 3, .int .i64 x] w fun e w' => e = .returned (.slice (some ⟨w.heap.size, 0, none⟩) 3 3) ∧ w' = w.alloc (.cells #[.int .u8 (x / 65536 % 256), .int .u8 (x / 256 % 256), .int .u8 (x % 256)] 5) := by
  have hmk : ∀ w : World, (Instr.makeSlice 22 (.int .i64 3) (.int .i64 3)).run Try.prog w = .ok (.slice (some ⟨w.heap.size, 0, none⟩) 3 3) (w.alloc (.cells #[.int .u8 0, .int .u8 0, .int .u8 0] 5)) := fun w => by
    have h := run_make_row' (P := Try.prog) 22 5 (.int .u8 0) 1 Try.underlying22 u8Info rfl .i64 .i64 3 (by omega) (by omega) w
    rw [made_zeros] at h
    exact h
  go_enter Try.func31, Try.ntmps31
  go_wp2
  refine wp_loop_rounds 4 ?_
  rw [rounds_succ]
  go_wp2
  rw [rounds_succ]
  go_wp2
  rw [rounds_succ]
  go_wp2
  rw [rounds_succ]
  go_wp2
  go_ret
  exact ⟨rfl, rfl⟩

/-- Are lists too large to be looked at? -/
def bigI (Ls : List (List Value)) : Bool := (Ls.take 70000).any (fun L => decide (2097152 < L.length)) || (decide (70000 < Ls.length) || decide (4194304 < tot (Ls.take 70000)))
theorem bigI_no {Ls : List (List Value)} (h : bigI Ls = false) : Ls.length ≤ 70000 ∧ tot Ls ≤ 4194304 ∧ ∀ L ∈ Ls, L.length ≤ 2097152 := by
  unfold bigI at h
  simp only [Bool.or_eq_false_iff, decide_eq_false_iff_not, List.any_eq_false] at h
  obtain ⟨h1, h2, h3⟩ := h
  have h4 : Ls.take 70000 = Ls := List.take_of_length_le (by omega)
  rw [h4] at h1 h3
  refine ⟨by omega, by omega, fun L hL => ?_⟩
  have := h1 L hL
  simp at this
  exact this
set_option maxRecDepth 100000 in
set_option maxHeartbeats 1000000 in
theorem large_any (B : Nat) (A : Option Addr) (c : Nat) (Ls : List (List Value)) (w : World) (hB : B ≤ w.heap.size) (hl : RowsAt w B A Ls) (hm : ∀ L ∈ Ls, L.length ≤ 140737488355328) (hn : Ls.length ≤ 9223372036854775807) (r : Bool) (hr : bigI Ls = r) :
    Calls Try.prog 11 #[.slice A Ls.length c] w fun e w' => e = .returned (.bool r) ∧ w' = w := by
  have HL := Lib.hid hl
  have HM := Lib.hid hm
  have HR := Lib.hid hr
  obtain ⟨n, hnn⟩ : ∃ n, Ls.length = n := ⟨_, rfl⟩
  rw [hnn] at hn ⊢
  have HN := Lib.hid hnn
  clear hl hm hr hnn
  go_enter Try.func11, Try.ntmps11
  go_wp2
  go_loopw [3, 4] (fun sv iv wr => ∃ k : Nat, k ≤ n ∧ k ≤ 70000 ∧ iv = .int .i64 (k : Nat) ∧ sv = .int .i64 (tot (Ls.take k) : Nat) ∧ Hid (∀ L ∈ Ls.take k, L.length ≤ 2097152) ∧ Hid (tot (Ls.take k) ≤ k * 2097152) ∧ wr = w) (fun _ iv _ => n - (intOf iv).toNat)
  case atStart => exact ⟨0, Nat.zero_le _, by omega, rfl, rfl, Lib.hid (fun L h => by simp at h), Lib.hid (by simp [tot]), rfl⟩
  case round =>
    obtain ⟨k, hk, hk7, rfl, rfl, ha, ht, rfl⟩ := hrel
    have htb := ht.out
    by_cases hlt : k < n ∧ k < 70000
    · obtain ⟨hlt, hlt7⟩ := hlt
      have d1 : decide ((k : Int) < (n : Int)) = true := by simp; omega
      have d2 : decide ((k : Int) < 70000) = true := by simp; omega
      obtain ⟨M, hM⟩ : ∃ M, Ls[k]? = some M := ⟨Ls[k]'(by rw [HN.out]; exact hlt), List.getElem?_eq_getElem _⟩
      obtain ⟨b, o, Ai, ci, rfl, hbl, g0, _⟩ := HL.out.at' k M hM
      have hbr := Nat.lt_of_lt_of_le hbl hB
      have hmm := HM.out M (List.mem_of_getElem? hM)
      have hT : Ls.take (k + 1) = Ls.take k ++ [M] := by rw [List.take_add_one, hM]; rfl
      have HS := Lib.hid (show tot (Ls.take (k + 1)) = tot (Ls.take k) + M.length by rw [hT, tot_snoc])
      by_cases hbig : 2097152 < M.length
      · have HB := Lib.hid (show r = true by
          rw [← HR.out]
          unfold bigI
          rw [Bool.or_eq_true]
          left
          refine List.any_eq_true.2 ⟨M, ?_, by simpa using hbig⟩
          have h7 : (Ls.take 70000)[k]? = some M := by rw [List.getElem?_take, if_pos hlt7]; exact hM
          exact List.mem_of_getElem? h7)
        obtain ⟨ml, hml⟩ : ∃ ml, M.length = ml := ⟨_, rfl⟩
        rw [hml] at g0 hbig hmm
        have d3 : decide ((ml : Int) > 2097152) = true := by simp; omega
        clear hM hml hT HS
        go_wp2
        go_ret
        exact ⟨by rw [HB.out]; rfl, rfl⟩
      · have HA := Lib.hid (show ∀ L ∈ Ls.take (k + 1), L.length ≤ 2097152 from fun L hL => by
          rw [hT] at hL
          rcases List.mem_append.1 hL with h | h
          · exact ha.out L h
          · simp at h; subst h; omega)
        obtain ⟨ml, hml⟩ : ∃ ml, M.length = ml := ⟨_, rfl⟩
        rw [hml] at g0 hbig hmm HS
        have d3 : decide ((ml : Int) > 2097152) = false := by simp; omega
        generalize tot (Ls.take k) = tk at *
        have HT2 := Lib.hid (show tot (Ls.take (k + 1)) ≤ (k + 1) * 2097152 by rw [HS.out]; omega)
        clear hM hml hT
        go_wp2
        go_roundw
        case rel => exact ⟨k + 1, by omega, by omega, by go_num, by rw [HS.out]; go_num, HA, HT2, (by first | rfl | trivial)⟩
        case measure => simp [intOf]; omega
    · have HF := Lib.hid (show r = (decide (70000 < n) || decide (4194304 < tot (Ls.take k))) by
        rw [← HR.out]
        have hT7 : Ls.take 70000 = Ls.take k := by
          rcases Nat.lt_or_ge k 70000 with h | h
          · obtain rfl : k = n := by omega
            rw [List.take_of_length_le (by rw [HN.out]; omega), List.take_of_length_le (by rw [HN.out]; exact Nat.le_refl _)]
          · obtain rfl : k = 70000 := by omega
            rfl
        unfold bigI
        rw [hT7, HN.out]
        have h0 : (Ls.take k).any (fun L => decide (2097152 < L.length)) = false := by
          rw [List.any_eq_false]
          intro L hL
          have := ha.out L hL
          simp
          omega
        rw [h0, Bool.false_or])
      generalize tot (Ls.take k) = tk at *
      by_cases hA : k < n
      · have d1 : decide ((k : Int) < (n : Int)) = true := by simp; omega
        have d2 : decide ((k : Int) < 70000) = false := by simp; omega
        have d3 : decide ((n : Int) > 70000) = true := by simp; omega
        go_wp2
        go_ret
        refine ⟨?_, rfl⟩
        rw [HF.out, decide_eq_true (show 70000 < n by omega)]
        rfl
      · have d1 : decide ((k : Int) < (n : Int)) = false := by simp; omega
        have e70 : decide (70000 < n) = false := decide_eq_false (by omega)
        have d3 : decide ((n : Int) > 70000) = false := by simp; omega
        by_cases hs : 4194304 < tk
        all_goals
          go_wp2
          go_ret
          refine ⟨?_, rfl⟩
          rw [HF.out, e70]
          simp [hs]
          try omega
section
variable {H : Type} {enc : TypeId × Value → H} {P : Program}
theorem open_rows {w : World} {t u e : TypeId} {base : Nat} {spare : Nat → Bool} {held : Bool} {r : Reach} {b0 : Nat} {v : Value} {d : DataW H} {p : List MemPlace}
    (ht : P.underlying t = some (.slice u)) (hu : P.underlying u = some (.slice e)) (hcu : P.cellsOf u = 1) (he : P.underlying e = some (.int .u8)) (hC : P.cellsOf e = 1) (hb : P.bytesOf e = 1)
    (hv : Value.okWide P w r b0 t v) (h : DataW.Trod enc P w base spare held t v d p) (hz : ∀ m ∈ d.weights P t, m ≤ reachBytes) :
    ∃ (A : Option Addr) (c : Nat) (Ls : List (List Value)), v = .slice A Ls.length c ∧ RowsAt w w.heap.size A Ls ∧ (∀ L ∈ Ls, L.length ≤ 140737488351232 ∧ Bytes8 L) ∧ Ls.length ≤ 9223372036854775807 := by
  obtain ⟨a0, len, cap, rfl⟩ := okWide_slice ht hv
  obtain ⟨fuel, hf⟩ := h
  rcases Deep.open_slice ht hf with ⟨hcs, _⟩ | ⟨a, len', cap', m, n, D, Pl, hcs, hbb, hl, hm, hmm, hx, hi⟩
  · simp [Value.cells] at hcs
    obtain ⟨rfl, rfl, rfl⟩ := hcs
    exact ⟨none, 0, [], rfl, ⟨fun i L h => by simp at h⟩, fun L h => by simp at h, by simp⟩
  · simp [Value.cells] at hcs
    obtain ⟨rfl, rfl, rfl⟩ := hcs
    unfold maxLen at hm
    have hlm : len ≤ m := by split at hmm <;> omega
    obtain ⟨Ls, hLl, hLs⟩ := choose_list (n := len) (p := fun i (L : List Value) => (∃ Ai ci, w.cell? (a.add i) = some (.slice Ai L.length ci) ∧ Lists w w.heap.size Ai L) ∧ L.length ≤ 140737488351232 ∧ Bytes8 L) fun i hil => by
      obtain ⟨cs', hc, ht'⟩ := hi i (by omega)
      rw [hcu, Nat.mul_one] at hc
      obtain ⟨_, hcl, hat⟩ := World.cells?_some hc
      match cs', hcl with
      | [c0], _ =>
        obtain ⟨Ai, n', ci, zs, hv1, hlen, hnc, hcm, hL, hwf, hw⟩ := open_nums hu he hC ht'
        subst hv1
        have a0 : w.cell? (a.add i) = some (.slice Ai (zs.map (Value.int .u8)).length ci) := by
          have := hat 0 (by omega)
          rw [Go.Deep.add_add] at this
          rw [List.length_map, hlen]
          exact this
        have h2 := hw reachBytes fun m hm => hz m (by
          simp only [Prod.mk.injEq] at hx
          rw [hx.1]
          simp only [DataW.weights, ht]
          exact List.mem_cons_of_mem _ (List.mem_append_left _ (weights_all hm (List.mem_map.2 ⟨i, List.mem_range.2 hil, rfl⟩))))
        rw [hb] at h2
        have hr : reachBytes ≤ 140737488351232 := by decide
        exact ⟨zs.map (Value.int .u8), ⟨Ai, ci, a0, hL⟩, by rw [List.length_map]; omega, bytes_of_wf hwf⟩
    refine ⟨some a, cap, Ls, by rw [hLl], ⟨fun i L hL => ?_⟩, fun L hL => ?_, by omega⟩
    · obtain ⟨⟨Ai, ci, h1, h2⟩, _⟩ := hLs i L hL
      have hlt := cell_lt h1
      obtain ⟨b, o, s⟩ := a
      have hs : s = none := by
        obtain ⟨L0, hL0⟩ : ∃ L0, Ls[0]? = some L0 := ⟨Ls[0]'(by have := (List.getElem?_eq_some_iff.1 hL).1; omega), List.getElem?_eq_getElem _⟩
        obtain ⟨⟨_, _, h4, _⟩, _⟩ := hLs 0 L0 hL0
        simpa [Addr.add] using World.cell?_spot h4
      subst hs
      rw [addr_plain] at h1 hlt
      exact ⟨b, o, Ai, ci, rfl, hlt, h1, h2⟩
    · obtain ⟨i, hi⟩ := List.mem_iff_getElem?.1 hL
      exact (hLs i L hi).2
end
end Go.Proofs.Ytpaenjalpcdamaa

namespace Go.Proofs.Ytpaenjalpcdamaa
open Go Go.RowKit
set_option linter.unusedVariables false
set_option linter.unusedSimpArgs false

/-- A number's bytes in new memory. -/
def NewB (n : Nat) (x : Int) (w : World) (e : Ending) (w' : World) : Prop := ∃ b, e = .returned (.slice (some ⟨b, 0, none⟩) n n) ∧ w'.ownsRow w.heap.size 5 1 (.slice (some ⟨b, 0, none⟩) n n) n (beN n x) ∧ Lists w' w'.heap.size (some ⟨b, 0, none⟩) (beN n x) ∧ Below w.heap.size w w'
theorem newB_of (n : Nat) (x : Int) (w : World) (cs : List Value) (hn : cs.length = n) (hx : beN n x = cs) (e : Ending) (w' : World) (h : e = .returned (.slice (some ⟨w.heap.size, 0, none⟩) n n) ∧ w' = w.alloc (.cells cs.toArray 5)) (h3 : n ≤ 1000) : NewB n x w e w' := by
  obtain ⟨rfl, rfl⟩ := h
  refine ⟨w.heap.size, rfl, ?_, ?_, (Below.refl _ _).alloc (Nat.le_refl _) _⟩
  · rw [hx]
    exact ⟨by rw [hn, Nat.mul_one], .inr ⟨w.heap.size, n, cs.toArray, rfl, Nat.le_refl _, heap_alloc_new w _, Nat.le_refl _, by unfold maxLen; omega, by simp [hn], by rw [Nat.mul_one, ← hn]; simp⟩⟩
  · rw [hx]
    exact (lists_row w cs 5).more (by simp)
theorem rbytesN (n : Nat) (h1 : 1 ≤ n) (h3 : n ≤ 3) (x : Int) (w : World) : Calls Try.prog 31 #[.int .i64 (n : Nat), .int .i64 x] w (NewB n x w) := by
  match n, h1, h3 with
  | 1, _, _ => exact (rbytes1_any x w).mono fun e w' h => newB_of 1 x w [.int .u8 (x % 256)] rfl rfl e w' h (by decide)
  | 2, _, _ => exact (rbytes2_any x w).mono fun e w' h => newB_of 2 x w [.int .u8 (x / 256 % 256), .int .u8 (x % 256)] rfl rfl e w' h (by decide)
  | 3, _, _ => exact (rbytes3_any x w).mono fun e w' h => newB_of 3 x w [.int .u8 (x / 65536 % 256), .int .u8 (x / 256 % 256), .int .u8 (x % 256)] rfl rfl e w' h (by decide)
/-- What the reference's Put answers. -/
def RPost (w : World) (Ls : List (List Value)) (e : Ending) (w' : World) : Prop := (okIx Ls = true → ∃ A c, e = .returned (.tuple #[.slice A (putIx Ls).length c, .bool true]) ∧ Hid (Lists w' w'.heap.size A (putIx Ls)) ∧ Below w.heap.size w w') ∧ (okIx Ls = false → e = .returned (.tuple #[.slice none 0 0, .bool false]) ∧ Below w.heap.size w w')
theorem hd_len1 (Ls : List (List Value)) (h0 : Ls.length ≠ 0) (ht : tot Ls ≤ 8388608) : (hdE Ls).length = 3 + (Ls.length + 1) * wdN (1 + tot Ls) := by
  unfold hdE
  rw [if_neg h0]
  obtain ⟨h1, h3⟩ := wd_le (x := 1 + tot Ls) (by omega) (by omega)
  unfold offE
  generalize wdN (1 + tot Ls) = wd at *
  have hlen : ∀ l : List Nat, (l.flatMap fun o => beN wd ((o : Nat) : Int)).length = l.length * wd := fun l => by
    induction l with
    | nil => simp
    | cons x l ih => rw [List.flatMap_cons, List.length_append, ih, beN_len h1 h3, List.length_cons, Nat.add_mul]; omega
  rw [List.length_append, List.length_append, hlen, offT_len]
  simp [be2, be1]
  omega
set_option maxRecDepth 100000 in
theorem rput_many (A : Option Addr) (c n : Nat) (w : World) (hn : 65535 < n) : Calls Try.prog 13 #[.slice A n c] w fun e w' => e = .returned (.tuple #[.slice none 0 0, .bool false]) ∧ Below w.heap.size w w' := by
  have d0 : decide ((n : Int) > 65535) = true := by simp; omega
  go_enter Try.func13, Try.ntmps13
  go_wp2
  exact bodyPost_ret (v := .tuple #[.slice none 0 0, .bool false]) (by simp [results, Try.results13, go_sem]) rfl ⟨rfl, Below.refl _ _⟩
set_option maxRecDepth 100000 in
theorem rput_zero (A : Option Addr) (c : Nat) (w : World) : Calls Try.prog 13 #[.slice A 0 c] w fun e w' => ∃ A c, e = .returned (.tuple #[.slice A 2 c, .bool true]) ∧ Hid (Lists w' w'.heap.size A [.int .u8 0, .int .u8 0]) ∧ Below w.heap.size w w' := by
  have hl := Lib.hid ((lists_row w [.int .u8 0, .int .u8 0] 5).more (Nat.le_of_eq (show w.heap.size + 1 = (w.alloc (.cells [.int .u8 0, .int .u8 0].toArray 5)).heap.size by simp)))
  have B := (Below.refl w.heap.size w).alloc (Nat.le_refl _) (.cells #[.int .u8 0, .int .u8 0] 5)
  go_enter Try.func13, Try.ntmps13
  go_wp2
  exact bodyPost_ret (v := .tuple #[.slice (some ⟨w.heap.size, 0, none⟩) 2 2, .bool true]) (by simp [results, Try.results13, go_sem]) rfl ⟨some ⟨w.heap.size, 0, none⟩, 2, rfl, hl, B⟩
set_option maxRecDepth 100000 in
set_option maxHeartbeats 4000000 in
theorem rput_some (A : Option Addr) (c n : Nat) (Ls : List (List Value)) (w : World) (hl : RowsAt w w.heap.size A Ls) (h8 : ∀ L ∈ Ls, Bytes8 L) (hnn : Ls.length = n) (h0 : 0 < n) (hn : n ≤ 65535) (hm : ∀ L ∈ Ls, L.length ≤ 2097152) (ht : tot Ls ≤ 4194304) (Q : Ending → World → Prop)
    (hok : okIx Ls = true → ∀ A c w', Lists w' w'.heap.size A (putIx Ls) → Below w.heap.size w w' → Q (.returned (.tuple #[.slice A (putIx Ls).length c, .bool true])) w') (hno : okIx Ls = false → ∀ w', Below w.heap.size w w' → Q (.returned (.tuple #[.slice none 0 0, .bool false])) w') :
    Calls Try.prog 13 #[.slice A n c] w Q := by
  have hpl := putIx_len Ls
  have hhd := hd_len1 Ls (by omega) (by omega)
  obtain ⟨wd, hwd⟩ : ∃ wd, wdN (1 + tot Ls) = wd := ⟨_, rfl⟩
  have hw13 := wd_le (x := 1 + tot Ls) (by omega) (by omega)
  have hsz : (wd = 1 ∧ 1 + tot Ls < 256) ∨ (wd = 2 ∧ 256 ≤ 1 + tot Ls ∧ 1 + tot Ls < 65536) ∨ (wd = 3 ∧ 65536 ≤ 1 + tot Ls ∧ 1 + tot Ls < 16777216) := by
    rw [← hwd]
    unfold wdN
    repeat' split
    all_goals omega
  have hhE : hdE Ls = be2 (n : Nat) ++ be1 (wd : Nat) ++ (offT 1 Ls).flatMap fun o => beN wd ((o : Nat) : Int) := by unfold hdE offE; rw [hnn, if_neg (by omega), hwd, List.append_assoc]
  rw [hwd] at hw13 hhd
  rw [hnn] at hhd
  obtain ⟨mm, hmm⟩ : ∃ mm, (n + 1) * wd = mm := ⟨_, rfl⟩
  have hmi : ((n : Int) + 1) * (wd : Int) = (mm : Int) := by rw [← hmm]; push_cast; rfl
  have hmb : mm ≤ 196608 := by rw [← hmm]; exact Nat.le_trans (Nat.mul_le_mul (show n + 1 ≤ 65536 by omega) hw13.2) (by decide)
  rw [hmm] at hhd
  have hmlo : 2 ≤ mm := by rw [← hmm]; exact Nat.le_trans (show 2 ≤ 2 * 1 by decide) (Nat.mul_le_mul (by omega) hw13.1)
  have hokE : okIx Ls = decide (3 + mm + tot Ls ≤ 1048576) := by
    unfold okIx
    rw [hnn, hpl, hhd, decide_eq_true hn, Bool.true_and]
  have HL := Lib.hid hl
  have H8 := Lib.hid h8
  have HN := Lib.hid hnn
  have HM := Lib.hid hm
  have HT := Lib.hid ht
  have HOK := Lib.hid hok
  have HNO := Lib.hid hno
  have HE := Lib.hid hokE
  have HH := Lib.hid hhE
  have HW := Lib.hid hw13
  have HHD := Lib.hid hhd
  have HSZ := Lib.hid hsz
  have HMM := Lib.hid hmm
  clear hl h8 hnn hm hok hno hokE hhE hpl hhd hwd hsz hmm
  obtain ⟨i0, hi, hz0, hz1, hz2⟩ := info_parts u8Info
  have d0 : decide ((n : Int) > 65535) = false := by simp; omega
  have d00 : ((n : Int) == 0) = false := by simp; omega
  go_enter Try.func13, Try.ntmps13
  go_upto_block 0 with (fail)
  go_cut [4] from 11 (fun sv wx => sv = .int .i64 ((1 + tot Ls : Nat) : Int) ∧ wx = w)
  case first =>
    go_wp2
    go_loopw [4, 5] (fun sv iv wr => ∃ k : Nat, k ≤ n ∧ iv = .int .i64 (k : Nat) ∧ sv = .int .i64 ((1 + tot (Ls.take k) : Nat) : Int) ∧ wr = w) (fun _ iv _ => n - (intOf iv).toNat)
    case atStart => exact ⟨0, Nat.zero_le _, rfl, by simp [tot], rfl⟩
    case round =>
      obtain ⟨k, hk, rfl, rfl, rfl⟩ := hrel
      have htk := tot_take Ls k
      by_cases hlt : k < n
      · have d1 : decide ((k : Int) < (n : Int)) = true := by simp; omega
        obtain ⟨M, hM⟩ : ∃ M, Ls[k]? = some M := ⟨Ls[k]'(by rw [HN.out]; exact hlt), List.getElem?_eq_getElem _⟩
        obtain ⟨b, o, Ai, ci, rfl, hbr, g0, _⟩ := HL.out.at' k M hM
        have hmm2 := HM.out M (List.mem_of_getElem? hM)
        have hT : Ls.take (k + 1) = Ls.take k ++ [M] := by rw [List.take_add_one, hM]; rfl
        have HS := Lib.hid (show (1 + tot (Ls.take (k + 1)) : Nat) = 1 + tot (Ls.take k) + M.length by rw [hT, tot_snoc]; omega)
        have htl : tot (Ls.take k) + M.length ≤ tot Ls := by
          have := tot_take Ls (k + 1)
          rw [hT, tot_snoc] at this
          exact this
        obtain ⟨ml, hml⟩ : ∃ ml, M.length = ml := ⟨_, rfl⟩
        rw [hml] at g0 HS hmm2 htl
        obtain ⟨e0, he0⟩ : ∃ e0, 1 + tot (Ls.take k) = e0 := ⟨_, rfl⟩
        have HE0 := Lib.hid he0
        rw [he0] at HS ⊢
        have htt := HT.out
        have hb0 : e0 + ml ≤ 4194305 := by omega
        by_cases hA : 1048576 < ml
        · have HBad := Lib.hid (show okIx Ls = false by rw [HE.out]; exact decide_eq_false (by omega))
          have d3 : decide ((ml : Int) > 1048576) = true := by simp; omega
          clear hM hml hT he0 htk
          go_wp2
          exact HNO.out HBad.out _ (Below.refl _ _)
        · by_cases hB : 1048576 < e0
          · have HBad := Lib.hid (show okIx Ls = false by rw [HE.out]; exact decide_eq_false (by omega))
            have d3 : decide ((ml : Int) > 1048576) = false := by simp; omega
            have d4 : decide ((e0 : Int) > 1048576) = true := by simp; omega
            clear hM hml hT he0 htk
            go_wp2
            exact HNO.out HBad.out _ (Below.refl _ _)
          · have d3 : decide ((ml : Int) > 1048576) = false := by simp; omega
            have d4 : decide ((e0 : Int) > 1048576) = false := by simp; omega
            clear hM hml hT he0 htk
            go_wp2
            go_roundw
            case rel => exact ⟨k + 1, by omega, by go_num, by rw [HS.out]; go_num, (by first | rfl | trivial)⟩
            case measure => simp [intOf]; omega
      · obtain rfl : k = n := by omega
        have d1 : decide ((k : Int) < (k : Int)) = false := by simp
        have hTk : Ls.take k = Ls := List.take_of_length_le (by rw [HN.out]; exact Nat.le_refl _)
        rw [hTk]
        go_wp2
        go_meet
        case rel => exact ⟨rfl, rfl⟩
  case rest =>
  obtain ⟨rfl, hwx⟩ := hcut
  have hwx2 := hwx.symm
  subst hwx2
  obtain ⟨tt, htt⟩ : ∃ tt, tot Ls = tt := ⟨_, rfl⟩
  have HTT := Lib.hid htt
  have hbt := HT.out
  have hsz := HSZ.out
  rw [htt] at hbt hsz ⊢
  clear htt
  obtain ⟨S, hS⟩ : ∃ S : Int, ((1 + tt : Nat) : Int) = S := ⟨_, rfl⟩
  rw [hS]
  have HS := Lib.hid hS
  go_upto_block 2 with (fail)
  go_cut [6] from 11 (fun sv wx => sv = .int .i64 (wd : Nat) ∧ wx = w)
  case first =>
    rcases hsz with ⟨rfl, h1⟩ | ⟨rfl, h1, h2⟩ | ⟨rfl, h1, h2⟩
    · have e1 : S < 256 := by omega
      clear h1 hbt hS hmb hmi
      go_wp2
      refine wp_loop_rounds 1 ?_
      rw [rounds_succ]
      go_wp2
      go_meet
      case rel => exact ⟨rfl, rfl⟩
    · have e1 : (256 : Int) ≤ S := by omega
      have e2 : S < 65536 := by omega
      clear h1 h2 hbt hS hmb hmi
      go_wp2
      refine wp_loop_rounds 2 ?_
      rw [rounds_succ]
      go_wp2
      rw [rounds_succ]
      go_wp2
      go_meet
      case rel => exact ⟨rfl, rfl⟩
    · have e1 : (256 : Int) ≤ S := by omega
      have e2 : (65536 : Int) ≤ S := by omega
      have e3 : S < 16777216 := by omega
      clear h1 h2 hbt hS hmb hmi
      go_wp2
      refine wp_loop_rounds 3 ?_
      rw [rounds_succ]
      go_wp2
      rw [rounds_succ]
      go_wp2
      rw [rounds_succ]
      go_wp2
      go_meet
      case rel => exact ⟨rfl, rfl⟩
  case rest =>
  obtain ⟨rfl, hwx⟩ := hcut
  have hwx2 := hwx.symm
  subst hwx2
  have hEE := HE.out
  rw [HTT.out] at hEE
  by_cases hbad : ¬ 3 + mm + tt ≤ 1048576
  · have hgood := hbad
    have HBad := Lib.hid (show okIx Ls = false by rw [hEE]; exact decide_eq_false hgood)
    have d5 : decide ((3 : Int) + (mm : Int) + S - 1 > 1048576) = true := by simp; omega
    have hSb : S ≤ 4194305 := by omega
    have hSl : 1 ≤ S := by omega
    clear hEE hS
    go_wp2
    exact HNO.out HBad.out _ (Below.refl _ _)
  have hgood := Decidable.of_not_not hbad
  have HGood := Lib.hid (show okIx Ls = true by rw [hEE]; exact decide_eq_true hgood)
  have d5 : decide ((3 : Int) + (mm : Int) + S - 1 > 1048576) = false := by simp; omega
  have hSb : S ≤ 4194305 := by omega
  have hSl : 1 ≤ S := by omega
  clear hEE hw13 hsz hS
  have hlb : ∀ x : Int, (beN wd x).length = wd * 1 := fun x => by rw [Nat.mul_one]; exact beN_len HW.out.1 HW.out.2 x
  have HLB := Lib.hid hlb
  have RB2 : ∀ W, Calls Try.prog 31 #[.int .i64 2, .int .i64 (n : Nat)] W (NewB 2 (n : Nat) W) := fun W => rbytesN 2 (by decide) (by decide) (n : Nat) W
  have RBW : ∀ W x, Calls Try.prog 31 #[.int .i64 (wd : Nat), .int .i64 x] W (NewB wd x W) := fun W x => rbytesN wd HW.out.1 HW.out.2 x W
  clear hlb
  go_upto_block 4 with (first
    | (go_at_call 31; ((with_reducible refine (RB2 _).mono ?_); rintro e w1 ⟨b1, rfl, own1, l1, B1⟩))
    | (at_builtin; refine wpList_append_src_wide _ rfl (.tmp 64) (.tmp 67) 22 rfl w.heap.size 5 i0 (.int .u8 0) 1 1 Try.underlying22 hi hz0 hz1 hz2 rfl (by decide) (.slice (some ⟨b1, 0, none⟩) 2 2) 2 (beN 2 (n : Nat)) rfl (own_only own1 ((Only.refl w1 []).alloc _) (fun _ _ h => (nomatch h))) (w1.heap.size + 1) (some ⟨w1.heap.size, 0, none⟩) 1 1 [.int .u8 ((wd : Int) % 256)] rfl (lists_row w1 _ _) rfl (by simp [Value.oneCell']) (by simp only [maxLen]; omega) (by omega) (by have := B1.size; simp; omega) ?_; intro v2 w2 own2 hg2; have B2 := (B1.alloc B1.size (.cells #[.int .u8 ((wd : Int) % 256)] 5)).grown hg2 (by have := B1.size; simp; omega) (fun b hb => own_lowI own1 b (by simp [blk, hb])))
    | (go_at_call 31; ((with_reducible refine (RBW w2 1).mono ?_); rintro e w3 ⟨b3, rfl, own3, l3, B3⟩; have own2 := own_only own2 (Only.of_below B3 []) (fun _ _ h => (nomatch h)); have B23 := B2.trans (B3.mono B2.size)))
    | (at_builtin; refine wpList_append_src_wide _ rfl (.tmp 69) (.tmp 72) 22 rfl w.heap.size 5 i0 (.int .u8 0) 1 1 Try.underlying22 hi hz0 hz1 hz2 rfl (by decide) v2 3 _ rfl own2 w3.heap.size (some ⟨b3, 0, none⟩) wd wd (beN wd 1) rfl l3 (HLB.out 1) (beN_bytes wd 1).one (by have := HW.out; simp only [maxLen]; omega) (by have := HW.out; omega) B23.size ?_; intro v4 w4 own4 hg4; have B4 := B23.grown hg4 B23.size (fun b hb => own_lowI own2 b (by simp [blk, hb]))))
  have HX0 := Lib.hid (show hdE Ls = beN 2 (n : Nat) ++ [.int .u8 ((wd : Int) % 256)] ++ (offT 1 Ls).flatMap fun o => beN wd ((o : Nat) : Int) from HH.out)
  have hkw : ∀ k, k ≤ n → (k + 1) * wd ≤ 196608 := fun k hk => Nat.le_trans (Nat.mul_le_mul (show k + 1 ≤ 65536 by omega) HW.out.2) (by decide)
  have HKW := Lib.hid hkw
  clear hkw
  go_wp2
  go_loopw [7, 8, 9] (fun ov av iv wr => ∃ k m : Nat, k ≤ n ∧ iv = .int .i64 (k : Nat) ∧ av = .int .i64 ((1 + tot (Ls.take k) : Nat) : Int) ∧ wr.ownsRow w.heap.size 5 1 ov m (beN 2 (n : Nat) ++ [.int .u8 ((wd : Int) % 256)] ++ (offT 1 (Ls.take k)).flatMap fun o => beN wd ((o : Nat) : Int)) ∧ Hid (m = 3 + (k + 1) * wd) ∧ Below w.heap.size w wr) (fun _ _ iv _ => n - (intOf iv).toNat)
  case atStart => exact ⟨0, 3 + wd, Nat.zero_le _, rfl, by simp [tot], by simpa [offT] using own4, Lib.hid (by omega), B4⟩
  case round =>
    obtain ⟨k, m, hk, rfl, rfl, hown, hme, hb⟩ := hrel
    clear own4 own2 own1 l1 l3 own3
    by_cases hlt : k < n
    · have d1 : decide ((k : Int) < (n : Int)) = true := by simp; omega
      obtain ⟨M, hM⟩ : ∃ M, Ls[k]? = some M := ⟨Ls[k]'(by rw [HN.out]; exact hlt), List.getElem?_eq_getElem _⟩
      obtain ⟨b, o, Ai, ci, rfl, hbl, c0, _⟩ := HL.out.at' k M hM
      have g0 := (hb.cell (p := ⟨b, o + k, none⟩) hbl).trans c0
      have hbr := Nat.lt_of_lt_of_le hbl hb.size
      have hT : Ls.take (k + 1) = Ls.take k ++ [M] := by rw [List.take_add_one, hM]; rfl
      have HS2 := Lib.hid (show (1 + tot (Ls.take (k + 1)) : Nat) = 1 + tot (Ls.take k) + M.length by rw [hT, tot_snoc]; omega)
      have htl : 1 + tot (Ls.take k) + M.length ≤ 4194305 := by
        have h1 := tot_take Ls (k + 1)
        rw [hT, tot_snoc] at h1
        have h2 := HT.out
        omega
      have HO := Lib.hid (show (offT 1 (Ls.take (k + 1))).flatMap (fun o => beN wd ((o : Nat) : Int)) = ((offT 1 (Ls.take k)).flatMap fun o => beN wd ((o : Nat) : Int)) ++ beN wd ((1 + tot (Ls.take k) + M.length : Nat) : Int) by rw [hT, offT_snoc, List.flatMap_append]; simp)
      have hkw := HKW.out k hk
      have hm2 := hme.out
      have hmb2 : m ≤ 196611 := by omega
      have HM2 := Lib.hid (show m + wd = 3 + (k + 1 + 1) * wd by rw [hm2, Nat.add_mul (k + 1) 1 wd]; omega)
      generalize (offT 1 (Ls.take k)).flatMap (fun o => beN wd ((o : Nat) : Int)) = ys at *
      obtain ⟨e0, he0⟩ : ∃ e0, 1 + tot (Ls.take k) = e0 := ⟨_, rfl⟩
      obtain ⟨ml, hml⟩ : ∃ ml, M.length = ml := ⟨_, rfl⟩
      rw [hml] at c0 g0 HS2 HO htl
      rw [he0] at HS2 HO htl ⊢
      have s1 : ((e0 + ml : Nat) : Int) = (e0 : Int) + (ml : Int) := by omega
      rw [s1] at HO
      have hs0 := hb.size
      clear hT hM c0 hml he0 hm2 hkw s1
      go_wp2_with (first
        | (go_at_call 31; ((with_reducible refine (RBW wr _).mono ?_); rintro e w5 ⟨b5, rfl, own5, l5, B5⟩; have own6 := own_only hown (Only.of_below B5 []) (fun _ _ h => (nomatch h)); have B55 := hb.trans (B5.mono hb.size)))
        | (at_builtin; refine wpList_append_src_wide _ rfl (.tmp 87) (.tmp 90) 22 rfl w.heap.size 5 i0 (.int .u8 0) 1 1 Try.underlying22 hi hz0 hz1 hz2 rfl (by decide) u7 m _ rfl own6 w5.heap.size (some ⟨b5, 0, none⟩) wd wd _ rfl l5 (HLB.out _) (beN_bytes wd _).one (by have := HW.out; simp only [maxLen]; omega) (by have := HW.out; omega) B55.size ?_; intro v6 w6 own7 hg6; have B6 := B55.grown hg6 B55.size (fun b hb => own_lowI own6 b (by simp [blk, hb]))))
      go_roundw
      case rel => exact ⟨k + 1, m + wd, by omega, by go_num, by rw [HS2.out]; go_num, by rw [HO.out, ← List.append_assoc]; exact own7, HM2, B6⟩
      case measure => simp [intOf]; omega
    · obtain rfl : k = n := by omega
      have d1 : decide ((k : Int) < (k : Int)) = false := by simp
      have hTk : Ls.take k = Ls := List.take_of_length_le (by rw [HN.out]; exact Nat.le_refl _)
      rw [hTk] at hown ⊢
      rw [← HX0.out] at hown
      have hm3 : m = 3 + mm := by rw [hme.out, HMM.out]
      subst hm3
      have hown9 := hown
      have hb9 := hb
      clear hTk hme hown hb
      generalize 1 + tot Ls = tz
      go_wp2
      go_loopw [7, 10] (fun ov iv wr => ∃ j m : Nat, j ≤ k ∧ iv = .int .i64 (j : Nat) ∧ wr.ownsRow w.heap.size 5 1 ov m (hdE Ls ++ (Ls.take j).flatten) ∧ Hid (m = 3 + mm + tot (Ls.take j)) ∧ Below w.heap.size w wr) (fun _ iv _ => k - (intOf iv).toNat)
      case atStart => exact ⟨0, 3 + mm, Nat.zero_le _, rfl, by simpa using hown9, Lib.hid (by simp [tot]), hb9⟩
      case round =>
        obtain ⟨j, m, hj, rfl, hown, hme, hb⟩ := hrel
        clear hown9 hb9
        by_cases hlt : j < k
        · have d1 : decide ((j : Int) < (k : Int)) = true := by simp; omega
          obtain ⟨M, hM⟩ : ∃ M, Ls[j]? = some M := ⟨Ls[j]'(by rw [HN.out]; exact hlt), List.getElem?_eq_getElem _⟩
          obtain ⟨b, o, Ai, ci, rfl, hbl, c0, hE⟩ := HL.out.at' j M hM
          have g0 := (hb.cell (p := ⟨b, o + j, none⟩) hbl).trans c0
          have hbr := Nat.lt_of_lt_of_le hbl hb.size
          have HEl := Lib.hid (hE.below hb)
          have HM8 := Lib.hid (H8.out M (List.mem_of_getElem? hM))
          have hT : Ls.take (j + 1) = Ls.take j ++ [M] := by rw [List.take_add_one, hM]; rfl
          have htl : tot (Ls.take j) + M.length ≤ 4194304 := by
            have h1 := tot_take Ls (j + 1)
            rw [hT, tot_snoc] at h1
            have h2 := HT.out
            omega
          have hmb2 : m + M.length ≤ 4500000 := by have := hme.out; omega
          have HM2 := Lib.hid (show m + M.length = 3 + mm + tot (Ls.take (j + 1)) by rw [hT, tot_snoc]; have := hme.out; omega)
          have HF := Lib.hid (show (Ls.take (j + 1)).flatten = (Ls.take j).flatten ++ M by rw [hT, List.flatten_append]; simp)
          generalize (Ls.take j).flatten = fs at *
          obtain ⟨ml, hml⟩ : ∃ ml, M.length = ml := ⟨_, rfl⟩
          rw [hml] at c0 g0 hmb2 HM2
          have HML := Lib.hid (show M.length = ml * 1 by rw [hml, Nat.mul_one])
          clear hT hM c0 hE hml htl
          go_wp2_with (first
            | (at_builtin; refine wpList_append_src_wide _ rfl (.tmp 98) (.tmp 102) 22 rfl w.heap.size 5 i0 (.int .u8 0) 1 1 Try.underlying22 hi hz0 hz1 hz2 rfl (by decide) u7 m _ rfl hown w.heap.size Ai ml ci M rfl HEl.out HML.out HM8.out.one (by simp only [maxLen]; omega) (by omega) hb.size ?_; intro v6 w6 own7 hg6; have B6 := hb.grown hg6 hb.size (fun b hb => own_lowI hown b (by simp [blk, hb]))))
          go_roundw
          case rel => exact ⟨j + 1, m + ml, by omega, by go_num, by rw [HF.out, ← List.append_assoc]; exact own7, HM2, B6⟩
          case measure => simp [intOf]; omega
        · obtain rfl : j = k := by omega
          have d1 : decide ((j : Int) < (j : Int)) = false := by simp
          have hTk : Ls.take j = Ls := List.take_of_length_le (by rw [HN.out]; exact Nat.le_refl _)
          rw [hTk] at hown hme
          have hpm : m = (putIx Ls).length := by rw [putIx_len, HHD.out, hme.out]
          subst hpm
          have hown2 : wr.ownsRow w.heap.size 5 1 u7 (putIx Ls).length (putIx Ls) := hown
          obtain ⟨A9, c9, rfl, l9, _⟩ := own_lists hown2
          have HQ := Lib.hid (HOK.out HGood.out A9 c9 wr l9 hb)
          clear hown hown2 hTk hme l9
          go_wp2
          exact HQ.out
end Go.Proofs.Ytpaenjalpcdamaa

namespace Go.Proofs.Ytpaenjalpcdamaa
open Go Go.RowKit
set_option linter.unusedVariables false
set_option linter.unusedSimpArgs false

theorem rdB_skip (P Q : List Value) : ∀ n k, rdB (P ++ Q) n (P.length + k) = rdB Q n k
  | 0, _ => rfl
  | n + 1, k => by
    show rdB _ n _ * 256 + byteAt _ (P.length + k + n) = rdB Q n k * 256 + byteAt Q (k + n)
    rw [rdB_skip P Q n k, Nat.add_assoc, byteAt_append_right]
theorem rdB_be (wd x : Nat) (rest : List Value) (h1 : 1 ≤ wd) (h3 : wd ≤ 3) (hx : (wd = 1 ∧ x < 256) ∨ (wd = 2 ∧ x < 65536) ∨ (wd = 3 ∧ x < 16777216)) : rdB (beN wd (x : Int) ++ rest) wd 0 = x := by
  match wd, h1, h3 with
  | 1, _, _ =>
    have e : rdB (beN 1 (x : Int) ++ rest) 1 0 = 0 * 256 + ((x : Int) % 256).toNat := rfl
    rw [e]; omega
  | 2, _, _ =>
    have e : rdB (beN 2 (x : Int) ++ rest) 2 0 = (0 * 256 + ((x : Int) / 256 % 256).toNat) * 256 + ((x : Int) % 256).toNat := rfl
    rw [e]; omega
  | 3, _, _ =>
    have e : rdB (beN 3 (x : Int) ++ rest) 3 0 = ((0 * 256 + ((x : Int) / 65536 % 256).toNat) * 256 + ((x : Int) / 256 % 256).toNat) * 256 + ((x : Int) % 256).toNat := rfl
    rw [e]; omega
theorem flatB_len {wd : Nat} (h1 : 1 ≤ wd) (h3 : wd ≤ 3) : ∀ l : List Nat, (l.flatMap fun o => beN wd ((o : Nat) : Int)).length = l.length * wd
  | [] => by simp
  | x :: l => by rw [List.flatMap_cons, List.length_append, flatB_len h1 h3 l, beN_len h1 h3, List.length_cons, Nat.add_mul]; omega
theorem rdB_flat {wd : Nat} (h1 : 1 ≤ wd) (h3 : wd ≤ 3) : ∀ (l : List Nat) (j v : Nat), l[j]? = some v → ((wd = 1 ∧ v < 256) ∨ (wd = 2 ∧ v < 65536) ∨ (wd = 3 ∧ v < 16777216)) → rdB (l.flatMap fun o => beN wd ((o : Nat) : Int)) wd (j * wd) = v
  | [], j, v, h, _ => by simp at h
  | x :: l, 0, v, h, hv => by
    simp at h
    subst h
    rw [List.flatMap_cons, Nat.zero_mul]
    exact rdB_be wd x _ h1 h3 hv
  | x :: l, j + 1, v, h, hv => by
    rw [List.flatMap_cons, show (j + 1) * wd = (beN wd ((x : Nat) : Int)).length + j * wd by rw [beN_len h1 h3, Nat.add_mul]; omega, rdB_skip]
    exact rdB_flat h1 h3 l j v (by simpa using h) hv
theorem offT_at : ∀ (Ls : List (List Value)) (a j : Nat), j ≤ Ls.length → (offT a Ls)[j]? = some (a + tot (Ls.take j))
  | [], a, j, h => by
    have : j = 0 := by simpa using h
    subst this
    simp [offT, tot]
  | L :: Ls, a, 0, _ => by simp [offT, tot]
  | L :: Ls, a, j + 1, h => by
    show (a :: offT (a + L.length) Ls)[j + 1]? = _
    rw [List.getElem?_cons_succ, offT_at Ls (a + L.length) j (by simpa using h)]
    simp [tot]
    omega
theorem tot_step (Ls : List (List Value)) (j : Nat) : tot (Ls.take j) ≤ tot (Ls.take (j + 1)) := by
  have := tot_take (Ls.take (j + 1)) j
  rwa [List.take_take, Nat.min_eq_left (by omega)] at this
theorem flatten_len (Ls : List (List Value)) : Ls.flatten.length = tot Ls := by unfold tot; rw [List.length_flatten]
/-- The offsets that were put, read again. -/
theorem offI_put (Ls : List (List Value)) (wd : Nat) (h1 : 1 ≤ wd) (h3 : wd ≤ 3) (hv : (wd = 1 ∧ 1 + tot Ls < 256) ∨ (wd = 2 ∧ 1 + tot Ls < 65536) ∨ (wd = 3 ∧ 1 + tot Ls < 16777216)) (j : Nat) (hj : j ≤ Ls.length) :
    offI ((offT 1 Ls).flatMap fun o => beN wd ((o : Nat) : Int)) wd j = ((tot (Ls.take j) : Nat) : Int) := by
  have ht := tot_take Ls j
  unfold offI
  rw [rdB_flat h1 h3 (offT 1 Ls) j (1 + tot (Ls.take j)) (offT_at Ls 1 j hj) (by omega)]
  omega
theorem okOs_put (Ls : List (List Value)) (wd : Nat) (h1 : 1 ≤ wd) (h3 : wd ≤ 3) (hv : (wd = 1 ∧ 1 + tot Ls < 256) ∨ (wd = 2 ∧ 1 + tot Ls < 65536) ∨ (wd = 3 ∧ 1 + tot Ls < 16777216)) :
    okOs ((offT 1 Ls).flatMap fun o => beN wd ((o : Nat) : Int)) wd (Ls.length + 1) = true := by
  unfold okOs
  refine List.all_eq_true.2 fun j hj => ?_
  have hj2 := List.mem_range.1 hj
  have e := offI_put Ls wd h1 h3 hv j (by omega)
  unfold okO
  refine decide_eq_true fun h => ?_
  cases j with
  | zero =>
    rw [e] at h
    simp [lastO, tot] at h
  | succ k =>
    have e1 := offI_put Ls wd h1 h3 hv k (by omega)
    rw [e, show lastO _ wd (k + 1) = _ from e1] at h
    have := tot_step Ls k
    omega
theorem lst_put (Ls : List (List Value)) (os : List Nat) (h : ∀ j, j ≤ Ls.length → os[j]? = some (tot (Ls.take j))) (hl : os.length = Ls.length + 1) : lsts os Ls.flatten = Ls := by
  apply List.ext_getElem?
  intro i
  unfold lsts
  rw [List.getElem?_map, hl, Nat.add_sub_cancel]
  rcases Nat.lt_or_ge i Ls.length with hi | hi
  · rw [List.getElem?_range hi, Option.map_some]
    unfold lstAt
    rw [List.getD_eq_getElem?_getD, List.getD_eq_getElem?_getD, h i (by omega), h (i + 1) (by omega)]
    simp only [Option.getD_some]
    obtain ⟨L, hL⟩ : ∃ L, Ls[i]? = some L := ⟨Ls[i]'hi, List.getElem?_eq_getElem _⟩
    have hT : Ls.take (i + 1) = Ls.take i ++ [L] := by rw [List.take_add_one, hL]; rfl
    have hS : Ls = Ls.take i ++ L :: Ls.drop (i + 1) := by
      have h0 := List.take_append_drop (i + 1) Ls
      rw [hT, List.append_assoc] at h0
      exact h0.symm
    have hF : Ls.flatten = (Ls.take i).flatten ++ (L ++ (Ls.drop (i + 1)).flatten) := by
      conv => lhs; rw [hS]
      rw [List.flatten_append, List.flatten_cons]
    rw [hF, hT, tot_snoc, hL, List.drop_left' (flatten_len _), show tot (Ls.take i) + L.length - tot (Ls.take i) = L.length by omega, List.take_left' rfl]
  · rw [List.getElem?_eq_none (by simpa using hi), List.getElem?_eq_none hi]
    rfl
set_option maxRecDepth 100000 in
theorem ld_put (Ls : List (List Value)) (X : List Value) (hok : okIx Ls = true) : ∃ os D, ldX (putIx Ls ++ X) = some (os, D, (putIx Ls).length) ∧ lsts os D = Ls := by
  unfold okIx at hok
  simp only [Bool.and_eq_true, decide_eq_true_eq] at hok
  obtain ⟨hn, ht⟩ := hok
  rw [putIx_len] at ht
  have hl := putIx_len Ls
  by_cases h0 : Ls.length = 0
  · have : Ls = [] := List.eq_nil_of_length_eq_zero h0
    subst this
    exact ⟨[], [], rfl, rfl⟩
  have hhl := hd_len1 Ls h0 (by omega)
  obtain ⟨h1, h3⟩ := wd_le (x := 1 + tot Ls) (by omega) (by omega)
  have hv : (wdN (1 + tot Ls) = 1 ∧ 1 + tot Ls < 256) ∨ (wdN (1 + tot Ls) = 2 ∧ 1 + tot Ls < 65536) ∨ (wdN (1 + tot Ls) = 3 ∧ 1 + tot Ls < 16777216) := by
    unfold wdN
    repeat' split
    all_goals omega
  have hoi := offI_put Ls _ h1 h3 hv
  have hos := okOs_put Ls _ h1 h3 hv
  have hfl := flatB_len h1 h3 (offT 1 Ls)
  rw [offT_len] at hfl
  have hE : putIx Ls ++ X = be2 (Ls.length : Nat) ++ (be1 (wdN (1 + tot Ls) : Nat) ++ ((offT 1 Ls).flatMap (fun o => beN (wdN (1 + tot Ls)) ((o : Nat) : Int)) ++ (Ls.flatten ++ X))) := by
    unfold putIx hdE offE
    rw [if_neg h0]
    simp only [List.append_assoc]
  have hlen : (putIx Ls ++ X).length = 3 + (Ls.length + 1) * wdN (1 + tot Ls) + tot Ls + X.length := by rw [List.length_append, hl, hhl]
  have hrd : rd2 (putIx Ls ++ X) 0 = Ls.length := by
    have := rd2_be2 (Ls.length : Nat) (be1 (wdN (1 + tot Ls) : Nat) ++ ((offT 1 Ls).flatMap (fun o => beN (wdN (1 + tot Ls)) ((o : Nat) : Int)) ++ (Ls.flatten ++ X)))
    rw [← hE] at this
    omega
  generalize wdN (1 + tot Ls) = wd at *
  generalize hO : ((offT 1 Ls).flatMap fun o => beN wd ((o : Nat) : Int)) = O at *
  have hby : byteAt (putIx Ls ++ X) 2 = wd := by
    have e : byteAt (be2 (Ls.length : Nat) ++ (be1 (wd : Nat) ++ (O ++ (Ls.flatten ++ X)))) 2 = ((wd : Int) % 256).toNat := rfl
    rw [hE, e]
    omega
  obtain ⟨mm, hmm⟩ : ∃ mm, (Ls.length + 1) * wd = mm := ⟨_, rfl⟩
  have hE2 : ((putIx Ls ++ X).drop 3).take mm = O := by
    rw [hE, ← List.append_assoc, List.drop_left' (by rfl), List.take_left' (by rw [hfl, hmm])]
  have hD : ((putIx Ls ++ X).drop (3 + mm)).take (tot Ls) = Ls.flatten := by
    rw [hE, ← List.append_assoc, ← List.append_assoc, List.drop_left' (by rw [List.length_append, hfl, hmm]; rfl), List.take_left' (flatten_len Ls)]
  have hoiN := hoi Ls.length (Nat.le_refl _)
  rw [List.take_length] at hoiN
  rw [hmm] at hlen hhl
  refine ⟨osN O wd (Ls.length + 1), Ls.flatten, ?_, lst_put Ls _ (fun j hj => ?_) (by unfold osN; simp)⟩
  · unfold ldX
    rw [if_neg (by omega), hrd, if_neg h0, hby]
    simp only [hmm, hE2, hoiN, Int.toNat_natCast, hD]
    rw [if_pos ⟨h1, by omega, by omega, hos, by omega⟩, hl, hhl]
  · rw [osN_at _ _ _ _ (by omega), hoi j hj, Int.toNat_natCast]
end Go.Proofs.Ytpaenjalpcdamaa

namespace Go.Proofs.Ytpaenjalpcdamaa
open Go.ChangeShapes Go.WideShapes Go.ChangeAt Go.RowKit

section
variable {H : Type} {enc : TypeId × Value → H}
/-- A []byte that came in, with room for what little is put ahead of it. -/
theorem open_less {P : Program} {w : World} {t e : TypeId} {base : Nat} {spare : Nat → Bool} {held : Bool} {r : Reach} {b0 : Nat} {v : Value} {d : DataW H} {p : List MemPlace}
    (hs : P.underlying t = some (.slice e)) (he : P.underlying e = some (.int .u8)) (hC : P.cellsOf e = 1) (hb : P.bytesOf e = 1)
    (hv : Value.okWide P w r b0 t v) (h : DataW.Trod enc P w base spare held t v d p) (hz : ∀ m ∈ d.weights P t, m ≤ reachBytes) :
    ∃ (A : Option Addr) (c : Nat) (E : List Value), v = .slice A E.length c ∧ E.length ≤ c ∧ c ≤ 9223372036854775807 ∧ Lists w w.heap.size A E ∧ Bytes8 E ∧ E.length ≤ 140737488351232 := by
  obtain ⟨a0, len, cap, rfl⟩ := okWide_slice hs hv
  obtain ⟨fuel, hf⟩ := h
  rw [show (Value.slice a0 len cap).cells = #[.slice a0 len cap] from rfl] at hf
  obtain ⟨A, n, c, zs, hv1, hlen, hnc, hcm, hL, hwf, hw⟩ := open_nums hs he hC hf
  have h1 := hw reachBytes hz
  rw [hb] at h1
  have hr : reachBytes ≤ 140737488351232 := by decide
  unfold maxLen at hcm
  refine ⟨A, c, zs.map (Value.int .u8), by rw [List.length_map, hlen]; exact hv1, by rw [List.length_map]; omega, hcm, hL, bytes_of_wf hwf, by rw [List.length_map]; omega⟩
end
end Go.Proofs.Ytpaenjalpcdamaa
