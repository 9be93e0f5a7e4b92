/- Part 11 of the proof: DcG, DcH, DcN, DcLaid. -/
import Derived.ProofKit
import Derived.LaidMore
import Derived.OpenShut
import Derived.Stop.Joined
import Derived.Test.YthoocoaalbeopaaDoorCDc9

namespace Go.Proofs.YthoocoaalbeopaaDoor
open Go Go.RowKit
set_option linter.unusedVariables false
set_option linter.unusedSimpArgs false

theorem info_partsD {o : Option TypeInfo} {z : Option Value} {n b : Nat} (h : o.map (fun i => (i.zero, i.size, i.bytes)) = some (z, n, b)) : ∃ i, o = some i ∧ i.zero = z ∧ i.size = n ∧ i.bytes = b := by
  cases o with
  | none => cases h
  | some i => simp at h; exact ⟨i, rfl, h.1, h.2.1, h.2.2⟩
/-- Bytes in new memory. -/
def NewD (n : Nat) (xs : List Value) (w : World) (e : Ending) (w' : World) : Prop := ∃ b, e = .returned (.slice (some ⟨b, 0, none⟩) n n) ∧ Lists w' w'.heap.size (some ⟨b, 0, none⟩) xs ∧ Below w.heap.size w w'
theorem newD_of (n : Nat) (w : World) (cs : List Value) (e : Ending) (w' : World) (h : e = .returned (.slice (some ⟨w.heap.size, 0, none⟩) n n) ∧ w' = w.alloc (.cells cs.toArray 5)) : NewD n cs w e w' := by
  obtain ⟨rfl, rfl⟩ := h
  exact ⟨w.heap.size, rfl, (lists_row w cs 5).more (by simp), (Below.refl _ _).alloc (Nat.le_refl _) _⟩
theorem rbD2 (x : Int) (w : World) : Calls Tryd.prog 57 #[.int .i64 2, .int .i64 x] w (NewD 2 (be2 x) w) := (rbytes2_any x w).mono fun e w' h => newD_of 2 w [.int .u8 (x / 256 % 256), .int .u8 (x % 256)] e w' h
theorem rbD4 (x : Int) (w : World) : Calls Tryd.prog 57 #[.int .i64 4, .int .i64 x] w (NewD 4 (be4 x) w) := (rbytes4_any x w).mono fun e w' h => newD_of 4 w [.int .u8 (x / 16777216 % 256), .int .u8 (x / 65536 % 256), .int .u8 (x / 256 % 256), .int .u8 (x % 256)] e w' h
theorem own_oneD (w : World) (x : Int) : (w.alloc (.cells #[.int .u8 x] 5)).ownsRow w.heap.size 5 1 (.slice (some ⟨w.heap.size, 0, none⟩) 1 1) 1 [.int .u8 x] := ⟨rfl, .inr ⟨w.heap.size, 1, #[.int .u8 x], rfl, Nat.le_refl _, heap_alloc_new w _, Nat.le_refl _, by unfold maxLen; omega, rfl, rfl⟩⟩
/-- A number's bytes were answered. -/
def RNum (w : World) (E : List Value) (e : Ending) (w' : World) : Prop := ∃ A c, e = .returned (.slice A E.length c) ∧ Hid (Lists w' w'.heap.size A E) ∧ Below w.heap.size w w'

set_option maxRecDepth 100000 in
theorem rnum_0 (x : Int) (w : World) (h1 : -107 ≤ x) (h2 : x ≤ 107) : Calls Tryd.prog 36 #[.int .i64 x] w (RNum w (be1 (x + 139))) := by
  have f0 : x ≥ -107 := by omega
  have t0 : x ≤ 107 := by omega
  have q1 : IntKind.i64.wrap (x + 139) = x + 139 := IntWalk.i64_in _ (by omega)
  have HZ := Lib.hid (show be1 (x + 139) = [.int .u8 (x + 139)] by simp only [be1, List.cons.injEq, Value.int.injEq, true_and, and_true]; omega)
  have e1 : (x + 139) % 256 = x + 139 := by omega
  go_enter Tryd.func36, Tryd.ntmps36
  go_wp2
  exact bodyPost_ret (v := .slice (some ⟨w.heap.size, 0, none⟩) 1 1) (by simp [results, Tryd.results36, go_sem]) rfl ⟨_, _, rfl, Lib.hid (by rw [HZ.out]; exact (lists_row w [.int .u8 (x + 139)] 5).more (Nat.le_of_eq (show w.heap.size + 1 = (w.alloc (.cells [.int .u8 (x + 139)].toArray 5)).heap.size by simp))), (Below.refl _ _).alloc (Nat.le_refl _) _⟩


set_option maxRecDepth 100000 in
theorem rnum_1 (x : Int) (w : World) (h1 : 108 ≤ x) (h2 : x ≤ 1131) : Calls Tryd.prog 36 #[.int .i64 x] w (RNum w (be1 (247 + (x - 108) / 256) ++ be1 (x - 108))) := by
  have f0 : x ≥ -107 := by omega
  have t0 : ¬ x ≤ 107 := by omega
  have f1 : x ≥ 108 := by omega
  have t1 : x ≤ 1131 := by omega
  obtain ⟨f, hf⟩ : ∃ f, (x - 108) / 256 = f := ⟨_, rfl⟩
  obtain ⟨g, hg⟩ : ∃ g, (x - 108) % 256 = g := ⟨_, rfl⟩
  have hfg : 0 ≤ f ∧ f ≤ 3 ∧ 0 ≤ g ∧ g < 256 := by omega
  have q1 : IntKind.i64.wrap (x - 108) = x - 108 := IntWalk.i64_in _ (by omega)
  skip
  have p1 : wrap64 ((x - 108).tdiv 256) = f := by rw [Int.tdiv_eq_ediv_of_nonneg (by omega), hf]; simp [wrap64]; omega
  have p2 : (x - 108).tmod 256 = g := by rw [Int.tmod_eq_emod_of_nonneg (by omega), hg]
  have q3 : IntKind.i64.wrap (f + 247) = f + 247 := IntWalk.i64_in _ (by omega)
  have HZ := Lib.hid (show be1 (247 + (x - 108) / 256) ++ be1 (x - 108) = [.int .u8 ((x - 108) / 256 + 247), .int .u8 g] by
    simp only [be1, List.cons_append, List.nil_append, List.cons.injEq, Value.int.injEq, true_and, and_true]
    omega)
  have e1 : (f + 247) % 256 = f + 247 := by omega
  have e2 : g % 256 = g := by omega
  clear hf hg
  go_enter Tryd.func36, Tryd.ntmps36
  go_wp2
  exact bodyPost_ret (v := .slice (some ⟨w.heap.size, 0, none⟩) 2 2) (by simp [results, Tryd.results36, go_sem]) rfl ⟨_, _, rfl, Lib.hid (by rw [HZ.out]; exact (lists_row w [.int .u8 ((x - 108) / 256 + 247), .int .u8 g] 5).more (Nat.le_of_eq (show w.heap.size + 1 = (w.alloc (.cells [.int .u8 ((x - 108) / 256 + 247), .int .u8 g].toArray 5)).heap.size by simp))), (Below.refl _ _).alloc (Nat.le_refl _) _⟩


set_option maxRecDepth 100000 in
theorem rnum_2 (x : Int) (w : World) (h1 : -1131 ≤ x) (h2 : x ≤ -108) : Calls Tryd.prog 36 #[.int .i64 x] w (RNum w (be1 (251 + (-x - 108) / 256) ++ be1 (-x - 108))) := by
  have f0 : ¬ x ≥ -107 := by omega
  have f1 : ¬ x ≥ 108 := by omega
  have f2 : x ≥ -1131 := by omega
  have t2 : x ≤ -108 := by omega
  obtain ⟨f, hf⟩ : ∃ f, (-x - 108) / 256 = f := ⟨_, rfl⟩
  obtain ⟨g, hg⟩ : ∃ g, (-x - 108) % 256 = g := ⟨_, rfl⟩
  have hfg : 0 ≤ f ∧ f ≤ 3 ∧ 0 ≤ g ∧ g < 256 := by omega
  have q1 : IntKind.i64.wrap (-x - 108) = -x - 108 := IntWalk.i64_in _ (by omega)
  have q0 : IntKind.i64.wrap (-x) = -x := IntWalk.i64_in _ (by omega)
  have p1 : wrap64 ((-x - 108).tdiv 256) = f := by rw [Int.tdiv_eq_ediv_of_nonneg (by omega), hf]; simp [wrap64]; omega
  have p2 : (-x - 108).tmod 256 = g := by rw [Int.tmod_eq_emod_of_nonneg (by omega), hg]
  have q3 : IntKind.i64.wrap (f + 251) = f + 251 := IntWalk.i64_in _ (by omega)
  have HZ := Lib.hid (show be1 (251 + (-x - 108) / 256) ++ be1 (-x - 108) = [.int .u8 ((-x - 108) / 256 + 251), .int .u8 g] by
    simp only [be1, List.cons_append, List.nil_append, List.cons.injEq, Value.int.injEq, true_and, and_true]
    omega)
  have e1 : (f + 251) % 256 = f + 251 := by omega
  have e2 : g % 256 = g := by omega
  clear hf hg
  go_enter Tryd.func36, Tryd.ntmps36
  go_wp2
  exact bodyPost_ret (v := .slice (some ⟨w.heap.size, 0, none⟩) 2 2) (by simp [results, Tryd.results36, go_sem]) rfl ⟨_, _, rfl, Lib.hid (by rw [HZ.out]; exact (lists_row w [.int .u8 ((-x - 108) / 256 + 251), .int .u8 g] 5).more (Nat.le_of_eq (show w.heap.size + 1 = (w.alloc (.cells [.int .u8 ((-x - 108) / 256 + 251), .int .u8 g].toArray 5)).heap.size by simp))), (Below.refl _ _).alloc (Nat.le_refl _) _⟩


set_option maxRecDepth 100000 in
theorem rnum_3l (x : Int) (w : World) (h1 : -32768 ≤ x) (h2 : x ≤ -1132) : Calls Tryd.prog 36 #[.int .i64 x] w (RNum w (be1 28 ++ be2 x)) := by
  have f0 : ¬ x ≥ -107 := by omega
  have f1 : ¬ x ≥ 108 := by omega
  have f2 : ¬ x ≥ -1131 := by omega
  have f3 : x ≥ -32768 := by omega
  have t3 : x < 32768 := by omega
  obtain ⟨i0, hi, hz0, hz1, hz2⟩ := info_partsD u8Info
  go_enter Tryd.func36, Tryd.ntmps36
  go_wp2_with (first | (go_at_call 57; ((with_reducible refine (rbD2 x _).mono ?_); rintro e w3 ⟨b3, rfl, l3, B3⟩; have own3 := ownE_stay (own_oneD w 28) B3; have BW3 := ((Below.refl w.heap.size w).alloc (Nat.le_refl _) (.cells #[.int .u8 28] 5)).trans (B3.mono (by simp)))) | (at_builtin; refine wpList_append_src_wide _ rfl (.tmp 57) (.tmp 59) 22 rfl w.heap.size 5 i0 (.int .u8 0) 1 1 Tryd.underlying22 hi hz0 hz1 hz2 rfl (by decide) (.slice (some ⟨w.heap.size, 0, none⟩) 1 1) 1 (be1 28) rfl own3 w3.heap.size (some ⟨b3, 0, none⟩) 2 2 (be2 x) rfl l3 rfl (by simp [be1, be2, be4, Value.oneCell']) (by simp only [maxLen]; omega) (by omega) BW3.size ?_; intro v4 w4 own4 hg4; have BW4 := BW3.grown hg4 BW3.size (fun b hb => ownE_low2 own3 b (by simp [blk, hb])); obtain ⟨A4, c4, rfl, l4, hc4⟩ := own_lists own4))
  exact bodyPost_ret (v := .slice A4 (1 + 2) c4) (by simp [results, Tryd.results36, go_sem]) rfl ⟨_, _, rfl, Lib.hid l4, BW4⟩


set_option maxRecDepth 100000 in
theorem rnum_3h (x : Int) (w : World) (h1 : 1132 ≤ x) (h2 : x ≤ 32767) : Calls Tryd.prog 36 #[.int .i64 x] w (RNum w (be1 28 ++ be2 x)) := by
  have f0 : x ≥ -107 := by omega
  have t0 : ¬ x ≤ 107 := by omega
  have f1 : x ≥ 108 := by omega
  have t1 : ¬ x ≤ 1131 := by omega
  have f2 : x ≥ -1131 := by omega
  have t2 : ¬ x ≤ -108 := by omega
  have f3 : x ≥ -32768 := by omega
  have t3 : x < 32768 := by omega
  obtain ⟨i0, hi, hz0, hz1, hz2⟩ := info_partsD u8Info
  go_enter Tryd.func36, Tryd.ntmps36
  go_wp2_with (first | (go_at_call 57; ((with_reducible refine (rbD2 x _).mono ?_); rintro e w3 ⟨b3, rfl, l3, B3⟩; have own3 := ownE_stay (own_oneD w 28) B3; have BW3 := ((Below.refl w.heap.size w).alloc (Nat.le_refl _) (.cells #[.int .u8 28] 5)).trans (B3.mono (by simp)))) | (at_builtin; refine wpList_append_src_wide _ rfl (.tmp 57) (.tmp 59) 22 rfl w.heap.size 5 i0 (.int .u8 0) 1 1 Tryd.underlying22 hi hz0 hz1 hz2 rfl (by decide) (.slice (some ⟨w.heap.size, 0, none⟩) 1 1) 1 (be1 28) rfl own3 w3.heap.size (some ⟨b3, 0, none⟩) 2 2 (be2 x) rfl l3 rfl (by simp [be1, be2, be4, Value.oneCell']) (by simp only [maxLen]; omega) (by omega) BW3.size ?_; intro v4 w4 own4 hg4; have BW4 := BW3.grown hg4 BW3.size (fun b hb => ownE_low2 own3 b (by simp [blk, hb])); obtain ⟨A4, c4, rfl, l4, hc4⟩ := own_lists own4))
  exact bodyPost_ret (v := .slice A4 (1 + 2) c4) (by simp [results, Tryd.results36, go_sem]) rfl ⟨_, _, rfl, Lib.hid l4, BW4⟩


set_option maxRecDepth 100000 in
theorem rnum_4l (x : Int) (w : World) (h1 : -2147483648 ≤ x) (h2 : x ≤ -32769) : Calls Tryd.prog 36 #[.int .i64 x] w (RNum w (be1 29 ++ be4 x)) := by
  have f0 : ¬ x ≥ -107 := by omega
  have f1 : ¬ x ≥ 108 := by omega
  have f2 : ¬ x ≥ -1131 := by omega
  have f3 : ¬ x ≥ -32768 := by omega
  obtain ⟨i0, hi, hz0, hz1, hz2⟩ := info_partsD u8Info
  go_enter Tryd.func36, Tryd.ntmps36
  go_wp2_with (first | (go_at_call 57; ((with_reducible refine (rbD4 x _).mono ?_); rintro e w3 ⟨b3, rfl, l3, B3⟩; have own3 := ownE_stay (own_oneD w 29) B3; have BW3 := ((Below.refl w.heap.size w).alloc (Nat.le_refl _) (.cells #[.int .u8 29] 5)).trans (B3.mono (by simp)))) | (at_builtin; refine wpList_append_src_wide _ rfl (.tmp 61) (.tmp 63) 22 rfl w.heap.size 5 i0 (.int .u8 0) 1 1 Tryd.underlying22 hi hz0 hz1 hz2 rfl (by decide) (.slice (some ⟨w.heap.size, 0, none⟩) 1 1) 1 (be1 29) rfl own3 w3.heap.size (some ⟨b3, 0, none⟩) 4 4 (be4 x) rfl l3 rfl (by simp [be1, be2, be4, Value.oneCell']) (by simp only [maxLen]; omega) (by omega) BW3.size ?_; intro v4 w4 own4 hg4; have BW4 := BW3.grown hg4 BW3.size (fun b hb => ownE_low2 own3 b (by simp [blk, hb])); obtain ⟨A4, c4, rfl, l4, hc4⟩ := own_lists own4))
  exact bodyPost_ret (v := .slice A4 (1 + 4) c4) (by simp [results, Tryd.results36, go_sem]) rfl ⟨_, _, rfl, Lib.hid l4, BW4⟩


set_option maxRecDepth 100000 in
theorem rnum_4h (x : Int) (w : World) (h1 : 32768 ≤ x) (h2 : x ≤ 2147483647) : Calls Tryd.prog 36 #[.int .i64 x] w (RNum w (be1 29 ++ be4 x)) := by
  have f0 : x ≥ -107 := by omega
  have t0 : ¬ x ≤ 107 := by omega
  have f1 : x ≥ 108 := by omega
  have t1 : ¬ x ≤ 1131 := by omega
  have f2 : x ≥ -1131 := by omega
  have t2 : ¬ x ≤ -108 := by omega
  have f3 : x ≥ -32768 := by omega
  have t3 : ¬ x < 32768 := by omega
  obtain ⟨i0, hi, hz0, hz1, hz2⟩ := info_partsD u8Info
  go_enter Tryd.func36, Tryd.ntmps36
  go_wp2_with (first | (go_at_call 57; ((with_reducible refine (rbD4 x _).mono ?_); rintro e w3 ⟨b3, rfl, l3, B3⟩; have own3 := ownE_stay (own_oneD w 29) B3; have BW3 := ((Below.refl w.heap.size w).alloc (Nat.le_refl _) (.cells #[.int .u8 29] 5)).trans (B3.mono (by simp)))) | (at_builtin; refine wpList_append_src_wide _ rfl (.tmp 61) (.tmp 63) 22 rfl w.heap.size 5 i0 (.int .u8 0) 1 1 Tryd.underlying22 hi hz0 hz1 hz2 rfl (by decide) (.slice (some ⟨w.heap.size, 0, none⟩) 1 1) 1 (be1 29) rfl own3 w3.heap.size (some ⟨b3, 0, none⟩) 4 4 (be4 x) rfl l3 rfl (by simp [be1, be2, be4, Value.oneCell']) (by simp only [maxLen]; omega) (by omega) BW3.size ?_; intro v4 w4 own4 hg4; have BW4 := BW3.grown hg4 BW3.size (fun b hb => ownE_low2 own3 b (by simp [blk, hb])); obtain ⟨A4, c4, rfl, l4, hc4⟩ := own_lists own4))
  exact bodyPost_ret (v := .slice A4 (1 + 4) c4) (by simp [results, Tryd.results36, go_sem]) rfl ⟨_, _, rfl, Lib.hid l4, BW4⟩

theorem rnum_any (x : Int) (w : World) (h1 : -2147483648 ≤ x) (h2 : x ≤ 2147483647) : Calls Tryd.prog 36 #[.int .i64 x] w (RNum w (numE x)) := by
  unfold numE
  cases h0 : inB (-107) 107 x
  · have i0 := inB_false h0
    cases h3 : inB 108 1131 x
    · have i1 := inB_false h3
      cases h4 : inB (-1131) (-108) x
      · have i2 := inB_false h4
        cases h5 : inB (-32768) 32767 x
        · have i3 := inB_false h5
          rcases i3 with i3 | i3
          · exact rnum_4l x w h1 (by omega)
          · exact rnum_4h x w (by omega) h2
        · have i3 := inB_true h5
          rcases Int.lt_or_le x 0 with h | h
          · exact rnum_3l x w i3.1 (by omega)
          · exact rnum_3h x w (by omega) i3.2
      · have i2 := inB_true h4
        exact rnum_2 x w i2.1 i2.2
    · have i1 := inB_true h3
      exact rnum_1 x w i1.1 i1.2
  · have i0 := inB_true h0
    exact rnum_0 x w i0.1 i0.2
end Go.Proofs.YthoocoaalbeopaaDoor

namespace Go.Proofs.YthoocoaalbeopaaDoor
open Go Go.RowKit
set_option linter.unusedVariables false
set_option linter.unusedSimpArgs false

theorem bytes8_oneD {M : List Value} (h : Bytes8 M) : ∀ u ∈ M, u.oneCell' = true := fun u hu => by
  obtain ⟨k, _, rfl⟩ := h u hu
  rfl
theorem op_le {o : Int} {L : List Int} (h : mayE o L = true) : 0 ≤ o ∧ o ≤ 3327 := by
  unfold mayE at h
  simp only [Bool.and_eq_true] at h
  have h2 := h.1.1
  unfold opB at h2
  simp only [Bool.or_eq_true, Bool.and_eq_true] at h2
  rcases h2 with h2 | h2
  · have := inB_true h2.1; omega
  · have := inB_true h2; omega
set_option maxRecDepth 100000 in
set_option maxHeartbeats 4000000 in
theorem rput15 (A : Option Addr) (c n : Nat) (Es : List Ent) (w : World) (hE : EntAt w w.heap.size A Es) (hnn : Es.length = n) (hn : n ≤ 1000000) (hmay : Es.all mayQ = true) :
    Calls Tryd.prog 16 #[.slice A n c] w (RNum w (putE Es)) := by
  have HE := Lib.hid hE
  have HN := Lib.hid hnn
  have HALL := Lib.hid (show ∀ j, (Es.take j).all mayQ = true from fun j => List.all_eq_true.2 fun q hq => List.all_eq_true.1 hmay q (List.mem_of_mem_take hq))
  have hR := roomE_le Es hmay
  obtain ⟨R, hRR⟩ : ∃ R, roomE Es = R := ⟨_, rfl⟩
  have HRT := Lib.hid (show ∀ j, roomE (Es.take j) ≤ R from fun j => by rw [← hRR]; exact roomE_take Es j)
  rw [hRR, hnn] at hR
  obtain ⟨i0, hi, hz0, hz1, hz2⟩ := info_partsD u8Info
  clear hE hnn hmay hRR
  go_enter Tryd.func16, Tryd.ntmps16
  go_wp2
  go_loopw [3, 4] (fun v iv wr => ∃ k : Nat, k ≤ n ∧ iv = .int .i64 (k : Nat) ∧ wr.ownsRow w.heap.size 5 1 v (putE (Es.take k)).length (putE (Es.take k)) ∧ Below w.heap.size w wr) (fun _ iv _ => n - (intOf iv).toNat)
  case atStart => exact ⟨0, Nat.zero_le _, rfl, World.ownsRow_nil _ _ _ _, Below.refl _ _⟩
  case round =>
    obtain ⟨k, hk, rfl, hown, hb⟩ := hrel
    by_cases hlt : k < n
    · have d1 : decide ((k : Int) < (n : Int)) = true := by simp; omega
      obtain ⟨⟨o, L⟩, hq⟩ : ∃ q, Es[k]? = some q := ⟨Es[k]'(by rw [HN.out]; exact hlt), List.getElem?_eq_getElem _⟩
      obtain ⟨b, o0, Ai, ci, rfl, hbl, c0, c1, hci, hLi⟩ := HE.out.at' k _ hq
      simp only at c0 c1 hci hLi
      obtain ⟨m, hm⟩ : ∃ m, L.length = m := ⟨_, rfl⟩
      rw [hm] at c1 hci
      have hmy : mayE o L = true := by
        have h1 := HALL.out (k + 1)
        rw [List.take_add_one, hq, List.all_append] at h1
        simp only [Option.toList_some, List.all_cons, List.all_nil, Bool.and_true, Bool.and_eq_true] at h1
        exact h1.2
      have HOB := Lib.hid (op_le hmy)
      have hml : m ≤ 48 := by rw [← hm]; exact mayE_len hmy
      have HMY := Lib.hid (show ∀ x ∈ L, -2147483648 ≤ q16 x ∧ q16 x ≤ 2147483647 from fun x hx => may_arg hmy hx)
      have hs := roomE_snoc hq
      have hs2 := HRT.out (k + 1)
      rw [hs] at hs2
      simp only [hm] at hs2
      have hpl := putE_le (Es.take k)
      have HDL := Lib.hid (show (putE (Es.take k)).length + (5 * m + 2) ≤ R by omega)
      have HS := Lib.hid (show putE (Es.take (k + 1)) = putE (Es.take k) ++ (argsE L ++ opE o) from putE_snoc hq)
      generalize putE (Es.take k) = D at *
      have HM := Lib.hid hm
      have HLI := Lib.hid hLi
      have HOWN := Lib.hid hown
      clear hLi hq hm hmy hs hs2 hpl hown
      go_wp2
      go_loopw [3, 5] (fun v jv wx => ∃ j : Nat, j ≤ m ∧ jv = .int .i64 (j : Nat) ∧ wx.ownsRow w.heap.size 5 1 v (D ++ argsE (L.take j)).length (D ++ argsE (L.take j)) ∧ Below w.heap.size w wx) (fun _ jv _ => m - (intOf jv).toNat)
      case atStart => exact ⟨0, Nat.zero_le _, rfl, by rw [show argsE (L.take 0) = [] from rfl, List.append_nil]; exact HOWN.out, hb⟩
      case round =>
        obtain ⟨j, hj, rfl, hown, hbx⟩ := hrel
        have z0 := (hbx.cell (p := ⟨b, o0 + k * 2, none⟩) hbl).trans c0; have z1 := (hbx.cell (p := ⟨b, o0 + k * 2 + 1, none⟩) hbl).trans c1; have z2 := Nat.lt_of_lt_of_le hbl hbx.size
        by_cases hjt : j < m
        · have d2 : decide ((j : Int) < (m : Int)) = true := by simp; omega
          obtain ⟨x, hx⟩ : ∃ x, L[j]? = some x := ⟨L[j]'(by rw [HM.out]; exact hjt), List.getElem?_eq_getElem _⟩
          obtain ⟨b2, o2, rfl, hbl2, hcl2⟩ := HLI.out.plain (by intro e; have h2 := congrArg List.length e; rw [List.length_map, HM.out] at h2; simp at h2; omega)
          have gx := (hbx.cell (p := ⟨b2, o2 + j, none⟩) hbl2).trans (hcl2 j (.int .i64 x) (by rw [List.getElem?_map, hx]; rfl))
          have hxr := HMY.out x (List.mem_of_getElem? hx)
          have p2 : wrap64 (x.tdiv 65536) = q16 x := rfl
          have HAS := Lib.hid (show D ++ argsE (L.take (j + 1)) = D ++ argsE (L.take j) ++ numE (q16 x) by rw [argsE_snoc hx, List.append_assoc])
          have hpn : (D ++ argsE (L.take j)).length ≤ R := by
            have h1 := argsE_len (L.take j)
            have h2 := HDL.out
            rw [List.length_take] at h1
            rw [List.length_append]
            omega
          have ONE8 := Lib.hid (bytes8_oneD (numE_bytes (q16 x)))
          have hne := (numE_len (q16 x)).2
          generalize D ++ argsE (L.take j) = pre at *
          generalize q16 x = y at *
          have CN := fun W => rnum_any y W hxr.1 hxr.2
          generalize numE y = NE at *
          obtain ⟨m3, hm3⟩ : ∃ m3, NE.length = m3 := ⟨_, rfl⟩
          obtain ⟨pn, hpn2⟩ : ∃ pn, pre.length = pn := ⟨_, rfl⟩
          have HM3 := Lib.hid hm3
          have HPN := Lib.hid hpn2
          unfold RNum at CN
          rw [hm3] at CN hne
          rw [hpn2] at hown hpn
          have hb2 := Nat.lt_of_lt_of_le hbl2 hbx.size
          clear hcl2 hx hm3 hpn2
          go_wp2_with (first | (go_at_call 36; ((with_reducible refine (CN _).mono ?_); rintro e w3 ⟨A3, c3, rfl, l3, B3⟩; have own3 := ownE_stay hown B3; have BW3 := hbx.trans (B3.mono hbx.size))) | (at_builtin; refine wpList_append_src_wide _ rfl (.tmp 22) (.tmp 32) 22 rfl w.heap.size 5 i0 (.int .u8 0) 1 1 Tryd.underlying22 hi hz0 hz1 hz2 rfl (by decide) u3 pn pre rfl own3 w3.heap.size A3 m3 c3 NE rfl l3.out (by rw [HM3.out, Nat.mul_one]) ONE8.out (by simp only [maxLen]; omega) (by omega) BW3.size ?_; intro v4 w4 own4 hg4; have BW4 := BW3.grown hg4 BW3.size (fun b hb => ownE_low2 own3 b (by simp [blk, hb]))))
          go_roundw
          case rel => exact ⟨j + 1, by omega, by go_num, by rw [HAS.out, List.length_append, HPN.out, HM3.out]; exact own4, BW4⟩
          case measure => simp [intOf]; omega
        · obtain rfl : j = m := by omega
          have d2 : decide ((j : Int) < (j : Int)) = false := by simp
          rw [show L.take j = L from List.take_of_length_le (by rw [HM.out]; exact Nat.le_refl _)] at hown
          have hpn : (D ++ argsE L).length ≤ R := by
            have h1 := argsE_len L
            have h2 := HDL.out
            rw [HM.out] at h1
            rw [List.length_append]
            omega
          have HS2 := Lib.hid (show putE (Es.take (k + 1)) = (D ++ argsE L) ++ opE o by rw [HS.out, List.append_assoc])
          clear HS HOWN
          have HS := HS2
          clear HS2
          generalize D ++ argsE L = pre at *
          obtain ⟨pn, hpn2⟩ : ∃ pn, pre.length = pn := ⟨_, rfl⟩
          have HPN := Lib.hid hpn2
          rw [hpn2] at hown hpn
          clear hpn2
          by_cases ho : 3072 ≤ o
          · have HO := Lib.hid (show opE o = be1 12 ++ be1 o by unfold opE; rw [if_pos ho])
            have d3 : decide (o ≥ 3072) = true := by simpa using ho
            have q1 : IntKind.i64.wrap (o - 3072) = o - 3072 := IntWalk.i64_in _ (by have := HOB.out; omega)
            have q2 : (o - 3072) % 256 = o % 256 := by omega
            go_wp2_with (first | (at_builtin; refine wpList_append_src_wide _ rfl (.tmp 40) (.tmp 48) 22 rfl w.heap.size 5 i0 (.int .u8 0) 1 1 Tryd.underlying22 hi hz0 hz1 hz2 rfl (by decide) u3 pn pre rfl (ownE_stay hown ((Below.refl _ _).alloc (Nat.le_refl _) (.cells #[.int .u8 12, .int .u8 (o % 256)] 5))) (wr.heap.size + 1) (some ⟨wr.heap.size, 0, none⟩) 2 2 [.int .u8 12, .int .u8 (o % 256)] rfl (lists_row wr [.int .u8 12, .int .u8 (o % 256)] 5) rfl (by simp [Value.oneCell']) (by simp only [maxLen]; omega) (by omega) (by have := hbx.size; simp; omega) ?_; intro v4 w4 own4 hg4; have BA := hbx.trans (((Below.refl wr.heap.size wr).alloc (Nat.le_refl _) (.cells #[.int .u8 12, .int .u8 (o % 256)] 5)).mono hbx.size); have BW4 := BA.grown hg4 BA.size (fun b hb => ownE_low2 hown b (by simp [blk, hb]))))
            go_roundw
            case rel => exact ⟨k + 1, by omega, by go_num, by rw [HS.out, HO.out]; have h := own4; rw [← HPN.out] at h; simpa [be1] using h, BW4⟩
            case measure => simp [intOf]; omega
          · have HO := Lib.hid (show opE o = be1 o by unfold opE; rw [if_neg ho])
            have d3 : decide (o ≥ 3072) = false := by simpa using ho
            go_wp2_with (first | (at_builtin; refine wpList_append_src_wide _ rfl (.tmp 50) (.tmp 57) 22 rfl w.heap.size 5 i0 (.int .u8 0) 1 1 Tryd.underlying22 hi hz0 hz1 hz2 rfl (by decide) u3 pn pre rfl (ownE_stay hown ((Below.refl _ _).alloc (Nat.le_refl _) (.cells #[.int .u8 (o % 256)] 5))) (wr.heap.size + 1) (some ⟨wr.heap.size, 0, none⟩) 1 1 [.int .u8 (o % 256)] rfl (lists_row wr [.int .u8 (o % 256)] 5) rfl (by simp [Value.oneCell']) (by simp only [maxLen]; omega) (by omega) (by have := hbx.size; simp; omega) ?_; intro v4 w4 own4 hg4; have BA := hbx.trans (((Below.refl wr.heap.size wr).alloc (Nat.le_refl _) (.cells #[.int .u8 (o % 256)] 5)).mono hbx.size); have BW4 := BA.grown hg4 BA.size (fun b hb => ownE_low2 hown b (by simp [blk, hb]))))
            go_roundw
            case rel => exact ⟨k + 1, by omega, by go_num, by rw [HS.out, HO.out]; have h := own4; rw [← HPN.out] at h; simpa [be1] using h, BW4⟩
            case measure => simp [intOf]; omega
    · obtain rfl : n = k := by omega
      have d1 : decide ((n : Int) < (n : Int)) = false := by simp
      rw [show Es.take n = Es from List.take_of_length_le (by rw [HN.out]; exact Nat.le_refl _)] at hown
      obtain ⟨A9, c9, rfl, l9, hc9⟩ := own_lists hown
      have HL9 := Lib.hid l9
      clear l9
      generalize putE Es = PE at *
      go_wp2
      go_ret
      exact ⟨A9, c9, rfl, HL9, hb⟩
end Go.Proofs.YthoocoaalbeopaaDoor

namespace Go.Proofs.YthoocoaalbeopaaDoor
open Go Go.RowKit
set_option linter.unusedVariables false
set_option linter.unusedSimpArgs false

theorem be1_bytesD (x : Int) : Bytes8 (be1 x) := fun v hv => by
  simp only [be1, List.mem_singleton] at hv
  subst hv
  exact ⟨(x % 256).toNat, by omega, by congr 1; omega⟩
theorem opE_bytes (o : Int) : Bytes8 (opE o) := by
  unfold opE
  split
  · exact (be1_bytesD 12).append (be1_bytesD o)
  · exact be1_bytesD o
theorem argsE_bytes (L : List Int) : Bytes8 (argsE L) := fun v hv => by
  obtain ⟨x, _, hx⟩ := List.mem_flatMap.1 hv
  exact numE_bytes _ v hx
theorem putE_bytes (Es : List Ent) : Bytes8 (putE Es) := fun v hv => by
  obtain ⟨q, _, hq⟩ := List.mem_flatMap.1 hv
  rcases List.mem_append.1 hq with h | h
  · exact argsE_bytes _ v h
  · exact opE_bytes _ v h
theorem cntE_le {Es : List Ent} (h : bigD Es = false) : (putE Es).length ≤ 10000000 := by
  obtain ⟨h1, h2⟩ := big_noD h
  have h3 := putE_le Es
  have h4 : ∀ (l : List Ent), (∀ q ∈ l, q.2.length ≤ 3000) → roomE l ≤ 15002 * l.length := by
    intro l
    induction l with
    | nil => intro _; simp [roomE]
    | cons q l ih =>
      intro h
      have i1 := ih fun p hp => h p (by simp [hp])
      have i2 := h q (by simp)
      simp only [roomE, List.map_cons, List.sum_cons, List.length_cons] at i1 ⊢
      omega
  have h5 := h4 Es h2
  omega
end Go.Proofs.YthoocoaalbeopaaDoor

namespace Go.Proofs.YthoocoaalbeopaaDoor
open Go.ChangeShapes Go.WideShapes Go.ChangeAt Go.RowKit
set_option linter.unusedVariables false
set_option linter.unusedSimpArgs false

def laid15 {H : Type} : List (String × DataW H) := [("serif/dict.spelled", Rows.laid_serif_dict_spelled)]
theorem gSpell : Tryd.prog.globalNamed "serif/dict.spelled" = some 0 := by kernel_rfl
theorem tSpell : (Tryd.prog.globals[0]?).map (·.type) = some 103 := by kernel_rfl
theorem uSpell : Tryd.prog.underlying 103 = some (.array 15 9) := by kernel_rfl
theorem cSpell : Tryd.prog.cellsOf 9 = 1 := by kernel_rfl
theorem gd_of_laid {W : World} (h : laidMetH Tryd.prog laid15 W) : GD W := by
  rw [MakeChecks.laidMetH_plain _ _ _ (by kernel_rfl)] at h
  obtain ⟨ps, ⟨g0, t0, cs0, f0, p0, q0, hg0, ht0, hv0, hd0, _, _⟩, _, _⟩ := h
  obtain rfl := Option.some.inj (gSpell.symm.trans hg0)
  obtain rfl := Option.some.inj (tSpell.symm.trans ht0)
  obtain ⟨xs, m1, rfl, hx1, hlen, hn3, hel⟩ := DataW.trod_array uSpell hd0
  simp only [Prod.mk.injEq, Rows.laid_serif_dict_spelled, DataW.agg.injEq] at hx1
  have hc : ∀ i : Nat, i < 15 → cs0[i]? = some (.string (spD i)) := fun i hi => by
    have e := hel i hi
    rw [cSpell, Nat.mul_one] at e
    obtain ⟨x, hx⟩ : ∃ x, xs[i]? = some x := ⟨_, List.getElem?_eq_getElem (by omega)⟩
    rw [hx] at e
    obtain ⟨s, a, b, _⟩ := DataW.trod_string Tryd.underlying9 e
    have h1 := congrArg (fun l => l[i]?) hx1.1
    simp only [List.getElem?_map, hx, Option.map_some, b] at h1
    have h3 : s = spD i := by
      apply ByteArray.ext
      apply Array.ext'
      match i, hi, h1 with
      | 0, _, h1 | 1, _, h1 | 2, _, h1 | 3, _, h1 | 4, _, h1 | 5, _, h1 | 6, _, h1 | 7, _, h1 | 8, _, h1 | 9, _, h1 | 10, _, h1 | 11, _, h1 | 12, _, h1 | 13, _, h1 | 14, _, h1 => simp at h1; exact h1.symm
    subst h3
    have h2 := congrArg (fun l => l[0]?) a
    simpa using h2
  have hcell : ∀ i : Nat, i < 15 → W.cell? ⟨0, i, none⟩ = some (.string (spD i)) := fun i hi => by
    have c := World.var?_cell hg0 hv0 i
    rw [hc i hi] at c
    simpa using c
  exact ⟨hcell, cell_lt (hcell 0 (by decide))⟩
theorem door_metD (os : Os) (args : Array Value) : laidMetH Tryd.prog laid15 ((World.doorLaid Tryd.prog 400 os).forCall (fun _ _ => 0) ⟨#[], args, []⟩).memory :=
  laidMetH_of_parts3 (fuel := 8) (laidMet_of_run' 8 (by kernel_rfl) (by kernel_rfl)) (by kernel_rfl) (by kernel_rfl)
end Go.Proofs.YthoocoaalbeopaaDoor
