/- Part 5 of the proof: Met17, Rs, From, Rr, RuN, IxA, Flat. -/
import Derived.Deep.MidRow
import Derived.Laws.ResultCell
import Derived.Laws.Rows
import Derived.Laws.Tables
import Derived.Laws.CopyOwn
import Derived.Test.YtpaenjalpcdamaaCIx3

namespace Go.Proofs.Ytpaenjalpcdamaa
open Go Go.RowKit

/-- The reference's reader at block p: its bytes (below block B), where it stands. -/
def RRd (w : World) (B p : Nat) (bs : List Value) (i : Nat) (bad : Bool) : Prop :=
  ∃ (A : Option Addr) (c : Nat), Blk w p 57 #[.slice A bs.length c, .int .i64 (i : Nat), .bool bad] ∧ Lists w B A bs ∧ Bytes8 bs ∧ i ≤ bs.length ∧ bs.length ≤ c ∧ c ≤ 9223372036854775807 ∧ bs.length ≤ 140737488355328 ∧ B ≤ p
theorem RRd.lt {w : World} {B p i : Nat} {bs : List Value} {bad : Bool} (h : RRd w B p bs i bad) : p < w.heap.size := by
  obtain ⟨_, _, hb, _⟩ := h
  exact hb.lt
theorem RRd.below {w w1 : World} {B p i : Nat} {bs : List Value} {bad : Bool} (h : RRd w B p bs i bad) (k : Below w.heap.size w w1) : RRd w1 B p bs i bad := by
  have hlt := h.lt
  obtain ⟨A, c, hb, hl, h8, h1, h2, h3, h4, h5⟩ := h
  exact ⟨A, c, hb.below k, hl.below (k.mono (by omega)), h8, h1, h2, h3, h4, h5⟩
/-- The next m bytes were answered. -/
def RTook (w : World) (B p : Nat) (bs : List Value) (i m : Nat) (e : Ending) (w' : World) : Prop := ∃ A c, e = .returned (.slice A m c) ∧ Lists w' w'.heap.size A ((bs.drop i).take m) ∧ RRd w' B p bs (i + m) false ∧ Only w w' [p]

set_option maxRecDepth 100000 in
set_option maxHeartbeats 2000000 in
theorem rtake_ok (B p : Nat) (bs : List Value) (i m : Nat) (w : World) (h : RRd w B p bs i false) (hm : 1 ≤ m) (him : i + m ≤ bs.length) :
    Calls Try.prog 36 #[.pointer (some ⟨p, 0, none⟩), .int .i64 (m : Nat)] w (RTook w B p bs i m) := by
  obtain ⟨A, c, hb, hl, h8, h1, h2, h3, h4, h5⟩ := id h
  obtain ⟨b, o, rfl, hbB, hcl⟩ := hl.plain (by intro e; rw [e] at him; simp at him; omega)
  have hlen : ((bs.drop i).take m).length = m := by simp only [List.length_take, List.length_drop]; omega
  have hpart : Lists w B (some ⟨b, o + i, none⟩) ((bs.drop i).take m) := by
    have := lists_part hl i m
    simpa [addr_plain] using this
  have h8p : Bytes8 ((bs.drop i).take m) := fun u hu => h8 u (List.mem_of_mem_drop (List.mem_of_mem_take hu))
  have hp := h.lt
  obtain ⟨E, hE⟩ : ∃ E, E = (bs.drop i).take m := ⟨_, rfl⟩
  rw [← hE] at hlen hpart h8p
  have HE := Lib.hid hE
  have HL := Lib.hid hl
  have H8 := Lib.hid h8
  have HP := Lib.hid h8p
  have HN := Lib.hid hlen
  clear hE hl h8 h8p hcl h hlen
  obtain ⟨n, hnn⟩ : ∃ n, n = bs.length := ⟨_, rfl⟩
  rw [← hnn] at hb h1 h2 h4 him
  have HB := Lib.hid hnn
  clear hnn
  have F0 := hb.kb; simp only [KB, CellsAt, Nat.zero_add, Nat.reduceAdd, and_true] at F0
  have e1 : decide ((m : Int) < 0) = false := by simp
  have e2 : (0 : Int) ≤ (m : Int) := by omega
  have s0 : IntKind.i64.wrap ((n : Int) - (i : Int)) = (n : Int) - (i : Int) := IntWalk.i64_in _ (by omega)
  have e3 : decide ((n : Int) - (i : Int) < (m : Int)) = false := by simp; omega
  have e3' : ¬ (n : Int) - (i : Int) < (m : Int) := by omega
  have s1 : IntKind.i64.wrap ((i : Int) + (m : Int)) = (i : Int) + (m : Int) := IntWalk.i64_in _ (by omega)
  have s2 : ((i : Int) + (m : Int)).toNat = i + m := by omega
  have e4 : (0 : Int) ≤ (i : Int) := by omega
  have e5 : (i : Int) + (m : Int) ≤ (c : Int) := by omega
  have e6 : (0 : Int) ≤ (i : Int) + (m : Int) := by omega
  have e7 : (i : Int) ≤ (i : Int) + (m : Int) := by omega
  have e8 : ¬ c = i := by omega
  have e9 : i + m - i = m := by omega
  have e10 : (i : Int) ≤ (c : Int) := by omega
  have e11 : i ≤ i + m := by omega
  have e12 : i + m ≤ c := by omega
  obtain ⟨i0, hi, hz0, hz1, hz2⟩ := info_parts u8Info
  go_enter Try.func36, Try.ntmps36
  go_wp2
  have hI : Below w.heap.size w w.drew := (Below.refl _ _).drew
  refine wp_region_chain (fun V => Below w.heap.size w V) [(0, false), (1, false), (2, false), (3, false), (4, false), (5, false), (6, false), (7, false), (8, false), (9, false), (10, false), (11, false), (12, false), (13, false), (14, false), (15, false), (16, false), (17, false), (18, false), (19, false), (20, false), (21, false)] (by kernel_rfl) (by kernel_rfl) hI ?_
  repeat (first
    | (refine ChainL.skip (o := ?_) ?_ ?_ ?_; rotate_left; (focus (first | (simp only [List.getElem?_toArray, List.getElem?_cons_succ, List.getElem?_cons_zero]; with_reducible rfl) | (simp only [List.getElem?_toArray, List.getElem?_cons_zero]; with_reducible rfl))); (focus rfl); simp only [Act.put, List.setIfInBounds_toArray, List.set_cons_zero, List.set_cons_succ])
    | (refine ChainL.val (o := ?_) (v := ?_) ?_ ?_ ?_ ?_ ?_; rotate_left 2; (focus (first | (simp only [List.getElem?_toArray, List.getElem?_cons_succ, List.getElem?_cons_zero]; with_reducible rfl) | (simp only [List.getElem?_toArray, List.getElem?_cons_zero]; with_reducible rfl))); (focus (intro _ _ h; cases h)); (focus rfl); (focus (intro w' hJ; have F := (hb.below hJ).kb; simp only [KB, CellsAt, Nat.zero_add, Nat.reduceAdd, and_true] at F; obtain ⟨_, _, y1, y2, y3⟩ := F; go_simp <;> with_reducible rfl)); simp only [Act.put, List.setIfInBounds_toArray, List.set_cons_zero, List.set_cons_succ]))
  refine ChainL.nil ?_
  go_wp2
  have hb1 := hb.below hI
  clear F0
  generalize w.drew = w1 at *
  have hI2 : Below w.heap.size w w1.drew := hI.drew
  refine wp_region_chain (fun V => Below w.heap.size w V) [(0, false), (1, false), (2, false), (3, false), (4, false), (5, false), (6, false), (7, false), (8, false), (9, false), (10, false), (11, false), (12, false), (13, false), (14, false), (15, false)] (by kernel_rfl) (by kernel_rfl) hI2 ?_
  repeat (first
    | (refine ChainL.skip (o := ?_) ?_ ?_ ?_; rotate_left; (focus (first | (simp only [List.getElem?_toArray, List.getElem?_cons_succ, List.getElem?_cons_zero]; with_reducible rfl) | (simp only [List.getElem?_toArray, List.getElem?_cons_zero]; with_reducible rfl))); (focus rfl); simp only [Act.put, List.setIfInBounds_toArray, List.set_cons_zero, List.set_cons_succ])
    | (refine ChainL.val (o := ?_) (v := ?_) ?_ ?_ ?_ ?_ ?_; rotate_left 2; (focus (first | (simp only [List.getElem?_toArray, List.getElem?_cons_succ, List.getElem?_cons_zero]; with_reducible rfl) | (simp only [List.getElem?_toArray, List.getElem?_cons_zero]; with_reducible rfl))); (focus (intro _ _ h; cases h)); (focus rfl); (focus (intro w' hJ; have F := (hb.below hJ).kb; simp only [KB, CellsAt, Nat.zero_add, Nat.reduceAdd, and_true] at F; obtain ⟨_, _, y1, y2, y3⟩ := F; go_simp <;> with_reducible rfl)); simp only [Act.put, List.setIfInBounds_toArray, List.set_cons_zero, List.set_cons_succ]))
  refine ChainL.nil ?_
  have hb2 := hb.below hI2
  have O2 : Only w (w1.drew.setCell ⟨p, 1, none⟩ (.int .i64 ((i : Int) + (m : Int)))) [p] := (Only.of_below hI2 [p]).set (.inl (by simp)) _
  have hp2 := (hpart.below (O2.to_below (by omega) (by simpa using h5)))
  have hb3 := hb2.set 1 (.int .i64 ((i : Int) + (m : Int)))
  have F := hb2.kb; simp only [KB, CellsAt, Nat.zero_add, Nat.reduceAdd, and_true] at F
  generalize w1.drew = w2 at *
  have HP2 := Lib.hid hp2
  have HB3 := Lib.hid hb3
  have HO2 := Lib.hid O2
  clear hp2 hb3 O2 hb hb1 hb2 hI hpart
  go_wp2_with (first | (at_builtin; refine wpList_append_src_wide _ rfl (.tmp 55) (.tmp 56) 22 rfl w2.heap.size 5 i0 (.int .u8 0) 1 1 Try.underlying22 hi hz0 hz1 hz2 rfl (by decide) (.slice (some ⟨w2.heap.size, 0, none⟩) 0 0) 0 [] rfl (own_new_at _ _ (by simp)) B (some ⟨b, o + i, none⟩) m _ E rfl (HP2.out.alloc (by have := HO2.out.size; simp at this ⊢; omega) _) (by rw [HN.out, Nat.mul_one]) HP.out.one (by simp only [maxLen]; omega) (by omega) (by simp) ?_; intro v4 w4 own4 hg4; rw [Nat.zero_add, List.nil_append] at own4))
  go_ret
  obtain ⟨A4, c4, rfl, l4, hc4⟩ := own_lists own4
  have b4 := ((Below.refl _ _).alloc (Nat.le_refl _) _).grown hg4 (by simp) (fun b hb => by simp [Value.ownBlock] at hb; subst hb; simp)
  have O4 := HO2.out.then_below b4
  exact ⟨A4, c4, rfl, HE.out ▸ l4, ⟨_, c, by rw [← HB.out, show ((i + m : Nat) : Int) = (i : Int) + (m : Int) by omega]; exact HB3.out.below b4, HL.out.below (O4.to_below (by omega) (by simpa using h5)), H8.out, by rw [← HB.out]; exact him, by rw [← HB.out]; exact h2, h3, by rw [← HB.out]; exact h4, h5⟩, O4⟩

/-- Too few bytes are left. -/
def RFell (w : World) (B p : Nat) (bs : List Value) (i : Nat) (e : Ending) (w' : World) : Prop := e = .returned (.slice none 0 0) ∧ RRd w' B p bs i true ∧ Only w w' [p]
set_option maxRecDepth 100000 in
theorem rtake_short (B p : Nat) (bs : List Value) (i m : Nat) (w : World) (h : RRd w B p bs i false) (him : bs.length - i < m) :
    Calls Try.prog 36 #[.pointer (some ⟨p, 0, none⟩), .int .i64 (m : Nat)] w (RFell w B p bs i) := by
  obtain ⟨A, c, hb, hl, h8, h1, h2, h3, h4, h5⟩ := id h
  have hp := h.lt
  have HL := Lib.hid hl
  have H8 := Lib.hid h8
  clear hl h8 h
  obtain ⟨n, hnn⟩ : ∃ n, n = bs.length := ⟨_, rfl⟩
  rw [← hnn] at hb h1 h2 h4 him
  have HB := Lib.hid hnn
  clear hnn
  have e1 : decide ((m : Int) < 0) = false := by simp
  have s0 : IntKind.i64.wrap ((n : Int) - (i : Int)) = (n : Int) - (i : Int) := IntWalk.i64_in _ (by omega)
  have e3 : decide ((n : Int) - (i : Int) < (m : Int)) = true := by simp; omega
  have e3' : (n : Int) - (i : Int) < (m : Int) := by omega
  go_enter Try.func36, Try.ntmps36
  go_wp2
  have hI : Below w.heap.size w w.drew := (Below.refl _ _).drew
  refine wp_region_chain (fun V => Below w.heap.size w V) [(0, false), (1, false), (2, false), (3, false), (4, false), (5, false), (6, false), (7, false), (8, false), (9, false), (10, false), (11, false), (12, false), (13, false), (14, false), (15, false), (16, false), (17, false), (18, false), (19, false), (20, false), (21, false)] (by kernel_rfl) (by kernel_rfl) hI ?_
  repeat (first
    | (refine ChainL.skip (o := ?_) ?_ ?_ ?_; rotate_left; (focus (first | (simp only [List.getElem?_toArray, List.getElem?_cons_succ, List.getElem?_cons_zero]; with_reducible rfl) | (simp only [List.getElem?_toArray, List.getElem?_cons_zero]; with_reducible rfl))); (focus rfl); simp only [Act.put, List.setIfInBounds_toArray, List.set_cons_zero, List.set_cons_succ])
    | (refine ChainL.val (o := ?_) (v := ?_) ?_ ?_ ?_ ?_ ?_; rotate_left 2; (focus (first | (simp only [List.getElem?_toArray, List.getElem?_cons_succ, List.getElem?_cons_zero]; with_reducible rfl) | (simp only [List.getElem?_toArray, List.getElem?_cons_zero]; with_reducible rfl))); (focus (intro _ _ h; cases h)); (focus rfl); (focus (intro w' hJ; have F := (hb.below hJ).kb; simp only [KB, CellsAt, Nat.zero_add, Nat.reduceAdd, and_true] at F; obtain ⟨_, _, y1, y2, y3⟩ := F; go_simp <;> with_reducible rfl)); simp only [Act.put, List.setIfInBounds_toArray, List.set_cons_zero, List.set_cons_succ]))
  refine ChainL.nil ?_
  have hb1 := hb.below hI
  have F := hb1.kb; simp only [KB, CellsAt, Nat.zero_add, Nat.reduceAdd, and_true] at F
  have hb2 := hb1.set 2 (.bool true)
  have O2 : Only w (w.drew.setCell ⟨p, 2, none⟩ (.bool true)) [p] := (Only.of_below hI [p]).set (.inl (by simp)) _
  generalize w.drew = w1 at *
  go_wp2
  go_ret
  exact ⟨rfl, ⟨A, c, by rw [← HB.out]; exact hb2, HL.out.below (O2.to_below (by omega) (by simpa using h5)), H8.out, by rw [← HB.out]; exact h1, by rw [← HB.out]; exact h2, h3, by rw [← HB.out]; exact h4, h5⟩, O2⟩

/-- A number was read. -/
def RRead (w : World) (B p : Nat) (bs : List Value) (i : Nat) (x : Int) (e : Ending) (w' : World) : Prop := e = .returned (.int .i64 x) ∧ RRd w' B p bs i false ∧ Only w w' [p]
set_option maxRecDepth 100000 in
theorem ru2_ok (B p : Nat) (bs : List Value) (i : Nat) (w : World) (h : RRd w B p bs i false) (him : i + 2 ≤ bs.length) :
    Calls Try.prog 25 #[.pointer (some ⟨p, 0, none⟩), .int .i64 2] w (RRead w B p bs (i + 2) (rd2 bs i : Nat)) := by
  have C : Calls Try.prog 36 #[.pointer (some ⟨p, 0, none⟩), .int .i64 2] w (RTook w B p bs i 2) := rtake_ok B p bs i 2 w h (by omega) him
  have h8 : Bytes8 bs := by obtain ⟨_, _, _, _, h8, _⟩ := h; exact h8
  have e : (bs.drop i).take 2 = [.int .u8 ((byteAt bs i) : Nat), .int .u8 ((byteAt bs (i + 1)) : Nat)] := by
    apply List.ext_getElem?
    intro j
    rw [List.getElem?_take, List.getElem?_drop]
    match j with
    | 0 => simpa using byteAt_get h8 (i := i) (by omega)
    | 1 => simpa using byteAt_get h8 (i := i + 1) (by omega)
    | j + 2 => simp <;> omega
  have l0 := byteAt_lt h8 i
  have l1 := byteAt_lt h8 (i + 1)
  unfold rd2
  clear h h8

  generalize byteAt bs (i + 1) = x1 at *
  generalize byteAt bs i = x0 at *
  have E := Lib.hid e
  clear e
  go_enter Try.func25, Try.ntmps25
  go_wp2_with (first | (go_at_call 36; ((refine C.mono ?_); rintro e w2 ⟨A2, k2, rfl, ll, hr, o2⟩; rw [E.out] at ll; obtain ⟨b, o, rfl, hb, hc⟩ := ll.plain (by simp); have c0 := hc 0 _ rfl; have c1 := hc 1 _ rfl; rw [Nat.add_zero] at c0; clear hc)))
  refine wp_loop_rounds 3 ?_
  rw [rounds_succ]
  go_wp2
  rw [rounds_succ]
  go_wp2
  rw [rounds_succ]
  go_wp2
  go_ret
  exact ⟨ret_int (by omega), hr, o2⟩
theorem ru2_short (B p : Nat) (bs : List Value) (i : Nat) (w : World) (h : RRd w B p bs i false) (him : bs.length - i < 2) :
    Calls Try.prog 25 #[.pointer (some ⟨p, 0, none⟩), .int .i64 2] w fun e w' => e = .returned (.int .i64 0) ∧ RRd w' B p bs i true ∧ Only w w' [p] := by
  have C : Calls Try.prog 36 #[.pointer (some ⟨p, 0, none⟩), .int .i64 2] w (RFell w B p bs i) := rtake_short B p bs i 2 w h him
  clear h him
  go_enter Try.func25, Try.ntmps25
  go_wp2_with (first | (go_at_call 36; ((refine C.mono ?_); rintro e w2 ⟨rfl, hr, o2⟩)))
  refine wp_loop_rounds 1 ?_
  rw [rounds_succ]
  go_wp2
  go_ret
  exact ⟨rfl, hr, o2⟩
set_option maxRecDepth 100000 in
theorem ru4_ok (B p : Nat) (bs : List Value) (i : Nat) (w : World) (h : RRd w B p bs i false) (him : i + 4 ≤ bs.length) :
    Calls Try.prog 25 #[.pointer (some ⟨p, 0, none⟩), .int .i64 4] w (RRead w B p bs (i + 4) (rd4 bs i : Nat)) := by
  have C : Calls Try.prog 36 #[.pointer (some ⟨p, 0, none⟩), .int .i64 4] w (RTook w B p bs i 4) := rtake_ok B p bs i 4 w h (by omega) him
  have h8 : Bytes8 bs := by obtain ⟨_, _, _, _, h8, _⟩ := h; exact h8
  have e : (bs.drop i).take 4 = [.int .u8 ((byteAt bs i) : Nat), .int .u8 ((byteAt bs (i + 1)) : Nat), .int .u8 ((byteAt bs (i + 2)) : Nat), .int .u8 ((byteAt bs (i + 3)) : Nat)] := by
    apply List.ext_getElem?
    intro j
    rw [List.getElem?_take, List.getElem?_drop]
    match j with
    | 0 => simpa using byteAt_get h8 (i := i) (by omega)
    | 1 => simpa using byteAt_get h8 (i := i + 1) (by omega)
    | 2 => simpa using byteAt_get h8 (i := i + 2) (by omega)
    | 3 => simpa using byteAt_get h8 (i := i + 3) (by omega)
    | j + 4 => simp <;> omega
  have l0 := byteAt_lt h8 i
  have l1 := byteAt_lt h8 (i + 1)
  have l2 := byteAt_lt h8 (i + 2)
  have l3 := byteAt_lt h8 (i + 3)
  unfold rd4
  clear h h8

  generalize byteAt bs (i + 1) = x1 at *
  generalize byteAt bs (i + 2) = x2 at *
  generalize byteAt bs (i + 3) = x3 at *
  generalize byteAt bs i = x0 at *
  have E := Lib.hid e
  clear e
  go_enter Try.func25, Try.ntmps25
  go_wp2_with (first | (go_at_call 36; ((refine C.mono ?_); rintro e w2 ⟨A2, k2, rfl, ll, hr, o2⟩; rw [E.out] at ll; obtain ⟨b, o, rfl, hb, hc⟩ := ll.plain (by simp); have c0 := hc 0 _ rfl; have c1 := hc 1 _ rfl; have c2 := hc 2 _ rfl; have c3 := hc 3 _ rfl; rw [Nat.add_zero] at c0; clear hc)))
  refine wp_loop_rounds 5 ?_
  rw [rounds_succ]
  go_wp2
  rw [rounds_succ]
  go_wp2
  rw [rounds_succ]
  go_wp2
  rw [rounds_succ]
  go_wp2
  rw [rounds_succ]
  go_wp2
  go_ret
  exact ⟨ret_int (by omega), hr, o2⟩
theorem ru4_short (B p : Nat) (bs : List Value) (i : Nat) (w : World) (h : RRd w B p bs i false) (him : bs.length - i < 4) :
    Calls Try.prog 25 #[.pointer (some ⟨p, 0, none⟩), .int .i64 4] w fun e w' => e = .returned (.int .i64 0) ∧ RRd w' B p bs i true ∧ Only w w' [p] := by
  have C : Calls Try.prog 36 #[.pointer (some ⟨p, 0, none⟩), .int .i64 4] w (RFell w B p bs i) := rtake_short B p bs i 4 w h him
  clear h him
  go_enter Try.func25, Try.ntmps25
  go_wp2_with (first | (go_at_call 36; ((refine C.mono ?_); rintro e w2 ⟨rfl, hr, o2⟩)))
  refine wp_loop_rounds 1 ?_
  rw [rounds_succ]
  go_wp2
  go_ret
  exact ⟨rfl, hr, o2⟩
end Go.Proofs.Ytpaenjalpcdamaa

namespace Go.Proofs.Ytpaenjalpcdamaa
open Go Go.RowKit

variable {q : Nat → Prop}
def RS (q : Nat → Prop) (w : World) (p : Nat) (bs : List Value) (k : Nat) : Prop := (k ≤ bs.length ∧ Rd q w p bs k false) ∨ (bs.length < k ∧ ∃ i, Rd q w p bs i true)
theorem RS.below {w w1 : World} {p k : Nat} {bs : List Value} (h : RS q w p bs k) (b : Below w.heap.size w w1) : RS q w1 p bs k :=
  h.imp (fun ⟨h1, h2⟩ => ⟨h1, h2.below b⟩) (fun ⟨h1, i, h2⟩ => ⟨h1, i, h2.below b⟩)
theorem RS.only {w w1 : World} {p k : Nat} {bs : List Value} {fp : List Nat} (h : RS q w p bs k) (o : Only w w1 fp) (hp : p ∉ fp) (hq : ∀ b ∈ fp, ¬ q b) : RS q w1 p bs k :=
  h.imp (fun ⟨h1, h2⟩ => ⟨h1, h2.only o hp hq⟩) (fun ⟨h1, i, h2⟩ => ⟨h1, i, h2.only o hp hq⟩)
theorem RS.bytes {w : World} {p k : Nat} {bs : List Value} (h : RS q w p bs k) : Bytes8 bs := h.elim (fun h => h.2.bytes) fun ⟨_, _, h⟩ => h.bytes

/-- The number of m bytes at k: 0 where they are not all there. -/
def rsn (bs : List Value) (m k : Nat) (x : Nat) : Nat := if k + m ≤ bs.length then x else 0
theorem rsn_lt {bs : List Value} {m k x B : Nat} (h : x < B) : rsn bs m k x < B := by unfold rsn; split <;> omega
/-- A number was read by a reader that may have come to its end. -/
def ReadS (q : Nat → Prop) (w : World) (p : Nat) (bs : List Value) (k : Nat) (x : Int) (e : Ending) (w' : World) : Prop := e = .returned (.int .i64 x) ∧ RS q w' p bs k ∧ Only w w' [p]

theorem rs_num (p : Nat) (bs : List Value) (k m x : Nat) (w : World) (h : RS q w p bs k) (hL : bs.length ≤ 4611686018427387904) (hm : 0 < m)
    (C : k + m ≤ bs.length → Rd q w p bs k false → Calls Try.prog 33 #[.pointer (some ⟨p, 0, none⟩), .int .i64 (m : Nat)] w fun e w' => e = .returned (.int .i64 (x : Nat)) ∧ Rd q w' p bs (k + m) false ∧ Only w w' [p]) :
    Calls Try.prog 33 #[.pointer (some ⟨p, 0, none⟩), .int .i64 (m : Nat)] w (ReadS q w p bs (k + m) (rsn bs m k x : Nat)) := by
  unfold rsn
  rcases h with ⟨h1, h2⟩ | ⟨h1, i, h2⟩
  · by_cases hk : k + m ≤ bs.length
    · rw [if_pos hk]
      exact (C hk h2).mono fun e w' ⟨a, b, c⟩ => ⟨a, .inl ⟨hk, b⟩, c⟩
    · rw [if_neg hk]
      exact (number_short p bs k (m : Nat) w h2 hL (.inr (by omega))).mono fun e w' ⟨a, b, c⟩ => ⟨a, .inr ⟨by omega, k, b⟩, c⟩
  · rw [if_neg (by omega)]
    exact (number_bad p bs i (m : Nat) w h2).mono fun e w' ⟨a, b⟩ => ⟨a, .inr ⟨by omega, i, b ▸ h2⟩, b ▸ Only.refl _ _⟩
theorem rsNum1 (p : Nat) (bs : List Value) (k : Nat) (w : World) (h : RS q w p bs k) (hL : bs.length ≤ 4611686018427387904) :
    Calls Try.prog 33 #[.pointer (some ⟨p, 0, none⟩), .int .i64 1] w (ReadS q w p bs (k + 1) (rsn bs 1 k (byteAt bs k) : Nat)) :=
  rs_num p bs k 1 _ w h hL (by decide) fun hk hR => number1_ok p bs k (byteAt bs k) w hR hL hk (byteAt_get hR.bytes (by omega)) (byteAt_lt hR.bytes _)
theorem rsNum2 (p : Nat) (bs : List Value) (k : Nat) (w : World) (h : RS q w p bs k) (hL : bs.length ≤ 4611686018427387904) :
    Calls Try.prog 33 #[.pointer (some ⟨p, 0, none⟩), .int .i64 2] w (ReadS q w p bs (k + 2) (rsn bs 2 k (rd2 bs k) : Nat)) :=
  rs_num p bs k 2 _ w h hL (by decide) fun hk hR => rdNum2 p bs k w hR hL hk
theorem rsNum4 (p : Nat) (bs : List Value) (k : Nat) (w : World) (h : RS q w p bs k) (hL : bs.length ≤ 4611686018427387904) :
    Calls Try.prog 33 #[.pointer (some ⟨p, 0, none⟩), .int .i64 4] w (ReadS q w p bs (k + 4) (rsn bs 4 k (rd4 bs k) : Nat)) :=
  rs_num p bs k 4 _ w h hL (by decide) fun hk hR => rdNum4 p bs k w hR hL hk

theorem rsU8 (p : Nat) (bs : List Value) (k : Nat) (w : World) (h : RS q w p bs k) (hL : bs.length ≤ 4611686018427387904) :
    Calls Try.prog 21 #[.pointer (some ⟨p, 0, none⟩)] w (ReadS q w p bs (k + 1) (rsn bs 1 k (byteAt bs k) : Nat)) := by
  have C := rsNum1 p bs k w h hL
  clear h
  go_enter Try.func21, Try.ntmps21
  go_wp2_with (first | (go_at_call 33; ((refine C.mono ?_); rintro e w2 ⟨rfl, hr, o2⟩)))
  go_ret
  exact ⟨rfl, hr, o2⟩
theorem rsU16 (p : Nat) (bs : List Value) (k : Nat) (w : World) (h : RS q w p bs k) (hL : bs.length ≤ 4611686018427387904) :
    Calls Try.prog 19 #[.pointer (some ⟨p, 0, none⟩)] w (ReadS q w p bs (k + 2) (rsn bs 2 k (rd2 bs k) : Nat)) := by
  have C := rsNum2 p bs k w h hL
  clear h
  go_enter Try.func19, Try.ntmps19
  go_wp2_with (first | (go_at_call 33; ((refine C.mono ?_); rintro e w2 ⟨rfl, hr, o2⟩)))
  go_ret
  exact ⟨rfl, hr, o2⟩
end Go.Proofs.Ytpaenjalpcdamaa

namespace Go.Proofs.Ytpaenjalpcdamaa
open Go Go.RowKit

variable {q : Nat → Prop}
/-- How many bytes a number of a kind has. -/
def wid : Nat → Nat
  | 0 => 1
  | 3 => 4
  | _ => 2
/-- The number of a kind that is read at k. -/
def rdk (bs : List Value) (kd k : Nat) : Int :=
  match kd with
  | 0 => (rsn bs 1 k (byteAt bs k) : Nat)
  | 1 => (rsn bs 2 k (rd2 bs k) : Nat)
  | 2 => s16 (rsn bs 2 k (rd2 bs k))
  | _ => (rsn bs 4 k (rd4 bs k) : Nat)
/-- A place had a number brought. -/
def Came (q : Nat → Prop) (w : World) (p : Nat) (bs : List Value) (k b : Nat) (T : TypeId) (cs : Array Value) (o : Nat) (x : Int) (e : Ending) (w' : World) : Prop :=
  e = .returned (.tuple #[]) ∧ RS q w' p bs k ∧ Blk w' b T (cs.setIfInBounds o (.int .i64 x)) ∧ Only w w' [p, b]

end Go.Proofs.Ytpaenjalpcdamaa

namespace Go.Proofs.Ytpaenjalpcdamaa
open Go Go.RowKit

set_option maxRecDepth 100000 in
theorem rtake_bad (B p : Nat) (bs : List Value) (i m : Nat) (w : World) (h : RRd w B p bs i true) :
    Calls Try.prog 36 #[.pointer (some ⟨p, 0, none⟩), .int .i64 (m : Nat)] w (RFell w B p bs i) := by
  obtain ⟨A, c, hb, hl, h8, h1, h2, h3, h4, h5⟩ := id h
  have hp := h.lt
  have HL := Lib.hid hl
  have H8 := Lib.hid h8
  clear hl h8 h
  obtain ⟨n, hnn⟩ : ∃ n, n = bs.length := ⟨_, rfl⟩
  rw [← hnn] at hb h1 h2 h4
  have HB := Lib.hid hnn
  clear hnn
  go_enter Try.func36, Try.ntmps36
  go_wp2
  have hI : Below w.heap.size w w.drew := (Below.refl _ _).drew
  refine wp_region_chain (fun V => Below w.heap.size w V) [(0, false), (1, false), (2, false), (3, false), (4, false), (5, false), (6, false), (7, false), (8, false), (9, false), (10, false), (11, false), (12, false), (13, false), (14, false), (15, false), (16, false), (17, false), (18, false), (19, false), (20, false), (21, false)] (by kernel_rfl) (by kernel_rfl) hI ?_
  repeat (first
    | (refine ChainL.skip (o := ?_) ?_ ?_ ?_; rotate_left; (focus (first | (simp only [List.getElem?_toArray, List.getElem?_cons_succ, List.getElem?_cons_zero]; with_reducible rfl) | (simp only [List.getElem?_toArray, List.getElem?_cons_zero]; with_reducible rfl))); (focus rfl); simp only [Act.put, List.setIfInBounds_toArray, List.set_cons_zero, List.set_cons_succ])
    | (refine ChainL.val (o := ?_) (v := ?_) ?_ ?_ ?_ ?_ ?_; rotate_left 2; (focus (first | (simp only [List.getElem?_toArray, List.getElem?_cons_succ, List.getElem?_cons_zero]; with_reducible rfl) | (simp only [List.getElem?_toArray, List.getElem?_cons_zero]; with_reducible rfl))); (focus (intro _ _ h; cases h)); (focus rfl); (focus (intro w' hJ; have F := (hb.below hJ).kb; simp only [KB, CellsAt, Nat.zero_add, Nat.reduceAdd, and_true] at F; obtain ⟨_, _, y1, y2, y3⟩ := F; go_simp <;> with_reducible rfl)); simp only [Act.put, List.setIfInBounds_toArray, List.set_cons_zero, List.set_cons_succ]))
  refine ChainL.nil ?_
  have hb1 := hb.below hI
  have F := hb1.kb; simp only [KB, CellsAt, Nat.zero_add, Nat.reduceAdd, and_true] at F
  have hb2 := hb1.set 2 (.bool true)
  have O2 : Only w (w.drew.setCell ⟨p, 2, none⟩ (.bool true)) [p] := (Only.of_below hI [p]).set (.inl (by simp)) _
  generalize w.drew = w1 at *
  go_wp2
  go_ret
  exact ⟨rfl, ⟨A, c, by rw [← HB.out]; exact hb2, HL.out.below (O2.to_below (by omega) (by simpa using h5)), H8.out, by rw [← HB.out]; exact h1, by rw [← HB.out]; exact h2, h3, by rw [← HB.out]; exact h4, h5⟩, O2⟩


def RR (w : World) (B p : Nat) (bs : List Value) (k : Nat) : Prop := (k ≤ bs.length ∧ RRd w B p bs k false) ∨ (bs.length < k ∧ ∃ i, RRd w B p bs i true)
theorem RR.below {w w1 : World} {B p k : Nat} {bs : List Value} (h : RR w B p bs k) (b : Below w.heap.size w w1) : RR w1 B p bs k :=
  h.imp (fun ⟨h1, h2⟩ => ⟨h1, h2.below b⟩) (fun ⟨h1, i, h2⟩ => ⟨h1, i, h2.below b⟩)
theorem RR.bytes {w : World} {B p k : Nat} {bs : List Value} (h : RR w B p bs k) : Bytes8 bs := by
  rcases h with ⟨_, _, _, _, _, h8, _⟩ | ⟨_, _, _, _, _, _, h8, _⟩ <;> exact h8
theorem RR.low {w : World} {B p k : Nat} {bs : List Value} (h : RR w B p bs k) : B ≤ p ∧ p < w.heap.size := by
  rcases h with ⟨_, h⟩ | ⟨_, _, h⟩ <;> (have h1 := h.lt; obtain ⟨_, _, _, _, _, _, _, _, _, h5⟩ := h; exact ⟨h5, h1⟩)
theorem RRd.other {w w1 : World} {B p i : Nat} {bs : List Value} {bad : Bool} {fp : List Nat} (h : RRd w B p bs i bad) (o : Only w w1 fp) (hp : p ∉ fp) (hf : ∀ b ∈ fp, B ≤ b) : RRd w1 B p bs i bad := by
  have hlt := h.lt
  obtain ⟨A, c, hb, hl, h8, h1, h2, h3, h4, h5⟩ := h
  exact ⟨A, c, hb.only o hp, hl.below (o.to_below (by omega) hf), h8, h1, h2, h3, h4, h5⟩
theorem RR.other {w w1 : World} {B p k : Nat} {bs : List Value} {fp : List Nat} (h : RR w B p bs k) (o : Only w w1 fp) (hp : p ∉ fp) (hf : ∀ b ∈ fp, B ≤ b) : RR w1 B p bs k :=
  h.imp (fun ⟨h1, h2⟩ => ⟨h1, h2.other o hp hf⟩) (fun ⟨h1, i, h2⟩ => ⟨h1, i, h2.other o hp hf⟩)
/-- A number was read by a reader that may have come to its end. -/
def RReadS (w : World) (B p : Nat) (bs : List Value) (k : Nat) (x : Int) (e : Ending) (w' : World) : Prop := e = .returned (.int .i64 x) ∧ RR w' B p bs k ∧ Only w w' [p]
def RTookS (w : World) (B p : Nat) (bs : List Value) (k : Nat) (e : Ending) (w' : World) : Prop := ∃ v, e = .returned v ∧ RR w' B p bs k ∧ Only w w' [p]
theorem rr_take (B p : Nat) (bs : List Value) (k m : Nat) (w : World) (h : RR w B p bs k) (hm : 1 ≤ m) :
    Calls Try.prog 36 #[.pointer (some ⟨p, 0, none⟩), .int .i64 (m : Nat)] w (RTookS w B p bs (k + m)) := by
  rcases h with ⟨h1, h2⟩ | ⟨h1, i, h2⟩
  · by_cases hk : k + m ≤ bs.length
    · exact (rtake_ok B p bs k m w h2 hm hk).mono fun e w' ⟨A, c, a, _, b, o⟩ => ⟨_, a, .inl ⟨hk, b⟩, o⟩
    · exact (rtake_short B p bs k m w h2 (by omega)).mono fun e w' ⟨a, b, o⟩ => ⟨_, a, .inr ⟨by omega, k, b⟩, o⟩
  · exact (rtake_bad B p bs i m w h2).mono fun e w' ⟨a, b, o⟩ => ⟨_, a, .inr ⟨by omega, i, b⟩, o⟩
set_option maxRecDepth 100000 in
theorem ru2_bad (B p : Nat) (bs : List Value) (i : Nat) (w : World) (h : RRd w B p bs i true) :
    Calls Try.prog 25 #[.pointer (some ⟨p, 0, none⟩), .int .i64 2] w fun e w' => e = .returned (.int .i64 0) ∧ RRd w' B p bs i true ∧ Only w w' [p] := by
  have C : Calls Try.prog 36 #[.pointer (some ⟨p, 0, none⟩), .int .i64 2] w (RFell w B p bs i) := rtake_bad B p bs i 2 w h
  clear h
  go_enter Try.func25, Try.ntmps25
  go_wp2_with (first | (go_at_call 36; ((refine C.mono ?_); rintro e w2 ⟨rfl, hr, o2⟩)))
  refine wp_loop_rounds 1 ?_
  rw [rounds_succ]
  go_wp2
  go_ret
  exact ⟨rfl, hr, o2⟩
theorem rr_u2 (B p : Nat) (bs : List Value) (k : Nat) (w : World) (h : RR w B p bs k) :
    Calls Try.prog 25 #[.pointer (some ⟨p, 0, none⟩), .int .i64 2] w (RReadS w B p bs (k + 2) (rsn bs 2 k (rd2 bs k) : Nat)) := by
  unfold rsn
  rcases h with ⟨h1, h2⟩ | ⟨h1, i, h2⟩
  · by_cases hk : k + 2 ≤ bs.length
    · rw [if_pos hk]
      exact (ru2_ok B p bs k w h2 hk).mono fun e w' ⟨a, b, o⟩ => ⟨a, .inl ⟨hk, b⟩, o⟩
    · rw [if_neg hk]
      exact (ru2_short B p bs k w h2 (by omega)).mono fun e w' ⟨a, b, o⟩ => ⟨a, .inr ⟨by omega, k, b⟩, o⟩
  · rw [if_neg (by omega)]
    exact (ru2_bad B p bs i w h2).mono fun e w' ⟨a, b, o⟩ => ⟨a, .inr ⟨by omega, i, b⟩, o⟩
set_option maxRecDepth 100000 in
theorem ru4_bad (B p : Nat) (bs : List Value) (i : Nat) (w : World) (h : RRd w B p bs i true) :
    Calls Try.prog 25 #[.pointer (some ⟨p, 0, none⟩), .int .i64 4] w fun e w' => e = .returned (.int .i64 0) ∧ RRd w' B p bs i true ∧ Only w w' [p] := by
  have C : Calls Try.prog 36 #[.pointer (some ⟨p, 0, none⟩), .int .i64 4] w (RFell w B p bs i) := rtake_bad B p bs i 4 w h
  clear h
  go_enter Try.func25, Try.ntmps25
  go_wp2_with (first | (go_at_call 36; ((refine C.mono ?_); rintro e w2 ⟨rfl, hr, o2⟩)))
  refine wp_loop_rounds 1 ?_
  rw [rounds_succ]
  go_wp2
  go_ret
  exact ⟨rfl, hr, o2⟩
theorem rr_u4 (B p : Nat) (bs : List Value) (k : Nat) (w : World) (h : RR w B p bs k) :
    Calls Try.prog 25 #[.pointer (some ⟨p, 0, none⟩), .int .i64 4] w (RReadS w B p bs (k + 4) (rsn bs 4 k (rd4 bs k) : Nat)) := by
  unfold rsn
  rcases h with ⟨h1, h2⟩ | ⟨h1, i, h2⟩
  · by_cases hk : k + 4 ≤ bs.length
    · rw [if_pos hk]
      exact (ru4_ok B p bs k w h2 hk).mono fun e w' ⟨a, b, o⟩ => ⟨a, .inl ⟨hk, b⟩, o⟩
    · rw [if_neg hk]
      exact (ru4_short B p bs k w h2 (by omega)).mono fun e w' ⟨a, b, o⟩ => ⟨a, .inr ⟨by omega, k, b⟩, o⟩
  · rw [if_neg (by omega)]
    exact (ru4_bad B p bs i w h2).mono fun e w' ⟨a, b, o⟩ => ⟨a, .inr ⟨by omega, i, b⟩, o⟩
/-- The same, as the code reads them. -/
theorem rr_k1 (B p : Nat) (bs : List Value) (k : Nat) (w : World) (h : RR w B p bs k) : Calls Try.prog 25 #[.pointer (some ⟨p, 0, none⟩), .int .i64 2] w (RReadS w B p bs (k + 2) (rdk bs 1 k)) := rr_u2 B p bs k w h
theorem rr_k3 (B p : Nat) (bs : List Value) (k : Nat) (w : World) (h : RR w B p bs k) : Calls Try.prog 25 #[.pointer (some ⟨p, 0, none⟩), .int .i64 4] w (RReadS w B p bs (k + 4) (rdk bs 3 k)) := rr_u4 B p bs k w h
theorem RR.flag {w : World} {B p k : Nat} {bs : List Value} (h : RR w B p bs k) : w.cell? ⟨p, 2, none⟩ = some (.bool (decide (bs.length < k))) := by
  rcases h with ⟨h1, _, _, hb, _⟩ | ⟨h1, _, _, _, hb, _⟩
  · rw [decide_eq_false (by omega)]; exact hb.cell 2
  · rw [decide_eq_true h1]; exact hb.cell 2

end Go.Proofs.Ytpaenjalpcdamaa

namespace Go.Proofs.Ytpaenjalpcdamaa
open Go Go.RowKit

/-- The number of n bytes at k. -/
def rdn (bs : List Value) : Nat → Nat → Nat
  | 0, _ => 0
  | n + 1, k => rdn bs n k * 256 + byteAt bs (k + n)
theorem rdn_lt {bs : List Value} (h : Bytes8 bs) : ∀ n k, n ≤ 4 → rdn bs n k < 4294967296
  | 0, k, _ => by simp [rdn]
  | 1, k, _ => by have := byteAt_lt h (k + 0); simp only [rdn]; omega
  | 2, k, _ => by have := byteAt_lt h (k + 0); have := byteAt_lt h (k + 1); simp only [rdn]; omega
  | 3, k, _ => by have := byteAt_lt h (k + 0); have := byteAt_lt h (k + 1); have := byteAt_lt h (k + 2); simp only [rdn]; omega
  | 4, k, _ => by have := byteAt_lt h (k + 0); have := byteAt_lt h (k + 1); have := byteAt_lt h (k + 2); have := byteAt_lt h (k + 3); simp only [rdn]; omega
theorem rdn_two (bs : List Value) (k : Nat) : rdn bs 2 k = rd2 bs k := by simp [rdn, rd2]
theorem rdn_one (bs : List Value) (k : Nat) : rdn bs 1 k = byteAt bs k := by simp [rdn]
set_option maxRecDepth 100000 in
set_option maxHeartbeats 1000000 in
theorem run_ok (B p : Nat) (bs : List Value) (i m : Nat) (w : World) (h : RRd w B p bs i false) (hm : 1 ≤ m) (hm4 : m ≤ 4) (him : i + m ≤ bs.length) :
    Calls Try.prog 25 #[.pointer (some ⟨p, 0, none⟩), .int .i64 (m : Nat)] w (RRead w B p bs (i + m) (rdn bs m i : Nat)) := by
  have C := rtake_ok B p bs i m w h hm him
  have h8 : Bytes8 bs := by obtain ⟨_, _, _, _, h8, _⟩ := h; exact h8
  have HB := Lib.hid (fun j => rdn_lt h8 j i)
  have HG : Hid (∀ j, j < m → ((bs.drop i).take m)[j]? = some (.int .u8 ((byteAt bs (i + j) : Nat) : Int)) ∧ byteAt bs (i + j) < 256) := Lib.hid fun j hj => ⟨by
    rw [List.getElem?_take, List.getElem?_drop, if_pos hj]
    exact byteAt_get h8 (by omega), byteAt_lt h8 _⟩
  have HM := Lib.hid hm
  clear h h8
  go_enter Try.func25, Try.ntmps25
  go_wp2_with (first | (go_at_call 36; ((refine C.mono ?_); rintro e w2 ⟨A2, k2, rfl, ll, hr, o2⟩)))
  obtain ⟨b, o, rfl, hb, hc⟩ := ll.plain (by intro e; have := (HG.out 0 HM.out).1; rw [e] at this; simp at this)
  have HC := Lib.hid hc
  clear hc ll C
  go_loopw [5, 7] (fun xv iv wr => ∃ j : Nat, j ≤ m ∧ iv = .int .i64 (j : Nat) ∧ xv = .int .i64 (rdn bs j i : Nat) ∧ wr = w2) (fun _ iv _ => m - (intOf iv).toNat)
  case atStart => exact ⟨0, Nat.zero_le _, rfl, rfl, rfl⟩
  case round =>
    obtain ⟨j, hj, rfl, rfl, rfl⟩ := hrel
    by_cases hlt : j < m
    · have d1 : decide ((j : Int) < (m : Int)) = true := by simp; omega
      have hg := HG.out j hlt
      have g0 := HC.out j _ hg.1
      have hx := hg.2
      have ha := HB.out j (by omega)
      have ha1 := HB.out (j + 1) (by omega)
      have HX := Lib.hid (show rdn bs (j + 1) i = rdn bs j i * 256 + byteAt bs (i + j) by rfl)
      rw [HX.out] at ha1
      generalize byteAt bs (i + j) = x at *
      generalize rdn bs j i = a at *
      have HA := Lib.hid ha
      clear hg ha
      go_wp2
      go_roundw
      case rel => exact ⟨j + 1, by omega, by go_num, by rw [HX.out]; go_num, by first | rfl | trivial⟩
      case measure => simp [intOf]; omega
    · obtain rfl : j = m := by omega
      have d1 : decide ((j : Int) < (j : Int)) = false := by simp
      go_wp2
      go_ret
      exact ⟨rfl, hr, o2⟩
set_option maxRecDepth 100000 in
theorem run_short (B p : Nat) (bs : List Value) (i m : Nat) (w : World) (h : RRd w B p bs i false) (him : bs.length - i < m) :
    Calls Try.prog 25 #[.pointer (some ⟨p, 0, none⟩), .int .i64 (m : Nat)] w fun e w' => e = .returned (.int .i64 0) ∧ RRd w' B p bs i true ∧ Only w w' [p] := by
  have C := rtake_short B p bs i m w h him
  clear h him
  go_enter Try.func25, Try.ntmps25
  go_wp2_with (first | (go_at_call 36; ((refine C.mono ?_); rintro e w2 ⟨rfl, hr, o2⟩)))
  refine wp_loop_rounds 1 ?_
  rw [rounds_succ]
  go_wp2
  go_ret
  exact ⟨rfl, hr, o2⟩
set_option maxRecDepth 100000 in
theorem run_bad (B p : Nat) (bs : List Value) (i m : Nat) (w : World) (h : RRd w B p bs i true) :
    Calls Try.prog 25 #[.pointer (some ⟨p, 0, none⟩), .int .i64 (m : Nat)] w fun e w' => e = .returned (.int .i64 0) ∧ RRd w' B p bs i true ∧ Only w w' [p] := by
  have C := rtake_bad B p bs i m w h
  clear h
  go_enter Try.func25, Try.ntmps25
  go_wp2_with (first | (go_at_call 36; ((refine C.mono ?_); rintro e w2 ⟨rfl, hr, o2⟩)))
  refine wp_loop_rounds 1 ?_
  rw [rounds_succ]
  go_wp2
  go_ret
  exact ⟨rfl, hr, o2⟩
theorem rr_un (B p : Nat) (bs : List Value) (k m : Nat) (w : World) (h : RR w B p bs k) (hm : 1 ≤ m) (hm4 : m ≤ 4) :
    Calls Try.prog 25 #[.pointer (some ⟨p, 0, none⟩), .int .i64 (m : Nat)] w (RReadS w B p bs (k + m) (rsn bs m k (rdn bs m k) : Nat)) := by
  unfold rsn
  rcases h with ⟨h1, h2⟩ | ⟨h1, i, h2⟩
  · by_cases hk : k + m ≤ bs.length
    · rw [if_pos hk]
      exact (run_ok B p bs k m w h2 hm hm4 hk).mono fun e w' ⟨a, b, o⟩ => ⟨a, .inl ⟨hk, b⟩, o⟩
    · rw [if_neg hk]
      exact (run_short B p bs k m w h2 (by omega)).mono fun e w' ⟨a, b, o⟩ => ⟨a, .inr ⟨by omega, k, b⟩, o⟩
  · rw [if_neg (by omega)]
    exact (run_bad B p bs i m w h2).mono fun e w' ⟨a, b, o⟩ => ⟨a, .inr ⟨by omega, i, b⟩, o⟩
end Go.Proofs.Ytpaenjalpcdamaa

namespace Go.Proofs.Ytpaenjalpcdamaa
open Go Go.RowKit
set_option linter.unusedVariables false
set_option linter.unusedSimpArgs false

theorem slice_ok (A : Option Addr) (n c a b : Nat) (h1 : a ≤ b) (h2 : b ≤ c) (w : World) : (Instr.sliceAt 22 (.slice A n c) (some (.int .i64 (a : Nat))) (some (.int .i64 (b : Nat))) none).run Try.prog w = .ok (.slice (if c = a then A else A.map (·.add a)) (b - a) (c - a)) w := by
  have hu := Try.underlying22
  have hz := Try.sizeOf5
  have i1 : (0 : Int) ≤ (b : Int) := by omega
  have i2 : (b : Int) ≤ (c : Int) := by omega
  have i3 : (0 : Int) ≤ (a : Int) := by omega
  have i4 : (a : Int) ≤ (b : Int) := by omega
  simp [Instr.sliceAt, Instr.slice, Instr.sliceBounds, Instr.sliceBound, run_underlying hu, Sem.run_bind, Sem.run_pure, Result.andThen, asIntOf, hz, i1, i3, h1, h2]
theorem lists_cut {w : World} {B : Nat} {A : Option Addr} {D : List Value} (h : Lists w B A D) (a b c : Nat) (h1 : a ≤ b) (h2 : b ≤ c) : Lists w B (if c = a then A else A.map (·.add a)) ((D.drop a).take (b - a)) := by
  by_cases hc : c = a
  · rw [if_pos hc, show b - a = 0 by omega, List.take_zero]
    exact ⟨fun _ => rfl, fun _ _ j u hu => by simp at hu, fun _ _ hx => absurd rfl hx⟩
  · rw [if_neg hc]
    exact lists_part h a (b - a)
/-- An Index as it lies: its offsets, its bytes, how many it has. -/
structure IxAt (w : World) (p B : Nat) (os : List Nat) (D : List Value) (size : Int) : Prop where
  low : p < B
  out : ∃ Ao co Ad cd, Blk w p 50 #[.slice Ao os.length co, .slice Ad D.length cd, .int .i64 size] ∧ Lists w B Ao (intCells (os.map Int.ofNat)) ∧ Lists w B Ad D ∧ D.length ≤ cd ∧ Bytes8 D ∧ D.length ≤ 140737488355328
theorem IxAt.below {w w1 : World} {p B : Nat} {os : List Nat} {D : List Value} {size : Int} (h : IxAt w p B os D size) (hb : Below B w w1) : IxAt w1 p B os D size := by
  obtain ⟨hp, Ao, co, Ad, cd, h1, h2, h3, h4⟩ := h
  exact ⟨hp, Ao, co, Ad, cd, (hb.block p hp).trans h1, h2.below hb, h3.below hb, h4⟩
theorem IxAt.more {w : World} {p B B1 : Nat} {os : List Nat} {D : List Value} {size : Int} (h : IxAt w p B os D size) (hB : B ≤ B1) : IxAt w p B1 os D size := by
  obtain ⟨hp, Ao, co, Ad, cd, h1, h2, h3, h4⟩ := h
  exact ⟨Nat.lt_of_lt_of_le hp hB, Ao, co, Ad, cd, h1, h2.more hB, h3.more hB, h4⟩
set_option maxRecDepth 100000 in
theorem ixlen_nil (w : World) : Calls Try.prog 16 #[.pointer none] w fun e w' => e = .returned (.int .i64 0) ∧ w' = w := by
  go_enter Try.func16, Try.ntmps16
  go_wp2
  go_ret
  exact ⟨rfl, rfl⟩
set_option maxRecDepth 100000 in
theorem ixsize_nil (w : World) : Calls Try.prog 17 #[.pointer none] w fun e w' => e = .returned (.int .i64 0) ∧ w' = w := by
  go_enter Try.func17, Try.ntmps17
  go_wp2
  go_ret
  exact ⟨rfl, rfl⟩
set_option maxRecDepth 100000 in
theorem ixat_nil (i : Int) (w : World) : Calls Try.prog 15 #[.pointer none, .int .i64 i] w fun e w' => e = .returned (.tuple #[.slice none 0 0, .int .i64 6]) ∧ w' = w := by
  go_enter Try.func15, Try.ntmps15
  go_wp2
  first | (go_ret2; exact ⟨rfl, rfl⟩) | exact bodyPost_ret (v := .tuple #[.slice none 0 0, .int .i64 6]) (by simp [results, Try.results15, go_sem]) rfl ⟨rfl, rfl⟩
set_option maxRecDepth 100000 in
theorem ixlen_any (p B : Nat) (os : List Nat) (D : List Value) (size : Int) (w : World) (h : IxAt w p B os D size) (hn : os.length ≤ 4611686018427387904) : Calls Try.prog 16 #[.pointer (some ⟨p, 0, none⟩)] w fun e w' => e = .returned (.int .i64 ((os.length - 1 : Nat) : Int)) ∧ w' = w := by
  obtain ⟨hp, Ao, co, Ad, cd, h1, _⟩ := h
  have k0 := h1.cell 0
  have hl := h1.lt
  simp only [List.getElem?_toArray, List.getElem?_cons_zero] at k0
  generalize os.length = n at *
  clear h1
  cases n with
  | zero =>
    go_enter Try.func16, Try.ntmps16
    go_wp2
    go_ret
    exact ⟨rfl, rfl⟩
  | succ n =>
    have hw : IntKind.i64.wrap (((n + 1 : Nat) : Int) - 1) = (n : Int) := by rw [IntWalk.i64_in _ (by omega)]; omega
    have hw1 : IntKind.i64.wrap ((n : Int) + 1 - 1) = (n : Int) := by rw [IntWalk.i64_in _ (by omega)]; omega
    have hw2 : wrap64 ((n : Int) + 1 - 1) = (n : Int) := by unfold wrap64; omega
    have hm : ¬ (n : Int) < 0 := by omega
    go_enter Try.func16, Try.ntmps16
    go_wp2
    go_ret
    exact ⟨by first | rfl | (simp; done) | (simp; omega), rfl⟩
set_option maxRecDepth 100000 in
theorem ixsize_any (p B : Nat) (os : List Nat) (D : List Value) (size : Int) (w : World) (h : IxAt w p B os D size) : Calls Try.prog 17 #[.pointer (some ⟨p, 0, none⟩)] w fun e w' => e = .returned (.int .i64 size) ∧ w' = w := by
  obtain ⟨hp, Ao, co, Ad, cd, h1, _⟩ := h
  have k2 := h1.cell 2
  have hl := h1.lt
  simp only [List.getElem?_toArray, List.getElem?_cons_zero, List.getElem?_cons_succ] at k2
  go_enter Try.func17, Try.ntmps17
  go_wp2
  go_ret
  exact ⟨rfl, rfl⟩
set_option maxRecDepth 100000 in
theorem ixat_none (p B : Nat) (os : List Nat) (D : List Value) (size i : Int) (w : World) (h : IxAt w p B os D size) (hn : os.length ≤ 4611686018427387904) (hi : i < 0 ∨ ((os.length - 1 : Nat) : Int) ≤ i) : Calls Try.prog 15 #[.pointer (some ⟨p, 0, none⟩), .int .i64 i] w fun e w' => e = .returned (.tuple #[.slice none 0 0, .int .i64 4]) ∧ w' = w := by
  have CL := fun W (hW : W = w) => ixlen_any p B os D size W (by rw [hW]; exact h) hn
  generalize os.length - 1 = n at *
  clear h
  by_cases h0 : i < 0
  · go_enter Try.func15, Try.ntmps15
    go_wp2
    first | (go_ret2; exact ⟨rfl, rfl⟩) | exact bodyPost_ret (v := .tuple #[.slice none 0 0, .int .i64 4]) (by simp [results, Try.results15, go_sem]) rfl ⟨rfl, rfl⟩
  · have h1 : (n : Int) ≤ i := by omega
    go_enter Try.func15, Try.ntmps15
    go_wp2_with (go_at_call 16; ((with_reducible refine (CL _ rfl).mono ?_); rintro e w1 ⟨rfl, rfl⟩))
    first | (go_ret2; exact ⟨rfl, rfl⟩) | exact bodyPost_ret (v := .tuple #[.slice none 0 0, .int .i64 4]) (by simp [results, Try.results15, go_sem]) rfl ⟨rfl, rfl⟩
/-- What At answers: a copy. -/
def GotB (w : World) (E : List Value) (e : Ending) (w' : World) : Prop := ∃ A c, e = .returned (.tuple #[.slice A E.length c, .int .i64 0]) ∧ Hid (Lists w' w'.heap.size A E) ∧ Below w.heap.size w w'
set_option maxRecDepth 100000 in
set_option maxHeartbeats 1000000 in
theorem ixat_any (p B : Nat) (os : List Nat) (D : List Value) (size : Int) (i a b0 : Nat) (w : World) (h : IxAt w p B os D size) (hB : B ≤ w.heap.size) (hn : os.length ≤ 4611686018427387904) (ha : os[i]? = some a) (hb : os[i + 1]? = some b0) (h1 : a ≤ b0) (h2 : b0 ≤ D.length) :
    Calls Try.prog 15 #[.pointer (some ⟨p, 0, none⟩), .int .i64 (i : Nat)] w (GotB w ((D.drop a).take (b0 - a))) := by
  have CL := fun W (hW : W = w) => ixlen_any p B os D size W (by rw [hW]; exact h) hn
  have hi : i + 1 < os.length := (List.getElem?_eq_some_iff.1 hb).1
  obtain ⟨hp, Ao, co, Ad, cd, hk, h4, h5, h6, h8, h7⟩ := h
  have k0 := hk.cell 0
  have k1 := hk.cell 1
  simp only [List.getElem?_toArray, List.getElem?_cons_zero, List.getElem?_cons_succ] at k0 k1
  have hp : p < w.heap.size := hk.lt
  have e0 : (intCells (os.map Int.ofNat))[i]? = some (.int .i64 (a : Int)) := by simp [intCells, ha]
  have e1 : (intCells (os.map Int.ofNat))[i + 1]? = some (.int .i64 (b0 : Int)) := by simp [intCells, hb]
  obtain ⟨b, o, rfl, hbl, hc⟩ := h4.plain (by intro e; rw [e] at e0; simp at e0)
  have HO := Lib.hid (And.intro (hc i _ e0) (hc (i + 1) _ e1))
  have hbb : b < w.heap.size := Nat.lt_of_lt_of_le hbl hB
  have hlen : ((D.drop a).take (b0 - a)).length = b0 - a := by simp; omega
  have CC := fun W (hI : Below w.heap.size w W) => clone_any (if cd = a then Ad else Ad.map (·.add a)) (b0 - a) (cd - a) ((D.drop a).take (b0 - a)) W (((lists_cut h5 a b0 cd h1 (Nat.le_trans h2 h6)).more hB |>.below hI).more hI.size) hlen (fun u hu => h8 u (List.mem_of_mem_drop (List.mem_of_mem_take hu))) (by omega)
  have SL := fun W => slice_ok Ad D.length cd a b0 h1 (Nat.le_trans h2 h6) W
  have CC2 := fun W hI => (CC W hI)
  have HG : Hid (∀ A c w', Lists w' w'.heap.size A ((D.drop a).take (b0 - a)) → Below w.heap.size w w' → GotB w ((D.drop a).take (b0 - a)) (.returned (.tuple #[.slice A (b0 - a) c, .int .i64 0])) w') := Lib.hid fun A c w' h1 h2 => ⟨A, c, by rw [hlen], Lib.hid h1, h2⟩
  unfold GaveClone at CC2
  rw [hlen] at CC2
  generalize (D.drop a).take (b0 - a) = X at *
  generalize D.length = dl at *
  have s1 : IntKind.i64.wrap ((i : Int) + 1) = ((i + 1 : Nat) : Int) := by rw [IntWalk.i64_in _ (by omega)]; omega
  obtain ⟨n, hnn⟩ : ∃ n, os.length = n + 1 := ⟨os.length - 1, by omega⟩
  rw [hnn] at CL k0 hi hn
  have hi2 : i < n := by omega
  have hi3 : (i : Int) < (n : Int) + 1 := by omega
  have hi4 : (0 : Int) ≤ (i : Int) := by omega
  have t0 : (0 : Int) ≤ (i : Int) + 1 := by omega
  have t1 : ((i : Int) + 1).toNat = i + 1 := by omega
  clear hnn CC hk h4 h5 h8 hc e0 e1 ha hb
  rw [show n + 1 - 1 = n by omega] at CL
  go_enter Try.func15, Try.ntmps15
  go_wp2_with (go_at_call 16; ((with_reducible refine (CL _ rfl).mono ?_); rintro e w1 ⟨rfl, rfl⟩))
  refine wp_region_chain (fun W => Below w1.heap.size w1 W) [(0, false), (1, false), (2, false), (3, false), (4, false), (5, false), (6, false), (7, false), (8, false), (9, false), (10, false), (11, false), (12, false), (13, false), (14, false), (15, false), (16, false), (17, false), (18, false), (19, false), (20, true), (21, false), (22, false)] (by kernel_rfl) (by kernel_rfl) ((Below.refl _ _).drew) ?_
  repeat (first
    | (refine ChainL.skip (o := ?_) ?_ ?_ ?_; rotate_left; (focus (first | (simp only [List.getElem?_toArray, List.getElem?_cons_succ, List.getElem?_cons_zero]; with_reducible rfl) | (simp only [List.getElem?_toArray, List.getElem?_cons_zero]; with_reducible rfl))); (focus rfl); simp only [Act.put, List.setIfInBounds_toArray, List.set_cons_zero, List.set_cons_succ])
    | (refine ChainL.val (o := ?_) (v := ?_) ?_ ?_ ?_ ?_ ?_; rotate_left 2; (focus (first | (simp only [List.getElem?_toArray, List.getElem?_cons_succ, List.getElem?_cons_zero]; with_reducible rfl) | (simp only [List.getElem?_toArray, List.getElem?_cons_zero]; with_reducible rfl))); (focus (intro _ _ h; cases h)); (focus rfl); (focus (intro w' hI; have c0 := (hI.cell (p := ⟨p, 0, none⟩) hp).trans k0; have c1 := (hI.cell (p := ⟨p, 1, none⟩) hp).trans k1; have g0 := (hI.cell (p := ⟨b, o + i, none⟩) hbb).trans (HO.out.1); have g1 := (hI.cell (p := ⟨b, o + (i + 1), none⟩) hbb).trans (HO.out.2); have hq : p < w'.heap.size := Nat.lt_of_lt_of_le hp hI.size; have hq2 : b < w'.heap.size := Nat.lt_of_lt_of_le hbb hI.size; go_simp; with_reducible rfl)); simp only [Act.put, List.setIfInBounds_toArray, List.set_cons_zero, List.set_cons_succ]))
  refine ChainL.call (o := ?_) (f := ?_) (args := ?_) ?_ ?_ ?_ ?_
  rotate_left 3
  (focus (simp only [List.getElem?_toArray, List.getElem?_cons_succ, List.getElem?_cons_zero]; with_reducible rfl))
  (focus rfl)
  (focus (go_simp; (constructor <;> with_reducible rfl)))
  refine (CC2 _ ((Below.refl _ _).drew)).mono ?_
  rintro e w2 ⟨A2, c2, rfl, l2, hc2, hm2, b2, hf2⟩
  have B2 := ((Below.refl w1.heap.size w1).drew).trans (b2.mono (by simp)); refine ⟨_, rfl, B2, ?_⟩
  simp only [Act.put, List.setIfInBounds_toArray, List.set_cons_zero, List.set_cons_succ]
  repeat (first
    | (refine ChainL.skip (o := ?_) ?_ ?_ ?_; rotate_left; (focus (first | (simp only [List.getElem?_toArray, List.getElem?_cons_succ, List.getElem?_cons_zero]; with_reducible rfl) | (simp only [List.getElem?_toArray, List.getElem?_cons_zero]; with_reducible rfl))); (focus rfl); simp only [Act.put, List.setIfInBounds_toArray, List.set_cons_zero, List.set_cons_succ])
    | (refine ChainL.val (o := ?_) (v := ?_) ?_ ?_ ?_ ?_ ?_; rotate_left 2; (focus (first | (simp only [List.getElem?_toArray, List.getElem?_cons_succ, List.getElem?_cons_zero]; with_reducible rfl) | (simp only [List.getElem?_toArray, List.getElem?_cons_zero]; with_reducible rfl))); (focus (intro _ _ h; cases h)); (focus rfl); (focus (intro w' hI; have c0 := (hI.cell (p := ⟨p, 0, none⟩) hp).trans k0; have c1 := (hI.cell (p := ⟨p, 1, none⟩) hp).trans k1; have g0 := (hI.cell (p := ⟨b, o + i, none⟩) hbb).trans (HO.out.1); have g1 := (hI.cell (p := ⟨b, o + (i + 1), none⟩) hbb).trans (HO.out.2); have hq : p < w'.heap.size := Nat.lt_of_lt_of_le hp hI.size; have hq2 : b < w'.heap.size := Nat.lt_of_lt_of_le hbb hI.size; go_simp; with_reducible rfl)); simp only [Act.put, List.setIfInBounds_toArray, List.set_cons_zero, List.set_cons_succ]))
  refine ChainL.nil ?_
  go_wp2
  all_goals exact bodyPost_ret (v := .tuple #[.slice A2 (b0 - a) c2, .int .i64 0]) (by simp [results, Try.results15, go_sem]) rfl (HG.out A2 c2 _ l2 B2)
end Go.Proofs.Ytpaenjalpcdamaa

namespace Go.Proofs.Ytpaenjalpcdamaa
open Go Go.RowKit
set_option linter.unusedVariables false
set_option linter.unusedSimpArgs false

theorem flat_at {α : Type} {f : α → List Value} {sz : Nat} (hf : ∀ x, (f x).length = sz) : ∀ (L : List α) (k : Nat) (x : α), L[k]? = some x → ∀ j v, (f x)[j]? = some v → (L.flatMap f)[k * sz + j]? = some v
  | [], k, x, h, j, v, hv => by simp at h
  | y :: L, 0, x, h, j, v, hv => by
    obtain rfl : y = x := by simpa using h
    have hj := (List.getElem?_eq_some_iff.1 hv).1
    rw [List.flatMap_cons, Nat.zero_mul, Nat.zero_add, List.getElem?_append_left hj]
    exact hv
  | y :: L, k + 1, x, h, j, v, hv => by
    have := flat_at hf L k x (by simpa using h) j v hv
    rw [List.flatMap_cons, List.getElem?_append_right (by rw [hf, Nat.add_mul]; omega), hf, show (k + 1) * sz + j - sz = k * sz + j by rw [Nat.add_mul]; omega]
    exact this
theorem flat_len {α : Type} {f : α → List Value} {sz : Nat} (hf : ∀ x, (f x).length = sz) : ∀ L : List α, (L.flatMap f).length = L.length * sz
  | [] => by simp
  | x :: L => by rw [List.flatMap_cons, List.length_append, hf, flat_len hf L, List.length_cons, Nat.add_mul, Nat.one_mul, Nat.add_comm]
theorem lists_flat {α : Type} {f : α → List Value} {sz : Nat} (hf : ∀ x, (f x).length = sz) (hs : 0 < sz) {w : World} {B : Nat} {A : Option Addr} {L : List α} (h : Lists w B A (L.flatMap f)) {k : Nat} {x : α} (hk : L[k]? = some x) :
    ∃ b o, A = some ⟨b, o, none⟩ ∧ b < B ∧ w.rangeAt b (o + k * sz) (f x) := by
  have h0 : (f x)[0]? = some ((f x)[0]'(by rw [hf]; exact hs)) := List.getElem?_eq_getElem _
  have h1 := flat_at hf L k x hk 0 _ h0
  obtain ⟨b, o, rfl, hb, hc⟩ := h.plain (by intro e; rw [e] at h1; simp at h1)
  exact ⟨b, o, rfl, hb, fun j v hv => by rw [Nat.add_assoc]; exact hc _ _ (flat_at hf L k x hk j v hv)⟩
theorem flat_snoc {α : Type} (f : α → List Value) (L : List α) (x : α) : (L ++ [x]).flatMap f = L.flatMap f ++ f x := by simp
theorem range_below {w w1 : World} {B b o : Nat} {cs : List Value} (h : w.rangeAt b o cs) (hb : b < B) (k : Below B w w1) : w1.rangeAt b o cs := fun j v hv => (k.cell (p := ⟨b, o + j, none⟩) hb).trans (h j v hv)
theorem range_blk {w : World} {p : Nat} {T : TypeId} {cs : List Value} (h : Blk w p T cs.toArray) : w.rangeAt p 0 cs := fun j v hv => by rw [Nat.zero_add, h.cell j, List.getElem?_toArray]; exact hv
theorem blk_row {w : World} {p : Nat} {T : TypeId} {cs : Array Value} (h : Blk w p T cs) (cs1 : Array Value) : Blk (w.setRow p cs1) p T cs1 := setRow_heap w p cs cs1 T (0, 0) h
theorem exec_store_row {P : Program} {ρ : Operand → Value} {o : Oper} {w : World} (ty : TypeId) (x y : Operand) (ho : o.op = .store ty x y)
    (g : Nat) (cells : Array Value) (hx : ρ x = .pointer (some ⟨g, 0, none⟩)) (hy : ρ y = .agg cells)
    (t : TypeId) (old : Array Value) (hg : Blk w g t old) (hi : (P.info? ty).map (·.size) = some cells.size)
    (hold : old.size = cells.size) (h1 : cells.all (·.oneCell') = true) : (execOp ρ o).run P w = .ok .skip (w.setRow g cells) := by
  unfold execOp
  simp only [ho, hx, hy, Instr.storeAt, Instr.sureAddr, Sem.run_bind, Sem.run_pure, Result.andThen_ok, run_storeVar_row w g t ty old cells hg hi hold h1]
theorem exec_load {P : Program} {ρ : Operand → Value} {o : Oper} {w : World} {ty : TypeId} {x : Operand} {p v : Value} (h : (Instr.loadAt ty p).run P w = .ok v w) (ho : o.op = .load ty x) (hx : ρ x = p) : (execOp ρ o).run P w = .ok (.value v) w := by
  unfold execOp
  simp only [ho, hx, Sem.run_bind, h, Result.andThen_ok, Sem.run_pure]
theorem load_blk {P : Program} {w : World} {p : Nat} {T ty : TypeId} {cs : Array Value} {d : TypeDesc} (h : Blk w p T cs) (hu : P.underlying ty = some d) (hd : d.isRow = true) (hi : (P.info? ty).map (·.size) = some cs.size) : (Instr.loadAt ty (.pointer (some ⟨p, 0, none⟩))).run P w = .ok (.agg cs) w := by
  have h1 : w.rangeAt p 0 cs.toList := fun j v hv => by rw [Nat.zero_add, h.cell j]; simpa using hv
  have := run_loadAt_mid (P := P) w p 0 ty cs.toList d h1 hu hd (by simpa using hi)
  simpa using this
theorem only_row {w a : World} {fp : List Nat} (h : Only w a fp) {g : Nat} (hg : g ∈ fp ∨ w.heap.size ≤ g) (cs : Array Value) : Only w (a.setRow g cs) fp :=
  ⟨h.os, h.tape, h.output, by rw [size_setRow]; exact h.size, fun b hb hf => (setRow_other a g b cs (fun e => by subst e; rcases hg with hg | hg; exact hf hg; omega)).trans (h.block b hb hf)⟩
theorem lists_takeF {w : World} {B : Nat} {A : Option Addr} {xs : List Value} (h : Lists w B A xs) (k : Nat) : Lists w B A (xs.take k) :=
  ⟨fun ha => by rw [h.nil ha]; simp, fun a ha j u hu => h.cell a ha j u (by
    rw [List.getElem?_take] at hu
    split at hu
    · exact hu
    · cases hu), fun a ha hx => h.lt a ha (fun e => hx (by rw [e]; simp))⟩
theorem lists_row (w : World) (cs : List Value) (T : TypeId) : Lists (w.alloc (.cells cs.toArray T)) (w.heap.size + 1) (some ⟨w.heap.size, 0, none⟩) cs :=
  ⟨fun ha => (nomatch ha), fun a ha j u hu => by
    cases ha
    rw [addr_plain, World.cell?_alloc_new, Nat.zero_add, ← hu]
    rw [List.getElem?_toArray], fun a ha _ => by cases ha; simp⟩
theorem lists_row_at (w : World) (cs : List Value) (T : TypeId) (k : Nat) (hk : k = w.heap.size) : Lists (w.alloc (.cells cs.toArray T)) (k + 1) (some ⟨k, 0, none⟩) cs := hk ▸ lists_row w cs T
theorem results_row_tmp {P : Program} {fn : Func} {p u : Tmp} {ty : TypeId} (h : fn.results = #[.cell p ty, .tmp u]) (tmps : Array Value) (w : World) (g : Nat) (t : TypeId) (cs : Array Value) (fr : Nat × Nat) (d : TypeDesc) (v : Value)
    (hp : tmps.getD p undef = .pointer (some ⟨g, 0, none⟩)) (hv : tmps.getD u undef = v) (hg : w.heap[g]? = some (.cells cs t fr))
    (hu : P.underlying ty = some d) (hd : (match d with | .struct _ | .array _ _ => true | _ => false) = true) (hi : (P.info? ty).map (·.size) = some cs.size) :
    (results fn tmps).run P w = .ok (.tuple #[.agg cs, v]) w := by
  rw [results_cell_tmp h, hp, hv]
  simp [asAddr, Result.andThen, run_loadVar_row w g t ty cs fr d hg hu hd hi]
theorem results_row_tmp2 {P : Program} {fn : Func} {p u u2 : Tmp} {ty : TypeId} (h : fn.results = #[.cell p ty, .tmp u, .tmp u2]) (tmps : Array Value) (w : World) (g : Nat) (t : TypeId) (cs : Array Value) (fr : Nat × Nat) (d : TypeDesc) (v v2 : Value)
    (hp : tmps.getD p undef = .pointer (some ⟨g, 0, none⟩)) (hv : tmps.getD u undef = v) (hv2 : tmps.getD u2 undef = v2) (hg : w.heap[g]? = some (.cells cs t fr))
    (hu : P.underlying ty = some d) (hd : (match d with | .struct _ | .array _ _ => true | _ => false) = true) (hi : (P.info? ty).map (·.size) = some cs.size) :
    (results fn tmps).run P w = .ok (.tuple #[.agg cs, v, v2]) w := by
  have hp' : tmps[p]?.getD undef = .pointer (some ⟨g, 0, none⟩) := by simpa using hp
  have hv' : tmps[u]?.getD undef = v := by simpa using hv
  have hv2' : tmps[u2]?.getD undef = v2 := by simpa using hv2
  simp [results, h, hp', hv', hv2', Sem.run_bind, asAddr, Result.andThen, run_loadVar_row w g t ty cs fr d hg hu hd hi]
end Go.Proofs.Ytpaenjalpcdamaa
