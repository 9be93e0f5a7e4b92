/- Part 12 of the proof: Met17, Rr, Hr3, Hr3Ha. -/
import Derived.Deep.WholeRow
import Derived.Test.YtbomgaacahaofaaCP10

namespace Go.Proofs.Ytbomgaacahaofaa
open Go Go.RowKit

/-- The reference's reader at block p: its bytes (below block B), where it stands. -/
def RRd (w : World) (B p : Nat) (bs : List Value) (i : Nat) (bad : Bool) : Prop :=
  ∃ (A : Option Addr) (c : Nat), Blk w p 70 #[.slice A bs.length c, .int .i64 (i : Nat), .bool bad] ∧ Lists w B A bs ∧ Bytes8 bs ∧ i ≤ bs.length ∧ bs.length ≤ c ∧ c ≤ 9223372036854775807 ∧ bs.length ≤ 140737488355328 ∧ B ≤ p
theorem RRd.lt {w : World} {B p i : Nat} {bs : List Value} {bad : Bool} (h : RRd w B p bs i bad) : p < w.heap.size := by
  obtain ⟨_, _, hb, _⟩ := h
  exact hb.lt
theorem RRd.below {w w1 : World} {B p i : Nat} {bs : List Value} {bad : Bool} (h : RRd w B p bs i bad) (k : Below w.heap.size w w1) : RRd w1 B p bs i bad := by
  have hlt := h.lt
  obtain ⟨A, c, hb, hl, h8, h1, h2, h3, h4, h5⟩ := h
  exact ⟨A, c, hb.below k, hl.below (k.mono (by omega)), h8, h1, h2, h3, h4, h5⟩
/-- The next m bytes were answered. -/
def RTook (w : World) (B p : Nat) (bs : List Value) (i m : Nat) (e : Ending) (w' : World) : Prop := ∃ A c, e = .returned (.slice A m c) ∧ Lists w' w'.heap.size A ((bs.drop i).take m) ∧ RRd w' B p bs (i + m) false ∧ Only w w' [p]

set_option maxRecDepth 100000 in
set_option maxHeartbeats 2000000 in
theorem rtake_ok (B p : Nat) (bs : List Value) (i m : Nat) (w : World) (h : RRd w B p bs i false) (hm : 1 ≤ m) (him : i + m ≤ bs.length) :
    Calls Try.prog 32 #[.pointer (some ⟨p, 0, none⟩), .int .i64 (m : Nat)] w (RTook w B p bs i m) := by
  obtain ⟨A, c, hb, hl, h8, h1, h2, h3, h4, h5⟩ := id h
  obtain ⟨b, o, rfl, hbB, hcl⟩ := hl.plain (by intro e; rw [e] at him; simp at him; omega)
  have hlen : ((bs.drop i).take m).length = m := by simp only [List.length_take, List.length_drop]; omega
  have hpart : Lists w B (some ⟨b, o + i, none⟩) ((bs.drop i).take m) := by
    have := lists_part hl i m
    simpa [addr_plain] using this
  have h8p : Bytes8 ((bs.drop i).take m) := fun u hu => h8 u (List.mem_of_mem_drop (List.mem_of_mem_take hu))
  have hp := h.lt
  obtain ⟨E, hE⟩ : ∃ E, E = (bs.drop i).take m := ⟨_, rfl⟩
  rw [← hE] at hlen hpart h8p
  have HE := Lib.hid hE
  have HL := Lib.hid hl
  have H8 := Lib.hid h8
  have HP := Lib.hid h8p
  have HN := Lib.hid hlen
  clear hE hl h8 h8p hcl h hlen
  obtain ⟨n, hnn⟩ : ∃ n, n = bs.length := ⟨_, rfl⟩
  rw [← hnn] at hb h1 h2 h4 him
  have HB := Lib.hid hnn
  clear hnn
  have F0 := hb.kb; simp only [KB, CellsAt, Nat.zero_add, Nat.reduceAdd, and_true] at F0
  have e1 : decide ((m : Int) < 0) = false := by simp
  have e2 : (0 : Int) ≤ (m : Int) := by omega
  have s0 : IntKind.i64.wrap ((n : Int) - (i : Int)) = (n : Int) - (i : Int) := IntWalk.i64_in _ (by omega)
  have e3 : decide ((n : Int) - (i : Int) < (m : Int)) = false := by simp; omega
  have e3' : ¬ (n : Int) - (i : Int) < (m : Int) := by omega
  have s1 : IntKind.i64.wrap ((i : Int) + (m : Int)) = (i : Int) + (m : Int) := IntWalk.i64_in _ (by omega)
  have s2 : ((i : Int) + (m : Int)).toNat = i + m := by omega
  have e4 : (0 : Int) ≤ (i : Int) := by omega
  have e5 : (i : Int) + (m : Int) ≤ (c : Int) := by omega
  have e6 : (0 : Int) ≤ (i : Int) + (m : Int) := by omega
  have e7 : (i : Int) ≤ (i : Int) + (m : Int) := by omega
  have e8 : ¬ c = i := by omega
  have e9 : i + m - i = m := by omega
  have e10 : (i : Int) ≤ (c : Int) := by omega
  have e11 : i ≤ i + m := by omega
  have e12 : i + m ≤ c := by omega
  obtain ⟨i0, hi, hz0, hz1, hz2⟩ := info_parts u8Info
  go_enter Try.func32, Try.ntmps32
  go_wp2
  have hI : Below w.heap.size w w.drew := (Below.refl _ _).drew
  refine wp_region_chain (fun V => Below w.heap.size w V) [(0, false), (1, false), (2, false), (3, false), (4, false), (5, false), (6, false), (7, false), (8, false), (9, false), (10, false), (11, false), (12, false), (13, false), (14, false), (15, false), (16, false), (17, false), (18, false), (19, false), (20, false), (21, false)] (by kernel_rfl) (by kernel_rfl) hI ?_
  repeat (first
    | (refine ChainL.skip (o := ?_) ?_ ?_ ?_; rotate_left; (focus (first | (simp only [List.getElem?_toArray, List.getElem?_cons_succ, List.getElem?_cons_zero]; with_reducible rfl) | (simp only [List.getElem?_toArray, List.getElem?_cons_zero]; with_reducible rfl))); (focus rfl); simp only [Act.put, List.setIfInBounds_toArray, List.set_cons_zero, List.set_cons_succ])
    | (refine ChainL.val (o := ?_) (v := ?_) ?_ ?_ ?_ ?_ ?_; rotate_left 2; (focus (first | (simp only [List.getElem?_toArray, List.getElem?_cons_succ, List.getElem?_cons_zero]; with_reducible rfl) | (simp only [List.getElem?_toArray, List.getElem?_cons_zero]; with_reducible rfl))); (focus (intro _ _ h; cases h)); (focus rfl); (focus (intro w' hJ; have F := (hb.below hJ).kb; simp only [KB, CellsAt, Nat.zero_add, Nat.reduceAdd, and_true] at F; obtain ⟨_, _, y1, y2, y3⟩ := F; go_simp <;> with_reducible rfl)); simp only [Act.put, List.setIfInBounds_toArray, List.set_cons_zero, List.set_cons_succ]))
  refine ChainL.nil ?_
  go_wp2
  have hb1 := hb.below hI
  clear F0
  generalize w.drew = w1 at *
  have hI2 : Below w.heap.size w w1.drew := hI.drew
  refine wp_region_chain (fun V => Below w.heap.size w V) [(0, false), (1, false), (2, false), (3, false), (4, false), (5, false), (6, false), (7, false), (8, false), (9, false), (10, false), (11, false), (12, false), (13, false), (14, false), (15, false)] (by kernel_rfl) (by kernel_rfl) hI2 ?_
  repeat (first
    | (refine ChainL.skip (o := ?_) ?_ ?_ ?_; rotate_left; (focus (first | (simp only [List.getElem?_toArray, List.getElem?_cons_succ, List.getElem?_cons_zero]; with_reducible rfl) | (simp only [List.getElem?_toArray, List.getElem?_cons_zero]; with_reducible rfl))); (focus rfl); simp only [Act.put, List.setIfInBounds_toArray, List.set_cons_zero, List.set_cons_succ])
    | (refine ChainL.val (o := ?_) (v := ?_) ?_ ?_ ?_ ?_ ?_; rotate_left 2; (focus (first | (simp only [List.getElem?_toArray, List.getElem?_cons_succ, List.getElem?_cons_zero]; with_reducible rfl) | (simp only [List.getElem?_toArray, List.getElem?_cons_zero]; with_reducible rfl))); (focus (intro _ _ h; cases h)); (focus rfl); (focus (intro w' hJ; have F := (hb.below hJ).kb; simp only [KB, CellsAt, Nat.zero_add, Nat.reduceAdd, and_true] at F; obtain ⟨_, _, y1, y2, y3⟩ := F; go_simp <;> with_reducible rfl)); simp only [Act.put, List.setIfInBounds_toArray, List.set_cons_zero, List.set_cons_succ]))
  refine ChainL.nil ?_
  have hb2 := hb.below hI2
  have O2 : Only w (w1.drew.setCell ⟨p, 1, none⟩ (.int .i64 ((i : Int) + (m : Int)))) [p] := (Only.of_below hI2 [p]).set (.inl (by simp)) _
  have hp2 := (hpart.below (O2.to_below (by omega) (by simpa using h5)))
  have hb3 := hb2.set 1 (.int .i64 ((i : Int) + (m : Int)))
  have F := hb2.kb; simp only [KB, CellsAt, Nat.zero_add, Nat.reduceAdd, and_true] at F
  generalize w1.drew = w2 at *
  have HP2 := Lib.hid hp2
  have HB3 := Lib.hid hb3
  have HO2 := Lib.hid O2
  clear hp2 hb3 O2 hb hb1 hb2 hI hpart
  go_wp2_with (first | (at_builtin; refine wpList_append_src_wide _ rfl (.tmp 55) (.tmp 56) 26 rfl w2.heap.size 5 i0 (.int .u8 0) 1 1 Try.underlying26 hi hz0 hz1 hz2 rfl (by decide) (.slice (some ⟨w2.heap.size, 0, none⟩) 0 0) 0 [] rfl (own_new_at _ _ (by simp)) B (some ⟨b, o + i, none⟩) m _ E rfl (HP2.out.alloc (by have := HO2.out.size; simp at this ⊢; omega) _) (by rw [HN.out, Nat.mul_one]) HP.out.one (by simp only [maxLen]; omega) (by omega) (by simp) ?_; intro v4 w4 own4 hg4; rw [Nat.zero_add, List.nil_append] at own4))
  go_ret
  obtain ⟨A4, c4, rfl, l4, hc4⟩ := own_lists own4
  have b4 := ((Below.refl _ _).alloc (Nat.le_refl _) _).grown hg4 (by simp) (fun b hb => by simp [Value.ownBlock] at hb; subst hb; simp)
  have O4 := HO2.out.then_below b4
  exact ⟨A4, c4, rfl, HE.out ▸ l4, ⟨_, c, by rw [← HB.out, show ((i + m : Nat) : Int) = (i : Int) + (m : Int) by omega]; exact HB3.out.below b4, HL.out.below (O4.to_below (by omega) (by simpa using h5)), H8.out, by rw [← HB.out]; exact him, by rw [← HB.out]; exact h2, h3, by rw [← HB.out]; exact h4, h5⟩, O4⟩

/-- Too few bytes are left. -/
def RFell (w : World) (B p : Nat) (bs : List Value) (i : Nat) (e : Ending) (w' : World) : Prop := e = .returned (.slice none 0 0) ∧ RRd w' B p bs i true ∧ Only w w' [p]
set_option maxRecDepth 100000 in
theorem rtake_short (B p : Nat) (bs : List Value) (i m : Nat) (w : World) (h : RRd w B p bs i false) (him : bs.length - i < m) :
    Calls Try.prog 32 #[.pointer (some ⟨p, 0, none⟩), .int .i64 (m : Nat)] w (RFell w B p bs i) := by
  obtain ⟨A, c, hb, hl, h8, h1, h2, h3, h4, h5⟩ := id h
  have hp := h.lt
  have HL := Lib.hid hl
  have H8 := Lib.hid h8
  clear hl h8 h
  obtain ⟨n, hnn⟩ : ∃ n, n = bs.length := ⟨_, rfl⟩
  rw [← hnn] at hb h1 h2 h4 him
  have HB := Lib.hid hnn
  clear hnn
  have e1 : decide ((m : Int) < 0) = false := by simp
  have s0 : IntKind.i64.wrap ((n : Int) - (i : Int)) = (n : Int) - (i : Int) := IntWalk.i64_in _ (by omega)
  have e3 : decide ((n : Int) - (i : Int) < (m : Int)) = true := by simp; omega
  have e3' : (n : Int) - (i : Int) < (m : Int) := by omega
  go_enter Try.func32, Try.ntmps32
  go_wp2
  have hI : Below w.heap.size w w.drew := (Below.refl _ _).drew
  refine wp_region_chain (fun V => Below w.heap.size w V) [(0, false), (1, false), (2, false), (3, false), (4, false), (5, false), (6, false), (7, false), (8, false), (9, false), (10, false), (11, false), (12, false), (13, false), (14, false), (15, false), (16, false), (17, false), (18, false), (19, false), (20, false), (21, false)] (by kernel_rfl) (by kernel_rfl) hI ?_
  repeat (first
    | (refine ChainL.skip (o := ?_) ?_ ?_ ?_; rotate_left; (focus (first | (simp only [List.getElem?_toArray, List.getElem?_cons_succ, List.getElem?_cons_zero]; with_reducible rfl) | (simp only [List.getElem?_toArray, List.getElem?_cons_zero]; with_reducible rfl))); (focus rfl); simp only [Act.put, List.setIfInBounds_toArray, List.set_cons_zero, List.set_cons_succ])
    | (refine ChainL.val (o := ?_) (v := ?_) ?_ ?_ ?_ ?_ ?_; rotate_left 2; (focus (first | (simp only [List.getElem?_toArray, List.getElem?_cons_succ, List.getElem?_cons_zero]; with_reducible rfl) | (simp only [List.getElem?_toArray, List.getElem?_cons_zero]; with_reducible rfl))); (focus (intro _ _ h; cases h)); (focus rfl); (focus (intro w' hJ; have F := (hb.below hJ).kb; simp only [KB, CellsAt, Nat.zero_add, Nat.reduceAdd, and_true] at F; obtain ⟨_, _, y1, y2, y3⟩ := F; go_simp <;> with_reducible rfl)); simp only [Act.put, List.setIfInBounds_toArray, List.set_cons_zero, List.set_cons_succ]))
  refine ChainL.nil ?_
  have hb1 := hb.below hI
  have F := hb1.kb; simp only [KB, CellsAt, Nat.zero_add, Nat.reduceAdd, and_true] at F
  have hb2 := hb1.set 2 (.bool true)
  have O2 : Only w (w.drew.setCell ⟨p, 2, none⟩ (.bool true)) [p] := (Only.of_below hI [p]).set (.inl (by simp)) _
  generalize w.drew = w1 at *
  go_wp2
  go_ret
  exact ⟨rfl, ⟨A, c, by rw [← HB.out]; exact hb2, HL.out.below (O2.to_below (by omega) (by simpa using h5)), H8.out, by rw [← HB.out]; exact h1, by rw [← HB.out]; exact h2, h3, by rw [← HB.out]; exact h4, h5⟩, O2⟩

/-- A number was read. -/
def RRead (w : World) (B p : Nat) (bs : List Value) (i : Nat) (x : Int) (e : Ending) (w' : World) : Prop := e = .returned (.int .i64 x) ∧ RRd w' B p bs i false ∧ Only w w' [p]
set_option maxRecDepth 100000 in
theorem ru2_ok (B p : Nat) (bs : List Value) (i : Nat) (w : World) (h : RRd w B p bs i false) (him : i + 2 ≤ bs.length) :
    Calls Try.prog 31 #[.pointer (some ⟨p, 0, none⟩), .int .i64 2] w (RRead w B p bs (i + 2) (rd2 bs i : Nat)) := by
  have C : Calls Try.prog 32 #[.pointer (some ⟨p, 0, none⟩), .int .i64 2] w (RTook w B p bs i 2) := rtake_ok B p bs i 2 w h (by omega) him
  have h8 : Bytes8 bs := by obtain ⟨_, _, _, _, h8, _⟩ := h; exact h8
  have e : (bs.drop i).take 2 = [.int .u8 ((byteAt bs i) : Nat), .int .u8 ((byteAt bs (i + 1)) : Nat)] := by
    apply List.ext_getElem?
    intro j
    rw [List.getElem?_take, List.getElem?_drop]
    match j with
    | 0 => simpa using byteAt_get h8 (i := i) (by omega)
    | 1 => simpa using byteAt_get h8 (i := i + 1) (by omega)
    | j + 2 => simp <;> omega
  have l0 := byteAt_lt h8 i
  have l1 := byteAt_lt h8 (i + 1)
  unfold rd2
  clear h h8

  generalize byteAt bs (i + 1) = x1 at *
  generalize byteAt bs i = x0 at *
  have E := Lib.hid e
  clear e
  go_enter Try.func31, Try.ntmps31
  go_wp2_with (first | (go_at_call 32; ((refine C.mono ?_); rintro e w2 ⟨A2, k2, rfl, ll, hr, o2⟩; rw [E.out] at ll; obtain ⟨b, o, rfl, hb, hc⟩ := ll.plain (by simp); have c0 := hc 0 _ rfl; have c1 := hc 1 _ rfl; rw [Nat.add_zero] at c0; clear hc)))
  refine wp_loop_rounds 3 ?_
  rw [rounds_succ]
  go_wp2
  rw [rounds_succ]
  go_wp2
  rw [rounds_succ]
  go_wp2
  go_ret
  exact ⟨ret_int (by omega), hr, o2⟩
theorem ru2_short (B p : Nat) (bs : List Value) (i : Nat) (w : World) (h : RRd w B p bs i false) (him : bs.length - i < 2) :
    Calls Try.prog 31 #[.pointer (some ⟨p, 0, none⟩), .int .i64 2] w fun e w' => e = .returned (.int .i64 0) ∧ RRd w' B p bs i true ∧ Only w w' [p] := by
  have C : Calls Try.prog 32 #[.pointer (some ⟨p, 0, none⟩), .int .i64 2] w (RFell w B p bs i) := rtake_short B p bs i 2 w h him
  clear h him
  go_enter Try.func31, Try.ntmps31
  go_wp2_with (first | (go_at_call 32; ((refine C.mono ?_); rintro e w2 ⟨rfl, hr, o2⟩)))
  refine wp_loop_rounds 1 ?_
  rw [rounds_succ]
  go_wp2
  go_ret
  exact ⟨rfl, hr, o2⟩
set_option maxRecDepth 100000 in
theorem ru4_ok (B p : Nat) (bs : List Value) (i : Nat) (w : World) (h : RRd w B p bs i false) (him : i + 4 ≤ bs.length) :
    Calls Try.prog 31 #[.pointer (some ⟨p, 0, none⟩), .int .i64 4] w (RRead w B p bs (i + 4) (rd4 bs i : Nat)) := by
  have C : Calls Try.prog 32 #[.pointer (some ⟨p, 0, none⟩), .int .i64 4] w (RTook w B p bs i 4) := rtake_ok B p bs i 4 w h (by omega) him
  have h8 : Bytes8 bs := by obtain ⟨_, _, _, _, h8, _⟩ := h; exact h8
  have e : (bs.drop i).take 4 = [.int .u8 ((byteAt bs i) : Nat), .int .u8 ((byteAt bs (i + 1)) : Nat), .int .u8 ((byteAt bs (i + 2)) : Nat), .int .u8 ((byteAt bs (i + 3)) : Nat)] := by
    apply List.ext_getElem?
    intro j
    rw [List.getElem?_take, List.getElem?_drop]
    match j with
    | 0 => simpa using byteAt_get h8 (i := i) (by omega)
    | 1 => simpa using byteAt_get h8 (i := i + 1) (by omega)
    | 2 => simpa using byteAt_get h8 (i := i + 2) (by omega)
    | 3 => simpa using byteAt_get h8 (i := i + 3) (by omega)
    | j + 4 => simp <;> omega
  have l0 := byteAt_lt h8 i
  have l1 := byteAt_lt h8 (i + 1)
  have l2 := byteAt_lt h8 (i + 2)
  have l3 := byteAt_lt h8 (i + 3)
  unfold rd4
  clear h h8

  generalize byteAt bs (i + 1) = x1 at *
  generalize byteAt bs (i + 2) = x2 at *
  generalize byteAt bs (i + 3) = x3 at *
  generalize byteAt bs i = x0 at *
  have E := Lib.hid e
  clear e
  go_enter Try.func31, Try.ntmps31
  go_wp2_with (first | (go_at_call 32; ((refine C.mono ?_); rintro e w2 ⟨A2, k2, rfl, ll, hr, o2⟩; rw [E.out] at ll; obtain ⟨b, o, rfl, hb, hc⟩ := ll.plain (by simp); have c0 := hc 0 _ rfl; have c1 := hc 1 _ rfl; have c2 := hc 2 _ rfl; have c3 := hc 3 _ rfl; rw [Nat.add_zero] at c0; clear hc)))
  refine wp_loop_rounds 5 ?_
  rw [rounds_succ]
  go_wp2
  rw [rounds_succ]
  go_wp2
  rw [rounds_succ]
  go_wp2
  rw [rounds_succ]
  go_wp2
  rw [rounds_succ]
  go_wp2
  go_ret
  exact ⟨ret_int (by omega), hr, o2⟩
theorem ru4_short (B p : Nat) (bs : List Value) (i : Nat) (w : World) (h : RRd w B p bs i false) (him : bs.length - i < 4) :
    Calls Try.prog 31 #[.pointer (some ⟨p, 0, none⟩), .int .i64 4] w fun e w' => e = .returned (.int .i64 0) ∧ RRd w' B p bs i true ∧ Only w w' [p] := by
  have C : Calls Try.prog 32 #[.pointer (some ⟨p, 0, none⟩), .int .i64 4] w (RFell w B p bs i) := rtake_short B p bs i 4 w h him
  clear h him
  go_enter Try.func31, Try.ntmps31
  go_wp2_with (first | (go_at_call 32; ((refine C.mono ?_); rintro e w2 ⟨rfl, hr, o2⟩)))
  refine wp_loop_rounds 1 ?_
  rw [rounds_succ]
  go_wp2
  go_ret
  exact ⟨rfl, hr, o2⟩
set_option maxRecDepth 100000 in
theorem rI16_ok (B p : Nat) (bs : List Value) (i : Nat) (w : World) (h : RRd w B p bs i false) (him : i + 2 ≤ bs.length) :
    Calls Try.prog 33 #[.pointer (some ⟨p, 0, none⟩)] w (RRead w B p bs (i + 2) (s16 (rd2 bs i))) := by
  have C := ru2_ok B p bs i w h him
  have h8 : Bytes8 bs := by obtain ⟨_, _, _, _, h8, _⟩ := h; exact h8
  have hlt := rd2_lt h8 i
  clear h h8
  generalize rd2 bs i = x at *
  by_cases hx : x < 32768
  · have d : decide ((32768 : Int) ≤ (x : Int)) = false := by simp; omega
    have HX := Lib.hid hx
    clear hx hlt
    go_enter Try.func33, Try.ntmps33
    go_wp2_with (first | (go_at_call 31; ((with_reducible refine C.mono ?_); rintro e w2 ⟨rfl, hr, o2⟩)))
    go_ret
    exact ⟨ret_int (by unfold s16; rw [if_pos HX.out]), hr, o2⟩
  · have d : decide ((32768 : Int) ≤ (x : Int)) = true := by simp; omega
    have hb1 : (x : Int) ≤ 65535 := by omega
    have hb2 : (0 : Int) ≤ (x : Int) := by omega
    have HX := Lib.hid hx
    clear hx hlt
    go_enter Try.func33, Try.ntmps33
    go_wp2_with (first | (go_at_call 31; ((with_reducible refine C.mono ?_); rintro e w2 ⟨rfl, hr, o2⟩)))
    go_ret
    exact ⟨ret_int (by unfold s16; rw [if_neg HX.out]), hr, o2⟩

end Go.Proofs.Ytbomgaacahaofaa

namespace Go.Proofs.Ytbomgaacahaofaa
open Go Go.RowKit

set_option maxRecDepth 100000 in
theorem rtake_bad (B p : Nat) (bs : List Value) (i m : Nat) (w : World) (h : RRd w B p bs i true) :
    Calls Try.prog 32 #[.pointer (some ⟨p, 0, none⟩), .int .i64 (m : Nat)] w (RFell w B p bs i) := by
  obtain ⟨A, c, hb, hl, h8, h1, h2, h3, h4, h5⟩ := id h
  have hp := h.lt
  have HL := Lib.hid hl
  have H8 := Lib.hid h8
  clear hl h8 h
  obtain ⟨n, hnn⟩ : ∃ n, n = bs.length := ⟨_, rfl⟩
  rw [← hnn] at hb h1 h2 h4
  have HB := Lib.hid hnn
  clear hnn
  go_enter Try.func32, Try.ntmps32
  go_wp2
  have hI : Below w.heap.size w w.drew := (Below.refl _ _).drew
  refine wp_region_chain (fun V => Below w.heap.size w V) [(0, false), (1, false), (2, false), (3, false), (4, false), (5, false), (6, false), (7, false), (8, false), (9, false), (10, false), (11, false), (12, false), (13, false), (14, false), (15, false), (16, false), (17, false), (18, false), (19, false), (20, false), (21, false)] (by kernel_rfl) (by kernel_rfl) hI ?_
  repeat (first
    | (refine ChainL.skip (o := ?_) ?_ ?_ ?_; rotate_left; (focus (first | (simp only [List.getElem?_toArray, List.getElem?_cons_succ, List.getElem?_cons_zero]; with_reducible rfl) | (simp only [List.getElem?_toArray, List.getElem?_cons_zero]; with_reducible rfl))); (focus rfl); simp only [Act.put, List.setIfInBounds_toArray, List.set_cons_zero, List.set_cons_succ])
    | (refine ChainL.val (o := ?_) (v := ?_) ?_ ?_ ?_ ?_ ?_; rotate_left 2; (focus (first | (simp only [List.getElem?_toArray, List.getElem?_cons_succ, List.getElem?_cons_zero]; with_reducible rfl) | (simp only [List.getElem?_toArray, List.getElem?_cons_zero]; with_reducible rfl))); (focus (intro _ _ h; cases h)); (focus rfl); (focus (intro w' hJ; have F := (hb.below hJ).kb; simp only [KB, CellsAt, Nat.zero_add, Nat.reduceAdd, and_true] at F; obtain ⟨_, _, y1, y2, y3⟩ := F; go_simp <;> with_reducible rfl)); simp only [Act.put, List.setIfInBounds_toArray, List.set_cons_zero, List.set_cons_succ]))
  refine ChainL.nil ?_
  have hb1 := hb.below hI
  have F := hb1.kb; simp only [KB, CellsAt, Nat.zero_add, Nat.reduceAdd, and_true] at F
  have hb2 := hb1.set 2 (.bool true)
  have O2 : Only w (w.drew.setCell ⟨p, 2, none⟩ (.bool true)) [p] := (Only.of_below hI [p]).set (.inl (by simp)) _
  generalize w.drew = w1 at *
  go_wp2
  go_ret
  exact ⟨rfl, ⟨A, c, by rw [← HB.out]; exact hb2, HL.out.below (O2.to_below (by omega) (by simpa using h5)), H8.out, by rw [← HB.out]; exact h1, by rw [← HB.out]; exact h2, h3, by rw [← HB.out]; exact h4, h5⟩, O2⟩


def RR (w : World) (B p : Nat) (bs : List Value) (k : Nat) : Prop := (k ≤ bs.length ∧ RRd w B p bs k false) ∨ (bs.length < k ∧ ∃ i, RRd w B p bs i true)
theorem RR.below {w w1 : World} {B p k : Nat} {bs : List Value} (h : RR w B p bs k) (b : Below w.heap.size w w1) : RR w1 B p bs k :=
  h.imp (fun ⟨h1, h2⟩ => ⟨h1, h2.below b⟩) (fun ⟨h1, i, h2⟩ => ⟨h1, i, h2.below b⟩)
theorem RR.bytes {w : World} {B p k : Nat} {bs : List Value} (h : RR w B p bs k) : Bytes8 bs := by
  rcases h with ⟨_, _, _, _, _, h8, _⟩ | ⟨_, _, _, _, _, _, h8, _⟩ <;> exact h8
theorem RR.low {w : World} {B p k : Nat} {bs : List Value} (h : RR w B p bs k) : B ≤ p ∧ p < w.heap.size := by
  rcases h with ⟨_, h⟩ | ⟨_, _, h⟩ <;> (have h1 := h.lt; obtain ⟨_, _, _, _, _, _, _, _, _, h5⟩ := h; exact ⟨h5, h1⟩)
theorem RRd.other {w w1 : World} {B p i : Nat} {bs : List Value} {bad : Bool} {fp : List Nat} (h : RRd w B p bs i bad) (o : Only w w1 fp) (hp : p ∉ fp) (hf : ∀ b ∈ fp, B ≤ b) : RRd w1 B p bs i bad := by
  have hlt := h.lt
  obtain ⟨A, c, hb, hl, h8, h1, h2, h3, h4, h5⟩ := h
  exact ⟨A, c, hb.only o hp, hl.below (o.to_below (by omega) hf), h8, h1, h2, h3, h4, h5⟩
theorem RR.other {w w1 : World} {B p k : Nat} {bs : List Value} {fp : List Nat} (h : RR w B p bs k) (o : Only w w1 fp) (hp : p ∉ fp) (hf : ∀ b ∈ fp, B ≤ b) : RR w1 B p bs k :=
  h.imp (fun ⟨h1, h2⟩ => ⟨h1, h2.other o hp hf⟩) (fun ⟨h1, i, h2⟩ => ⟨h1, i, h2.other o hp hf⟩)
/-- A number was read by a reader that may have come to its end. -/
def RReadS (w : World) (B p : Nat) (bs : List Value) (k : Nat) (x : Int) (e : Ending) (w' : World) : Prop := e = .returned (.int .i64 x) ∧ RR w' B p bs k ∧ Only w w' [p]
def RTookS (w : World) (B p : Nat) (bs : List Value) (k : Nat) (e : Ending) (w' : World) : Prop := ∃ v, e = .returned v ∧ RR w' B p bs k ∧ Only w w' [p]
theorem rr_take (B p : Nat) (bs : List Value) (k m : Nat) (w : World) (h : RR w B p bs k) (hm : 1 ≤ m) :
    Calls Try.prog 32 #[.pointer (some ⟨p, 0, none⟩), .int .i64 (m : Nat)] w (RTookS w B p bs (k + m)) := by
  rcases h with ⟨h1, h2⟩ | ⟨h1, i, h2⟩
  · by_cases hk : k + m ≤ bs.length
    · exact (rtake_ok B p bs k m w h2 hm hk).mono fun e w' ⟨A, c, a, _, b, o⟩ => ⟨_, a, .inl ⟨hk, b⟩, o⟩
    · exact (rtake_short B p bs k m w h2 (by omega)).mono fun e w' ⟨a, b, o⟩ => ⟨_, a, .inr ⟨by omega, k, b⟩, o⟩
  · exact (rtake_bad B p bs i m w h2).mono fun e w' ⟨a, b, o⟩ => ⟨_, a, .inr ⟨by omega, i, b⟩, o⟩
set_option maxRecDepth 100000 in
theorem ru2_bad (B p : Nat) (bs : List Value) (i : Nat) (w : World) (h : RRd w B p bs i true) :
    Calls Try.prog 31 #[.pointer (some ⟨p, 0, none⟩), .int .i64 2] w fun e w' => e = .returned (.int .i64 0) ∧ RRd w' B p bs i true ∧ Only w w' [p] := by
  have C : Calls Try.prog 32 #[.pointer (some ⟨p, 0, none⟩), .int .i64 2] w (RFell w B p bs i) := rtake_bad B p bs i 2 w h
  clear h
  go_enter Try.func31, Try.ntmps31
  go_wp2_with (first | (go_at_call 32; ((refine C.mono ?_); rintro e w2 ⟨rfl, hr, o2⟩)))
  refine wp_loop_rounds 1 ?_
  rw [rounds_succ]
  go_wp2
  go_ret
  exact ⟨rfl, hr, o2⟩
theorem rr_u2 (B p : Nat) (bs : List Value) (k : Nat) (w : World) (h : RR w B p bs k) :
    Calls Try.prog 31 #[.pointer (some ⟨p, 0, none⟩), .int .i64 2] w (RReadS w B p bs (k + 2) (rsn bs 2 k (rd2 bs k) : Nat)) := by
  unfold rsn
  rcases h with ⟨h1, h2⟩ | ⟨h1, i, h2⟩
  · by_cases hk : k + 2 ≤ bs.length
    · rw [if_pos hk]
      exact (ru2_ok B p bs k w h2 hk).mono fun e w' ⟨a, b, o⟩ => ⟨a, .inl ⟨hk, b⟩, o⟩
    · rw [if_neg hk]
      exact (ru2_short B p bs k w h2 (by omega)).mono fun e w' ⟨a, b, o⟩ => ⟨a, .inr ⟨by omega, k, b⟩, o⟩
  · rw [if_neg (by omega)]
    exact (ru2_bad B p bs i w h2).mono fun e w' ⟨a, b, o⟩ => ⟨a, .inr ⟨by omega, i, b⟩, o⟩
set_option maxRecDepth 100000 in
theorem ru4_bad (B p : Nat) (bs : List Value) (i : Nat) (w : World) (h : RRd w B p bs i true) :
    Calls Try.prog 31 #[.pointer (some ⟨p, 0, none⟩), .int .i64 4] w fun e w' => e = .returned (.int .i64 0) ∧ RRd w' B p bs i true ∧ Only w w' [p] := by
  have C : Calls Try.prog 32 #[.pointer (some ⟨p, 0, none⟩), .int .i64 4] w (RFell w B p bs i) := rtake_bad B p bs i 4 w h
  clear h
  go_enter Try.func31, Try.ntmps31
  go_wp2_with (first | (go_at_call 32; ((refine C.mono ?_); rintro e w2 ⟨rfl, hr, o2⟩)))
  refine wp_loop_rounds 1 ?_
  rw [rounds_succ]
  go_wp2
  go_ret
  exact ⟨rfl, hr, o2⟩
theorem rr_u4 (B p : Nat) (bs : List Value) (k : Nat) (w : World) (h : RR w B p bs k) :
    Calls Try.prog 31 #[.pointer (some ⟨p, 0, none⟩), .int .i64 4] w (RReadS w B p bs (k + 4) (rsn bs 4 k (rd4 bs k) : Nat)) := by
  unfold rsn
  rcases h with ⟨h1, h2⟩ | ⟨h1, i, h2⟩
  · by_cases hk : k + 4 ≤ bs.length
    · rw [if_pos hk]
      exact (ru4_ok B p bs k w h2 hk).mono fun e w' ⟨a, b, o⟩ => ⟨a, .inl ⟨hk, b⟩, o⟩
    · rw [if_neg hk]
      exact (ru4_short B p bs k w h2 (by omega)).mono fun e w' ⟨a, b, o⟩ => ⟨a, .inr ⟨by omega, k, b⟩, o⟩
  · rw [if_neg (by omega)]
    exact (ru4_bad B p bs i w h2).mono fun e w' ⟨a, b, o⟩ => ⟨a, .inr ⟨by omega, i, b⟩, o⟩
set_option maxRecDepth 100000 in
theorem rr_i16 (B p : Nat) (bs : List Value) (k : Nat) (w : World) (h : RR w B p bs k) :
    Calls Try.prog 33 #[.pointer (some ⟨p, 0, none⟩)] w (RReadS w B p bs (k + 2) (s16 (rsn bs 2 k (rd2 bs k)))) := by
  have C := rr_u2 B p bs k w h
  have hlt : rsn bs 2 k (rd2 bs k) < 65536 := rsn_lt (rd2_lt h.bytes k)
  clear h
  generalize rsn bs 2 k (rd2 bs k) = x at *
  by_cases hx : x < 32768
  · have d : decide ((32768 : Int) ≤ (x : Int)) = false := by simp; omega
    have HX := Lib.hid hx
    clear hx hlt
    go_enter Try.func33, Try.ntmps33
    go_wp2_with (first | (go_at_call 31; ((with_reducible refine C.mono ?_); rintro e w2 ⟨rfl, hr, o2⟩)))
    go_ret
    exact ⟨ret_int (by unfold s16; rw [if_pos HX.out]), hr, o2⟩
  · have d : decide ((32768 : Int) ≤ (x : Int)) = true := by simp; omega
    have hb1 : (x : Int) ≤ 65535 := by omega
    have hb2 : (0 : Int) ≤ (x : Int) := by omega
    have HX := Lib.hid hx
    clear hx hlt
    go_enter Try.func33, Try.ntmps33
    go_wp2_with (first | (go_at_call 31; ((with_reducible refine C.mono ?_); rintro e w2 ⟨rfl, hr, o2⟩)))
    go_ret
    exact ⟨ret_int (by unfold s16; rw [if_neg HX.out]), hr, o2⟩
/-- The same, as the code reads them. -/
theorem rr_k1 (B p : Nat) (bs : List Value) (k : Nat) (w : World) (h : RR w B p bs k) : Calls Try.prog 31 #[.pointer (some ⟨p, 0, none⟩), .int .i64 2] w (RReadS w B p bs (k + 2) (rdk bs 1 k)) := rr_u2 B p bs k w h
theorem rr_k2 (B p : Nat) (bs : List Value) (k : Nat) (w : World) (h : RR w B p bs k) : Calls Try.prog 33 #[.pointer (some ⟨p, 0, none⟩)] w (RReadS w B p bs (k + 2) (rdk bs 2 k)) := rr_i16 B p bs k w h
theorem rr_k3 (B p : Nat) (bs : List Value) (k : Nat) (w : World) (h : RR w B p bs k) : Calls Try.prog 31 #[.pointer (some ⟨p, 0, none⟩), .int .i64 4] w (RReadS w B p bs (k + 4) (rdk bs 3 k)) := rr_u4 B p bs k w h
theorem RR.flag {w : World} {B p k : Nat} {bs : List Value} (h : RR w B p bs k) : w.cell? ⟨p, 2, none⟩ = some (.bool (decide (bs.length < k))) := by
  rcases h with ⟨h1, _, _, hb, _⟩ | ⟨h1, _, _, _, hb, _⟩
  · rw [decide_eq_false (by omega)]; exact hb.cell 2
  · rw [decide_eq_true h1]; exact hb.cell 2

end Go.Proofs.Ytbomgaacahaofaa

namespace Go.Proofs.Ytbomgaacahaofaa
open Go Go.RowKit

set_option linter.unusedVariables false
set_option linter.unusedSimpArgs false

theorem okL_iff (E : List Value) (h8 : Bytes8 E) : okL E = true ↔ (36 ≤ E.length ∧ rdk E 1 0 = 1 ∧ rdk E 1 2 = 0 ∧ rdk E 1 32 = 0 ∧ 1 ≤ rdk E 1 34) := by
  unfold okL
  simp only [Bool.and_eq_true, decide_eq_true_eq, beq_iff_eq]
  constructor
  · rintro ⟨⟨⟨⟨h, h0⟩, h1⟩, h5⟩, h6⟩
    rw [rdk1_in E 0 (by omega), rdk1_in E 2 (by omega), rdk1_in E 32 (by omega), rdk1_in E 34 (by omega)]
    omega
  · rintro ⟨h, h0⟩
    rw [rdk1_in E 0 (by omega), rdk1_in E 2 (by omega), rdk1_in E 32 (by omega), rdk1_in E 34 (by omega)] at h0
    omega
theorem valL_eq (E : List Value) (h : 36 ≤ E.length) : valL E = .agg #[.int .i64 (rdk E 2 4), .int .i64 (rdk E 2 6), .int .i64 (rdk E 2 8), .int .i64 (rdk E 1 34)] := by
  rw [rdk2_in E 4 (by omega), rdk2_in E 6 (by omega), rdk2_in E 8 (by omega), rdk1_in E 34 (by omega)]; rfl
theorem okH_iff (E : List Value) (h8 : Bytes8 E) : okH E = true ↔ (54 ≤ E.length ∧ rdk E 1 0 = 1 ∧ rdk E 1 2 = 0 ∧ rdk E 3 12 = 1594834165 ∧ (16 ≤ rdk E 1 18 ∧ rdk E 1 18 ≤ 16384) ∧ rdk E 1 50 < 2 ∧ rdk E 1 52 = 0) := by
  unfold okH
  simp only [Bool.and_eq_true, decide_eq_true_eq, beq_iff_eq]
  constructor
  · rintro ⟨⟨⟨⟨⟨⟨⟨h, h0⟩, h1⟩, h2⟩, h3⟩, h4⟩, h5⟩, h6⟩
    rw [rdk1_in E 0 (by omega), rdk1_in E 2 (by omega), rdk3_in E 12 (by omega), rdk1_in E 18 (by omega), rdk1_in E 50 (by omega), rdk1_in E 52 (by omega)]
    omega
  · rintro ⟨h, h0⟩
    rw [rdk1_in E 0 (by omega), rdk1_in E 2 (by omega), rdk3_in E 12 (by omega), rdk1_in E 18 (by omega), rdk1_in E 50 (by omega), rdk1_in E 52 (by omega)] at h0
    omega
theorem valH_eq (E : List Value) (h : 54 ≤ E.length) : valH E = .agg #[.int .i64 (rdk E 1 18), .int .i64 (rdk E 1 16), .int .i64 (rdk E 2 36), .int .i64 (rdk E 2 38), .int .i64 (rdk E 2 40), .int .i64 (rdk E 2 42), .int .i64 (rdk E 1 44), .int .i64 (rdk E 1 46), .bool (decide (rdk E 1 50 = 1))] := by
  rw [rdk1_in E 18 (by omega), rdk1_in E 16 (by omega), rdk2_in E 36 (by omega), rdk2_in E 38 (by omega), rdk2_in E 40 (by omega), rdk2_in E 42 (by omega), rdk1_in E 44 (by omega), rdk1_in E 46 (by omega), rdk1_in E 50 (by omega)]
  have e : (rd2 E 50 == 1) = decide (((rd2 E 50 : Nat) : Int) = 1) := by
    by_cases h : rd2 E 50 = 1
    · rw [h]; rfl
    · rw [decide_eq_false (by omega)]; simpa using h
  unfold valH
  rw [e]
theorem okG_iff (E : List Value) (h8 : Bytes8 E) : okG E = true ↔ ((6 ≤ E.length ∧ rdk E 3 0 = 20480 ∧ 1 ≤ rdk E 1 4) ∨ (32 ≤ E.length ∧ rdk E 3 0 = 65536 ∧ 1 ≤ rdk E 1 4)) := by
  unfold okG
  simp only [Bool.or_eq_true, Bool.and_eq_true, decide_eq_true_eq, beq_iff_eq]
  constructor
  · rintro (⟨⟨h, h0⟩, h1⟩ | ⟨⟨h, h0⟩, h1⟩)
    · rw [rdk3_in E 0 (by omega), rdk1_in E 4 (by omega)]; omega
    · rw [rdk3_in E 0 (by omega), rdk1_in E 4 (by omega)]; omega
  · rintro (⟨h, h0, h1⟩ | ⟨h, h0, h1⟩)
    · rw [rdk3_in E 0 (by omega)] at h0; rw [rdk1_in E 4 (by omega)] at h1; omega
    · rw [rdk3_in E 0 (by omega)] at h0; rw [rdk1_in E 4 (by omega)] at h1; omega
theorem valG_eq (E : List Value) (h : 6 ≤ E.length) : valG E = .agg #[.int .i64 (rdk E 1 4), .bool (decide (rdk E 3 0 = 65536))] := by
  rw [rdk1_in E 4 (by omega), rdk3_in E 0 (by omega)]
  have e : (rd4 E 0 == 65536) = decide (((rd4 E 0 : Nat) : Int) = 65536) := by
    by_cases h : rd4 E 0 = 65536
    · rw [h]; rfl
    · rw [decide_eq_false (by omega)]; simpa using h
  unfold valG
  rw [e]
/-- A table was read by the reference. -/
def GotRef (w : World) (ok : Bool) (v z : Value) (e : Ending) (w' : World) : Prop := e = .returned (.tuple #[if ok then v else z, .bool ok]) ∧ Below w.heap.size w w'

theorem wpList_build_as {P : Program} {ops : Array Oper} {rest : List Oper} {o : Oper} {a : Act} {w : World} {Q : Exit → Act → World → Prop} (hg : o.guard = none) (t : TypeId) (ho : o.op = .build t #[]) (v : Array Value)
    (hf : P.built t [] = some v) (h : wpList P ops Q rest (a.put o.dst (.agg v)) w) : wpList P ops Q (o :: rest) a w := by
  refine wpList_build hg t #[] ho ?_ ?_
  · simp [hf]
  · simpa [hf] using h
theorem rr_take2 (B p : Nat) (bs : List Value) (k : Nat) (w : World) (h : RR w B p bs k) : Calls Try.prog 32 #[.pointer (some ⟨p, 0, none⟩), .int .i64 2] w (RTookS w B p bs (k + 2)) := rr_take B p bs k 2 w h (by decide)
theorem rr_take8 (B p : Nat) (bs : List Value) (k : Nat) (w : World) (h : RR w B p bs k) : Calls Try.prog 32 #[.pointer (some ⟨p, 0, none⟩), .int .i64 8] w (RTookS w B p bs (k + 8)) := rr_take B p bs k 8 w h (by decide)
theorem rr_take16 (B p : Nat) (bs : List Value) (k : Nat) (w : World) (h : RR w B p bs k) : Calls Try.prog 32 #[.pointer (some ⟨p, 0, none⟩), .int .i64 16] w (RTookS w B p bs (k + 16)) := rr_take B p bs k 16 w h (by decide)
theorem rr_take22 (B p : Nat) (bs : List Value) (k : Nat) (w : World) (h : RR w B p bs k) : Calls Try.prog 32 #[.pointer (some ⟨p, 0, none⟩), .int .i64 22] w (RTookS w B p bs (k + 22)) := rr_take B p bs k 22 w h (by decide)
theorem rr_take26 (B p : Nat) (bs : List Value) (k : Nat) (w : World) (h : RR w B p bs k) : Calls Try.prog 32 #[.pointer (some ⟨p, 0, none⟩), .int .i64 26] w (RTookS w B p bs (k + 26)) := rr_take B p bs k 26 w h (by decide)
theorem builtL : Try.prog.built 50 [] = some zL := by kernel_rfl
theorem builtH : Try.prog.built 25 [] = some zH := by kernel_rfl
theorem builtG : Try.prog.built 40 [] = some zG := by kernel_rfl

end Go.Proofs.Ytbomgaacahaofaa

namespace Go.Proofs.Ytbomgaacahaofaa
open Go Go.RowKit

set_option linter.unusedVariables false
set_option linter.unusedSimpArgs false
theorem beqda (x y : Int) : (x == y) = decide (x = y) := by
  by_cases h : x = y
  · subst h; simp
  · rw [decide_eq_false h]; simpa using h
set_option maxRecDepth 100000 in
set_option maxHeartbeats 8000000 in
theorem rHead_a (A : Option Addr) (c : Nat) (E : List Value) (w : World) (hE : Lists w w.heap.size A E) (h8 : Bytes8 E) (hc : E.length ≤ c) (hc2 : c ≤ 9223372036854775807) (hm : E.length ≤ 140737488355328) (lb : Bool) (c9 : decide (rdk E 1 44 = 1) = lb) (c0 : ¬ rdk E 1 0 = 1) : Calls Try.prog 13 #[.slice A E.length c] w fun e w' => e = .returned (.tuple #[.agg #[.int .i64 0, .int .i64 0, .int .i64 0, .int .i64 0, .int .i64 0, .int .i64 0, .int .i64 0, .int .i64 0, .bool false], .bool false]) ∧ Below w.heap.size w w' := by
  obtain ⟨W0, hW0⟩ : ∃ W0, W0 = ((w.alloc (.cells #[.int .i64 0, .int .i64 0, .int .i64 0, .int .i64 0, .int .i64 0, .int .i64 0, .int .i64 0, .int .i64 0, .bool false] 25)).alloc (.cells #[.slice A E.length c, .int .i64 0, .bool false] 70)) := ⟨_, rfl⟩
  have HB0 : Below w.heap.size w W0 := by rw [hW0]; exact below_al (below_al (Below.refl _ _) _) _
  have R0 : Blk W0 w.heap.size 25 #[.int .i64 0, .int .i64 0, .int .i64 0, .int .i64 0, .int .i64 0, .int .i64 0, .int .i64 0, .int .i64 0, .bool false] := by rw [hW0]; exact (Blk.at rfl).al _
  have h0 : RR W0 w.heap.size (w.heap.size + 1) E 0 := .inl ⟨Nat.zero_le _, A, c, by rw [hW0]; exact Blk.at (by simp), hE.below HB0, h8, Nat.zero_le _, hc, hc2, hm, by omega⟩
  clear hE h8 hc hm
  subst hW0
  have d0 : decide (rdk E 1 0 = 1) = false := decide_eq_false c0; have e0 : ((rdk E 1 0) == 1) = false := beq_eq_false_iff_ne.2 c0
  have d9 : decide (rdk E 1 44 = 1) = lb := c9; have e9 : ((rdk E 1 44) == 1) = lb := (beqda _ _).trans c9
  go_enter Try.func13, Try.ntmps13
  go_wp2_with (first | (go_at_call 31; ((with_reducible refine (rr_k1 w.heap.size (w.heap.size + 1) E 0 _ h0).mono ?_); rintro e w1 ⟨rfl, hr1, o1⟩; have R1 := R0.only o1 (by simp); have B1 : Below w.heap.size w w1 := Below.trans HB0 (o1.to_below (Below.size HB0) (by simp)))) | (go_at_call 32; ((with_reducible refine (rr_take8 w.heap.size (w.heap.size + 1) E 2 _ hr1).mono ?_); rintro e w2 ⟨_, rfl, hr2, o2⟩; have R2 := R1.only o2 (by simp); have B2 : Below w.heap.size w w2 := Below.trans B1 (o2.to_below (Below.size B1) (by simp)))) | (go_at_call 31; ((with_reducible refine (rr_k1 w.heap.size (w.heap.size + 1) E 10 _ hr2).mono ?_); rintro e w3 ⟨rfl, hr3, o3⟩; have R3 := R2.only o3 (by simp); have B3 : Below w.heap.size w w3 := Below.trans B2 (o3.to_below (Below.size B2) (by simp)); have al3 : Below w3.heap.size w3 (w3.alloc (.cells #[.int .i64 0, .int .i64 (rdk E 1 10), .int .i64 0, .int .i64 0, .int .i64 0, .int .i64 0, .int .i64 0, .int .i64 0, .bool false] 25)) := (Below.refl _ _).alloc (Nat.le_refl _) _; have hr3a := hr3.below al3; have R3a := R3.below al3; have X3a : Blk (w3.alloc (.cells #[.int .i64 0, .int .i64 (rdk E 1 10), .int .i64 0, .int .i64 0, .int .i64 0, .int .i64 0, .int .i64 0, .int .i64 0, .bool false] 25)) w3.heap.size 25 #[.int .i64 0, .int .i64 (rdk E 1 10), .int .i64 0, .int .i64 0, .int .i64 0, .int .i64 0, .int .i64 0, .int .i64 0, .bool false] := Blk.new _ _ _; have nX : w3.heap.size ∉ [(w.heap.size + 1)] := (by have := hr3.low.2; simp; omega); have nXR : w3.heap.size ≠ w.heap.size := (by have := hr3.low.2; omega); have bX : w.heap.size ≤ w3.heap.size := (by have := hr3.low.2; omega); have B3a := B3.alloc (Below.size B3) (.cells #[.int .i64 0, .int .i64 (rdk E 1 10), .int .i64 0, .int .i64 0, .int .i64 0, .int .i64 0, .int .i64 0, .int .i64 0, .bool false] 25))) | (refine wpList_store_row rfl 25 (.tmp 6) (.tmp 29) (by with_reducible rfl) w3.heap.size #[.int .i64 0, .int .i64 (rdk E 1 10), .int .i64 0, .int .i64 0, .int .i64 0, .int .i64 0, .int .i64 0, .int .i64 0, .bool false] (by rfl) (by rfl) 25 #[.int .i64 0, .int .i64 0, .int .i64 0, .int .i64 0, .int .i64 0, .int .i64 0, .int .i64 0, .int .i64 0, .bool false] (Blk.new _ _ _) sizH rfl (by simp [Value.oneCell']) ?_; rw [World.setRow_alloc_new]) | (go_at_call 31; ((with_reducible refine (rr_k1 w.heap.size (w.heap.size + 1) E 12 _ hr3a).mono ?_); rintro e w4 ⟨rfl, hr4, o4⟩; have R4 := R3a.only o4 (by simp); have X4 : Blk w4 w3.heap.size 25 #[.int .i64 0, .int .i64 (rdk E 1 10), .int .i64 0, .int .i64 0, .int .i64 0, .int .i64 0, .int .i64 0, .int .i64 0, .bool false] := Blk.only X3a o4 nX; have B4 : Below w.heap.size w w4 := Below.trans B3a (o4.to_below (Below.size B3a) (by simp)); have g4 : w4.cell? ⟨w3.heap.size, 0, none⟩ = some (.int .i64 0) := X4.cell 0; have q4 : w4.frozen? ⟨w3.heap.size, 0, none⟩ = false := X4.frozen 0; have hr4s := hr4.other ((Only.refl w4 [w3.heap.size]).set (p := ⟨w3.heap.size, 0, none⟩) (.inl (by simp)) (.int .i64 (rdk E 1 12))) (by simp; have := hr4.low.2; have := nX; simp at this; omega) (by intro b hb; simp at hb; omega); have X4s : Blk (w4.setCell ⟨w3.heap.size, 0, none⟩ (.int .i64 (rdk E 1 12))) w3.heap.size 25 #[.int .i64 (rdk E 1 12), .int .i64 (rdk E 1 10), .int .i64 0, .int .i64 0, .int .i64 0, .int .i64 0, .int .i64 0, .int .i64 0, .bool false] := X4.set 0 _; have R4s : Blk (w4.setCell ⟨w3.heap.size, 0, none⟩ (.int .i64 (rdk E 1 12))) w.heap.size 25 _ := R4.other (q := ⟨w3.heap.size, 0, none⟩) (Ne.symm nXR) _; have B4s := B4.setCell (p := ⟨w3.heap.size, 0, none⟩) bX (.int .i64 (rdk E 1 12)))) | (go_at_call 32; ((with_reducible refine (rr_take16 w.heap.size (w.heap.size + 1) E 14 _ hr4s).mono ?_); rintro e w5 ⟨_, rfl, hr5, o5⟩; have R5 := R4s.only o5 (by simp); have X5 : Blk w5 w3.heap.size 25 #[.int .i64 (rdk E 1 12), .int .i64 (rdk E 1 10), .int .i64 0, .int .i64 0, .int .i64 0, .int .i64 0, .int .i64 0, .int .i64 0, .bool false] := Blk.only X4s o5 nX; have B5 : Below w.heap.size w w5 := Below.trans B4s (o5.to_below (Below.size B4s) (by simp)))) | (go_at_call 33; ((with_reducible refine (rr_k2 w.heap.size (w.heap.size + 1) E 30 _ hr5).mono ?_); rintro e w6 ⟨rfl, hr6, o6⟩; have R6 := R5.only o6 (by simp); have X6 : Blk w6 w3.heap.size 25 #[.int .i64 (rdk E 1 12), .int .i64 (rdk E 1 10), .int .i64 0, .int .i64 0, .int .i64 0, .int .i64 0, .int .i64 0, .int .i64 0, .bool false] := Blk.only X5 o6 nX; have B6 : Below w.heap.size w w6 := Below.trans B5 (o6.to_below (Below.size B5) (by simp)); have g6 : w6.cell? ⟨w3.heap.size, 2, none⟩ = some (.int .i64 0) := X6.cell 2; have q6 : w6.frozen? ⟨w3.heap.size, 2, none⟩ = false := X6.frozen 2; have hr6s := hr6.other ((Only.refl w6 [w3.heap.size]).set (p := ⟨w3.heap.size, 2, none⟩) (.inl (by simp)) (.int .i64 (rdk E 2 30))) (by simp; have := hr6.low.2; have := nX; simp at this; omega) (by intro b hb; simp at hb; omega); have X6s : Blk (w6.setCell ⟨w3.heap.size, 2, none⟩ (.int .i64 (rdk E 2 30))) w3.heap.size 25 #[.int .i64 (rdk E 1 12), .int .i64 (rdk E 1 10), .int .i64 (rdk E 2 30), .int .i64 0, .int .i64 0, .int .i64 0, .int .i64 0, .int .i64 0, .bool false] := X6.set 2 _; have R6s : Blk (w6.setCell ⟨w3.heap.size, 2, none⟩ (.int .i64 (rdk E 2 30))) w.heap.size 25 _ := R6.other (q := ⟨w3.heap.size, 2, none⟩) (Ne.symm nXR) _; have B6s := B6.setCell (p := ⟨w3.heap.size, 2, none⟩) bX (.int .i64 (rdk E 2 30)))) | (go_at_call 33; ((with_reducible refine (rr_k2 w.heap.size (w.heap.size + 1) E 32 _ hr6s).mono ?_); rintro e w7 ⟨rfl, hr7, o7⟩; have R7 := R6s.only o7 (by simp); have X7 : Blk w7 w3.heap.size 25 #[.int .i64 (rdk E 1 12), .int .i64 (rdk E 1 10), .int .i64 (rdk E 2 30), .int .i64 0, .int .i64 0, .int .i64 0, .int .i64 0, .int .i64 0, .bool false] := Blk.only X6s o7 nX; have B7 : Below w.heap.size w w7 := Below.trans B6s (o7.to_below (Below.size B6s) (by simp)); have g7 : w7.cell? ⟨w3.heap.size, 3, none⟩ = some (.int .i64 0) := X7.cell 3; have q7 : w7.frozen? ⟨w3.heap.size, 3, none⟩ = false := X7.frozen 3; have hr7s := hr7.other ((Only.refl w7 [w3.heap.size]).set (p := ⟨w3.heap.size, 3, none⟩) (.inl (by simp)) (.int .i64 (rdk E 2 32))) (by simp; have := hr7.low.2; have := nX; simp at this; omega) (by intro b hb; simp at hb; omega); have X7s : Blk (w7.setCell ⟨w3.heap.size, 3, none⟩ (.int .i64 (rdk E 2 32))) w3.heap.size 25 #[.int .i64 (rdk E 1 12), .int .i64 (rdk E 1 10), .int .i64 (rdk E 2 30), .int .i64 (rdk E 2 32), .int .i64 0, .int .i64 0, .int .i64 0, .int .i64 0, .bool false] := X7.set 3 _; have R7s : Blk (w7.setCell ⟨w3.heap.size, 3, none⟩ (.int .i64 (rdk E 2 32))) w.heap.size 25 _ := R7.other (q := ⟨w3.heap.size, 3, none⟩) (Ne.symm nXR) _; have B7s := B7.setCell (p := ⟨w3.heap.size, 3, none⟩) bX (.int .i64 (rdk E 2 32)))) | (go_at_call 33; ((with_reducible refine (rr_k2 w.heap.size (w.heap.size + 1) E 34 _ hr7s).mono ?_); rintro e w8 ⟨rfl, hr8, o8⟩; have R8 := R7s.only o8 (by simp); have X8 : Blk w8 w3.heap.size 25 #[.int .i64 (rdk E 1 12), .int .i64 (rdk E 1 10), .int .i64 (rdk E 2 30), .int .i64 (rdk E 2 32), .int .i64 0, .int .i64 0, .int .i64 0, .int .i64 0, .bool false] := Blk.only X7s o8 nX; have B8 : Below w.heap.size w w8 := Below.trans B7s (o8.to_below (Below.size B7s) (by simp)); have g8 : w8.cell? ⟨w3.heap.size, 4, none⟩ = some (.int .i64 0) := X8.cell 4; have q8 : w8.frozen? ⟨w3.heap.size, 4, none⟩ = false := X8.frozen 4; have hr8s := hr8.other ((Only.refl w8 [w3.heap.size]).set (p := ⟨w3.heap.size, 4, none⟩) (.inl (by simp)) (.int .i64 (rdk E 2 34))) (by simp; have := hr8.low.2; have := nX; simp at this; omega) (by intro b hb; simp at hb; omega); have X8s : Blk (w8.setCell ⟨w3.heap.size, 4, none⟩ (.int .i64 (rdk E 2 34))) w3.heap.size 25 #[.int .i64 (rdk E 1 12), .int .i64 (rdk E 1 10), .int .i64 (rdk E 2 30), .int .i64 (rdk E 2 32), .int .i64 (rdk E 2 34), .int .i64 0, .int .i64 0, .int .i64 0, .bool false] := X8.set 4 _; have R8s : Blk (w8.setCell ⟨w3.heap.size, 4, none⟩ (.int .i64 (rdk E 2 34))) w.heap.size 25 _ := R8.other (q := ⟨w3.heap.size, 4, none⟩) (Ne.symm nXR) _; have B8s := B8.setCell (p := ⟨w3.heap.size, 4, none⟩) bX (.int .i64 (rdk E 2 34)))) | (go_at_call 33; ((with_reducible refine (rr_k2 w.heap.size (w.heap.size + 1) E 36 _ hr8s).mono ?_); rintro e w9 ⟨rfl, hr9, o9⟩; have R9 := R8s.only o9 (by simp); have X9 : Blk w9 w3.heap.size 25 #[.int .i64 (rdk E 1 12), .int .i64 (rdk E 1 10), .int .i64 (rdk E 2 30), .int .i64 (rdk E 2 32), .int .i64 (rdk E 2 34), .int .i64 0, .int .i64 0, .int .i64 0, .bool false] := Blk.only X8s o9 nX; have B9 : Below w.heap.size w w9 := Below.trans B8s (o9.to_below (Below.size B8s) (by simp)); have g9 : w9.cell? ⟨w3.heap.size, 5, none⟩ = some (.int .i64 0) := X9.cell 5; have q9 : w9.frozen? ⟨w3.heap.size, 5, none⟩ = false := X9.frozen 5; have hr9s := hr9.other ((Only.refl w9 [w3.heap.size]).set (p := ⟨w3.heap.size, 5, none⟩) (.inl (by simp)) (.int .i64 (rdk E 2 36))) (by simp; have := hr9.low.2; have := nX; simp at this; omega) (by intro b hb; simp at hb; omega); have X9s : Blk (w9.setCell ⟨w3.heap.size, 5, none⟩ (.int .i64 (rdk E 2 36))) w3.heap.size 25 #[.int .i64 (rdk E 1 12), .int .i64 (rdk E 1 10), .int .i64 (rdk E 2 30), .int .i64 (rdk E 2 32), .int .i64 (rdk E 2 34), .int .i64 (rdk E 2 36), .int .i64 0, .int .i64 0, .bool false] := X9.set 5 _; have R9s : Blk (w9.setCell ⟨w3.heap.size, 5, none⟩ (.int .i64 (rdk E 2 36))) w.heap.size 25 _ := R9.other (q := ⟨w3.heap.size, 5, none⟩) (Ne.symm nXR) _; have B9s := B9.setCell (p := ⟨w3.heap.size, 5, none⟩) bX (.int .i64 (rdk E 2 36)))) | (go_at_call 31; ((with_reducible refine (rr_k1 w.heap.size (w.heap.size + 1) E 38 _ hr9s).mono ?_); rintro e w10 ⟨rfl, hr10, o10⟩; have R10 := R9s.only o10 (by simp); have X10 : Blk w10 w3.heap.size 25 #[.int .i64 (rdk E 1 12), .int .i64 (rdk E 1 10), .int .i64 (rdk E 2 30), .int .i64 (rdk E 2 32), .int .i64 (rdk E 2 34), .int .i64 (rdk E 2 36), .int .i64 0, .int .i64 0, .bool false] := Blk.only X9s o10 nX; have B10 : Below w.heap.size w w10 := Below.trans B9s (o10.to_below (Below.size B9s) (by simp)); have g10 : w10.cell? ⟨w3.heap.size, 6, none⟩ = some (.int .i64 0) := X10.cell 6; have q10 : w10.frozen? ⟨w3.heap.size, 6, none⟩ = false := X10.frozen 6; have hr10s := hr10.other ((Only.refl w10 [w3.heap.size]).set (p := ⟨w3.heap.size, 6, none⟩) (.inl (by simp)) (.int .i64 (rdk E 1 38))) (by simp; have := hr10.low.2; have := nX; simp at this; omega) (by intro b hb; simp at hb; omega); have X10s : Blk (w10.setCell ⟨w3.heap.size, 6, none⟩ (.int .i64 (rdk E 1 38))) w3.heap.size 25 #[.int .i64 (rdk E 1 12), .int .i64 (rdk E 1 10), .int .i64 (rdk E 2 30), .int .i64 (rdk E 2 32), .int .i64 (rdk E 2 34), .int .i64 (rdk E 2 36), .int .i64 (rdk E 1 38), .int .i64 0, .bool false] := X10.set 6 _; have R10s : Blk (w10.setCell ⟨w3.heap.size, 6, none⟩ (.int .i64 (rdk E 1 38))) w.heap.size 25 _ := R10.other (q := ⟨w3.heap.size, 6, none⟩) (Ne.symm nXR) _; have B10s := B10.setCell (p := ⟨w3.heap.size, 6, none⟩) bX (.int .i64 (rdk E 1 38)))) | (go_at_call 31; ((with_reducible refine (rr_k1 w.heap.size (w.heap.size + 1) E 40 _ hr10s).mono ?_); rintro e w11 ⟨rfl, hr11, o11⟩; have R11 := R10s.only o11 (by simp); have X11 : Blk w11 w3.heap.size 25 #[.int .i64 (rdk E 1 12), .int .i64 (rdk E 1 10), .int .i64 (rdk E 2 30), .int .i64 (rdk E 2 32), .int .i64 (rdk E 2 34), .int .i64 (rdk E 2 36), .int .i64 (rdk E 1 38), .int .i64 0, .bool false] := Blk.only X10s o11 nX; have B11 : Below w.heap.size w w11 := Below.trans B10s (o11.to_below (Below.size B10s) (by simp)); have g11 : w11.cell? ⟨w3.heap.size, 7, none⟩ = some (.int .i64 0) := X11.cell 7; have q11 : w11.frozen? ⟨w3.heap.size, 7, none⟩ = false := X11.frozen 7; have hr11s := hr11.other ((Only.refl w11 [w3.heap.size]).set (p := ⟨w3.heap.size, 7, none⟩) (.inl (by simp)) (.int .i64 (rdk E 1 40))) (by simp; have := hr11.low.2; have := nX; simp at this; omega) (by intro b hb; simp at hb; omega); have X11s : Blk (w11.setCell ⟨w3.heap.size, 7, none⟩ (.int .i64 (rdk E 1 40))) w3.heap.size 25 #[.int .i64 (rdk E 1 12), .int .i64 (rdk E 1 10), .int .i64 (rdk E 2 30), .int .i64 (rdk E 2 32), .int .i64 (rdk E 2 34), .int .i64 (rdk E 2 36), .int .i64 (rdk E 1 38), .int .i64 (rdk E 1 40), .bool false] := X11.set 7 _; have R11s : Blk (w11.setCell ⟨w3.heap.size, 7, none⟩ (.int .i64 (rdk E 1 40))) w.heap.size 25 _ := R11.other (q := ⟨w3.heap.size, 7, none⟩) (Ne.symm nXR) _; have B11s := B11.setCell (p := ⟨w3.heap.size, 7, none⟩) bX (.int .i64 (rdk E 1 40)))) | (go_at_call 32; ((with_reducible refine (rr_take2 w.heap.size (w.heap.size + 1) E 42 _ hr11s).mono ?_); rintro e w12 ⟨_, rfl, hr12, o12⟩; have R12 := R11s.only o12 (by simp); have X12 : Blk w12 w3.heap.size 25 #[.int .i64 (rdk E 1 12), .int .i64 (rdk E 1 10), .int .i64 (rdk E 2 30), .int .i64 (rdk E 2 32), .int .i64 (rdk E 2 34), .int .i64 (rdk E 2 36), .int .i64 (rdk E 1 38), .int .i64 (rdk E 1 40), .bool false] := Blk.only X11s o12 nX; have B12 : Below w.heap.size w w12 := Below.trans B11s (o12.to_below (Below.size B11s) (by simp)))) | (go_at_call 31; ((with_reducible refine (rr_k1 w.heap.size (w.heap.size + 1) E 44 _ hr12).mono ?_); rintro e w13 ⟨rfl, hr13, o13⟩; have R13 := R12.only o13 (by simp); have X13 : Blk w13 w3.heap.size 25 #[.int .i64 (rdk E 1 12), .int .i64 (rdk E 1 10), .int .i64 (rdk E 2 30), .int .i64 (rdk E 2 32), .int .i64 (rdk E 2 34), .int .i64 (rdk E 2 36), .int .i64 (rdk E 1 38), .int .i64 (rdk E 1 40), .bool false] := Blk.only X12 o13 nX; have B13 : Below w.heap.size w w13 := Below.trans B12 (o13.to_below (Below.size B12) (by simp)); have g13 : w13.cell? ⟨w3.heap.size, 8, none⟩ = some (.bool false) := X13.cell 8; have q13 : w13.frozen? ⟨w3.heap.size, 8, none⟩ = false := X13.frozen 8; have hr13s := hr13.other ((Only.refl w13 [w3.heap.size]).set (p := ⟨w3.heap.size, 8, none⟩) (.inl (by simp)) (.bool lb)) (by simp; have := hr13.low.2; have := nX; simp at this; omega) (by intro b hb; simp at hb; omega); have X13s : Blk (w13.setCell ⟨w3.heap.size, 8, none⟩ (.bool lb)) w3.heap.size 25 #[.int .i64 (rdk E 1 12), .int .i64 (rdk E 1 10), .int .i64 (rdk E 2 30), .int .i64 (rdk E 2 32), .int .i64 (rdk E 2 34), .int .i64 (rdk E 2 36), .int .i64 (rdk E 1 38), .int .i64 (rdk E 1 40), .bool lb] := X13.set 8 _; have R13s : Blk (w13.setCell ⟨w3.heap.size, 8, none⟩ (.bool lb)) w.heap.size 25 _ := R13.other (q := ⟨w3.heap.size, 8, none⟩) (Ne.symm nXR) _; have B13s := B13.setCell (p := ⟨w3.heap.size, 8, none⟩) bX (.bool lb))) | (refine wpList_build_as rfl 25 (by with_reducible rfl) zH builtH ?_) | (refine wpList_store_row rfl 25 (.tmp 2) (.tmp 87) (by with_reducible rfl) w.heap.size #[.int .i64 0, .int .i64 0, .int .i64 0, .int .i64 0, .int .i64 0, .int .i64 0, .int .i64 0, .int .i64 0, .bool false] (by rfl) (by rfl) 25 #[.int .i64 0, .int .i64 0, .int .i64 0, .int .i64 0, .int .i64 0, .int .i64 0, .int .i64 0, .int .i64 0, .bool false] R13s sizH rfl (by simp [Value.oneCell']) ?_))
  refine bodyPost_ret (v := .tuple #[.agg #[.int .i64 0, .int .i64 0, .int .i64 0, .int .i64 0, .int .i64 0, .int .i64 0, .int .i64 0, .int .i64 0, .bool false], .bool false]) ?_ rfl ?_
  · rw [results_cell_tmp rfl]
    simp [asAddr, Result.andThen, run_loadVar_row _ w.heap.size 25 25 #[.int .i64 0, .int .i64 0, .int .i64 0, .int .i64 0, .int .i64 0, .int .i64 0, .int .i64 0, .int .i64 0, .bool false] (0, 0) _ (Blk.row R13s #[.int .i64 0, .int .i64 0, .int .i64 0, .int .i64 0, .int .i64 0, .int .i64 0, .int .i64 0, .int .i64 0, .bool false]) Try.underlying25 rfl sizH]
  exact ⟨rfl, below_setRow B13s (Nat.le_refl _) _⟩

end Go.Proofs.Ytbomgaacahaofaa
