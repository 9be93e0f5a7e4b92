/- Part 16 of the proof: Met17, Rr, RuN, SpRa. -/
import Derived.Test.YtelhckckcilpaaaCSp14

namespace Go.Proofs.Ytelhckckcilpaaa
open Go Go.RowKit

/-- The reference's reader at block p: its bytes (below block B), where it stands. -/
def RRd (w : World) (B p : Nat) (bs : List Value) (i : Nat) (bad : Bool) : Prop :=
  ∃ (A : Option Addr) (c : Nat), Blk w p 51 #[.slice A bs.length c, .int .i64 (i : Nat), .bool bad] ∧ Lists w B A bs ∧ Bytes8 bs ∧ i ≤ bs.length ∧ bs.length ≤ c ∧ c ≤ 9223372036854775807 ∧ bs.length ≤ 140737488355328 ∧ B ≤ p
theorem RRd.lt {w : World} {B p i : Nat} {bs : List Value} {bad : Bool} (h : RRd w B p bs i bad) : p < w.heap.size := by
  obtain ⟨_, _, hb, _⟩ := h
  exact hb.lt
theorem RRd.below {w w1 : World} {B p i : Nat} {bs : List Value} {bad : Bool} (h : RRd w B p bs i bad) (k : Below w.heap.size w w1) : RRd w1 B p bs i bad := by
  have hlt := h.lt
  obtain ⟨A, c, hb, hl, h8, h1, h2, h3, h4, h5⟩ := h
  exact ⟨A, c, hb.below k, hl.below (k.mono (by omega)), h8, h1, h2, h3, h4, h5⟩
/-- The next m bytes were answered. -/
def RTook (w : World) (B p : Nat) (bs : List Value) (i m : Nat) (e : Ending) (w' : World) : Prop := ∃ A c, e = .returned (.slice A m c) ∧ Lists w' w'.heap.size A ((bs.drop i).take m) ∧ RRd w' B p bs (i + m) false ∧ Only w w' [p]

set_option maxRecDepth 100000 in
set_option maxHeartbeats 2000000 in
theorem rtake_ok (B p : Nat) (bs : List Value) (i m : Nat) (w : World) (h : RRd w B p bs i false) (hm : 1 ≤ m) (him : i + m ≤ bs.length) :
    Calls Try.prog 25 #[.pointer (some ⟨p, 0, none⟩), .int .i64 (m : Nat)] w (RTook w B p bs i m) := by
  obtain ⟨A, c, hb, hl, h8, h1, h2, h3, h4, h5⟩ := id h
  obtain ⟨b, o, rfl, hbB, hcl⟩ := hl.plain (by intro e; rw [e] at him; simp at him; omega)
  have hlen : ((bs.drop i).take m).length = m := by simp only [List.length_take, List.length_drop]; omega
  have hpart : Lists w B (some ⟨b, o + i, none⟩) ((bs.drop i).take m) := by
    have := lists_part hl i m
    simpa [addr_plain] using this
  have h8p : Bytes8 ((bs.drop i).take m) := fun u hu => h8 u (List.mem_of_mem_drop (List.mem_of_mem_take hu))
  have hp := h.lt
  obtain ⟨E, hE⟩ : ∃ E, E = (bs.drop i).take m := ⟨_, rfl⟩
  rw [← hE] at hlen hpart h8p
  have HE := Lib.hid hE
  have HL := Lib.hid hl
  have H8 := Lib.hid h8
  have HP := Lib.hid h8p
  have HN := Lib.hid hlen
  clear hE hl h8 h8p hcl h hlen
  obtain ⟨n, hnn⟩ : ∃ n, n = bs.length := ⟨_, rfl⟩
  rw [← hnn] at hb h1 h2 h4 him
  have HB := Lib.hid hnn
  clear hnn
  have F0 := hb.kb; simp only [KB, CellsAt, Nat.zero_add, Nat.reduceAdd, and_true] at F0
  have e1 : decide ((m : Int) < 0) = false := by simp
  have e2 : (0 : Int) ≤ (m : Int) := by omega
  have s0 : IntKind.i64.wrap ((n : Int) - (i : Int)) = (n : Int) - (i : Int) := IntWalk.i64_in _ (by omega)
  have e3 : decide ((n : Int) - (i : Int) < (m : Int)) = false := by simp; omega
  have e3' : ¬ (n : Int) - (i : Int) < (m : Int) := by omega
  have s1 : IntKind.i64.wrap ((i : Int) + (m : Int)) = (i : Int) + (m : Int) := IntWalk.i64_in _ (by omega)
  have s2 : ((i : Int) + (m : Int)).toNat = i + m := by omega
  have e4 : (0 : Int) ≤ (i : Int) := by omega
  have e5 : (i : Int) + (m : Int) ≤ (c : Int) := by omega
  have e6 : (0 : Int) ≤ (i : Int) + (m : Int) := by omega
  have e7 : (i : Int) ≤ (i : Int) + (m : Int) := by omega
  have e8 : ¬ c = i := by omega
  have e9 : i + m - i = m := by omega
  have e10 : (i : Int) ≤ (c : Int) := by omega
  have e11 : i ≤ i + m := by omega
  have e12 : i + m ≤ c := by omega
  obtain ⟨i0, hi, hz0, hz1, hz2⟩ := info_parts u8Info
  go_enter Try.func25, Try.ntmps25
  go_wp2
  have hI : Below w.heap.size w w.drew := (Below.refl _ _).drew
  refine wp_region_chain (fun V => Below w.heap.size w V) [(0, false), (1, false), (2, false), (3, false), (4, false), (5, false), (6, false), (7, false), (8, false), (9, false), (10, false), (11, false), (12, false), (13, false), (14, false), (15, false), (16, false), (17, false), (18, false), (19, false), (20, false), (21, false)] (by kernel_rfl) (by kernel_rfl) hI ?_
  repeat (first
    | (refine ChainL.skip (o := ?_) ?_ ?_ ?_; rotate_left; (focus (first | (simp only [List.getElem?_toArray, List.getElem?_cons_succ, List.getElem?_cons_zero]; with_reducible rfl) | (simp only [List.getElem?_toArray, List.getElem?_cons_zero]; with_reducible rfl))); (focus rfl); simp only [Act.put, List.setIfInBounds_toArray, List.set_cons_zero, List.set_cons_succ])
    | (refine ChainL.val (o := ?_) (v := ?_) ?_ ?_ ?_ ?_ ?_; rotate_left 2; (focus (first | (simp only [List.getElem?_toArray, List.getElem?_cons_succ, List.getElem?_cons_zero]; with_reducible rfl) | (simp only [List.getElem?_toArray, List.getElem?_cons_zero]; with_reducible rfl))); (focus (intro _ _ h; cases h)); (focus rfl); (focus (intro w' hJ; have F := (hb.below hJ).kb; simp only [KB, CellsAt, Nat.zero_add, Nat.reduceAdd, and_true] at F; obtain ⟨_, _, y1, y2, y3⟩ := F; go_simp <;> with_reducible rfl)); simp only [Act.put, List.setIfInBounds_toArray, List.set_cons_zero, List.set_cons_succ]))
  refine ChainL.nil ?_
  go_wp2
  have hb1 := hb.below hI
  clear F0
  generalize w.drew = w1 at *
  have hI2 : Below w.heap.size w w1.drew := hI.drew
  refine wp_region_chain (fun V => Below w.heap.size w V) [(0, false), (1, false), (2, false), (3, false), (4, false), (5, false), (6, false), (7, false), (8, false), (9, false), (10, false), (11, false), (12, false), (13, false), (14, false), (15, false)] (by kernel_rfl) (by kernel_rfl) hI2 ?_
  repeat (first
    | (refine ChainL.skip (o := ?_) ?_ ?_ ?_; rotate_left; (focus (first | (simp only [List.getElem?_toArray, List.getElem?_cons_succ, List.getElem?_cons_zero]; with_reducible rfl) | (simp only [List.getElem?_toArray, List.getElem?_cons_zero]; with_reducible rfl))); (focus rfl); simp only [Act.put, List.setIfInBounds_toArray, List.set_cons_zero, List.set_cons_succ])
    | (refine ChainL.val (o := ?_) (v := ?_) ?_ ?_ ?_ ?_ ?_; rotate_left 2; (focus (first | (simp only [List.getElem?_toArray, List.getElem?_cons_succ, List.getElem?_cons_zero]; with_reducible rfl) | (simp only [List.getElem?_toArray, List.getElem?_cons_zero]; with_reducible rfl))); (focus (intro _ _ h; cases h)); (focus rfl); (focus (intro w' hJ; have F := (hb.below hJ).kb; simp only [KB, CellsAt, Nat.zero_add, Nat.reduceAdd, and_true] at F; obtain ⟨_, _, y1, y2, y3⟩ := F; go_simp <;> with_reducible rfl)); simp only [Act.put, List.setIfInBounds_toArray, List.set_cons_zero, List.set_cons_succ]))
  refine ChainL.nil ?_
  have hb2 := hb.below hI2
  have O2 : Only w (w1.drew.setCell ⟨p, 1, none⟩ (.int .i64 ((i : Int) + (m : Int)))) [p] := (Only.of_below hI2 [p]).set (.inl (by simp)) _
  have hp2 := (hpart.below (O2.to_below (by omega) (by simpa using h5)))
  have hb3 := hb2.set 1 (.int .i64 ((i : Int) + (m : Int)))
  have F := hb2.kb; simp only [KB, CellsAt, Nat.zero_add, Nat.reduceAdd, and_true] at F
  generalize w1.drew = w2 at *
  have HP2 := Lib.hid hp2
  have HB3 := Lib.hid hb3
  have HO2 := Lib.hid O2
  clear hp2 hb3 O2 hb hb1 hb2 hI hpart
  go_wp2_with (first | (at_builtin; refine wpList_append_src_wide _ rfl (.tmp 55) (.tmp 56) 22 rfl w2.heap.size 5 i0 (.int .u8 0) 1 1 Try.underlying22 hi hz0 hz1 hz2 rfl (by decide) (.slice (some ⟨w2.heap.size, 0, none⟩) 0 0) 0 [] rfl (own_new_at _ _ (by simp)) B (some ⟨b, o + i, none⟩) m _ E rfl (HP2.out.alloc (by have := HO2.out.size; simp at this ⊢; omega) _) (by rw [HN.out, Nat.mul_one]) HP.out.one (by simp only [maxLen]; omega) (by omega) (by simp) ?_; intro v4 w4 own4 hg4; rw [Nat.zero_add, List.nil_append] at own4))
  go_ret
  obtain ⟨A4, c4, rfl, l4, hc4⟩ := own_lists own4
  have b4 := ((Below.refl _ _).alloc (Nat.le_refl _) _).grown hg4 (by simp) (fun b hb => by simp [Value.ownBlock] at hb; subst hb; simp)
  have O4 := HO2.out.then_below b4
  exact ⟨A4, c4, rfl, HE.out ▸ l4, ⟨_, c, by rw [← HB.out, show ((i + m : Nat) : Int) = (i : Int) + (m : Int) by omega]; exact HB3.out.below b4, HL.out.below (O4.to_below (by omega) (by simpa using h5)), H8.out, by rw [← HB.out]; exact him, by rw [← HB.out]; exact h2, h3, by rw [← HB.out]; exact h4, h5⟩, O4⟩

/-- Too few bytes are left. -/
def RFell (w : World) (B p : Nat) (bs : List Value) (i : Nat) (e : Ending) (w' : World) : Prop := e = .returned (.slice none 0 0) ∧ RRd w' B p bs i true ∧ Only w w' [p]
set_option maxRecDepth 100000 in
theorem rtake_short (B p : Nat) (bs : List Value) (i m : Nat) (w : World) (h : RRd w B p bs i false) (him : bs.length - i < m) :
    Calls Try.prog 25 #[.pointer (some ⟨p, 0, none⟩), .int .i64 (m : Nat)] w (RFell w B p bs i) := by
  obtain ⟨A, c, hb, hl, h8, h1, h2, h3, h4, h5⟩ := id h
  have hp := h.lt
  have HL := Lib.hid hl
  have H8 := Lib.hid h8
  clear hl h8 h
  obtain ⟨n, hnn⟩ : ∃ n, n = bs.length := ⟨_, rfl⟩
  rw [← hnn] at hb h1 h2 h4 him
  have HB := Lib.hid hnn
  clear hnn
  have e1 : decide ((m : Int) < 0) = false := by simp
  have s0 : IntKind.i64.wrap ((n : Int) - (i : Int)) = (n : Int) - (i : Int) := IntWalk.i64_in _ (by omega)
  have e3 : decide ((n : Int) - (i : Int) < (m : Int)) = true := by simp; omega
  have e3' : (n : Int) - (i : Int) < (m : Int) := by omega
  go_enter Try.func25, Try.ntmps25
  go_wp2
  have hI : Below w.heap.size w w.drew := (Below.refl _ _).drew
  refine wp_region_chain (fun V => Below w.heap.size w V) [(0, false), (1, false), (2, false), (3, false), (4, false), (5, false), (6, false), (7, false), (8, false), (9, false), (10, false), (11, false), (12, false), (13, false), (14, false), (15, false), (16, false), (17, false), (18, false), (19, false), (20, false), (21, false)] (by kernel_rfl) (by kernel_rfl) hI ?_
  repeat (first
    | (refine ChainL.skip (o := ?_) ?_ ?_ ?_; rotate_left; (focus (first | (simp only [List.getElem?_toArray, List.getElem?_cons_succ, List.getElem?_cons_zero]; with_reducible rfl) | (simp only [List.getElem?_toArray, List.getElem?_cons_zero]; with_reducible rfl))); (focus rfl); simp only [Act.put, List.setIfInBounds_toArray, List.set_cons_zero, List.set_cons_succ])
    | (refine ChainL.val (o := ?_) (v := ?_) ?_ ?_ ?_ ?_ ?_; rotate_left 2; (focus (first | (simp only [List.getElem?_toArray, List.getElem?_cons_succ, List.getElem?_cons_zero]; with_reducible rfl) | (simp only [List.getElem?_toArray, List.getElem?_cons_zero]; with_reducible rfl))); (focus (intro _ _ h; cases h)); (focus rfl); (focus (intro w' hJ; have F := (hb.below hJ).kb; simp only [KB, CellsAt, Nat.zero_add, Nat.reduceAdd, and_true] at F; obtain ⟨_, _, y1, y2, y3⟩ := F; go_simp <;> with_reducible rfl)); simp only [Act.put, List.setIfInBounds_toArray, List.set_cons_zero, List.set_cons_succ]))
  refine ChainL.nil ?_
  have hb1 := hb.below hI
  have F := hb1.kb; simp only [KB, CellsAt, Nat.zero_add, Nat.reduceAdd, and_true] at F
  have hb2 := hb1.set 2 (.bool true)
  have O2 : Only w (w.drew.setCell ⟨p, 2, none⟩ (.bool true)) [p] := (Only.of_below hI [p]).set (.inl (by simp)) _
  generalize w.drew = w1 at *
  go_wp2
  go_ret
  exact ⟨rfl, ⟨A, c, by rw [← HB.out]; exact hb2, HL.out.below (O2.to_below (by omega) (by simpa using h5)), H8.out, by rw [← HB.out]; exact h1, by rw [← HB.out]; exact h2, h3, by rw [← HB.out]; exact h4, h5⟩, O2⟩

/-- A number was read. -/
def RRead (w : World) (B p : Nat) (bs : List Value) (i : Nat) (x : Int) (e : Ending) (w' : World) : Prop := e = .returned (.int .i64 x) ∧ RRd w' B p bs i false ∧ Only w w' [p]
set_option maxRecDepth 100000 in
theorem ru2_ok (B p : Nat) (bs : List Value) (i : Nat) (w : World) (h : RRd w B p bs i false) (him : i + 2 ≤ bs.length) :
    Calls Try.prog 26 #[.pointer (some ⟨p, 0, none⟩), .int .i64 2] w (RRead w B p bs (i + 2) (rd2 bs i : Nat)) := by
  have C : Calls Try.prog 25 #[.pointer (some ⟨p, 0, none⟩), .int .i64 2] w (RTook w B p bs i 2) := rtake_ok B p bs i 2 w h (by omega) him
  have h8 : Bytes8 bs := by obtain ⟨_, _, _, _, h8, _⟩ := h; exact h8
  have e : (bs.drop i).take 2 = [.int .u8 ((byteAt bs i) : Nat), .int .u8 ((byteAt bs (i + 1)) : Nat)] := by
    apply List.ext_getElem?
    intro j
    rw [List.getElem?_take, List.getElem?_drop]
    match j with
    | 0 => simpa using byteAt_get h8 (i := i) (by omega)
    | 1 => simpa using byteAt_get h8 (i := i + 1) (by omega)
    | j + 2 => simp <;> omega
  have l0 := byteAt_lt h8 i
  have l1 := byteAt_lt h8 (i + 1)
  unfold rd2
  clear h h8

  generalize byteAt bs (i + 1) = x1 at *
  generalize byteAt bs i = x0 at *
  have E := Lib.hid e
  clear e
  go_enter Try.func26, Try.ntmps26
  go_wp2_with (first | (go_at_call 25; ((refine C.mono ?_); rintro e w2 ⟨A2, k2, rfl, ll, hr, o2⟩; rw [E.out] at ll; obtain ⟨b, o, rfl, hb, hc⟩ := ll.plain (by simp); have c0 := hc 0 _ rfl; have c1 := hc 1 _ rfl; rw [Nat.add_zero] at c0; clear hc)))
  refine wp_loop_rounds 3 ?_
  rw [rounds_succ]
  go_wp2
  rw [rounds_succ]
  go_wp2
  rw [rounds_succ]
  go_wp2
  go_ret
  exact ⟨ret_int (by omega), hr, o2⟩
theorem ru2_short (B p : Nat) (bs : List Value) (i : Nat) (w : World) (h : RRd w B p bs i false) (him : bs.length - i < 2) :
    Calls Try.prog 26 #[.pointer (some ⟨p, 0, none⟩), .int .i64 2] w fun e w' => e = .returned (.int .i64 0) ∧ RRd w' B p bs i true ∧ Only w w' [p] := by
  have C : Calls Try.prog 25 #[.pointer (some ⟨p, 0, none⟩), .int .i64 2] w (RFell w B p bs i) := rtake_short B p bs i 2 w h him
  clear h him
  go_enter Try.func26, Try.ntmps26
  go_wp2_with (first | (go_at_call 25; ((refine C.mono ?_); rintro e w2 ⟨rfl, hr, o2⟩)))
  refine wp_loop_rounds 1 ?_
  rw [rounds_succ]
  go_wp2
  go_ret
  exact ⟨rfl, hr, o2⟩
set_option maxRecDepth 100000 in
theorem ru4_ok (B p : Nat) (bs : List Value) (i : Nat) (w : World) (h : RRd w B p bs i false) (him : i + 4 ≤ bs.length) :
    Calls Try.prog 26 #[.pointer (some ⟨p, 0, none⟩), .int .i64 4] w (RRead w B p bs (i + 4) (rd4 bs i : Nat)) := by
  have C : Calls Try.prog 25 #[.pointer (some ⟨p, 0, none⟩), .int .i64 4] w (RTook w B p bs i 4) := rtake_ok B p bs i 4 w h (by omega) him
  have h8 : Bytes8 bs := by obtain ⟨_, _, _, _, h8, _⟩ := h; exact h8
  have e : (bs.drop i).take 4 = [.int .u8 ((byteAt bs i) : Nat), .int .u8 ((byteAt bs (i + 1)) : Nat), .int .u8 ((byteAt bs (i + 2)) : Nat), .int .u8 ((byteAt bs (i + 3)) : Nat)] := by
    apply List.ext_getElem?
    intro j
    rw [List.getElem?_take, List.getElem?_drop]
    match j with
    | 0 => simpa using byteAt_get h8 (i := i) (by omega)
    | 1 => simpa using byteAt_get h8 (i := i + 1) (by omega)
    | 2 => simpa using byteAt_get h8 (i := i + 2) (by omega)
    | 3 => simpa using byteAt_get h8 (i := i + 3) (by omega)
    | j + 4 => simp <;> omega
  have l0 := byteAt_lt h8 i
  have l1 := byteAt_lt h8 (i + 1)
  have l2 := byteAt_lt h8 (i + 2)
  have l3 := byteAt_lt h8 (i + 3)
  unfold rd4
  clear h h8

  generalize byteAt bs (i + 1) = x1 at *
  generalize byteAt bs (i + 2) = x2 at *
  generalize byteAt bs (i + 3) = x3 at *
  generalize byteAt bs i = x0 at *
  have E := Lib.hid e
  clear e
  go_enter Try.func26, Try.ntmps26
  go_wp2_with (first | (go_at_call 25; ((refine C.mono ?_); rintro e w2 ⟨A2, k2, rfl, ll, hr, o2⟩; rw [E.out] at ll; obtain ⟨b, o, rfl, hb, hc⟩ := ll.plain (by simp); have c0 := hc 0 _ rfl; have c1 := hc 1 _ rfl; have c2 := hc 2 _ rfl; have c3 := hc 3 _ rfl; rw [Nat.add_zero] at c0; clear hc)))
  refine wp_loop_rounds 5 ?_
  rw [rounds_succ]
  go_wp2
  rw [rounds_succ]
  go_wp2
  rw [rounds_succ]
  go_wp2
  rw [rounds_succ]
  go_wp2
  rw [rounds_succ]
  go_wp2
  go_ret
  exact ⟨ret_int (by omega), hr, o2⟩
theorem ru4_short (B p : Nat) (bs : List Value) (i : Nat) (w : World) (h : RRd w B p bs i false) (him : bs.length - i < 4) :
    Calls Try.prog 26 #[.pointer (some ⟨p, 0, none⟩), .int .i64 4] w fun e w' => e = .returned (.int .i64 0) ∧ RRd w' B p bs i true ∧ Only w w' [p] := by
  have C : Calls Try.prog 25 #[.pointer (some ⟨p, 0, none⟩), .int .i64 4] w (RFell w B p bs i) := rtake_short B p bs i 4 w h him
  clear h him
  go_enter Try.func26, Try.ntmps26
  go_wp2_with (first | (go_at_call 25; ((refine C.mono ?_); rintro e w2 ⟨rfl, hr, o2⟩)))
  refine wp_loop_rounds 1 ?_
  rw [rounds_succ]
  go_wp2
  go_ret
  exact ⟨rfl, hr, o2⟩
set_option maxRecDepth 100000 in
theorem rI16_ok (B p : Nat) (bs : List Value) (i : Nat) (w : World) (h : RRd w B p bs i false) (him : i + 2 ≤ bs.length) :
    Calls Try.prog 24 #[.pointer (some ⟨p, 0, none⟩)] w (RRead w B p bs (i + 2) (s16 (rd2 bs i))) := by
  have C := ru2_ok B p bs i w h him
  have h8 : Bytes8 bs := by obtain ⟨_, _, _, _, h8, _⟩ := h; exact h8
  have hlt := rd2_lt h8 i
  clear h h8
  generalize rd2 bs i = x at *
  by_cases hx : x < 32768
  · have d : decide ((32768 : Int) ≤ (x : Int)) = false := by simp; omega
    have HX := Lib.hid hx
    clear hx hlt
    go_enter Try.func24, Try.ntmps24
    go_wp2_with (first | (go_at_call 26; ((with_reducible refine C.mono ?_); rintro e w2 ⟨rfl, hr, o2⟩)))
    go_ret
    exact ⟨ret_int (by unfold s16; rw [if_pos HX.out]), hr, o2⟩
  · have d : decide ((32768 : Int) ≤ (x : Int)) = true := by simp; omega
    have hb1 : (x : Int) ≤ 65535 := by omega
    have hb2 : (0 : Int) ≤ (x : Int) := by omega
    have HX := Lib.hid hx
    clear hx hlt
    go_enter Try.func24, Try.ntmps24
    go_wp2_with (first | (go_at_call 26; ((with_reducible refine C.mono ?_); rintro e w2 ⟨rfl, hr, o2⟩)))
    go_ret
    exact ⟨ret_int (by unfold s16; rw [if_neg HX.out]), hr, o2⟩

end Go.Proofs.Ytelhckckcilpaaa

namespace Go.Proofs.Ytelhckckcilpaaa
open Go Go.RowKit

set_option maxRecDepth 100000 in
theorem rtake_bad (B p : Nat) (bs : List Value) (i m : Nat) (w : World) (h : RRd w B p bs i true) :
    Calls Try.prog 25 #[.pointer (some ⟨p, 0, none⟩), .int .i64 (m : Nat)] w (RFell w B p bs i) := by
  obtain ⟨A, c, hb, hl, h8, h1, h2, h3, h4, h5⟩ := id h
  have hp := h.lt
  have HL := Lib.hid hl
  have H8 := Lib.hid h8
  clear hl h8 h
  obtain ⟨n, hnn⟩ : ∃ n, n = bs.length := ⟨_, rfl⟩
  rw [← hnn] at hb h1 h2 h4
  have HB := Lib.hid hnn
  clear hnn
  go_enter Try.func25, Try.ntmps25
  go_wp2
  have hI : Below w.heap.size w w.drew := (Below.refl _ _).drew
  refine wp_region_chain (fun V => Below w.heap.size w V) [(0, false), (1, false), (2, false), (3, false), (4, false), (5, false), (6, false), (7, false), (8, false), (9, false), (10, false), (11, false), (12, false), (13, false), (14, false), (15, false), (16, false), (17, false), (18, false), (19, false), (20, false), (21, false)] (by kernel_rfl) (by kernel_rfl) hI ?_
  repeat (first
    | (refine ChainL.skip (o := ?_) ?_ ?_ ?_; rotate_left; (focus (first | (simp only [List.getElem?_toArray, List.getElem?_cons_succ, List.getElem?_cons_zero]; with_reducible rfl) | (simp only [List.getElem?_toArray, List.getElem?_cons_zero]; with_reducible rfl))); (focus rfl); simp only [Act.put, List.setIfInBounds_toArray, List.set_cons_zero, List.set_cons_succ])
    | (refine ChainL.val (o := ?_) (v := ?_) ?_ ?_ ?_ ?_ ?_; rotate_left 2; (focus (first | (simp only [List.getElem?_toArray, List.getElem?_cons_succ, List.getElem?_cons_zero]; with_reducible rfl) | (simp only [List.getElem?_toArray, List.getElem?_cons_zero]; with_reducible rfl))); (focus (intro _ _ h; cases h)); (focus rfl); (focus (intro w' hJ; have F := (hb.below hJ).kb; simp only [KB, CellsAt, Nat.zero_add, Nat.reduceAdd, and_true] at F; obtain ⟨_, _, y1, y2, y3⟩ := F; go_simp <;> with_reducible rfl)); simp only [Act.put, List.setIfInBounds_toArray, List.set_cons_zero, List.set_cons_succ]))
  refine ChainL.nil ?_
  have hb1 := hb.below hI
  have F := hb1.kb; simp only [KB, CellsAt, Nat.zero_add, Nat.reduceAdd, and_true] at F
  have hb2 := hb1.set 2 (.bool true)
  have O2 : Only w (w.drew.setCell ⟨p, 2, none⟩ (.bool true)) [p] := (Only.of_below hI [p]).set (.inl (by simp)) _
  generalize w.drew = w1 at *
  go_wp2
  go_ret
  exact ⟨rfl, ⟨A, c, by rw [← HB.out]; exact hb2, HL.out.below (O2.to_below (by omega) (by simpa using h5)), H8.out, by rw [← HB.out]; exact h1, by rw [← HB.out]; exact h2, h3, by rw [← HB.out]; exact h4, h5⟩, O2⟩


def RR (w : World) (B p : Nat) (bs : List Value) (k : Nat) : Prop := (k ≤ bs.length ∧ RRd w B p bs k false) ∨ (bs.length < k ∧ ∃ i, RRd w B p bs i true)
theorem RR.below {w w1 : World} {B p k : Nat} {bs : List Value} (h : RR w B p bs k) (b : Below w.heap.size w w1) : RR w1 B p bs k :=
  h.imp (fun ⟨h1, h2⟩ => ⟨h1, h2.below b⟩) (fun ⟨h1, i, h2⟩ => ⟨h1, i, h2.below b⟩)
theorem RR.bytes {w : World} {B p k : Nat} {bs : List Value} (h : RR w B p bs k) : Bytes8 bs := by
  rcases h with ⟨_, _, _, _, _, h8, _⟩ | ⟨_, _, _, _, _, _, h8, _⟩ <;> exact h8
theorem RR.low {w : World} {B p k : Nat} {bs : List Value} (h : RR w B p bs k) : B ≤ p ∧ p < w.heap.size := by
  rcases h with ⟨_, h⟩ | ⟨_, _, h⟩ <;> (have h1 := h.lt; obtain ⟨_, _, _, _, _, _, _, _, _, h5⟩ := h; exact ⟨h5, h1⟩)
theorem RRd.other {w w1 : World} {B p i : Nat} {bs : List Value} {bad : Bool} {fp : List Nat} (h : RRd w B p bs i bad) (o : Only w w1 fp) (hp : p ∉ fp) (hf : ∀ b ∈ fp, B ≤ b) : RRd w1 B p bs i bad := by
  have hlt := h.lt
  obtain ⟨A, c, hb, hl, h8, h1, h2, h3, h4, h5⟩ := h
  exact ⟨A, c, hb.only o hp, hl.below (o.to_below (by omega) hf), h8, h1, h2, h3, h4, h5⟩
theorem RR.other {w w1 : World} {B p k : Nat} {bs : List Value} {fp : List Nat} (h : RR w B p bs k) (o : Only w w1 fp) (hp : p ∉ fp) (hf : ∀ b ∈ fp, B ≤ b) : RR w1 B p bs k :=
  h.imp (fun ⟨h1, h2⟩ => ⟨h1, h2.other o hp hf⟩) (fun ⟨h1, i, h2⟩ => ⟨h1, i, h2.other o hp hf⟩)
/-- A number was read by a reader that may have come to its end. -/
def RReadS (w : World) (B p : Nat) (bs : List Value) (k : Nat) (x : Int) (e : Ending) (w' : World) : Prop := e = .returned (.int .i64 x) ∧ RR w' B p bs k ∧ Only w w' [p]
def RTookS (w : World) (B p : Nat) (bs : List Value) (k : Nat) (e : Ending) (w' : World) : Prop := ∃ v, e = .returned v ∧ RR w' B p bs k ∧ Only w w' [p]
theorem rr_take (B p : Nat) (bs : List Value) (k m : Nat) (w : World) (h : RR w B p bs k) (hm : 1 ≤ m) :
    Calls Try.prog 25 #[.pointer (some ⟨p, 0, none⟩), .int .i64 (m : Nat)] w (RTookS w B p bs (k + m)) := by
  rcases h with ⟨h1, h2⟩ | ⟨h1, i, h2⟩
  · by_cases hk : k + m ≤ bs.length
    · exact (rtake_ok B p bs k m w h2 hm hk).mono fun e w' ⟨A, c, a, _, b, o⟩ => ⟨_, a, .inl ⟨hk, b⟩, o⟩
    · exact (rtake_short B p bs k m w h2 (by omega)).mono fun e w' ⟨a, b, o⟩ => ⟨_, a, .inr ⟨by omega, k, b⟩, o⟩
  · exact (rtake_bad B p bs i m w h2).mono fun e w' ⟨a, b, o⟩ => ⟨_, a, .inr ⟨by omega, i, b⟩, o⟩
set_option maxRecDepth 100000 in
theorem ru2_bad (B p : Nat) (bs : List Value) (i : Nat) (w : World) (h : RRd w B p bs i true) :
    Calls Try.prog 26 #[.pointer (some ⟨p, 0, none⟩), .int .i64 2] w fun e w' => e = .returned (.int .i64 0) ∧ RRd w' B p bs i true ∧ Only w w' [p] := by
  have C : Calls Try.prog 25 #[.pointer (some ⟨p, 0, none⟩), .int .i64 2] w (RFell w B p bs i) := rtake_bad B p bs i 2 w h
  clear h
  go_enter Try.func26, Try.ntmps26
  go_wp2_with (first | (go_at_call 25; ((refine C.mono ?_); rintro e w2 ⟨rfl, hr, o2⟩)))
  refine wp_loop_rounds 1 ?_
  rw [rounds_succ]
  go_wp2
  go_ret
  exact ⟨rfl, hr, o2⟩
theorem rr_u2 (B p : Nat) (bs : List Value) (k : Nat) (w : World) (h : RR w B p bs k) :
    Calls Try.prog 26 #[.pointer (some ⟨p, 0, none⟩), .int .i64 2] w (RReadS w B p bs (k + 2) (rsn bs 2 k (rd2 bs k) : Nat)) := by
  unfold rsn
  rcases h with ⟨h1, h2⟩ | ⟨h1, i, h2⟩
  · by_cases hk : k + 2 ≤ bs.length
    · rw [if_pos hk]
      exact (ru2_ok B p bs k w h2 hk).mono fun e w' ⟨a, b, o⟩ => ⟨a, .inl ⟨hk, b⟩, o⟩
    · rw [if_neg hk]
      exact (ru2_short B p bs k w h2 (by omega)).mono fun e w' ⟨a, b, o⟩ => ⟨a, .inr ⟨by omega, k, b⟩, o⟩
  · rw [if_neg (by omega)]
    exact (ru2_bad B p bs i w h2).mono fun e w' ⟨a, b, o⟩ => ⟨a, .inr ⟨by omega, i, b⟩, o⟩
set_option maxRecDepth 100000 in
theorem ru4_bad (B p : Nat) (bs : List Value) (i : Nat) (w : World) (h : RRd w B p bs i true) :
    Calls Try.prog 26 #[.pointer (some ⟨p, 0, none⟩), .int .i64 4] w fun e w' => e = .returned (.int .i64 0) ∧ RRd w' B p bs i true ∧ Only w w' [p] := by
  have C : Calls Try.prog 25 #[.pointer (some ⟨p, 0, none⟩), .int .i64 4] w (RFell w B p bs i) := rtake_bad B p bs i 4 w h
  clear h
  go_enter Try.func26, Try.ntmps26
  go_wp2_with (first | (go_at_call 25; ((refine C.mono ?_); rintro e w2 ⟨rfl, hr, o2⟩)))
  refine wp_loop_rounds 1 ?_
  rw [rounds_succ]
  go_wp2
  go_ret
  exact ⟨rfl, hr, o2⟩
theorem rr_u4 (B p : Nat) (bs : List Value) (k : Nat) (w : World) (h : RR w B p bs k) :
    Calls Try.prog 26 #[.pointer (some ⟨p, 0, none⟩), .int .i64 4] w (RReadS w B p bs (k + 4) (rsn bs 4 k (rd4 bs k) : Nat)) := by
  unfold rsn
  rcases h with ⟨h1, h2⟩ | ⟨h1, i, h2⟩
  · by_cases hk : k + 4 ≤ bs.length
    · rw [if_pos hk]
      exact (ru4_ok B p bs k w h2 hk).mono fun e w' ⟨a, b, o⟩ => ⟨a, .inl ⟨hk, b⟩, o⟩
    · rw [if_neg hk]
      exact (ru4_short B p bs k w h2 (by omega)).mono fun e w' ⟨a, b, o⟩ => ⟨a, .inr ⟨by omega, k, b⟩, o⟩
  · rw [if_neg (by omega)]
    exact (ru4_bad B p bs i w h2).mono fun e w' ⟨a, b, o⟩ => ⟨a, .inr ⟨by omega, i, b⟩, o⟩
set_option maxRecDepth 100000 in
theorem rr_i16 (B p : Nat) (bs : List Value) (k : Nat) (w : World) (h : RR w B p bs k) :
    Calls Try.prog 24 #[.pointer (some ⟨p, 0, none⟩)] w (RReadS w B p bs (k + 2) (s16 (rsn bs 2 k (rd2 bs k)))) := by
  have C := rr_u2 B p bs k w h
  have hlt : rsn bs 2 k (rd2 bs k) < 65536 := rsn_lt (rd2_lt h.bytes k)
  clear h
  generalize rsn bs 2 k (rd2 bs k) = x at *
  by_cases hx : x < 32768
  · have d : decide ((32768 : Int) ≤ (x : Int)) = false := by simp; omega
    have HX := Lib.hid hx
    clear hx hlt
    go_enter Try.func24, Try.ntmps24
    go_wp2_with (first | (go_at_call 26; ((with_reducible refine C.mono ?_); rintro e w2 ⟨rfl, hr, o2⟩)))
    go_ret
    exact ⟨ret_int (by unfold s16; rw [if_pos HX.out]), hr, o2⟩
  · have d : decide ((32768 : Int) ≤ (x : Int)) = true := by simp; omega
    have hb1 : (x : Int) ≤ 65535 := by omega
    have hb2 : (0 : Int) ≤ (x : Int) := by omega
    have HX := Lib.hid hx
    clear hx hlt
    go_enter Try.func24, Try.ntmps24
    go_wp2_with (first | (go_at_call 26; ((with_reducible refine C.mono ?_); rintro e w2 ⟨rfl, hr, o2⟩)))
    go_ret
    exact ⟨ret_int (by unfold s16; rw [if_neg HX.out]), hr, o2⟩
/-- The same, as the code reads them. -/
theorem rr_k1 (B p : Nat) (bs : List Value) (k : Nat) (w : World) (h : RR w B p bs k) : Calls Try.prog 26 #[.pointer (some ⟨p, 0, none⟩), .int .i64 2] w (RReadS w B p bs (k + 2) (rdk bs 1 k)) := rr_u2 B p bs k w h
theorem rr_k2 (B p : Nat) (bs : List Value) (k : Nat) (w : World) (h : RR w B p bs k) : Calls Try.prog 24 #[.pointer (some ⟨p, 0, none⟩)] w (RReadS w B p bs (k + 2) (rdk bs 2 k)) := rr_i16 B p bs k w h
theorem rr_k3 (B p : Nat) (bs : List Value) (k : Nat) (w : World) (h : RR w B p bs k) : Calls Try.prog 26 #[.pointer (some ⟨p, 0, none⟩), .int .i64 4] w (RReadS w B p bs (k + 4) (rdk bs 3 k)) := rr_u4 B p bs k w h
theorem RR.flag {w : World} {B p k : Nat} {bs : List Value} (h : RR w B p bs k) : w.cell? ⟨p, 2, none⟩ = some (.bool (decide (bs.length < k))) := by
  rcases h with ⟨h1, _, _, hb, _⟩ | ⟨h1, _, _, _, hb, _⟩
  · rw [decide_eq_false (by omega)]; exact hb.cell 2
  · rw [decide_eq_true h1]; exact hb.cell 2

end Go.Proofs.Ytelhckckcilpaaa

namespace Go.Proofs.Ytelhckckcilpaaa
open Go Go.RowKit
set_option linter.unusedVariables false
set_option linter.unusedSimpArgs false

/-- The number of n bytes at k. -/
def rdn (bs : List Value) : Nat → Nat → Nat
  | 0, _ => 0
  | n + 1, k => rdn bs n k * 256 + byteAt bs (k + n)
theorem rdn_lt {bs : List Value} (h : Bytes8 bs) : ∀ n k, n ≤ 4 → rdn bs n k < 4294967296
  | 0, k, _ => by simp [rdn]
  | 1, k, _ => by have := byteAt_lt h (k + 0); simp only [rdn]; omega
  | 2, k, _ => by have := byteAt_lt h (k + 0); have := byteAt_lt h (k + 1); simp only [rdn]; omega
  | 3, k, _ => by have := byteAt_lt h (k + 0); have := byteAt_lt h (k + 1); have := byteAt_lt h (k + 2); simp only [rdn]; omega
  | 4, k, _ => by have := byteAt_lt h (k + 0); have := byteAt_lt h (k + 1); have := byteAt_lt h (k + 2); have := byteAt_lt h (k + 3); simp only [rdn]; omega
theorem rdn_two (bs : List Value) (k : Nat) : rdn bs 2 k = rd2 bs k := by simp [rdn, rd2]
theorem rdn_one (bs : List Value) (k : Nat) : rdn bs 1 k = byteAt bs k := by simp [rdn]
set_option maxRecDepth 100000 in
set_option maxHeartbeats 1000000 in
theorem run_ok (B p : Nat) (bs : List Value) (i m : Nat) (w : World) (h : RRd w B p bs i false) (hm : 1 ≤ m) (hm4 : m ≤ 4) (him : i + m ≤ bs.length) :
    Calls Try.prog 26 #[.pointer (some ⟨p, 0, none⟩), .int .i64 (m : Nat)] w (RRead w B p bs (i + m) (rdn bs m i : Nat)) := by
  have C := rtake_ok B p bs i m w h hm him
  have h8 : Bytes8 bs := by obtain ⟨_, _, _, _, h8, _⟩ := h; exact h8
  have HB := Lib.hid (fun j => rdn_lt h8 j i)
  have HG : Hid (∀ j, j < m → ((bs.drop i).take m)[j]? = some (.int .u8 ((byteAt bs (i + j) : Nat) : Int)) ∧ byteAt bs (i + j) < 256) := Lib.hid fun j hj => ⟨by
    rw [List.getElem?_take, List.getElem?_drop, if_pos hj]
    exact byteAt_get h8 (by omega), byteAt_lt h8 _⟩
  have HM := Lib.hid hm
  clear h h8
  go_enter Try.func26, Try.ntmps26
  go_wp2_with (first | (go_at_call 25; ((refine C.mono ?_); rintro e w2 ⟨A2, k2, rfl, ll, hr, o2⟩)))
  obtain ⟨b, o, rfl, hb, hc⟩ := ll.plain (by intro e; have := (HG.out 0 HM.out).1; rw [e] at this; simp at this)
  have HC := Lib.hid hc
  clear hc ll C
  go_loopw [5, 7] (fun xv iv wr => ∃ j : Nat, j ≤ m ∧ iv = .int .i64 (j : Nat) ∧ xv = .int .i64 (rdn bs j i : Nat) ∧ wr = w2) (fun _ iv _ => m - (intOf iv).toNat)
  case atStart => exact ⟨0, Nat.zero_le _, rfl, rfl, rfl⟩
  case round =>
    obtain ⟨j, hj, rfl, rfl, rfl⟩ := hrel
    by_cases hlt : j < m
    · have d1 : decide ((j : Int) < (m : Int)) = true := by simp; omega
      have hg := HG.out j hlt
      have g0 := HC.out j _ hg.1
      have hx := hg.2
      have ha := HB.out j (by omega)
      have ha1 := HB.out (j + 1) (by omega)
      have HX := Lib.hid (show rdn bs (j + 1) i = rdn bs j i * 256 + byteAt bs (i + j) by rfl)
      rw [HX.out] at ha1
      generalize byteAt bs (i + j) = x at *
      generalize rdn bs j i = a at *
      have HA := Lib.hid ha
      clear hg ha
      go_wp2
      go_roundw
      case rel => exact ⟨j + 1, by omega, by go_num, by rw [HX.out]; go_num, by first | rfl | trivial⟩
      case measure => simp [intOf]; omega
    · obtain rfl : j = m := by omega
      have d1 : decide ((j : Int) < (j : Int)) = false := by simp
      go_wp2
      go_ret
      exact ⟨rfl, hr, o2⟩
set_option maxRecDepth 100000 in
theorem run_short (B p : Nat) (bs : List Value) (i m : Nat) (w : World) (h : RRd w B p bs i false) (him : bs.length - i < m) :
    Calls Try.prog 26 #[.pointer (some ⟨p, 0, none⟩), .int .i64 (m : Nat)] w fun e w' => e = .returned (.int .i64 0) ∧ RRd w' B p bs i true ∧ Only w w' [p] := by
  have C := rtake_short B p bs i m w h him
  clear h him
  go_enter Try.func26, Try.ntmps26
  go_wp2_with (first | (go_at_call 25; ((refine C.mono ?_); rintro e w2 ⟨rfl, hr, o2⟩)))
  refine wp_loop_rounds 1 ?_
  rw [rounds_succ]
  go_wp2
  go_ret
  exact ⟨rfl, hr, o2⟩
set_option maxRecDepth 100000 in
theorem run_bad (B p : Nat) (bs : List Value) (i m : Nat) (w : World) (h : RRd w B p bs i true) :
    Calls Try.prog 26 #[.pointer (some ⟨p, 0, none⟩), .int .i64 (m : Nat)] w fun e w' => e = .returned (.int .i64 0) ∧ RRd w' B p bs i true ∧ Only w w' [p] := by
  have C := rtake_bad B p bs i m w h
  clear h
  go_enter Try.func26, Try.ntmps26
  go_wp2_with (first | (go_at_call 25; ((refine C.mono ?_); rintro e w2 ⟨rfl, hr, o2⟩)))
  refine wp_loop_rounds 1 ?_
  rw [rounds_succ]
  go_wp2
  go_ret
  exact ⟨rfl, hr, o2⟩
theorem rr_un (B p : Nat) (bs : List Value) (k m : Nat) (w : World) (h : RR w B p bs k) (hm : 1 ≤ m) (hm4 : m ≤ 4) :
    Calls Try.prog 26 #[.pointer (some ⟨p, 0, none⟩), .int .i64 (m : Nat)] w (RReadS w B p bs (k + m) (rsn bs m k (rdn bs m k) : Nat)) := by
  unfold rsn
  rcases h with ⟨h1, h2⟩ | ⟨h1, i, h2⟩
  · by_cases hk : k + m ≤ bs.length
    · rw [if_pos hk]
      exact (run_ok B p bs k m w h2 hm hm4 hk).mono fun e w' ⟨a, b, o⟩ => ⟨a, .inl ⟨hk, b⟩, o⟩
    · rw [if_neg hk]
      exact (run_short B p bs k m w h2 (by omega)).mono fun e w' ⟨a, b, o⟩ => ⟨a, .inr ⟨by omega, k, b⟩, o⟩
  · rw [if_neg (by omega)]
    exact (run_bad B p bs i m w h2).mono fun e w' ⟨a, b, o⟩ => ⟨a, .inr ⟨by omega, i, b⟩, o⟩
end Go.Proofs.Ytelhckckcilpaaa

namespace Go.Proofs.Ytelhckckcilpaaa
open Go Go.RowKit
set_option linter.unusedVariables false
set_option linter.unusedSimpArgs false

set_option maxRecDepth 100000 in
set_option maxHeartbeats 2000000 in
theorem rtz_end (B p : Nat) (bs : List Value) (i c : Nat) (A : Option Addr) (w : World) (hb : Blk w p 51 #[.slice A bs.length c, .int .i64 (i : Nat), .bool false]) (hl : Lists w B A bs) (h8 : Bytes8 bs) (h1 : i ≤ bs.length) (h2 : bs.length ≤ c) (h3 : c ≤ 9223372036854775807) (h4 : bs.length ≤ 140737488355328) (h5 : B ≤ p) (hci : i = c) :
    Calls Try.prog 25 #[.pointer (some ⟨p, 0, none⟩), .int .i64 0] w fun e w' => ∃ v, e = .returned v ∧ RRd w' B p bs i false ∧ Only w w' [p] := by
  subst hci
  have hp := hb.lt
  have HL := Lib.hid hl
  have H8 := Lib.hid h8
  clear hl h8
  obtain ⟨n, hnn⟩ : ∃ n, n = bs.length := ⟨_, rfl⟩
  rw [← hnn] at hb h1 h2 h4
  have HB := Lib.hid hnn
  clear hnn
  have F0 := hb.kb; simp only [KB, CellsAt, Nat.zero_add, Nat.reduceAdd, and_true] at F0
  have s0 : IntKind.i64.wrap ((n : Int) - (i : Int)) = (n : Int) - (i : Int) := IntWalk.i64_in _ (by omega)
  have e3 : decide ((n : Int) - (i : Int) < 0) = false := by simp; omega
  have e3' : ¬ (n : Int) - (i : Int) < 0 := by omega
  have e4 : (0 : Int) ≤ (i : Int) := by omega
  have e5 : (i : Int) ≤ (i : Int) := by omega
  have s2 : ((i : Int)).toNat = i := by omega
  have e9 : i - i = 0 := by omega
  have s1 : IntKind.i64.wrap (i : Int) = (i : Int) := IntWalk.i64_in _ (by omega)
  obtain ⟨i0, hi, hz0, hz1, hz2⟩ := info_parts u8Info
  go_enter Try.func25, Try.ntmps25
  go_wp2
  have hI : Below w.heap.size w w.drew := (Below.refl _ _).drew
  refine wp_region_chain (fun V => Below w.heap.size w V) [(0, false), (1, false), (2, false), (3, false), (4, false), (5, false), (6, false), (7, false), (8, false), (9, false), (10, false), (11, false), (12, false), (13, false), (14, false), (15, false), (16, false), (17, false), (18, false), (19, false), (20, false), (21, false)] (by kernel_rfl) (by kernel_rfl) hI ?_
  repeat (first
    | (refine ChainL.skip (o := ?_) ?_ ?_ ?_; rotate_left; (focus (first | (simp only [List.getElem?_toArray, List.getElem?_cons_succ, List.getElem?_cons_zero]; with_reducible rfl) | (simp only [List.getElem?_toArray, List.getElem?_cons_zero]; with_reducible rfl))); (focus rfl); simp only [Act.put, List.setIfInBounds_toArray, List.set_cons_zero, List.set_cons_succ])
    | (refine ChainL.val (o := ?_) (v := ?_) ?_ ?_ ?_ ?_ ?_; rotate_left 2; (focus (first | (simp only [List.getElem?_toArray, List.getElem?_cons_succ, List.getElem?_cons_zero]; with_reducible rfl) | (simp only [List.getElem?_toArray, List.getElem?_cons_zero]; with_reducible rfl))); (focus (intro _ _ h; cases h)); (focus rfl); (focus (intro w' hJ; have F := (hb.below hJ).kb; simp only [KB, CellsAt, Nat.zero_add, Nat.reduceAdd, and_true] at F; obtain ⟨_, _, y1, y2, y3⟩ := F; go_simp <;> with_reducible rfl)); simp only [Act.put, List.setIfInBounds_toArray, List.set_cons_zero, List.set_cons_succ]))
  refine ChainL.nil ?_
  go_wp2
  have hb1 := hb.below hI
  clear F0
  generalize w.drew = w1 at *
  have hI2 : Below w.heap.size w w1.drew := hI.drew
  refine wp_region_chain (fun V => Below w.heap.size w V) [(0, false), (1, false), (2, false), (3, false), (4, false), (5, false), (6, false), (7, false), (8, false), (9, false), (10, false), (11, false), (12, false), (13, false), (14, false), (15, false)] (by kernel_rfl) (by kernel_rfl) hI2 ?_
  repeat (first
    | (refine ChainL.skip (o := ?_) ?_ ?_ ?_; rotate_left; (focus (first | (simp only [List.getElem?_toArray, List.getElem?_cons_succ, List.getElem?_cons_zero]; with_reducible rfl) | (simp only [List.getElem?_toArray, List.getElem?_cons_zero]; with_reducible rfl))); (focus rfl); simp only [Act.put, List.setIfInBounds_toArray, List.set_cons_zero, List.set_cons_succ])
    | (refine ChainL.val (o := ?_) (v := ?_) ?_ ?_ ?_ ?_ ?_; rotate_left 2; (focus (first | (simp only [List.getElem?_toArray, List.getElem?_cons_succ, List.getElem?_cons_zero]; with_reducible rfl) | (simp only [List.getElem?_toArray, List.getElem?_cons_zero]; with_reducible rfl))); (focus (intro _ _ h; cases h)); (focus rfl); (focus (intro w' hJ; have F := (hb.below hJ).kb; simp only [KB, CellsAt, Nat.zero_add, Nat.reduceAdd, and_true] at F; obtain ⟨_, _, y1, y2, y3⟩ := F; go_simp <;> with_reducible rfl)); simp only [Act.put, List.setIfInBounds_toArray, List.set_cons_zero, List.set_cons_succ]))
  refine ChainL.nil ?_
  have hb2 := hb.below hI2
  have O2 : Only w (w1.drew.setCell ⟨p, 1, none⟩ (.int .i64 (i : Nat))) [p] := (Only.of_below hI2 [p]).set (.inl (by simp)) _
  have hb3 := hb2.set 1 (.int .i64 (i : Nat))
  have F := hb2.kb; simp only [KB, CellsAt, Nat.zero_add, Nat.reduceAdd, and_true] at F
  generalize w1.drew = w2 at *
  have HB3 := Lib.hid hb3
  have HO2 := Lib.hid O2
  clear hb3 O2 hb hb1 hb2 hI
  go_wp2_with (first | (at_builtin; refine wpList_append_src_wide _ rfl (.tmp 55) (.tmp 56) 22 rfl w2.heap.size 5 i0 (.int .u8 0) 1 1 Try.underlying22 hi hz0 hz1 hz2 rfl (by decide) (.slice (some ⟨w2.heap.size, 0, none⟩) 0 0) 0 [] rfl (own_new_at _ _ (by simp)) 0 A 0 _ [] rfl (⟨fun _ => rfl, fun _ _ j u hu => by simp at hu, fun _ _ hx => absurd rfl hx⟩) (by simp) (fun u hu => (nomatch hu)) (by simp only [maxLen]; omega) (by omega) (by simp) ?_; intro v4 w4 own4 hg4; rw [Nat.zero_add, List.nil_append] at own4))
  go_ret
  have b4 := ((Below.refl _ _).alloc (Nat.le_refl _) _).grown hg4 (by simp) (fun b hb => by simp [Value.ownBlock] at hb; subst hb; simp)
  have O4 := HO2.out.then_below b4
  exact ⟨_, rfl, ⟨_, i, by rw [← HB.out]; exact HB3.out.below b4, HL.out.below (O4.to_below (by omega) (by simpa using h5)), H8.out, by rw [← HB.out]; exact h1, by rw [← HB.out]; exact h2, h3, by rw [← HB.out]; exact h4, h5⟩, O4⟩
set_option maxRecDepth 100000 in
set_option maxHeartbeats 2000000 in
theorem rtz_none (B p : Nat) (bs : List Value) (i c : Nat) (w : World) (hb : Blk w p 51 #[.slice none bs.length c, .int .i64 (i : Nat), .bool false]) (hl : Lists w B none bs) (h8 : Bytes8 bs) (h1 : i ≤ bs.length) (h2 : bs.length ≤ c) (h3 : c ≤ 9223372036854775807) (h4 : bs.length ≤ 140737488355328) (h5 : B ≤ p) (hci : ¬ c = i) :
    Calls Try.prog 25 #[.pointer (some ⟨p, 0, none⟩), .int .i64 0] w fun e w' => ∃ v, e = .returned v ∧ RRd w' B p bs i false ∧ Only w w' [p] := by
  have hp := hb.lt
  have HL := Lib.hid hl
  have H8 := Lib.hid h8
  clear hl h8
  obtain ⟨n, hnn⟩ : ∃ n, n = bs.length := ⟨_, rfl⟩
  rw [← hnn] at hb h1 h2 h4
  have HB := Lib.hid hnn
  clear hnn
  have F0 := hb.kb; simp only [KB, CellsAt, Nat.zero_add, Nat.reduceAdd, and_true] at F0
  have s0 : IntKind.i64.wrap ((n : Int) - (i : Int)) = (n : Int) - (i : Int) := IntWalk.i64_in _ (by omega)
  have e3 : decide ((n : Int) - (i : Int) < 0) = false := by simp; omega
  have e3' : ¬ (n : Int) - (i : Int) < 0 := by omega
  have e4 : (0 : Int) ≤ (i : Int) := by omega
  have e5 : (i : Int) ≤ (c : Int) := by omega
  have s2 : ((i : Int)).toNat = i := by omega
  have e9 : i - i = 0 := by omega
  have s1 : IntKind.i64.wrap (i : Int) = (i : Int) := IntWalk.i64_in _ (by omega)
  obtain ⟨i0, hi, hz0, hz1, hz2⟩ := info_parts u8Info
  go_enter Try.func25, Try.ntmps25
  go_wp2
  have hI : Below w.heap.size w w.drew := (Below.refl _ _).drew
  refine wp_region_chain (fun V => Below w.heap.size w V) [(0, false), (1, false), (2, false), (3, false), (4, false), (5, false), (6, false), (7, false), (8, false), (9, false), (10, false), (11, false), (12, false), (13, false), (14, false), (15, false), (16, false), (17, false), (18, false), (19, false), (20, false), (21, false)] (by kernel_rfl) (by kernel_rfl) hI ?_
  repeat (first
    | (refine ChainL.skip (o := ?_) ?_ ?_ ?_; rotate_left; (focus (first | (simp only [List.getElem?_toArray, List.getElem?_cons_succ, List.getElem?_cons_zero]; with_reducible rfl) | (simp only [List.getElem?_toArray, List.getElem?_cons_zero]; with_reducible rfl))); (focus rfl); simp only [Act.put, List.setIfInBounds_toArray, List.set_cons_zero, List.set_cons_succ])
    | (refine ChainL.val (o := ?_) (v := ?_) ?_ ?_ ?_ ?_ ?_; rotate_left 2; (focus (first | (simp only [List.getElem?_toArray, List.getElem?_cons_succ, List.getElem?_cons_zero]; with_reducible rfl) | (simp only [List.getElem?_toArray, List.getElem?_cons_zero]; with_reducible rfl))); (focus (intro _ _ h; cases h)); (focus rfl); (focus (intro w' hJ; have F := (hb.below hJ).kb; simp only [KB, CellsAt, Nat.zero_add, Nat.reduceAdd, and_true] at F; obtain ⟨_, _, y1, y2, y3⟩ := F; go_simp <;> with_reducible rfl)); simp only [Act.put, List.setIfInBounds_toArray, List.set_cons_zero, List.set_cons_succ]))
  refine ChainL.nil ?_
  go_wp2
  have hb1 := hb.below hI
  clear F0
  generalize w.drew = w1 at *
  have hI2 : Below w.heap.size w w1.drew := hI.drew
  refine wp_region_chain (fun V => Below w.heap.size w V) [(0, false), (1, false), (2, false), (3, false), (4, false), (5, false), (6, false), (7, false), (8, false), (9, false), (10, false), (11, false), (12, false), (13, false), (14, false), (15, false)] (by kernel_rfl) (by kernel_rfl) hI2 ?_
  repeat (first
    | (refine ChainL.skip (o := ?_) ?_ ?_ ?_; rotate_left; (focus (first | (simp only [List.getElem?_toArray, List.getElem?_cons_succ, List.getElem?_cons_zero]; with_reducible rfl) | (simp only [List.getElem?_toArray, List.getElem?_cons_zero]; with_reducible rfl))); (focus rfl); simp only [Act.put, List.setIfInBounds_toArray, List.set_cons_zero, List.set_cons_succ])
    | (refine ChainL.val (o := ?_) (v := ?_) ?_ ?_ ?_ ?_ ?_; rotate_left 2; (focus (first | (simp only [List.getElem?_toArray, List.getElem?_cons_succ, List.getElem?_cons_zero]; with_reducible rfl) | (simp only [List.getElem?_toArray, List.getElem?_cons_zero]; with_reducible rfl))); (focus (intro _ _ h; cases h)); (focus rfl); (focus (intro w' hJ; have F := (hb.below hJ).kb; simp only [KB, CellsAt, Nat.zero_add, Nat.reduceAdd, and_true] at F; obtain ⟨_, _, y1, y2, y3⟩ := F; go_simp <;> with_reducible rfl)); simp only [Act.put, List.setIfInBounds_toArray, List.set_cons_zero, List.set_cons_succ]))
  refine ChainL.nil ?_
  have hb2 := hb.below hI2
  have O2 : Only w (w1.drew.setCell ⟨p, 1, none⟩ (.int .i64 (i : Nat))) [p] := (Only.of_below hI2 [p]).set (.inl (by simp)) _
  have hb3 := hb2.set 1 (.int .i64 (i : Nat))
  have F := hb2.kb; simp only [KB, CellsAt, Nat.zero_add, Nat.reduceAdd, and_true] at F
  generalize w1.drew = w2 at *
  have HB3 := Lib.hid hb3
  have HO2 := Lib.hid O2
  clear hb3 O2 hb hb1 hb2 hI
  go_wp2_with (first | (at_builtin; refine wpList_append_src_wide _ rfl (.tmp 55) (.tmp 56) 22 rfl w2.heap.size 5 i0 (.int .u8 0) 1 1 Try.underlying22 hi hz0 hz1 hz2 rfl (by decide) (.slice (some ⟨w2.heap.size, 0, none⟩) 0 0) 0 [] rfl (own_new_at _ _ (by simp)) 0 none 0 _ [] rfl (⟨fun _ => rfl, fun _ _ j u hu => by simp at hu, fun _ _ hx => absurd rfl hx⟩) (by simp) (fun u hu => (nomatch hu)) (by simp only [maxLen]; omega) (by omega) (by simp) ?_; intro v4 w4 own4 hg4; rw [Nat.zero_add, List.nil_append] at own4))
  go_ret
  have b4 := ((Below.refl _ _).alloc (Nat.le_refl _) _).grown hg4 (by simp) (fun b hb => by simp [Value.ownBlock] at hb; subst hb; simp)
  have O4 := HO2.out.then_below b4
  exact ⟨_, rfl, ⟨_, c, by rw [← HB.out]; exact HB3.out.below b4, HL.out.below (O4.to_below (by omega) (by simpa using h5)), H8.out, by rw [← HB.out]; exact h1, by rw [← HB.out]; exact h2, h3, by rw [← HB.out]; exact h4, h5⟩, O4⟩
set_option maxRecDepth 100000 in
set_option maxHeartbeats 2000000 in
theorem rtz_some (B p : Nat) (bs : List Value) (i c : Nat) (a : Addr) (w : World) (hb : Blk w p 51 #[.slice (some a) bs.length c, .int .i64 (i : Nat), .bool false]) (hl : Lists w B (some a) bs) (h8 : Bytes8 bs) (h1 : i ≤ bs.length) (h2 : bs.length ≤ c) (h3 : c ≤ 9223372036854775807) (h4 : bs.length ≤ 140737488355328) (h5 : B ≤ p) (hci : ¬ c = i) :
    Calls Try.prog 25 #[.pointer (some ⟨p, 0, none⟩), .int .i64 0] w fun e w' => ∃ v, e = .returned v ∧ RRd w' B p bs i false ∧ Only w w' [p] := by
  have hp := hb.lt
  have HL := Lib.hid hl
  have H8 := Lib.hid h8
  clear hl h8
  obtain ⟨n, hnn⟩ : ∃ n, n = bs.length := ⟨_, rfl⟩
  rw [← hnn] at hb h1 h2 h4
  have HB := Lib.hid hnn
  clear hnn
  have F0 := hb.kb; simp only [KB, CellsAt, Nat.zero_add, Nat.reduceAdd, and_true] at F0
  have s0 : IntKind.i64.wrap ((n : Int) - (i : Int)) = (n : Int) - (i : Int) := IntWalk.i64_in _ (by omega)
  have e3 : decide ((n : Int) - (i : Int) < 0) = false := by simp; omega
  have e3' : ¬ (n : Int) - (i : Int) < 0 := by omega
  have e4 : (0 : Int) ≤ (i : Int) := by omega
  have e5 : (i : Int) ≤ (c : Int) := by omega
  have s2 : ((i : Int)).toNat = i := by omega
  have e9 : i - i = 0 := by omega
  have s1 : IntKind.i64.wrap (i : Int) = (i : Int) := IntWalk.i64_in _ (by omega)
  obtain ⟨i0, hi, hz0, hz1, hz2⟩ := info_parts u8Info
  go_enter Try.func25, Try.ntmps25
  go_wp2
  have hI : Below w.heap.size w w.drew := (Below.refl _ _).drew
  refine wp_region_chain (fun V => Below w.heap.size w V) [(0, false), (1, false), (2, false), (3, false), (4, false), (5, false), (6, false), (7, false), (8, false), (9, false), (10, false), (11, false), (12, false), (13, false), (14, false), (15, false), (16, false), (17, false), (18, false), (19, false), (20, false), (21, false)] (by kernel_rfl) (by kernel_rfl) hI ?_
  repeat (first
    | (refine ChainL.skip (o := ?_) ?_ ?_ ?_; rotate_left; (focus (first | (simp only [List.getElem?_toArray, List.getElem?_cons_succ, List.getElem?_cons_zero]; with_reducible rfl) | (simp only [List.getElem?_toArray, List.getElem?_cons_zero]; with_reducible rfl))); (focus rfl); simp only [Act.put, List.setIfInBounds_toArray, List.set_cons_zero, List.set_cons_succ])
    | (refine ChainL.val (o := ?_) (v := ?_) ?_ ?_ ?_ ?_ ?_; rotate_left 2; (focus (first | (simp only [List.getElem?_toArray, List.getElem?_cons_succ, List.getElem?_cons_zero]; with_reducible rfl) | (simp only [List.getElem?_toArray, List.getElem?_cons_zero]; with_reducible rfl))); (focus (intro _ _ h; cases h)); (focus rfl); (focus (intro w' hJ; have F := (hb.below hJ).kb; simp only [KB, CellsAt, Nat.zero_add, Nat.reduceAdd, and_true] at F; obtain ⟨_, _, y1, y2, y3⟩ := F; go_simp <;> with_reducible rfl)); simp only [Act.put, List.setIfInBounds_toArray, List.set_cons_zero, List.set_cons_succ]))
  refine ChainL.nil ?_
  go_wp2
  have hb1 := hb.below hI
  clear F0
  generalize w.drew = w1 at *
  have hI2 : Below w.heap.size w w1.drew := hI.drew
  refine wp_region_chain (fun V => Below w.heap.size w V) [(0, false), (1, false), (2, false), (3, false), (4, false), (5, false), (6, false), (7, false), (8, false), (9, false), (10, false), (11, false), (12, false), (13, false), (14, false), (15, false)] (by kernel_rfl) (by kernel_rfl) hI2 ?_
  repeat (first
    | (refine ChainL.skip (o := ?_) ?_ ?_ ?_; rotate_left; (focus (first | (simp only [List.getElem?_toArray, List.getElem?_cons_succ, List.getElem?_cons_zero]; with_reducible rfl) | (simp only [List.getElem?_toArray, List.getElem?_cons_zero]; with_reducible rfl))); (focus rfl); simp only [Act.put, List.setIfInBounds_toArray, List.set_cons_zero, List.set_cons_succ])
    | (refine ChainL.val (o := ?_) (v := ?_) ?_ ?_ ?_ ?_ ?_; rotate_left 2; (focus (first | (simp only [List.getElem?_toArray, List.getElem?_cons_succ, List.getElem?_cons_zero]; with_reducible rfl) | (simp only [List.getElem?_toArray, List.getElem?_cons_zero]; with_reducible rfl))); (focus (intro _ _ h; cases h)); (focus rfl); (focus (intro w' hJ; have F := (hb.below hJ).kb; simp only [KB, CellsAt, Nat.zero_add, Nat.reduceAdd, and_true] at F; obtain ⟨_, _, y1, y2, y3⟩ := F; go_simp <;> with_reducible rfl)); simp only [Act.put, List.setIfInBounds_toArray, List.set_cons_zero, List.set_cons_succ]))
  refine ChainL.nil ?_
  have hb2 := hb.below hI2
  have O2 : Only w (w1.drew.setCell ⟨p, 1, none⟩ (.int .i64 (i : Nat))) [p] := (Only.of_below hI2 [p]).set (.inl (by simp)) _
  have hb3 := hb2.set 1 (.int .i64 (i : Nat))
  have F := hb2.kb; simp only [KB, CellsAt, Nat.zero_add, Nat.reduceAdd, and_true] at F
  generalize w1.drew = w2 at *
  have HB3 := Lib.hid hb3
  have HO2 := Lib.hid O2
  clear hb3 O2 hb hb1 hb2 hI
  go_wp2_with (first | (at_builtin; refine wpList_append_src_wide _ rfl (.tmp 55) (.tmp 56) 22 rfl w2.heap.size 5 i0 (.int .u8 0) 1 1 Try.underlying22 hi hz0 hz1 hz2 rfl (by decide) (.slice (some ⟨w2.heap.size, 0, none⟩) 0 0) 0 [] rfl (own_new_at _ _ (by simp)) 0 (some (a.add i)) 0 _ [] rfl (⟨fun _ => rfl, fun _ _ j u hu => by simp at hu, fun _ _ hx => absurd rfl hx⟩) (by simp) (fun u hu => (nomatch hu)) (by simp only [maxLen]; omega) (by omega) (by simp) ?_; intro v4 w4 own4 hg4; rw [Nat.zero_add, List.nil_append] at own4))
  go_ret
  have b4 := ((Below.refl _ _).alloc (Nat.le_refl _) _).grown hg4 (by simp) (fun b hb => by simp [Value.ownBlock] at hb; subst hb; simp)
  have O4 := HO2.out.then_below b4
  exact ⟨_, rfl, ⟨_, c, by rw [← HB.out]; exact HB3.out.below b4, HL.out.below (O4.to_below (by omega) (by simpa using h5)), H8.out, by rw [← HB.out]; exact h1, by rw [← HB.out]; exact h2, h3, by rw [← HB.out]; exact h4, h5⟩, O4⟩
theorem rtake_zero (B p : Nat) (bs : List Value) (i : Nat) (w : World) (h : RRd w B p bs i false) :
    Calls Try.prog 25 #[.pointer (some ⟨p, 0, none⟩), .int .i64 0] w fun e w' => ∃ v, e = .returned v ∧ RRd w' B p bs i false ∧ Only w w' [p] := by
  obtain ⟨A, c, hb, hl, h8, h1, h2, h3, h4, h5⟩ := h
  by_cases hci : i = c
  · exact rtz_end B p bs i c A w hb hl h8 h1 h2 h3 h4 h5 hci
  · cases A with
    | none => exact rtz_none B p bs i c w hb hl h8 h1 h2 h3 h4 h5 (fun e => hci e.symm)
    | some a => exact rtz_some B p bs i c a w hb hl h8 h1 h2 h3 h4 h5 (fun e => hci e.symm)
theorem rr_take0 (B p : Nat) (bs : List Value) (k m : Nat) (w : World) (h : RR w B p bs k) :
    Calls Try.prog 25 #[.pointer (some ⟨p, 0, none⟩), .int .i64 (m : Nat)] w (RTookS w B p bs (k + m)) := by
  rcases Nat.eq_zero_or_pos m with rfl | hm
  · rcases h with ⟨h1, h2⟩ | ⟨h1, i, h2⟩
    · exact (rtake_zero B p bs k w h2).mono fun e w' ⟨v, a, b, o⟩ => ⟨v, a, .inl ⟨h1, b⟩, o⟩
    · exact (rtake_bad B p bs i 0 w h2).mono fun e w' ⟨a, b, o⟩ => ⟨_, a, .inr ⟨h1, i, b⟩, o⟩
  · exact rr_take B p bs k m w h hm
set_option maxRecDepth 100000 in
theorem rkind_any (A : Option Addr) (c n : Nat) (E : List Value) (w : World) (hE : Lists w w.heap.size A E) (hn : E.length = n) (h8 : Bytes8 E) (hc : n ≤ c) (hc2 : c ≤ 9223372036854775807) (hm : n ≤ 140737488355328) :
    Calls Try.prog 12 #[.slice A n c] w fun e w' => e = .returned (.int .i64 (knE E)) ∧ Below w.heap.size w w' := by
  by_cases h0 : n = 0
  · subst h0
    have hE0 : E = [] := List.eq_nil_of_length_eq_zero hn
    have HR := Lib.hid (show knE E = 0 by unfold knE; rw [if_pos hE0])
    go_enter Try.func12, Try.ntmps12
    go_wp2
    go_ret
    exact ⟨by rw [HR.out]; rfl, Below.refl _ _⟩
  · have hne : E ≠ [] := by intro e; rw [e] at hn; simp at hn; omega
    have d0 : ((n : Int) == 0) = false := by simp; omega
    have hk : knE E = if ib2 (E.take 2) 0 < 0 then 2 else 1 := by unfold knE; rw [if_neg hne]
    by_cases h1 : n = 1
    · have HR := Lib.hid (show knE E = 1 by
        rw [hk, if_neg]
        have : ib2 (E.take 2) 0 = 0 := by unfold ib2; rw [ub2_short _ _ (by rw [List.length_take]; omega)]; rfl
        rw [this]; omega)
      subst h1
      go_enter Try.func12, Try.ntmps12
      go_wp2
      go_ret
      exact ⟨by rw [HR.out]; rfl, Below.refl _ _⟩
    · have hg := byteAt_get h8 (i := 0) (by omega)
      have hlt := byteAt_lt h8 0
      obtain ⟨b, o, rfl, hb, hcl⟩ := hE.plain hne
      have g0 := hcl 0 _ hg
      rw [Nat.add_zero] at g0
      have hu : ib2 (E.take 2) 0 = s16 (byteAt E 0 * 256 + byteAt E 1) := by
        rw [ib2_take E 2 0 (by omega)]
        unfold ib2 ub2 rsn rd2
        rw [if_pos (by omega)]
      have hlt1 := byteAt_lt h8 1
      have hkk : knE E = if 128 ≤ byteAt E 0 then 2 else 1 := by
        have hs : s16 (byteAt E 0 * 256 + byteAt E 1) < 0 ↔ 128 ≤ byteAt E 0 := by unfold s16; split <;> omega
        rw [hk, hu]
        by_cases hx : 128 ≤ byteAt E 0
        · rw [if_pos (hs.2 hx), if_pos hx]
        · rw [if_neg (fun h => hx (hs.1 h)), if_neg hx]
      have d1 : decide (1 < (n : Int)) = true := by simp; omega
      clear hu hlt1 hk hg hcl hE
      generalize byteAt E 0 = x at *
      by_cases hx : 128 ≤ x
      · rw [if_pos hx] at hkk
        have HR := Lib.hid hkk
        have d2 : decide ((128 : Int) ≤ (x : Int)) = true := by simp; omega
        go_enter Try.func12, Try.ntmps12
        go_wp2
        go_ret
        exact ⟨by rw [HR.out]; rfl, Below.refl _ _⟩
      · rw [if_neg hx] at hkk
        have HR := Lib.hid hkk
        have d2 : decide ((128 : Int) ≤ (x : Int)) = false := by simp; omega
        go_enter Try.func12, Try.ntmps12
        go_wp2
        go_ret
        exact ⟨by rw [HR.out]; rfl, Below.refl _ _⟩
end Go.Proofs.Ytelhckckcilpaaa
