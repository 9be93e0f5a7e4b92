/- Whatever is written, into any room: the walk. -/
import Derived.Test.YtdbnjlmkbmfhkaaWrite
import Derived.Test.YtdbnjlmkbmfhkaaLives3
namespace Go.Proofs.Ytdbnjlmkbmfhkaa
open Go Go.RowKit

/-- A slice of operations, read. -/
def OpsAt (w : World) (A : Option Addr) (n : Nat) : Prop := ∀ i, i < n → ∃ (b o : Nat) (kd x y : Int) (Ai : Option Addr) (mi ci : Nat) (E : List Value), A = some ⟨b, o, none⟩ ∧ b < w.heap.size ∧
  w.cell? ⟨b, o + i * 4, none⟩ = some (.int .i64 kd) ∧ w.cell? ⟨b, o + i * 4 + 1, none⟩ = some (.int .i64 x) ∧ w.cell? ⟨b, o + i * 4 + 2, none⟩ = some (.int .i64 y) ∧ w.cell? ⟨b, o + i * 4 + 3, none⟩ = some (.slice Ai mi ci) ∧
  -9223372036854775808 ≤ x ∧ x ≤ 9223372036854775807 ∧ Lists w w.heap.size Ai E ∧ E.length = mi ∧ Bytes8 E ∧ mi ≤ 140737488355328

theorem both_start {w w1 w2 w3 : World} {p R : Nat} {fp : List Nat} (hw : Wr w1 p R false [] fp) (b1 : Below w.heap.size w w1) (hfp : ∀ b ∈ fp, w.heap.size ≤ b) (h2 : Blk w2 w1.heap.size 60 #[.slice none 0 0, .int .i64 (R : Nat), .bool false])
    (b2 : Below w1.heap.size w1 w2) (b3 : Below w2.heap.size w2 w3) : Both w.heap.size w3 p w1.heap.size R false [] ∧ Below w.heap.size w w3 := by
  have hlt := hw.lt
  have h3 := b1.size
  have h4 := h2.lt
  refine ⟨⟨fp, [w1.heap.size], hw.only (Only.of_below (b2.trans (b3.mono b2.size)) []) (fun _ _ h => (nomatch h)), ⟨.slice none 0 0, h2.below b3, ⟨by simp, .inl ⟨rfl, rfl⟩⟩, fun _ hu => (nomatch hu), Nat.zero_le _, rfl⟩, fun b hb e => ?_, hfp, fun b hb => ?_⟩, (b1.trans (b2.mono h3)).trans (b3.mono (by omega))⟩
  · have := hlt b hb; simp at e; omega
  · simp at hb; omega

theorem Wr.below {w w1 : World} {p R : Nat} {F : Bool} {L : List Value} {fp : List Nat} (h : Wr w p R F L fp) (hb : Below w.heap.size w w1) : Wr w1 p R F L fp := h.only (Only.of_below hb []) (fun _ _ h => (nomatch h))
theorem Both.below {B : Nat} {w w1 : World} {p q R : Nat} {F : Bool} {L : List Value} (h : Both B w p q R F L) (hb : Below w.heap.size w w1) : Both B w1 p q R F L := by
  obtain ⟨fp, fq, hp, hq, hd, hlp, hlq⟩ := h
  exact ⟨fp, fq, hp.only (Only.of_below hb []) (fun _ _ h => (nomatch h)), hq.only (Only.of_below hb []) (fun _ _ h => (nomatch h)), hd, hlp, hlq⟩
theorem ww_over (A : Option Addr) (n c : Nat) (room : Int) (w : World) (h : 5000 < room) :
    Calls Try.prog 9 #[.int .i64 room, .slice A n c] w fun e w' => e = .returned (.bool true) ∧ Below w.heap.size w w' := by
  have LV := fun w => lives3 w
  have d1 : decide ((5000 : Int) < room) = true := by simpa using h
  clear h
  go_enter Try.func9, Try.ntmps9
  go_wp2_with (first | (go_at_call 37; ((with_reducible refine (LV _).mono ?_); rintro e w' ⟨rfl, b⟩)))
  go_ret
  exact ⟨rfl, b⟩

set_option maxRecDepth 100000 in
set_option maxHeartbeats 4000000 in
theorem ww_in (A : Option Addr) (n c : Nat) (R : Nat) (w : World) (hR : R ≤ 5000) (hops : OpsAt w A n) :
    Calls Try.prog 9 #[.int .i64 (R : Nat), .slice A n c] w fun e w' => e = .returned (.bool true) ∧ Below w.heap.size w w' := by
  have LV := fun w => lives3 w
  have HO := Lib.hid hops
  have d1 : decide ((5000 : Int) < (R : Int)) = false := by simp; omega
  have d0 : decide ((R : Int) < 0) = false := by simp
  have C0 := to_any (R : Int) w
  rw [Int.toNat_natCast] at C0
  clear hops
  go_enter Try.func9, Try.ntmps9
  go_wp2_with (first | (go_at_call 38; ((with_reducible refine C0.mono ?_); rintro e w1 ⟨p, fp, rfl, hw, b1, hfp⟩)) | (go_at_call 37; ((with_reducible refine (LV _).mono ?_); rintro e w3 ⟨rfl, b3⟩)))
  have HS := both_start hw b1 hfp (Blk.new w1 _ _) ((Below.refl _ _).alloc (Nat.le_refl _) _) b3
  go_loopw [5, 7] (fun pp i wr => pp = .pointer (some ⟨p, 0, none⟩) ∧ ∃ k : Nat, k ≤ n ∧ i = .int .i64 k ∧ Hid (∃ F L, Both w.heap.size wr p w1.heap.size R F L) ∧ Below w.heap.size w wr) (fun _ i _ => n - (intOf i).toNat)
  case atStart => exact ⟨rfl, 0, Nat.zero_le _, rfl, Lib.hid ⟨false, [], HS.1⟩, HS.2⟩
  case round =>
    obtain ⟨rfl, k, hk, rfl, HB, hbw⟩ := hrel
    have hsz := hbw.size
    by_cases hlt : k < n
    · by_cases hl2 : k < 60
      · obtain ⟨b, o, kd, x, y, Ai, mi, ci, E, hA, hbl, hc0, hc1, hc2, hc3, hx1, hx2, hE, hm, h8, hm2⟩ := HO.out k hlt
        subst hA
        have g0 := (hbw.cell (p := ⟨b, o + k * 4, none⟩) hbl).trans hc0
        have g1 := (hbw.cell (p := ⟨b, o + k * 4 + 1, none⟩) hbl).trans hc1
        have g2 := (hbw.cell (p := ⟨b, o + k * 4 + 2, none⟩) hbl).trans hc2
        have g3 := (hbw.cell (p := ⟨b, o + k * 4 + 3, none⟩) hbl).trans hc3
        clear hc0 hc1 hc2 hc3
        obtain ⟨F, L, HB⟩ := HB.out
        have C := write_any w.heap.size p w1.heap.size R F L kd x y Ai mi ci E wr HB hsz (by omega) hx1 hx2 (hE.below hbw) hm h8 hm2
        have d1 : decide ((k : Int) < (n : Int)) = true := by simp; omega
        have d2 : decide ((k : Int) < 60) = true := by simp; omega
        clear hm
        go_wp2_with (first | (go_at_call 39; ((with_reducible refine C.mono ?_); rintro e w4 ⟨rfl, ⟨F1, L1, HB1⟩, b4⟩; obtain ⟨fp1, fq1, hp1, hq1, hd1, hlp1, hlq1⟩ := id HB1; obtain ⟨bv1, hb1, hown1, _, _, hfq⟩ := id hq1; obtain ⟨Ab1, cb1, rfl, _, _⟩ := own_lists hown1)))
        refine wp_region_plan (fun w' => Below w4.heap.size w4 w') _ rfl (by kernel_rfl) (by kernel_rfl) ((Below.refl _ _).drew) ?_
        repeat (first
          | (refine PlanL.skip (by rfl) ?_; simp only [Act.put, List.setIfInBounds_toArray, List.set_cons_zero, List.set_cons_succ])
          | (refine PlanL.val (v := ?_) (by rfl) ?_ ?_; rotate_left; (focus (intro w' hS; have F := (hb1.below hS).kb; simp only [KB, CellsAt, Nat.zero_add, Nat.reduceAdd, and_true] at F; go_simp <;> with_reducible rfl)); try simp only [Act.put, List.setIfInBounds_toArray, List.set_cons_zero, List.set_cons_succ])
          | (refine PlanL.call (v := ?_) (f := ?_) (args := ?_) (by rfl) ?_ ?_ ?_; rotate_left 3; (focus (intro w' hS; have F := (hb1.below hS).kb; simp only [KB, CellsAt, Nat.zero_add, Nat.reduceAdd, and_true] at F; go_simp; (constructor <;> with_reducible rfl))); (focus (intro w' hS; first | ((with_reducible refine (wlen_any p R F1 L1 fp1 w' (Wr.below hp1 hS) (by omega)).mono ?_); rintro e w'' ⟨rfl, b⟩; refine ⟨?_, hS.trans (b.mono hS.size)⟩; with_reducible rfl) | fail)); try simp only [Act.put, List.setIfInBounds_toArray, List.set_cons_zero, List.set_cons_succ]))
        refine PlanL.nil ?_
        intro w' hS
        have F := (hb1.below hS).kb; simp only [KB, CellsAt, Nat.zero_add, Nat.reduceAdd, and_true] at F
        clear F
        go_wp2
        go_round
        case rel => exact ⟨rfl, k + 1, by omega, by go_num, Lib.hid ⟨F1, L1, Both.below HB1 hS⟩, (hbw.trans b4).trans (hS.mono (Nat.le_trans hsz b4.size))⟩
        case measure => simp [intOf]; omega
      · have d1 : decide ((k : Int) < (n : Int)) = true := by simp; omega
        have d2 : decide ((k : Int) < 60) = false := by simp; omega
        obtain ⟨F, L, HB⟩ := HB.out
        obtain ⟨fp, fq, hp, hq, hd, hlp, hlq⟩ := HB
        obtain ⟨bv, hb, hown, h8, hlen, rfl⟩ := id hq
        obtain ⟨Ab, cb, rfl, lb, _⟩ := own_lists hown
        cases F
        · have C := wdone_any p R L fp wr hp (by omega)
          go_wp2_with (first | (go_at_call 41; ((with_reducible refine C.mono ?_); rintro e w5 ⟨A5, c5, rfl, hown5, b5⟩; have F := (hb.below b5).kb; simp only [KB, CellsAt, Nat.zero_add, Nat.reduceAdd, and_true] at F; have lb5 := (lb.below b5).more b5.size; obtain ⟨A6, c6, e6, l5, _⟩ := own_lists hown5; injection e6 with e61 e62 e63; subst e61 e63; clear hown5)))
          refine wp_region_plan (fun w' => Below w5.heap.size w5 w') _ rfl (by kernel_rfl) (by kernel_rfl) ((Below.refl _ _).drew) ?_
          repeat (first
            | (refine PlanL.skip (by rfl) ?_; simp only [Act.put, List.setIfInBounds_toArray, List.set_cons_zero, List.set_cons_succ])
            | (refine PlanL.val (v := ?_) (by rfl) ?_ ?_; rotate_left; (focus (intro w' hS; have F := ((hb.below b5).below hS).kb; simp only [KB, CellsAt, Nat.zero_add, Nat.reduceAdd, and_true] at F; have cv1 := conv_lists (c := c5) (l5.below hS) rfl h8; have cv2 := conv_lists (c := cb) (lb5.below hS) rfl h8; go_simp <;> with_reducible rfl)); try simp only [Act.put, List.setIfInBounds_toArray, List.set_cons_zero, List.set_cons_succ]))
          refine PlanL.nil ?_
          intro w' hS
          have F := ((hb.below b5).below hS).kb; simp only [KB, CellsAt, Nat.zero_add, Nat.reduceAdd, and_true] at F; have cv1 := conv_lists (c := c5) (l5.below hS) rfl h8; have cv2 := conv_lists (c := cb) (lb5.below hS) rfl h8
          clear F cv1 cv2
          go_wp2
          go_ret
          exact ⟨rfl, (hbw.trans (b5.mono hsz)).trans (hS.mono (Nat.le_trans hsz b5.size))⟩
        · have C := wdone_full p R L fp wr hp
          go_wp2_with (first | (go_at_call 41; ((with_reducible refine C.mono ?_); rintro e w5 ⟨rfl, b5⟩; have F := (hb.below b5).kb; simp only [KB, CellsAt, Nat.zero_add, Nat.reduceAdd, and_true] at F)))
          go_ret
          exact ⟨rfl, hbw.trans (b5.mono hsz)⟩
    · have d1 : decide ((k : Int) < (n : Int)) = false := by simp; omega
      obtain ⟨F, L, HB⟩ := HB.out
      obtain ⟨fp, fq, hp, hq, hd, hlp, hlq⟩ := HB
      obtain ⟨bv, hb, hown, h8, hlen, rfl⟩ := id hq
      obtain ⟨Ab, cb, rfl, lb, _⟩ := own_lists hown
      cases F
      · have C := wdone_any p R L fp wr hp (by omega)
        go_wp2_with (first | (go_at_call 41; ((with_reducible refine C.mono ?_); rintro e w5 ⟨A5, c5, rfl, hown5, b5⟩; have F := (hb.below b5).kb; simp only [KB, CellsAt, Nat.zero_add, Nat.reduceAdd, and_true] at F; have lb5 := (lb.below b5).more b5.size; obtain ⟨A6, c6, e6, l5, _⟩ := own_lists hown5; injection e6 with e61 e62 e63; subst e61 e63; clear hown5)))
        refine wp_region_plan (fun w' => Below w5.heap.size w5 w') _ rfl (by kernel_rfl) (by kernel_rfl) ((Below.refl _ _).drew) ?_
        repeat (first
          | (refine PlanL.skip (by rfl) ?_; simp only [Act.put, List.setIfInBounds_toArray, List.set_cons_zero, List.set_cons_succ])
          | (refine PlanL.val (v := ?_) (by rfl) ?_ ?_; rotate_left; (focus (intro w' hS; have F := ((hb.below b5).below hS).kb; simp only [KB, CellsAt, Nat.zero_add, Nat.reduceAdd, and_true] at F; have cv1 := conv_lists (c := c5) (l5.below hS) rfl h8; have cv2 := conv_lists (c := cb) (lb5.below hS) rfl h8; go_simp <;> with_reducible rfl)); try simp only [Act.put, List.setIfInBounds_toArray, List.set_cons_zero, List.set_cons_succ]))
        refine PlanL.nil ?_
        intro w' hS
        have F := ((hb.below b5).below hS).kb; simp only [KB, CellsAt, Nat.zero_add, Nat.reduceAdd, and_true] at F; have cv1 := conv_lists (c := c5) (l5.below hS) rfl h8; have cv2 := conv_lists (c := cb) (lb5.below hS) rfl h8
        clear F cv1 cv2
        go_wp2
        go_ret
        exact ⟨rfl, (hbw.trans (b5.mono hsz)).trans (hS.mono (Nat.le_trans hsz b5.size))⟩
      · have C := wdone_full p R L fp wr hp
        go_wp2_with (first | (go_at_call 41; ((with_reducible refine C.mono ?_); rintro e w5 ⟨rfl, b5⟩; have F := (hb.below b5).kb; simp only [KB, CellsAt, Nat.zero_add, Nat.reduceAdd, and_true] at F)))
        go_ret
        exact ⟨rfl, hbw.trans (b5.mono hsz)⟩

set_option maxRecDepth 100000 in
set_option maxHeartbeats 4000000 in
theorem ww_neg (A : Option Addr) (n c : Nat) (room : Int) (w : World) (hR : room < 0) (hops : OpsAt w A n) :
    Calls Try.prog 9 #[.int .i64 room, .slice A n c] w fun e w' => e = .returned (.bool true) ∧ Below w.heap.size w w' := by
  have LV := fun w => lives3 w
  have HO := Lib.hid hops
  have d1 : decide ((5000 : Int) < room) = false := by simp; omega
  have d0 : decide (room < 0) = true := by simp; omega
  have C0 := to_any room w
  rw [show room.toNat = 0 by omega] at C0
  clear hops hR
  go_enter Try.func9, Try.ntmps9
  go_wp2_with (first | (go_at_call 38; ((with_reducible refine C0.mono ?_); rintro e w1 ⟨p, fp, rfl, hw, b1, hfp⟩)) | (go_at_call 37; ((with_reducible refine (LV _).mono ?_); rintro e w3 ⟨rfl, b3⟩)))
  have HS := both_start hw b1 hfp (Blk.new w1 _ _) ((Below.refl _ _).alloc (Nat.le_refl _) _) b3
  go_loopw [5, 7] (fun pp i wr => pp = .pointer (some ⟨p, 0, none⟩) ∧ ∃ k : Nat, k ≤ n ∧ i = .int .i64 k ∧ Hid (∃ F L, Both w.heap.size wr p w1.heap.size 0 F L) ∧ Below w.heap.size w wr) (fun _ i _ => n - (intOf i).toNat)
  case atStart => exact ⟨rfl, 0, Nat.zero_le _, rfl, Lib.hid ⟨false, [], HS.1⟩, HS.2⟩
  case round =>
    obtain ⟨rfl, k, hk, rfl, HB, hbw⟩ := hrel
    have hsz := hbw.size
    by_cases hlt : k < n
    · by_cases hl2 : k < 60
      · obtain ⟨b, o, kd, x, y, Ai, mi, ci, E, hA, hbl, hc0, hc1, hc2, hc3, hx1, hx2, hE, hm, h8, hm2⟩ := HO.out k hlt
        subst hA
        have g0 := (hbw.cell (p := ⟨b, o + k * 4, none⟩) hbl).trans hc0
        have g1 := (hbw.cell (p := ⟨b, o + k * 4 + 1, none⟩) hbl).trans hc1
        have g2 := (hbw.cell (p := ⟨b, o + k * 4 + 2, none⟩) hbl).trans hc2
        have g3 := (hbw.cell (p := ⟨b, o + k * 4 + 3, none⟩) hbl).trans hc3
        clear hc0 hc1 hc2 hc3
        obtain ⟨F, L, HB⟩ := HB.out
        have C := write_any w.heap.size p w1.heap.size 0 F L kd x y Ai mi ci E wr HB hsz (by omega) hx1 hx2 (hE.below hbw) hm h8 hm2
        have d1 : decide ((k : Int) < (n : Int)) = true := by simp; omega
        have d2 : decide ((k : Int) < 60) = true := by simp; omega
        clear hm
        go_wp2_with (first | (go_at_call 39; ((with_reducible refine C.mono ?_); rintro e w4 ⟨rfl, ⟨F1, L1, HB1⟩, b4⟩; obtain ⟨fp1, fq1, hp1, hq1, hd1, hlp1, hlq1⟩ := id HB1; obtain ⟨bv1, hb1, hown1, _, _, hfq⟩ := id hq1; obtain ⟨Ab1, cb1, rfl, _, _⟩ := own_lists hown1)))
        refine wp_region_plan (fun w' => Below w4.heap.size w4 w') _ rfl (by kernel_rfl) (by kernel_rfl) ((Below.refl _ _).drew) ?_
        repeat (first
          | (refine PlanL.skip (by rfl) ?_; simp only [Act.put, List.setIfInBounds_toArray, List.set_cons_zero, List.set_cons_succ])
          | (refine PlanL.val (v := ?_) (by rfl) ?_ ?_; rotate_left; (focus (intro w' hS; have F := (hb1.below hS).kb; simp only [KB, CellsAt, Nat.zero_add, Nat.reduceAdd, and_true] at F; go_simp <;> with_reducible rfl)); try simp only [Act.put, List.setIfInBounds_toArray, List.set_cons_zero, List.set_cons_succ])
          | (refine PlanL.call (v := ?_) (f := ?_) (args := ?_) (by rfl) ?_ ?_ ?_; rotate_left 3; (focus (intro w' hS; have F := (hb1.below hS).kb; simp only [KB, CellsAt, Nat.zero_add, Nat.reduceAdd, and_true] at F; go_simp; (constructor <;> with_reducible rfl))); (focus (intro w' hS; first | ((with_reducible refine (wlen_any p 0 F1 L1 fp1 w' (Wr.below hp1 hS) (by omega)).mono ?_); rintro e w'' ⟨rfl, b⟩; refine ⟨?_, hS.trans (b.mono hS.size)⟩; with_reducible rfl) | fail)); try simp only [Act.put, List.setIfInBounds_toArray, List.set_cons_zero, List.set_cons_succ]))
        refine PlanL.nil ?_
        intro w' hS
        have F := (hb1.below hS).kb; simp only [KB, CellsAt, Nat.zero_add, Nat.reduceAdd, and_true] at F
        clear F
        go_wp2
        go_round
        case rel => exact ⟨rfl, k + 1, by omega, by go_num, Lib.hid ⟨F1, L1, Both.below HB1 hS⟩, (hbw.trans b4).trans (hS.mono (Nat.le_trans hsz b4.size))⟩
        case measure => simp [intOf]; omega
      · have d1 : decide ((k : Int) < (n : Int)) = true := by simp; omega
        have d2 : decide ((k : Int) < 60) = false := by simp; omega
        obtain ⟨F, L, HB⟩ := HB.out
        obtain ⟨fp, fq, hp, hq, hd, hlp, hlq⟩ := HB
        obtain ⟨bv, hb, hown, h8, hlen, rfl⟩ := id hq
        obtain ⟨Ab, cb, rfl, lb, _⟩ := own_lists hown
        cases F
        · have C := wdone_any p 0 L fp wr hp (by omega)
          go_wp2_with (first | (go_at_call 41; ((with_reducible refine C.mono ?_); rintro e w5 ⟨A5, c5, rfl, hown5, b5⟩; have F := (hb.below b5).kb; simp only [KB, CellsAt, Nat.zero_add, Nat.reduceAdd, and_true] at F; have lb5 := (lb.below b5).more b5.size; obtain ⟨A6, c6, e6, l5, _⟩ := own_lists hown5; injection e6 with e61 e62 e63; subst e61 e63; clear hown5)))
          refine wp_region_plan (fun w' => Below w5.heap.size w5 w') _ rfl (by kernel_rfl) (by kernel_rfl) ((Below.refl _ _).drew) ?_
          repeat (first
            | (refine PlanL.skip (by rfl) ?_; simp only [Act.put, List.setIfInBounds_toArray, List.set_cons_zero, List.set_cons_succ])
            | (refine PlanL.val (v := ?_) (by rfl) ?_ ?_; rotate_left; (focus (intro w' hS; have F := ((hb.below b5).below hS).kb; simp only [KB, CellsAt, Nat.zero_add, Nat.reduceAdd, and_true] at F; have cv1 := conv_lists (c := c5) (l5.below hS) rfl h8; have cv2 := conv_lists (c := cb) (lb5.below hS) rfl h8; go_simp <;> with_reducible rfl)); try simp only [Act.put, List.setIfInBounds_toArray, List.set_cons_zero, List.set_cons_succ]))
          refine PlanL.nil ?_
          intro w' hS
          have F := ((hb.below b5).below hS).kb; simp only [KB, CellsAt, Nat.zero_add, Nat.reduceAdd, and_true] at F; have cv1 := conv_lists (c := c5) (l5.below hS) rfl h8; have cv2 := conv_lists (c := cb) (lb5.below hS) rfl h8
          clear F cv1 cv2
          go_wp2
          go_ret
          exact ⟨rfl, (hbw.trans (b5.mono hsz)).trans (hS.mono (Nat.le_trans hsz b5.size))⟩
        · have C := wdone_full p 0 L fp wr hp
          go_wp2_with (first | (go_at_call 41; ((with_reducible refine C.mono ?_); rintro e w5 ⟨rfl, b5⟩; have F := (hb.below b5).kb; simp only [KB, CellsAt, Nat.zero_add, Nat.reduceAdd, and_true] at F)))
          go_ret
          exact ⟨rfl, hbw.trans (b5.mono hsz)⟩
    · have d1 : decide ((k : Int) < (n : Int)) = false := by simp; omega
      obtain ⟨F, L, HB⟩ := HB.out
      obtain ⟨fp, fq, hp, hq, hd, hlp, hlq⟩ := HB
      obtain ⟨bv, hb, hown, h8, hlen, rfl⟩ := id hq
      obtain ⟨Ab, cb, rfl, lb, _⟩ := own_lists hown
      cases F
      · have C := wdone_any p 0 L fp wr hp (by omega)
        go_wp2_with (first | (go_at_call 41; ((with_reducible refine C.mono ?_); rintro e w5 ⟨A5, c5, rfl, hown5, b5⟩; have F := (hb.below b5).kb; simp only [KB, CellsAt, Nat.zero_add, Nat.reduceAdd, and_true] at F; have lb5 := (lb.below b5).more b5.size; obtain ⟨A6, c6, e6, l5, _⟩ := own_lists hown5; injection e6 with e61 e62 e63; subst e61 e63; clear hown5)))
        refine wp_region_plan (fun w' => Below w5.heap.size w5 w') _ rfl (by kernel_rfl) (by kernel_rfl) ((Below.refl _ _).drew) ?_
        repeat (first
          | (refine PlanL.skip (by rfl) ?_; simp only [Act.put, List.setIfInBounds_toArray, List.set_cons_zero, List.set_cons_succ])
          | (refine PlanL.val (v := ?_) (by rfl) ?_ ?_; rotate_left; (focus (intro w' hS; have F := ((hb.below b5).below hS).kb; simp only [KB, CellsAt, Nat.zero_add, Nat.reduceAdd, and_true] at F; have cv1 := conv_lists (c := c5) (l5.below hS) rfl h8; have cv2 := conv_lists (c := cb) (lb5.below hS) rfl h8; go_simp <;> with_reducible rfl)); try simp only [Act.put, List.setIfInBounds_toArray, List.set_cons_zero, List.set_cons_succ]))
        refine PlanL.nil ?_
        intro w' hS
        have F := ((hb.below b5).below hS).kb; simp only [KB, CellsAt, Nat.zero_add, Nat.reduceAdd, and_true] at F; have cv1 := conv_lists (c := c5) (l5.below hS) rfl h8; have cv2 := conv_lists (c := cb) (lb5.below hS) rfl h8
        clear F cv1 cv2
        go_wp2
        go_ret
        exact ⟨rfl, (hbw.trans (b5.mono hsz)).trans (hS.mono (Nat.le_trans hsz b5.size))⟩
      · have C := wdone_full p 0 L fp wr hp
        go_wp2_with (first | (go_at_call 41; ((with_reducible refine C.mono ?_); rintro e w5 ⟨rfl, b5⟩; have F := (hb.below b5).kb; simp only [KB, CellsAt, Nat.zero_add, Nat.reduceAdd, and_true] at F)))
        go_ret
        exact ⟨rfl, hbw.trans (b5.mono hsz)⟩

end Go.Proofs.Ytdbnjlmkbmfhkaa
