/- Part 17 of the proof: CmEo, CmEp, CmL, Met2, OpenMets, Rw1. -/
import Derived.Test.YtekailhghjideaaCCm15

namespace Go.Proofs.Ytekailhghjideaa
open Go Go.RowKit
set_option linter.unusedVariables false
set_option linter.unusedSimpArgs false

set_option maxRecDepth 100000 in
set_option maxHeartbeats 2000000 in
theorem encode_ok (B : Nat) (A : Option Addr) (c : Nat) (Ps : List Prt) (P : Prt) (w : World) (hB : B ≤ w.heap.size) (hL : Lists w B A ((Ps ++ [P]).flatMap prL)) (hn : Ps.length + 1 ≤ 64) (hm : (Ps ++ [P]).all mayP = true) (hc : Ps.length + 1 ≤ c) (hc2 : c ≤ 9223372036854775807) :
    Calls Try.prog 11 #[.slice A (Ps.length + 1) c] w (Gave w (encE Ps P)) := by
  have CH := hasPart_any B A c (Ps ++ [P]) w hB hL (by simp; omega)
  rw [hm, show (Ps ++ [P]).length = Ps.length + 1 by simp] at CH
  have HL := Lib.hid hL
  clear hm hL
  obtain ⟨n, hnn⟩ : ∃ n, n = Ps.length := ⟨_, rfl⟩
  rw [← hnn] at hn hc CH ⊢
  have HN := Lib.hid hnn
  clear hnn
  have CT := fun W => wsTo W W 1034 (Below.refl _ _)
  have hmk := fun W => make8 W
  go_enter Try.func11, Try.ntmps11
  go_wp2_with (go_at_call 25; ((with_reducible refine (CH).mono ?_); rintro e w1 ⟨rfl, b1⟩))
  have CA := fun W => wsTo (w1.drew.alloc (.cells z8l.toArray 5)) W 1034
  have CB := fun W => wsTo w W 1034
  go_region_with (first
    | (go_at_call 27; first
      | (refine (CA _ (Below.refl _ _)).mono ?_; rintro e w2 ⟨p, rfl, W2, b2⟩)
      | (refine (CB _ b1.drew).mono ?_; rintro e w2 ⟨p, rfl, W2, b2⟩))
    | (go_at_call 28; first
      | (refine (wskI16 w _ p 1034 _ [] (-1) (wskBefore b1.drew W2) (by decide) (by decide)).mono ?_; rintro e w3 ⟨rfl, W3⟩)
      | (refine (wskI16 w _ p 1034 _ [] (-1) (wskAfter W2) (by decide) (by decide)).mono ?_; rintro e w3 ⟨rfl, W3⟩)
      | (refine (wsI16 w _ p 1034 [] (-1) W2 (by decide) (by decide)).mono ?_; rintro e w3 ⟨rfl, W3, sf3, sz3⟩))
    | (go_at_call 29; first
      | (refine (wskZ8 w _ p 1034 _ _ W3 (by decide) (by decide)).mono ?_; rintro e w4 ⟨rfl, W4, sf4, sz4⟩)
      | (refine (wskZ8 w _ p 1034 _ _ (wskAfter W3) (by decide) (by decide)).mono ?_; rintro e w4 ⟨rfl, W4, sf4, sz4⟩)))
  all_goals
    have W4 : WS w w4 p 1034 (be2 (-1) ++ z8l) := W4
    go_wp2
    go_loopw [29] (fun i wr => ∃ k : Nat, k ≤ n ∧ i = .int .i64 k ∧ WS w wr p 1034 (be2 (-1) ++ z8l ++ bodyE (Ps.take k))) (fun i _ => n - (intOf i).toNat)
    case atStart => exact ⟨0, Nat.zero_le _, rfl, by simpa [bodyE] using W4⟩
    case round =>
      obtain ⟨k, hk, rfl, hW⟩ := hrel
      clear W4
      have hbo := hW.old
      by_cases hlt : k < n
      · have d1 : decide ((k : Int) < (n : Int)) = true := by simp; omega
        obtain ⟨x, hx⟩ : ∃ x, Ps[k]? = some x := ⟨Ps[k]'(by rw [← HN.out]; exact hlt), List.getElem?_eq_getElem _⟩
        obtain ⟨b, o, hA, hbl, hcl⟩ := lists_flat prLen (by decide) HL.out (show (Ps ++ [P])[k]? = some x by rw [List.getElem?_append_left (by rw [← HN.out]; exact hlt)]; exact hx)
        subst hA
        have g0 := Lib.hid (range_below hcl (Nat.lt_of_lt_of_le hbl hB) hbo)
        have CF := fun W => flagsOf_any x W
        have hlen := bodyE_len (Ps.take k)
        rw [List.length_take] at hlen
        have CP := fun W h => putPart_any w W p 1034 (be2 (-1) ++ z8l ++ bodyE (Ps.take k)) x (bits .or .i64 (flagP x) 32) (!fitsP x) h (by simp [be2, z8l]; omega) (by decide) (flag_w32 x)
        have HT := Lib.hid (show bodyE (Ps.take (k + 1)) = bodyE (Ps.take k) ++ putE x (bits .or .i64 (flagP x) 32) (!fitsP x) by unfold bodyE; rw [List.take_add_one, hx, List.flatMap_append]; simp)
        generalize putE x (bits .or .i64 (flagP x) 32) (!fitsP x) = E1 at *
        generalize flagP x = fl at *
        clear hlen hcl hx
        obtain ⟨g, ⟨xa, xb, xc, xd⟩, mm, xx, yy, t, pp, qq⟩ := x
        simp only [prL] at CF CP g0
        have KP := Blk.new wr 36 #[.int .i64 g, .int .i64 xa, .int .i64 xb, .int .i64 xc, .int .i64 xd, .bool mm, .int .i64 xx, .int .i64 yy, .bool t, .int .i64 pp, .int .i64 qq]
        have WA := hW.alloc (.cells #[.int .i64 g, .int .i64 xa, .int .i64 xb, .int .i64 xc, .int .i64 xd, .bool mm, .int .i64 xx, .int .i64 yy, .bool t, .int .i64 pp, .int .i64 qq] 36)
        go_wp2_with (first | (refine wpList_load_mid rfl 36 _ (by with_reducible rfl) b (o + k * 11) (by rfl) #[.int .i64 g, .int .i64 xa, .int .i64 xb, .int .i64 xc, .int .i64 xd, .bool mm, .int .i64 xx, .int .i64 yy, .bool t, .int .i64 pp, .int .i64 qq].toList _ g0.out Try.underlying36 rfl (by kernel_rfl) ?_) | (refine wpList_store_row rfl 36 (.tmp 7) (.tmp 32) (by with_reducible rfl) wr.heap.size #[.int .i64 g, .int .i64 xa, .int .i64 xb, .int .i64 xc, .int .i64 xd, .bool mm, .int .i64 xx, .int .i64 yy, .bool t, .int .i64 pp, .int .i64 qq] (by rfl) (by rfl) 36 #[.int .i64 0, .int .i64 0, .int .i64 0, .int .i64 0, .int .i64 0, .bool false, .int .i64 0, .int .i64 0, .bool false, .int .i64 0, .int .i64 0] (by exact Blk.new _ _ _) prSize rfl (by simp [Value.oneCell']) ?_; rw [World.setRow_alloc_new]))
        refine wp_region_chain (fun W' => Blk W' wr.heap.size 36 #[.int .i64 g, .int .i64 xa, .int .i64 xb, .int .i64 xc, .int .i64 xd, .bool mm, .int .i64 xx, .int .i64 yy, .bool t, .int .i64 pp, .int .i64 qq]) [(0, false), (1, false), (2, false), (3, true), (4, false), (5, true)] (by kernel_rfl) (by kernel_rfl) (KP.below ((Below.refl _ _).drew)) ?_
        repeat (first
          | (refine ChainL.skip (o := ?_) ?_ ?_ ?_; rotate_left; (focus (first | (simp only [List.getElem?_toArray, List.getElem?_cons_succ, List.getElem?_cons_zero]; with_reducible rfl) | (simp only [List.getElem?_toArray, List.getElem?_cons_zero]; with_reducible rfl))); (focus rfl); simp only [Act.put, List.setIfInBounds_toArray, List.set_cons_zero, List.set_cons_succ])
          | (refine ChainL.val (o := ?_) (v := ?_) ?_ ?_ ?_ ?_ ?_; rotate_left 2; (focus (first | (simp only [List.getElem?_toArray, List.getElem?_cons_succ, List.getElem?_cons_zero]; with_reducible rfl) | (simp only [List.getElem?_toArray, List.getElem?_cons_zero]; with_reducible rfl))); (focus (intro _ _ h; cases h)); (focus rfl); (focus (intro w' hI; have hL := load_blk (P := Try.prog) hI Try.underlying36 rfl prSize; first | (have H := fun ρ o x => @exec_load _ ρ o _ _ x _ _ hL; refine H _ _ ?_ ?_ ?_; rotate_left; (focus rfl); (focus rfl)) | (go_simp <;> with_reducible rfl))); simp only [Act.put, List.setIfInBounds_toArray, List.set_cons_zero, List.set_cons_succ]))
        refine ChainL.call (o := ?_) (f := ?_) (args := ?_) ?_ ?_ ?_ ?_
        rotate_left 3
        (focus (simp only [List.getElem?_toArray, List.getElem?_cons_succ, List.getElem?_cons_zero]; with_reducible rfl))
        (focus rfl)
        (focus (go_simp; (constructor <;> with_reducible rfl)))
        refine (CF _).mono ?_
        rintro e w5 ⟨rfl, b5⟩
        have K5 := (KP.below ((Below.refl _ _).drew)).below b5; refine ⟨_, rfl, K5, ?_⟩
        simp only [Act.put, List.setIfInBounds_toArray, List.set_cons_zero, List.set_cons_succ]
        repeat (first
          | (refine ChainL.skip (o := ?_) ?_ ?_ ?_; rotate_left; (focus (first | (simp only [List.getElem?_toArray, List.getElem?_cons_succ, List.getElem?_cons_zero]; with_reducible rfl) | (simp only [List.getElem?_toArray, List.getElem?_cons_zero]; with_reducible rfl))); (focus rfl); simp only [Act.put, List.setIfInBounds_toArray, List.set_cons_zero, List.set_cons_succ])
          | (refine ChainL.val (o := ?_) (v := ?_) ?_ ?_ ?_ ?_ ?_; rotate_left 2; (focus (first | (simp only [List.getElem?_toArray, List.getElem?_cons_succ, List.getElem?_cons_zero]; with_reducible rfl) | (simp only [List.getElem?_toArray, List.getElem?_cons_zero]; with_reducible rfl))); (focus (intro _ _ h; cases h)); (focus rfl); (focus (intro w' hI; have hL := load_blk (P := Try.prog) hI Try.underlying36 rfl prSize; first | (have H := fun ρ o x => @exec_load _ ρ o _ _ x _ _ hL; refine H _ _ ?_ ?_ ?_; rotate_left; (focus rfl); (focus rfl)) | (go_simp <;> with_reducible rfl))); simp only [Act.put, List.setIfInBounds_toArray, List.set_cons_zero, List.set_cons_succ]))
        refine ChainL.call (o := ?_) (f := ?_) (args := ?_) ?_ ?_ ?_ ?_
        rotate_left 3
        (focus (simp only [List.getElem?_toArray, List.getElem?_cons_succ, List.getElem?_cons_zero]; with_reducible rfl))
        (focus rfl)
        (focus (go_simp; (constructor <;> with_reducible rfl)))
        refine (CP _ ((WA.below ((Below.refl _ _).drew)).below b5)).mono ?_
        rintro e w6 ⟨rfl, W6, sf6, sz6⟩
        refine ⟨_, rfl, sf6 _ _ _ (by decide) (by decide) (by decide) K5, ?_⟩
        simp only [Act.put, List.setIfInBounds_toArray, List.set_cons_zero, List.set_cons_succ]
        refine ChainL.nil ?_
        go_wp2
        go_roundw
        case rel => exact ⟨k + 1, by omega, by go_num, by rw [HT.out, ← List.append_assoc]; exact W6⟩
        case measure => simp [intOf]; omega
      · obtain rfl : k = n := by omega
        have d1 : decide ((k : Int) < (k : Int)) = false := by simp
        obtain ⟨b, o, hA, hbl, hcl⟩ := lists_flat prLen (by decide) HL.out (show (Ps ++ [P])[k]? = some P by rw [List.getElem?_append_right (by rw [← HN.out]; exact Nat.le_refl _), ← HN.out, Nat.sub_self]; rfl)
        subst hA
        have HX := fun W' (h : Below w.heap.size w W') => run_loadAt_mid (P := Try.prog) W' b (o + k * 11) 36 (prL P) _ (range_below hcl (Nat.lt_of_lt_of_le hbl hB) h) Try.underlying36 rfl (by rw [prLen]; kernel_rfl)
        have CF := fun W => flagsOf_any P W
        have hlen := bodyE_len Ps
        rw [← HN.out] at hlen
        rw [List.take_of_length_le (by rw [← HN.out]; exact Nat.le_refl _)] at hW
        have CP := fun W h => putPart_any w W p 1034 (be2 (-1) ++ z8l ++ bodyE Ps) P (flagP P) (!fitsP P) h (by simp [be2, z8l]; omega) (by decide) (flag_w P)
        have hE : (encE Ps P).length ≤ 1034 := by
          have := putE_len P (flagP P) (!fitsP P)
          unfold encE
          simp [be2, z8l]
          omega
        have HE := Lib.hid (show encE Ps P = be2 (-1) ++ z8l ++ bodyE Ps ++ putE P (flagP P) (!fitsP P) from rfl)
        generalize encE Ps P = EE at *
        generalize putE P (flagP P) (!fitsP P) = E2 at *
        generalize flagP P = fl at *
        clear hlen hcl
        obtain ⟨g, ⟨xa, xb, xc, xd⟩, mm, xx, yy, t, pp, qq⟩ := P
        simp only [prL] at CF CP HX
        have HXX := Lib.hid HX
        clear HX
        go_wp2
        have hlt2 : (k : Int) < (k : Int) + 1 := by omega
        refine wp_region_chain (fun W' => (Instr.loadAt 36 (.pointer (some ⟨b, o + k * 11, none⟩))).run Try.prog W' = .ok (.agg #[.int .i64 g, .int .i64 xa, .int .i64 xb, .int .i64 xc, .int .i64 xd, .bool mm, .int .i64 xx, .int .i64 yy, .bool t, .int .i64 pp, .int .i64 qq]) W') [(0, false), (1, false), (2, false), (3, false), (4, false), (5, false), (6, false), (7, false), (8, false), (9, true), (10, true)] (by kernel_rfl) (by kernel_rfl) (HXX.out _ hbo.drew) ?_
        repeat (first
          | (refine ChainL.skip (o := ?_) ?_ ?_ ?_; rotate_left; (focus (first | (simp only [List.getElem?_toArray, List.getElem?_cons_succ, List.getElem?_cons_zero]; with_reducible rfl) | (simp only [List.getElem?_toArray, List.getElem?_cons_zero]; with_reducible rfl))); (focus rfl); simp only [Act.put, List.setIfInBounds_toArray, List.set_cons_zero, List.set_cons_succ])
          | (refine ChainL.val (o := ?_) (v := ?_) ?_ ?_ ?_ ?_ ?_; rotate_left 2; (focus (first | (simp only [List.getElem?_toArray, List.getElem?_cons_succ, List.getElem?_cons_zero]; with_reducible rfl) | (simp only [List.getElem?_toArray, List.getElem?_cons_zero]; with_reducible rfl))); (focus (intro _ _ h; cases h)); (focus rfl); (focus (intro w' hI; skip; first | (have H := fun ρ o x => @exec_load _ ρ o _ _ x _ _ hI; refine H _ _ ?_ ?_ ?_; rotate_left; (focus rfl); (focus rfl)) | (go_simp; (try rw [if_pos hlt2]); with_reducible rfl))); simp only [Act.put, List.setIfInBounds_toArray, List.set_cons_zero, List.set_cons_succ]))
        refine ChainL.call (o := ?_) (f := ?_) (args := ?_) ?_ ?_ ?_ ?_
        rotate_left 3
        (focus (simp only [List.getElem?_toArray, List.getElem?_cons_succ, List.getElem?_cons_zero]; with_reducible rfl))
        (focus rfl)
        (focus (go_simp; (constructor <;> with_reducible rfl)))
        refine (CF _).mono ?_
        rintro e w5 ⟨rfl, b5⟩
        have B5 := hbo.drew.trans (b5.mono hbo.drew.size); refine ⟨_, rfl, HXX.out _ B5, ?_⟩
        simp only [Act.put, List.setIfInBounds_toArray, List.set_cons_zero, List.set_cons_succ]
        refine ChainL.call (o := ?_) (f := ?_) (args := ?_) ?_ ?_ ?_ ?_
        rotate_left 3
        (focus (simp only [List.getElem?_toArray, List.getElem?_cons_succ, List.getElem?_cons_zero]; with_reducible rfl))
        (focus rfl)
        (focus (go_simp; (constructor <;> with_reducible rfl)))
        refine (CP _ ((hW.below ((Below.refl _ _).drew)).below b5)).mono ?_
        rintro e w6 ⟨rfl, W6, sf6, sz6⟩
        refine ⟨_, rfl, HXX.out _ W6.old, ?_⟩
        simp only [Act.put, List.setIfInBounds_toArray, List.set_cons_zero, List.set_cons_succ]
        refine ChainL.nil ?_
        have W6 : WS w w6 p 1034 EE := by rw [HE.out]; exact W6
        have CD := wsDone w w6 p 1034 EE W6 (by decide)
        go_wp2_with (go_at_call 32; ((with_reducible refine (CD).mono ?_); rintro e w7 ⟨A7, c7, rfl, ho7, b7⟩))
        first | (go_ret2; exact ⟨A7, c7, rfl, ho7, b7⟩) | exact bodyPost_ret (v := .tuple #[.slice A7 EE.length c7, .int .i64 0]) (by simp [results, Try.results11, go_sem]) rfl ⟨A7, c7, rfl, ho7, b7⟩
end Go.Proofs.Ytekailhghjideaa

namespace Go.Proofs.Ytekailhghjideaa
open Go Go.RowKit
set_option linter.unusedVariables false
set_option linter.unusedSimpArgs false

set_option maxRecDepth 100000 in
theorem encode_nil (A : Option Addr) (c : Nat) (w : World) : Calls Try.prog 11 #[.slice A 0 c] w fun e w' => e = .returned (.tuple #[.slice none 0 0, .int .i64 1]) ∧ Below w.heap.size w w' := by
  have BB := Below.refl w.heap.size w
  go_enter Try.func11, Try.ntmps11
  go_wp2
  first | (go_ret2; exact ⟨rfl, BB⟩) | exact bodyPost_ret (v := .tuple #[.slice none 0 0, .int .i64 1]) (by simp [results, Try.results11, go_sem]) rfl ⟨rfl, BB⟩
set_option maxRecDepth 100000 in
theorem encode_bad (B : Nat) (A : Option Addr) (c : Nat) (L : List Prt) (w : World) (hB : B ≤ w.heap.size) (hL : Lists w B A (L.flatMap prL)) (hn : L.length ≤ 1099511627776) (h0 : L ≠ []) (hm : L.all mayP = false) :
    Calls Try.prog 11 #[.slice A L.length c] w fun e w' => e = .returned (.tuple #[.slice none 0 0, .int .i64 1]) ∧ Below w.heap.size w w' := by
  have CH := hasPart_any B A c L w hB hL hn
  rw [hm] at CH
  obtain ⟨n, hnn⟩ : ∃ n, L.length = n + 1 := ⟨L.length - 1, by have := List.length_pos_iff.2 h0; omega⟩
  rw [hnn] at CH hn ⊢
  clear hL hm h0 hnn
  go_enter Try.func11, Try.ntmps11
  go_wp2_with (go_at_call 25; ((with_reducible refine (CH).mono ?_); rintro e w1 ⟨rfl, BB⟩))
  first | (go_ret2; exact ⟨rfl, BB⟩) | exact bodyPost_ret (v := .tuple #[.slice none 0 0, .int .i64 1]) (by simp [results, Try.results11, go_sem]) rfl ⟨rfl, BB⟩
set_option maxRecDepth 100000 in
theorem encode_many (B : Nat) (A : Option Addr) (c : Nat) (L : List Prt) (w : World) (hB : B ≤ w.heap.size) (hL : Lists w B A (L.flatMap prL)) (hn : L.length ≤ 1099511627776) (h0 : 64 < L.length) (hm : L.all mayP = true) :
    Calls Try.prog 11 #[.slice A L.length c] w fun e w' => e = .returned (.tuple #[.slice none 0 0, .int .i64 120]) ∧ Below w.heap.size w w' := by
  have CH := hasPart_any B A c L w hB hL hn
  rw [hm] at CH
  obtain ⟨n, hnn⟩ : ∃ n, L.length = n + 1 := ⟨L.length - 1, by omega⟩
  rw [hnn] at CH hn h0 ⊢
  clear hL hm hnn
  go_enter Try.func11, Try.ntmps11
  go_wp2_with (go_at_call 25; ((with_reducible refine (CH).mono ?_); rintro e w1 ⟨rfl, BB⟩))
  first | (go_ret2; exact ⟨rfl, BB⟩) | exact bodyPost_ret (v := .tuple #[.slice none 0 0, .int .i64 120]) (by simp [results, Try.results11, go_sem]) rfl ⟨rfl, BB⟩
end Go.Proofs.Ytekailhghjideaa

namespace Go.Proofs.Ytekailhghjideaa
open Go Go.RowKit
set_option linter.unusedVariables false
set_option linter.unusedSimpArgs false

set_option maxRecDepth 100000 in
set_option maxHeartbeats 4000000 in
theorem nePr_run (y x : Prt) (r : Bool) (hr : (y == x) = r) (w : World) : (binOp .neq 36 (.agg (prL y).toArray) (.agg (prL x).toArray)).run Try.prog w = .ok (.bool (!r)) w := by
  subst hr
  obtain ⟨g, ⟨a, b, c, d⟩, m, xx, yy, t, p, q⟩ := y
  obtain ⟨g', ⟨a', b', c', d'⟩, m', xx', yy', t', p', q'⟩ := x
  have hS : Try.prog.underlying 36 = some (.struct (Try.prog.fieldsOf 36)) := by kernel_rfl
  have hp : Try.prog.stoodInHeld 36 = false := by kernel_rfl
  have hS2 : Try.prog.underlying 34 = some (.struct (Try.prog.fieldsOf 34)) := by kernel_rfl
  have hp2 : Try.prog.stoodInHeld 34 = false := by kernel_rfl
  have u3 := Try.underlying3
  have i3 := Try.isAgg3
  have z3 := Try.sizeOf3
  have u4 := Try.underlying4
  have i4 := Try.isAgg4
  have z4 := Try.sizeOf4
  have ip := Try.isAgg34
  have zp := Try.sizeOf34
  have E4 : ∀ (x y z u x' y' z' u' : Int) (w : World), (Op.equalIn 9999 34 (.agg #[.int .i64 x, .int .i64 y, .int .i64 z, .int .i64 u]) (.agg #[.int .i64 x', .int .i64 y', .int .i64 z', .int .i64 u'])).run Try.prog w = .ok (eq4 x y z u x' y' z' u') w := fun x y z u x' y' z' u' w => by
    rw [show (9999 : Nat) = 9998 + 1 from rfl, run_equalIn_agg w 9998 34 _ _ hS2 hp2]
    simp only [Program.fieldsOf, Try.underlying34]
    unfold eq4
    go_simp
    by_cases h1 : x = x' <;> by_cases h2 : y = y' <;> by_cases h3 : z = z' <;> by_cases h4 : u = u' <;> simp [h1, h2, h3, h4]
  rw [run_neq_struct, show (10000 : Nat) = 9999 + 1 from rfl, run_equalIn_agg w 9999 36 _ _ hS hp]
  simp only [Program.fieldsOf, Try.underlying36, prL]
  go_simp
  have hq : ((g, (a, b, c, d), m, xx, yy, t, p, q) == (g', (a', b', c', d'), m', xx', yy', t', p', q')) = (decide (g = g') && (eq4 a b c d a' b' c' d' && (decide (m = m') && (decide (xx = xx') && (decide (yy = yy') && (decide (t = t') && (decide (p = p') && decide (q = q')))))))) := by
    rw [Bool.eq_iff_iff]
    simp [eq4, and_assoc]
  rw [hq]
  clear hq E4
  cases eq4 a b c d a' b' c' d' <;> (by_cases h1 : g = g' <;> by_cases h2 : m = m' <;> by_cases h3 : xx = xx' <;> by_cases h4 : yy = yy' <;> by_cases h5 : t = t' <;> by_cases h6 : p = p' <;> by_cases h7 : q = q' <;> simp [h1, h2, h3, h4, h5, h6, h7])
theorem prEq {x y : Prt} : (x == y) = true ↔ x = y := by
  obtain ⟨g, ⟨a, b, c, d⟩, m, xx, yy, t, p, q⟩ := x
  obtain ⟨g', ⟨a', b', c', d'⟩, m', xx', yy', t', p', q'⟩ := y
  simp [and_assoc]
theorem snext {α : Type} {a b : List α} {k : Nat} {x : α} (h : ∀ j, j < k → a[j]? = b[j]?) (ha : a[k]? = some x) (hb : b[k]? = some x) : ∀ j, j < k + 1 → a[j]? = b[j]? := by
  intro j hj
  rcases Nat.lt_or_ge j k with h1 | h1
  · exact h j h1
  · obtain rfl : j = k := by omega
    rw [ha, hb]
theorem sdone {α : Type} {a b : List α} {k : Nat} (hk : k = a.length) (hk2 : k = b.length) (h : ∀ j, j < k → a[j]? = b[j]?) : a = b := by
  refine List.ext_getElem? fun j => ?_
  rcases Nat.lt_or_ge j k with h1 | h1
  · exact h j h1
  · rw [List.getElem?_eq_none (by omega), List.getElem?_eq_none (by omega)]
set_option maxRecDepth 100000 in
set_option maxHeartbeats 2000000 in
theorem csame_any (B : Nat) (A A2 : Option Addr) (c c2 : Nat) (L M : List Prt) (w : World) (hB : B ≤ w.heap.size) (ha : Lists w B A (L.flatMap prL)) (hb : Lists w B A2 (M.flatMap prL)) (hn : L.length ≤ 4611686018427387904) (r : Bool) (hr : r = true ↔ L = M) :
    Calls Try.prog 10 #[.slice A L.length c, .slice A2 M.length c2] w fun e w' => e = .returned (.bool r) ∧ Below w.heap.size w w' := by
  have HA := Lib.hid ha
  have HB := Lib.hid hb
  have HR := Lib.hid hr
  obtain ⟨n, hnn⟩ : ∃ n, n = L.length := ⟨_, rfl⟩
  obtain ⟨n2, hnn2⟩ : ∃ n2, n2 = M.length := ⟨_, rfl⟩
  rw [← hnn] at hn ⊢
  rw [← hnn2]
  have HN := Lib.hid hnn
  have HN2 := Lib.hid hnn2
  clear ha hb hr hnn hnn2
  by_cases hne : n = n2
  · subst hne
    have d0 : ((n : Int) != (n : Int)) = false := by simp
    go_enter Try.func10, Try.ntmps10
    go_wp2
    go_loopw [5] (fun i wr => ∃ k : Nat, k ≤ n ∧ i = .int .i64 k ∧ Hid (∀ j, j < k → L[j]? = M[j]?) ∧ Below w.heap.size w wr) (fun i _ => n - (intOf i).toNat)
    case atStart => exact ⟨0, Nat.zero_le _, rfl, Lib.hid (fun j h => absurd h (Nat.not_lt_zero _)), Below.refl _ _⟩
    case round =>
      obtain ⟨k, hk, rfl, HK, hbw⟩ := hrel
      by_cases hlt : k < n
      · have d1 : decide ((k : Int) < (n : Int)) = true := by simp; omega
        obtain ⟨x, hp⟩ : ∃ x, L[k]? = some x := ⟨L[k]'(by rw [← HN.out]; exact hlt), List.getElem?_eq_getElem _⟩
        obtain ⟨y, hq⟩ : ∃ y, M[k]? = some y := ⟨M[k]'(by rw [← HN2.out]; exact hlt), List.getElem?_eq_getElem _⟩
        obtain ⟨b, o, rfl, hb, g1⟩ := lists_flat prLen (by decide) HA.out hp
        obtain ⟨b2, o2, rfl, hb2, g2⟩ := lists_flat prLen (by decide) HB.out hq
        have CG : ∀ (s s' : Operand) w, (eqGuard .neq 36 s s' (.agg (prL x).toArray) (.agg (prL y).toArray)).run Try.prog w = .ok () w := fun s s' w => run_eqGuard_agg w .neq 36 _ _ _ _ (by kernel_rfl)
        cases he : (x == y)
        · have hne := nePr_run x y _ he
          have HF := Lib.hid (show r = false by
            refine Bool.eq_false_iff.2 fun h => ?_
            have h := HR.out.1 h
            subst h
            rw [hp] at hq
            rw [prEq.2 (Option.some.inj hq)] at he
            cases he)
          clear hp hq he
          go_wp2
          refine wp_region_chain (fun W => Below w.heap.size w W) [(0, false), (1, false), (2, false), (3, false), (4, false), (5, false), (6, false), (7, false), (8, false)] (by kernel_rfl) (by kernel_rfl) (hbw.drew) ?_
          repeat (first
            | (refine ChainL.skip (o := ?_) ?_ ?_ ?_; rotate_left; (focus (first | (simp only [List.getElem?_toArray, List.getElem?_cons_succ, List.getElem?_cons_zero]; with_reducible rfl) | (simp only [List.getElem?_toArray, List.getElem?_cons_zero]; with_reducible rfl))); (focus rfl); simp only [Act.put, List.setIfInBounds_toArray, List.set_cons_zero, List.set_cons_succ])
            | (refine ChainL.val (o := ?_) (v := ?_) ?_ ?_ ?_ ?_ ?_; rotate_left 2; (focus (first | (simp only [List.getElem?_toArray, List.getElem?_cons_succ, List.getElem?_cons_zero]; with_reducible rfl) | (simp only [List.getElem?_toArray, List.getElem?_cons_zero]; with_reducible rfl))); (focus (intro _ _ h; cases h)); (focus rfl); (focus (intro w' hI; have hL1 := run_loadAt_mid (P := Try.prog) w' b (o + k * 11) 36 (prL x) _ (range_below g1 (Nat.lt_of_lt_of_le hb hB) hI) Try.underlying36 rfl (by rw [prLen]; kernel_rfl); have hL2 := run_loadAt_mid (P := Try.prog) w' b2 (o2 + k * 11) 36 (prL y) _ (range_below g2 (Nat.lt_of_lt_of_le hb2 hB) hI) Try.underlying36 rfl (by rw [prLen]; kernel_rfl); first | (have H := fun ρ o x => @exec_load _ ρ o _ _ x _ _ hL1; refine H _ _ ?_ ?_ ?_; rotate_left; (focus rfl); (focus rfl)) | (have H := fun ρ o x => @exec_load _ ρ o _ _ x _ _ hL2; refine H _ _ ?_ ?_ ?_; rotate_left; (focus rfl); (focus rfl)) | (go_simp <;> with_reducible rfl))); simp only [Act.put, List.setIfInBounds_toArray, List.set_cons_zero, List.set_cons_succ]))
          refine ChainL.nil ?_
          go_wp2
          go_ret
          exact ⟨by rw [HF.out]; rfl, hbw.drew⟩
        · have hne := nePr_run x y _ he
          have HF := Lib.hid (snext HK.out hp (by rw [hq, prEq.1 he]))
          clear hp hq he
          go_wp2
          refine wp_region_chain (fun W => Below w.heap.size w W) [(0, false), (1, false), (2, false), (3, false), (4, false), (5, false), (6, false), (7, false), (8, false)] (by kernel_rfl) (by kernel_rfl) (hbw.drew) ?_
          repeat (first
            | (refine ChainL.skip (o := ?_) ?_ ?_ ?_; rotate_left; (focus (first | (simp only [List.getElem?_toArray, List.getElem?_cons_succ, List.getElem?_cons_zero]; with_reducible rfl) | (simp only [List.getElem?_toArray, List.getElem?_cons_zero]; with_reducible rfl))); (focus rfl); simp only [Act.put, List.setIfInBounds_toArray, List.set_cons_zero, List.set_cons_succ])
            | (refine ChainL.val (o := ?_) (v := ?_) ?_ ?_ ?_ ?_ ?_; rotate_left 2; (focus (first | (simp only [List.getElem?_toArray, List.getElem?_cons_succ, List.getElem?_cons_zero]; with_reducible rfl) | (simp only [List.getElem?_toArray, List.getElem?_cons_zero]; with_reducible rfl))); (focus (intro _ _ h; cases h)); (focus rfl); (focus (intro w' hI; have hL1 := run_loadAt_mid (P := Try.prog) w' b (o + k * 11) 36 (prL x) _ (range_below g1 (Nat.lt_of_lt_of_le hb hB) hI) Try.underlying36 rfl (by rw [prLen]; kernel_rfl); have hL2 := run_loadAt_mid (P := Try.prog) w' b2 (o2 + k * 11) 36 (prL y) _ (range_below g2 (Nat.lt_of_lt_of_le hb2 hB) hI) Try.underlying36 rfl (by rw [prLen]; kernel_rfl); first | (have H := fun ρ o x => @exec_load _ ρ o _ _ x _ _ hL1; refine H _ _ ?_ ?_ ?_; rotate_left; (focus rfl); (focus rfl)) | (have H := fun ρ o x => @exec_load _ ρ o _ _ x _ _ hL2; refine H _ _ ?_ ?_ ?_; rotate_left; (focus rfl); (focus rfl)) | (go_simp <;> with_reducible rfl))); simp only [Act.put, List.setIfInBounds_toArray, List.set_cons_zero, List.set_cons_succ]))
          refine ChainL.nil ?_
          go_wp2
          go_roundw
          case rel => exact ⟨k + 1, by omega, by go_num, HF, hbw.drew⟩
          case measure => simp [intOf]; omega
      · obtain rfl : k = n := by omega
        have d1 : decide ((k : Int) < (k : Int)) = false := by simp
        have HF := Lib.hid (show r = true from HR.out.2 (sdone HN.out HN2.out HK.out))
        go_wp2
        go_ret
        exact ⟨by rw [HF.out]; rfl, hbw⟩
  · have HF := Lib.hid (show r = false by
      refine Bool.eq_false_iff.2 fun h => ?_
      have h := HR.out.1 h
      subst h
      exact hne (HN.out.trans HN2.out.symm))
    have d0 : ((n : Int) != (n2 : Int)) = true := by simp; omega
    go_enter Try.func10, Try.ntmps10
    go_wp2
    go_ret
    exact ⟨by rw [HF.out]; rfl, Below.refl _ _⟩

/-- The part that lives puts. -/
def P0 : Prt := (3, one14, false, 10, -20, false, 0, 0)
theorem p0_len : (encE [] P0).length = 16 := by kernel_rfl
theorem p0_dec : decG ((encE [] P0).take 1034) = ([P0], 0) := by kernel_rfl
theorem nil_dec : decG (([] : List Value).take 1034) = ([], 110) := by kernel_rfl
theorem p0_may : mayP P0 = true := by decide +kernel
theorem p0_cells : P0 = (3, (16384, 0, 0, 16384), false, 10, -20, false, 0, 0) := rfl
theorem enc_p0 (k : Nat) (w : World) (hL : Lists w w.heap.size (some ⟨k, 0, none⟩) (prL P0)) : Calls Try.prog 11 #[.slice (some ⟨k, 0, none⟩) 1 1] w (Gave w (encE [] P0)) :=
  encode_ok w.heap.size (some ⟨k, 0, none⟩) 1 [] P0 w (Nat.le_refl _) (by simpa using hL) (by decide) (by decide +kernel) (by decide) (by decide)
theorem encE_bytes (L : List Prt) (P : Prt) : Bytes8 (encE L P) := by
  have h : ∀ P f b, Bytes8 (putE P f b) := fun P f b => by
    have h2 : ∀ l : List Int, Bytes8 (l.flatMap be2) := fun l => by
      induction l with
      | nil => intro u hu; simp at hu
      | cons x l ih => rw [List.flatMap_cons]; exact (be2_bytes x).append ih
    unfold putE
    refine ((be2_bytes _).append (be2_bytes _)).append ?_ |>.append (h2 _)
    split
    · exact (be2_bytes _).append (be2_bytes _)
    · exact (be1_bytes _).append (be1_bytes _)
  have h3 : ∀ l : List Prt, Bytes8 (bodyE l) := fun l => by
    induction l with
    | nil => intro u hu; simp [bodyE] at hu
    | cons x l ih => unfold bodyE at ih ⊢; rw [List.flatMap_cons]; exact (h _ _ _).append ih
  unfold encE
  exact (((be2_bytes _).append z8l_bytes).append (h3 _)).append (h _ _ _)
theorem own_capc {w : World} {base : Nat} {e : TypeId} {size n c : Nat} {A : Option Addr} {xs : List Value} (h : w.ownsRow base e size (.slice A n c) n xs) : c ≤ 9223372036854775807 := by
  rcases h.2 with ⟨h1, h2⟩ | ⟨g, cap, cur, h1, _, _, _, h2, _⟩
  · cases h1; decide
  · cases h1; exact h2
theorem one_at {w : World} {B : Nat} {A : Option Addr} {x : Prt} (h : Lists w B A (prL x)) : ∃ b o, A = some ⟨b, o, none⟩ ∧ b < B ∧ w.rangeAt b o (prL x) := by
  obtain ⟨b, o, rfl, hb, hc⟩ := h.plain (by intro e; have := congrArg List.length e; rw [prLen] at this; cases this)
  exact ⟨b, o, rfl, hb, fun j v hv => hc j v hv⟩
theorem gave_out {w w' : World} {e : Ending} {L : List Value} {n : Nat} (h : Gave w L e w') (hn : L.length = n) : ∃ A c, e = .returned (.tuple #[.slice A n c, .int .i64 0]) ∧ Lists w' w'.heap.size A L ∧ n ≤ c ∧ c ≤ 9223372036854775807 ∧ Below w.heap.size w w' := by
  subst hn
  obtain ⟨A, c, rfl, ho, hb⟩ := h
  have hc := own_capc ho
  obtain ⟨A', c', he, hl, hcc⟩ := own_lists ho
  cases he
  exact ⟨A, c, rfl, hl, hcc, hc, hb⟩
theorem enc1_p0 (W : World) : Calls Try.prog 11 #[.slice (some ⟨W.heap.size, 0, none⟩) 1 1] (W.alloc (.cells #[.int .i64 3, .int .i64 16384, .int .i64 0, .int .i64 0, .int .i64 16384, .bool false, .int .i64 10, .int .i64 (-20), .bool false, .int .i64 0, .int .i64 0] 36)) fun e w' => ∃ A c, e = .returned (.tuple #[.slice A 16 c, .int .i64 0]) ∧ Hid (Lists w' w'.heap.size A (encE [] P0)) ∧ 16 ≤ c ∧ c ≤ 9223372036854775807 ∧ Below W.heap.size W w' :=
  (enc_p0 W.heap.size (W.alloc (.cells #[.int .i64 3, .int .i64 16384, .int .i64 0, .int .i64 0, .int .i64 16384, .bool false, .int .i64 10, .int .i64 (-20), .bool false, .int .i64 0, .int .i64 0] 36)) ((lists_row W (prL P0) 36).more (by simp))).mono fun e w' h => by
    obtain ⟨A, c, h1, h2, h3, h4, h5⟩ := gave_out h p0_len
    exact ⟨A, c, h1, Lib.hid h2, h3, h4, ((Below.refl _ _).alloc (Nat.le_refl _) _).trans (h5.mono (by simp))⟩
theorem dec_p0 (A : Option Addr) (c : Nat) (w : World) (hE : Hid (Lists w w.heap.size A (encE [] P0))) (hc : 16 ≤ c) (hc2 : c ≤ 9223372036854775807) : Calls Try.prog 7 #[.slice A 16 c] w fun e w' => ∃ A c, e = .returned (.tuple #[.slice A 1 c, .int .i64 0]) ∧ Hid (Lists w' w'.heap.size A (prL P0)) ∧ Below w.heap.size w w' := by
  have h := decode_any A c (encE [] P0) w hE.out (encE_bytes _ _) (by rw [p0_len]; exact hc) hc2 (by rw [p0_len]; decide)
  rw [p0_len, p0_dec] at h
  exact h.mono fun e w' ⟨v, h1, h2, h3⟩ => by
    obtain ⟨A2, c2, rfl, hl, hcc⟩ := own_lists h2
    exact ⟨A2, c2, h1, Lib.hid (by simpa using hl), h3⟩
theorem dec_nil (w : World) : Calls Try.prog 7 #[.slice none 0 0] w fun e w' => ∃ A c, e = .returned (.tuple #[.slice A 0 c, .int .i64 110]) ∧ Below w.heap.size w w' := by
  have h := decode_any none 0 [] w (Lists.empty _ _ _) (fun u hu => by simp at hu) (by decide) (by decide) (by decide)
  rw [nil_dec] at h
  exact h.mono fun e w' ⟨v, h1, h2, h3⟩ => by
    obtain ⟨A2, c2, rfl, hl, hcc⟩ := own_lists h2
    exact ⟨A2, c2, h1, h3⟩

set_option maxRecDepth 100000 in
set_option maxHeartbeats 4000000 in
theorem lives12 (w : World) : Calls Try.prog 9 #[] w fun e w' => e = .returned (.bool true) ∧ Below w.heap.size w w' := by
  have CP := fun W => plain_any 3 10 (-20) W
  have CO := fun W => rone_any W
  have CM := fun W => pmay_any P0 W
  rw [p0_may] at CM
  have CE := eqPr_run P0 P0 true (by decide +kernel)
  have CG : ∀ (s s' : Operand) w, (eqGuard .eql 36 s s' (.agg (prL P0).toArray) (.agg (prL P0).toArray)).run Try.prog w = .ok () w := fun s s' w => run_eqGuard_agg w .eql 36 _ _ _ _ (by kernel_rfl)
  have PB : Try.prog.built 36 [(0, .int .i64 3), (1, .agg #[.int .i64 16384, .int .i64 0, .int .i64 0, .int .i64 16384]), (3, .int .i64 10), (4, .int .i64 (-20))] = some #[.int .i64 3, .int .i64 16384, .int .i64 0, .int .i64 0, .int .i64 16384, .bool false, .int .i64 10, .int .i64 (-20), .bool false, .int .i64 0, .int .i64 0] := by kernel_rfl
  simp only [prL, p0_cells, mtV, one14] at CP CO CM CE CG
  go_enter Try.func9, Try.ntmps9
  go_wp2_with (first
    | (go_at_call 15; ((with_reducible refine (CP _).mono ?_); rintro e w1 ⟨rfl, b1⟩))
    | (go_at_call 11; ((with_reducible refine (enc1_p0 _).mono ?_); rintro e w2 ⟨A2, c2, rfl, hl2, hc2, hm2, b2⟩; have B2 := b1.trans (b2.mono b1.size); have C2 := dec_p0 A2 c2 w2 hl2 hc2 hm2))
    | (go_at_call 7; ((with_reducible refine (C2).mono ?_); rintro e w3 ⟨A3, c3, rfl, hl3, b3⟩; have B3 := B2.trans (b3.mono B2.size)))
    | (go_at_call 7; ((with_reducible refine (dec_nil _).mono ?_); rintro e w4 ⟨A4, c4, rfl, b4⟩; have B4 := B3.trans (b4.mono B3.size); have hl4 := Lib.hid ((hl3.out.below b4).more b4.size))))
  obtain ⟨b, o, rfl, hb, g⟩ := one_at hl4.out
  refine wp_region_chain (fun W => Below w4.heap.size w4 W) [(0, false), (1, false), (2, false), (3, false), (4, false), (5, false), (6, false), (7, false), (8, false), (9, false), (10, false), (11, false), (12, false), (13, false), (14, false), (15, false), (16, false), (17, false), (18, false), (19, false), (20, true), (21, false), (22, false), (23, false), (24, false), (25, false), (26, false), (27, false), (28, false), (29, false), (30, false), (31, false), (32, true), (33, false), (34, false)] (by kernel_rfl) (by kernel_rfl) ((Below.refl _ _).drew) ?_
  repeat (first
    | (refine ChainL.skip (o := ?_) ?_ ?_ ?_; rotate_left; (focus (first | (simp only [List.getElem?_toArray, List.getElem?_cons_succ, List.getElem?_cons_zero]; with_reducible rfl) | (simp only [List.getElem?_toArray, List.getElem?_cons_zero]; with_reducible rfl))); (focus rfl); simp only [Act.put, List.setIfInBounds_toArray, List.set_cons_zero, List.set_cons_succ])
    | (refine ChainL.val (o := ?_) (v := ?_) ?_ ?_ ?_ ?_ ?_; rotate_left 2; (focus (first | (simp only [List.getElem?_toArray, List.getElem?_cons_succ, List.getElem?_cons_zero]; with_reducible rfl) | (simp only [List.getElem?_toArray, List.getElem?_cons_zero]; with_reducible rfl))); (focus (intro _ _ h; cases h)); (focus rfl); (focus (intro w' hI; have hL := run_loadAt_mid (P := Try.prog) w' b o 36 (prL P0) _ (range_below g (Nat.lt_of_lt_of_le hb (Nat.le_refl _)) hI) Try.underlying36 rfl (by rw [prLen]; kernel_rfl); simp only [prL, p0_cells] at hL; first | (have H := fun ρ o x => @exec_load _ ρ o _ _ x _ _ hL; refine H _ _ ?_ ?_ ?_; rotate_left; (focus rfl); (focus rfl)) | (go_simp <;> with_reducible rfl))); simp only [Act.put, List.setIfInBounds_toArray, List.set_cons_zero, List.set_cons_succ]))
  refine ChainL.call (o := ?_) (f := ?_) (args := ?_) ?_ ?_ ?_ ?_
  rotate_left 3
  (focus (simp only [List.getElem?_toArray, List.getElem?_cons_succ, List.getElem?_cons_zero]; with_reducible rfl))
  (focus rfl)
  (focus (go_simp; (constructor <;> with_reducible rfl)))
  refine (CO _).mono ?_
  rintro e w5 ⟨rfl, b5⟩
  have B5 := ((Below.refl w4.heap.size w4).drew).trans (b5.mono (by simp)); refine ⟨_, rfl, B5, ?_⟩
  simp only [Act.put, List.setIfInBounds_toArray, List.set_cons_zero, List.set_cons_succ]
  repeat (first
    | (refine ChainL.skip (o := ?_) ?_ ?_ ?_; rotate_left; (focus (first | (simp only [List.getElem?_toArray, List.getElem?_cons_succ, List.getElem?_cons_zero]; with_reducible rfl) | (simp only [List.getElem?_toArray, List.getElem?_cons_zero]; with_reducible rfl))); (focus rfl); simp only [Act.put, List.setIfInBounds_toArray, List.set_cons_zero, List.set_cons_succ])
    | (refine ChainL.val (o := ?_) (v := ?_) ?_ ?_ ?_ ?_ ?_; rotate_left 2; (focus (first | (simp only [List.getElem?_toArray, List.getElem?_cons_succ, List.getElem?_cons_zero]; with_reducible rfl) | (simp only [List.getElem?_toArray, List.getElem?_cons_zero]; with_reducible rfl))); (focus (intro _ _ h; cases h)); (focus rfl); (focus (intro w' hI; have hL := run_loadAt_mid (P := Try.prog) w' b o 36 (prL P0) _ (range_below g (Nat.lt_of_lt_of_le hb (Nat.le_refl _)) hI) Try.underlying36 rfl (by rw [prLen]; kernel_rfl); simp only [prL, p0_cells] at hL; first | (have H := fun ρ o x => @exec_load _ ρ o _ _ x _ _ hL; refine H _ _ ?_ ?_ ?_; rotate_left; (focus rfl); (focus rfl)) | (go_simp <;> with_reducible rfl))); simp only [Act.put, List.setIfInBounds_toArray, List.set_cons_zero, List.set_cons_succ]))
  refine ChainL.call (o := ?_) (f := ?_) (args := ?_) ?_ ?_ ?_ ?_
  rotate_left 3
  (focus (simp only [List.getElem?_toArray, List.getElem?_cons_succ, List.getElem?_cons_zero]; with_reducible rfl))
  (focus rfl)
  (focus (go_simp; (constructor <;> with_reducible rfl)))
  refine (CM _).mono ?_
  rintro e w6 ⟨rfl, b6⟩
  have B6 := B5.trans (b6.mono B5.size); refine ⟨_, rfl, B6, ?_⟩
  simp only [Act.put, List.setIfInBounds_toArray, List.set_cons_zero, List.set_cons_succ]
  repeat (first
    | (refine ChainL.skip (o := ?_) ?_ ?_ ?_; rotate_left; (focus (first | (simp only [List.getElem?_toArray, List.getElem?_cons_succ, List.getElem?_cons_zero]; with_reducible rfl) | (simp only [List.getElem?_toArray, List.getElem?_cons_zero]; with_reducible rfl))); (focus rfl); simp only [Act.put, List.setIfInBounds_toArray, List.set_cons_zero, List.set_cons_succ])
    | (refine ChainL.val (o := ?_) (v := ?_) ?_ ?_ ?_ ?_ ?_; rotate_left 2; (focus (first | (simp only [List.getElem?_toArray, List.getElem?_cons_succ, List.getElem?_cons_zero]; with_reducible rfl) | (simp only [List.getElem?_toArray, List.getElem?_cons_zero]; with_reducible rfl))); (focus (intro _ _ h; cases h)); (focus rfl); (focus (intro w' hI; have hL := run_loadAt_mid (P := Try.prog) w' b o 36 (prL P0) _ (range_below g (Nat.lt_of_lt_of_le hb (Nat.le_refl _)) hI) Try.underlying36 rfl (by rw [prLen]; kernel_rfl); simp only [prL, p0_cells] at hL; first | (have H := fun ρ o x => @exec_load _ ρ o _ _ x _ _ hL; refine H _ _ ?_ ?_ ?_; rotate_left; (focus rfl); (focus rfl)) | (go_simp <;> with_reducible rfl))); simp only [Act.put, List.setIfInBounds_toArray, List.set_cons_zero, List.set_cons_succ]))
  refine ChainL.nil ?_
  go_wp2
  go_ret
  exact ⟨rfl, B4.trans (B6.mono B4.size)⟩
end Go.Proofs.Ytekailhghjideaa

namespace Go.Proofs.Ytekailhghjideaa
open Go Go.RowKit

/-- May n glyphs be, m of which have an advance of their own? -/
def cmB (n m : Int) : Bool := inB 1 65535 n && inB 1 n m
theorem cmB_true {n m : Int} (h : cmB n m = true) : 1 ≤ n ∧ n ≤ 65535 ∧ 1 ≤ m ∧ m ≤ n := by
  unfold cmB at h
  rw [Bool.and_eq_true] at h
  have := inB_true h.1
  have := inB_true h.2
  omega
theorem cmB_yes {n m : Int} (h1 : 1 ≤ n) (h2 : n ≤ 65535) (h3 : 1 ≤ m) (h4 : m ≤ n) : cmB n m = true := by
  unfold cmB; rw [inB_yes h1 h2, inB_yes h3 h4]; rfl

/-- Metrics as cells. -/
def metCells : List (Int × Int) → List Value
  | [] => []
  | (a, b) :: r => .int .i64 a :: .int .i64 b :: metCells r
theorem metCells_len : ∀ L : List (Int × Int), (metCells L).length = L.length * 2
  | [] => rfl
  | _ :: r => by simp only [metCells, List.length_cons, metCells_len r]; omega
theorem metCells_snoc (a b : Int) : ∀ L, metCells (L ++ [(a, b)]) = metCells L ++ [.int .i64 a, .int .i64 b]
  | [] => rfl
  | (_, _) :: r => by simp only [List.cons_append, metCells, metCells_snoc a b r]
theorem metCells_at : ∀ (L : List (Int × Int)) (k : Nat) (a b : Int), L[k]? = some (a, b) → (metCells L)[k * 2]? = some (.int .i64 a) ∧ (metCells L)[k * 2 + 1]? = some (.int .i64 b)
  | [], k, a, b, h => by simp at h
  | (x, y) :: r, 0, a, b, h => by
    simp only [List.getElem?_cons_zero, Option.some.injEq, Prod.mk.injEq] at h
    obtain ⟨rfl, rfl⟩ := h
    exact ⟨rfl, rfl⟩
  | (x, y) :: r, k + 1, a, b, h => by
    have := metCells_at r k a b (by simpa using h)
    rw [show (k + 1) * 2 = k * 2 + 1 + 1 by omega]
    exact this
theorem metCells_one : ∀ L : List (Int × Int), ∀ u ∈ metCells L, u.oneCell' = true
  | [], u, h => (nomatch h)
  | (x, y) :: r, u, h => by
    simp only [metCells, List.mem_cons] at h
    rcases h with rfl | rfl | h
    · rfl
    · rfl
    · exact metCells_one r u h

end Go.Proofs.Ytekailhghjideaa

namespace Go.Proofs.Ytekailhghjideaa
open Go.ChangeShapes Go.WideShapes Go.ChangeAt Go.RowKit

theorem choose_list {α : Type} {p : Nat → α → Prop} : ∀ {n : Nat}, (∀ i, i < n → ∃ x, p i x) → ∃ L : List α, L.length = n ∧ ∀ i x, L[i]? = some x → p i x
  | 0, _ => ⟨[], rfl, fun i x h => by simp at h⟩
  | n + 1, h => by
    obtain ⟨L, h1, h2⟩ := choose_list (n := n) fun i hi => h i (by omega)
    obtain ⟨x, hx⟩ := h n (by omega)
    refine ⟨L ++ [x], by simp [h1], fun i y hy => ?_⟩
    rcases Nat.lt_or_ge i n with hi | hi
    · rw [List.getElem?_append_left (by omega)] at hy
      exact h2 i y hy
    · rw [List.getElem?_append_right (by omega)] at hy
      have h3 : i - L.length = 0 := by
        rcases Nat.eq_zero_or_pos (i - L.length) with h | h
        · exact h
        · rw [List.getElem?_eq_none (by simp; omega)] at hy; cases hy
      rw [h3] at hy
      cases hy
      rw [show i = n by omega]
      exact hx

section
variable {H : Type} {enc : TypeId × Value → H} {P : Program}
theorem open_bytes {w : World} {t e : TypeId} {base : Nat} {spare : Nat → Bool} {held : Bool} {r : Reach} {b0 : Nat} {v : Value} {d : DataW H} {p : List MemPlace}
    (hs : P.underlying t = some (.slice e)) (he : P.underlying e = some (.int .u8)) (hC : P.cellsOf e = 1) (hb : P.bytesOf e = 1)
    (hv : Value.okWide P w r b0 t v) (h : DataW.Trod enc P w base spare held t v d p) (hz : ∀ m ∈ d.weights P t, m ≤ reachBytes) :
    ∃ (A : Option Addr) (c : Nat) (E : List Value), v = .slice A E.length c ∧ E.length ≤ c ∧ c ≤ 9223372036854775807 ∧ Lists w w.heap.size A E ∧ Bytes8 E ∧ E.length ≤ 140737488355328 := by
  obtain ⟨a0, len, cap, rfl⟩ := okWide_slice hs hv
  obtain ⟨fuel, hf⟩ := h
  rw [show (Value.slice a0 len cap).cells = #[.slice a0 len cap] from rfl] at hf
  obtain ⟨A, n, c, zs, hv1, hlen, hnc, hcm, hL, hwf, hw⟩ := open_nums hs he hC hf
  have h1 := hw reachBytes hz
  rw [hb] at h1
  have hr := reachBytes_lt
  unfold maxLen at hcm
  refine ⟨A, c, zs.map (Value.int .u8), by rw [List.length_map, hlen]; exact hv1, by rw [List.length_map]; omega, hcm, hL, bytes_of_wf hwf, by rw [List.length_map]; omega⟩

theorem open_mets {w : World} {t e : TypeId} {f0 f1 : Field} {base : Nat} {spare : Nat → Bool} {held : Bool} {r : Reach} {b0 : Nat} {v : Value} {d : DataW H} {p : List MemPlace}
    (ht : P.underlying t = some (.slice e)) (he : P.underlying e = some (.struct #[f0, f1])) (hone : Deep.oneCellFields P #[f0, f1] = true) (hC : P.cellsOf e = 2)
    (i0 : P.underlying f0.type = some (.int .i64)) (i1 : P.underlying f1.type = some (.int .i64))
    (hv : Value.okWide P w r b0 t v) (h : DataW.Trod enc P w base spare held t v d p) :
    ∃ (A : Option Addr) (c : Nat) (L : List (Int × Int)), v = .slice A L.length c ∧ L.length ≤ c ∧ c ≤ 9223372036854775807 ∧ Lists w w.heap.size A (metCells L) := by
  obtain ⟨a0, len, cap, rfl⟩ := okWide_slice ht hv
  obtain ⟨fuel, hf⟩ := h
  rcases Deep.open_slice ht hf with ⟨hcs, _⟩ | ⟨a, len', cap', m, n, D, Pl, hcs, hb, hl, hm, hmm, hx, hi⟩
  · simp [Value.cells] at hcs
    obtain ⟨rfl, rfl, rfl⟩ := hcs
    exact ⟨none, 0, [], rfl, Nat.le_refl _, Nat.zero_le _, Lists.empty _ _ _⟩
  · simp [Value.cells] at hcs
    obtain ⟨rfl, rfl, rfl⟩ := hcs
    unfold maxLen at hm
    have hlm : len ≤ m := by split at hmm <;> omega
    obtain ⟨L, hLl, hL⟩ := choose_list (n := len) (p := fun i (q : Int × Int) => w.cell? (a.add (i * 2)) = some (.int .i64 q.1) ∧ w.cell? (a.add (i * 2 + 1)) = some (.int .i64 q.2)) fun i hil => by
      obtain ⟨cs', hc, ht'⟩ := hi i (by omega)
      rw [hC] at hc
      obtain ⟨ys, n', _, hy, _, hyl, hg⟩ := DataW.trod_struct he ht'
      obtain ⟨_, hcl, hat⟩ := World.cells?_some hc
      match cs', hcl with
      | [c0, c1], _ =>
        match ys, hyl with
        | [y0, y1], _ =>
          have k0 := one_of hone hg (j := 0) rfl rfl rfl
          have k1 := one_of hone hg (j := 1) rfl rfl rfl
          obtain ⟨z0, e0, _, _⟩ := DataW.trod_int i0 k0
          obtain ⟨z1, e1, _, _⟩ := DataW.trod_int i1 k1
          simp only [List.cons.injEq, and_true] at e0 e1
          subst e0 e1
          have a0 : w.cell? (a.add (i * 2)) = some (.int .i64 z0) := by have := hat 0 (by omega); rw [Go.Deep.add_add] at this; exact this
          have a1 : w.cell? (a.add (i * 2 + 1)) = some (.int .i64 z1) := by have := hat 1 (by omega); rw [Go.Deep.add_add] at this; exact this
          exact ⟨(z0, z1), a0, a1⟩
    have hcell : ∀ j u, (metCells L)[j]? = some u → w.cell? (a.add j) = some u := fun j u hu => by
      have hj : j < L.length * 2 := by
        rcases Nat.lt_or_ge j (L.length * 2) with h | h
        · exact h
        · rw [List.getElem?_eq_none (by rw [metCells_len]; exact h)] at hu; cases hu
      obtain ⟨q, hq⟩ : ∃ q, L[j / 2]? = some q := ⟨L[j / 2]'(by omega), List.getElem?_eq_getElem _⟩
      obtain ⟨h1, h2⟩ := metCells_at L (j / 2) q.1 q.2 hq
      obtain ⟨h3, h4⟩ := hL _ _ hq
      rcases Nat.mod_two_eq_zero_or_one j with h | h
      · rw [show j / 2 * 2 = j by omega] at h1 h3
        rw [h1] at hu; cases hu; exact h3
      · rw [show j / 2 * 2 + 1 = j by omega] at h2 h4
        rw [h2] at hu; cases hu; exact h4
    refine ⟨some a, cap, L, by rw [hLl], by omega, hm, ⟨fun ha => (nomatch ha), fun a' ha => ?_, fun a' ha hne => ?_⟩⟩
    · cases ha; exact hcell
    · cases ha
      have h0 : 0 < (metCells L).length := by
        rcases Nat.eq_zero_or_pos (metCells L).length with h | h
        · exact absurd (List.eq_nil_of_length_eq_zero h) hne
        · exact h
      have := cell_lt (hcell 0 _ (List.getElem?_eq_getElem h0))
      rwa [addr_add_block] at this
end

end Go.Proofs.Ytekailhghjideaa

namespace Go.Proofs.Ytekailhghjideaa
open Go Go.RowKit

/-- The reference's writer at block q. -/
def RWr (w : World) (q R : Nat) (F : Bool) (L : List Value) (fp : List Nat) : Prop :=
  ∃ bv, Blk w q 62 #[bv, .int .i64 (R : Nat), .bool F] ∧ w.ownsRow 0 5 1 bv L.length L ∧ Bytes8 L ∧ L.length ≤ R ∧ fp = q :: blk bv
def RPut (w w' : World) (q R : Nat) (F : Bool) (L : List Value) (fp : List Nat) (E : List Value) : Prop :=
  ∃ fp', RWr w' q R (putF R F L E) (putL R F L E) fp' ∧ Only w w' fp ∧ ∀ b ∈ fp', b ∈ fp ∨ w.heap.size ≤ b

theorem own_mono {w : World} {base : Nat} {e : TypeId} {size n : Nat} {v : Value} {xs : List Value} (h : w.ownsRow base e size v n xs) : w.ownsRow 0 e size v n xs :=
  ⟨h.1, h.2.imp id fun ⟨g, cap, cur, h1, _, h3⟩ => ⟨g, cap, cur, h1, Nat.zero_le _, h3⟩⟩

theorem RWr.lt {w : World} {q R : Nat} {F : Bool} {L : List Value} {fp : List Nat} (h : RWr w q R F L fp) : ∀ b ∈ fp, b < w.heap.size := by
  obtain ⟨bv, hb, hd, _, _, rfl⟩ := h
  intro b hm
  rcases List.mem_cons.1 hm with rfl | hm
  · exact hb.lt
  · exact blk_lt hd b hm
theorem RWr.only {w w1 : World} {q R : Nat} {F : Bool} {L : List Value} {fp fq : List Nat} (h : RWr w q R F L fp) (k : Only w w1 fq) (hn : ∀ b ∈ fp, b ∉ fq) : RWr w1 q R F L fp := by
  obtain ⟨bv, hb, hd, h2, h3, rfl⟩ := h
  exact ⟨bv, hb.only k (hn q (by simp)), own_only hd k (fun b hm => hn b (by simp [hm])), h2, h3, rfl⟩

set_option maxRecDepth 100000 in
set_option maxHeartbeats 1000000 in
theorem rdata_any (q R : Nat) (F : Bool) (L : List Value) (fp : List Nat) (A : Option Addr) (m c B : Nat) (E : List Value) (w : World) (hW : RWr w q R F L fp) (hR : R ≤ 1099511627776) (hE : Lists w B A E) (hm : E.length = m) (hB : B ≤ w.heap.size) (h8 : Bytes8 E) :
    Calls Try.prog 34 #[.pointer (some ⟨q, 0, none⟩), .slice A m c] w fun e w' => e = .returned (.tuple #[]) ∧ RPut w w' q R F L fp E := by
  obtain ⟨bv, hb, hd, k2, k3, k5⟩ := id hW
  obtain ⟨A0, c0, rfl, lD, hc0⟩ := own_lists hd
  have n1 := own_ne hd hb (by decide)
  have HK : ∀ w', Below w.heap.size w w' → KB w' [(q, [.slice A0 L.length c0, .int .i64 (R : Nat), .bool F])] := fun w' hS => (hb.below hS).kb
  have s1 : IntKind.i64.wrap ((R : Int) - (L.length : Int)) = (R : Int) - (L.length : Int) := IntWalk.i64_in _ (by omega)
  have HM := Lib.hid hm
  have H5 := Lib.hid k5
  have HW := Lib.hid hW
  cases hf : putF R F L E
  · have hF : F = false := by unfold putF at hf; simp at hf; exact hf.1
    have hx : L.length + E.length ≤ R := by unfold putF at hf; simp at hf; exact hf.2
    subst hF
    have d1 : decide ((R : Int) - (L.length : Int) < (m : Int)) = false := by simp; omega
    have HX := Lib.hid hx
    have HF := Lib.hid hf
    obtain ⟨i0, hi, hz0, hz1, hz2⟩ := info_parts u8Info
    clear hm k5 hW hf hx
    go_enter Try.func34, Try.ntmps34
    go_wp2
    refine wp_region_plan (fun w' => Below w.heap.size w w') _ rfl (by kernel_rfl) (by kernel_rfl) ((Below.refl _ _).drew) ?_
    repeat (first
      | (refine PlanL.skip (by rfl) ?_; simp only [Act.put, List.setIfInBounds_toArray, List.set_cons_zero, List.set_cons_succ])
      | (refine PlanL.val (v := ?_) (by rfl) ?_ ?_; rotate_left; (focus (intro w' hS; have F := HK _ hS; simp only [KB, CellsAt, Nat.zero_add, Nat.reduceAdd, and_true] at F; go_simp <;> with_reducible rfl)); try simp only [Act.put, List.setIfInBounds_toArray, List.set_cons_zero, List.set_cons_succ]))
    refine PlanL.nil ?_
    intro w' hS
    have F := HK _ hS; simp only [KB, CellsAt, Nat.zero_add, Nat.reduceAdd, and_true] at F
    have hb1 := hb.below hS
    clear HK s1
    go_wp2_with (first | (at_builtin; refine wpList_append_src _ rfl (.tmp 27) (.tmp 31) 22 rfl w'.heap.size 5 i0 (.int .u8 0) 1 1 Try.underlying22 hi hz0 hz1 hz2 rfl (by decide) (.slice (some ⟨w'.heap.size, 0, none⟩) 0 0) 0 [] rfl ⟨rfl, .inr ⟨w'.heap.size, 0, #[], rfl, Nat.le_refl _, heap_alloc_new w' _, Nat.le_refl _, Nat.zero_le _, rfl, rfl⟩⟩ w.heap.size A0 L.length c0 L rfl ((lD.below hS).alloc hS.size _) (by rw [Nat.mul_one]) k2.one (by simp only [maxLen]; omega) (by omega) (by simp) ?_; intro v1 w1 hown1 hg1 hat1; rw [Nat.zero_add, List.nil_append] at hown1; have b1 : Below w.heap.size w w1 := (hS.alloc hS.size _).grown hg1 (by simp; have := hS.size; omega) (fun j hj => by cases hj; exact hS.size); have t1 : ∀ b ∈ blk v1, w.heap.size ≤ b := (fun b hb => by have := hS.size; rcases hat1 with e | e <;> (unfold blk at hb; rw [e] at hb; simp [Value.ownBlock] at hb; omega))) | (at_builtin; refine wpList_append_src _ rfl (.tmp 32) (.tmp 33) 22 rfl w'.heap.size 5 i0 (.int .u8 0) 1 1 Try.underlying22 hi hz0 hz1 hz2 rfl (by decide) v1 L.length L rfl hown1 w.heap.size A m c E rfl ((hE.below (b1.mono hB)).more hB) (by rw [HM.out, Nat.mul_one]) h8.one (by simp only [maxLen]; have := HM.out; have := HX.out; omega) (by have := HM.out; have := HX.out; omega) (by have := hg1.size; simp at this; omega) ?_; intro v2 w2 hown2 hg2 hat2; obtain ⟨A2, k2', rfl, _, _⟩ := own_lists hown2; have b2 : Below w.heap.size w w2 := b1.grown hg2 b1.size (fun j hj => t1 j (by unfold blk; rw [hj]; simp)); have hb2 := hb.below b2; have F2 := hb2.kb; simp only [KB, CellsAt, Nat.zero_add, Nat.reduceAdd, and_true] at F2))
    go_end0
    obtain ⟨v2, hv2⟩ : ∃ v, v = Value.slice A2 (L.length + m) k2' := ⟨_, rfl⟩
    rw [← hv2] at hown2 hat2 ⊢
    have n2 := own_ne hown2 hb2 (by decide)
    have o3 : Only w2 (w2.setCell ⟨q, 0, none⟩ v2) [q] := (Only.refl _ _).set (.inl (by simp)) _
    refine ⟨rfl, q :: blk v2, ?_, ?_, ?_⟩
    · rw [HF.out]
      unfold putL
      rw [HF.out, if_neg (by simp)]
      refine ⟨v2, hb2.set 0 v2, ?_, k2.append h8, by rw [List.length_append]; exact HX.out, rfl⟩
      rw [show (L ++ E).length = L.length + m by rw [List.length_append, HM.out]]
      exact own_only (own_mono hown2) o3 (fun b hm e => by simp at e; subst e; exact n2 hm)
    · rw [H5.out]
      exact (Only.of_below b2 _).set (.inl (by simp)) _
    · intro b hm
      rw [H5.out]
      rcases List.mem_cons.1 hm with rfl | hm
      · exact .inl (by simp)
      · right
        rcases hat2 with e | e
        · exact t1 b (by unfold blk at hm ⊢; rw [← e]; exact hm)
        · have : b = w1.heap.size := by unfold blk at hm; rw [e] at hm; simpa using hm
          have := b1.size
          omega
  · have hx : F = true ∨ (F = false ∧ R < L.length + E.length) := by
      unfold putF at hf
      cases F
      · simp at hf; exact .inr ⟨rfl, hf⟩
      · exact .inl rfl
    have hfin : ∀ w', Below w.heap.size w w' → RPut w (w'.setCell ⟨q, 2, none⟩ (.bool true)) q R F L fp E := fun w' hS => by
      have o3 : Only w (w'.setCell ⟨q, 2, none⟩ (.bool true)) [q] := (Only.of_below hS _).set (.inl (by simp)) _
      refine ⟨fp, ?_, by rw [H5.out]; exact o3.more (fun b hm => by simp at hm; subst hm; simp), fun b hm => .inl hm⟩
      rw [hf]
      unfold putL
      rw [hf, if_pos rfl]
      exact ⟨_, (hb.below hS).set 2 (.bool true), own_only hd o3 (fun b hm e => by simp at e; subst e; exact n1 hm), k2, k3, k5⟩
    have HFIN := Lib.hid hfin
    rcases hx with rfl | ⟨rfl, hx⟩
    · clear hm k5 hW hf hfin
      go_enter Try.func34, Try.ntmps34
      go_wp2
      refine wp_region_plan (fun w' => Below w.heap.size w w') _ rfl (by kernel_rfl) (by kernel_rfl) ((Below.refl _ _).drew) ?_
      repeat (first
        | (refine PlanL.skip (by rfl) ?_; simp only [Act.put, List.setIfInBounds_toArray, List.set_cons_zero, List.set_cons_succ])
        | (refine PlanL.val (v := ?_) (by rfl) ?_ ?_; rotate_left; (focus (intro w' hS; have F := HK _ hS; simp only [KB, CellsAt, Nat.zero_add, Nat.reduceAdd, and_true] at F; go_simp <;> with_reducible rfl)); try simp only [Act.put, List.setIfInBounds_toArray, List.set_cons_zero, List.set_cons_succ]))
      refine PlanL.nil ?_
      intro w' hS
      have F := HK _ hS; simp only [KB, CellsAt, Nat.zero_add, Nat.reduceAdd, and_true] at F
      clear HK s1
      go_wp2
      refine bodyPost_ret (results_none rfl _ _ _) rfl ?_
      exact ⟨rfl, HFIN.out _ hS⟩
    · have d1 : decide ((R : Int) - (L.length : Int) < (m : Int)) = true := by simp; omega
      clear hm k5 hW hf hfin hx
      go_enter Try.func34, Try.ntmps34
      go_wp2
      refine wp_region_plan (fun w' => Below w.heap.size w w') _ rfl (by kernel_rfl) (by kernel_rfl) ((Below.refl _ _).drew) ?_
      repeat (first
        | (refine PlanL.skip (by rfl) ?_; simp only [Act.put, List.setIfInBounds_toArray, List.set_cons_zero, List.set_cons_succ])
        | (refine PlanL.val (v := ?_) (by rfl) ?_ ?_; rotate_left; (focus (intro w' hS; have F := HK _ hS; simp only [KB, CellsAt, Nat.zero_add, Nat.reduceAdd, and_true] at F; go_simp <;> with_reducible rfl)); try simp only [Act.put, List.setIfInBounds_toArray, List.set_cons_zero, List.set_cons_succ]))
      refine PlanL.nil ?_
      intro w' hS
      have F := HK _ hS; simp only [KB, CellsAt, Nat.zero_add, Nat.reduceAdd, and_true] at F
      clear HK s1
      go_wp2
      refine bodyPost_ret (results_none rfl _ _ _) rfl ?_
      exact ⟨rfl, HFIN.out _ hS⟩

end Go.Proofs.Ytekailhghjideaa
