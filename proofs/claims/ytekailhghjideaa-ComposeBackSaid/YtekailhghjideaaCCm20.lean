/- Part 21 of the proof: CmQ, CmBk, CmOp, CmLw. -/
import Derived.Test.YtekailhghjideaaCCm19

namespace Go.Proofs.Ytekailhghjideaa
open Go Go.RowKit
set_option linter.unusedVariables false
set_option linter.unusedSimpArgs false

theorem flags_same : ∀ (mm t f more : Bool) (s : Int), s = 0 ∨ s = 8 ∨ s = 64 ∨ s = 128 → f4Of (f3Of (f2Of (f1Of mm t) f) s) more =
    (if more then bits .or .i64 (if f then (if mm then s else if t then bits .or .i64 s 2050 else bits .or .i64 s 4098) else bits .or .i64 (if mm then s else if t then bits .or .i64 s 2050 else bits .or .i64 s 4098) 1) 32 else (if f then (if mm then s else if t then bits .or .i64 s 2050 else bits .or .i64 s 4098) else bits .or .i64 (if mm then s else if t then bits .or .i64 s 2050 else bits .or .i64 s 4098) 1)) := by
  intro mm t f more s h
  rcases h with rfl | rfl | rfl | rfl <;> cases mm <;> cases t <;> cases f <;> cases more <;> first | rfl | decide
theorem putX_putE (P : Prt) (more : Bool) : putX (f4Of (f3Of (f2Of (f1Of P.2.2.1 P.2.2.2.2.2.1) (fitsP P)) (shortN P.2.1).1) more) P.1 (fitsP P) (argsP P).1 (argsP P).2 (numsM P.2.1 (shortN P.2.1).2.toNat) = putE P (if more then bits .or .i64 (flagP P) 32 else flagP P) (!fitsP P) := by
  have h := flags_same P.2.2.1 P.2.2.2.2.2.1 (fitsP P) more (shortN P.2.1).1 (shortN_1 P.2.1)
  rw [h]
  unfold putX putE flagP
  cases fitsP P <;> rfl
theorem fits_sm {P : Prt} (h : mayP P = true) : fitsP P = smOf P.2.2.1 P.2.2.2.1 P.2.2.2.2.1 P.2.2.2.2.2.2.1 P.2.2.2.2.2.2.2 := by
  obtain ⟨g, m, mm, x, y, t, p, q⟩ := P
  cases mm
  · simp [fitsP, smOf, argsP, inB, Bool.and_assoc]
    rw [Bool.eq_iff_iff]
    simp
    omega
  · simp [mayP, inB] at h
    simp [fitsP, smOf, argsP, inB]
    rw [Bool.eq_iff_iff]
    simp
    omega
theorem short_form (a b c d : Int) : let s := shortN (a, b, c, d); (s.1 = 0 ∧ numsM (a, b, c, d) s.2.toNat = [] ∧ a = 16384 ∧ b = 0 ∧ c = 0 ∧ d = 16384) ∨ (s.1 = 8 ∧ numsM (a, b, c, d) s.2.toNat = [a] ∧ b = 0 ∧ c = 0 ∧ a = d ∧ a ≠ 16384) ∨ (s.1 = 64 ∧ numsM (a, b, c, d) s.2.toNat = [a, d] ∧ b = 0 ∧ c = 0 ∧ a ≠ d) ∨ (s.1 = 128 ∧ numsM (a, b, c, d) s.2.toNat = [a, b, c, d] ∧ (b ≠ 0 ∨ (b = 0 ∧ c ≠ 0))) := by
  intro s
  show (s.1 = 0 ∧ _) ∨ _
  unfold s shortN
  by_cases h1 : ((a, b, c, d) : Mtx) = one14
  · rw [if_pos (by rw [h1]; rfl)]
    left
    simp [one14] at h1
    obtain ⟨rfl, rfl, rfl, rfl⟩ := h1
    exact ⟨rfl, rfl, rfl, rfl, rfl, rfl⟩
  · rw [if_neg (by intro h; exact h1 (eq_of_beq h))]
    by_cases h2 : ((a, 0, 0, a) : Mtx) = (a, b, c, d)
    · rw [if_pos (by rw [h2]; simp)]
      right; left
      simp at h2
      obtain ⟨rfl, rfl, rfl⟩ := h2
      refine ⟨rfl, rfl, rfl, rfl, rfl, fun h => h1 (by subst h; rfl)⟩
    · rw [if_neg (by intro h; exact h2 (eq_of_beq h))]
      by_cases h3 : ((a, 0, 0, d) : Mtx) = (a, b, c, d)
      · rw [if_pos (by rw [h3]; simp)]
        right; right; left
        simp at h3
        obtain ⟨rfl, rfl⟩ := h3
        exact ⟨rfl, rfl, rfl, rfl, fun h => h2 (by rw [h])⟩
      · rw [if_neg (by intro h; exact h3 (eq_of_beq h))]
        right; right; right
        refine ⟨rfl, rfl, ?_⟩
        by_cases hb : b = 0
        · refine .inr ⟨hb, fun hc => h3 (by rw [hb, hc])⟩
        · exact .inl hb
/-- What the reference puts of a part that may be. -/
theorem rput_prt (w0 w : World) (q R : Nat) (L : List Value) (P : Prt) (more : Bool) (h : RWS w0 w q R L) (hx : L.length + 16 ≤ R) (hR : R ≤ 1099511627776) (hm : mayP P = true) :
    Calls Try.prog 35 #[.pointer (some ⟨q, 0, none⟩), .agg (prL P).toArray, .bool more] w (RWrote w0 q R L (putE P (if more then bits .or .i64 (flagP P) 32 else flagP P) (!fitsP P))) := by
  rw [← putX_putE P more]
  have hs := fits_sm hm
  obtain ⟨g, ⟨a, b, c, d⟩, mm, x, y, t, p, qq⟩ := P
  have h1 := rput_any w0 w q R L g a b c d mm x y t p qq more _ _ h hx hR (short_form a b c d)
  simp only at hs ⊢
  rw [hs]
  unfold argsP
  cases mm
  · exact h1
  · exact h1
set_option maxRecDepth 100000 in
theorem rencode_nil (A : Option Addr) (c : Nat) (w : World) : Calls Try.prog 12 #[.slice A 0 c] w fun e w' => e = .returned (.tuple #[.slice none 0 0, .int .i64 1]) ∧ Below w.heap.size w w' := by
  go_enter Try.func12, Try.ntmps12
  go_wp2
  exact bodyPost_ret (v := .tuple #[.slice none 0 0, .int .i64 1]) (by simp [results, Try.results12, go_sem]) rfl ⟨rfl, Below.refl _ _⟩
set_option maxRecDepth 100000 in
set_option maxHeartbeats 1000000 in
theorem rencode_bad (B : Nat) (A : Option Addr) (c : Nat) (L : List Prt) (w : World) (hB : B ≤ w.heap.size) (hL : Lists w B A (L.flatMap prL)) (hn : L.length ≤ 1099511627776) (h0 : L ≠ []) (hm : L.all mayP = false) :
    Calls Try.prog 12 #[.slice A L.length c] w fun e w' => e = .returned (.tuple #[.slice none 0 0, .int .i64 1]) ∧ Below w.heap.size w w' := by
  obtain ⟨n, hnn⟩ : ∃ n, L.length = n + 1 := ⟨L.length - 1, by have := List.length_pos_iff.2 h0; omega⟩
  have HL := Lib.hid hL
  have HM := Lib.hid hm
  rw [hnn] at hn ⊢
  have HN := Lib.hid hnn
  clear hL hm h0 hnn
  have z0 : (((n : Int) + 1) == 0) = false := by simp; omega
  go_enter Try.func12, Try.ntmps12
  go_wp2
  go_loopw [4] (fun i wr => ∃ k : Nat, k ≤ n + 1 ∧ i = .int .i64 k ∧ Hid ((L.take k).all mayP = true) ∧ Below w.heap.size w wr) (fun i _ => n + 1 - (intOf i).toNat)
  case atStart => exact ⟨0, by omega, rfl, Lib.hid rfl, Below.refl _ _⟩
  case round =>
    obtain ⟨k, hk, rfl, HK, hbw⟩ := hrel
    by_cases hlt : k < n + 1
    · have d1 : decide ((k : Int) < (n : Int) + 1) = true := by simp; omega
      obtain ⟨x, hx⟩ : ∃ x, L[k]? = some x := ⟨L[k]'(by rw [HN.out]; exact hlt), List.getElem?_eq_getElem _⟩
      obtain ⟨b, o, rfl, hb, hc⟩ := lists_flat prLen (by decide) HL.out hx
      have g0 := Lib.hid (range_below hc (Nat.lt_of_lt_of_le hb hB) hbw)
      have CM := fun W => rmay_any x W
      have HT := Lib.hid (show L.take (k + 1) = L.take k ++ [x] by rw [List.take_add_one, hx]; rfl)
      clear hc hx
      cases hy : mayP x
      · rw [hy] at CM
        clear hy
        go_wp2_with (first | (refine wpList_load_mid rfl 36 _ (by with_reducible rfl) b (o + k * 11) (by rfl) (prL x) _ g0.out Try.underlying36 rfl (by rw [prLen]; kernel_rfl) ?_) | (go_at_call 14; ((with_reducible refine (CM _).mono ?_); rintro e w2 ⟨rfl, b2⟩)))
        exact bodyPost_ret (v := .tuple #[.slice none 0 0, .int .i64 1]) (by simp [results, Try.results12, go_sem]) rfl ⟨rfl, hbw.trans (b2.mono hbw.size)⟩
      · rw [hy] at CM
        have HY := Lib.hid hy
        clear hy
        go_wp2_with (first | (refine wpList_load_mid rfl 36 _ (by with_reducible rfl) b (o + k * 11) (by rfl) (prL x) _ g0.out Try.underlying36 rfl (by rw [prLen]; kernel_rfl) ?_) | (go_at_call 14; ((with_reducible refine (CM _).mono ?_); rintro e w2 ⟨rfl, b2⟩)))
        go_roundw
        case rel => exact ⟨k + 1, by omega, by go_num, Lib.hid (by rw [HT.out, List.all_append, HK.out]; simp [HY.out]), hbw.trans (b2.mono hbw.size)⟩
        case measure => simp [intOf]; omega
    · exfalso
      have h1 := HK.out
      rw [List.take_of_length_le (by rw [HN.out]; omega), HM.out] at h1
      cases h1
set_option maxRecDepth 100000 in
set_option maxHeartbeats 2000000 in
theorem rencode_ok (B : Nat) (A : Option Addr) (c : Nat) (Ps : List Prt) (P : Prt) (w : World) (hB : B ≤ w.heap.size) (hL : Lists w B A ((Ps ++ [P]).flatMap prL)) (hn : Ps.length + 1 ≤ 1099511627776) (hm : (Ps ++ [P]).all mayP = true) :
    Calls Try.prog 12 #[.slice A (Ps.length + 1) c] w fun e w' => (Ps.length + 1 ≤ 64 → ∃ A c, e = .returned (.tuple #[.slice A (encE Ps P).length c, .int .i64 0]) ∧ Lists w' w'.heap.size A (encE Ps P)) ∧ (64 < Ps.length + 1 → e = .returned (.tuple #[.slice none 0 0, .int .i64 120])) ∧ Below w.heap.size w w' := by
  obtain ⟨n, hnn⟩ : ∃ n, Ps.length = n := ⟨_, rfl⟩
  have HL := Lib.hid hL
  have HM := Lib.hid (List.all_eq_true.1 hm)
  rw [hnn] at hn ⊢
  have HN := Lib.hid hnn
  have HNN := Lib.hid (show (Ps ++ [P]).length = n + 1 by rw [List.length_append, hnn]; rfl)
  clear hL hm hnn
  have z0 : (((n : Int) + 1) == 0) = false := by simp; omega
  go_enter Try.func12, Try.ntmps12
  go_upto_block 0 with (fail)
  go_cut [4] from 7 (fun i wx => Below w.heap.size w wx)
  case first =>
    go_wp2
    go_loopw [4] (fun i wr => ∃ k : Nat, k ≤ n + 1 ∧ i = .int .i64 k ∧ Below w.heap.size w wr) (fun i _ => n + 1 - (intOf i).toNat)
    case atStart => exact ⟨0, by omega, rfl, Below.refl _ _⟩
    case round =>
      obtain ⟨k, hk, rfl, hbw⟩ := hrel
      by_cases hlt : k < n + 1
      · have d1 : decide ((k : Int) < (n : Int) + 1) = true := by simp; omega
        obtain ⟨x, hx⟩ : ∃ x, (Ps ++ [P])[k]? = some x := ⟨(Ps ++ [P])[k]'(by rw [HNN.out]; exact hlt), List.getElem?_eq_getElem _⟩
        obtain ⟨b, o, rfl, hb, hc⟩ := lists_flat prLen (by decide) HL.out hx
        have g0 := Lib.hid (range_below hc (Nat.lt_of_lt_of_le hb hB) hbw)
        have CM := fun W => rmay_any x W
        have hy := HM.out x (List.mem_of_getElem? hx)
        rw [hy] at CM
        clear hc hx hy
        go_wp2_with (first | (refine wpList_load_mid rfl 36 _ (by with_reducible rfl) b (o + k * 11) (by rfl) (prL x) _ g0.out Try.underlying36 rfl (by rw [prLen]; kernel_rfl) ?_) | (go_at_call 14; ((with_reducible refine (CM _).mono ?_); rintro e w2 ⟨rfl, b2⟩)))
        go_roundw
        case rel => exact ⟨k + 1, by omega, by go_num, hbw.trans (b2.mono hbw.size)⟩
        case measure => simp [intOf]; omega
      · have d1 : decide ((k : Int) < (n : Int) + 1) = false := by simp; omega
        go_wp2
        go_meet
        case rel => exact hbw
  case rest =>
  have hbw := hcut
  clear hcut
  by_cases h64 : 64 < n + 1
  · have d1 : decide ((n : Int) + 1 > 64) = true := by simp; omega
    go_wp2
    exact bodyPost_ret (v := .tuple #[.slice none 0 0, .int .i64 120]) (by simp [results, Try.results12, go_sem]) rfl ⟨fun h => absurd h (by omega), fun _ => rfl, hbw⟩
  · have d1 : decide ((n : Int) + 1 > 64) = false := by simp; omega
    have h0 : RWS wc (wc.alloc (.cells #[.slice none 0 0, .int .i64 1048576, .bool false] 62)) wc.heap.size 1048576 [] := rws_new wc wc 1048576 _ rfl (Below.refl _ _)
    have hmk8 : ∀ w : World, (Instr.makeSlice 22 (.int .i64 8) (.int .i64 8)).run Try.prog w = .ok (.slice (some ⟨w.heap.size, 0, none⟩) 8 8) (w.alloc (.cells (zcs 8) 5)) := fun w => make_zcs 8 (by decide) w
    go_wp2_with (first
      | (go_at_call 33; ((with_reducible refine (rws_u2 _ _ _ 1048576 ([] : List Value) (-1) h0 (by decide) (by decide)).mono ?_); rintro e w1 ⟨rfl, h1⟩))
      | (go_at_call 34; ((with_reducible refine (rws_zeros _ _ _ 1048576 8 _ (be2 (-1)) rfl h1 (by decide) (by decide)).mono ?_); rintro e w2 ⟨rfl, h2⟩)))
    have h2 : RWS wc w2 wc.heap.size 1048576 (be2 (-1) ++ z8l ++ bodyE (Ps.take 0)) := by
      have e : z8s 8 = z8l := rfl
      have := h2
      rw [e] at this
      simpa [bodyE] using this
    go_loopw [6] (fun i wr => ∃ k : Nat, k ≤ n + 1 ∧ i = .int .i64 k ∧ (k ≤ n → RWS wc wr wc.heap.size 1048576 (be2 (-1) ++ z8l ++ bodyE (Ps.take k))) ∧ (k = n + 1 → RWS wc wr wc.heap.size 1048576 (encE Ps P))) (fun i _ => n + 1 - (intOf i).toNat)
    case atStart => exact ⟨0, by omega, rfl, fun _ => h2, fun h => absurd h (by omega)⟩
    case round =>
      obtain ⟨k, hk, rfl, ha, hz⟩ := hrel
      clear h0 h1 h2
      by_cases hlt : k < n + 1
      · have d1 : decide ((k : Int) < (n : Int) + 1) = true := by simp; omega
        have hW := ha (by omega)
        clear ha hz
        obtain ⟨x, hx⟩ : ∃ x, (Ps ++ [P])[k]? = some x := ⟨(Ps ++ [P])[k]'(by rw [HNN.out]; exact hlt), List.getElem?_eq_getElem _⟩
        have hbo := hW.old
        obtain ⟨b, o, rfl, hb, hc⟩ := lists_flat prLen (by decide) HL.out hx
        have g0 := Lib.hid (range_below hc (Nat.lt_of_lt_of_le hb hB) (hbw.trans (hbo.mono hbw.size)))
        have hy := HM.out x (List.mem_of_getElem? hx)
        have hlen := bodyE_len (Ps.take k)
        rw [List.length_take] at hlen
        have CP := fun more => rput_prt wc wr wc.heap.size 1048576 (be2 (-1) ++ z8l ++ bodyE (Ps.take k)) x more hW (by simp [be2, z8l]; omega) (by decide) hy
        by_cases hkn : k = n
        · subst hkn
          have d2 : decide ((k : Int) + 1 < (k : Int) + 1) = false := by simp
          have CPF := CP false
          have HE := Lib.hid (show be2 (-1) ++ z8l ++ bodyE (Ps.take k) ++ putE x (flagP x) (!fitsP x) = encE Ps P by
            rw [List.getElem?_append_right (by rw [HN.out]; exact Nat.le_refl _), HN.out, Nat.sub_self] at hx
            cases hx
            rw [List.take_of_length_le (by rw [HN.out]; exact Nat.le_refl _)]
            rfl)
          clear CP hc hx hy hlen hW
          go_wp2_with (first | (refine wpList_load_mid rfl 36 _ (by with_reducible rfl) b (o + k * 11) (by rfl) (prL x) _ g0.out Try.underlying36 rfl (by rw [prLen]; kernel_rfl) ?_) | (go_at_call 35; ((with_reducible refine (CPF).mono ?_); rintro e w3 ⟨rfl, h3⟩)))
          go_roundw
          case rel => exact ⟨k + 1, by omega, by go_num, fun h => absurd h (by omega), fun _ => (by have := h3; rw [if_neg (by simp), HE.out] at this; exact this)⟩
          case measure => simp [intOf]
        · have d2 : decide ((k : Int) + 1 < (n : Int) + 1) = true := by simp; omega
          have HE := Lib.hid (show be2 (-1) ++ z8l ++ bodyE (Ps.take k) ++ putE x (bits .or .i64 (flagP x) 32) (!fitsP x) = be2 (-1) ++ z8l ++ bodyE (Ps.take (k + 1)) by
            rw [List.getElem?_append_left (by rw [HN.out]; omega)] at hx
            have e : bodyE (Ps.take (k + 1)) = bodyE (Ps.take k) ++ putE x (bits .or .i64 (flagP x) 32) (!fitsP x) := by unfold bodyE; rw [List.take_add_one, hx, List.flatMap_append]; simp
            rw [e, ← List.append_assoc])
          clear hc hx hy hlen hW
          go_wp2_with (first | (refine wpList_load_mid rfl 36 _ (by with_reducible rfl) b (o + k * 11) (by rfl) (prL x) _ g0.out Try.underlying36 rfl (by rw [prLen]; kernel_rfl) ?_) | (go_at_call 35; ((with_reducible refine (CP _).mono ?_); rintro e w3 ⟨rfl, h3⟩)))
          go_roundw
          case rel => exact ⟨k + 1, by omega, by go_num, fun h => (by have := h3; rw [if_pos (by simp; omega), HE.out] at this; exact this), fun h => absurd h (by omega)⟩
          case measure => simp [intOf]; omega
      · obtain rfl : k = n + 1 := by omega
        have d1 : decide (((n + 1 : Nat) : Int) < (n : Int) + 1) = false := by simp
        have hW := hz rfl
        clear ha hz
        obtain ⟨A9, c9, gq, hl9, hc9⟩ := hW.give
        have hbo := hW.old
        clear hW
        go_wp2
        exact bodyPost_ret (v := .tuple #[.slice A9 (encE Ps P).length c9, .int .i64 0]) (by simp [results, Try.results12, go_sem]) rfl ⟨fun _ => ⟨A9, c9, rfl, hl9⟩, fun h => absurd h h64, hbw.trans (hbo.mono hbw.size)⟩
end Go.Proofs.Ytekailhghjideaa

namespace Go.Proofs.Ytekailhghjideaa
open Go Go.RowKit
set_option linter.unusedVariables false
set_option linter.unusedSimpArgs false

theorem at2 {bs A B : List Value} {x : Int} {k : Nat} (h : bs = A ++ be2 x ++ B) (hk : k = A.length) : ((rd2 bs k : Nat) : Int) = x % 65536 ∧ k + 2 ≤ bs.length := by
  subst h hk
  refine ⟨?_, by simp [be2]⟩
  rw [List.append_assoc, rd2_right 0 A.length (by omega)]
  exact rd2_be2 x B
theorem at1 {bs A B : List Value} {x : Int} {k : Nat} (h : bs = A ++ be1 x ++ B) (hk : k = A.length) : ((byteAt bs k : Nat) : Int) = x % 256 ∧ k + 1 ≤ bs.length := by
  subst h hk
  refine ⟨?_, by simp [be1]⟩
  have := byteAt_append_right (a := A) (b := be1 x ++ B) 0
  rw [Nat.add_zero] at this
  rw [List.append_assoc, this]
  have e : byteAt (be1 x ++ B) 0 = (x % 256).toNat := rfl
  rw [e]; omega
theorem r2n {bs A B : List Value} {x : Int} {k : Nat} (h : bs = A ++ be2 x ++ B) (hk : k = A.length) (h0 : 0 ≤ x) (h1 : x ≤ 65535) : rdk bs 1 k = x := by
  obtain ⟨a, b⟩ := at2 h hk
  unfold rdk rsn
  simp only
  rw [if_pos b, a]
  omega
theorem r2s {bs A B : List Value} {x : Int} {k : Nat} (h : bs = A ++ be2 x ++ B) (hk : k = A.length) (h0 : -32768 ≤ x) (h1 : x ≤ 32767) : rdk bs 2 k = x := by
  obtain ⟨a, b⟩ := at2 h hk
  unfold rdk rsn
  simp only
  rw [if_pos b]
  exact s16_of _ x a h0 h1
theorem r1n {bs A B : List Value} {x : Int} {k : Nat} (h : bs = A ++ be1 x ++ B) (hk : k = A.length) (h0 : 0 ≤ x) (h1 : x ≤ 255) : rdk bs 0 k = x := by
  obtain ⟨a, b⟩ := at1 h hk
  unfold rdk rsn
  simp only
  rw [if_pos b, a]
  omega
theorem r1s {bs A B : List Value} {x : Int} {k : Nat} (h : bs = A ++ be1 x ++ B) (hk : k = A.length) (h0 : -128 ≤ x) (h1 : x ≤ 127) : s8 (rsn bs 1 k (byteAt bs k)) = x := by
  obtain ⟨a, b⟩ := at1 h hk
  unfold rsn s8
  rw [if_pos b]
  split <;> omega
theorem nums_at {bs A B : List Value} {ns : List Int} {K : Nat} (h : bs = A ++ ns.flatMap be2 ++ B) (hK : K = A.length) (hr : ∀ x ∈ ns, -32768 ≤ x ∧ x ≤ 32767) : nums2 bs K ns.length = ns := by
  refine List.ext_getElem? fun i => ?_
  unfold nums2
  rw [List.getElem?_map]
  rcases Nat.lt_or_ge i ns.length with hi | hi
  · rw [List.getElem?_range hi, List.getElem?_eq_getElem hi]
    have hx := hr _ (List.getElem_mem hi)
    have hl : ((ns.take i).flatMap be2).length = 2 * i := by rw [flat2_len, List.length_take]; omega
    have e : bs = (A ++ (ns.take i).flatMap be2) ++ be2 ns[i] ++ ((ns.drop (i + 1)).flatMap be2 ++ B) := by
      have e2 : ns = ns.take i ++ ns[i] :: ns.drop (i + 1) := by rw [List.getElem_cons_drop, List.take_append_drop]
      have e3 : ns.flatMap be2 = (ns.take i).flatMap be2 ++ (be2 ns[i] ++ (ns.drop (i + 1)).flatMap be2) := by
        conv => lhs; rw [e2]
        rw [List.flatMap_append, List.flatMap_cons]
      rw [h, e3]
      simp only [List.append_assoc]
    rw [Option.map_some, r2s e (by rw [List.length_append, hl, hK]) hx.1 hx.2]
  · rw [List.getElem?_eq_none (by simpa using hi), List.getElem?_eq_none hi]
    rfl
/-- A part's flags, as a number. -/
def fgP (P : Prt) (more : Bool) : Int := if more then bits .or .i64 (flagP P) 32 else flagP P
theorem fg_form (P : Prt) (more : Bool) : fgP P more = f4Of (f3Of (f2Of (f1Of P.2.2.1 P.2.2.2.2.2.1) (fitsP P)) (shortN P.2.1).1) more := by
  rw [flags_same _ _ _ _ _ (shortN_1 P.2.1)]
  rfl
theorem fg_bits : ∀ (mm t f more : Bool) (s n : Nat), (s = 0 ∧ n = 0) ∨ (s = 8 ∧ n = 1) ∨ (s = 64 ∧ n = 2) ∨ (s = 128 ∧ n = 4) →
    ∃ F : Nat, F < 65536 ∧ f4Of (f3Of (f2Of (f1Of mm t) f) (s : Nat)) more = (F : Nat) ∧ bt F 0 = !f ∧ bt F 1 = !mm ∧ bt F 5 = more ∧ (mm = false → (bt F 11 && !bt F 12) = t) ∧ frm F = some n := by
  intro mm t f more s n h
  refine ⟨(f4Of (f3Of (f2Of (f1Of mm t) f) (s : Nat)) more).toNat, ?_⟩
  rcases h with ⟨rfl, rfl⟩ | ⟨rfl, rfl⟩ | ⟨rfl, rfl⟩ | ⟨rfl, rfl⟩ <;> cases mm <;> cases t <;> cases f <;> cases more <;> decide
theorem short_back (m : Mtx) : matL (numsM m (shortN m).2.toNat) = m ∧ (numsM m (shortN m).2.toNat).length = (shortN m).2.toNat ∧ (∀ x ∈ numsM m (shortN m).2.toNat, x = m.1 ∨ x = m.2.1 ∨ x = m.2.2.1 ∨ x = m.2.2.2) := by
  obtain ⟨a, b, c, d⟩ := m
  have hl : (numsM (a, b, c, d) (shortN (a, b, c, d)).2.toNat).length = (shortN (a, b, c, d)).2.toNat := by
    obtain ⟨n, h1, h2⟩ := shortN_n (a, b, c, d)
    rw [h1, Int.toNat_natCast]
    exact numsM_len _ _ h2
  refine ⟨?_, hl, ?_⟩
  · rcases short_form a b c d with ⟨_, h, rfl, rfl, rfl, rfl⟩ | ⟨_, h, rfl, rfl, rfl, _⟩ | ⟨_, h, rfl, rfl, _⟩ | ⟨_, h, _⟩ <;> rw [h] <;> rfl
  · rcases short_form a b c d with ⟨_, h, _⟩ | ⟨_, h, _⟩ | ⟨_, h, _⟩ | ⟨_, h, _⟩ <;> rw [h] <;> simp
theorem short_sn (m : Mtx) : ∃ s n : Nat, (shortN m).1 = s ∧ (shortN m).2 = n ∧ ((s = 0 ∧ n = 0) ∨ (s = 8 ∧ n = 1) ∨ (s = 64 ∧ n = 2) ∨ (s = 128 ∧ n = 4)) := by
  unfold shortN
  split
  · exact ⟨0, 0, rfl, rfl, by omega⟩
  · split
    · exact ⟨8, 1, rfl, rfl, by omega⟩
    · split
      · exact ⟨64, 2, rfl, rfl, by omega⟩
      · exact ⟨128, 4, rfl, rfl, by omega⟩
theorem part_back (P : Prt) (more : Bool) (hm : mayP P = true) (bs xs ys : List Value) (k : Nat) (hb : bs = xs ++ putE P (fgP P more) (!fitsP P) ++ ys) (hk : k = xs.length) :
    ∃ F, flgAt bs k = F ∧ okPrt bs F k = true ∧ bt F 5 = more ∧ prtOf bs F k = P ∧ endP F k = k + (putE P (fgP P more) (!fitsP P)).length := by
  obtain ⟨s, n, hs, hn, hsn⟩ := short_sn P.2.1
  obtain ⟨F, hF, hfe, b0, b1, b5, b11, hfr⟩ := fg_bits P.2.2.1 P.2.2.2.2.2.1 (fitsP P) more s n hsn
  rw [← hs, ← fg_form] at hfe
  obtain ⟨hmt, hml, hmr⟩ := short_back P.2.1
  rw [hn, Int.toNat_natCast] at hmt hml hmr
  unfold putE at hb ⊢
  rw [hn, Int.toNat_natCast] at hb ⊢
  have hmn : matN F = n := by unfold matN; rw [hfr]; rfl
  have hwa : widA F = if fitsP P then 1 else 2 := by unfold widA; rw [b0]; cases fitsP P <;> rfl
  obtain ⟨g, m, mm, x, y, t, p, q⟩ := P
  simp only [mayP, Bool.and_eq_true] at hm
  obtain ⟨hg, hfm, hrest⟩ := hm
  have hg := inB_true hg
  have hrng : ∀ z ∈ numsM m n, -32768 ≤ z ∧ z ≤ 32767 := by
    simp only [fitM, fitB, Bool.and_eq_true, decide_eq_true_eq] at hfm
    intro z hz
    have h4 := hmr z hz
    dsimp only at h4 hfm
    rcases h4 with h | h | h | h <;> omega
  generalize hag : argsP (g, m, mm, x, y, t, p, q) = uv at *
  obtain ⟨u, v⟩ := uv
  simp only at hb hmt hml hag b1 b11 ⊢
  -- the pieces
  have e0 : bs = xs ++ be2 (fgP (g, m, mm, x, y, t, p, q) more) ++ (be2 g ++ ((if (!fitsP (g, m, mm, x, y, t, p, q)) = true then be2 u ++ be2 v else be1 u ++ be1 v) ++ ((numsM m n).flatMap be2 ++ ys))) := by rw [hb]; simp only [List.append_assoc]
  have h0 := at2 e0 hk
  rw [hfe] at h0
  have hfl : flgAt bs k = F := by
    unfold flgAt rsn
    rw [if_pos h0.2]
    have := h0.1
    omega
  have e1 : bs = (xs ++ be2 (fgP (g, m, mm, x, y, t, p, q) more)) ++ be2 g ++ ((if (!fitsP (g, m, mm, x, y, t, p, q)) = true then be2 u ++ be2 v else be1 u ++ be1 v) ++ ((numsM m n).flatMap be2 ++ ys)) := by rw [hb]; simp only [List.append_assoc]
  have hgl : rdk bs 1 (k + 2) = g := r2n e1 (by rw [List.length_append, hk]; rfl) hg.1 hg.2
  have hargs : valA bs F (k + 4) = u ∧ valA bs F (k + 4 + widA F) = v ∧ nums2 bs (k + 4 + 2 * widA F) n = numsM m n ∧ k + 4 + 2 * widA F + 2 * n ≤ bs.length ∧ (if (!fitsP (g, m, mm, x, y, t, p, q)) = true then be2 u ++ be2 v else be1 u ++ be1 v).length = 2 * widA F := by
    have hX : (xs ++ be2 (fgP (g, m, mm, x, y, t, p, q) more) ++ be2 g).length = k + 4 := by rw [List.length_append, List.length_append, hk]; rfl
    unfold valA
    rw [hwa, b0, b1]
    cases hf : fitsP (g, m, mm, x, y, t, p, q)
    · rw [hf] at hb
      have f1 : bs = (xs ++ be2 (fgP (g, m, mm, x, y, t, p, q) more) ++ be2 g) ++ be2 u ++ (be2 v ++ ((numsM m n).flatMap be2 ++ ys)) := by rw [hb]; simp
      have f2 : bs = (xs ++ be2 (fgP (g, m, mm, x, y, t, p, q) more) ++ be2 g ++ be2 u) ++ be2 v ++ ((numsM m n).flatMap be2 ++ ys) := by rw [hb]; simp
      have f3 : bs = (xs ++ be2 (fgP (g, m, mm, x, y, t, p, q) more) ++ be2 g ++ be2 u ++ be2 v) ++ (numsM m n).flatMap be2 ++ ys := by rw [hb]; simp
      have l2 : k + 4 + 2 = (xs ++ be2 (fgP (g, m, mm, x, y, t, p, q) more) ++ be2 g ++ be2 u).length := by rw [List.length_append, hX]; rfl
      have l3 : k + 4 + 2 * 2 = (xs ++ be2 (fgP (g, m, mm, x, y, t, p, q) more) ++ be2 g ++ be2 u ++ be2 v).length := by rw [List.length_append, ← l2]; rfl
      have l4 : k + 4 + 2 * 2 + 2 * n ≤ bs.length := by
        rw [f3, List.length_append, List.length_append, ← l3, flat2_len, hml]
        omega
      have hn2 := nums_at f3 l3 hrng
      rw [hml] at hn2
      cases mm
      · simp only [Bool.false_eq_true, if_false, Bool.and_eq_true] at hrest
        have hx := inB_true hrest.2.1
        have hy := inB_true hrest.2.2
        cases hag
        exact ⟨r2s f1 hX.symm hx.1 hx.2, r2s f2 l2 hy.1 hy.2, hn2, l4, rfl⟩
      · simp only [if_true, Bool.and_eq_true] at hrest
        have hx := inB_true hrest.2.1
        have hy := inB_true hrest.2.2
        cases hag
        exact ⟨r2n f1 hX.symm hx.1 hx.2, r2n f2 l2 hy.1 hy.2, hn2, l4, rfl⟩
    · rw [hf] at hb
      have f1 : bs = (xs ++ be2 (fgP (g, m, mm, x, y, t, p, q) more) ++ be2 g) ++ be1 u ++ (be1 v ++ ((numsM m n).flatMap be2 ++ ys)) := by rw [hb]; simp
      have f2 : bs = (xs ++ be2 (fgP (g, m, mm, x, y, t, p, q) more) ++ be2 g ++ be1 u) ++ be1 v ++ ((numsM m n).flatMap be2 ++ ys) := by rw [hb]; simp
      have f3 : bs = (xs ++ be2 (fgP (g, m, mm, x, y, t, p, q) more) ++ be2 g ++ be1 u ++ be1 v) ++ (numsM m n).flatMap be2 ++ ys := by rw [hb]; simp
      have l2 : k + 4 + 1 = (xs ++ be2 (fgP (g, m, mm, x, y, t, p, q) more) ++ be2 g ++ be1 u).length := by rw [List.length_append, hX]; rfl
      have l3 : k + 4 + 2 * 1 = (xs ++ be2 (fgP (g, m, mm, x, y, t, p, q) more) ++ be2 g ++ be1 u ++ be1 v).length := by rw [List.length_append, ← l2]; rfl
      have l4 : k + 4 + 2 * 1 + 2 * n ≤ bs.length := by
        rw [f3, List.length_append, List.length_append, ← l3, flat2_len, hml]
        omega
      have hn2 := nums_at f3 l3 hrng
      rw [hml] at hn2
      cases mm
      · have hf2 : [x, y].all (inB (-128) 127) = true := hf
        simp only [List.all_cons, List.all_nil, Bool.and_true, Bool.and_eq_true] at hf2
        have hx := inB_true hf2.1
        have hy := inB_true hf2.2
        cases hag
        exact ⟨r1s f1 hX.symm hx.1 hx.2, r1s f2 l2 hy.1 hy.2, hn2, l4, rfl⟩
      · have hf2 : [p, q].all (inB 0 255) = true := hf
        simp only [List.all_cons, List.all_nil, Bool.and_true, Bool.and_eq_true] at hf2
        have hx := inB_true hf2.1
        have hy := inB_true hf2.2
        cases hag
        exact ⟨r1n f1 hX.symm hx.1 hx.2, r1n f2 l2 hy.1 hy.2, hn2, l4, rfl⟩
  obtain ⟨ha, hv, hnm, hlen, hal⟩ := hargs
  have hend : endP F k = k + 4 + 2 * widA F + 2 * n := by unfold endP; rw [hmn]
  refine ⟨F, hfl, ?_, b5, ?_, ?_⟩
  · unfold okPrt
    rw [hfr, hend]
    simp only [Option.isSome_some, Bool.true_and, decide_eq_true_eq]
    exact hlen
  · unfold prtOf
    rw [hgl, ha, hv, hmn, hnm, hmt, b1]
    cases mm
    · simp only [Bool.false_eq_true, if_false, Bool.and_eq_true, beq_iff_eq] at hrest
      rw [b11 rfl]
      cases hag
      rw [hrest.1.1, hrest.1.2]
      rfl
    · simp only [if_true, Bool.and_eq_true, beq_iff_eq, Bool.not_eq_true'] at hrest
      cases hag
      rw [hrest.1.1, hrest.1.2.1, hrest.1.2.2]
      rfl
  · rw [hend, List.length_append, List.length_append, List.length_append, hal, flat2_len, hml]
    simp only [be2, List.length_cons, List.length_nil]
    omega
theorem decP_enc (P : Prt) (ys bs : List Value) : ∀ (Ps : List Prt) (xs : List Value) (n k : Nat) (acc : List Prt), Ps.length + 1 ≤ n → (Ps ++ [P]).all mayP = true → bs = xs ++ (bodyE Ps ++ putE P (flagP P) (!fitsP P)) ++ ys → k = xs.length → decP bs n k acc = (acc ++ Ps ++ [P], 0)
  | [], xs, n + 1, k, acc, _, hm, hb, hk => by
    have hm : mayP P = true := by simpa using hm
    obtain ⟨F, h1, h2, h3, h4, _⟩ := part_back P false hm bs xs ys k (by rw [hb]; rfl) hk
    rw [decP_last (by rw [h1]; exact h2) (by rw [h1]; exact h3), h1, h4]
    simp
  | Q :: Ps, xs, n + 1, k, acc, hn, hm, hb, hk => by
    simp only [List.cons_append, List.all_cons, Bool.and_eq_true] at hm
    obtain ⟨F, h1, h2, h3, h4, h5⟩ := part_back Q true hm.1 bs xs (bodyE Ps ++ putE P (flagP P) (!fitsP P) ++ ys) k (by rw [hb]; simp [bodyE, fgP]) hk
    rw [decP_more (by rw [h1]; exact h2) (by rw [h1]; exact h3), h1, h4, h5]
    rw [decP_enc P ys bs Ps (xs ++ putE Q (fgP Q true) (!fitsP Q)) n _ (acc ++ [Q]) (by simp at hn; omega) hm.2 (by rw [hb]; simp [bodyE, fgP]) (by rw [List.length_append, hk])]
    simp
theorem decG_enc (Ps : List Prt) (P : Prt) (ys : List Value) (hn : Ps.length + 1 ≤ 64) (hm : (Ps ++ [P]).all mayP = true) : decG (encE Ps P ++ ys) = (Ps ++ [P], 0) := by
  unfold decG
  have h1 : rdk (encE Ps P ++ ys) 2 0 = -1 := r2s (A := []) (B := z8l ++ bodyE Ps ++ putE P (flagP P) (!fitsP P) ++ ys) (by unfold encE; simp) rfl (by decide) (by decide)
  rw [h1, if_neg (by decide), decP_enc P ys (encE Ps P ++ ys) Ps (be2 (-1) ++ z8l) 64 10 [] hn hm (by unfold encE; simp) rfl]
  rfl
end Go.Proofs.Ytekailhghjideaa

namespace Go.Proofs.Ytekailhghjideaa
open Go.ChangeShapes Go.WideShapes Go.ChangeAt Go.RowKit
set_option linter.unusedVariables false
set_option linter.unusedSimpArgs false

theorem cellsIP : Try.prog.cellsOf 3 = 1 := by kernel_rfl
theorem cellsBP : Try.prog.cellsOf 4 = 1 := by kernel_rfl
theorem cellsMP : Try.prog.cellsOf 34 = 4 := by kernel_rfl
theorem cellsPP : Try.prog.cellsOf 36 = 11 := by kernel_rfl
section
variable {H : Type} {enc : TypeId × Value → H}
set_option maxRecDepth 100000 in
theorem open_part {w : World} {base fuel : Nat} {spare : Nat → Bool} {held : Bool} {cs : List Value} {x : DataW H × List MemPlace} (hl : cs.length = 11)
    (h : DataW.trod enc Try.prog w base spare held fuel 36 cs = some x) : ∃ p : Prt, cs = prL p := by
  match cs, hl with
  | [c0, c1, c2, c3, c4, c5, c6, c7, c8, c9, c10], _ =>
    obtain ⟨ys, n, _, _, _, hlen, hg⟩ := DataW.trod_struct Try.underlying36 h
    match ys, hlen with
    | [y0, y1, y2, y3, y4, y5, y6, y7], _ =>
      have g0 := hg 0 _ rfl
      have g1 := hg 1 _ rfl
      have g2 := hg 2 _ rfl
      have g3 := hg 3 _ rfl
      have g4 := hg 4 _ rfl
      have g5 := hg 5 _ rfl
      have g6 := hg 6 _ rfl
      have g7 := hg 7 _ rfl
      simp [cellsIP, cellsBP, cellsMP] at g0 g1 g2 g3 g4 g5 g6 g7
      obtain ⟨a0, e0, _⟩ := DataW.trod_int Try.underlying3 g0
      obtain ⟨a5, e5, _⟩ := DataW.trod_bool Try.underlying4 g2
      obtain ⟨a6, e6, _⟩ := DataW.trod_int Try.underlying3 g3
      obtain ⟨a7, e7, _⟩ := DataW.trod_int Try.underlying3 g4
      obtain ⟨a8, e8, _⟩ := DataW.trod_bool Try.underlying4 g5
      obtain ⟨a9, e9, _⟩ := DataW.trod_int Try.underlying3 g6
      obtain ⟨a10, e10, _⟩ := DataW.trod_int Try.underlying3 g7
      obtain ⟨zs, m, _, _, _, hlen2, hb⟩ := DataW.trod_struct Try.underlying34 g1
      match zs, hlen2 with
      | [z0, z1, z2, z3], _ =>
        have k0 := hb 0 _ rfl
        have k1 := hb 1 _ rfl
        have k2 := hb 2 _ rfl
        have k3 := hb 3 _ rfl
        simp [cellsIP] at k0 k1 k2 k3
        obtain ⟨a1, e1, _⟩ := DataW.trod_int Try.underlying3 k0
        obtain ⟨a2, e2, _⟩ := DataW.trod_int Try.underlying3 k1
        obtain ⟨a3, e3, _⟩ := DataW.trod_int Try.underlying3 k2
        obtain ⟨a4, e4, _⟩ := DataW.trod_int Try.underlying3 k3
        simp at e0 e1 e2 e3 e4 e5 e6 e7 e8 e9 e10
        subst e0 e1 e2 e3 e4 e5 e6 e7 e8 e9 e10
        exact ⟨(a0, (a1, a2, a3, a4), a5, a6, a7, a8, a9, a10), rfl⟩
set_option maxRecDepth 100000 in
theorem open_parts {w : World} {base : Nat} {spare : Nat → Bool} {held : Bool} {r : Reach} {b0 : Nat} {v : Value} {d : DataW H} {p : List MemPlace}
    (hv : Value.okWide Try.prog w r b0 23 v) (h : DataW.Trod enc Try.prog w base spare held 23 v d p) :
    ∃ (A : Option Addr) (c : Nat) (L : List Prt), v = .slice A L.length c ∧ L.length ≤ c ∧ c ≤ 9223372036854775807 ∧ Lists w w.heap.size A (L.flatMap prL) := by
  obtain ⟨a0, len, cap, rfl⟩ := okWide_slice Try.underlying23 hv
  obtain ⟨fuel, hf⟩ := h
  rcases Deep.open_slice Try.underlying23 hf with ⟨hcs, _⟩ | ⟨a, len', cap', m, n, D, Pl, hcs, hb, hl, hm, hmm, hx, hi⟩
  · simp [Value.cells] at hcs
    obtain ⟨rfl, rfl, rfl⟩ := hcs
    exact ⟨none, 0, [], rfl, Nat.le_refl _, Nat.zero_le _, Lists.empty _ _ _⟩
  · simp [Value.cells] at hcs
    obtain ⟨rfl, rfl, rfl⟩ := hcs
    unfold maxLen at hm
    have hlm : len ≤ m := by split at hmm <;> omega
    obtain ⟨L, hLl, hL⟩ := choose_list (n := len) (p := fun i (q : Prt) => ∀ j, j < 11 → w.cell? (a.add (i * 11 + j)) = (prL q)[j]?) fun i hil => by
      obtain ⟨cs', hc, ht'⟩ := hi i (by omega)
      rw [cellsPP] at hc
      obtain ⟨_, hcl, hat⟩ := World.cells?_some hc
      obtain ⟨q, rfl⟩ := open_part hcl ht'
      exact ⟨q, fun j hj => by have := hat j hj; rw [Go.Deep.add_add] at this; exact this⟩
    have hcell : ∀ j u, (L.flatMap prL)[j]? = some u → w.cell? (a.add j) = some u := fun j u hu => by
      have hj : j < L.length * 11 := by
        rcases Nat.lt_or_ge j (L.length * 11) with h | h
        · exact h
        · rw [List.getElem?_eq_none (by rw [flat_len prLen]; exact h)] at hu; cases hu
      obtain ⟨q, hq⟩ : ∃ q, L[j / 11]? = some q := ⟨L[j / 11]'(by omega), List.getElem?_eq_getElem _⟩
      have h3 := hL _ _ hq (j % 11) (by omega)
      have h4 : (prL q)[j % 11]? = some ((prL q)[j % 11]'(by rw [prLen]; omega)) := List.getElem?_eq_getElem _
      have h5 := flat_at prLen L (j / 11) q hq (j % 11) _ h4
      rw [show j / 11 * 11 + j % 11 = j by omega] at h3 h5
      rw [h3, h4, ← h5, hu]
    refine ⟨some a, cap, L, by rw [hLl], by omega, hm, ⟨fun ha => (nomatch ha), fun a' ha => ?_, fun a' ha hne => ?_⟩⟩
    · cases ha; exact hcell
    · cases ha
      have h0 : 0 < (L.flatMap prL).length := by
        rcases Nat.eq_zero_or_pos (L.flatMap prL).length with h | h
        · exact absurd (List.eq_nil_of_length_eq_zero h) hne
        · exact h
      have := cell_lt (hcell 0 _ (List.getElem?_eq_getElem h0))
      rwa [addr_add_block] at this
/-- A []byte that came in, with room for what little is put ahead of it. -/
theorem open_bytes_less {P : Program} {w : World} {t e : TypeId} {base : Nat} {spare : Nat → Bool} {held : Bool} {r : Reach} {b0 : Nat} {v : Value} {d : DataW H} {p : List MemPlace}
    (hs : P.underlying t = some (.slice e)) (he : P.underlying e = some (.int .u8)) (hC : P.cellsOf e = 1) (hb : P.bytesOf e = 1)
    (hv : Value.okWide P w r b0 t v) (h : DataW.Trod enc P w base spare held t v d p) (hz : ∀ m ∈ d.weights P t, m ≤ reachBytes) :
    ∃ (A : Option Addr) (c : Nat) (E : List Value), v = .slice A E.length c ∧ E.length ≤ c ∧ c ≤ 9223372036854775807 ∧ Lists w w.heap.size A E ∧ Bytes8 E ∧ E.length ≤ 140737488351232 := by
  obtain ⟨a0, len, cap, rfl⟩ := okWide_slice hs hv
  obtain ⟨fuel, hf⟩ := h
  rw [show (Value.slice a0 len cap).cells = #[.slice a0 len cap] from rfl] at hf
  obtain ⟨A, n, c, zs, hv1, hlen, hnc, hcm, hL, hwf, hw⟩ := open_nums hs he hC hf
  have h1 := hw reachBytes hz
  rw [hb] at h1
  have hr : reachBytes ≤ 140737488351232 := by decide
  unfold maxLen at hcm
  refine ⟨A, c, zs.map (Value.int .u8), by rw [List.length_map, hlen]; exact hv1, by rw [List.length_map]; omega, hcm, hL, bytes_of_wf hwf, by rw [List.length_map]; omega⟩
end

end Go.Proofs.Ytekailhghjideaa

namespace Go.Proofs.Ytekailhghjideaa
open Go Go.RowKit
set_option linter.unusedVariables false
set_option linter.unusedSimpArgs false

/-- What an Encode answers. -/
def EP (w : World) (bs : List Value) (code : Int) (e : Ending) (w' : World) : Prop := ∃ A c, e = .returned (.tuple #[.slice A bs.length c, .int .i64 code]) ∧ Hid (Lists w' w'.heap.size A bs) ∧ bs.length ≤ c ∧ c ≤ 9223372036854775807 ∧ Below w.heap.size w w'
/-- What the reference's answers. -/
def EPR (w : World) (bs : List Value) (code : Int) (e : Ending) (w' : World) : Prop := ∃ A c, e = .returned (.tuple #[.slice A bs.length c, .int .i64 code]) ∧ Hid (Lists w' w'.heap.size A bs) ∧ Below w.heap.size w w'
theorem ep_none {w w' : World} {e : Ending} {code : Int} (h : e = .returned (.tuple #[.slice none 0 0, .int .i64 code]) ∧ Below w.heap.size w w') : EP w [] code e w' := ⟨none, 0, h.1, Lib.hid (Lists.empty _ _ _), Nat.le_refl _, by decide, h.2⟩
theorem epr_none {w w' : World} {e : Ending} {code : Int} (h : e = .returned (.tuple #[.slice none 0 0, .int .i64 code]) ∧ Below w.heap.size w w') : EPR w [] code e w' := ⟨none, 0, h.1, Lib.hid (Lists.empty _ _ _), h.2⟩
theorem enc_both (L : List Prt) (hn : L.length ≤ 300) : ∃ (bs : List Value) (code : Int), Bytes8 bs ∧ bs.length ≤ 1034 ∧
    (∀ A c w, Lists w w.heap.size A (L.flatMap prL) → L.length ≤ c → c ≤ 9223372036854775807 → Calls Try.prog 11 #[.slice A L.length c] w (EP w bs code)) ∧
    (∀ A c w, Lists w w.heap.size A (L.flatMap prL) → Calls Try.prog 12 #[.slice A L.length c] w (EPR w bs code)) ∧
    (code ≠ 0 → bs = []) ∧ (code = 0 → ∀ ys, decG (bs ++ ys) = (L, 0)) := by
  rcases List.eq_nil_or_concat L with rfl | ⟨Ps, P, rfl⟩
  · exact ⟨[], 1, fun u hu => by simp at hu, by decide, fun A c w _ _ _ => (encode_nil A c w).mono fun _ _ h => ep_none h, fun A c w _ => (rencode_nil A c w).mono fun _ _ h => epr_none h, fun _ => rfl, fun h => absurd h (by decide)⟩
  · rw [List.concat_eq_append] at *
    have hlen : (Ps ++ [P]).length = Ps.length + 1 := by simp
    have hne : Ps ++ [P] ≠ [] := by simp
    cases hm : (Ps ++ [P]).all mayP
    · exact ⟨[], 1, fun u hu => by simp at hu, by decide, fun A c w hL _ _ => (encode_bad w.heap.size A c _ w (Nat.le_refl _) hL (by omega) hne hm).mono fun _ _ h => ep_none h,
        fun A c w hL => (rencode_bad w.heap.size A c _ w (Nat.le_refl _) hL (by omega) hne hm).mono fun _ _ h => epr_none h, fun _ => rfl, fun h => absurd h (by decide)⟩
    · rw [hlen] at hn ⊢
      rcases Nat.lt_or_ge 64 (Ps.length + 1) with h64 | h64
      · refine ⟨[], 120, fun u hu => by simp at hu, by decide, fun A c w hL _ _ => ?_, fun A c w hL => ?_, fun _ => rfl, fun h => absurd h (by decide)⟩
        · have := encode_many w.heap.size A c (Ps ++ [P]) w (Nat.le_refl _) hL (by omega) (by omega) hm
          rw [hlen] at this
          exact this.mono fun _ _ h => ep_none h
        · exact (rencode_ok w.heap.size A c Ps P w (Nat.le_refl _) hL (by omega) hm).mono fun _ _ h => epr_none ⟨h.2.1 h64, h.2.2⟩
      · have hE : (encE Ps P).length ≤ 1034 := by
          have h1 := bodyE_len Ps
          have h2 := putE_len P (flagP P) (!fitsP P)
          unfold encE
          simp [be2, z8l]
          omega
        refine ⟨encE Ps P, 0, encE_bytes Ps P, hE, fun A c w hL hc hc2 => ?_, fun A c w hL => ?_, fun h => absurd rfl h, fun _ ys => decG_enc Ps P ys h64 hm⟩
        · exact (encode_ok w.heap.size A c Ps P w (Nat.le_refl _) hL h64 hm hc hc2).mono fun e w' h => by
            obtain ⟨A', c', h1, h2, h3, h4, h5⟩ := gave_out h rfl
            exact ⟨A', c', h1, Lib.hid h2, h3, h4, h5⟩
        · exact (rencode_ok w.heap.size A c Ps P w (Nat.le_refl _) hL (by omega) hm).mono fun e w' h => by
            obtain ⟨A', c', h1, h2⟩ := h.1 h64
            exact ⟨A', c', h1, Lib.hid h2, h.2.2⟩
theorem info_partsP {o : Option TypeInfo} {z : Option Value} {n b : Nat} (h : o.map (fun i => (i.zero, i.size, i.bytes)) = some (z, n, b)) : ∃ i, o = some i ∧ i.zero = z ∧ i.size = n ∧ i.bytes = b := by
  cases o with
  | none => cases h
  | some i => simp at h; exact ⟨i, rfl, h.1, h.2.1, h.2.2⟩
theorem own_newP (w : World) : (w.alloc (.cells #[] 36)).ownsRow w.heap.size 36 11 (.slice (some ⟨w.heap.size, 0, none⟩) 0 0) 0 [] := ⟨rfl, .inr ⟨w.heap.size, 0, #[], rfl, Nat.le_refl _, heap_alloc_new w _, Nat.le_refl _, Nat.zero_le _, rfl, rfl⟩⟩
theorem part_one (L : List Prt) : ∀ u ∈ L.flatMap prL, u.oneCell' = true := fun u hu => by
  obtain ⟨p, _, hp⟩ := List.mem_flatMap.1 hu
  simp only [prL, List.mem_cons, or_false, List.not_mem_nil] at hp
  rcases hp with h | h | h | h | h | h | h | h | h | h | h <;> subst h <;> rfl
end Go.Proofs.Ytekailhghjideaa
