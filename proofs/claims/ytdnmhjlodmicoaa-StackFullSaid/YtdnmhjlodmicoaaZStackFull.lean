/- StackFull: up to 48 numbers are taken, and given back, the last one first; no condition but what the row prints. -/
import Derived.Test.YtdnmhjlodmicoaaCSt6

namespace Go.Proofs.Ytdnmhjlodmicoaa.stackFull
open Go Go.ChangeShapes Go.WideShapes Go.ChangeAt Go.RowKit
set_option linter.unusedVariables false
set_option linter.unusedSimpArgs false

variable {W : World}
/-- What is kept of numbers that are pushed. -/
def keepL (L : List Int) : List Int := L.foldl pushL []
theorem keep_next {L : List Int} {k : Nat} {x : Int} (hx : L[k]? = some x) : keepL (L.take (k + 1)) = pushL (keepL (L.take k)) x := by
  unfold keepL
  rw [List.take_add_one, hx]
  simp
theorem push_len {K : List Int} (x : Int) (h : K.length ≤ 48) : (pushL K x).length ≤ 48 := by
  unfold pushL
  split
  · split
    · exact h
    · rw [List.length_append]; simp; omega
  · exact h
theorem keep_len (L : List Int) : (keepL L).length ≤ 48 := by
  unfold keepL
  have go : ∀ (L : List Int) (K : List Int), K.length ≤ 48 → (L.foldl pushL K).length ≤ 48 := by
    intro L
    induction L with
    | nil => intro K h; exact h
    | cons x r ih => intro K h; exact ih _ (push_len x h)
  exact go L [] (by simp)
/-- The state of the first loop: the Stack, and what is kept, have the same numbers. -/
def FS (W : World) (q Bk : Nat) (nv kv : Value) (K : List Int) (wr : World) : Prop :=
  Sk wr q nv K (List.replicate 32 0) [] ∧ wr.ownsRow Bk 3 1 kv K.length (intCells K) ∧ (∀ b ∈ blk kv, b ∉ q :: blk nv) ∧ Below W.heap.size W wr ∧ Bk ≤ wr.heap.size
theorem FS.pushed {q Bk : Nat} {nv kv nv2 : Value} {K : List Int} {wr w2 : World} (h : FS W q Bk nv kv K wr) (hq : W.heap.size ≤ q) {K2 : List Int} (hs2 : Sk w2 q nv2 K2 (List.replicate 32 0) []) (hm : Mod wr w2 q nv nv2) :
    w2.ownsRow Bk 3 1 kv K.length (intCells K) ∧ (∀ b ∈ blk kv, b ∉ q :: blk nv2) ∧ Below W.heap.size W w2 ∧ Bk ≤ w2.heap.size := by
  obtain ⟨h1, h2, h3, h4, h5⟩ := h
  refine ⟨own_only h2 hm.1 h3, fun b hb hm2 => ?_, h4.trans (hm.to_below h1.own hq h1.lt), Nat.le_trans h5 hm.1.size⟩
  rcases List.mem_cons.1 hm2 with e | e
  · exact h3 b hb (by simp [e])
  · rcases hm.2 b e with h6 | h6
    · exact h3 b hb (by simp [h6])
    · have := blk_lt h2 b hb; omega
/-- A number more is kept. -/
theorem FS.kept {q Bk : Nat} {nv kv kv2 : Value} {K K2 : List Int} {w2 w3 : World} (hs : Sk w2 q nv K2 (List.replicate 32 0) []) (ho : w2.ownsRow Bk 3 1 kv K.length (intCells K)) (hd : ∀ b ∈ blk kv, b ∉ q :: blk nv) (hb : Below W.heap.size W w2) (hB : Bk ≤ w2.heap.size) (hq : q < Bk) (hW : W.heap.size ≤ Bk)
    (o : Only w2 w3 (blk kv)) (ho3 : w3.ownsRow Bk 3 1 kv2 K2.length (intCells K2)) (hat : ∀ b ∈ blk kv2, b ∈ blk kv ∨ w2.heap.size ≤ b) : FS W q Bk nv kv2 K2 w3 := by
  have hlow := own_lowS ho
  refine ⟨hs.only o (fun b hb => by have := hlow b hb; omega) (fun b hb hm => hd b hb (by simp [hm])), ho3, fun b hb hm => ?_, ?_, Nat.le_trans hB o.size⟩
  · rcases hat b hb with h1 | h1
    · exact hd b h1 hm
    · rcases List.mem_cons.1 hm with e | e
      · have := hs.lt; omega
      · have := blk_lt hs.own b e; omega
  · exact hb.trans (o.to_below hb.size (fun b hb => by have := hlow b hb; omega))
theorem FS.below {q Bk : Nat} {nv kv : Value} {K : List Int} {w2 w3 : World} (h : FS W q Bk nv kv K w2) (b : Below w2.heap.size w2 w3) : FS W q Bk nv kv K w3 :=
  ⟨h.1.below b, own_only h.2.1 (Only.of_below b []) (fun _ _ h => (nomatch h)), h.2.2.1, h.2.2.2.1.trans (b.mono h.2.2.2.1.size), Nat.le_trans h.2.2.2.2 b.size⟩
def mnN (n : Nat) : Nat := min n 100
set_option maxRecDepth 100000 in
set_option maxHeartbeats 4000000 in
theorem walk1 (A : Option Addr) (n c : Nat) (L : List Int) (hn : L.length = n) (hl : Lists W W.heap.size A (intCells L)) : Calls Try.prog 4 #[.slice A n c] W fun e w' => e = .returned (.bool true) ∧ Below W.heap.size W w' := by
  have CN := new_any W.heap.size none 0 [] W (Nat.le_refl _) (Lists.empty _ _ _) (by simp)
  rw [List.length_nil] at CN
  obtain ⟨i0, hi, hz0, hz1, hz2⟩ := info_partsS infoS
  have HL := Lib.hid hl
  have HN := Lib.hid hn
  clear hl hn
  go_enter Try.func4, Try.ntmps4
  go_wp2_with (first | (go_at_call 8; ((with_reducible refine (CN).mono ?_); rintro e w1 ⟨q, rfl, hs, b1, hq⟩)) | (go_at_call 9; ((with_reducible refine (lives17 _).mono ?_); rintro e w2 ⟨rfl, b2⟩); have hs := hs.below b2; have b1 := b1.trans (b2.mono b1.size)))
  have hqB : q < w2.heap.size := hs.lt
  have HF := Lib.hid (show FS W q w2.heap.size (.slice none 0 0) (.slice none 0 0) (keepL (L.take 0)) w2 from ⟨by rw [List.take_zero]; exact hs, by rw [List.take_zero]; exact World.ownsRow_nil _ _ _ _, fun b hb => by simp [blk, Value.ownBlock] at hb, b1, Nat.le_refl _⟩)
  have hWB : W.heap.size ≤ w2.heap.size := b1.size
  obtain ⟨Bk, hBk⟩ : ∃ Bk, Bk = w2.heap.size := ⟨_, rfl⟩
  rw [← hBk] at HF hqB hWB
  clear hs b1 b2 hBk
  go_loopw [4, 5] (fun kv iv wr => ∃ (k : Nat) (nv : Value), k ≤ n ∧ k ≤ 100 ∧ iv = .int .i64 (k : Nat) ∧ Hid (FS W q Bk nv kv (keepL (L.take k)) wr)) (fun _ iv _ => 100 - (intOf iv).toNat)
  case atStart => exact ⟨0, _, Nat.zero_le _, by omega, rfl, HF⟩
  case round =>
    obtain ⟨k, nv, hk, hk2, rfl, HK⟩ := hrel
    by_cases hlt : k < n ∧ k < 100
    · obtain ⟨hlt1, hlt2⟩ := hlt
      have q1 : decide ((k : Int) < (n : Int)) = true := by simp; omega
      have q2 : decide ((k : Int) < 100) = true := by simp; omega
      obtain ⟨x, hx⟩ : ∃ x, L[k]? = some x := ⟨L[k]'(by rw [HN.out]; exact hlt1), List.getElem?_eq_getElem _⟩
      have hkn := Lib.hid (keep_next hx)
      have hne : intCells L ≠ [] := by intro e; have h1 := congrArg List.length e; rw [intCells_len, HN.out] at h1; simp at h1; omega
      have CX : ∃ b o, A = some ⟨b, o, none⟩ ∧ ∀ V, Below W.heap.size W V → V.cell? ⟨b, o + k, none⟩ = some (.int .i64 x) := by
        obtain ⟨b5, o5, hA, hb5, hc5⟩ := HL.out.plain hne
        exact ⟨b5, o5, hA, fun V hV => (hV.cell (p := ⟨b5, o5 + k, none⟩) hb5).trans (hc5 k (.int .i64 x) (by simp [intCells, hx]))⟩
      obtain ⟨b5, o5, hA, hc5⟩ := CX
      subst hA
      obtain ⟨K, hK⟩ : ∃ K, K = keepL (L.take k) := ⟨_, rfl⟩
      rw [← hK] at HK hkn
      have hF := HK.out
      have yk := hc5 wr hF.2.2.2.1
      have CP := push_any q nv K (List.replicate 32 0) [] x wr hF.1
      have CM := fun w => may_ref x w
      have hK48 : K.length ≤ 48 := by rw [hK]; exact keep_len _
      obtain ⟨A4, c4, rfl, hl4, hc4⟩ := own_lists hF.2.1
      obtain ⟨l, hl⟩ : ∃ l, l = K.length := ⟨_, rfl⟩
      rw [← hl] at hK48 ⊢
      have HLK := Lib.hid hl
      clear hne hx hK hl hl4
      cases hm : mayB x
      · have e1 : pushE K x = 10 := by unfold pushE; rw [hm]; rfl
        have e2 : pushL K x = K := by unfold pushL; rw [hm]; rfl
        rw [e1, e2] at CP
        rw [hm] at CM
        rw [e2] at hkn
        clear hm e1 e2
        go_wp2_with (first | (go_at_call 10; ((with_reducible refine (CP).mono ?_); rintro e w3 ⟨rfl, nv2, hs2, hm2⟩); have hp := hF.pushed hq hs2 hm2; have yk := hc5 w3 hp.2.2.1) | (go_at_call 22; ((with_reducible refine (CM _).mono ?_); rintro e w4 ⟨rfl, rfl⟩)))
        have HF2 := Lib.hid (show FS W q Bk nv2 (.slice A4 K.length c4) (keepL (L.take (k + 1))) w3 by rw [hkn.out]; exact ⟨hs2, hp⟩)
        rw [← HLK.out] at HF2
        clear hF hp hs2 hm2
        go_roundw
        case rel => exact ⟨k + 1, nv2, by omega, by omega, by go_num, HF2⟩
        case measure => simp [intOf]; omega
      · rw [hm] at CM
        by_cases h48 : l = 48
        · have e1 : pushE K x = 170 := by unfold pushE; rw [hm, if_pos rfl, if_pos (by have := HLK.out; omega)]
          have e2 : pushL K x = K := by unfold pushL; rw [hm, if_pos rfl, if_pos (by have := HLK.out; omega)]
          rw [e1, e2] at CP
          rw [e2] at hkn
          have d8 : decide ((l : Int) = 48) = true := by simp; omega
          have d9 : ((l : Int) == 48) = true := by simp; omega
          have HM48 := Lib.hid h48
          clear hm e1 e2 h48
          go_wp2_with (first | (go_at_call 10; ((with_reducible refine (CP).mono ?_); rintro e w3 ⟨rfl, nv2, hs2, hm2⟩); have hp := hF.pushed hq hs2 hm2; have yk := hc5 w3 hp.2.2.1) | (go_at_call 22; ((with_reducible refine (CM _).mono ?_); rintro e w4 ⟨rfl, rfl⟩)))
          have HF2 := Lib.hid (show FS W q Bk nv2 (.slice A4 K.length c4) (keepL (L.take (k + 1))) w3 by rw [hkn.out]; exact ⟨hs2, hp⟩)
          rw [← HLK.out] at HF2
          clear hF hp hs2 hm2
          go_roundw
          case rel => exact ⟨k + 1, nv2, by omega, by omega, by go_num, HF2⟩
          case measure => simp [intOf]; omega
        · have e1 : pushE K x = 0 := by unfold pushE; rw [hm, if_pos rfl, if_neg (by have := HLK.out; omega)]
          have e2 : pushL K x = K ++ [x] := by unfold pushL; rw [hm, if_pos rfl, if_neg (by have := HLK.out; omega)]
          rw [e1, e2] at CP
          rw [e2] at hkn
          have d8 : decide ((l : Int) = 48) = false := by simp; omega
          have d9 : ((l : Int) == 48) = false := by simp; omega
          have HM48 := Lib.hid h48
          clear hm e1 e2 h48
          go_wp2_with (first
            | (go_at_call 10; ((with_reducible refine (CP).mono ?_); rintro e w3 ⟨rfl, nv2, hs2, hm2⟩); have hp := hF.pushed hq hs2 hm2; have yk := hc5 w3 hp.2.2.1; have o3 := hp.1; rw [← HLK.out] at o3; have o4 := own_only o3 ((Only.refl w3 []).alloc (.cells #[.int .i64 x] 3)) (fun _ _ h => (nomatch h)); have hB3 := hp.2.2.2)
            | (go_at_call 22; ((with_reducible refine (CM _).mono ?_); rintro e w4 ⟨rfl, rfl⟩))
            | (at_builtin; refine wpList_append_src _ rfl (.tmp 35) (.tmp 40) 22 rfl Bk 3 i0 (.int .i64 0) 1 8 Try.underlying22 hi hz0 hz1 hz2 rfl (by decide) (.slice A4 l c4) l (intCells K) rfl o4 (w3.heap.size + 1) (some ⟨w3.heap.size, 0, none⟩) 1 1 [.int .i64 x] (by rfl) (lists_row w3 [.int .i64 x] 3) rfl (by simp [Value.oneCell']) (by simp only [maxLen]; omega) (by omega) (by simp; omega) ?_; intro v2 w5 own5 hg5 hat5; obtain ⟨A2, n2, rfl, _⟩ := own_lists own5; have g5 : Only w3 w5 (blk (.slice A4 l c4)) := (((Only.refl w3 []).alloc (.cells #[.int .i64 x] 3)).more (fun _ h => (nomatch h))).trans ((Only.refl _ _).grown hg5 (fun b hb => .inl (by simp [blk, hb]))) (fun b hb => .inl hb)))
          have HF2 := Lib.hid (show FS W q Bk nv2 (.slice A2 (l + 1) n2) (keepL (L.take (k + 1))) w5 by
            rw [hkn.out]
            refine FS.kept (kv := .slice A4 l c4) (K := K) hs2 (by rw [← HLK.out]; exact o3) (by rw [HLK.out]; exact hp.2.1) hp.2.2.1 hp.2.2.2 hqB hWB g5 (by rw [List.length_append, ← HLK.out, intCells_app]; exact own5) ?_
            intro b hb
            rcases hat5 with e | e
            · left; unfold blk at hb ⊢; rw [e] at hb; exact hb
            · right; unfold blk at hb; rw [e] at hb; simp at hb; omega)
          clear hF hp hs2 hm2 o3 o4 own5 hg5 hat5 g5
          go_roundw
          case rel => exact ⟨k + 1, nv2, by omega, by omega, by go_num, HF2⟩
          case measure => simp [intOf]; omega
    · have hF := HK.out
      obtain ⟨K, hK⟩ : ∃ K, K = keepL (L.take k) := ⟨_, rfl⟩
      rw [← hK] at hF HK
      have hK48 : K.length ≤ 48 := by rw [hK]; exact keep_len _
      obtain ⟨A4, c4, rfl, hl4, hc4⟩ := own_lists hF.2.1
      obtain ⟨l, hl⟩ : ∃ l, l = K.length := ⟨_, rfl⟩
      rw [← hl] at hK48 HK hc4 ⊢
      have HLK := Lib.hid hl
      have HF0 := Lib.hid hF.1
      have HB0 := Lib.hid hF.2.2.2.1
      have hl4' := hl4
      rw [← hl] at hF
      have HO0 := Lib.hid hF.2.1
      have HD0 := Lib.hid hF.2.2.1
      have hqq := hF.1.lt
      have GD : (decide ((k : Int) < (n : Int)) = false ∧ decide (k < n) = false) ∨ (decide ((k : Int) < (n : Int)) = true ∧ decide ((k : Int) < 100) = false ∧ decide (k < n) = true ∧ decide (k < 100) = false) := by
        by_cases h1 : k < n
        · exact .inr ⟨by simp; omega, by simp; omega, by simp; omega, by simp; omega⟩
        · exact .inl ⟨by simp; omega, by simp; omega⟩
      have SB : (l = 0 ∧ wrap64 ((l : Int) - 1) = -1) ∨ ∃ m, l = m + 1 ∧ wrap64 ((l : Int) - 1) = (m : Int) := by
        rcases Nat.eq_zero_or_pos l with h | h
        · exact .inl ⟨h, by subst h; simp [wrap64]⟩
        · exact .inr ⟨l - 1, by omega, by simp [wrap64]; omega⟩
      clear hl hK hF HK hl4 hl4' hlt hk2
      have LOOP : ∀ (m : Int), wrap64 ((l : Int) - 1) = m → ((l = 0 ∧ m = -1) ∨ ∃ j : Nat, l = j + 1 ∧ m = (j : Int)) → True := fun _ _ _ => trivial
      obtain ⟨m, hm⟩ : ∃ m : Int, wrap64 ((l : Int) - 1) = m := ⟨_, rfl⟩
      have hmm : (l = 0 ∧ m = -1) ∨ ∃ j : Nat, l = j + 1 ∧ m = (j : Int) := by
        rcases SB with ⟨h1, h2⟩ | ⟨j, h1, h2⟩
        · exact .inl ⟨h1, by omega⟩
        · exact .inr ⟨j, h1, by omega⟩
      have hmm2 := Lib.hid hmm
      have hl48 := Lib.hid hK48
      clear SB LOOP hmm hK48 hc4 hk
      have HSTART : Hid (∃ (j : Nat), j ≤ l ∧ ((j = 0 ∧ Value.int .i64 m = .int .i64 (-1)) ∨ ∃ p : Nat, j = p + 1 ∧ Value.int .i64 m = .int .i64 (p : Nat)) ∧ K.take j = K) := by
        refine Lib.hid ⟨l, Nat.le_refl _, ?_, List.take_of_length_le (by have := HLK.out; omega)⟩
        rcases hmm2.out with ⟨h1, h2⟩ | ⟨p, h1, h2⟩
        · exact .inl ⟨h1, by rw [h2]⟩
        · exact .inr ⟨p, h1, by rw [h2]⟩
      clear hmm2
      have HMM := Lib.hid hm
      clear hm
      rcases GD with ⟨g1, g1b⟩ | ⟨g1, g2, g3, g4⟩
      all_goals
        go_wp2
        go_loopw [7] (fun iv wr => ∃ (j : Nat) (nx : Value), j ≤ l ∧ ((j = 0 ∧ iv = .int .i64 (-1)) ∨ ∃ p : Nat, j = p + 1 ∧ iv = .int .i64 (p : Nat)) ∧ Hid (Sk wr q nx (K.take j) (List.replicate 32 0) []) ∧ Hid (wr.ownsRow Bk 3 1 (.slice A4 l c4) K.length (intCells K)) ∧ Hid (∀ b ∈ blk (Value.slice A4 l c4), b ∉ q :: blk nx) ∧ Hid (Below W.heap.size W wr)) (fun iv _ => (intOf iv + 1).toNat)
        case atStart =>
          obtain ⟨j, hj, hjm, ht⟩ := HSTART.out
          exact ⟨j, nv, hj, by first | exact hjm | (rw [HMM.out]; exact hjm), by rw [ht]; exact HF0, HO0, HD0, HB0⟩
        case round =>
          obtain ⟨j, nx, hj, hjm, HK, HO, HD, HB⟩ := hrel
          rcases hjm with ⟨rfl, rfl⟩ | ⟨p, rfl, rfl⟩
          · have hs := HK.out
            rw [List.take_zero] at hs
            go_wp2_with (go_at_call 21; ((with_reducible refine (len_any q _ [] _ _ _ hs).mono ?_); rintro e w7 ⟨rfl, rfl⟩))
            go_ret
            exact ⟨rfl, HB.out⟩
          · obtain ⟨y, hy⟩ : ∃ y, K[p]? = some y := ⟨K[p]'(by rw [← HLK.out]; omega), List.getElem?_eq_getElem _⟩
            have hs := HK.out
            rw [List.take_add_one, hy] at hs
            have CP := pop_any q nx (K.take p) (List.replicate 32 0) [] y wr hs
            have hlen := HLK.out
            obtain ⟨Ax, cx, hex, hlx, _⟩ := own_lists HO.out
            injection hex with hx1 hx2 hx3
            subst hx1
            clear hx2 hx3
            have hne : intCells K ≠ [] := by intro e; have h1 := congrArg List.length e; rw [intCells_len, List.length_nil] at h1; omega
            obtain ⟨b5, o5, hA, hb5, hc5⟩ := hlx.plain hne
            subst hA
            have hpl : p < l := by omega
            have hpl2 : (p : Int) < (l : Int) := by omega
            have YK : ∀ V : World, V.ownsRow Bk 3 1 (.slice (some ⟨b5, o5, none⟩) l c4) K.length (intCells K) → V.cell? ⟨b5, o5 + p, none⟩ = some (.int .i64 y) := fun V hV => by
              obtain ⟨Ax, cx, hex, hlx, _⟩ := own_lists hV
              injection hex with hx1 hx2 hx3
              subst hx1
              have h8 := hlx.cell _ rfl p (.int .i64 y) (by simp [intCells, hy])
              rwa [addr_plain] at h8
            obtain ⟨m2, hm2⟩ : ∃ m2 : Int, wrap64 ((p : Int) - 1) = m2 := ⟨_, rfl⟩
            have hmm3 := Lib.hid (show (p = 0 ∧ Value.int .i64 m2 = .int .i64 (-1)) ∨ ∃ r : Nat, p = r + 1 ∧ Value.int .i64 m2 = .int .i64 (r : Nat) by
              have hl4 := hl48.out
              rcases Nat.eq_zero_or_pos p with h | h
              · refine .inl ⟨h, ?_⟩
                have h9 : wrap64 ((p : Int) - 1) = -1 := by rw [h]; simp [wrap64]
                rw [← hm2, h9]
              · refine .inr ⟨p - 1, by omega, ?_⟩
                have h9 : wrap64 ((p : Int) - 1) = ((p - 1 : Nat) : Int) := by simp [wrap64]; omega
                rw [← hm2, h9])
            have HM3 := Lib.hid (show m2 = (p : Int) - 1 by
              have hl4 := hl48.out
              rw [← hm2]; simp [wrap64]; omega)
            have hpj := Lib.hid (show p ≤ l by omega)
            have hsO := Lib.hid hs
            have hmes := Lib.hid (show 0 ≤ (p : Int) by omega)
            clear hs hne hc5 hlx hy hlen hj hb5
            go_wp2_with (go_at_call 12; ((with_reducible refine (CP).mono ?_); rintro e w3 ⟨rfl, nv3, hs3, hm3⟩); have own3 := own_only HO.out hm3.1 HD.out; have y3 := YK _ own3)
            have HK3 := Lib.hid hs3
            have HO3 := Lib.hid own3
            have HD3 := Lib.hid (show ∀ b ∈ blk (Value.slice (some ⟨b5, o5, none⟩) l c4), b ∉ q :: blk nv3 from fun b hb hm => by
              have h1 := HD.out b hb
              rcases List.mem_cons.1 hm with e | e
              · exact h1 (by simp [e])
              · rcases hm3.2 b e with h6 | h6
                · exact h1 (by simp [h6])
                · have := blk_lt HO.out b hb; omega)
            have HB3 := Lib.hid (HB.out.trans (hm3.to_below hsO.out.own hq hsO.out.lt))
            clear hs3 own3 hm3
            go_roundw
            case rel => exact ⟨p, nv3, hpj.out, by rw [hm2]; exact hmm3.out, HK3, HO3, HD3, HB3⟩
            case measure => have h1 := HM3.out; have h2 := hmes.out; simp only [intOf]; rw [hm2]; omega
theorem walk (A : Option Addr) (c : Nat) (L : List Int) (_ : L.length ≤ c) (_ : c ≤ maxLen) (hl : Lists W W.heap.size A (intCells L)) : Calls Try.prog 4 #[.slice A L.length c] W fun e w' => e = .returned (.bool true) ∧ Below W.heap.size W w' := walk1 A L.length c L rfl hl

set_option linter.unusedVariables false in
set_option maxRecDepth 100000 in
theorem lifted (os : Os) (started : os.Started) (H : Type) (enc : TypeId × Value → H) :
    ReturnsInHanded {} Try.checked os 4 .any (Rows.stackFullSpec.pre6 enc Try.prog Try.f4 Rows.stackFullRow.domain false) (Rows.stackFullSpec.post enc Try.prog Try.f4 false true false false) := by
  refine returnsInHanded_of_change (C := Try.checked) Try.own started (by kernel_rfl) Try.func4
    (ChangeSpec.witness6 (enc := enc) (C := Try.checked) false ⟨#[], #[.slice none 0 0], []⟩ 8 (by kernel_rfl) (by kernel_rfl) (by kernel_rfl) (by kernel_rfl)) ?_
  intro W base args ds gs before hval0 hW hcnd _
  have hval : ∀ (j : Nat) t v, Try.f4.params[j]? = some t → args[j]? = some v → Value.okWide Try.prog W .any base t v := hval0
  have hW' := hW
  obtain ⟨p, q, hA0, hV, rfl, hfz, hnd⟩ := hW
  have hA : DataW.TrodAll enc Try.prog W 0 (fun _ => true) true Try.f4.params.toList args.toList ds p := hA0
  rw [Try.params4] at hA hval
  obtain ⟨v0, vs0, d0, ds0, p0, q0, hargs, rfl, rfl, h0, r0⟩ := trodAll_cons hA
  obtain ⟨rfl, rfl, rfl⟩ := trodAll_nil r0
  obtain rfl : args = #[v0] := by cases args; simp_all
  obtain ⟨rfl, rfl⟩ := trodVars_none hV
  obtain ⟨A0, n0, c0, L0, rfl, rfl, k0, m0, l0, w0⟩ := open_list_int Try.underlying22 Try.underlying3 (by kernel_rfl) (hval 0 22 v0 rfl rfl) h0
  clear hA0 hval0
  simp only [List.append_nil] at hW'
  refine (walk (W := W) A0 c0 L0 k0 m0 l0).mono fun e W' ⟨he, hg⟩ => ?_
  subst he
  exact ⟨_, rfl, law_post Try.laidOut rfl Try.underlying4 (by kernel_rfl) rfl rfl rfl rfl hW' hg⟩

theorem over : Rows.stackFullRow.holds Try.pinned (OpenSpec.ofChange Rows.stackFullSpec) :=
  OpenClaim.holds_of_wide 4 Try.f4 rfl rfl rfl rfl rfl rfl rfl ⟨rfl, rfl, rfl, rfl, rfl⟩ rfl rfl rfl rfl rfl (by kernel_rfl) Try.func4 (by kernel_rfl)
    (of_decide_eq_true (by kernel_rfl)) (by unfold Func.isWrapper; first | (rw [if_pos (by decide +kernel)]; kernel_rfl) | (rw [if_neg (by decide +kernel)]; exact ⟨rfl, rfl⟩))
    (fun os started H enc _ => lifted os started H enc)

theorem proved : Rows.StackFullSaid :=
  over

end Go.Proofs.Ytdnmhjlodmicoaa.stackFull
