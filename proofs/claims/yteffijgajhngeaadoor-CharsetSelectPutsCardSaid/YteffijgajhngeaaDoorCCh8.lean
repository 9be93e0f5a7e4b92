/- Part 9 of the proof: ChH, ChC0, ChC1, ChC2, ChD, ChQ. -/
import Derived.Test.YteffijgajhngeaaDoorCCh7

namespace Go.Proofs.YteffijgajhngeaaDoor
open Go Go.RowKit
set_option linter.unusedVariables false
set_option linter.unusedSimpArgs false

/-- May these numbers be put? -/
def mayC (L : List Int) (f : Int) : Bool := inB 1 65535 (L.length : Nat) && (L.getD 0 0 == 0) && allB 0 65535 L && inB 0 2 f
set_option maxRecDepth 100000 in
set_option maxHeartbeats 2000000 in
theorem cput_bad (A : Option Addr) (c n : Nat) (L : List Int) (f : Int) (w : World) (hE : Lists w w.heap.size A (intCells L)) (hnn : L.length = n) (hc : n ≤ c) (hn2 : n ≤ 1000000) (hbad : mayC L f = false) :
    Calls Tryd.prog 13 #[.slice A n c, .int .i64 f] w fun e w' => e = .returned (.tuple #[.slice none 0 0, .int .i64 1]) ∧ Below w.heap.size w w' := by
  unfold mayC at hbad
  rw [hnn] at hbad
  cases h1 : inB 1 65535 (n : Nat)
  · have CC := ccount_any (n : Nat) false h1
    clear h1 hbad hE hnn
    go_enter Tryd.func13, Tryd.ntmps13
    go_wp2_with (first | (go_at_call 21; ((with_reducible refine (CC _).mono ?_); rintro e w1 ⟨rfl, b1⟩)))
    exact bodyPost_ret (v := .tuple #[.slice none 0 0, .int .i64 1]) (by simp [results, Tryd.results13, go_sem]) rfl ⟨rfl, b1⟩
  · have hn1 := inB_true h1
    have CC := ccount_any (n : Nat) true h1
    obtain ⟨b, o, rfl, hbl, hcl⟩ := hE.plain (by intro e; have h2 := congrArg List.length e; rw [intCells_len, hnn] at h2; simp at h2; omega)
    obtain ⟨x0, hx0⟩ : ∃ x, L.getD 0 0 = x := ⟨_, rfl⟩
    have hc0 : w.cell? ⟨b, o, none⟩ = some (.int .i64 x0) := by
      have := hcl 0 _ (intCells_atD (by rw [hnn]; omega))
      rw [hx0] at this
      simpa using this
    rw [h1, hx0] at hbad
    by_cases h0 : x0 = 0
    · subst h0
      obtain ⟨u, hu⟩ : ∃ u, allB 0 65535 L = u := ⟨_, rfl⟩
      have CW := fun W (hb : Below w.heap.size w W) => cwithin_any 0 65535 n w.heap.size (some ⟨b, o, none⟩) c L W hb.size (hE.below hb) hnn (by omega) u hu
      rw [hu] at hbad
      obtain ⟨v, hv⟩ : ∃ v, inB 0 2 f = v := ⟨_, rfl⟩
      have CF := cformat_any f v hv
      rw [hv] at hbad
      have n7 : 0 < n := by omega
      clear hE hcl h1 hu hv hx0 hnn
      cases u
      · clear hbad
        go_enter Tryd.func13, Tryd.ntmps13
        go_wp2_with (first | (go_at_call 21; ((with_reducible refine (CC _).mono ?_); rintro e w1 ⟨rfl, b1⟩; have g0 := (b1.cell (p := ⟨b, o, none⟩) hbl).trans hc0; have hl1 := Nat.lt_of_lt_of_le hbl b1.size)) | (go_at_call 31; ((with_reducible refine (CW _ b1).mono ?_); rintro e w2 ⟨rfl, b2⟩; have B2 := b1.trans (b2.mono b1.size))))
        exact bodyPost_ret (v := .tuple #[.slice none 0 0, .int .i64 1]) (by simp [results, Tryd.results13, go_sem]) rfl ⟨rfl, B2⟩
      · cases v
        · clear hbad
          go_enter Tryd.func13, Tryd.ntmps13
          go_wp2_with (first | (go_at_call 21; ((with_reducible refine (CC _).mono ?_); rintro e w1 ⟨rfl, b1⟩; have g0 := (b1.cell (p := ⟨b, o, none⟩) hbl).trans hc0; have hl1 := Nat.lt_of_lt_of_le hbl b1.size)) | (go_at_call 31; ((with_reducible refine (CW _ b1).mono ?_); rintro e w2 ⟨rfl, b2⟩; have B2 := b1.trans (b2.mono b1.size))) | (go_at_call 25; ((with_reducible refine (CF _).mono ?_); rintro e w3 ⟨rfl, b3⟩; have B3 := B2.trans (b3.mono B2.size))))
          exact bodyPost_ret (v := .tuple #[.slice none 0 0, .int .i64 1]) (by simp [results, Tryd.results13, go_sem]) rfl ⟨rfl, B3⟩
        · simp at hbad
    · have d0 : (x0 != 0) = true := by simpa using h0
      have n7 : 0 < n := by omega
      clear hE hcl h1 hx0 hbad hnn
      go_enter Tryd.func13, Tryd.ntmps13
      go_wp2_with (first | (go_at_call 21; ((with_reducible refine (CC _).mono ?_); rintro e w1 ⟨rfl, b1⟩; have g0 := (b1.cell (p := ⟨b, o, none⟩) hbl).trans hc0; have hl1 := Nat.lt_of_lt_of_le hbl b1.size)))
      exact bodyPost_ret (v := .tuple #[.slice none 0 0, .int .i64 1]) (by simp [results, Tryd.results13, go_sem]) rfl ⟨rfl, b1⟩
theorem cput_any (A : Option Addr) (c : Nat) (L : List Int) (f : Nat) (w : World) (hG : GL w) (hE : Lists w w.heap.size A (intCells L)) (hc : L.length ≤ c) (hmay : mayC L f = true) :
    Calls Tryd.prog 13 #[.slice A L.length c, .int .i64 (f : Nat)] w (Gave w (putC f L)) := by
  unfold mayC at hmay
  simp only [Bool.and_eq_true, beq_iff_eq] at hmay
  obtain ⟨⟨⟨h1, h2⟩, h3⟩, h4⟩ := hmay
  have h5 := inB_true h1
  have h6 := inB_true h4
  match f, h6 with
  | 0, _ => exact cput_0 A c L.length L w hG hE rfl hc (by omega) (by omega) h2 h3
  | 1, _ => exact cput_1 A c L.length L w hG hE rfl hc (by omega) (by omega) h2 h3
  | 2, _ => exact cput_2 A c L.length L w hG hE rfl hc (by omega) (by omega) h2 h3
  | f + 3, h => omega
end Go.Proofs.YteffijgajhngeaaDoor

namespace Go.Proofs.YteffijgajhngeaaDoor
open Go Go.RowKit
set_option linter.unusedVariables false
set_option linter.unusedSimpArgs false

set_option maxRecDepth 100000 in
set_option maxHeartbeats 4000000 in
theorem cload_0 (A : Option Addr) (c l n : Nat) (E bs : List Value) (w : World) (hE : Lists w w.heap.size A bs) (h8 : Bytes8 bs) (hc : l ≤ c) (hm : l ≤ 281474976710656) (hn1 : 1 ≤ n) (hn2 : n ≤ 65535) (hbl : bs.length = Nat.min l (1 + 4 * n)) (hfx : rsn bs 1 0 (byteAt bs 0) = 0) (R : Option (List Int × Nat)) (hR : goC bs 0 n n 1 [0] = R) :
    Calls Tryd.prog 8 #[.slice A l c, .int .i64 (n : Nat)] w (LdC w (finC bs R)) := by
  have CC := ccount_any (n : Nat) true (inB_yes (by omega) (by omega))
  have CE := clen_any n (by omega)
  have CF := cformat_any 0 true (by decide)
  have CRD : ∀ p W, Calls Tryd.prog 26 #[.pointer (some ⟨p, 0, none⟩), .int .i64 0] W fun e w' => e = .returned (moreF 0 p) ∧ w' = W := fun p W => creading_any 0 (by decide) p W
  simp only [moreF] at CRD
  obtain ⟨m, hm2⟩ : ∃ m, bs.length = m := ⟨_, rfl⟩
  have hmn : (m = l ∧ (l : Int) ≤ ((1 + 4 * n : Nat) : Int)) ∨ (m = 1 + 4 * n ∧ ((1 + 4 * n : Nat) : Int) < (l : Int)) := by
    have : m = min l (1 + 4 * n) := by rw [← hm2]; exact hbl
    omega
  obtain ⟨N4, hN4⟩ : ∃ N4, 1 + 4 * n = N4 := ⟨_, rfl⟩
  rw [hN4] at hmn CE
  have hm3 : m ≤ N4 := by omega
  have CN := fun W (hb : Below w.heap.size w W) c' => new_any A m c' bs W ((hE.below hb).more hb.size) hm2 h8 (by omega)
  have hno : R = none → ∀ W, Below w.heap.size w W → LdC w (finC bs R) (.returned (.tuple #[.slice none 0 0, .int .i64 160])) W := fun h W hb => by
    rw [h]; exact ⟨rfl, hb⟩
  have hlong : ∀ L k, R = some (L, k) → m < k → ∀ W, Below w.heap.size w W → LdC w (finC bs R) (.returned (.tuple #[.slice none 0 0, .int .i64 160])) W := fun L k h hk W hb => by
    rw [h]; unfold finC; simp only; rw [if_neg (by omega)]; exact ⟨rfl, hb⟩
  have hyes : ∀ L k, R = some (L, k) → k ≤ m → ∀ A c W, Lists W W.heap.size A (intCells L) → L.length ≤ c → Below w.heap.size w W → LdC w (finC bs R) (.returned (.tuple #[.slice A L.length c, .int .i64 0])) W := fun L k h hk A c W hl hc hb => by
    rw [h]; unfold finC; simp only; rw [if_pos (by omega)]; exact ⟨A, c, rfl, Lib.hid hl, hc, hb⟩
  have HNO := Lib.hid hno
  have HLG := Lib.hid hlong
  have HY := Lib.hid hyes
  have HR := Lib.hid hR
  have HM := Lib.hid hm2
  have HLB := Lib.hid (show bs.length ≤ 4611686018427387904 by omega)
  have HFX := Lib.hid hfx
  have H8 := Lib.hid h8
  clear hno hlong hyes hR hm2 hfx h8 hE hbl
  obtain ⟨i0, hi, hz0, hz1, hz2⟩ := info_parts intInfoC
  rcases hmn with ⟨hml, hmin⟩ | ⟨hml, hmin⟩
  all_goals
    subst hml
    go_enter Tryd.func8, Tryd.ntmps8
    go_wp2_with (first | (go_at_call 21; ((with_reducible refine (CC _).mono ?_); rintro e w1 ⟨rfl, b1⟩)) | (go_at_call 23; ((with_reducible refine (CE _).mono ?_); rintro e w1 ⟨rfl, rfl⟩)) | (go_at_call 22; ((with_reducible refine (CN _ b1 _).mono ?_); rintro e w2 ⟨p, rfl, r2, b2, hp2⟩; have B2 := b1.trans (b2.mono b1.size); have hpl := r2.lt; have rs2 : RS (fun b => w1.heap.size ≤ b ∧ b < w2.heap.size) w2 p bs 0 := .inl ⟨Nat.zero_le _, r2⟩; have CU := rsU8 p bs 0 w2 rs2 HLB.out; rw [HFX.out] at CU)) | (go_at_call 24; ((with_reducible refine (CU).mono ?_); rintro e w3 ⟨rfl, r3, o3⟩; have hs3 := o3.size; have B3 := B2.trans (o3.to_below B2.size (by have := b1.size; simp; omega)))) | (go_at_call 25; ((with_reducible refine (CF _).mono ?_); rintro e w4 ⟨rfl, b4⟩; have B4 := B3.trans (b4.mono B3.size); have r4 := r3.below b4)) | (go_at_call 26; ((with_reducible refine (CRD p _).mono ?_); rintro e w4 ⟨rfl, rfl⟩)))
    obtain ⟨Bz, hBz⟩ : ∃ Bz, Bz = w4.heap.size := ⟨_, rfl⟩
    obtain ⟨z1, hz1'⟩ : ∃ z, w1.heap.size = z := ⟨_, rfl⟩
    obtain ⟨z2, hz2'⟩ : ∃ z, w2.heap.size = z := ⟨_, rfl⟩
    rw [hz1'] at r3 r4
    rw [hz2'] at r3 r4 hpl hs3
    have hb4s := b4.size
    have hzB : z2 ≤ Bz := by omega
    have hwB : w.heap.size ≤ Bz := by have := B4.size; omega
    have hpB : p < Bz := by omega
    have hpw : w.heap.size ≤ p := by have := b1.size; omega
    have own0 := ownC_one w4 0 Bz hBz
    have r40 := r4.below ((Below.refl _ _).alloc (Nat.le_refl _) (.cells #[.int .i64 0] 3))
    have B40 := B4.alloc B4.size (.cells #[.int .i64 0] 3)
    have hs40 : Bz ≤ (w4.alloc (.cells #[.int .i64 0] 3)).heap.size := by rw [World.size_alloc]; omega
    rw [← hBz]
    generalize w4.alloc (.cells #[.int .i64 0] 3) = w40 at *
    have HS0 := Lib.hid (show goC bs 0 n n 1 [0] = R from HR.out)
    have HO0 := Lib.hid own0
    have HR0 := Lib.hid r40
    have HB0 := Lib.hid B40
    have HF0 := Lib.hid hs40
    clear r2 rs2 r3 r4 b1 b2 b4 B2 B3 B4 o3 CU CC CE CF CN own0 r40 B40 hs40 hs3 hb4s hpl hp2 hBz
    go_loopw [9] (fun nv wr => ∃ (mm k : Nat) (L : List Int), Hid (goC bs 0 n mm k L = R) ∧ n ≤ L.length + mm ∧ 1 ≤ L.length ∧ L.length ≤ n ∧ wr.ownsRow Bz 3 1 nv L.length (intCells L) ∧ RS (fun b => z1 ≤ b ∧ b < z2) wr p bs k ∧ Below w.heap.size w wr ∧ Bz ≤ wr.heap.size) (fun nv _ => n - sLenC nv)
    case atStart => exact ⟨n, 1, [0], HS0, by simp, by simp, hn1, HO0.out, HR0.out, HB0.out, HF0.out⟩
    case round =>
      obtain ⟨mm, k, L, hgo, hfu, hl1, hln, hown, hrs, hbe, hsB⟩ := hrel
      obtain ⟨ll, hll⟩ : ∃ ll, L.length = ll := ⟨_, rfl⟩
      rw [hll] at hown hfu hl1 hln
      have HLL := Lib.hid hll
      have HBE := Lib.hid hbe
      obtain ⟨A9, c9, rfl, hl9, hc9⟩ := own_lists hown
      have HL9 := Lib.hid hl9
      clear hll hbe hl9
      by_cases hlt : ll < n
      · have d1 : (ll : Int) < (n : Int) := by omega
        obtain ⟨mm1, rfl⟩ : ∃ x, mm = x + 1 := ⟨mm - 1, by omega⟩
        have C16 := rsU16 p bs k wr hrs HLB.out
        obtain ⟨a, ha⟩ : ∃ a, firstC bs k = a := ⟨_, rfl⟩
        obtain ⟨bb, hb⟩ : ∃ bb, moreC bs 0 k = bb := ⟨_, rfl⟩
        have HAA := Lib.hid ha
        have HBB := Lib.hid hb
        have hab : a < 65536 := by rw [← ha]; exact firstC_lt H8.out k
        have hbb : bb < 65536 := by rw [← hb]; exact moreC_lt H8.out 0 k (by decide)
        rw [show rsn bs 2 k (rd2 bs k) = a from ha] at C16
        have hbad := goC_bad (E := bs) (f := 0) (n := n) (m := mm1) (k := k) (L := L) (by rw [HLL.out]; exact hlt)
        have hmore := goC_more (E := bs) (f := 0) (n := n) (m := mm1) (k := k) (L := L) (by rw [HLL.out]; exact hlt)
        rw [ha, hb, HLL.out, hgo.out] at hbad hmore
        have CM2 : ∀ V, Calls Tryd.prog 47 #[] V fun e w' => e = .returned (.int .i64 (bb : Nat)) ∧ V = w' := fun V => by
          have hb0 : bb = 0 := by rw [← HBB.out]; unfold moreC rsn; split <;> rfl
          rw [hb0]
          exact (creading1_any V).mono fun e w' h => ⟨h.1, h.2.symm⟩
        clear ha hb
        have s0 : (a : Int) + (bb : Int) - (a : Int) = (bb : Int) := by omega
        by_cases hbd : n - ll ≤ bb ∨ 65535 < a + bb
        · have HBad := Lib.hid (hbad hbd)
          clear hbad hmore
          by_cases h1 : n - ll ≤ bb
          · have t1 : (n : Int) - (ll : Int) ≤ (bb : Int) := by omega
            clear hbd h1
            go_wp2_with (first | (go_at_call 27; ((with_reducible refine (C16).mono ?_); rintro e w4 ⟨rfl, r4, o4⟩)) | (go_at_call 47; ((with_reducible refine (CM2 _).mono ?_); rintro e w5 ⟨rfl, rfl⟩; have r5 : RS (fun b => z1 ≤ b ∧ b < z2) w4 p bs (k + 2 + 0) := r4; have o5 : Only wr w4 [p] := o4; have BB := HBE.out.trans (o5.to_below HBE.out.size (by simp; omega)); have hs5 := o5.size)))
            exact bodyPost_ret (v := .tuple #[.slice none 0 0, .int .i64 160]) (by simp [results, Tryd.results8, go_sem]) rfl (HNO.out HBad.out _ BB)
          · have t1 : ¬ (n : Int) - (ll : Int) ≤ (bb : Int) := by omega
            have t2 : (a : Int) + (bb : Int) > 65535 := by omega
            clear hbd h1
            go_wp2_with (first | (go_at_call 27; ((with_reducible refine (C16).mono ?_); rintro e w4 ⟨rfl, r4, o4⟩)) | (go_at_call 47; ((with_reducible refine (CM2 _).mono ?_); rintro e w5 ⟨rfl, rfl⟩; have r5 : RS (fun b => z1 ≤ b ∧ b < z2) w4 p bs (k + 2 + 0) := r4; have o5 : Only wr w4 [p] := o4; have BB := HBE.out.trans (o5.to_below HBE.out.size (by simp; omega)); have hs5 := o5.size)))
            exact bodyPost_ret (v := .tuple #[.slice none 0 0, .int .i64 160]) (by simp [results, Tryd.results8, go_sem]) rfl (HNO.out HBad.out _ BB)
        · have HMO := Lib.hid (hmore hbd)
          clear hbad hmore
          have t1 : ¬ (n : Int) - (ll : Int) ≤ (bb : Int) := by omega
          have t2 : ¬ (a : Int) + (bb : Int) > 65535 := by omega
          have hle : ll + bb + 1 ≤ n := by omega
          have hab2 : a + bb ≤ 65535 := by omega
          clear hbd
          go_wp2_with (first | (go_at_call 27; ((with_reducible refine (C16).mono ?_); rintro e w4 ⟨rfl, r4, o4⟩)) | (go_at_call 47; ((with_reducible refine (CM2 _).mono ?_); rintro e w5 ⟨rfl, rfl⟩; have r5 : RS (fun b => z1 ≤ b ∧ b < z2) w4 p bs (k + 2 + 0) := r4; have o5 : Only wr w4 [p] := o4; have BB := HBE.out.trans (o5.to_below HBE.out.size (by simp; omega)); have hs5 := o5.size)))
          have ow5 := own_only hown o5 (fun b hb e => by have := ownC_low hown b hb; simp at e; omega)
          have HO5 := Lib.hid ow5
          have HR5 := Lib.hid r5
          have HB5 := Lib.hid BB
          clear hown ow5 r5 BB hrs r4 o4 o5 C16 CM2
          go_loopw [9, 12] (fun nv iv w6 => ∃ i : Nat, i ≤ bb + 1 ∧ iv = .int .i64 ((a : Int) + (i : Int)) ∧ w6.ownsRow Bz 3 1 nv (ll + i) (intCells (L ++ runC a i)) ∧ RS (fun b => z1 ≤ b ∧ b < z2) w6 p bs (k + 2 + 0) ∧ Below w.heap.size w w6 ∧ Bz ≤ w6.heap.size) (fun _ iv _ => ((a : Int) + (bb : Int) + 1 - intOf iv).toNat)
          case atStart => exact ⟨0, by omega, by simp, by simpa [runC] using HO5.out, HR5.out, HB5.out, by omega⟩
          case round =>
            obtain ⟨i, hib, rfl, hown5, hr6, hb6, hs6⟩ := hrel
            by_cases hi2 : i ≤ bb
            · have l1 : (a : Int) + (i : Int) ≤ (a : Int) + (bb : Int) := by omega
              have HSN := Lib.hid (show intCells (L ++ runC a (i + 1)) = intCells (L ++ runC a i) ++ [.int .i64 ((a : Int) + (i : Int))] by rw [runC_snoc, ← List.append_assoc, intCells_snocC]; simp)
              have hlow6 := ownC_low hown5
              go_wp2_with (first | (at_builtin; refine wpList_append_src _ rfl (.tmp 61) (.tmp 63) 24 rfl Bz 3 i0 (.int .i64 0) 1 8 Tryd.underlying24 hi hz0 hz1 hz2 rfl (by decide) _ (ll + i) (intCells (L ++ runC a i)) rfl (own_only hown5 ((Only.refl wr []).alloc (.cells #[.int .i64 ((a : Int) + (i : Int))] 3)) (fun _ _ h => (nomatch h))) (wr.heap.size + 1) (some ⟨wr.heap.size, 0, none⟩) 1 1 [.int .i64 ((a : Int) + (i : Int))] (by rfl) (lists_row wr [.int .i64 ((a : Int) + (i : Int))] 3) rfl (by simp [Value.oneCell']) (by simp only [maxLen]; omega) (by omega) (by simp; omega) ?_; intro v7 w7 own7 hg7 hat7; have o67 : Only wr w7 (blk u9) := ((Only.refl wr (blk u9)).alloc _).grown hg7 (fun b hb => .inl (by have hb' : Value.ownBlock u9 = some b := hb; simp [blk, hb']))))
              go_roundw
              case rel => exact ⟨i + 1, by omega, by first | rfl | go_num, by rw [HSN.out]; exact own7, hr6.only o67 (fun hm => by have := hlow6 _ hm; omega) (fun b hb hq => by have := hlow6 b hb; omega), hb6.trans (o67.to_below hb6.size (fun b hb => by have := hlow6 b hb; omega)), Nat.le_trans hs6 o67.size⟩
              case measure => simp [intOf]; omega
            · obtain rfl : i = bb + 1 := by omega
              have l1 : ¬ (a : Int) + ((bb + 1 : Nat) : Int) ≤ (a : Int) + (bb : Int) := by omega
              have l2 : ¬ (a : Int) + ((bb : Int) + 1) ≤ (a : Int) + (bb : Int) := by omega
              obtain ⟨A7, c7, rfl, hl7, hc7⟩ := own_lists hown5
              clear hl7 hc7
              go_wp2
              go_roundw
              case rel => exact ⟨mm1, k + 2 + 0, L ++ runC a (bb + 1), Lib.hid HMO.out.symm, by rw [List.length_append, runC_len, HLL.out]; omega, by rw [List.length_append, runC_len, HLL.out]; omega, by rw [List.length_append, runC_len, HLL.out]; omega, by rw [List.length_append, runC_len, HLL.out]; exact hown5, hr6, hb6, hs6⟩
              case measure => simp [sLenC]; omega
      · have d1 : ¬ (ll : Int) < (n : Int) := by omega
        obtain rfl : ll = n := by omega
        have hR2 := hgo.out
        rw [goC_end (by rw [HLL.out]; exact Nat.le_refl _)] at hR2
        have HR2 := Lib.hid hR2.symm
        by_cases hk : k ≤ m
        · have CD := rs_doneH p bs k wr hrs true (by rw [HM.out]; exact decide_eq_true hk)
          have HF := Lib.hid (HY.out L k HR2.out hk A9 c9 wr HL9.out (by rw [HLL.out]; exact hc9) HBE.out)
          rw [HLL.out] at HF
          clear hR2
          go_wp2_with (first | (go_at_call 28; ((with_reducible refine (CD).mono ?_); rintro e w8 ⟨rfl, rfl⟩)))
          exact bodyPost_ret (v := .tuple #[.slice A9 ll c9, .int .i64 0]) (by simp [results, Tryd.results8, go_sem]) rfl HF.out
        · have CD := rs_doneH p bs k wr hrs false (by rw [HM.out]; exact decide_eq_false hk)
          have HF := Lib.hid (HLG.out L k HR2.out (by omega) wr HBE.out)
          clear hR2
          go_wp2_with (first | (go_at_call 28; ((with_reducible refine (CD).mono ?_); rintro e w8 ⟨rfl, rfl⟩)))
          exact bodyPost_ret (v := .tuple #[.slice none 0 0, .int .i64 160]) (by simp [results, Tryd.results8, go_sem]) rfl HF.out

end Go.Proofs.YteffijgajhngeaaDoor

namespace Go.Proofs.YteffijgajhngeaaDoor
open Go Go.RowKit
set_option linter.unusedVariables false
set_option linter.unusedSimpArgs false

set_option maxRecDepth 100000 in
set_option maxHeartbeats 4000000 in
theorem cload_1 (A : Option Addr) (c l n : Nat) (E bs : List Value) (w : World) (hE : Lists w w.heap.size A bs) (h8 : Bytes8 bs) (hc : l ≤ c) (hm : l ≤ 281474976710656) (hn1 : 1 ≤ n) (hn2 : n ≤ 65535) (hbl : bs.length = Nat.min l (1 + 4 * n)) (hfx : rsn bs 1 0 (byteAt bs 0) = 1) (R : Option (List Int × Nat)) (hR : goC bs 1 n n 1 [0] = R) :
    Calls Tryd.prog 8 #[.slice A l c, .int .i64 (n : Nat)] w (LdC w (finC bs R)) := by
  have CC := ccount_any (n : Nat) true (inB_yes (by omega) (by omega))
  have CE := clen_any n (by omega)
  have CF := cformat_any 1 true (by decide)
  have CRD : ∀ p W, Calls Tryd.prog 26 #[.pointer (some ⟨p, 0, none⟩), .int .i64 1] W fun e w' => e = .returned (moreF 1 p) ∧ w' = W := fun p W => creading_any 1 (by decide) p W
  simp only [moreF] at CRD
  obtain ⟨m, hm2⟩ : ∃ m, bs.length = m := ⟨_, rfl⟩
  have hmn : (m = l ∧ (l : Int) ≤ ((1 + 4 * n : Nat) : Int)) ∨ (m = 1 + 4 * n ∧ ((1 + 4 * n : Nat) : Int) < (l : Int)) := by
    have : m = min l (1 + 4 * n) := by rw [← hm2]; exact hbl
    omega
  obtain ⟨N4, hN4⟩ : ∃ N4, 1 + 4 * n = N4 := ⟨_, rfl⟩
  rw [hN4] at hmn CE
  have hm3 : m ≤ N4 := by omega
  have CN := fun W (hb : Below w.heap.size w W) c' => new_any A m c' bs W ((hE.below hb).more hb.size) hm2 h8 (by omega)
  have hno : R = none → ∀ W, Below w.heap.size w W → LdC w (finC bs R) (.returned (.tuple #[.slice none 0 0, .int .i64 160])) W := fun h W hb => by
    rw [h]; exact ⟨rfl, hb⟩
  have hlong : ∀ L k, R = some (L, k) → m < k → ∀ W, Below w.heap.size w W → LdC w (finC bs R) (.returned (.tuple #[.slice none 0 0, .int .i64 160])) W := fun L k h hk W hb => by
    rw [h]; unfold finC; simp only; rw [if_neg (by omega)]; exact ⟨rfl, hb⟩
  have hyes : ∀ L k, R = some (L, k) → k ≤ m → ∀ A c W, Lists W W.heap.size A (intCells L) → L.length ≤ c → Below w.heap.size w W → LdC w (finC bs R) (.returned (.tuple #[.slice A L.length c, .int .i64 0])) W := fun L k h hk A c W hl hc hb => by
    rw [h]; unfold finC; simp only; rw [if_pos (by omega)]; exact ⟨A, c, rfl, Lib.hid hl, hc, hb⟩
  have HNO := Lib.hid hno
  have HLG := Lib.hid hlong
  have HY := Lib.hid hyes
  have HR := Lib.hid hR
  have HM := Lib.hid hm2
  have HLB := Lib.hid (show bs.length ≤ 4611686018427387904 by omega)
  have HFX := Lib.hid hfx
  have H8 := Lib.hid h8
  clear hno hlong hyes hR hm2 hfx h8 hE hbl
  obtain ⟨i0, hi, hz0, hz1, hz2⟩ := info_parts intInfoC
  rcases hmn with ⟨hml, hmin⟩ | ⟨hml, hmin⟩
  all_goals
    subst hml
    go_enter Tryd.func8, Tryd.ntmps8
    go_wp2_with (first | (go_at_call 21; ((with_reducible refine (CC _).mono ?_); rintro e w1 ⟨rfl, b1⟩)) | (go_at_call 23; ((with_reducible refine (CE _).mono ?_); rintro e w1 ⟨rfl, rfl⟩)) | (go_at_call 22; ((with_reducible refine (CN _ b1 _).mono ?_); rintro e w2 ⟨p, rfl, r2, b2, hp2⟩; have B2 := b1.trans (b2.mono b1.size); have hpl := r2.lt; have rs2 : RS (fun b => w1.heap.size ≤ b ∧ b < w2.heap.size) w2 p bs 0 := .inl ⟨Nat.zero_le _, r2⟩; have CU := rsU8 p bs 0 w2 rs2 HLB.out; rw [HFX.out] at CU)) | (go_at_call 24; ((with_reducible refine (CU).mono ?_); rintro e w3 ⟨rfl, r3, o3⟩; have hs3 := o3.size; have B3 := B2.trans (o3.to_below B2.size (by have := b1.size; simp; omega)))) | (go_at_call 25; ((with_reducible refine (CF _).mono ?_); rintro e w4 ⟨rfl, b4⟩; have B4 := B3.trans (b4.mono B3.size); have r4 := r3.below b4)) | (go_at_call 26; ((with_reducible refine (CRD p _).mono ?_); rintro e w4 ⟨rfl, rfl⟩)))
    obtain ⟨Bz, hBz⟩ : ∃ Bz, Bz = w4.heap.size := ⟨_, rfl⟩
    obtain ⟨z1, hz1'⟩ : ∃ z, w1.heap.size = z := ⟨_, rfl⟩
    obtain ⟨z2, hz2'⟩ : ∃ z, w2.heap.size = z := ⟨_, rfl⟩
    rw [hz1'] at r3 r4
    rw [hz2'] at r3 r4 hpl hs3
    have hb4s := b4.size
    have hzB : z2 ≤ Bz := by omega
    have hwB : w.heap.size ≤ Bz := by have := B4.size; omega
    have hpB : p < Bz := by omega
    have hpw : w.heap.size ≤ p := by have := b1.size; omega
    have own0 := ownC_one w4 0 Bz hBz
    have r40 := r4.below ((Below.refl _ _).alloc (Nat.le_refl _) (.cells #[.int .i64 0] 3))
    have B40 := B4.alloc B4.size (.cells #[.int .i64 0] 3)
    have hs40 : Bz ≤ (w4.alloc (.cells #[.int .i64 0] 3)).heap.size := by rw [World.size_alloc]; omega
    rw [← hBz]
    generalize w4.alloc (.cells #[.int .i64 0] 3) = w40 at *
    have HS0 := Lib.hid (show goC bs 1 n n 1 [0] = R from HR.out)
    have HO0 := Lib.hid own0
    have HR0 := Lib.hid r40
    have HB0 := Lib.hid B40
    have HF0 := Lib.hid hs40
    clear r2 rs2 r3 r4 b1 b2 b4 B2 B3 B4 o3 CU CC CE CF CN own0 r40 B40 hs40 hs3 hb4s hpl hp2 hBz
    go_loopw [9] (fun nv wr => ∃ (mm k : Nat) (L : List Int), Hid (goC bs 1 n mm k L = R) ∧ n ≤ L.length + mm ∧ 1 ≤ L.length ∧ L.length ≤ n ∧ wr.ownsRow Bz 3 1 nv L.length (intCells L) ∧ RS (fun b => z1 ≤ b ∧ b < z2) wr p bs k ∧ Below w.heap.size w wr ∧ Bz ≤ wr.heap.size) (fun nv _ => n - sLenC nv)
    case atStart => exact ⟨n, 1, [0], HS0, by simp, by simp, hn1, HO0.out, HR0.out, HB0.out, HF0.out⟩
    case round =>
      obtain ⟨mm, k, L, hgo, hfu, hl1, hln, hown, hrs, hbe, hsB⟩ := hrel
      obtain ⟨ll, hll⟩ : ∃ ll, L.length = ll := ⟨_, rfl⟩
      rw [hll] at hown hfu hl1 hln
      have HLL := Lib.hid hll
      have HBE := Lib.hid hbe
      obtain ⟨A9, c9, rfl, hl9, hc9⟩ := own_lists hown
      have HL9 := Lib.hid hl9
      clear hll hbe hl9
      by_cases hlt : ll < n
      · have d1 : (ll : Int) < (n : Int) := by omega
        obtain ⟨mm1, rfl⟩ : ∃ x, mm = x + 1 := ⟨mm - 1, by omega⟩
        have C16 := rsU16 p bs k wr hrs HLB.out
        obtain ⟨a, ha⟩ : ∃ a, firstC bs k = a := ⟨_, rfl⟩
        obtain ⟨bb, hb⟩ : ∃ bb, moreC bs 1 k = bb := ⟨_, rfl⟩
        have HAA := Lib.hid ha
        have HBB := Lib.hid hb
        have hab : a < 65536 := by rw [← ha]; exact firstC_lt H8.out k
        have hbb : bb < 65536 := by rw [← hb]; exact moreC_lt H8.out 1 k (by decide)
        rw [show rsn bs 2 k (rd2 bs k) = a from ha] at C16
        have hbad := goC_bad (E := bs) (f := 1) (n := n) (m := mm1) (k := k) (L := L) (by rw [HLL.out]; exact hlt)
        have hmore := goC_more (E := bs) (f := 1) (n := n) (m := mm1) (k := k) (L := L) (by rw [HLL.out]; exact hlt)
        rw [ha, hb, HLL.out, hgo.out] at hbad hmore
        have CM2 : ∀ V, RS (fun b => z1 ≤ b ∧ b < z2) V p bs (k + 2) → Calls Tryd.prog 24 #[.pointer (some ⟨p, 0, none⟩)] V (ReadS (fun b => z1 ≤ b ∧ b < z2) V p bs (k + 2 + 1) (bb : Nat)) := fun V hV => by
          have h := rsU8 p bs (k + 2) V hV HLB.out
          rw [← rdn_one, show rsn bs 1 (k + 2) (rdn bs 1 (k + 2)) = bb from HBB.out] at h
          exact h
        clear ha hb
        have s0 : (a : Int) + (bb : Int) - (a : Int) = (bb : Int) := by omega
        by_cases hbd : n - ll ≤ bb ∨ 65535 < a + bb
        · have HBad := Lib.hid (hbad hbd)
          clear hbad hmore
          by_cases h1 : n - ll ≤ bb
          · have t1 : (n : Int) - (ll : Int) ≤ (bb : Int) := by omega
            clear hbd h1
            go_wp2_with (first | (go_at_call 27; ((with_reducible refine (C16).mono ?_); rintro e w4 ⟨rfl, r4, o4⟩)) | (go_at_call 24; ((with_reducible refine (CM2 _ r4).mono ?_); rintro e w5 ⟨rfl, r5, o5b⟩; have o5 := o4.trans o5b (fun b hb => .inl hb); have BB := HBE.out.trans (o5.to_below HBE.out.size (by simp; omega)); have hs5 := o5.size)))
            exact bodyPost_ret (v := .tuple #[.slice none 0 0, .int .i64 160]) (by simp [results, Tryd.results8, go_sem]) rfl (HNO.out HBad.out _ BB)
          · have t1 : ¬ (n : Int) - (ll : Int) ≤ (bb : Int) := by omega
            have t2 : (a : Int) + (bb : Int) > 65535 := by omega
            clear hbd h1
            go_wp2_with (first | (go_at_call 27; ((with_reducible refine (C16).mono ?_); rintro e w4 ⟨rfl, r4, o4⟩)) | (go_at_call 24; ((with_reducible refine (CM2 _ r4).mono ?_); rintro e w5 ⟨rfl, r5, o5b⟩; have o5 := o4.trans o5b (fun b hb => .inl hb); have BB := HBE.out.trans (o5.to_below HBE.out.size (by simp; omega)); have hs5 := o5.size)))
            exact bodyPost_ret (v := .tuple #[.slice none 0 0, .int .i64 160]) (by simp [results, Tryd.results8, go_sem]) rfl (HNO.out HBad.out _ BB)
        · have HMO := Lib.hid (hmore hbd)
          clear hbad hmore
          have t1 : ¬ (n : Int) - (ll : Int) ≤ (bb : Int) := by omega
          have t2 : ¬ (a : Int) + (bb : Int) > 65535 := by omega
          have hle : ll + bb + 1 ≤ n := by omega
          have hab2 : a + bb ≤ 65535 := by omega
          clear hbd
          go_wp2_with (first | (go_at_call 27; ((with_reducible refine (C16).mono ?_); rintro e w4 ⟨rfl, r4, o4⟩)) | (go_at_call 24; ((with_reducible refine (CM2 _ r4).mono ?_); rintro e w5 ⟨rfl, r5, o5b⟩; have o5 := o4.trans o5b (fun b hb => .inl hb); have BB := HBE.out.trans (o5.to_below HBE.out.size (by simp; omega)); have hs5 := o5.size)))
          have ow5 := own_only hown o5 (fun b hb e => by have := ownC_low hown b hb; simp at e; omega)
          have HO5 := Lib.hid ow5
          have HR5 := Lib.hid r5
          have HB5 := Lib.hid BB
          clear hown ow5 r5 BB hrs r4 o4 o5 C16 CM2
          go_loopw [9, 12] (fun nv iv w6 => ∃ i : Nat, i ≤ bb + 1 ∧ iv = .int .i64 ((a : Int) + (i : Int)) ∧ w6.ownsRow Bz 3 1 nv (ll + i) (intCells (L ++ runC a i)) ∧ RS (fun b => z1 ≤ b ∧ b < z2) w6 p bs (k + 2 + 1) ∧ Below w.heap.size w w6 ∧ Bz ≤ w6.heap.size) (fun _ iv _ => ((a : Int) + (bb : Int) + 1 - intOf iv).toNat)
          case atStart => exact ⟨0, by omega, by simp, by simpa [runC] using HO5.out, HR5.out, HB5.out, by omega⟩
          case round =>
            obtain ⟨i, hib, rfl, hown5, hr6, hb6, hs6⟩ := hrel
            by_cases hi2 : i ≤ bb
            · have l1 : (a : Int) + (i : Int) ≤ (a : Int) + (bb : Int) := by omega
              have HSN := Lib.hid (show intCells (L ++ runC a (i + 1)) = intCells (L ++ runC a i) ++ [.int .i64 ((a : Int) + (i : Int))] by rw [runC_snoc, ← List.append_assoc, intCells_snocC]; simp)
              have hlow6 := ownC_low hown5
              go_wp2_with (first | (at_builtin; refine wpList_append_src _ rfl (.tmp 61) (.tmp 63) 24 rfl Bz 3 i0 (.int .i64 0) 1 8 Tryd.underlying24 hi hz0 hz1 hz2 rfl (by decide) _ (ll + i) (intCells (L ++ runC a i)) rfl (own_only hown5 ((Only.refl wr []).alloc (.cells #[.int .i64 ((a : Int) + (i : Int))] 3)) (fun _ _ h => (nomatch h))) (wr.heap.size + 1) (some ⟨wr.heap.size, 0, none⟩) 1 1 [.int .i64 ((a : Int) + (i : Int))] (by rfl) (lists_row wr [.int .i64 ((a : Int) + (i : Int))] 3) rfl (by simp [Value.oneCell']) (by simp only [maxLen]; omega) (by omega) (by simp; omega) ?_; intro v7 w7 own7 hg7 hat7; have o67 : Only wr w7 (blk u9) := ((Only.refl wr (blk u9)).alloc _).grown hg7 (fun b hb => .inl (by have hb' : Value.ownBlock u9 = some b := hb; simp [blk, hb']))))
              go_roundw
              case rel => exact ⟨i + 1, by omega, by first | rfl | go_num, by rw [HSN.out]; exact own7, hr6.only o67 (fun hm => by have := hlow6 _ hm; omega) (fun b hb hq => by have := hlow6 b hb; omega), hb6.trans (o67.to_below hb6.size (fun b hb => by have := hlow6 b hb; omega)), Nat.le_trans hs6 o67.size⟩
              case measure => simp [intOf]; omega
            · obtain rfl : i = bb + 1 := by omega
              have l1 : ¬ (a : Int) + ((bb + 1 : Nat) : Int) ≤ (a : Int) + (bb : Int) := by omega
              have l2 : ¬ (a : Int) + ((bb : Int) + 1) ≤ (a : Int) + (bb : Int) := by omega
              obtain ⟨A7, c7, rfl, hl7, hc7⟩ := own_lists hown5
              clear hl7 hc7
              go_wp2
              go_roundw
              case rel => exact ⟨mm1, k + 2 + 1, L ++ runC a (bb + 1), Lib.hid HMO.out.symm, by rw [List.length_append, runC_len, HLL.out]; omega, by rw [List.length_append, runC_len, HLL.out]; omega, by rw [List.length_append, runC_len, HLL.out]; omega, by rw [List.length_append, runC_len, HLL.out]; exact hown5, hr6, hb6, hs6⟩
              case measure => simp [sLenC]; omega
      · have d1 : ¬ (ll : Int) < (n : Int) := by omega
        obtain rfl : ll = n := by omega
        have hR2 := hgo.out
        rw [goC_end (by rw [HLL.out]; exact Nat.le_refl _)] at hR2
        have HR2 := Lib.hid hR2.symm
        by_cases hk : k ≤ m
        · have CD := rs_doneH p bs k wr hrs true (by rw [HM.out]; exact decide_eq_true hk)
          have HF := Lib.hid (HY.out L k HR2.out hk A9 c9 wr HL9.out (by rw [HLL.out]; exact hc9) HBE.out)
          rw [HLL.out] at HF
          clear hR2
          go_wp2_with (first | (go_at_call 28; ((with_reducible refine (CD).mono ?_); rintro e w8 ⟨rfl, rfl⟩)))
          exact bodyPost_ret (v := .tuple #[.slice A9 ll c9, .int .i64 0]) (by simp [results, Tryd.results8, go_sem]) rfl HF.out
        · have CD := rs_doneH p bs k wr hrs false (by rw [HM.out]; exact decide_eq_false hk)
          have HF := Lib.hid (HLG.out L k HR2.out (by omega) wr HBE.out)
          clear hR2
          go_wp2_with (first | (go_at_call 28; ((with_reducible refine (CD).mono ?_); rintro e w8 ⟨rfl, rfl⟩)))
          exact bodyPost_ret (v := .tuple #[.slice none 0 0, .int .i64 160]) (by simp [results, Tryd.results8, go_sem]) rfl HF.out

end Go.Proofs.YteffijgajhngeaaDoor

namespace Go.Proofs.YteffijgajhngeaaDoor
open Go Go.RowKit
set_option linter.unusedVariables false
set_option linter.unusedSimpArgs false

set_option maxRecDepth 100000 in
set_option maxHeartbeats 4000000 in
theorem cload_2 (A : Option Addr) (c l n : Nat) (E bs : List Value) (w : World) (hE : Lists w w.heap.size A bs) (h8 : Bytes8 bs) (hc : l ≤ c) (hm : l ≤ 281474976710656) (hn1 : 1 ≤ n) (hn2 : n ≤ 65535) (hbl : bs.length = Nat.min l (1 + 4 * n)) (hfx : rsn bs 1 0 (byteAt bs 0) = 2) (R : Option (List Int × Nat)) (hR : goC bs 2 n n 1 [0] = R) :
    Calls Tryd.prog 8 #[.slice A l c, .int .i64 (n : Nat)] w (LdC w (finC bs R)) := by
  have CC := ccount_any (n : Nat) true (inB_yes (by omega) (by omega))
  have CE := clen_any n (by omega)
  have CF := cformat_any 2 true (by decide)
  have CRD : ∀ p W, Calls Tryd.prog 26 #[.pointer (some ⟨p, 0, none⟩), .int .i64 2] W fun e w' => e = .returned (moreF 2 p) ∧ w' = W := fun p W => creading_any 2 (by decide) p W
  simp only [moreF] at CRD
  obtain ⟨m, hm2⟩ : ∃ m, bs.length = m := ⟨_, rfl⟩
  have hmn : (m = l ∧ (l : Int) ≤ ((1 + 4 * n : Nat) : Int)) ∨ (m = 1 + 4 * n ∧ ((1 + 4 * n : Nat) : Int) < (l : Int)) := by
    have : m = min l (1 + 4 * n) := by rw [← hm2]; exact hbl
    omega
  obtain ⟨N4, hN4⟩ : ∃ N4, 1 + 4 * n = N4 := ⟨_, rfl⟩
  rw [hN4] at hmn CE
  have hm3 : m ≤ N4 := by omega
  have CN := fun W (hb : Below w.heap.size w W) c' => new_any A m c' bs W ((hE.below hb).more hb.size) hm2 h8 (by omega)
  have hno : R = none → ∀ W, Below w.heap.size w W → LdC w (finC bs R) (.returned (.tuple #[.slice none 0 0, .int .i64 160])) W := fun h W hb => by
    rw [h]; exact ⟨rfl, hb⟩
  have hlong : ∀ L k, R = some (L, k) → m < k → ∀ W, Below w.heap.size w W → LdC w (finC bs R) (.returned (.tuple #[.slice none 0 0, .int .i64 160])) W := fun L k h hk W hb => by
    rw [h]; unfold finC; simp only; rw [if_neg (by omega)]; exact ⟨rfl, hb⟩
  have hyes : ∀ L k, R = some (L, k) → k ≤ m → ∀ A c W, Lists W W.heap.size A (intCells L) → L.length ≤ c → Below w.heap.size w W → LdC w (finC bs R) (.returned (.tuple #[.slice A L.length c, .int .i64 0])) W := fun L k h hk A c W hl hc hb => by
    rw [h]; unfold finC; simp only; rw [if_pos (by omega)]; exact ⟨A, c, rfl, Lib.hid hl, hc, hb⟩
  have HNO := Lib.hid hno
  have HLG := Lib.hid hlong
  have HY := Lib.hid hyes
  have HR := Lib.hid hR
  have HM := Lib.hid hm2
  have HLB := Lib.hid (show bs.length ≤ 4611686018427387904 by omega)
  have HFX := Lib.hid hfx
  have H8 := Lib.hid h8
  clear hno hlong hyes hR hm2 hfx h8 hE hbl
  obtain ⟨i0, hi, hz0, hz1, hz2⟩ := info_parts intInfoC
  rcases hmn with ⟨hml, hmin⟩ | ⟨hml, hmin⟩
  all_goals
    subst hml
    go_enter Tryd.func8, Tryd.ntmps8
    go_wp2_with (first | (go_at_call 21; ((with_reducible refine (CC _).mono ?_); rintro e w1 ⟨rfl, b1⟩)) | (go_at_call 23; ((with_reducible refine (CE _).mono ?_); rintro e w1 ⟨rfl, rfl⟩)) | (go_at_call 22; ((with_reducible refine (CN _ b1 _).mono ?_); rintro e w2 ⟨p, rfl, r2, b2, hp2⟩; have B2 := b1.trans (b2.mono b1.size); have hpl := r2.lt; have rs2 : RS (fun b => w1.heap.size ≤ b ∧ b < w2.heap.size) w2 p bs 0 := .inl ⟨Nat.zero_le _, r2⟩; have CU := rsU8 p bs 0 w2 rs2 HLB.out; rw [HFX.out] at CU)) | (go_at_call 24; ((with_reducible refine (CU).mono ?_); rintro e w3 ⟨rfl, r3, o3⟩; have hs3 := o3.size; have B3 := B2.trans (o3.to_below B2.size (by have := b1.size; simp; omega)))) | (go_at_call 25; ((with_reducible refine (CF _).mono ?_); rintro e w4 ⟨rfl, b4⟩; have B4 := B3.trans (b4.mono B3.size); have r4 := r3.below b4)) | (go_at_call 26; ((with_reducible refine (CRD p _).mono ?_); rintro e w4 ⟨rfl, rfl⟩)))
    obtain ⟨Bz, hBz⟩ : ∃ Bz, Bz = w4.heap.size := ⟨_, rfl⟩
    obtain ⟨z1, hz1'⟩ : ∃ z, w1.heap.size = z := ⟨_, rfl⟩
    obtain ⟨z2, hz2'⟩ : ∃ z, w2.heap.size = z := ⟨_, rfl⟩
    rw [hz1'] at r3 r4
    rw [hz2'] at r3 r4 hpl hs3
    have hb4s := b4.size
    have hzB : z2 ≤ Bz := by omega
    have hwB : w.heap.size ≤ Bz := by have := B4.size; omega
    have hpB : p < Bz := by omega
    have hpw : w.heap.size ≤ p := by have := b1.size; omega
    have own0 := ownC_one w4 0 Bz hBz
    have r40 := r4.below ((Below.refl _ _).alloc (Nat.le_refl _) (.cells #[.int .i64 0] 3))
    have B40 := B4.alloc B4.size (.cells #[.int .i64 0] 3)
    have hs40 : Bz ≤ (w4.alloc (.cells #[.int .i64 0] 3)).heap.size := by rw [World.size_alloc]; omega
    rw [← hBz]
    generalize w4.alloc (.cells #[.int .i64 0] 3) = w40 at *
    have HS0 := Lib.hid (show goC bs 2 n n 1 [0] = R from HR.out)
    have HO0 := Lib.hid own0
    have HR0 := Lib.hid r40
    have HB0 := Lib.hid B40
    have HF0 := Lib.hid hs40
    clear r2 rs2 r3 r4 b1 b2 b4 B2 B3 B4 o3 CU CC CE CF CN own0 r40 B40 hs40 hs3 hb4s hpl hp2 hBz
    go_loopw [9] (fun nv wr => ∃ (mm k : Nat) (L : List Int), Hid (goC bs 2 n mm k L = R) ∧ n ≤ L.length + mm ∧ 1 ≤ L.length ∧ L.length ≤ n ∧ wr.ownsRow Bz 3 1 nv L.length (intCells L) ∧ RS (fun b => z1 ≤ b ∧ b < z2) wr p bs k ∧ Below w.heap.size w wr ∧ Bz ≤ wr.heap.size) (fun nv _ => n - sLenC nv)
    case atStart => exact ⟨n, 1, [0], HS0, by simp, by simp, hn1, HO0.out, HR0.out, HB0.out, HF0.out⟩
    case round =>
      obtain ⟨mm, k, L, hgo, hfu, hl1, hln, hown, hrs, hbe, hsB⟩ := hrel
      obtain ⟨ll, hll⟩ : ∃ ll, L.length = ll := ⟨_, rfl⟩
      rw [hll] at hown hfu hl1 hln
      have HLL := Lib.hid hll
      have HBE := Lib.hid hbe
      obtain ⟨A9, c9, rfl, hl9, hc9⟩ := own_lists hown
      have HL9 := Lib.hid hl9
      clear hll hbe hl9
      by_cases hlt : ll < n
      · have d1 : (ll : Int) < (n : Int) := by omega
        obtain ⟨mm1, rfl⟩ : ∃ x, mm = x + 1 := ⟨mm - 1, by omega⟩
        have C16 := rsU16 p bs k wr hrs HLB.out
        obtain ⟨a, ha⟩ : ∃ a, firstC bs k = a := ⟨_, rfl⟩
        obtain ⟨bb, hb⟩ : ∃ bb, moreC bs 2 k = bb := ⟨_, rfl⟩
        have HAA := Lib.hid ha
        have HBB := Lib.hid hb
        have hab : a < 65536 := by rw [← ha]; exact firstC_lt H8.out k
        have hbb : bb < 65536 := by rw [← hb]; exact moreC_lt H8.out 2 k (by decide)
        rw [show rsn bs 2 k (rd2 bs k) = a from ha] at C16
        have hbad := goC_bad (E := bs) (f := 2) (n := n) (m := mm1) (k := k) (L := L) (by rw [HLL.out]; exact hlt)
        have hmore := goC_more (E := bs) (f := 2) (n := n) (m := mm1) (k := k) (L := L) (by rw [HLL.out]; exact hlt)
        rw [ha, hb, HLL.out, hgo.out] at hbad hmore
        have CM2 : ∀ V, RS (fun b => z1 ≤ b ∧ b < z2) V p bs (k + 2) → Calls Tryd.prog 27 #[.pointer (some ⟨p, 0, none⟩)] V (ReadS (fun b => z1 ≤ b ∧ b < z2) V p bs (k + 2 + 2) (bb : Nat)) := fun V hV => by
          have h := rsU16 p bs (k + 2) V hV HLB.out
          rw [← rdn_two, show rsn bs 2 (k + 2) (rdn bs 2 (k + 2)) = bb from HBB.out] at h
          exact h
        clear ha hb
        have s0 : (a : Int) + (bb : Int) - (a : Int) = (bb : Int) := by omega
        by_cases hbd : n - ll ≤ bb ∨ 65535 < a + bb
        · have HBad := Lib.hid (hbad hbd)
          clear hbad hmore
          by_cases h1 : n - ll ≤ bb
          · have t1 : (n : Int) - (ll : Int) ≤ (bb : Int) := by omega
            clear hbd h1
            go_wp2_with (first | (go_at_call 27; ((with_reducible refine (C16).mono ?_); rintro e w4 ⟨rfl, r4, o4⟩)) | (go_at_call 27; ((with_reducible refine (CM2 _ r4).mono ?_); rintro e w5 ⟨rfl, r5, o5b⟩; have o5 := o4.trans o5b (fun b hb => .inl hb); have BB := HBE.out.trans (o5.to_below HBE.out.size (by simp; omega)); have hs5 := o5.size)))
            exact bodyPost_ret (v := .tuple #[.slice none 0 0, .int .i64 160]) (by simp [results, Tryd.results8, go_sem]) rfl (HNO.out HBad.out _ BB)
          · have t1 : ¬ (n : Int) - (ll : Int) ≤ (bb : Int) := by omega
            have t2 : (a : Int) + (bb : Int) > 65535 := by omega
            clear hbd h1
            go_wp2_with (first | (go_at_call 27; ((with_reducible refine (C16).mono ?_); rintro e w4 ⟨rfl, r4, o4⟩)) | (go_at_call 27; ((with_reducible refine (CM2 _ r4).mono ?_); rintro e w5 ⟨rfl, r5, o5b⟩; have o5 := o4.trans o5b (fun b hb => .inl hb); have BB := HBE.out.trans (o5.to_below HBE.out.size (by simp; omega)); have hs5 := o5.size)))
            exact bodyPost_ret (v := .tuple #[.slice none 0 0, .int .i64 160]) (by simp [results, Tryd.results8, go_sem]) rfl (HNO.out HBad.out _ BB)
        · have HMO := Lib.hid (hmore hbd)
          clear hbad hmore
          have t1 : ¬ (n : Int) - (ll : Int) ≤ (bb : Int) := by omega
          have t2 : ¬ (a : Int) + (bb : Int) > 65535 := by omega
          have hle : ll + bb + 1 ≤ n := by omega
          have hab2 : a + bb ≤ 65535 := by omega
          clear hbd
          go_wp2_with (first | (go_at_call 27; ((with_reducible refine (C16).mono ?_); rintro e w4 ⟨rfl, r4, o4⟩)) | (go_at_call 27; ((with_reducible refine (CM2 _ r4).mono ?_); rintro e w5 ⟨rfl, r5, o5b⟩; have o5 := o4.trans o5b (fun b hb => .inl hb); have BB := HBE.out.trans (o5.to_below HBE.out.size (by simp; omega)); have hs5 := o5.size)))
          have ow5 := own_only hown o5 (fun b hb e => by have := ownC_low hown b hb; simp at e; omega)
          have HO5 := Lib.hid ow5
          have HR5 := Lib.hid r5
          have HB5 := Lib.hid BB
          clear hown ow5 r5 BB hrs r4 o4 o5 C16 CM2
          go_loopw [9, 12] (fun nv iv w6 => ∃ i : Nat, i ≤ bb + 1 ∧ iv = .int .i64 ((a : Int) + (i : Int)) ∧ w6.ownsRow Bz 3 1 nv (ll + i) (intCells (L ++ runC a i)) ∧ RS (fun b => z1 ≤ b ∧ b < z2) w6 p bs (k + 2 + 2) ∧ Below w.heap.size w w6 ∧ Bz ≤ w6.heap.size) (fun _ iv _ => ((a : Int) + (bb : Int) + 1 - intOf iv).toNat)
          case atStart => exact ⟨0, by omega, by simp, by simpa [runC] using HO5.out, HR5.out, HB5.out, by omega⟩
          case round =>
            obtain ⟨i, hib, rfl, hown5, hr6, hb6, hs6⟩ := hrel
            by_cases hi2 : i ≤ bb
            · have l1 : (a : Int) + (i : Int) ≤ (a : Int) + (bb : Int) := by omega
              have HSN := Lib.hid (show intCells (L ++ runC a (i + 1)) = intCells (L ++ runC a i) ++ [.int .i64 ((a : Int) + (i : Int))] by rw [runC_snoc, ← List.append_assoc, intCells_snocC]; simp)
              have hlow6 := ownC_low hown5
              go_wp2_with (first | (at_builtin; refine wpList_append_src _ rfl (.tmp 61) (.tmp 63) 24 rfl Bz 3 i0 (.int .i64 0) 1 8 Tryd.underlying24 hi hz0 hz1 hz2 rfl (by decide) _ (ll + i) (intCells (L ++ runC a i)) rfl (own_only hown5 ((Only.refl wr []).alloc (.cells #[.int .i64 ((a : Int) + (i : Int))] 3)) (fun _ _ h => (nomatch h))) (wr.heap.size + 1) (some ⟨wr.heap.size, 0, none⟩) 1 1 [.int .i64 ((a : Int) + (i : Int))] (by rfl) (lists_row wr [.int .i64 ((a : Int) + (i : Int))] 3) rfl (by simp [Value.oneCell']) (by simp only [maxLen]; omega) (by omega) (by simp; omega) ?_; intro v7 w7 own7 hg7 hat7; have o67 : Only wr w7 (blk u9) := ((Only.refl wr (blk u9)).alloc _).grown hg7 (fun b hb => .inl (by have hb' : Value.ownBlock u9 = some b := hb; simp [blk, hb']))))
              go_roundw
              case rel => exact ⟨i + 1, by omega, by first | rfl | go_num, by rw [HSN.out]; exact own7, hr6.only o67 (fun hm => by have := hlow6 _ hm; omega) (fun b hb hq => by have := hlow6 b hb; omega), hb6.trans (o67.to_below hb6.size (fun b hb => by have := hlow6 b hb; omega)), Nat.le_trans hs6 o67.size⟩
              case measure => simp [intOf]; omega
            · obtain rfl : i = bb + 1 := by omega
              have l1 : ¬ (a : Int) + ((bb + 1 : Nat) : Int) ≤ (a : Int) + (bb : Int) := by omega
              have l2 : ¬ (a : Int) + ((bb : Int) + 1) ≤ (a : Int) + (bb : Int) := by omega
              obtain ⟨A7, c7, rfl, hl7, hc7⟩ := own_lists hown5
              clear hl7 hc7
              go_wp2
              go_roundw
              case rel => exact ⟨mm1, k + 2 + 2, L ++ runC a (bb + 1), Lib.hid HMO.out.symm, by rw [List.length_append, runC_len, HLL.out]; omega, by rw [List.length_append, runC_len, HLL.out]; omega, by rw [List.length_append, runC_len, HLL.out]; omega, by rw [List.length_append, runC_len, HLL.out]; exact hown5, hr6, hb6, hs6⟩
              case measure => simp [sLenC]; omega
      · have d1 : ¬ (ll : Int) < (n : Int) := by omega
        obtain rfl : ll = n := by omega
        have hR2 := hgo.out
        rw [goC_end (by rw [HLL.out]; exact Nat.le_refl _)] at hR2
        have HR2 := Lib.hid hR2.symm
        by_cases hk : k ≤ m
        · have CD := rs_doneH p bs k wr hrs true (by rw [HM.out]; exact decide_eq_true hk)
          have HF := Lib.hid (HY.out L k HR2.out hk A9 c9 wr HL9.out (by rw [HLL.out]; exact hc9) HBE.out)
          rw [HLL.out] at HF
          clear hR2
          go_wp2_with (first | (go_at_call 28; ((with_reducible refine (CD).mono ?_); rintro e w8 ⟨rfl, rfl⟩)))
          exact bodyPost_ret (v := .tuple #[.slice A9 ll c9, .int .i64 0]) (by simp [results, Tryd.results8, go_sem]) rfl HF.out
        · have CD := rs_doneH p bs k wr hrs false (by rw [HM.out]; exact decide_eq_false hk)
          have HF := Lib.hid (HLG.out L k HR2.out (by omega) wr HBE.out)
          clear hR2
          go_wp2_with (first | (go_at_call 28; ((with_reducible refine (CD).mono ?_); rintro e w8 ⟨rfl, rfl⟩)))
          exact bodyPost_ret (v := .tuple #[.slice none 0 0, .int .i64 160]) (by simp [results, Tryd.results8, go_sem]) rfl HF.out

end Go.Proofs.YteffijgajhngeaaDoor

namespace Go.Proofs.YteffijgajhngeaaDoor
open Go Go.RowKit
set_option linter.unusedVariables false
set_option linter.unusedSimpArgs false

set_option maxRecDepth 100000 in
theorem cload_arg (A : Option Addr) (c l : Nat) (n : Int) (w : World) (hn : inB 1 65535 n = false) : Calls Tryd.prog 8 #[.slice A l c, .int .i64 n] w fun e w' => e = .returned (.tuple #[.slice none 0 0, .int .i64 1]) ∧ Below w.heap.size w w' := by
  have CC := ccount_any n false hn
  clear hn
  go_enter Tryd.func8, Tryd.ntmps8
  go_wp2_with (first | (go_at_call 21; ((with_reducible refine (CC _).mono ?_); rintro e w1 ⟨rfl, b1⟩)))
  exact bodyPost_ret (v := .tuple #[.slice none 0 0, .int .i64 1]) (by simp [results, Tryd.results8, go_sem]) rfl ⟨rfl, b1⟩
set_option maxRecDepth 100000 in
set_option maxHeartbeats 4000000 in
theorem cload_form (A : Option Addr) (c l n : Nat) (bs : List Value) (w : World) (hE : Lists w w.heap.size A bs) (h8 : Bytes8 bs) (hc : l ≤ c) (hm : l ≤ 281474976710656) (hn1 : 1 ≤ n) (hn2 : n ≤ 65535) (hbl : bs.length = Nat.min l (1 + 4 * n)) (x : Nat) (hfx : rsn bs 1 0 (byteAt bs 0) = x) (hx : 2 < x) :
    Calls Tryd.prog 8 #[.slice A l c, .int .i64 (n : Nat)] w fun e w' => e = .returned (.tuple #[.slice none 0 0, .int .i64 160]) ∧ Below w.heap.size w w' := by
  have CC := ccount_any (n : Nat) true (inB_yes (by omega) (by omega))
  have CE := clen_any n (by omega)
  have CF := cformat_any (x : Nat) false (by unfold inB; simp; omega)
  obtain ⟨m, hm2⟩ : ∃ m, bs.length = m := ⟨_, rfl⟩
  have hmn : (m = l ∧ (l : Int) ≤ ((1 + 4 * n : Nat) : Int)) ∨ (m = 1 + 4 * n ∧ ((1 + 4 * n : Nat) : Int) < (l : Int)) := by
    have : m = min l (1 + 4 * n) := by rw [← hm2]; exact hbl
    omega
  obtain ⟨N4, hN4⟩ : ∃ N4, 1 + 4 * n = N4 := ⟨_, rfl⟩
  rw [hN4] at hmn CE
  have hm3 : m ≤ N4 := by omega
  have CN := fun W (hb : Below w.heap.size w W) c' => new_any A m c' bs W ((hE.below hb).more hb.size) hm2 h8 (by omega)
  have HLB := Lib.hid (show bs.length ≤ 4611686018427387904 by omega)
  have HFX := Lib.hid hfx
  clear hm2 hfx h8 hE hbl hx
  rcases hmn with ⟨hml, hmin⟩ | ⟨hml, hmin⟩
  all_goals
    subst hml
    go_enter Tryd.func8, Tryd.ntmps8
    go_wp2_with (first | (go_at_call 21; ((with_reducible refine (CC _).mono ?_); rintro e w1 ⟨rfl, b1⟩)) | (go_at_call 23; ((with_reducible refine (CE _).mono ?_); rintro e w1 ⟨rfl, rfl⟩)) | (go_at_call 22; ((with_reducible refine (CN _ b1 _).mono ?_); rintro e w2 ⟨p, rfl, r2, b2, hp2⟩; have B2 := b1.trans (b2.mono b1.size); have hpl := r2.lt; have rs2 : RS (fun b => w1.heap.size ≤ b ∧ b < w2.heap.size) w2 p bs 0 := .inl ⟨Nat.zero_le _, r2⟩; have CU := rsU8 p bs 0 w2 rs2 HLB.out; rw [HFX.out] at CU)) | (go_at_call 24; ((with_reducible refine (CU).mono ?_); rintro e w3 ⟨rfl, r3, o3⟩; have hs3 := o3.size; have B3 := B2.trans (o3.to_below B2.size (by have := b1.size; simp; omega)))) | (go_at_call 25; ((with_reducible refine (CF _).mono ?_); rintro e w4 ⟨rfl, b4⟩; have B4 := B3.trans (b4.mono B3.size))))
    exact bodyPost_ret (v := .tuple #[.slice none 0 0, .int .i64 160]) (by simp [results, Tryd.results8, go_sem]) rfl ⟨rfl, B4⟩
theorem cload_any (A : Option Addr) (c : Nat) (E : List Value) (n : Nat) (w : World) (hE : Lists w w.heap.size A E) (h8 : Bytes8 E) (hc : E.length ≤ c) (hm : E.length ≤ 281474976710656) (hn1 : 1 ≤ n) (hn2 : n ≤ 65535) :
    Calls Tryd.prog 8 #[.slice A E.length c, .int .i64 (n : Nat)] w (LdC w (ldC E n)) := by
  rw [← ldC_take E n hn1]
  have hE2 : Lists w w.heap.size A (E.take (1 + 4 * n)) := lists_takeF hE _
  have h82 : Bytes8 (E.take (1 + 4 * n)) := fun u hu => h8 u (List.mem_of_mem_take hu)
  have hbl : (E.take (1 + 4 * n)).length = Nat.min E.length (1 + 4 * n) := by rw [List.length_take, Nat.min_comm]
  generalize E.take (1 + 4 * n) = bs at *
  obtain ⟨x, hx⟩ : ∃ x, rsn bs 1 0 (byteAt bs 0) = x := ⟨_, rfl⟩
  unfold ldC
  rw [hx]
  by_cases h2 : 2 < x
  · rw [if_pos h2]
    exact cload_form A c E.length n bs w hE2 h82 hc hm hn1 hn2 hbl x hx h2
  · rw [if_neg h2]
    match x, h2 with
    | 0, _ => exact cload_0 A c E.length n E bs w hE2 h82 hc hm hn1 hn2 hbl hx _ rfl
    | 1, _ => exact cload_1 A c E.length n E bs w hE2 h82 hc hm hn1 hn2 hbl hx _ rfl
    | 2, _ => exact cload_2 A c E.length n E bs w hE2 h82 hc hm hn1 hn2 hbl hx _ rfl
    | x + 3, h => exact absurd (by omega) h
end Go.Proofs.YteffijgajhngeaaDoor

namespace Go.Proofs.YteffijgajhngeaaDoor
open Go Go.RowKit
set_option linter.unusedVariables false
set_option linter.unusedSimpArgs false

def PB16 : List Value := [.int .u8 1, .int .u8 0, .int .u8 5, .int .u8 2]
def SB16 : List Value := [.int .u8 3, .int .u8 0, .int .u8 2, .int .u8 0, .int .u8 0, .int .u8 0, .int .u8 0, .int .u8 2, .int .u8 1, .int .u8 0, .int .u8 3]
theorem pb_bytes : Bytes8 PB16 := fun u hu => by
  simp only [PB16, List.mem_cons, List.not_mem_nil, or_false] at hu
  rcases hu with rfl | rfl | rfl | rfl
  · exact ⟨1, by decide, rfl⟩
  · exact ⟨0, by decide, rfl⟩
  · exact ⟨5, by decide, rfl⟩
  · exact ⟨2, by decide, rfl⟩
theorem sb_bytes : Bytes8 SB16 := fun u hu => by
  simp only [SB16, List.mem_cons, List.not_mem_nil, or_false] at hu
  rcases hu with rfl | rfl | rfl | rfl | rfl | rfl | rfl | rfl | rfl | rfl | rfl
  · exact ⟨3, by decide, rfl⟩
  · exact ⟨0, by decide, rfl⟩
  · exact ⟨2, by decide, rfl⟩
  · exact ⟨0, by decide, rfl⟩
  · exact ⟨0, by decide, rfl⟩
  · exact ⟨0, by decide, rfl⟩
  · exact ⟨0, by decide, rfl⟩
  · exact ⟨2, by decide, rfl⟩
  · exact ⟨1, by decide, rfl⟩
  · exact ⟨0, by decide, rfl⟩
  · exact ⟨3, by decide, rfl⟩
theorem pb_may : mayC [0, 5, 6, 7] 1 = true := by kernel_rfl
theorem pb_put : putC 1 [0, 5, 6, 7] = PB16 := by kernel_rfl
theorem pb_ld : ldC PB16 4 = some [0, 5, 6, 7] := by kernel_rfl
theorem sb_may : mayS [0, 0, 1] 2 (3 : Nat) = true := by kernel_rfl
theorem sb_put : putS [0, 0, 1] 3 = SB16 := by kernel_rfl
theorem sb_ld : selC SB16 3 2 = some [0, 0, 1] := by kernel_rfl
theorem tb_ld : ldC [.int .u8 3] 1 = none := by kernel_rfl
theorem pb_7 : idxI [0, 5, 6, 7] 7 = 3 := by kernel_rfl
theorem pb_8 : idxI [0, 5, 6, 7] 8 = -1 := by kernel_rfl
theorem pb_str : (⟨(PB16.map toU8).toArray⟩ : ByteArray) = ⟨#[1, 0, 5, 2]⟩ := by kernel_rfl
theorem sb_str : (⟨(SB16.map toU8).toArray⟩ : ByteArray) = ⟨#[3, 0, 2, 0, 0, 0, 0, 2, 1, 0, 3]⟩ := by kernel_rfl
theorem gave_out16 {w w' : World} {e : Ending} {L : List Value} {n : Nat} (h : Gave w L e w') (hn : L.length = n) : ∃ A c, e = .returned (.tuple #[.slice A n c, .int .i64 0]) ∧ Hid (Lists w' w'.heap.size A L) ∧ n ≤ c ∧ Below w.heap.size w w' := by
  subst hn
  obtain ⟨A, c, rfl, ho, hb⟩ := h
  obtain ⟨A', c', he, hl, hcc⟩ := own_lists ho
  cases he
  exact ⟨A, c, rfl, Lib.hid hl, hcc, hb⟩
theorem put16 (W : World) (hG : GL W) : Calls Tryd.prog 13 #[.slice (some ⟨W.heap.size, 0, none⟩) 4 4, .int .i64 1] (W.alloc (.cells #[.int .i64 0, .int .i64 5, .int .i64 6, .int .i64 7] 3)) fun e w' => ∃ A c, e = .returned (.tuple #[.slice A 4 c, .int .i64 0]) ∧ Hid (Lists w' w'.heap.size A PB16) ∧ 4 ≤ c ∧ Below W.heap.size W w' := by
  have al : Below W.heap.size W (W.alloc (.cells #[.int .i64 0, .int .i64 5, .int .i64 6, .int .i64 7] 3)) := (Below.refl _ _).alloc (Nat.le_refl _) _
  have h := cput_any (some ⟨W.heap.size, 0, none⟩) 4 [0, 5, 6, 7] 1 _ (hG.below al) ((lists_row W [.int .i64 0, .int .i64 5, .int .i64 6, .int .i64 7] 3).more (by simp)) (by decide) pb_may
  rw [pb_put] at h
  exact h.mono fun e w' h => by
    obtain ⟨A, c, h1, h2, h3, h4⟩ := gave_out16 h (show PB16.length = 4 from rfl)
    exact ⟨A, c, h1, h2, h3, al.trans (h4.mono al.size)⟩
theorem load16 (A : Option Addr) (c : Nat) (W : World) (h : Hid (Lists W W.heap.size A PB16)) (hc : 4 ≤ c) : Calls Tryd.prog 8 #[.slice A 4 c, .int .i64 4] W fun e w' => ∃ A c, e = .returned (.tuple #[.slice A 4 c, .int .i64 0]) ∧ Hid (Lists w' w'.heap.size A (intCells [0, 5, 6, 7])) ∧ Below W.heap.size W w' := by
  have h2 := cload_any A c PB16 4 W h.out pb_bytes hc (by decide) (by decide) (by decide)
  rw [pb_ld] at h2
  exact h2.mono fun e w' ⟨A, c, h1, h2, _, h3⟩ => ⟨A, c, h1, h2, h3⟩
theorem psel16 (W : World) : Calls Tryd.prog 18 #[.slice (some ⟨W.heap.size, 0, none⟩) 3 3, .int .i64 2, .int .i64 3] (W.alloc (.cells #[.int .i64 0, .int .i64 0, .int .i64 1] 3)) fun e w' => ∃ A c, e = .returned (.tuple #[.slice A 11 c, .int .i64 0]) ∧ Hid (Lists w' w'.heap.size A SB16) ∧ 11 ≤ c ∧ Below W.heap.size W w' := by
  have al : Below W.heap.size W (W.alloc (.cells #[.int .i64 0, .int .i64 0, .int .i64 1] 3)) := (Below.refl _ _).alloc (Nat.le_refl _) _
  have h := cpsel_any (some ⟨W.heap.size, 0, none⟩) 3 [0, 0, 1] 2 3 _ ((lists_row W [.int .i64 0, .int .i64 0, .int .i64 1] 3).more (by simp)) (by decide) sb_may
  rw [sb_put] at h
  exact h.mono fun e w' h => by
    obtain ⟨A, c, h1, h2, h3, h4⟩ := gave_out16 h (show SB16.length = 11 from rfl)
    exact ⟨A, c, h1, h2, h3, al.trans (h4.mono al.size)⟩
theorem sel16 (A : Option Addr) (c : Nat) (W : World) (h : Hid (Lists W W.heap.size A SB16)) (hc : 11 ≤ c) : Calls Tryd.prog 16 #[.slice A 11 c, .int .i64 3, .int .i64 2] W fun e w' => ∃ A c, e = .returned (.tuple #[.slice A 3 c, .int .i64 0]) ∧ Hid (Lists w' w'.heap.size A (intCells [0, 0, 1])) ∧ Below W.heap.size W w' := by
  have h2 := csel_any A c SB16 3 2 W h.out sb_bytes hc (by decide) (by decide) (by decide) (by decide) (by decide)
  rw [sb_ld] at h2
  exact h2.mono fun e w' ⟨A, c, h1, h2, _, h3⟩ => ⟨A, c, h1, h2, h3⟩
theorem bad16 (W : World) : Calls Tryd.prog 8 #[.slice (some ⟨W.heap.size, 0, none⟩) 1 1, .int .i64 1] (W.alloc (.cells #[.int .u8 3] 5)) fun e w' => e = .returned (.tuple #[.slice none 0 0, .int .i64 160]) ∧ Below W.heap.size W w' := by
  have al : Below W.heap.size W (W.alloc (.cells #[.int .u8 3] 5)) := (Below.refl _ _).alloc (Nat.le_refl _) _
  have h := cload_any (some ⟨W.heap.size, 0, none⟩) 1 [.int .u8 3] 1 _ ((lists_row W [.int .u8 3] 5).more (by simp)) (fun u hu => by simp at hu; exact ⟨3, by decide, hu⟩) (by decide) (by decide) (by decide) (by decide)
  rw [tb_ld] at h
  exact h.mono fun e w' ⟨h1, h2⟩ => ⟨h1, al.trans (h2.mono al.size)⟩
theorem find7 (A : Option Addr) (c : Nat) (W : World) (h : Hid (Lists W W.heap.size A (intCells [0, 5, 6, 7]))) : Calls Tryd.prog 10 #[.slice A 4 c, .int .i64 7] W fun e w' => e = .returned (.tuple #[.int .i64 3, .int .i64 0]) ∧ w' = W := by
  have h2 := cfind_any 4 W.heap.size A c [0, 5, 6, 7] 7 W h.out rfl (by decide)
  rw [pb_7] at h2
  exact h2
theorem find8 (A : Option Addr) (c : Nat) (W : World) (h : Hid (Lists W W.heap.size A (intCells [0, 5, 6, 7]))) : Calls Tryd.prog 10 #[.slice A 4 c, .int .i64 8] W fun e w' => e = .returned (.tuple #[.int .i64 0, .int .i64 4]) ∧ w' = W := by
  have h2 := cfind_any 4 W.heap.size A c [0, 5, 6, 7] 8 W h.out rfl (by decide)
  rw [pb_8] at h2
  exact h2
theorem hl_up {w w1 : World} {A : Option Addr} {E : List Value} (h : Hid (Lists w w.heap.size A E)) (b : Below w.heap.size w w1) : Hid (Lists w1 w1.heap.size A E) := Lib.hid ((h.out.below b).more b.size)
set_option maxRecDepth 100000 in
set_option maxHeartbeats 2000000 in
theorem lives16 (w : World) (hG : GL w) : Calls Tryd.prog 7 #[] w fun e w' => e = .returned (.bool true) ∧ Below w.heap.size w w' := by
  have CP := put16 w hG
  go_enter Tryd.func7, Tryd.ntmps7
  go_wp2_with (first
    | (go_at_call 13; ((with_reducible refine (CP).mono ?_); rintro e w1 ⟨A1, c1, rfl, l1, hc1, b1⟩))
    | (go_at_call 8; ((with_reducible refine (load16 A1 c1 w1 l1 hc1).mono ?_); rintro e w2 ⟨A2, c2, rfl, l2, b2⟩; have B2 := b1.trans (b2.mono b1.size); have l1b := hl_up l1 b2))
    | (go_at_call 18; ((with_reducible refine (psel16 w2).mono ?_); rintro e w3 ⟨A3, c3, rfl, l3, hc3, b3⟩; have B3 := B2.trans (b3.mono B2.size); have l1c := hl_up l1b b3; have l2c := hl_up l2 b3))
    | (go_at_call 16; ((with_reducible refine (sel16 A3 c3 w3 l3 hc3).mono ?_); rintro e w4 ⟨A4, c4, rfl, l4, b4⟩; have B4 := B3.trans (b4.mono B3.size); have l1d := hl_up l1c b4; have l2d := hl_up l2c b4; have l3d := hl_up l3 b4))
    | (go_at_call 8; ((with_reducible refine (bad16 w4).mono ?_); rintro e w5 ⟨rfl, b5⟩; have B5 := B4.trans (b5.mono B4.size); have l1e := hl_up l1d b5; have l2e := hl_up l2d b5; have l3e := hl_up l3d b5; have l4e := hl_up l4 b5; have q1 := conv_lists (n := 4) (c := c1) l1e.out rfl pb_bytes; rw [pb_str] at q1; have q3 := conv_lists (n := 11) (c := c3) l3e.out rfl sb_bytes; rw [sb_str] at q3; obtain ⟨x2, o2, rfl, _, h2⟩ := l2e.out.plain (by simp [intCells]); obtain ⟨x4, o4, rfl, _, h4⟩ := l4e.out.plain (by simp [intCells]); have g2 := h2 3 _ rfl; have g4 := h4 2 _ rfl; clear h2 h4))
    | (go_at_call 10; ((with_reducible refine (find7 _ c2 w5 l2e).mono ?_); rintro e w6 ⟨rfl, rfl⟩))
    | (go_at_call 10; ((with_reducible refine (find8 _ c2 _ l2e).mono ?_); rintro e w7 ⟨rfl, rfl⟩)))
  go_ret
  exact ⟨rfl, B5⟩
end Go.Proofs.YteffijgajhngeaaDoor
