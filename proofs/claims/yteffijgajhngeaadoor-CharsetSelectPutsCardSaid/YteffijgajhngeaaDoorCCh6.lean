/- Part 7 of the proof: ChP, ChI, ChJ, ChK, ChL, ChL0. -/
import Derived.Laws.MakeOwn
import Derived.Test.YteffijgajhngeaaDoorCCh5

namespace Go.Proofs.YteffijgajhngeaaDoor
open Go Go.RowKit
set_option linter.unusedVariables false
set_option linter.unusedSimpArgs false

theorem flat1_len (L : List Int) : (L.flatMap be1).length = L.length := by
  induction L with
  | nil => rfl
  | cons x L ih => rw [List.flatMap_cons, List.length_append, ih, List.length_cons]; simp [be1]; omega
def putS (L : List Int) (f : Nat) : List Value := if f = 0 then be1 0 ++ L.flatMap be1 else be1 3 ++ rgsE L
/-- May this selection be put? -/
def mayS (L : List Int) (kf f : Int) : Bool := inB 1 65535 (L.length : Nat) && inB 1 256 kf && allB 0 (kf - 1) L && (f == 0 || f == 3)

set_option maxRecDepth 100000 in
set_option maxHeartbeats 4000000 in
theorem cpsel_3 (A : Option Addr) (c n : Nat) (L : List Int) (kf : Int) (w : World) (hE : Lists w w.heap.size A (intCells L)) (hnn : L.length = n) (hc : n ≤ c) (hn1 : 1 ≤ n) (hn2 : n ≤ 65535) (hk : inB 1 256 kf = true) (hall : allB 0 (kf - 1) L = true) :
    Calls Tryd.prog 18 #[.slice A n c, .int .i64 kf, .int .i64 3] w (Gave w (putS L 3)) := by
  rw [show putS L 3 = be1 3 ++ rgsE L from rfl]
  have CC := ccount_any (n : Nat) true (inB_yes (by omega) (by omega))
  have CO := cfonts_any kf true hk
  have hkb := inB_true hk
  have CW := fun W (hb : Below w.heap.size w W) => cwithin_any 0 (kf - 1) n w.heap.size A c L W hb.size (hE.below hb) hnn (by omega) true hall
  have CE := cslen_any n (by omega)
  obtain ⟨N4, hN4⟩ : ∃ N4, 5 + 3 * n = N4 := ⟨_, rfl⟩
  rw [hN4] at CE
  have s1 : IntKind.i64.wrap (kf - 1) = kf - 1 := IntWalk.i64_in _ (by omega)
  have HE := Lib.hid hE
  have HN := Lib.hid hnn
  clear hE hnn hk hall
  go_enter Tryd.func18, Tryd.ntmps18
  go_wp2_with (first | (go_at_call 21; ((with_reducible refine (CC _).mono ?_); rintro e w1 ⟨rfl, b1⟩)) | (go_at_call 40; ((with_reducible refine (CO _).mono ?_); rintro e w2 ⟨rfl, b2⟩; have B2 := b1.trans (b2.mono b1.size))) | (go_at_call 31; ((with_reducible refine (CW _ B2).mono ?_); rintro e w3 ⟨rfl, b3⟩; have B3 := B2.trans (b3.mono B2.size))) | (go_at_call 41; ((with_reducible refine (CE _).mono ?_); rintro e w3 ⟨rfl, rfl⟩)) | (go_at_call 32; ((with_reducible refine (wsTo w _ N4 B3).mono ?_); rintro e w4 ⟨p, rfl, h4, b4⟩; have B4 := B3.trans (b4.mono B3.size))) | (go_at_call 33; ((with_reducible refine (wsU8 w _ p N4 [] 3 h4 (by simp [be1]; omega) (by omega)).mono ?_); rintro e w5 ⟨rfl, h5, s5, z5⟩)) | (go_at_call 44; ((with_reducible refine (cputRanges_any w _ p N4 _ A c n L h5 HE.out HN.out hc hn1 hn2 (by simp [be1]; omega) (by omega)).mono ?_); rintro e w6 ⟨rfl, h6⟩; have CD := wsDone w _ p N4 _ h6 (by omega))) | (go_at_call 38; ((with_reducible refine (CD).mono ?_); rintro e w8 ⟨A8, c8, rfl, own8, b8⟩)))
  exact bodyPost_ret (v := .tuple #[.slice A8 _ c8, .int .i64 0]) (by simp [results, Tryd.results18, go_sem]) rfl ⟨A8, c8, rfl, own8, b8⟩


set_option maxRecDepth 100000 in
set_option maxHeartbeats 4000000 in
theorem cpsel_0 (A : Option Addr) (c n : Nat) (L : List Int) (kf : Int) (w : World) (hE : Lists w w.heap.size A (intCells L)) (hnn : L.length = n) (hc : n ≤ c) (hn1 : 1 ≤ n) (hn2 : n ≤ 65535) (hk : inB 1 256 kf = true) (hall : allB 0 (kf - 1) L = true) :
    Calls Tryd.prog 18 #[.slice A n c, .int .i64 kf, .int .i64 0] w (Gave w (putS L 0)) := by
  rw [show putS L 0 = be1 0 ++ L.flatMap be1 from rfl]
  have CC := ccount_any (n : Nat) true (inB_yes (by omega) (by omega))
  have CO := cfonts_any kf true hk
  have hkb := inB_true hk
  have CW := fun W (hb : Below w.heap.size w W) => cwithin_any 0 (kf - 1) n w.heap.size A c L W hb.size (hE.below hb) hnn (by omega) true hall
  have CE := cslen_any n (by omega)
  obtain ⟨N4, hN4⟩ : ∃ N4, 5 + 3 * n = N4 := ⟨_, rfl⟩
  rw [hN4] at CE
  have s1 : IntKind.i64.wrap (kf - 1) = kf - 1 := IntWalk.i64_in _ (by omega)
  have HE := Lib.hid hE
  have HN := Lib.hid hnn
  clear hE hnn hk hall
  go_enter Tryd.func18, Tryd.ntmps18
  go_wp2_with (first | (go_at_call 21; ((with_reducible refine (CC _).mono ?_); rintro e w1 ⟨rfl, b1⟩)) | (go_at_call 40; ((with_reducible refine (CO _).mono ?_); rintro e w2 ⟨rfl, b2⟩; have B2 := b1.trans (b2.mono b1.size))) | (go_at_call 31; ((with_reducible refine (CW _ B2).mono ?_); rintro e w3 ⟨rfl, b3⟩; have B3 := B2.trans (b3.mono B2.size))) | (go_at_call 41; ((with_reducible refine (CE _).mono ?_); rintro e w3 ⟨rfl, rfl⟩)) | (go_at_call 32; ((with_reducible refine (wsTo w _ N4 B3).mono ?_); rintro e w4 ⟨p, rfl, h4, b4⟩; have B4 := B3.trans (b4.mono B3.size))) | (go_at_call 33; ((with_reducible refine (wsU8 w _ p N4 [] 0 h4 (by simp [be1]; omega) (by omega)).mono ?_); rintro e w5 ⟨rfl, h5, s5, z5⟩)))
  have HW5 := Lib.hid (show WS w w5 p N4 (be1 0 ++ (L.take 0).flatMap be1) by rw [List.take_zero, List.flatMap_nil, List.append_nil]; exact h5)
  clear h4 h5 s5 z5 b1 b2 B2 b3 B3 b4 B4 CC CO CW CE
  go_loopw [52] (fun iv wr => ∃ j : Nat, iv = .int .i64 (j : Nat) ∧ j ≤ n ∧ WS w wr p N4 (be1 0 ++ (L.take j).flatMap be1)) (fun iv _ => n - (intOf iv).toNat)
  case atStart => exact ⟨0, rfl, Nat.zero_le _, HW5.out⟩
  case round =>
    obtain ⟨j, rfl, hj, hws⟩ := hrel
    have hB := hws.old
    by_cases hlt : j < n
    · have d1 : (j : Int) < (n : Int) := by omega
      obtain ⟨b, o, rfl, hbl, hcl⟩ := HE.out.plain (by intro e; have h2 := congrArg List.length e; rw [intCells_len, HN.out] at h2; simp at h2; omega)
      have g0 := (hB.cell (p := ⟨b, o + j, none⟩) hbl).trans (hcl j _ (intCells_atD (by rw [HN.out]; exact hlt)))
      have hbw := Nat.lt_of_lt_of_le hbl hB.size
      have HT := Lib.hid (show (L.take (j + 1)).flatMap be1 = (L.take j).flatMap be1 ++ be1 (L.getD j 0) by
        rw [List.take_add_one, List.getElem?_eq_getElem (by rw [HN.out]; exact hlt), List.flatMap_append, List.getD_eq_getElem?_getD, List.getElem?_eq_getElem (by rw [HN.out]; exact hlt)]
        simp)
      have HLN := Lib.hid (show (be1 0 ++ (L.take j).flatMap be1).length = 1 + j by rw [List.length_append, flat1_len, List.length_take, HN.out]; simp [be1]; omega)
      generalize L.getD j 0 = x at *
      clear hcl
      go_wp2_with (first | (go_at_call 33; ((with_reducible refine (wsU8 w _ p N4 _ x hws (by rw [HLN.out]; first | omega | (simp [be1]; omega)) (by omega)).mono ?_); rintro e w6 ⟨rfl, h6, s6, z6⟩)))
      go_roundw
      case rel => exact ⟨j + 1, by first | rfl | go_num, by omega, by rw [HT.out, ← List.append_assoc]; exact h6⟩
      case measure => simp [intOf]; omega
    · have d1 : ¬ (j : Int) < (n : Int) := by omega
      obtain rfl : j = n := by omega
      have CD := wsDone w wr p N4 _ hws (by omega)
      rw [show L.take j = L from List.take_of_length_le (by rw [HN.out]; exact Nat.le_refl _)] at CD
      go_wp2_with (first | (go_at_call 38; ((with_reducible refine (CD).mono ?_); rintro e w8 ⟨A8, c8, rfl, own8, b8⟩)))
      exact bodyPost_ret (v := .tuple #[.slice A8 _ c8, .int .i64 0]) (by simp [results, Tryd.results18, go_sem]) rfl ⟨A8, c8, rfl, own8, b8⟩

set_option maxRecDepth 100000 in
set_option maxHeartbeats 2000000 in
theorem cpsel_bad (A : Option Addr) (c n : Nat) (L : List Int) (kf f : Int) (w : World) (hE : Lists w w.heap.size A (intCells L)) (hnn : L.length = n) (hc : n ≤ c) (hn2 : n ≤ 1000000) (hbad : mayS L kf f = false) :
    Calls Tryd.prog 18 #[.slice A n c, .int .i64 kf, .int .i64 f] w fun e w' => e = .returned (.tuple #[.slice none 0 0, .int .i64 1]) ∧ Below w.heap.size w w' := by
  unfold mayS at hbad
  rw [hnn] at hbad
  cases h1 : inB 1 65535 (n : Nat)
  · have CC := ccount_any (n : Nat) false h1
    clear h1 hbad hE hnn
    go_enter Tryd.func18, Tryd.ntmps18
    go_wp2_with (first | (go_at_call 21; ((with_reducible refine (CC _).mono ?_); rintro e w1 ⟨rfl, b1⟩)))
    exact bodyPost_ret (v := .tuple #[.slice none 0 0, .int .i64 1]) (by simp [results, Tryd.results18, go_sem]) rfl ⟨rfl, b1⟩
  · have CC := ccount_any (n : Nat) true h1
    rw [h1, Bool.true_and] at hbad
    cases h2 : inB 1 256 kf
    · have CO := cfonts_any kf false h2
      clear h1 h2 hbad hE hnn
      go_enter Tryd.func18, Tryd.ntmps18
      go_wp2_with (first | (go_at_call 21; ((with_reducible refine (CC _).mono ?_); rintro e w1 ⟨rfl, b1⟩)) | (go_at_call 40; ((with_reducible refine (CO _).mono ?_); rintro e w2 ⟨rfl, b2⟩; have B2 := b1.trans (b2.mono b1.size))))
      exact bodyPost_ret (v := .tuple #[.slice none 0 0, .int .i64 1]) (by simp [results, Tryd.results18, go_sem]) rfl ⟨rfl, B2⟩
    · have CO := cfonts_any kf true h2
      have hkb := inB_true h2
      have s1 : IntKind.i64.wrap (kf - 1) = kf - 1 := IntWalk.i64_in _ (by omega)
      rw [h2, Bool.true_and] at hbad
      obtain ⟨u, hu⟩ : ∃ u, allB 0 (kf - 1) L = u := ⟨_, rfl⟩
      have CW := fun W (hb : Below w.heap.size w W) => cwithin_any 0 (kf - 1) n w.heap.size A c L W hb.size (hE.below hb) hnn (by omega) u hu
      rw [hu] at hbad
      clear h1 h2 hE hnn hu
      cases u
      · clear hbad
        go_enter Tryd.func18, Tryd.ntmps18
        go_wp2_with (first | (go_at_call 21; ((with_reducible refine (CC _).mono ?_); rintro e w1 ⟨rfl, b1⟩)) | (go_at_call 40; ((with_reducible refine (CO _).mono ?_); rintro e w2 ⟨rfl, b2⟩; have B2 := b1.trans (b2.mono b1.size))) | (go_at_call 31; ((with_reducible refine (CW _ B2).mono ?_); rintro e w3 ⟨rfl, b3⟩; have B3 := B2.trans (b3.mono B2.size))))
        exact bodyPost_ret (v := .tuple #[.slice none 0 0, .int .i64 1]) (by simp [results, Tryd.results18, go_sem]) rfl ⟨rfl, B3⟩
      · simp only [Bool.true_and, Bool.or_eq_false_iff, beq_eq_false_iff_ne, ne_eq] at hbad
        have f0 : (f != 0) = true := by simpa using hbad.1
        have f3 : (f != 3) = true := by simpa using hbad.2
        clear hbad
        go_enter Tryd.func18, Tryd.ntmps18
        go_wp2_with (first | (go_at_call 21; ((with_reducible refine (CC _).mono ?_); rintro e w1 ⟨rfl, b1⟩)) | (go_at_call 40; ((with_reducible refine (CO _).mono ?_); rintro e w2 ⟨rfl, b2⟩; have B2 := b1.trans (b2.mono b1.size))) | (go_at_call 31; ((with_reducible refine (CW _ B2).mono ?_); rintro e w3 ⟨rfl, b3⟩; have B3 := B2.trans (b3.mono B2.size))))
        exact bodyPost_ret (v := .tuple #[.slice none 0 0, .int .i64 1]) (by simp [results, Tryd.results18, go_sem]) rfl ⟨rfl, B3⟩
theorem cpsel_any (A : Option Addr) (c : Nat) (L : List Int) (kf : Int) (f : Nat) (w : World) (hE : Lists w w.heap.size A (intCells L)) (hc : L.length ≤ c) (hmay : mayS L kf (f : Nat) = true) :
    Calls Tryd.prog 18 #[.slice A L.length c, .int .i64 kf, .int .i64 (f : Nat)] w (Gave w (putS L f)) := by
  unfold mayS at hmay
  simp only [Bool.and_eq_true, Bool.or_eq_true, beq_iff_eq] at hmay
  obtain ⟨⟨⟨h1, h2⟩, h3⟩, h4⟩ := hmay
  have h5 := inB_true h1
  rcases h4 with h4 | h4
  · obtain rfl : f = 0 := by omega
    exact cpsel_0 A c L.length L kf w hE rfl hc (by omega) (by omega) h2 h3
  · obtain rfl : f = 3 := by omega
    exact cpsel_3 A c L.length L kf w hE rfl hc (by omega) (by omega) h2 h3
end Go.Proofs.YteffijgajhngeaaDoor

namespace Go.Proofs.YteffijgajhngeaaDoor
open Go Go.RowKit
set_option linter.unusedVariables false
set_option linter.unusedSimpArgs false
variable {q : Nat → Prop}

def takeC (bs : List Value) (k n : Nat) : List Int := (List.range n).map fun i => ((rsn bs 1 (k + i) (byteAt bs (k + i)) : Nat) : Int)
theorem takeC_snoc (bs : List Value) (k n : Nat) : takeC bs k (n + 1) = takeC bs k n ++ [((rsn bs 1 (k + n) (byteAt bs (k + n)) : Nat) : Int)] := by unfold takeC; rw [List.range_succ, List.map_append]; rfl
theorem takeC_len (bs : List Value) (k n : Nat) : (takeC bs k n).length = n := by simp [takeC]
set_option maxRecDepth 100000 in
set_option maxHeartbeats 2000000 in
theorem ctake_any (p k n : Nat) (bs : List Value) (w : World) (h : RS q w p bs k) (hq : ∀ b, q b → b < w.heap.size) (hp : p < w.heap.size) (hL : bs.length ≤ 4611686018427387904) (hn : n ≤ 65536) :
    Calls Tryd.prog 42 #[.int .i64 (n : Nat), .func (.func 24) #[.pointer (some ⟨p, 0, none⟩)] #[]] w fun e w' => ∃ v, e = .returned v ∧ w'.ownsRow w.heap.size 3 1 v n (intCells (takeC bs k n)) ∧ RS q w' p bs (k + n) ∧ Only w w' [p] := by
  have HQ := Lib.hid hq
  have HLL := Lib.hid hL
  have HR0 := Lib.hid h
  clear hq hL h
  obtain ⟨i0, hi, hz0, hz1, hz2⟩ := info_parts intInfoC
  go_enter Tryd.func42, Tryd.ntmps42
  go_wp2
  go_loopw [5, 7] (fun rv iv wr => ∃ j : Nat, j ≤ n ∧ iv = .int .i64 (j : Nat) ∧ wr.ownsRow w.heap.size 3 1 rv j (intCells (takeC bs k j)) ∧ RS q wr p bs (k + j) ∧ Only w wr [p]) (fun _ iv _ => n - (intOf iv).toNat)
  case atStart => exact ⟨0, Nat.zero_le _, rfl, World.ownsRow_nil _ _ _ _, HR0.out, Only.refl _ _⟩
  case round =>
    obtain ⟨j, hj, rfl, hown, hr, ho⟩ := hrel
    by_cases hlt : j < n
    · have d1 : decide ((j : Int) < (n : Int)) = true := by simp; omega
      have CU := rsU8 p bs (k + j) wr hr HLL.out
      have HSN := Lib.hid (show intCells (takeC bs k (j + 1)) = intCells (takeC bs k j) ++ [.int .i64 ((rsn bs 1 (k + j) (byteAt bs (k + j)) : Nat) : Int)] by rw [takeC_snoc, intCells_snocC])
      generalize rsn bs 1 (k + j) (byteAt bs (k + j)) = x at *
      generalize intCells (takeC bs k j) = xs at *
      have hlow := ownC_low hown
      have hsz := ho.size
      go_wp2_with (first
        | (go_at_call 24; ((with_reducible refine (CU).mono ?_); rintro e w1 ⟨rfl, hr1, o1⟩; have own1 := own_only hown o1 (fun b hb e => by have := hlow b hb; simp at e; omega); have own1 := own_only own1 ((Only.refl w1 []).alloc (.cells #[.int .i64 (x : Nat)] 3)) (fun _ _ h => (nomatch h)); have r1 := hr1.below ((Below.refl _ _).alloc (Nat.le_refl _) (.cells #[.int .i64 (x : Nat)] 3)); have ho1 := (ho.trans o1 (fun b hb => .inl hb)).alloc (.cells #[.int .i64 (x : Nat)] 3); have hs1 := ho1.size))
        | (at_builtin; refine wpList_append_src _ rfl (.tmp 9) (.tmp 12) 24 rfl w.heap.size 3 i0 (.int .i64 0) 1 8 Tryd.underlying24 hi hz0 hz1 hz2 rfl (by decide) u5 j xs rfl own1 (w1.heap.size + 1) (some ⟨w1.heap.size, 0, none⟩) 1 1 [.int .i64 (x : Nat)] (by rfl) (lists_row w1 [.int .i64 (x : Nat)] 3) rfl (by simp [Value.oneCell']) (by simp only [maxLen]; omega) (by omega) hs1 ?_; intro v2 w2 own2 hg2 hat2; have g3 : Only _ w2 (blk u5) := (Only.refl _ _).grown hg2 (fun b hb => .inl (by have hb' : u5.ownBlock = some b := hb; simp [blk, hb'])); have r2 := r1.only g3 (fun hm => by have := hlow p hm; omega) (fun b hb hqb => by have := hlow b hb; have := HQ.out b hqb; omega); have ho2 := ho1.trans g3 (fun b hb => .inr (hlow b hb))))
      go_roundw
      case rel => exact ⟨j + 1, by omega, by go_num, by rw [HSN.out]; exact own2, r2, ho2⟩
      case measure => simp [intOf]; omega
    · obtain rfl : j = n := by omega
      have d1 : decide ((j : Int) < (j : Int)) = false := by simp
      go_wp2
      go_ret
      exact ⟨_, rfl, hown, hr, ho⟩
theorem u64_small (y : Nat) (hy : y ≤ 65536) : IntKind.u64.wrap (y : Int) = (y : Int) := by
  simp [IntKind.wrap, IntKind.bits, IntKind.signed]
  omega
theorem and32_u64 (y : Nat) (hy : y ≤ 65536) : bits .and .u64 (y : Int) 4294967295 = (y : Int) := by
  have h1 : (BitVec.ofInt 64 4294967295).toNat = 2 ^ 32 - 1 := by decide
  have key : (BitVec.ofInt 64 (y : Int) &&& BitVec.ofInt 64 4294967295).toNat = y := by
    rw [BitVec.toNat_and, h1, BitVec.ofInt_natCast, BitVec.toNat_ofNat, Nat.and_two_pow_sub_one_eq_mod, Nat.mod_eq_of_lt (a := y) (by omega), Nat.mod_eq_of_lt (by omega)]
  show IntKind.u64.wrap ((BitVec.ofInt 64 (y : Int) &&& BitVec.ofInt 64 4294967295).toNat : Nat) = _
  rw [key]
  exact u64_small y hy
set_option maxRecDepth 100000 in
theorem mul64_one (y : Nat) (hy : y ≤ 65536) (w : World) : Calls Tryd.prog 65 #[.int .u64 1, .int .u64 (y : Nat)] w fun e w' => e = .returned (.tuple #[.int .u64 0, .int .u64 (y : Nat)]) ∧ w = w' := by
  have a1 : bits .and .u64 1 4294967295 = 1 := by kernel_rfl
  have a0 : bits .and .u64 0 4294967295 = 0 := by kernel_rfl
  have a2 := and32_u64 y hy
  have a3 : (y : Int) / 4294967296 = 0 := by omega
  have a4 := u64_small y hy
  have a5 : IntKind.u64.wrap 0 = 0 := by kernel_rfl
  go_enter Tryd.func65, Tryd.ntmps65
  go_wp2
  exact bodyPost_ret (v := .tuple #[.int .u64 0, .int .u64 (y : Nat)]) (by simp [results, Tryd.results65, go_sem]) rfl ⟨rfl, rfl⟩
theorem mul_one (y : Nat) (hy : y ≤ 65536) (w : World) : Calls Tryd.prog 60 #[.int .u64 1, .int .u64 (y : Nat)] w fun e w' => e = .returned (.tuple #[.int .u64 0, .int .u64 (y : Nat)]) ∧ w = w' := by
  have C := mul64_one y hy w
  go_enter Tryd.func60, Tryd.ntmps60
  go_wp2_with (first | (go_at_call 65; ((with_reducible refine (C).mono ?_); rintro e w1 ⟨rfl, rfl⟩)))
  exact bodyPost_ret (v := .tuple #[.int .u64 0, .int .u64 (y : Nat)]) (by simp [results, Tryd.results60, go_sem]) rfl ⟨rfl, rfl⟩
end Go.Proofs.YteffijgajhngeaaDoor

namespace Go.Proofs.YteffijgajhngeaaDoor
open Go Go.RowKit
set_option linter.unusedVariables false
set_option linter.unusedSimpArgs false

section
variable {P : Program} {ops : Array Oper} {I : World → Prop} {E : Act → World → Prop} {i : Nat} {r : List (Nat × Bool)} {o : Oper} {a : Act} {w : World}
theorem ChainL.copyR (hi : ops[i]? = some o) (hw : Region.wanted o (yielded ops a.tmps) = true) (d s : Operand) (dT sT : TypeId)
    (ho : o.op = .call { callee := .builtin .copy, args := #[d, s], argTypes := #[dT, sT] }) (dv sv v : Value) (w1 : World) (hd : a.eval d = dv) (hs : a.eval s = sv)
    (hrun : (Builtin.copy_ #[dT, sT] o.type #[dv, sv]).run P w = .ok v w1) (hI : I w1) (hr : ChainL P ops E I r (a.put o.dst v) w1) : ChainL P ops E I ((i, true) :: r) a w :=
  ⟨o, hi, hw, .inl ⟨v, w1, by simp [execOp, ho, resolve, invoke, builtin, hd, hs, hrun, Result.andThen], hI, hr⟩⟩
end
def repI (m k : Nat) (x : Int) : List Value := List.replicate k (.int .i64 x) ++ List.replicate (m - k) (.int .i64 0)
theorem repI_len {m k : Nat} (x : Int) (h : k ≤ m) : (repI m k x).length = m := by unfold repI; simp; omega
theorem repI_splice {m k j : Nat} (x : Int) (h : k + j ≤ m) : splice (repI m k x) k (List.replicate j (.int .i64 x)) = repI m (k + j) x := by
  unfold splice repI
  rw [List.take_left' (by simp), List.length_replicate, ← List.drop_drop, List.drop_left' (by simp), List.drop_replicate, ← List.append_assoc, List.replicate_append_replicate, show m - k - j = m - (k + j) by omega]
theorem repI_splice1 {m : Nat} (x : Int) (h : 1 ≤ m) : splice (repI m 0 7) 0 [.int .i64 x] = repI m 1 x := by
  have := repI_splice (m := m) (k := 0) (j := 1) x (by omega)
  rw [Nat.zero_add] at this
  rw [← this]
  rfl
theorem made_ints (n : Nat) : madeCells #[.int .i64 0] n = (repI n 0 7).toArray := by
  unfold repI madeCells
  apply Array.ext
  · simp
  · intro i h1 h2
    simp [Nat.mod_one]
theorem make_ints (m : Nat) (hm : m ≤ 65536) (w : World) : (Instr.makeSlice 24 (.int .i64 (m : Nat)) (.int .i64 (m : Nat))).run Tryd.prog w = .ok (.slice (some ⟨w.heap.size, 0, none⟩) m m) (w.alloc (.cells (repI m 0 7).toArray 3)) := by
  obtain ⟨i0, hi, hz0, hz1, hz2⟩ := info_parts intInfoC
  have h := run_makeSlice (P := Tryd.prog) (w := w) 24 3 i0 (.int .i64 0) Tryd.underlying24 hi hz0 .i64 .i64 (m : Nat) (m : Nat) (by omega) (Int.le_refl _) (by rw [hz1, Int.toNat_natCast]; omega) (by rw [hz2]; omega) (by omega)
  rw [Int.toNat_natCast, hz1, Nat.mul_one, show (Value.int .i64 0).cells = #[.int .i64 0] from rfl, made_ints] at h
  exact h
theorem intOne : (Tryd.prog.info? 3).map (·.size) = some 1 := by kernel_rfl
theorem slice_hiI (b o : Nat) (n c a : Nat) (h1 : a ≤ c) (w : World) : (Instr.sliceAt 24 (.slice (some ⟨b, o, none⟩) n c) none (some (.int .i64 (a : Nat))) none).run Tryd.prog w = .ok (.slice (some ⟨b, o, none⟩) a c) w := by
  have hu := Tryd.underlying24
  have hz := Tryd.sizeOf3
  have i2 : (0 : Int) ≤ (a : Int) := by omega
  have i3 : (a : Int) ≤ (c : Int) := by omega
  have i4 : (0 : Int) ≤ (c : Int) := by omega
  simp [Instr.sliceAt, Instr.slice, Instr.sliceBounds, Instr.sliceBound, run_underlying hu, Sem.run_bind, Sem.run_pure, Result.andThen, asIntOf, hz, h1, addr_plain]
set_option maxRecDepth 100000 in
set_option maxHeartbeats 2000000 in
theorem repeat_any (x : Int) (m b : Nat) (w : World) (hm1 : 1 ≤ m) (hm2 : m ≤ 65536) (hb : b < w.heap.size) (hx : w.cell? ⟨b, 0, none⟩ = some (.int .i64 x)) :
    Calls Tryd.prog 55 #[.slice (some ⟨b, 0, none⟩) 1 1, .int .i64 (m : Nat)] w fun e w' => ∃ v, e = .returned v ∧ w'.ownsRow w.heap.size 3 1 v m (List.replicate m (.int .i64 x)) ∧ Below w.heap.size w w' := by
  have CM := mul_one m hm2
  have MK := make_ints m hm2 w
  have u1 := u64_small m hm2
  have u2 : ¬ (m : Int) > 9223372036854775807 := by omega
  have u3 : IntKind.i64.wrap (m : Int) = (m : Int) := IntWalk.i64_in _ (by omega)
  have u4 : ¬ (m : Int) < 0 := by omega
  have hg0 : (w.alloc (.cells (repI m 0 7).toArray 3)).heap[w.heap.size]? = some (.cells (repI m 0 7).toArray 3 (0, 0)) := heap_alloc_new w _
  have hx1 : (w.alloc (.cells (repI m 0 7).toArray 3)).cell? ⟨b, 0, none⟩ = some (.int .i64 x) := (((Below.refl w.heap.size w).alloc (Nat.le_refl _) (.cells (repI m 0 7).toArray 3)).cell (p := ⟨b, 0, none⟩) hb).trans hx
  obtain ⟨w2, hrun0, hh2, o2⟩ := run_copy_only (P := Tryd.prog) (w := w.alloc (.cells (repI m 0 7).toArray 3)) 24 24 3 3 Tryd.underlying24 intOne (some ⟨w.heap.size, 0, none⟩) (some ⟨b, 0, none⟩) m m 1 1 w.heap.size 0 (repI m 0 7) 3 hg0 [.int .i64 x] (by show 1 = min 1 m; omega) (fun _ => ⟨rfl, ⟨b, 0, none⟩, rfl, fun j v hv => by
    match j, hv with
    | 0, hv => simp at hv; subst hv; exact hx1
    | j + 1, hv => simp at hv⟩) (by rw [repI_len _ (Nat.zero_le _)]; simp; omega) (by simp [Value.oneCell'])
  have hrun1 : (Builtin.copy_ #[24, 24] 3 #[.slice (some ⟨w.heap.size, 0, none⟩) m m, .slice (some ⟨b, 0, none⟩) 1 1]).run Tryd.prog (w.alloc (.cells (repI m 0 7).toArray 3)) = .ok (.int .i64 1) w2 := hrun0
  have HH2 := Lib.hid (show w2.heap[w.heap.size]? = some (.cells (repI m 1 x).toArray 3 (0, 0)) by
    rw [show splice (repI m 0 7) 0 [.int .i64 x] = repI m 1 x from repI_splice1 x hm1] at hh2
    exact hh2)
  have b2 : Below w.heap.size w w2 := ((Below.refl w.heap.size w).alloc (Nat.le_refl _) (.cells (repI m 0 7).toArray 3)).trans (o2.to_below (by simp) (by simp))
  clear hrun0 hh2 o2 hg0 hx1
  go_enter Tryd.func55, Tryd.ntmps55
  go_wp2_with (first
    | (go_at_call 60; ((with_reducible refine (CM _).mono ?_); rintro e w1 ⟨rfl, rfl⟩)))
  go_loopw [8] (fun kv wr => ∃ k : Nat, 1 ≤ k ∧ k ≤ m ∧ kv = .int .i64 (k : Nat) ∧ Hid (wr.heap[w.heap.size]? = some (.cells (repI m k x).toArray 3 (0, 0))) ∧ Below w.heap.size w wr) (fun kv _ => m - (intOf kv).toNat)
  case atStart => exact ⟨1, Nat.le_refl _, hm1, rfl, HH2, b2⟩
  case round =>
    obtain ⟨k, hk1, hk2, rfl, hh, hbr⟩ := hrel
    by_cases hlt : k < m
    · have d1 : (k : Int) < (m : Int) := by omega
      obtain ⟨j, hj⟩ : ∃ j, j = min k (m - k) := ⟨_, rfl⟩
      have hj1 : 1 ≤ j ∧ k + j ≤ m ∧ j ≤ k := by omega
      have hd : wr.drew.heap[w.heap.size]? = some (.cells (repI m k x).toArray 3 (0, 0)) := hh.out
      obtain ⟨w5, hrun, hh5, o5⟩ := run_copy_only (P := Tryd.prog) (w := wr.drew) 24 24 3 3 Tryd.underlying24 intOne (some ⟨w.heap.size, k, none⟩) (some ⟨w.heap.size, 0, none⟩) (m - k) (m - k) k m w.heap.size k (repI m k x) 3 hd (List.replicate j (.int .i64 x)) (by rw [List.length_replicate, hj])
        (fun _ => ⟨rfl, ⟨w.heap.size, 0, none⟩, rfl, fun u v hv => by
          have hu : u < j := by have := (List.getElem?_eq_some_iff.1 hv).1; simpa using this
          have hvx : v = .int .i64 x := by rw [List.getElem?_replicate, if_pos hu] at hv; exact (Option.some.inj hv).symm
          subst hvx
          rw [addr_plain, Nat.zero_add]
          refine (cell_of_row _ w.heap.size u _ 3 (0, 0) hd).trans ?_
          rw [List.getElem?_toArray]
          unfold repI
          rw [List.getElem?_append_left (by simp; omega), List.getElem?_replicate, if_pos (by omega)]⟩) (by rw [repI_len _ hk2, List.length_replicate]; omega) (fun v hv => by rw [List.eq_of_mem_replicate hv]; rfl)
      rw [repI_splice x hj1.2.1] at hh5
      rw [List.length_replicate] at hrun
      have SL1 : ∀ W, (Instr.sliceAt 24 (.slice (some ⟨w.heap.size, 0, none⟩) m m) (some (.int .i64 (k : Nat))) none none).run Tryd.prog W = .ok (.slice (some ⟨w.heap.size, k, none⟩) (m - k) (m - k)) W := fun W => by
        have h := slice_okI (some ⟨w.heap.size, 0, none⟩) m m k hk2 (Nat.le_refl _) W
        rw [if_neg (by omega)] at h
        simpa [addr_plain] using h
      have SL2 := fun W => slice_hiI w.heap.size 0 m m k hk2 W
      have hI : Below w.heap.size w wr.drew := hbr.drew
      have hI5 : Below w.heap.size w w5 := hI.trans (o5.to_below hI.size (by simp))
      have HH5 := Lib.hid hh5
      have e5 : IntKind.i64.wrap ((k : Int) + (j : Int)) = ((k + j : Nat) : Int) := by rw [IntWalk.i64_in _ (by omega)]; omega
      have eg : goInt j = .int .i64 (j : Int) := rfl
      rw [eg] at hrun
      clear hh hd hj hh5 o5
      go_wp2
      refine wp_region_chain (fun V => Below w.heap.size w V) [(0, false), (1, false), (2, false), (3, false), (4, false), (5, false), (6, false), (7, true), (8, false), (9, false)] (by kernel_rfl) (by kernel_rfl) hI ?_
      repeat (first
        | (refine ChainL.skip (o := ?_) ?_ ?_ ?_; rotate_left; (focus (first | (simp only [List.getElem?_toArray, List.getElem?_cons_succ, List.getElem?_cons_zero]; with_reducible rfl) | (simp only [List.getElem?_toArray, List.getElem?_cons_zero]; with_reducible rfl))); (focus rfl); simp only [Act.put, List.setIfInBounds_toArray, List.set_cons_zero, List.set_cons_succ])
        | (refine ChainL.val (o := ?_) (v := ?_) ?_ ?_ ?_ ?_ ?_; rotate_left 2; (focus (first | (simp only [List.getElem?_toArray, List.getElem?_cons_succ, List.getElem?_cons_zero]; with_reducible rfl) | (simp only [List.getElem?_toArray, List.getElem?_cons_zero]; with_reducible rfl))); (focus (intro _ _ h; cases h)); (focus rfl); (focus (intro w' hJ; skip; go_simp <;> with_reducible rfl)); simp only [Act.put, List.setIfInBounds_toArray, List.set_cons_zero, List.set_cons_succ]))
      refine ChainL.copyR (o := ?_) ?_ ?_ (.tmp 41) (.tmp 44) 24 24 ?_ (.slice (some ⟨w.heap.size, k, none⟩) (m - k) (m - k)) (.slice (some ⟨w.heap.size, 0, none⟩) k m) (.int .i64 (j : Int)) w5 ?_ ?_ ?_ hI5 ?_
      rotate_left 1
      (focus (simp only [List.getElem?_toArray, List.getElem?_cons_succ, List.getElem?_cons_zero]; with_reducible rfl))
      (focus rfl)
      (focus rfl)
      (focus rfl)
      (focus rfl)
      (focus (exact hrun))
      simp only [Act.put, List.setIfInBounds_toArray, List.set_cons_zero, List.set_cons_succ]
      repeat (first
        | (refine ChainL.skip (o := ?_) ?_ ?_ ?_; rotate_left; (focus (first | (simp only [List.getElem?_toArray, List.getElem?_cons_succ, List.getElem?_cons_zero]; with_reducible rfl) | (simp only [List.getElem?_toArray, List.getElem?_cons_zero]; with_reducible rfl))); (focus rfl); simp only [Act.put, List.setIfInBounds_toArray, List.set_cons_zero, List.set_cons_succ])
        | (refine ChainL.val (o := ?_) (v := ?_) ?_ ?_ ?_ ?_ ?_; rotate_left 2; (focus (first | (simp only [List.getElem?_toArray, List.getElem?_cons_succ, List.getElem?_cons_zero]; with_reducible rfl) | (simp only [List.getElem?_toArray, List.getElem?_cons_zero]; with_reducible rfl))); (focus (intro _ _ h; cases h)); (focus rfl); (focus (intro w' hJ; skip; go_simp <;> with_reducible rfl)); simp only [Act.put, List.setIfInBounds_toArray, List.set_cons_zero, List.set_cons_succ]))
      refine ChainL.nil ?_
      go_wp2
      go_roundw
      case rel => exact ⟨k + j, by omega, hj1.2.1, by first | rfl | go_num, HH5, hI5⟩
      case measure => simp [intOf]; omega
    · have d1 : ¬ (k : Int) < (m : Int) := by omega
      obtain rfl : k = m := by omega
      go_wp2
      go_ret
      refine ⟨_, rfl, ⟨by simp, .inr ⟨w.heap.size, k, (repI k k x).toArray, rfl, Nat.le_refl _, hh.out, Nat.le_refl _, by unfold maxLen; omega, by simp [repI_len], ?_⟩⟩, hbr⟩
      simp [repI]
end Go.Proofs.YteffijgajhngeaaDoor

namespace Go.Proofs.YteffijgajhngeaaDoor
open Go Go.RowKit
set_option linter.unusedVariables false
set_option linter.unusedSimpArgs false
variable {q : Nat → Prop}

/-- A range's number; where the next one begins. -/
def numS (bs : List Value) (k : Nat) : Nat := rsn bs 1 k (byteAt bs k)
def endS (bs : List Value) (k : Nat) : Nat := rsn bs 2 (k + 1) (rd2 bs (k + 1))
theorem numS_lt {bs : List Value} (h : Bytes8 bs) (k : Nat) : numS bs k < 256 := rsn_lt (byteAt_lt h k)
theorem endS_lt {bs : List Value} (h : Bytes8 bs) (k : Nat) : endS bs k < 65536 := rsn_lt (rd2_lt h _)
/-- Ranges of a selection, one behind the other. -/
def rrC (bs : List Value) (n : Nat) : Nat → Nat → List Int → Option (List Int × Nat)
  | 0, k, L => some (L, k)
  | m + 1, k, L => if endS bs k ≤ L.length ∨ n < endS bs k then none else rrC bs n m (k + 3) (L ++ List.replicate (endS bs k - L.length) ((numS bs k : Nat) : Int))
def rdR (bs : List Value) (n k : Nat) : Option (List Int × Nat) := if rsn bs 2 (k + 2) (rd2 bs (k + 2)) ≠ 0 then none else rrC bs n (rsn bs 2 k (rd2 bs k)) (k + 4) []
theorem rrC_bad {bs : List Value} {n m k : Nat} {L : List Int} (h : endS bs k ≤ L.length ∨ n < endS bs k) : rrC bs n (m + 1) k L = none := by unfold rrC; rw [if_pos h]
theorem rrC_more {bs : List Value} {n m k : Nat} {L : List Int} (h : ¬ (endS bs k ≤ L.length ∨ n < endS bs k)) : rrC bs n (m + 1) k L = rrC bs n m (k + 3) (L ++ List.replicate (endS bs k - L.length) ((numS bs k : Nat) : Int)) := by
  conv => lhs; unfold rrC
  rw [if_neg h]
def RdR (w : World) (q : Nat → Prop) (p : Nat) (bs : List Value) (r : Option (List Int × Nat)) (e : Ending) (w' : World) : Prop :=
  ∃ v, e = .returned v ∧ (match r with
    | some (L, k) => w'.ownsRow w.heap.size 3 1 v L.length (intCells L) ∧ RS q w' p bs k
    | none => v = .slice none 0 0) ∧ Only w w' [p]
theorem intCells_rep (L : List Int) (m : Nat) (x : Int) : intCells (L ++ List.replicate m x) = intCells L ++ List.replicate m (.int .i64 x) := by simp [intCells]
set_option maxRecDepth 100000 in
set_option maxHeartbeats 4000000 in
theorem creadRanges_any (p k n : Nat) (bs : List Value) (w : World) (h : RS q w p bs k) (hq : ∀ b, q b → b < w.heap.size) (hp : p < w.heap.size) (hL : bs.length ≤ 4611686018427387904) (hn : n ≤ 65536) :
    Calls Tryd.prog 43 #[.pointer (some ⟨p, 0, none⟩), .int .i64 (n : Nat)] w (RdR w q p bs (rdR bs n k)) := by
  obtain ⟨R, hR⟩ : ∃ R, rdR bs n k = R := ⟨_, rfl⟩
  rw [hR]
  unfold rdR at hR
  obtain ⟨ct, hct⟩ : ∃ c, rsn bs 2 k (rd2 bs k) = c := ⟨_, rfl⟩
  obtain ⟨z, hz⟩ : ∃ c, rsn bs 2 (k + 2) (rd2 bs (k + 2)) = c := ⟨_, rfl⟩
  rw [hct, hz] at hR
  have h8 := h.bytes
  have hctb : ct < 65536 := by rw [← hct]; exact rsn_lt (rd2_lt h8 k)
  have C1 : ∀ V, RS q V p bs k → Calls Tryd.prog 27 #[.pointer (some ⟨p, 0, none⟩)] V (ReadS q V p bs (k + 2) (ct : Nat)) := fun V hV => by have := rsU16 p bs k V hV hL; rw [hct] at this; exact this
  have C2 : ∀ V, RS q V p bs (k + 2) → Calls Tryd.prog 27 #[.pointer (some ⟨p, 0, none⟩)] V (ReadS q V p bs (k + 4) (z : Nat)) := fun V hV => by have := rsU16 p bs (k + 2) V hV hL; rw [hz] at this; exact this
  have HQ := Lib.hid hq
  have HLL := Lib.hid hL
  have H8 := Lib.hid h8
  clear hq hL h8 hct hz
  obtain ⟨i0, hi, hz0, hz1, hz2⟩ := info_parts intInfoC
  by_cases hz' : z = 0
  · subst hz'
    rw [if_neg (by simp)] at hR
    have HR0 := Lib.hid hR
    clear hR
    go_enter Tryd.func43, Tryd.ntmps43
    go_wp2_with (first
      | (go_at_call 27; ((with_reducible refine (C1 _ h).mono ?_); rintro e w1 ⟨rfl, r1, o1⟩))
      | (go_at_call 27; ((with_reducible refine (C2 _ r1).mono ?_); rintro e w2 ⟨rfl, r2, o2⟩; have O2 := o1.trans o2 (fun b hb => .inl hb))))
    have HR2 := Lib.hid r2
    clear h r1 r2 o1 o2 C1 C2
    go_loopw [6, 15] (fun nv iv wr => ∃ (j m k' : Nat) (L : List Int), iv = .int .i64 (j : Nat) ∧ j + m ≤ ct ∧ ct ≤ j + m ∧ Hid (rrC bs n m k' L = R) ∧ L.length ≤ 65536 ∧ wr.ownsRow w.heap.size 3 1 nv L.length (intCells L) ∧ RS q wr p bs k' ∧ Only w wr [p]) (fun _ iv _ => ct - (intOf iv).toNat)
    case atStart => exact ⟨0, ct, k + 4, [], rfl, by omega, by omega, HR0, by simp, World.ownsRow_nil _ _ _ _, HR2.out, O2⟩
    case round =>
      obtain ⟨j, m, k', L, rfl, hjm, hjm2, hgo, hl65, hown, hr, ho⟩ := hrel
      obtain ⟨ll, hll⟩ : ∃ ll, L.length = ll := ⟨_, rfl⟩
      rw [hll] at hown hl65
      have HLn := Lib.hid hll
      clear hll
      obtain ⟨A9, c9, rfl, hl9, hc9⟩ := own_lists hown
      clear hl9
      have hlow := ownC_low hown
      have hsz := ho.size
      by_cases hlt : j < ct
      · have d1 : (j : Int) < (ct : Int) := by omega
        obtain ⟨m1, rfl⟩ : ∃ y, m = y + 1 := ⟨m - 1, by omega⟩
        obtain ⟨x, hx⟩ : ∃ x, numS bs k' = x := ⟨_, rfl⟩
        obtain ⟨e, he⟩ : ∃ e, endS bs k' = e := ⟨_, rfl⟩
        have heb : e < 65536 := by rw [← he]; exact endS_lt H8.out _
        have D1 : ∀ V, RS q V p bs k' → Calls Tryd.prog 24 #[.pointer (some ⟨p, 0, none⟩)] V (ReadS q V p bs (k' + 1) (x : Nat)) := fun V hV => by have := rsU8 p bs k' V hV HLL.out; rw [show rsn bs 1 k' (byteAt bs k') = x from hx] at this; exact this
        have D2 : ∀ V, RS q V p bs (k' + 1) → Calls Tryd.prog 27 #[.pointer (some ⟨p, 0, none⟩)] V (ReadS q V p bs (k' + 3) (e : Nat)) := fun V hV => by have := rsU16 p bs (k' + 1) V hV HLL.out; rw [show rsn bs 2 (k' + 1) (rd2 bs (k' + 1)) = e from he] at this; exact this
        have hbad := rrC_bad (bs := bs) (n := n) (m := m1) (k := k') (L := L)
        have hmore := rrC_more (bs := bs) (n := n) (m := m1) (k := k') (L := L)
        rw [hx, he, HLn.out] at hmore
        rw [he, HLn.out] at hbad
        rw [hgo.out] at hbad hmore
        clear hx he
        by_cases hbd : e ≤ ll ∨ n < e
        · have HBad := Lib.hid (hbad hbd)
          clear hbad hmore
          by_cases h1 : e ≤ ll
          · have t1 : (e : Int) ≤ (ll : Int) := by omega
            clear hbd h1
            go_wp2_with (first
              | (go_at_call 24; ((with_reducible refine (D1 _ hr).mono ?_); rintro e w1 ⟨rfl, r1, o1⟩))
              | (go_at_call 27; ((with_reducible refine (D2 _ r1).mono ?_); rintro e w2 ⟨rfl, r2, o2⟩; have O3 := ho.trans (o1.trans o2 (fun b hb => .inl hb)) (fun b hb => .inl hb))))
            go_ret
            exact ⟨_, rfl, by rw [HBad.out]; first | rfl | simp, O3⟩
          · have t1 : ¬ (e : Int) ≤ (ll : Int) := by omega
            have t2 : (e : Int) > (n : Int) := by omega
            clear hbd h1
            go_wp2_with (first
              | (go_at_call 24; ((with_reducible refine (D1 _ hr).mono ?_); rintro e w1 ⟨rfl, r1, o1⟩))
              | (go_at_call 27; ((with_reducible refine (D2 _ r1).mono ?_); rintro e w2 ⟨rfl, r2, o2⟩; have O3 := ho.trans (o1.trans o2 (fun b hb => .inl hb)) (fun b hb => .inl hb))))
            go_ret
            exact ⟨_, rfl, by rw [HBad.out]; first | rfl | simp, O3⟩
        · have HMO := Lib.hid (hmore hbd)
          have t1 : ¬ (e : Int) ≤ (ll : Int) := by omega
          have t2 : ¬ (e : Int) > (n : Int) := by omega
          obtain ⟨mm, hmm⟩ : ∃ mm, e - ll = mm := ⟨_, rfl⟩
          have hml : 1 ≤ mm ∧ mm ≤ 65536 ∧ ll + mm ≤ 65536 := by omega
          have CRP : ∀ b W, b < W.heap.size → W.cell? ⟨b, 0, none⟩ = some (.int .i64 (x : Nat)) → Calls Tryd.prog 55 #[.slice (some ⟨b, 0, none⟩) 1 1, .int .i64 ((e : Int) - (ll : Int))] W fun e w' => ∃ v, e = .returned v ∧ w'.ownsRow W.heap.size 3 1 v mm (List.replicate mm (.int .i64 (x : Nat))) ∧ Below W.heap.size W w' := fun b W h1 h2 => by
            have := repeat_any (x : Nat) mm b W hml.1 hml.2.1 h1 h2
            rw [show ((mm : Nat) : Int) = (e : Int) - (ll : Int) by omega] at this
            exact this
          rw [hmm] at HMO
          have HEL := Lib.hid (show e - ll = mm from hmm)
          have s5 : IntKind.i64.wrap ((e : Int) - (ll : Int)) = (e : Int) - (ll : Int) := IntWalk.i64_in _ (by omega)
          clear hbad hmore hbd hmm
          go_wp2_with (first
            | (go_at_call 24; ((with_reducible refine (D1 _ hr).mono ?_); rintro e w1 ⟨rfl, r1, o1⟩))
            | (go_at_call 27; ((with_reducible refine (D2 _ r1).mono ?_); rintro e w2 ⟨rfl, r2, o2⟩; have o12 := o1.trans o2 (fun b hb => .inl hb); have own2 := own_only hown o12 (fun b hb e => by have := hlow b hb; simp at e; omega); have O3 := ho.trans o12 (fun b hb => .inl hb); have hs3 := O3.size; have al := (Below.refl w2.heap.size w2).alloc (Nat.le_refl _) (.cells #[.int .i64 (x : Nat)] 3); have cx := (Blk.new w2 3 #[.int .i64 (x : Nat)]).cell 0; simp only [List.getElem?_toArray, List.getElem?_cons_zero] at cx))
            | (go_at_call 55; ((with_reducible refine (CRP _ _ (by simp) cx).mono ?_); rintro e w7 ⟨v7, rfl, own7, b7⟩; have b27 := al.trans (b7.mono (by simp)); have own27 := own_only own2 (Only.of_below b27 []) (fun _ _ h => (nomatch h)); have r7 := r2.below b27; have O7 := O3.trans (Only.of_below b27 []) (fun _ h => (nomatch h)); obtain ⟨A7, c7, rfl, l7, hc7⟩ := own_lists own7; have hs7 := b27.size))
            | (at_builtin; refine wpList_append_src _ rfl (.tmp 30) (.tmp 37) 24 rfl w.heap.size 3 i0 (.int .i64 0) 1 8 Tryd.underlying24 hi hz0 hz1 hz2 rfl (by decide) _ ll (intCells L) rfl own27 w7.heap.size A7 mm c7 (List.replicate mm (.int .i64 (x : Nat))) rfl l7 (by simp) (fun u hu => by rw [List.eq_of_mem_replicate hu]; rfl) (by simp only [maxLen]; omega) (by omega) (by omega) ?_; intro v8 w8 own8 hg8 hat8; have o78 : Only w7 w8 (blk (.slice A9 ll c9)) := (Only.refl _ _).grown hg8 (fun b hb => .inl (by have hb' : (Value.slice A9 ll c9).ownBlock = some b := hb; simp [blk, hb'])); have r8 := r7.only o78 (fun hm => by have := hlow p hm; omega) (fun b hb hqb => by have := hlow b hb; have := HQ.out b hqb; omega); have O8 := O7.trans o78 (fun b hb => .inr (hlow b hb))))
          go_roundw
          case rel => exact ⟨j + 1, m1, k' + 3, L ++ List.replicate mm ((x : Nat) : Int), by first | rfl | go_num, by omega, by omega, Lib.hid HMO.out.symm, by rw [List.length_append, List.length_replicate, HLn.out]; omega, by rw [List.length_append, List.length_replicate, HLn.out, intCells_rep]; exact own8, r8, O8⟩
          case measure => simp [intOf]; omega
      · have d1 : ¬ (j : Int) < (ct : Int) := by omega
        obtain rfl : m = 0 := by omega
        have HE := Lib.hid (show R = some (L, k') from hgo.out.symm)
        go_wp2
        go_ret
        exact ⟨_, rfl, by rw [HE.out]; exact ⟨by rw [HLn.out]; exact hown, hr⟩, ho⟩
  · have t0 : ((z : Int) != 0) = true := by simp; omega
    rw [if_pos hz'] at hR
    have HR0 := Lib.hid hR
    clear hR
    go_enter Tryd.func43, Tryd.ntmps43
    go_wp2_with (first
      | (go_at_call 27; ((with_reducible refine (C1 _ h).mono ?_); rintro e w1 ⟨rfl, r1, o1⟩))
      | (go_at_call 27; ((with_reducible refine (C2 _ r1).mono ?_); rintro e w2 ⟨rfl, r2, o2⟩; have O2 := o1.trans o2 (fun b hb => .inl hb))))
    go_ret
    exact ⟨_, rfl, by rw [← HR0.out]; first | rfl | simp, O2⟩
end Go.Proofs.YteffijgajhngeaaDoor

namespace Go.Proofs.YteffijgajhngeaaDoor
open Go Go.RowKit
set_option linter.unusedVariables false
set_option linter.unusedSimpArgs false

/-- What a selection's bytes say, and where they end. -/
def selR (E : List Value) (n : Nat) : Option (List Int × Nat) :=
  if rsn E 1 0 (byteAt E 0) = 0 then some (takeC E 1 n, 1 + n) else if rsn E 1 0 (byteAt E 0) = 3 then rdR E n 1 else none
def selF (E : List Value) (n : Nat) (kf : Int) (r : Option (List Int × Nat)) : Option (List Int) := match r with
  | some (L, k) => if L.length = n ∧ k ≤ E.length ∧ allB 0 (kf - 1) L = true then some L else none
  | none => none
def selC (E : List Value) (n : Nat) (kf : Int) : Option (List Int) := selF E n kf (selR E n)
theorem takeC_take (E : List Value) (N k n : Nat) (h : k + n ≤ N) : takeC (E.take N) k n = takeC E k n := by
  unfold takeC
  refine List.map_congr_left fun i hi => ?_
  have := List.mem_range.1 hi
  rw [rsn_take (by omega), byteAt_take (by omega)]
theorem rrC_take (E : List Value) (n : Nat) : ∀ m k (L : List Int), L.length ≤ n → k ≤ 5 + 3 * L.length → rrC (E.take (5 + 3 * n)) n m k L = rrC E n m k L
  | 0, k, L, _, _ => rfl
  | m + 1, k, L, hl, hk => by
    by_cases hn : L.length = n
    · rw [rrC_bad (by omega), rrC_bad (by omega)]
    · have e1 : numS (E.take (5 + 3 * n)) k = numS E k := by unfold numS; rw [rsn_take (by omega), byteAt_take (by omega)]
      have e2 : endS (E.take (5 + 3 * n)) k = endS E k := by unfold endS; rw [rsn_take (by omega), rd2_take (by omega)]
      by_cases hb : endS E k ≤ L.length ∨ n < endS E k
      · rw [rrC_bad (by rw [e2]; exact hb), rrC_bad hb]
      · rw [rrC_more (by rw [e2]; exact hb), rrC_more hb, e1, e2]
        exact rrC_take E n m _ _ (by rw [List.length_append, List.length_replicate]; omega) (by rw [List.length_append, List.length_replicate]; omega)
theorem rrC_res (E : List Value) (n : Nat) : ∀ m k (L L' : List Int) (k' : Nat), L.length ≤ n → k ≤ 5 + 3 * L.length → rrC E n m k L = some (L', k') → k' ≤ 5 + 3 * n ∧ L'.length ≤ n
  | 0, k, L, L', k', hl, hk, h => by
    injection h with h; injection h with h1 h2; subst h1 h2
    exact ⟨by omega, hl⟩
  | m + 1, k, L, L', k', hl, hk, h => by
    by_cases hb : endS E k ≤ L.length ∨ n < endS E k
    · rw [rrC_bad hb] at h; cases h
    · rw [rrC_more hb] at h
      exact rrC_res E n m _ _ L' k' (by rw [List.length_append, List.length_replicate]; omega) (by rw [List.length_append, List.length_replicate]; omega) h
theorem selC_take (E : List Value) (n : Nat) (kf : Int) : selC (E.take (5 + 3 * n)) n kf = selC E n kf := by
  have hr : selR (E.take (5 + 3 * n)) n = selR E n := by
    unfold selR rdR
    rw [rsn_take (by omega), byteAt_take (by omega), takeC_take _ _ _ _ (by omega), rsn_take (by omega), rd2_take (by omega), rsn_take (by omega), rd2_take (by omega), rrC_take E n _ _ _ (by simp) (by simp)]
  have hk : ∀ L k, selR E n = some (L, k) → k ≤ 5 + 3 * n := fun L k h => by
    unfold selR at h
    split at h
    · injection h with h; injection h with h1 h2; omega
    · split at h
      · unfold rdR at h
        split at h
        · cases h
        · exact (rrC_res E n _ _ _ L k (by simp) (by simp) h).1
      · cases h
  unfold selC
  rw [hr]
  generalize selR E n = r at *
  match r, hk with
  | none, _ => rfl
  | some (L, k), hk =>
    have := hk L k rfl
    have e : (k ≤ min (5 + 3 * n) E.length) ↔ (k ≤ E.length) := by omega
    unfold selF
    simp only [List.length_take, e]
theorem selC_len {E : List Value} {n : Nat} {kf : Int} {L : List Int} (h : selC E n kf = some L) : L.length = n := by
  unfold selC selF at h
  split at h
  · split at h
    · rename_i hh
      injection h with h; subst h; exact hh.1
    · cases h
  · cases h
end Go.Proofs.YteffijgajhngeaaDoor

namespace Go.Proofs.YteffijgajhngeaaDoor
open Go Go.RowKit
set_option linter.unusedVariables false
set_option linter.unusedSimpArgs false

set_option maxRecDepth 100000 in
set_option maxHeartbeats 4000000 in
theorem csel_0 (A : Option Addr) (c l n : Nat) (kf : Int) (bs : List Value) (w : World) (hE : Lists w w.heap.size A bs) (h8 : Bytes8 bs) (hc : l ≤ c) (hm : l ≤ 281474976710656) (hn1 : 1 ≤ n) (hn2 : n ≤ 65535) (hk1 : 1 ≤ kf) (hk2 : kf ≤ 256) (hbl : bs.length = Nat.min l (5 + 3 * n)) (hfx : rsn bs 1 0 (byteAt bs 0) = 0) (R : Option (List Int × Nat)) (hR : R = some (takeC bs 1 n, 1 + n)) :
    Calls Tryd.prog 16 #[.slice A l c, .int .i64 (n : Nat), .int .i64 kf] w (LdC w (selF bs n kf R)) := by
  have CC := ccount_any (n : Nat) true (inB_yes (by omega) (by omega))
  have CO := cfonts_any kf true (inB_yes hk1 hk2)
  have CE := cslen_any n (by omega)
  obtain ⟨m, hm2⟩ : ∃ m, bs.length = m := ⟨_, rfl⟩
  have hmn : (m = l ∧ (l : Int) ≤ ((5 + 3 * n : Nat) : Int)) ∨ (m = 5 + 3 * n ∧ ((5 + 3 * n : Nat) : Int) < (l : Int)) := by
    have : m = min l (5 + 3 * n) := by rw [← hm2]; exact hbl
    omega
  obtain ⟨N4, hN4⟩ : ∃ N4, 5 + 3 * n = N4 := ⟨_, rfl⟩
  rw [hN4] at hmn CE
  have hm3 : m ≤ N4 := by omega
  have CN := fun W (hb : Below w.heap.size w W) c' => new_any A m c' bs W ((hE.below hb).more hb.size) hm2 h8 (by omega)
  have hno : selF bs n kf R = none → ∀ W, Below w.heap.size w W → LdC w (selF bs n kf R) (.returned (.tuple #[.slice none 0 0, .int .i64 160])) W := fun h W hb => by
    rw [h]; exact ⟨rfl, hb⟩
  have hyes : ∀ L k, R = some (L, k) → L.length = n → k ≤ m → allB 0 (kf - 1) L = true → ∀ A c W, Lists W W.heap.size A (intCells L) → n ≤ c → Below w.heap.size w W → LdC w (selF bs n kf R) (.returned (.tuple #[.slice A n c, .int .i64 0])) W := fun L k h h1 h2 h3 A c W hl hc hb => by
    rw [h]; unfold selF; simp only; rw [if_pos ⟨h1, by omega, h3⟩]; exact ⟨A, c, by rw [h1], Lib.hid hl, by omega, hb⟩
  have HNO := Lib.hid hno
  have HY := Lib.hid hyes
  have HM := Lib.hid hm2
  have HLB := Lib.hid (show bs.length ≤ 4611686018427387904 by omega)
  have HFX := Lib.hid hfx
  have H8 := Lib.hid h8
  have s1 : IntKind.i64.wrap (kf - 1) = kf - 1 := IntWalk.i64_in _ (by omega)
  clear hno hyes hm2 h8 hE hbl hfx
  have HR := Lib.hid hR
  clear hR
  rcases hmn with ⟨hml, hmin⟩ | ⟨hml, hmin⟩
  all_goals
    subst hml
    by_cases hk : 1 + n ≤ m
    · cases hal : allB 0 (kf - 1) (takeC bs 1 n)
      · have HAL := Lib.hid hal
        have HNX := Lib.hid (show selF bs n kf R = none by rw [HR.out]; unfold selF; simp only; rw [if_neg (by rw [hal]; simp)])
        clear hal
        go_enter Tryd.func16, Tryd.ntmps16
        go_wp2_with (first | (go_at_call 21; ((with_reducible refine (CC _).mono ?_); rintro e w1 ⟨rfl, b1⟩)) | (go_at_call 40; ((with_reducible refine (CO _).mono ?_); rintro e w1c ⟨rfl, b1c⟩; have B1 := b1.trans (b1c.mono b1.size))) | (go_at_call 41; ((with_reducible refine (CE _).mono ?_); rintro e w1c ⟨rfl, rfl⟩)) | (go_at_call 22; ((with_reducible refine (CN _ B1 _).mono ?_); rintro e w2 ⟨p, rfl, r2, b2, hp2⟩; have B2 := B1.trans (b2.mono B1.size); have hpl := r2.lt; have rs2 : RS (fun b => w1c.heap.size ≤ b ∧ b < w2.heap.size) w2 p bs 0 := .inl ⟨Nat.zero_le _, r2⟩; have CU := rsU8 p bs 0 w2 rs2 HLB.out; rw [HFX.out] at CU)) | (go_at_call 24; ((with_reducible refine (CU).mono ?_); rintro e w3 ⟨rfl, r3, o3⟩; have hs3 := o3.size; have B3 := B2.trans (o3.to_below B2.size (by have := B1.size; simp; omega)); have hwp : w.heap.size ≤ p := Nat.le_trans B1.size hp2; have hq3 : ∀ b, (w1c.heap.size ≤ b ∧ b < w2.heap.size) → b < w3.heap.size := fun b hb => by omega)) | (go_at_call 42; ((with_reducible refine (ctake_any p 1 n bs w3 r3 hq3 (by omega) HLB.out (by omega)).mono ?_); rintro e w9 ⟨v9, rfl, own9, r9, o9⟩; have B9 := B3.trans (o9.to_below B3.size (by simp; omega)); obtain ⟨A9, c9, rfl, hl9, hc9⟩ := own_lists own9; have HL9 := Lib.hid hl9; clear hl9)) | (go_at_call 28; ((with_reducible refine (rs_doneH p bs (1 + n) _ r9 true (by rw [HM.out]; exact decide_eq_true hk)).mono ?_); rintro e w9b ⟨rfl, rfl⟩)) | (go_at_call 31; ((with_reducible refine (cwithin_any 0 (kf - 1) n w9.heap.size A9 c9 (takeC bs 1 n) w9 (Nat.le_refl _) HL9.out (takeC_len _ _ _) (by omega) false HAL.out).mono ?_); rintro e w10 ⟨rfl, b10⟩; have B10 := B9.trans (b10.mono B9.size))))
        exact bodyPost_ret (v := .tuple #[.slice none 0 0, .int .i64 160]) (by simp [results, Tryd.results16, go_sem]) rfl (HNO.out HNX.out _ B10)
      · have HAL := Lib.hid hal
        have HYX := Lib.hid (HY.out _ _ HR.out (takeC_len _ _ _) hk hal)
        clear hal
        go_enter Tryd.func16, Tryd.ntmps16
        go_wp2_with (first | (go_at_call 21; ((with_reducible refine (CC _).mono ?_); rintro e w1 ⟨rfl, b1⟩)) | (go_at_call 40; ((with_reducible refine (CO _).mono ?_); rintro e w1c ⟨rfl, b1c⟩; have B1 := b1.trans (b1c.mono b1.size))) | (go_at_call 41; ((with_reducible refine (CE _).mono ?_); rintro e w1c ⟨rfl, rfl⟩)) | (go_at_call 22; ((with_reducible refine (CN _ B1 _).mono ?_); rintro e w2 ⟨p, rfl, r2, b2, hp2⟩; have B2 := B1.trans (b2.mono B1.size); have hpl := r2.lt; have rs2 : RS (fun b => w1c.heap.size ≤ b ∧ b < w2.heap.size) w2 p bs 0 := .inl ⟨Nat.zero_le _, r2⟩; have CU := rsU8 p bs 0 w2 rs2 HLB.out; rw [HFX.out] at CU)) | (go_at_call 24; ((with_reducible refine (CU).mono ?_); rintro e w3 ⟨rfl, r3, o3⟩; have hs3 := o3.size; have B3 := B2.trans (o3.to_below B2.size (by have := B1.size; simp; omega)); have hwp : w.heap.size ≤ p := Nat.le_trans B1.size hp2; have hq3 : ∀ b, (w1c.heap.size ≤ b ∧ b < w2.heap.size) → b < w3.heap.size := fun b hb => by omega)) | (go_at_call 42; ((with_reducible refine (ctake_any p 1 n bs w3 r3 hq3 (by omega) HLB.out (by omega)).mono ?_); rintro e w9 ⟨v9, rfl, own9, r9, o9⟩; have B9 := B3.trans (o9.to_below B3.size (by simp; omega)); obtain ⟨A9, c9, rfl, hl9, hc9⟩ := own_lists own9; have HL9 := Lib.hid hl9; clear hl9)) | (go_at_call 28; ((with_reducible refine (rs_doneH p bs (1 + n) _ r9 true (by rw [HM.out]; exact decide_eq_true hk)).mono ?_); rintro e w9b ⟨rfl, rfl⟩)) | (go_at_call 31; ((with_reducible refine (cwithin_any 0 (kf - 1) n w9.heap.size A9 c9 (takeC bs 1 n) w9 (Nat.le_refl _) HL9.out (takeC_len _ _ _) (by omega) true HAL.out).mono ?_); rintro e w10 ⟨rfl, b10⟩; have B10 := B9.trans (b10.mono B9.size))))
        exact bodyPost_ret (v := .tuple #[.slice A9 n c9, .int .i64 0]) (by simp [results, Tryd.results16, go_sem]) rfl (HYX.out A9 c9 _ ((HL9.out.below b10).more b10.size) hc9 B10)
    · have HNX := Lib.hid (show selF bs n kf R = none by rw [HR.out]; unfold selF; simp only; rw [if_neg (by rw [HM.out]; omega)])
      go_enter Tryd.func16, Tryd.ntmps16
      go_wp2_with (first | (go_at_call 21; ((with_reducible refine (CC _).mono ?_); rintro e w1 ⟨rfl, b1⟩)) | (go_at_call 40; ((with_reducible refine (CO _).mono ?_); rintro e w1c ⟨rfl, b1c⟩; have B1 := b1.trans (b1c.mono b1.size))) | (go_at_call 41; ((with_reducible refine (CE _).mono ?_); rintro e w1c ⟨rfl, rfl⟩)) | (go_at_call 22; ((with_reducible refine (CN _ B1 _).mono ?_); rintro e w2 ⟨p, rfl, r2, b2, hp2⟩; have B2 := B1.trans (b2.mono B1.size); have hpl := r2.lt; have rs2 : RS (fun b => w1c.heap.size ≤ b ∧ b < w2.heap.size) w2 p bs 0 := .inl ⟨Nat.zero_le _, r2⟩; have CU := rsU8 p bs 0 w2 rs2 HLB.out; rw [HFX.out] at CU)) | (go_at_call 24; ((with_reducible refine (CU).mono ?_); rintro e w3 ⟨rfl, r3, o3⟩; have hs3 := o3.size; have B3 := B2.trans (o3.to_below B2.size (by have := B1.size; simp; omega)); have hwp : w.heap.size ≤ p := Nat.le_trans B1.size hp2; have hq3 : ∀ b, (w1c.heap.size ≤ b ∧ b < w2.heap.size) → b < w3.heap.size := fun b hb => by omega)) | (go_at_call 42; ((with_reducible refine (ctake_any p 1 n bs w3 r3 hq3 (by omega) HLB.out (by omega)).mono ?_); rintro e w9 ⟨v9, rfl, own9, r9, o9⟩; have B9 := B3.trans (o9.to_below B3.size (by simp; omega)); obtain ⟨A9, c9, rfl, hl9, hc9⟩ := own_lists own9; have HL9 := Lib.hid hl9; clear hl9)) | (go_at_call 28; ((with_reducible refine (rs_doneH p bs (1 + n) _ r9 false (by rw [HM.out]; exact decide_eq_false hk)).mono ?_); rintro e w9b ⟨rfl, rfl⟩)))
      exact bodyPost_ret (v := .tuple #[.slice none 0 0, .int .i64 160]) (by simp [results, Tryd.results16, go_sem]) rfl (HNO.out HNX.out _ B9)

end Go.Proofs.YteffijgajhngeaaDoor
