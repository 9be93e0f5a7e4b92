/- FlattenMoves: closed lines further on are as the document says, their area stays, and by whole pixels their box moves as far; for every list of lists of dots and every two ints. -/
import Derived.Test.YtlacjifnniahhaaM2FlattenMoves

namespace Go.Proofs.Ytlacjifnniahhaa.flattenMoves
open Go Go.ChangeShapes Go.WideShapes Go.ChangeAt Go.RowKit Go.Shelf
set_option linter.unusedVariables false
set_option linter.unusedSimpArgs false

theorem box_in {Ls : List (List Dt)} (h : mayF Ls = 0) : (-20000 ≤ (boxF Ls).x0 ∧ (boxF Ls).x0 ≤ 20000) ∧ (-20000 ≤ (boxF Ls).y0 ∧ (boxF Ls).y0 ≤ 20000) ∧ (-20000 ≤ (boxF Ls).x1 ∧ (boxF Ls).x1 ≤ 20000) ∧ -20000 ≤ (boxF Ls).y1 ∧ (boxF Ls).y1 ≤ 20000 := by
  have h1 := hullD_in (mayF_ok h).2
  unfold boxF
  split
  · simp
  · unfold bxF
    simp only
    omega
set_option maxRecDepth 100000 in
set_option maxHeartbeats 4000000 in
theorem walk_big {W : World} (A : Option Addr) (c : Nat) (Ls : List (List Dt)) (h : OutF dtL W W.heap.size A Ls) (hm : ∀ L ∈ Ls, L.length ≤ 17592186044416) (hn : Ls.length ≤ 9223372036854775807) (dx dy : Int) (hbig : 70000 < cntW Ls ∨ 5000 < Ls.length) : Calls Try.prog 6 #[.slice A Ls.length c, .int .i64 dx, .int .i64 dy] W fun e w' => e = .returned (.bool true) ∧ Below W.heap.size W w' := by
  have CT := rcnt21 A c Ls W h hm hn
  clear h hm
  by_cases h7 : 70000 < cntW Ls
  · have d7 : decide (70000 < cntW Ls) = true := by simpa using h7
    clear h7 hbig
    generalize cntW Ls = C at *
    generalize Ls.length = n at *
    go_enter Try.func6, Try.ntmps6
    go_wp2_with (first
      | (go_at_call 20; (with_reducible refine (CT).mono ?_); rintro e w1 ⟨rfl, rfl⟩)
      | (go_at_call 10; ((with_reducible refine (lives21 _).mono ?_); rintro e w2 ⟨rfl, b2⟩)))
    go_ret
    exact ⟨rfl, b2⟩
  · have d7 : decide (70000 < cntW Ls) = false := by simpa using h7
    have d5 : decide ((5000 : Int) < (Ls.length : Int)) = true := by simp; omega
    clear h7 hbig
    generalize cntW Ls = C at *
    generalize Ls.length = n at *
    go_enter Try.func6, Try.ntmps6
    go_wp2_with (first
      | (go_at_call 20; (with_reducible refine (CT).mono ?_); rintro e w1 ⟨rfl, rfl⟩)
      | (go_at_call 10; ((with_reducible refine (lives21 _).mono ?_); rintro e w2 ⟨rfl, b2⟩)))
    go_ret
    exact ⟨rfl, b2⟩
set_option maxRecDepth 100000 in
set_option maxHeartbeats 4000000 in
theorem walk_bad {W : World} (A : Option Addr) (c : Nat) (Ls : List (List Dt)) (h : OutF dtL W W.heap.size A Ls) (hm : ∀ L ∈ Ls, L.length ≤ 17592186044416) (hn : Ls.length ≤ 9223372036854775807) (dx dy : Int) (h7 : ¬ 70000 < cntW Ls) (h5 : Ls.length ≤ 5000) (hg : mayF Ls ≠ 0) : Calls Try.prog 6 #[.slice A Ls.length c, .int .i64 dx, .int .i64 dy] W fun e w' => e = .returned (.bool true) ∧ Below W.heap.size W w' := by
  have hcw : cntW Ls = ((cntF Ls : Nat) : Int) := by have := cntW_eq hm h5 Ls.length; rwa [List.take_length] at this
  have hsm : SmF Ls := ⟨by omega, by rw [hcw] at h7; omega⟩
  have CT := rcnt21 A c Ls W h hm hn
  have d7 : decide (70000 < cntW Ls) = false := by simp; omega
  have d5 : decide ((5000 : Int) < (Ls.length : Int)) = false := by simp; omega
  have UP := fun V (b : Below W.heap.size W V) => (h.below b).more b.size
  have CR := fun V b => rmay21 A c Ls V (UP V b) hsm h5
  have CV := (fmov_any A c Ls dx dy W h hsm).mono fun e w' hp => show e = .returned (.tuple #[.slice none 0 0, .int .i64 (mayF Ls)]) ∧ Below W.heap.size W w' by
    obtain ⟨v, h1, h2, h3, h4⟩ := hp
    have he : mvE dx dy Ls = mayF Ls := by unfold mvE; rw [if_neg hg]
    rw [he] at h1 h3
    rw [h3 hg] at h1
    exact ⟨h1, h4⟩
  have g1 : (mayF Ls != 0) = true := by simpa using hg
  clear hg h7 h5 hcw hsm h hm UP
  generalize cntW Ls = C at *
  generalize mayF Ls = g at *
  generalize Ls.length = n at *
  go_enter Try.func6, Try.ntmps6
  go_upto_region 3 with (go_at_call 20; (with_reducible refine (CT).mono ?_); rintro e w1 ⟨rfl, rfl⟩)
  go_upto_region 4 with (go_at_call 26; (with_reducible refine (CV).mono ?_); rintro e w2 ⟨rfl, b2⟩)
  go_upto_region 6 with (go_at_call 10; ((with_reducible refine (lives21 _).mono ?_); rintro e w3 ⟨rfl, b3⟩))
  have B3 := b2.trans (b3.mono b2.size)
  have CR3 := CR _ B3
  go_wp2_with (go_at_call 23; (with_reducible refine (CR3).mono ?_); rintro e w4 ⟨rfl, rfl⟩)
  go_ret
  exact ⟨rfl, B3⟩
set_option maxRecDepth 100000 in
set_option maxHeartbeats 4000000 in
theorem walk_over {W : World} (A : Option Addr) (c : Nat) (Ls : List (List Dt)) (h : OutF dtL W W.heap.size A Ls) (hm : ∀ L ∈ Ls, L.length ≤ 17592186044416) (hn : Ls.length ≤ 9223372036854775807) (dx dy : Int) (wx : -9223372036854775808 ≤ dx ∧ dx ≤ 9223372036854775807) (wy : -9223372036854775808 ≤ dy ∧ dy ≤ 9223372036854775807) (h7 : ¬ 70000 < cntW Ls) (h5 : Ls.length ≤ 5000) (hg : mayF Ls = 0) (he : mvE dx dy Ls ≠ 0) : Calls Try.prog 6 #[.slice A Ls.length c, .int .i64 dx, .int .i64 dy] W fun e w' => e = .returned (.bool true) ∧ Below W.heap.size W w' := by
  have hcw : cntW Ls = ((cntF Ls : Nat) : Int) := by have := cntW_eq hm h5 Ls.length; rwa [List.take_length] at this
  have hsm : SmF Ls := ⟨by omega, by rw [hcw] at h7; omega⟩
  have CT := rcnt21 A c Ls W h hm hn
  have d7 : decide (70000 < cntW Ls) = false := by simp; omega
  have d5 : decide ((5000 : Int) < (Ls.length : Int)) = false := by simp; omega
  have UP := fun V (b : Below W.heap.size W V) => (h.below b).more b.size
  have CR := fun V b => rmay21 A c Ls V (UP V b) hsm h5
  have CV := (fmov_any A c Ls dx dy W h hsm).mono fun e w' hp => show e = .returned (.tuple #[.slice none 0 0, .int .i64 (mvE dx dy Ls)]) ∧ Below W.heap.size W w' by
    obtain ⟨v, h1, h2, h3, h4⟩ := hp
    rw [h3 he] at h1
    exact ⟨h1, h4⟩
  have CW := fun V b => (rmove21 A c Ls dx dy V (UP V b) hsm hg wx wy).mono fun e w' hp => show e = .returned (.tuple #[.slice none 0 0, .int .i64 (mvE dx dy Ls)]) ∧ Below V.heap.size V w' by
    obtain ⟨v, h1, h2, h3, h4⟩ := hp
    rw [h3 he] at h1
    exact ⟨h1, h4⟩
  have CS := fun V => rsame21 none none 0 0 [] V (OutF.nil _ _) (OutF.nil _ _) ⟨by simp, by simp [cntF]⟩
  rw [hg] at CR
  have g1 : (mvE dx dy Ls != 0) = true := by simpa using he
  clear hg h7 h5 hcw hsm h hm UP he wx wy
  generalize cntW Ls = C at *
  generalize mvE dx dy Ls = g at *
  generalize Ls.length = n at *
  simp only [List.length_nil] at CS
  go_enter Try.func6, Try.ntmps6
  go_upto_region 3 with (go_at_call 20; (with_reducible refine (CT).mono ?_); rintro e w1 ⟨rfl, rfl⟩)
  go_upto_region 4 with (go_at_call 26; (with_reducible refine (CV).mono ?_); rintro e w2 ⟨rfl, b2⟩)
  go_upto_region 6 with (go_at_call 10; ((with_reducible refine (lives21 _).mono ?_); rintro e w3 ⟨rfl, b3⟩))
  have B3 := b2.trans (b3.mono b2.size)
  have CR3 := CR _ B3
  go_upto_region 9 with (go_at_call 23; (with_reducible refine (CR3).mono ?_); rintro e w4 ⟨rfl, rfl⟩)
  have CW3 := CW _ B3
  go_upto_region 10 with (go_at_call 27; (with_reducible refine (CW3).mono ?_); rintro e w5 ⟨rfl, b5⟩)
  have B5 := B3.trans (b5.mono B3.size)
  go_upto_region 11 with (go_at_call 18; (with_reducible refine (CS _).mono ?_); rintro e w6 ⟨rfl, b6⟩)
  have B6 := B5.trans (b6.mono B5.size)
  go_wp2_with (go_at_call 18; (with_reducible refine (CS _).mono ?_); rintro e w7 ⟨rfl, b7⟩)
  go_ret
  exact ⟨rfl, B6.trans (b7.mono B6.size)⟩
set_option maxRecDepth 100000 in
set_option maxHeartbeats 4000000 in
theorem walk_ok {W : World} (A : Option Addr) (c : Nat) (Ls : List (List Dt)) (h : OutF dtL W W.heap.size A Ls) (hm : ∀ L ∈ Ls, L.length ≤ 17592186044416) (hn : Ls.length ≤ 9223372036854775807) (dx dy : Int) (wx : -9223372036854775808 ≤ dx ∧ dx ≤ 9223372036854775807) (wy : -9223372036854775808 ≤ dy ∧ dy ≤ 9223372036854775807) (h7 : ¬ 70000 < cntW Ls) (h5 : Ls.length ≤ 5000) (hg : mayF Ls = 0) (he : mvE dx dy Ls = 0) : Calls Try.prog 6 #[.slice A Ls.length c, .int .i64 dx, .int .i64 dy] W fun e w' => e = .returned (.bool true) ∧ Below W.heap.size W w' := by
  have hcw : cntW Ls = ((cntF Ls : Nat) : Int) := by have := cntW_eq hm h5 Ls.length; rwa [List.take_length] at this
  have hsm : SmF Ls := ⟨by omega, by rw [hcw] at h7; omega⟩
  have CT := rcnt21 A c Ls W h hm hn
  have d7 : decide (70000 < cntW Ls) = false := by simp; omega
  have d5 : decide ((5000 : Int) < (Ls.length : Int)) = false := by simp; omega
  have UP := fun V (b : Below W.heap.size W V) => (h.below b).more b.size
  have CR := fun V b => rmay21 A c Ls V (UP V b) hsm h5
  have hok := mayF_ok hg
  have hml : mayF (mvL dx dy Ls) = 0 := by unfold mvE at he; rwa [if_pos hg] at he
  have hsl := mvL_sh hok.2 (mayF_ok hml).2 wx wy
  have hlm : (mvL dx dy Ls).length = Ls.length := mvL_len _ _ _
  have hsv : SmF (mvL dx dy Ls) := mvL_sm hsm
  have CV := (fmov_any A c Ls dx dy W h hsm).mono fun e w' hp => show ∃ Am cm, e = .returned (.tuple #[.slice Am Ls.length cm, .int .i64 0]) ∧ OutF dtL w' w'.heap.size Am (mvL dx dy Ls) ∧ Below W.heap.size W w' by
    obtain ⟨v, h1, h2, h3, h4⟩ := hp
    rw [he] at h1
    obtain ⟨Am, cm, hv, _, om⟩ := (h2 he).out
    rw [hv, hlm] at h1
    exact ⟨Am, cm, h1, om, h4⟩
  have CW := fun V b => (rmove21 A c Ls dx dy V (UP V b) hsm hg wx wy).mono fun e w' hp => show ∃ Am cm, e = .returned (.tuple #[.slice Am Ls.length cm, .int .i64 0]) ∧ OutF dtL w' w'.heap.size Am (mvL dx dy Ls) ∧ Below V.heap.size V w' by
    obtain ⟨v, h1, h2, h3, h4⟩ := hp
    rw [he] at h1
    obtain ⟨Am, cm, hv, _, om⟩ := (h2 he).out
    rw [hv, hlm] at h1
    exact ⟨Am, cm, h1, om, h4⟩
  have CS := fun V A1 A2 c1 c2 o1 o2 => rsame21 A1 A2 c1 c2 (mvL dx dy Ls) V o1 o2 hsv
  have CA := fun V A1 c1 o1 => farea_any A1 c1 (mvL dx dy Ls) V o1 hsv
  have CB := fun V A1 c1 o1 => fbox_ok A1 c1 (mvL dx dy Ls) V o1 hsv hml
  simp only [hlm] at CS CA CB
  rw [hml] at CA
  simp only [if_pos] at CA
  have har : arF (lnA (mvL dx dy Ls)) = arF (lnA Ls) := by rw [hsl, area_sh]
  rw [har] at CA
  rw [hg] at CR
  have CX := fun V b => rbox21 A c Ls V (UP V b) hsm hg
  have CY := fun V b => rarea21 A c Ls V (UP V b) hsm hg
  have hQ := box_in hg
  have hP := box_in hml
  have hSH := fun (a b : Int) (ha : dx = 64 * a) (hb : dy = 64 * b) (hz : boxF Ls ≠ ⟨0, 0, 0, 0⟩) => show boxF (mvL dx dy Ls) = ⟨(boxF Ls).x0 + a, (boxF Ls).y0 + b, (boxF Ls).x1 + a, (boxF Ls).y1 + b⟩ by
    rw [hsl, ha, hb]; exact box_sh a b Ls hz
  have HSH := Lib.hid (And.intro hSH (And.intro hQ hP))
  have HWXY := Lib.hid (And.intro wx wy)
  clear hg h7 h5 hcw hsm h hm UP he wx wy hok hml hsl hlm hsv hSH hQ hP har
  generalize cntW Ls = C at *
  generalize boxF (mvL dx dy Ls) = BP at *
  generalize boxF Ls = BQ at *
  generalize arF (lnA Ls) = a0 at *
  generalize Ls.length = n at *
  obtain ⟨X0, Y0, X1, Y1⟩ := BQ
  obtain ⟨P0, P1, P2, P3⟩ := BP
  go_enter Try.func6, Try.ntmps6
  go_upto_region 3 with (go_at_call 20; (with_reducible refine (CT).mono ?_); rintro e w1 ⟨rfl, rfl⟩)
  go_upto_region 4 with (go_at_call 26; (with_reducible refine (CV).mono ?_); rintro e w2 ⟨Am, cm, rfl, om, b2⟩)
  go_upto_region 6 with (go_at_call 10; ((with_reducible refine (lives21 _).mono ?_); rintro e w3 ⟨rfl, b3⟩))
  have B3 := b2.trans (b3.mono b2.size)
  have o3 := (om.below b3).more b3.size
  have CR3 := CR _ B3
  go_upto_region 9 with (go_at_call 23; (with_reducible refine (CR3).mono ?_); rintro e w4 ⟨rfl, rfl⟩)
  have CW3 := CW _ B3
  go_upto_region 10 with (go_at_call 27; (with_reducible refine (CW3).mono ?_); rintro e w5 ⟨A5, c5, rfl, o5, b5⟩)
  have B5 := B3.trans (b5.mono B3.size)
  have m5 := (o3.below b5).more b5.size
  clear CW3 CW CV CT om o3 b2 b3
  have CS5 := CS _ Am A5 cm c5 m5 o5
  go_upto_region 12 with (go_at_call 18; (with_reducible refine (CS5).mono ?_); rintro e w6 ⟨rfl, b6⟩)
  have B6 := B5.trans (b6.mono B5.size)
  have m6 := (m5.below b6).more b6.size
  have CA6 := CA _ Am cm m6
  clear CS CS5 m5 o5
  go_upto_region 13 with (go_at_call 22; (with_reducible refine (CA6).mono ?_); rintro e w7 ⟨rfl, b7⟩)
  have B7 := B6.trans (b7.mono B6.size)
  have m7 := (m6.below b7).more b7.size
  have CB7 := CB _ Am cm m7
  clear CA CA6 m6
  go_upto_region 14 with (go_at_call 21; (with_reducible refine (CB7).mono ?_); rintro e w8 ⟨rfl, b8⟩)
  obtain ⟨W8, hW8⟩ : ∃ W8, W8 = w8.alloc (.cells #[.int .i64 P0, .int .i64 P1, .int .i64 P2, .int .i64 P3] 48) := ⟨_, rfl⟩
  have KP : Blk W8 w8.heap.size 48 #[.int .i64 P0, .int .i64 P1, .int .i64 P2, .int .i64 P3] := hW8 ▸ Blk.new _ _ _
  have c8 : Below w7.heap.size w7 W8 := hW8 ▸ b8.alloc b8.size _
  rw [← hW8]
  obtain ⟨pb, hpb⟩ : ∃ pb, pb = w8.heap.size := ⟨_, rfl⟩
  rw [← hpb] at KP ⊢
  have B8 := B7.trans (c8.mono B7.size)
  clear hW8 hpb b8 m7 CB CB7
  have CY8 := CY _ B8
  go_upto_region 16 with (go_at_call 25; (with_reducible refine (CY8).mono ?_); rintro e w9 ⟨rfl, b9⟩)
  have B9 := B8.trans (b9.mono B8.size)
  have KP9 := KP.below b9
  have CX9 := CX _ B9
  go_upto_region 17 with (go_at_call 24; (with_reducible refine (CX9).mono ?_); rintro e wa ⟨rfl, ba⟩)
  obtain ⟨Wa, hWa⟩ : ∃ Wa, Wa = wa.alloc (.cells #[.int .i64 X0, .int .i64 Y0, .int .i64 X1, .int .i64 Y1] 48) := ⟨_, rfl⟩
  have KQ : Blk Wa wa.heap.size 48 #[.int .i64 X0, .int .i64 Y0, .int .i64 X1, .int .i64 Y1] := hWa ▸ Blk.new _ _ _
  have ca : Below w9.heap.size w9 Wa := hWa ▸ ba.alloc ba.size _
  rw [← hWa]
  obtain ⟨qb, hqb⟩ : ∃ qb, qb = wa.heap.size := ⟨_, rfl⟩
  rw [← hqb] at KQ ⊢
  have Ba := B9.trans (ca.mono B9.size)
  have KPa := KP9.below ca
  clear hWa hqb ba CX CX9 CY CY8 KP KP9 B8 B9 B7 B6 B5 B3 b5 b6 b7 b9 c8 ca
  have u0 := KPa.cell 0; have u1 := KPa.cell 1; have u2 := KPa.cell 2; have u3 := KPa.cell 3; have ul := KPa.lt; simp only [List.getElem?_toArray, List.getElem?_cons_succ, List.getElem?_cons_zero] at u0 u1 u2 u3
  have z0 := KQ.cell 0; have z1 := KQ.cell 1; have z2 := KQ.cell 2; have z3 := KQ.cell 3; have zl := KQ.lt; simp only [List.getElem?_toArray, List.getElem?_cons_succ, List.getElem?_cons_zero] at z0 z1 z2 z3
  clear KPa KQ
  obtain ⟨rx, hrx⟩ : ∃ rx, rx = Int.tmod dx 64 := ⟨_, rfl⟩
  obtain ⟨ry, hry⟩ : ∃ ry, ry = Int.tmod dy 64 := ⟨_, rfl⟩
  have hrl : ∀ z : Int, -64 ≤ Int.tmod z 64 ∧ Int.tmod z 64 ≤ 64 := fun z => by
    have h1 := Int.natAbs_tmod z 64
    have h2 := Nat.mod_lt z.natAbs (show 0 < (64 : Int).natAbs by decide)
    omega
  have hx1 := hrl dx
  have hy1 := hrl dy
  rw [← hrx] at hx1
  rw [← hry] at hy1
  have ex : Int.tmod dx 64 = rx := hrx.symm
  have ey : Int.tmod dy 64 = ry := hry.symm
  have ewx : IntKind.i64.wrap rx = rx := wrap_ini (by omega)
  have ewy : IntKind.i64.wrap ry = ry := wrap_ini (by omega)
  have HRX := Lib.hid (And.intro hrx hry)
  clear hrx hry hx1 hy1 hrl
  by_cases h1 : rx = 0
  case neg =>
    have d8 : (rx != 0) = true := by simpa using h1
    clear h1
    go_wp2
    go_ret
    exact ⟨rfl, Ba⟩
  have d8 : (rx != 0) = false := by simpa using h1
  by_cases h2 : ry = 0
  case neg =>
    have d9 : (ry != 0) = true := by simpa using h2
    clear h1 h2
    go_wp2
    go_ret
    exact ⟨rfl, Ba⟩
  have d9 : (ry != 0) = false := by simpa using h2
  have HZ := Lib.hid (And.intro h1 h2)
  clear h1 h2
  cases hz : eq4 X0 Y0 X1 Y1 0 0 0 0
  case true =>
    have p1 := eqB_run X0 Y0 X1 Y1 0 0 0 0
    rw [hz] at p1
    have p2 := eqB_guard X0 Y0 X1 Y1 0 0 0 0
    clear hz
    go_wp2
    go_ret
    exact ⟨rfl, Ba⟩
  have p1 := eqB_run X0 Y0 X1 Y1 0 0 0 0
  rw [hz] at p1
  have p2 := eqB_guard X0 Y0 X1 Y1 0 0 0 0
  have p3 := eqB_run P0 P1 P2 P3 P0 P1 P2 P3
  rw [show eq4 P0 P1 P2 P3 P0 P1 P2 P3 = true by simp [eq4]] at p3
  have p4 := eqB_guard P0 P1 P2 P3 P0 P1 P2 P3
  obtain ⟨qx, hqx⟩ : ∃ qx, qx = Int.tdiv dx 64 := ⟨_, rfl⟩
  obtain ⟨qy, hqy⟩ : ∃ qy, qy = Int.tdiv dy 64 := ⟨_, rfl⟩
  have hdx : dx = 64 * qx := by
    have h := Int.mul_tdiv_add_tmod dx 64
    rw [← HRX.out.1, HZ.out.1, ← hqx] at h
    omega
  have hdy : dy = 64 * qy := by
    have h := Int.mul_tdiv_add_tmod dy 64
    rw [← HRX.out.2, HZ.out.2, ← hqy] at h
    omega
  have hS := HSH.out.1 qx qy hdx hdy (fun e => by
    simp only [Q.mk.injEq] at e
    obtain ⟨e1, e2, e3, e4⟩ := e
    subst e1 e2 e3 e4
    exact absurd hz (by decide))
  simp only [Q.mk.injEq] at hS
  have hPP := HSH.out.2.2
  try simp only at hPP
  have f1 : Int.tdiv dx 64 = qx := hqx.symm
  have f2 : Int.tdiv dy 64 = qy := hqy.symm
  have hw := HWXY.out
  have f3 : IntKind.i64.wrap qx = qx := wrap_ini (by omega)
  have f4 : IntKind.i64.wrap qy = qy := wrap_ini (by omega)
  have f5 : IntKind.i64.wrap (X0 + qx) = P0 := by rw [← hS.1]; exact wrap_ini (by omega)
  have f6 : IntKind.i64.wrap (Y0 + qy) = P1 := by rw [← hS.2.1]; exact wrap_ini (by omega)
  have f7 : IntKind.i64.wrap (X1 + qx) = P2 := by rw [← hS.2.2.1]; exact wrap_ini (by omega)
  have f8 : IntKind.i64.wrap (Y1 + qy) = P3 := by rw [← hS.2.2.2]; exact wrap_ini (by omega)
  clear hqx hqy hdx hdy hS hPP hw hz
  go_wp2
  go_ret
  exact ⟨rfl, Ba⟩
theorem walk {W : World} (A : Option Addr) (c : Nat) (Ls : List (List Dt)) (h : OutF dtL W W.heap.size A Ls) (hm : ∀ L ∈ Ls, L.length ≤ 17592186044416) (hn : Ls.length ≤ 9223372036854775807) (hc : Ls.length ≤ c) (dx : Int) (wx : (Lit.int .i64 dx).wf = true) (dy : Int) (wy : (Lit.int .i64 dy).wf = true) : Calls Try.prog 6 #[.slice A Ls.length c, .int .i64 dx, .int .i64 dy] W fun e w' => e = .returned (.bool true) ∧ Below W.heap.size W w' := by
  have wx2 : -9223372036854775808 ≤ dx ∧ dx ≤ 9223372036854775807 := bounds_i64 wx
  have wy2 : -9223372036854775808 ≤ dy ∧ dy ≤ 9223372036854775807 := bounds_i64 wy
  by_cases h7 : 70000 < cntW Ls
  · exact walk_big A c Ls h hm hn dx dy (.inl h7)
  · by_cases h5 : 5000 < Ls.length
    · exact walk_big A c Ls h hm hn dx dy (.inr h5)
    · by_cases hg : mayF Ls = 0
      · by_cases he : mvE dx dy Ls = 0
        · exact walk_ok A c Ls h hm hn dx dy wx2 wy2 h7 (by omega) hg he
        · exact walk_over A c Ls h hm hn dx dy wx2 wy2 h7 (by omega) hg he
      · exact walk_bad A c Ls h hm hn dx dy h7 (by omega) hg

set_option linter.unusedVariables false in
set_option maxRecDepth 100000 in
theorem lifted (os : Os) (started : os.Started) (H : Type) (enc : TypeId × Value → H) :
    ReturnsInHanded {} Try.checked os 6 .any (Rows.flattenMovesSpec.pre6 enc Try.prog Try.f6 Rows.flattenMovesRow.domain false) (Rows.flattenMovesSpec.post enc Try.prog Try.f6 false true false false) := by
  refine returnsInHanded_of_change_sized (C := Try.checked) Try.own started (by kernel_rfl) Try.func6
    (ChangeSpec.witness6 (enc := enc) (C := Try.checked) false ⟨#[], #[.slice none 0 0, .int .i64 0, .int .i64 0], []⟩ 8 (by kernel_rfl) (by kernel_rfl) (by kernel_rfl) (by kernel_rfl)) ?_
  intro W base args ds gs before hval0 hW hcnd hsz0 _
  have hsz : (DataW.weightsEach Try.prog (Try.f6.params.toList ++ Rows.flattenMovesSpec.plain.varTypes Try.prog) (ds ++ gs)).all (· ≤ reachBytes) = true := hsz0
  have hval : ∀ (j : Nat) t v, Try.f6.params[j]? = some t → args[j]? = some v → Value.okWide Try.prog W .any base t v := hval0
  have hW' := hW
  obtain ⟨p, q, hA0, hV, rfl, hfz, hnd⟩ := hW
  have hA : DataW.TrodAll enc Try.prog W 0 (fun _ => true) true Try.f6.params.toList args.toList ds p := hA0
  rw [Try.params6] at hA hval hsz
  obtain ⟨v0, vs0, d0, ds0, p0, q0, hargs, rfl, rfl, h0, r0⟩ := trodAll_cons hA
  obtain ⟨v1, vs1, d1, ds1, p1, q1, rfl, rfl, rfl, h1, r1⟩ := trodAll_cons r0
  obtain ⟨v2, vs2, d2, ds2, p2, q2, rfl, rfl, rfl, h2, r2⟩ := trodAll_cons r1
  obtain ⟨rfl, rfl, rfl⟩ := trodAll_nil r2
  obtain rfl : args = #[v0, v1, v2] := by cases args; simp_all
  obtain ⟨rfl, rfl⟩ := trodVars_none hV
  have hz0 : ∀ m ∈ d0.weights Try.prog 39, m ≤ reachBytes := fun m hm => of_decide_eq_true (List.all_eq_true.1 hsz m (DataW.weights_mem_each (j := 0) rfl rfl m hm))
  obtain ⟨A0, c0, L0, rfl, k0, m0, n0, p09, q09⟩ := open_outF (f := dtL) (sz := 2) (by_ := 16) Try.underlying39 Try.underlying61 (by kernel_rfl) (by kernel_rfl) dtLen (by decide) open_dtF (by kernel_rfl) (by decide) (hval 0 39 v0 rfl rfl) h0 hz0
  obtain ⟨a1, rfl, rfl, rfl, w1⟩ := open_int Try.underlying3 (hval 1 3 v1 rfl rfl) h1
  obtain ⟨a2, rfl, rfl, rfl, w2⟩ := open_int Try.underlying3 (hval 2 3 v2 rfl rfl) h2
  clear hA0 hval0
  simp only [List.append_nil] at hW'
  refine (walk (W := W) A0 c0 L0 k0 m0 n0 p09 a1 w1 a2 w2).mono fun e W' ⟨he, hg⟩ => ?_
  subst he
  exact ⟨_, rfl, law_post Try.laidOut rfl Try.underlying4 (by kernel_rfl) rfl rfl rfl rfl hW' hg⟩

theorem over : Rows.flattenMovesRow.holds Try.pinned (OpenSpec.ofChange Rows.flattenMovesSpec) :=
  OpenClaim.holds_of_wide 6 Try.f6 rfl rfl rfl rfl rfl rfl rfl ⟨rfl, rfl, rfl, rfl, rfl⟩ rfl rfl rfl rfl rfl (by kernel_rfl) Try.func6 (by kernel_rfl)
    (of_decide_eq_true (by kernel_rfl)) (by unfold Func.isWrapper; first | (rw [if_pos (by decide +kernel)]; kernel_rfl) | (rw [if_neg (by decide +kernel)]; exact ⟨rfl, rfl⟩))
    (fun os started H enc _ => lifted os started H enc)

theorem proved : Rows.FlattenMovesSaid :=
  over

end Go.Proofs.Ytlacjifnniahhaa.flattenMoves
