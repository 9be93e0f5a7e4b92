/- Part 13 of the proof: SpS, SpT, SpU. -/
import Derived.Test.YtelhckckcilpaaaCSp11

namespace Go.Proofs.Ytelhckckcilpaaa
open Go Go.RowKit
set_option linter.unusedVariables false
set_option linter.unusedSimpArgs false

def Bd (x : Int) : Prop := -2147483648 ≤ x ∧ x ≤ 2147483648
theorem fold_min_bd : ∀ (xs : List Int) (z : Int), Bd z → (∀ x ∈ xs, Bd x) → Bd (xs.foldl min z)
  | [], z, hz, _ => hz
  | x :: xs, z, hz, h => fold_min_bd xs (min z x) (by have := h x (by simp); unfold Bd at *; omega) (fun y hy => h y (by simp [hy]))
theorem fold_max_bd : ∀ (xs : List Int) (z : Int), Bd z → (∀ x ∈ xs, Bd x) → Bd (xs.foldl max z)
  | [], z, hz, _ => hz
  | x :: xs, z, hz, h => fold_max_bd xs (max z x) (by have := h x (by simp); unfold Bd at *; omega) (fun y hy => h y (by simp [hy]))
theorem bd_getD (xs : List Int) (h : ∀ x ∈ xs, Bd x) : Bd (xs.getD 0 0) := by
  cases xs with
  | nil => exact ⟨by simp, by simp⟩
  | cons x xs => exact h x (by simp)
theorem accQ_bd (xs ys : List Int) (k : Nat) (hx : ∀ x ∈ xs, Bd x) (hy : ∀ y ∈ ys, Bd y) : Bd (accQ xs ys k).x0 ∧ Bd (accQ xs ys k).y0 ∧ Bd (accQ xs ys k).x1 ∧ Bd (accQ xs ys k).y1 := by
  unfold accQ
  split
  · exact ⟨⟨by decide, by decide⟩, ⟨by decide, by decide⟩, ⟨by decide, by decide⟩, ⟨by decide, by decide⟩⟩
  · have h1 : ∀ x ∈ xs.take k, Bd x := fun x h => hx x (List.mem_of_mem_take h)
    have h2 : ∀ x ∈ ys.take k, Bd x := fun x h => hy x (List.mem_of_mem_take h)
    exact ⟨fold_min_bd _ _ (bd_getD _ h1) h1, fold_min_bd _ _ (bd_getD _ h2) h2, fold_max_bd _ _ (bd_getD _ h1) h1, fold_max_bd _ _ (bd_getD _ h2) h2⟩
theorem fair_bd {Ls : List (List Pt)} (h : chkE Ls = 0) : ∀ p ∈ Ls.flatten, Bd p.1 ∧ Bd p.2.1 := by
  intro p hp
  obtain ⟨h1, h2⟩ := fair_flat (chk_zero h).2.2 p hp
  unfold mayB at h1 h2
  simp at h1 h2
  exact ⟨h1, h2⟩
theorem boxO_bd {Ls : List (List Pt)} (h : chkE Ls = 0) : Bd (boxO Ls).x0 ∧ Bd (boxO Ls).y0 ∧ Bd (boxO Ls).x1 ∧ Bd (boxO Ls).y1 := by
  refine accQ_bd _ _ _ (fun x hx => ?_) (fun x hx => ?_)
  · obtain ⟨p, hp, rfl⟩ := List.mem_map.1 hx; exact (fair_bd h p hp).1
  · obtain ⟨p, hp, rfl⟩ := List.mem_map.1 hx; exact (fair_bd h p hp).2
theorem stp_bd {pl : Pt → Int} : ∀ (P : List Pt) (a : Int) (X : List Int), stpE pl P a = some X → ∀ x ∈ X, inS x = true
  | [], a, X, h => by unfold stpE at h; cases h; simp
  | p :: P, a, X, h => by
    unfold stpE at h
    split at h
    · rename_i hc
      simp only [Bool.and_eq_true] at hc
      cases h2 : stpE pl P ((pl p).tdiv 65536) with
      | none => rw [h2] at h; cases h
      | some X2 =>
        rw [h2] at h
        cases h
        intro x hx
        rcases List.mem_cons.1 hx with rfl | hx
        · exact hc.2.2
        · exact stp_bd P _ X2 h2 x hx
    · cases h
theorem stp_len {pl : Pt → Int} : ∀ (P : List Pt) (a : Int) (X : List Int), stpE pl P a = some X → X.length = P.length
  | [], a, X, h => by unfold stpE at h; cases h; rfl
  | p :: P, a, X, h => by
    unfold stpE at h
    split at h
    · cases h2 : stpE pl P ((pl p).tdiv 65536) with
      | none => rw [h2] at h; cases h
      | some X2 =>
        rw [h2] at h
        cases h
        simp [stp_len P _ X2 h2]
    · cases h
theorem own_safeT {w w' : World} {base n s : Nat} {e : TypeId} {v : Value} {xs : List Value} (h : w.ownsRow base e s v n xs) (hs : Safe w w') (n1 : e ≠ 5) (n2 : e ≠ 111) (n3 : e ≠ 103) : w'.ownsRow base e s v n xs := by
  rcases h.2 with ⟨h1, h2⟩ | ⟨g, cap, cur, h1, h2, h3, h5⟩
  · exact ⟨h.1, .inl ⟨h1, h2⟩⟩
  · exact ⟨h.1, .inr ⟨g, cap, cur, h1, h2, hs g e cur n1 n2 n3 h3, h5⟩⟩
theorem own_at {w : World} {base n s c : Nat} {e : TypeId} {A : Option Addr} {xs : List Value} (h : w.ownsRow base e s (.slice A n c) n xs) : Lists w w.heap.size A xs ∧ n ≤ c := by
  obtain ⟨A', c', he, h1, h2⟩ := own_lists h
  injection he with e1 e2 e3
  subst e1; subst e3
  exact ⟨h1, h2⟩
theorem own_blkS {w : World} {base n c : Nat} {e : TypeId} {A : Option Addr} {X : List Int} (h : w.ownsRow base e 1 (.slice A n c) n (X.map (Value.int .i64))) (hn : 0 < n) : ∃ (g : Nat) (Sp : List Value), A = some ⟨g, 0, none⟩ ∧ base ≤ g ∧ Blk w g e (X.map (Value.int .i64) ++ Sp).toArray := by
  rcases h.2 with ⟨_, h0⟩ | ⟨g, cap, cur, h1, h2, h3, h4, h5, h6, h7⟩
  · omega
  · injection h1 with e1 e2 e3
    refine ⟨g, cur.toList.drop (n * 1), e1, h2, ?_⟩
    rw [← h7, List.take_append_drop]
    exact h3
theorem ints_cells (F : List Nat) : intCells (F.map (fun (f : Nat) => (f : Int))) = ints F := by
  unfold intCells ints
  rw [List.map_map]; rfl
/-- The four sides of the hull. -/
def sides (Ls : List (List Pt)) : List Int := [(boxO Ls).x0, (boxO Ls).y0, (boxO Ls).x1, (boxO Ls).y1]
def sidB (S : List Int) (k : Nat) : List Value := (S.take k).flatMap fun x => be2 (x.tdiv 65536)
theorem sidB_next {S : List Int} {k : Nat} {x : Int} (h : S[k]? = some x) : sidB S (k + 1) = sidB S k ++ be2 (x.tdiv 65536) := by
  unfold sidB
  rw [List.take_add_one, h, List.flatMap_append]
  simp
theorem spflat2_len (f : Int → List Value) (hf : ∀ x, (f x).length = 2) : ∀ S : List Int, (S.flatMap f).length = 2 * S.length
  | [] => rfl
  | x :: S => by rw [List.flatMap_cons, List.length_append, hf, spflat2_len f hf S, List.length_cons]; omega
theorem sidB_len {S : List Int} (k : Nat) (h : k ≤ S.length) : (sidB S k).length = 2 * k := by
  unfold sidB
  rw [spflat2_len _ (fun x => be2_len _), List.length_take, Nat.min_eq_left h]
theorem boxB_eq (Ls : List (List Pt)) : boxB Ls = sidB (sides Ls) 4 := by
  unfold boxB sidB sides
  simp [List.flatMap]
theorem wrap_q {x : Int} (h : Bd x) : wrap64 (x.tdiv 65536) = x.tdiv 65536 := by
  obtain ⟨h1, h2⟩ := h
  have hxr : -17179869184 ≤ x.tdiv 65536 ∧ x.tdiv 65536 ≤ 17179869184 := by
    rcases Int.le_total 0 x with h | h
    · rw [Int.tdiv_eq_ediv_of_nonneg h]; omega
    · have : x.tdiv 65536 = -((-x).tdiv 65536) := by rw [Int.neg_tdiv]; omega
      rw [this, Int.tdiv_eq_ediv_of_nonneg (by omega)]; omega
  obtain ⟨x0, x1⟩ := hxr
  generalize x.tdiv 65536 = y at x0 x1
  unfold wrap64; omega
theorem flat_pos {Ls : List (List Pt)} (hc : chkE Ls = 0) (hne : Ls ≠ []) : 0 < Ls.flatten.length := by
  cases Ls with
  | nil => exact absurd rfl hne
  | cons L Ls =>
    have h := (chk_zero hc).2.2 L (by simp)
    unfold mayC at h
    rw [Bool.and_eq_true] at h
    have h1 : 0 < L.length := by simpa using h.1
    rw [List.flatten_cons, List.length_append]
    omega
theorem sp_low {w : World} {base : Nat} {e : TypeId} {size n : Nat} {v : Value} {xs : List Value} (h : w.ownsRow base e size v n xs) : ∀ b ∈ blk v, base ≤ b := by
  intro b hb
  rcases h.2 with ⟨h1, h2⟩ | ⟨g, cap, cur, h1, h2, _⟩
  · subst h1; simp [blk, Value.ownBlock] at hb
  · subst h1; simp [blk, Value.ownBlock] at hb; omega
theorem fgs_lt : ∀ (P : List Pt) (X Y : List Int), ∀ f ∈ fgsE P X Y, f < 256
  | [], _, _ => by intro f hf; cases ‹List Int› <;> simp [fgsE] at hf
  | p :: P, [], _ => by intro f hf; simp [fgsE] at hf
  | p :: P, x :: X, [] => by intro f hf; simp [fgsE] at hf
  | p :: P, x :: X, y :: Y => by
    intro f hf
    rw [fgsE] at hf
    rcases List.mem_cons.1 hf with rfl | hf
    · exact fgE_lt x y p.2.2
    · exact fgs_lt P X Y f hf
theorem inS_bd {x : Int} (h : inS x = true) : -100000 ≤ x ∧ x ≤ 100000 := by
  unfold inS at h
  simp at h
  omega
theorem csteps_w (w : World) (p n c6 c8 c15 g6 g8 base : Nat) (A15 : Option Addr) (F : List Nat) (X Y : List Int) (S6 S8 L4 L5 L6 : List Value) (wd : World) (ws : WS w wd p 90635 L4) (own15 : wd.ownsRow base 3 1 (.slice A15 n c15) n (ints F))
    (fl : F.length = n) (xl : X.length = n) (yl : Y.length = n) (hn : n ≤ 4096) (hF : ∀ f ∈ F, f < 256) (hX : ∀ x ∈ X, inS x = true) (hY : ∀ x ∈ Y, inS x = true)
    (k6 : Blk wd g6 3 (X.map (Value.int .i64) ++ S6).toArray) (k8 : Blk wd g8 3 (Y.map (Value.int .i64) ++ S8).toArray) (h6 : w.heap.size ≤ g6) (h8 : w.heap.size ≤ g8) (h6b : g6 < base) (h8b : g8 < base) (hne : g6 ≠ g8)
    (CR1 : carr (fun (s : WSt) v => (v, pst 90635 s (be1 v))) (fun s v => (v, pst 90635 s (be2 v))) 1 4 F X (false, L4) = (X, (false, L5)))
    (CR2 : carr (fun (s : WSt) v => (v, pst 90635 s (be1 v))) (fun s v => (v, pst 90635 s (be2 v))) 2 5 F Y (false, L5) = (Y, (false, L6))) :
    Calls Try.prog 45 #[.slice A15 n c15, .slice (some ⟨g6, 0, none⟩) n c6, .slice (some ⟨g8, 0, none⟩) n c8, .func (.func 77) #[] #[.pointer (some ⟨wd.heap.size, 0, none⟩)], .func (.func 77) #[] #[.pointer (some ⟨wd.heap.size + 1, 0, none⟩)]]
      ((wd.alloc (.cells #[.func (.func 47) #[.pointer (some ⟨p, 0, none⟩)] #[]] 66)).alloc (.cells #[.func (.func 39) #[.pointer (some ⟨p, 0, none⟩)] #[]] 66)) fun e w' => e = .returned (.tuple #[]) ∧ WS w w' p 90635 L6 := by
  have BA := below_a2 wd (.cells #[.func (.func 47) #[.pointer (some ⟨p, 0, none⟩)] #[]] 66) (.cells #[.func (.func 39) #[.pointer (some ⟨p, 0, none⟩)] #[]] 66)
  have hI : WIn w p 90635 wd.heap.size (wd.heap.size + 1) base (.slice A15 n c15) F (false, L4) ((wd.alloc (.cells #[.func (.func 47) #[.pointer (some ⟨p, 0, none⟩)] #[]] 66)).alloc (.cells #[.func (.func 39) #[.pointer (some ⟨p, 0, none⟩)] #[]] 66)) := by
    refine ⟨ws.below BA, (Blk.new wd _ _).below (below_a1 _ _), ?_, ?_⟩
    · have := Blk.new (wd.alloc (.cells #[.func (.func 47) #[.pointer (some ⟨p, 0, none⟩)] #[]] 66)) 66 #[.func (.func 39) #[.pointer (some ⟨p, 0, none⟩)] #[]]
      rw [World.size_alloc] at this
      exact this
    · rw [fl]; exact own_safeT own15 (Below.safe BA) (by decide) (by decide) (by decide)
  have hlow := sp_low own15
  have C := csteps_any 77 77 wd.heap.size (wd.heap.size + 1) (WIn w p 90635 wd.heap.size (wd.heap.size + 1) base (.slice A15 n c15) F) TW (okW w (.slice A15 n c15)) (fun (s : WSt) v => (v, pst 90635 s (be1 v))) (fun s v => (v, pst 90635 s (be2 v))) A15 c15 n g6 g8 c6 c8 F X Y S6 S8 (false, L4) _
    (carw_u8 w p 90635 _ _ base A15 c15 n F fl (by omega)) (carw_i16 w p 90635 _ _ base A15 c15 n F fl (by omega)) (shared_w w p 90635 _ _ base A15 c15 n F fl) fl xl yl (by omega) hF (fun x hx => inS_bd (hX x hx)) (fun x hx => inS_bd (hY x hx)) (k6.below BA) (k8.below BA) hI ⟨h6, fun hm => by have := hlow _ hm; omega⟩ ⟨h8, fun hm => by have := hlow _ hm; omega⟩ hne
  rw [CR1] at C
  dsimp only at C
  rw [CR2] at C
  dsimp only at C
  exact C.mono fun e w' h => ⟨h.1, h.2.2.2.1.wr⟩
set_option maxRecDepth 100000 in
set_option maxHeartbeats 4000000 in
theorem spenc_ok (A : Option Addr) (c : Nat) (Ls : List (List Pt)) (X Y : List Int) (w : World) (h : OutAt w w.heap.size A Ls) (hs : Sm Ls) (hc : chkE Ls = 0) (hX : stpE (fun p => p.1) Ls.flatten 0 = some X) (hY : stpE (fun p => p.2.1) Ls.flatten 0 = some Y) (hcub : Ls.flatten.any isCub = false) (hne : Ls ≠ []) :
    Calls Try.prog 14 #[.slice A Ls.length c] w (Gave w (spB Ls X Y)) := by
  have C1 := check_any _ A c Ls w (Nat.le_refl _) h hs
  rw [hc] at C1
  have C2 := fun W (hb : Below w.heap.size w W) => concat_any A c Ls W ((h.below hb).more hb.size) hs.1 (by have := (chk_zero hc).2.2; have := (chk_zero hc).2.1; omega)
  obtain ⟨P, hP⟩ : ∃ P, P = Ls.flatten := ⟨_, rfl⟩
  obtain ⟨n, hn⟩ : ∃ n, n = P.length := ⟨_, rfl⟩
  have hbd := fair_bd hc
  rw [← hP] at C2 hX hY hcub hbd
  rw [← hn] at C2
  have hn0 : 0 < n := by rw [hn, hP]; exact flat_pos hc hne
  have hn4 : n ≤ 4096 := by rw [hn, hP, cntO_flat]; exact (chk_zero hc).2.1
  have CX := fun (W : World) (A5 : Option Addr) (c5 : Nat) (l : Lists W W.heap.size A5 (ptCells P)) => steps_any 34 (fun p => p.1) A5 c5 n P W l hn.symm (by omega) (fun p hp => by obtain ⟨⟨a, b⟩, _⟩ := hbd p hp; omega) (enters_of Try.func34 (by kernel_rfl) rfl) (fun p W => placeX_any p.1 p.2.1 p.2.2 W)
  have CY := fun (W : World) (A5 : Option Addr) (c5 : Nat) (l : Lists W W.heap.size A5 (ptCells P)) => steps_any 35 (fun p => p.2.1) A5 c5 n P W l hn.symm (by omega) (fun p hp => by obtain ⟨_, ⟨a, b⟩⟩ := hbd p hp; omega) (enters_of Try.func35 (by kernel_rfl) rfl) (fun p W => placeY_any p.1 p.2.1 p.2.2 W)
  have hXS := stp_bd P 0 X hX
  have hYS := stp_bd P 0 Y hY
  have HXS := Lib.hid hXS
  have HYS := Lib.hid hYS
  clear hXS hYS
  rw [hX] at CX
  rw [hY] at CY
  have CC := fun (W : World) (A5 : Option Addr) (c5 : Nat) (l : Lists W W.heap.size A5 (ptCells P)) => hasCub_any A5 c5 n P W l hn.symm (by omega)
  rw [hcub] at CC
  have CT : ∀ (W : World), Below w.heap.size w W → Calls Try.prog 38 #[.int .i64 90635] W (MadeWS w W 90635) := fun W hb => wsTo w W 90635 hb
  have CH := fun (W : World) (hb : Below w.heap.size w W) => hull_any w.heap.size A c Ls W hb.size (h.below hb) hs hc
  obtain ⟨m, hm⟩ : ∃ m, m = Ls.length := ⟨_, rfl⟩
  have hm1 : 1 ≤ m := by rw [hm]; exact List.length_pos_iff.2 hne
  have hm2 : m ≤ 256 := by rw [hm]; exact (chk_zero hc).1
  rw [← hm] at C1 C2 CH
  have d0 : ((m : Int) == 0) = false := by simp; omega
  have HW := Lib.hid h
  have HM := Lib.hid hm
  have HS := Lib.hid hs
  have HC := Lib.hid hc
  have HX := Lib.hid hX
  have HY := Lib.hid hY
  have HP := Lib.hid hP
  have HN := Lib.hid hn
  obtain ⟨bd0, bd1, bd2, bd3⟩ := boxO_bd hc
  have hsd : sides Ls = [(boxO Ls).x0, (boxO Ls).y0, (boxO Ls).x1, (boxO Ls).y1] := rfl
  generalize (boxO Ls).x0 = q0 at *
  generalize (boxO Ls).y0 = q1 at *
  generalize (boxO Ls).x1 = q2 at *
  generalize (boxO Ls).y1 = q3 at *
  have HSD := Lib.hid hsd
  have HBD := Lib.hid (show ∀ x ∈ sides Ls, Bd x from fun x hx => by rw [hsd] at hx; simp at hx; rcases hx with rfl | rfl | rfl | rfl <;> assumption)
  rw [show Ls.length = m from hm.symm]
  clear h hm hs hc hX hY hP hn hbd hcub hne hsd bd0 bd1 bd2 bd3
  go_enter Try.func14, Try.ntmps14
  go_wp2_with (first
    | (go_at_call 31; ((with_reducible refine (C1).mono ?_); rintro e w1 ⟨rfl, b1⟩))
    | (go_at_call 32; ((with_reducible refine (C2 _ b1).mono ?_); rintro e w2 ⟨v5, rfl, own5, b2⟩; have BB2 := b1.trans (b2.mono b1.size); obtain ⟨A5, c5, rfl, l5, _⟩ := own_lists own5))
    | (go_at_call 33; ((with_reducible refine (CX _ A5 c5 l5).mono ?_); rintro e w3 ⟨⟨v6, rfl, own6, hl6⟩, b3⟩; have BB3 := BB2.trans (b3.mono BB2.size); obtain ⟨A6, c6, rfl, l6, _⟩ := own_lists own6; obtain ⟨g6, S6, rfl, hg6, k6⟩ := own_blkS own6 hn0; have l53 := (l5.below b3).more b3.size))
    | (go_at_call 33; ((with_reducible refine (CY _ A5 c5 l53).mono ?_); rintro e w4 ⟨⟨v8, rfl, own8, hl8⟩, b4⟩; have BB4 := BB3.trans (b4.mono BB3.size); obtain ⟨A8, c8, rfl, l8, _⟩ := own_lists own8; obtain ⟨g8, S8, rfl, hg8, k8⟩ := own_blkS own8 hn0; have l54 := (l53.below b4).more b4.size))
    | (go_at_call 36; ((with_reducible refine (CC _ A5 c5 l54).mono ?_); rintro e w5 ⟨rfl, b5⟩; have BB5 := BB4.trans (b5.mono BB4.size)))
    | (go_at_call 38; ((with_reducible refine (CT _ BB5).mono ?_); rintro e w6 ⟨p, rfl, ws6, b6⟩; have CI6 := wsI16 w w6 p 90635 [] (m : Nat) ws6 (by simp) (by omega)))
    | (go_at_call 39; ((with_reducible refine (CI6).mono ?_); rintro e w7 ⟨rfl, ws7, sf7, sz7⟩; rw [List.nil_append] at ws7; have CH7 := CH _ ws7.old))
    | (go_at_call 40; ((with_reducible refine (CH7).mono ?_); rintro e w8 ⟨rfl, b8⟩)))
  have BA := below_a2 w8 (.cells #[.int .i64 q0, .int .i64 q1, .int .i64 q2, .int .i64 q3] 68) (.cells #[.int .i64 q0, .int .i64 q1, .int .i64 q2, .int .i64 q3] 3)
  have ws9 := (ws7.below b8).below BA
  have SF : Safe w4 ((w8.alloc (.cells #[.int .i64 q0, .int .i64 q1, .int .i64 q2, .int .i64 q3] 68)).alloc (.cells #[.int .i64 q0, .int .i64 q1, .int .i64 q2, .int .i64 q3] 3)) := (((Below.safe (b5.trans (b6.mono b5.size))).then' sf7).then' (Below.safe b8)).then' (Below.safe BA)
  have SZ : w4.heap.size ≤ ((w8.alloc (.cells #[.int .i64 q0, .int .i64 q1, .int .i64 q2, .int .i64 q3] 68)).alloc (.cells #[.int .i64 q0, .int .i64 q1, .int .i64 q2, .int .i64 q3] 3)).heap.size := by have := b5.size; have := b6.size; have := b8.size; have := BA.size; omega
  have K9 : Blk ((w8.alloc (.cells #[.int .i64 q0, .int .i64 q1, .int .i64 q2, .int .i64 q3] 68)).alloc (.cells #[.int .i64 q0, .int .i64 q1, .int .i64 q2, .int .i64 q3] 3)) (w8.heap.size + 1) 3 ((sides Ls).map (Value.int .i64)).toArray := by
    rw [HSD.out]
    have := Blk.new (w8.alloc (.cells #[.int .i64 q0, .int .i64 q1, .int .i64 q2, .int .i64 q3] 68)) 3 #[.int .i64 q0, .int .i64 q1, .int .i64 q2, .int .i64 q3]
    rw [World.size_alloc] at this
    exact this
  have W0 : Hid (WS w ((w8.alloc (.cells #[.int .i64 q0, .int .i64 q1, .int .i64 q2, .int .i64 q3] 68)).alloc (.cells #[.int .i64 q0, .int .i64 q1, .int .i64 q2, .int .i64 q3] 3)) p 90635 (be2 (m : Nat) ++ sidB (sides Ls) 0)) := Lib.hid (by unfold sidB; simpa using ws9)
  generalize ((w8.alloc (.cells #[.int .i64 q0, .int .i64 q1, .int .i64 q2, .int .i64 q3] 68)).alloc (.cells #[.int .i64 q0, .int .i64 q1, .int .i64 q2, .int .i64 q3] 3)) = W9 at *
  have HK9 := Lib.hid K9
  have hsl : (sides Ls).length = 4 := by rw [HSD.out]; rfl
  have HSL := Lib.hid hsl
  have HO5 := Lib.hid (own_safeT own5 ((Below.safe (b3.trans (b4.mono b3.size))).then' SF) (by decide) (by decide) (by decide))
  have HO6 := Lib.hid (own_safeT own6 ((Below.safe b4).then' SF) (by decide) (by decide) (by decide))
  have HO8 := Lib.hid (own_safeT own8 SF (by decide) (by decide) (by decide))
  have HK6 := Lib.hid (SF _ _ _ (by decide) (by decide) (by decide) (k6.below b4))
  have HK8 := Lib.hid (SF _ _ _ (by decide) (by decide) (by decide) k8)
  have HLX := Lib.hid hl6
  have HLY := Lib.hid hl8
  have e68 : g6 < w3.heap.size := k6.lt
  have e84 : g8 < w4.heap.size := k8.lt
  have e34 := b4.size
  have e23 := b3.size
  have e02 := BB2.size
  clear BA ws9 SF K9 hsl own5 own6 own8 l5 l6 l8 l53 l54 k6 k8 hl6 hl8 ws6 ws7 sf7 CI6 CH7 C1 C2 CX CY CC CT CH b5 b6 b8 BB3 BB4 BB5
  go_loopw [14, 65] (fun v14 i wr => ∃ k : Nat, k ≤ 4 ∧ i = .int .i64 (k : Nat) ∧ Hid (WS w wr p 90635 (be2 (m : Nat) ++ sidB (sides Ls) k)) ∧ Safe W9 wr ∧ W9.heap.size ≤ wr.heap.size) (fun _ i _ => 4 - (intOf i).toNat)
  case atStart => exact ⟨0, Nat.zero_le _, rfl, W0, fun _ _ _ _ _ _ h => h, Nat.le_refl _⟩
  case round =>
    clear W0
    obtain ⟨k, hk, rfl, hw, hsf, hsz⟩ := hrel
    by_cases hlt : k < 4
    · have d1 : decide ((k : Int) < 4) = true := by simp; omega
      obtain ⟨x, hx⟩ := at_some (L := sides Ls) (k := k) (by rw [HSL.out]; exact hlt)
      have KA := hsf _ _ _ (by decide) (by decide) (by decide) HK9.out
      have g0 : wr.cell? ⟨w8.heap.size + 1, k, none⟩ = some (.int .i64 x) := by rw [KA.cell k, List.getElem?_toArray, List.getElem?_map, hx]; rfl
      have g1 := KA.lt
      have ew := wrap_q (HBD.out x (List.mem_of_getElem? hx))
      have CU := wsI16 w wr p 90635 _ (x.tdiv 65536) hw.out (by rw [List.length_append, be2_len, sidB_len k (by rw [HSL.out]; exact hk)]; omega) (by omega)
      have HN1 := Lib.hid (sidB_next hx)
      clear hx KA
      go_wp2_with (go_at_call 39; ((with_reducible refine (CU).mono ?_); rintro e w3' ⟨rfl, hw3, hs3, hz3⟩))
      go_roundw
      case rel => exact ⟨k + 1, by omega, by go_num, Lib.hid (by rw [HN1.out, ← List.append_assoc]; exact hw3), hsf.then' hs3, by omega⟩
      case measure => simp [intOf]; omega
    · obtain rfl : k = 4 := by omega
      have d1 : decide (((4 : Nat) : Int) < 4) = false := by simp
      obtain ⟨L1, hL1⟩ : ∃ L1, L1 = be2 (m : Nat) ++ sidB (sides Ls) 4 := ⟨_, rfl⟩
      have l1 : L1.length = 10 := by rw [hL1, List.length_append, be2_len, sidB_len 4 (by rw [HSL.out]; exact Nat.le_refl _)]
      rw [← hL1] at hw
      obtain ⟨L2, hL2⟩ : ∃ L2, L2 = L1 ++ lastsE 0 Ls := ⟨_, rfl⟩
      have l2 : L2.length = 10 + 2 * m := by rw [hL2, List.length_append, lastsE_len, l1, HM.out]
      obtain ⟨L3, hL3⟩ : ∃ L3, L3 = L2 ++ be2 0 := ⟨_, rfl⟩
      have l3 : L3.length = 12 + 2 * m := by rw [hL3, List.length_append, be2_len, l2]; omega
      obtain ⟨F, hF⟩ : ∃ F, F = fgsE P X Y := ⟨_, rfl⟩
      have fl : F.length = n := by rw [hF, fgs_len P X Y (by rw [HLX.out, HN.out]) (by rw [HLY.out, HN.out]), HN.out]
      obtain ⟨L4, hL4⟩ : ∃ L4, L4 = L3 ++ pfE n (F.map (fun (f : Nat) => (f : Int))) := ⟨_, rfl⟩
      have l4 : L4.length ≤ 12 + 2 * m + n := by rw [hL4, List.length_append, l3]; have := pfE_len n (F.map (fun (f : Nat) => (f : Int))); rw [List.length_map, fl] at this; omega
      obtain ⟨L5, hL5⟩ : ∃ L5, L5 = L4 ++ stB 1 4 F X := ⟨_, rfl⟩
      have l5 : L5.length ≤ 12 + 2 * m + n + 2 * n := by rw [hL5, List.length_append]; have := stB_len 1 4 F X; rw [fl] at this; omega
      obtain ⟨L6, hL6⟩ : ∃ L6, L6 = L5 ++ stB 2 5 F Y := ⟨_, rfl⟩
      have l6 : L6.length ≤ 12 + 2 * m + n + 2 * n + 2 * n := by rw [hL6, List.length_append]; have := stB_len 2 5 F Y; rw [fl] at this; omega
      have HE := Lib.hid (show spB Ls X Y = L6 by
        unfold spB
        rw [← HP.out, ← hF, fl, boxB_eq, ← HM.out, ← hL1, ← hL2, ← hL3, ← hL4, ← List.append_assoc, ← hL5, ← hL6])
      have CR1 := carr_w 90635 1 4 F X L4 (by rw [fl, HLX.out]) (by rw [← List.length_append, ← hL5]; omega)
      have CR2 := carr_w 90635 2 5 F Y L5 (by rw [fl, HLY.out]) (by rw [← List.length_append, ← hL6]; omega)
      rw [← hL5] at CR1
      rw [← hL6] at CR2
      have HCR1 := Lib.hid CR1
      have HCR2 := Lib.hid CR2
      have HFF := Lib.hid hF
      have HFL := Lib.hid fl
      have CP := plasts_any w p 90635 L1 A c Ls wr HW.out HS.out hw.out (by rw [l1, ← HM.out]; omega) (by omega)
      rw [← HM.out, ← hL2] at CP
      have CU2 := fun W (h : WS w W p 90635 L2) => wsU16 w W p 90635 L2 0 h (by omega) (by omega)
      have HL3 := Lib.hid hL3
      have CF := fun W (l5 : Lists W W.heap.size A5 (ptCells P)) l6 l8 => flagsOf_any A5 (some ⟨g6, 0, none⟩) (some ⟨g8, 0, none⟩) c5 c6 c8 n P X Y W l5 l6 l8 HN.out.symm HLX.out HLY.out (by omega)
      rw [← hF] at CF
      have CPF := fun (W : World) (A15 : Option Addr) (c15 : Nat) (hl : ∀ V, Safe W V → W.heap.size ≤ V.heap.size → Lists V V.heap.size A15 (intCells (F.map (fun (f : Nat) => (f : Int))))) (hcc : n ≤ c15) (h : WS w W p 90635 L3) => pflags_any w p 90635 L3 A15 c15 (F.map (fun (f : Nat) => (f : Int))) W hl (by rw [List.length_map, HFL.out]; exact hcc) (by rw [List.length_map, HFL.out]; omega) h (by rw [List.length_map, HFL.out]; omega) (by omega)
      rw [List.length_map, fl, ← hL4] at CPF
      have hsr := hsf
      clear hL1 hL2 hL3 hL4 hL5 hL6 hF fl CR1 CR2 hw
      go_wp2_with (first
        | (go_at_call 41; ((with_reducible refine (CP).mono ?_); rintro e wa ⟨rfl, wsa, sfa, sza⟩))
        | (go_at_call 42; ((with_reducible refine (CU2 _ wsa).mono ?_); rintro e wb ⟨rfl, wsb, sfb, szb⟩; rw [← HL3.out] at wsb; have SFb := (hsr.then' sfa).then' sfb; have SZb : w4.heap.size ≤ wb.heap.size := (by omega); have Q5 := (own_at (own_safeT HO5.out SFb (by decide) (by decide) (by decide))).1; have Q6 : Lists wb wb.heap.size (some ⟨g6, 0, none⟩) (intCells X) := (own_at (own_safeT HO6.out SFb (by decide) (by decide) (by decide))).1; have Q8 : Lists wb wb.heap.size (some ⟨g8, 0, none⟩) (intCells Y) := (own_at (own_safeT HO8.out SFb (by decide) (by decide) (by decide))).1))
        | (go_at_call 43; ((with_reducible refine (CF _ Q5 Q6 Q8).mono ?_); rintro e wc ⟨v15, rfl, own15, bc⟩; obtain ⟨A15, c15, rfl, _, hc15⟩ := own_lists own15; have szc := bc.size))
        | (go_at_call 44; ((with_reducible refine (CPF _ A15 c15 (fun V h1 h2 => by rw [ints_cells]; exact (own_at (own_safeT own15 h1 (by decide) (by decide) (by decide))).1) hc15 (wsb.below bc)).mono ?_); rintro e wd ⟨rfl, wsd, sfd, szd⟩; have KK6 := ((SFb.then' (Below.safe bc)).then' sfd) _ _ _ (by decide) (by decide) (by decide) HK6.out; have KK8 := ((SFb.then' (Below.safe bc)).then' sfd) _ _ _ (by decide) (by decide) (by decide) HK8.out; have OO15 := own_safeT own15 sfd (by decide) (by decide) (by decide)))
        | (go_at_call 46; ((with_reducible refine (spinto_any 47 p _).mono ?_); rintro e we ⟨rfl, rfl⟩))
        | (go_at_call 46; ((with_reducible refine (spinto_any 39 p _).mono ?_); rintro e wf ⟨rfl, rfl⟩))
        | (go_at_call 45; ((with_reducible refine (csteps_w w p n c6 c8 c15 g6 g8 wb.heap.size A15 F X Y S6 S8 L4 L5 L6 wd wsd OO15 HFL.out HLX.out HLY.out hn4 (by rw [HFF.out]; exact fgs_lt P X Y) HXS.out HYS.out KK6 KK8 (by omega) (by omega) (by omega) (by omega) (by omega) HCR1.out HCR2.out).mono ?_); rintro e wg ⟨rfl, wsg⟩))
        | (go_at_call 48; ((with_reducible refine (wsDone w wg p 90635 L6 wsg (by omega)).mono ?_); rintro e wh ⟨Ah, ch, rfl, ownh, bh⟩)))
      go_ret2
      rw [HE.out]
      exact ⟨Ah, ch, rfl, ownh, bh⟩
end Go.Proofs.Ytelhckckcilpaaa

namespace Go.Proofs.Ytelhckckcilpaaa
open Go Go.RowKit
set_option linter.unusedVariables false
set_option linter.unusedSimpArgs false

set_option maxRecDepth 100000 in
theorem spenc_chk (A : Option Addr) (c : Nat) (Ls : List (List Pt)) (w : World) (h : OutAt w w.heap.size A Ls) (hs : Sm Ls) (hc : chkE Ls ≠ 0) :
    Calls Try.prog 14 #[.slice A Ls.length c] w fun e w' => e = .returned (.tuple #[.slice none 0 0, .int .i64 (chkE Ls)]) ∧ Below w.heap.size w w' := by
  have C1 := check_any _ A c Ls w (Nat.le_refl _) h hs
  generalize Ls.length = m at *
  generalize chkE Ls = r at *
  have d1 : (r != 0) = true := by simpa using hc
  have d2 : (r == 0) = false := by simpa using hc
  clear h hs hc
  go_enter Try.func14, Try.ntmps14
  go_wp2_with (first
    | (go_at_call 31; ((with_reducible refine (C1).mono ?_); rintro e w1 ⟨rfl, b1⟩)))
  go_ret2
  exact ⟨rfl, b1⟩
set_option maxRecDepth 100000 in
set_option maxHeartbeats 2000000 in
theorem spenc_nn (A : Option Addr) (c : Nat) (Ls : List (List Pt))   (w : World) (h : OutAt w w.heap.size A Ls) (hs : Sm Ls) (hc : chkE Ls = 0) (hX : stpE (fun p => p.1) Ls.flatten 0 = none) (hY : stpE (fun p => p.2.1) Ls.flatten 0 = none)  :
    Calls Try.prog 14 #[.slice A Ls.length c] w fun e w' => e = .returned (.tuple #[.slice none 0 0, .int .i64 1]) ∧ Below w.heap.size w w' := by
  have C1 := check_any _ A c Ls w (Nat.le_refl _) h hs
  rw [hc] at C1
  have C2 := fun W (hb : Below w.heap.size w W) => concat_any A c Ls W ((h.below hb).more hb.size) hs.1 (by have := (chk_zero hc).2.2; have := (chk_zero hc).2.1; omega)
  obtain ⟨P, hP⟩ : ∃ P, P = Ls.flatten := ⟨_, rfl⟩
  obtain ⟨n, hn⟩ : ∃ n, n = P.length := ⟨_, rfl⟩
  have hbd := fair_bd hc
  have hn4 : n ≤ 4096 := by rw [hn, hP, cntO_flat]; exact (chk_zero hc).2.1
  rw [← hP] at C2 hX hY hbd
  rw [← hn] at C2
  have CX := fun (W : World) (A5 : Option Addr) (c5 : Nat) (l : Lists W W.heap.size A5 (ptCells P)) => steps_any 34 (fun p => p.1) A5 c5 n P W l hn.symm (by omega) (fun p hp => by obtain ⟨⟨a, b⟩, _⟩ := hbd p hp; omega) (enters_of Try.func34 (by kernel_rfl) rfl) (fun p W => placeX_any p.1 p.2.1 p.2.2 W)
  have CY := fun (W : World) (A5 : Option Addr) (c5 : Nat) (l : Lists W W.heap.size A5 (ptCells P)) => steps_any 35 (fun p => p.2.1) A5 c5 n P W l hn.symm (by omega) (fun p hp => by obtain ⟨_, ⟨a, b⟩⟩ := hbd p hp; omega) (enters_of Try.func35 (by kernel_rfl) rfl) (fun p W => placeY_any p.1 p.2.1 p.2.2 W)
  rw [hX] at CX
  rw [hY] at CY
  have CC := fun (W : World) (A5 : Option Addr) (c5 : Nat) (l : Lists W W.heap.size A5 (ptCells P)) => hasCub_any A5 c5 n P W l hn.symm (by omega)
  generalize Ls.length = m at *
  clear h hs hc hX hY hP hn hbd
  go_enter Try.func14, Try.ntmps14
  go_wp2_with (first
    | (go_at_call 31; ((with_reducible refine (C1).mono ?_); rintro e w1 ⟨rfl, b1⟩))
    | (go_at_call 32; ((with_reducible refine (C2 _ b1).mono ?_); rintro e w2 ⟨v5, rfl, own5, b2⟩; have BB2 := b1.trans (b2.mono b1.size); obtain ⟨A5, c5, rfl, l5, _⟩ := own_lists own5))
    | (go_at_call 33; ((with_reducible refine (CX _ A5 c5 l5).mono ?_); rintro e w3 ⟨rfl, b3⟩; have BB3 := BB2.trans (b3.mono BB2.size); have l53 := (l5.below b3).more b3.size))
    | (go_at_call 33; ((with_reducible refine (CY _ A5 c5 l53).mono ?_); rintro e w4 ⟨rfl, b4⟩; have BB4 := BB3.trans (b4.mono BB3.size); have l54 := (l53.below b4).more b4.size))
    | (go_at_call 36; ((with_reducible refine (CC _ A5 c5 l54).mono ?_); rintro e w5 ⟨rfl, b5⟩; have BB5 := BB4.trans (b5.mono BB4.size))))
  go_ret2
  exact ⟨rfl, BB4⟩
set_option maxRecDepth 100000 in
set_option maxHeartbeats 2000000 in
theorem spenc_ns (A : Option Addr) (c : Nat) (Ls : List (List Pt))  (Y : List Int) (w : World) (h : OutAt w w.heap.size A Ls) (hs : Sm Ls) (hc : chkE Ls = 0) (hX : stpE (fun p => p.1) Ls.flatten 0 = none) (hY : stpE (fun p => p.2.1) Ls.flatten 0 = some Y)  :
    Calls Try.prog 14 #[.slice A Ls.length c] w fun e w' => e = .returned (.tuple #[.slice none 0 0, .int .i64 1]) ∧ Below w.heap.size w w' := by
  have C1 := check_any _ A c Ls w (Nat.le_refl _) h hs
  rw [hc] at C1
  have C2 := fun W (hb : Below w.heap.size w W) => concat_any A c Ls W ((h.below hb).more hb.size) hs.1 (by have := (chk_zero hc).2.2; have := (chk_zero hc).2.1; omega)
  obtain ⟨P, hP⟩ : ∃ P, P = Ls.flatten := ⟨_, rfl⟩
  obtain ⟨n, hn⟩ : ∃ n, n = P.length := ⟨_, rfl⟩
  have hbd := fair_bd hc
  have hn4 : n ≤ 4096 := by rw [hn, hP, cntO_flat]; exact (chk_zero hc).2.1
  rw [← hP] at C2 hX hY hbd
  rw [← hn] at C2
  have CX := fun (W : World) (A5 : Option Addr) (c5 : Nat) (l : Lists W W.heap.size A5 (ptCells P)) => steps_any 34 (fun p => p.1) A5 c5 n P W l hn.symm (by omega) (fun p hp => by obtain ⟨⟨a, b⟩, _⟩ := hbd p hp; omega) (enters_of Try.func34 (by kernel_rfl) rfl) (fun p W => placeX_any p.1 p.2.1 p.2.2 W)
  have CY := fun (W : World) (A5 : Option Addr) (c5 : Nat) (l : Lists W W.heap.size A5 (ptCells P)) => steps_any 35 (fun p => p.2.1) A5 c5 n P W l hn.symm (by omega) (fun p hp => by obtain ⟨_, ⟨a, b⟩⟩ := hbd p hp; omega) (enters_of Try.func35 (by kernel_rfl) rfl) (fun p W => placeY_any p.1 p.2.1 p.2.2 W)
  rw [hX] at CX
  rw [hY] at CY
  have CC := fun (W : World) (A5 : Option Addr) (c5 : Nat) (l : Lists W W.heap.size A5 (ptCells P)) => hasCub_any A5 c5 n P W l hn.symm (by omega)
  generalize Ls.length = m at *
  clear h hs hc hX hY hP hn hbd
  go_enter Try.func14, Try.ntmps14
  go_wp2_with (first
    | (go_at_call 31; ((with_reducible refine (C1).mono ?_); rintro e w1 ⟨rfl, b1⟩))
    | (go_at_call 32; ((with_reducible refine (C2 _ b1).mono ?_); rintro e w2 ⟨v5, rfl, own5, b2⟩; have BB2 := b1.trans (b2.mono b1.size); obtain ⟨A5, c5, rfl, l5, _⟩ := own_lists own5))
    | (go_at_call 33; ((with_reducible refine (CX _ A5 c5 l5).mono ?_); rintro e w3 ⟨rfl, b3⟩; have BB3 := BB2.trans (b3.mono BB2.size); have l53 := (l5.below b3).more b3.size))
    | (go_at_call 33; ((with_reducible refine (CY _ A5 c5 l53).mono ?_); rintro e w4 ⟨⟨v8, rfl, own8, hl8⟩, b4⟩; obtain ⟨A8, c8, rfl, _, _⟩ := own_lists own8; have BB4 := BB3.trans (b4.mono BB3.size); have l54 := (l53.below b4).more b4.size))
    | (go_at_call 36; ((with_reducible refine (CC _ A5 c5 l54).mono ?_); rintro e w5 ⟨rfl, b5⟩; have BB5 := BB4.trans (b5.mono BB4.size))))
  go_ret2
  exact ⟨rfl, BB4⟩
set_option maxRecDepth 100000 in
set_option maxHeartbeats 2000000 in
theorem spenc_sn (A : Option Addr) (c : Nat) (Ls : List (List Pt)) (X : List Int)  (w : World) (h : OutAt w w.heap.size A Ls) (hs : Sm Ls) (hc : chkE Ls = 0) (hX : stpE (fun p => p.1) Ls.flatten 0 = some X) (hY : stpE (fun p => p.2.1) Ls.flatten 0 = none)  :
    Calls Try.prog 14 #[.slice A Ls.length c] w fun e w' => e = .returned (.tuple #[.slice none 0 0, .int .i64 1]) ∧ Below w.heap.size w w' := by
  have C1 := check_any _ A c Ls w (Nat.le_refl _) h hs
  rw [hc] at C1
  have C2 := fun W (hb : Below w.heap.size w W) => concat_any A c Ls W ((h.below hb).more hb.size) hs.1 (by have := (chk_zero hc).2.2; have := (chk_zero hc).2.1; omega)
  obtain ⟨P, hP⟩ : ∃ P, P = Ls.flatten := ⟨_, rfl⟩
  obtain ⟨n, hn⟩ : ∃ n, n = P.length := ⟨_, rfl⟩
  have hbd := fair_bd hc
  have hn4 : n ≤ 4096 := by rw [hn, hP, cntO_flat]; exact (chk_zero hc).2.1
  rw [← hP] at C2 hX hY hbd
  rw [← hn] at C2
  have CX := fun (W : World) (A5 : Option Addr) (c5 : Nat) (l : Lists W W.heap.size A5 (ptCells P)) => steps_any 34 (fun p => p.1) A5 c5 n P W l hn.symm (by omega) (fun p hp => by obtain ⟨⟨a, b⟩, _⟩ := hbd p hp; omega) (enters_of Try.func34 (by kernel_rfl) rfl) (fun p W => placeX_any p.1 p.2.1 p.2.2 W)
  have CY := fun (W : World) (A5 : Option Addr) (c5 : Nat) (l : Lists W W.heap.size A5 (ptCells P)) => steps_any 35 (fun p => p.2.1) A5 c5 n P W l hn.symm (by omega) (fun p hp => by obtain ⟨_, ⟨a, b⟩⟩ := hbd p hp; omega) (enters_of Try.func35 (by kernel_rfl) rfl) (fun p W => placeY_any p.1 p.2.1 p.2.2 W)
  rw [hX] at CX
  rw [hY] at CY
  have CC := fun (W : World) (A5 : Option Addr) (c5 : Nat) (l : Lists W W.heap.size A5 (ptCells P)) => hasCub_any A5 c5 n P W l hn.symm (by omega)
  generalize Ls.length = m at *
  clear h hs hc hX hY hP hn hbd
  go_enter Try.func14, Try.ntmps14
  go_wp2_with (first
    | (go_at_call 31; ((with_reducible refine (C1).mono ?_); rintro e w1 ⟨rfl, b1⟩))
    | (go_at_call 32; ((with_reducible refine (C2 _ b1).mono ?_); rintro e w2 ⟨v5, rfl, own5, b2⟩; have BB2 := b1.trans (b2.mono b1.size); obtain ⟨A5, c5, rfl, l5, _⟩ := own_lists own5))
    | (go_at_call 33; ((with_reducible refine (CX _ A5 c5 l5).mono ?_); rintro e w3 ⟨⟨v6, rfl, own6, hl6⟩, b3⟩; obtain ⟨A6, c6, rfl, _, _⟩ := own_lists own6; have BB3 := BB2.trans (b3.mono BB2.size); have l53 := (l5.below b3).more b3.size))
    | (go_at_call 33; ((with_reducible refine (CY _ A5 c5 l53).mono ?_); rintro e w4 ⟨rfl, b4⟩; have BB4 := BB3.trans (b4.mono BB3.size); have l54 := (l53.below b4).more b4.size))
    | (go_at_call 36; ((with_reducible refine (CC _ A5 c5 l54).mono ?_); rintro e w5 ⟨rfl, b5⟩; have BB5 := BB4.trans (b5.mono BB4.size))))
  go_ret2
  exact ⟨rfl, BB4⟩
set_option maxRecDepth 100000 in
set_option maxHeartbeats 2000000 in
theorem spenc_cub (A : Option Addr) (c : Nat) (Ls : List (List Pt)) (X : List Int) (Y : List Int) (w : World) (h : OutAt w w.heap.size A Ls) (hs : Sm Ls) (hc : chkE Ls = 0) (hX : stpE (fun p => p.1) Ls.flatten 0 = some X) (hY : stpE (fun p => p.2.1) Ls.flatten 0 = some Y) (hcub : Ls.flatten.any isCub = true) :
    Calls Try.prog 14 #[.slice A Ls.length c] w fun e w' => e = .returned (.tuple #[.slice none 0 0, .int .i64 1]) ∧ Below w.heap.size w w' := by
  have C1 := check_any _ A c Ls w (Nat.le_refl _) h hs
  rw [hc] at C1
  have C2 := fun W (hb : Below w.heap.size w W) => concat_any A c Ls W ((h.below hb).more hb.size) hs.1 (by have := (chk_zero hc).2.2; have := (chk_zero hc).2.1; omega)
  obtain ⟨P, hP⟩ : ∃ P, P = Ls.flatten := ⟨_, rfl⟩
  obtain ⟨n, hn⟩ : ∃ n, n = P.length := ⟨_, rfl⟩
  have hbd := fair_bd hc
  have hn4 : n ≤ 4096 := by rw [hn, hP, cntO_flat]; exact (chk_zero hc).2.1
  rw [← hP] at C2 hX hY hbd
  rw [← hn] at C2
  have CX := fun (W : World) (A5 : Option Addr) (c5 : Nat) (l : Lists W W.heap.size A5 (ptCells P)) => steps_any 34 (fun p => p.1) A5 c5 n P W l hn.symm (by omega) (fun p hp => by obtain ⟨⟨a, b⟩, _⟩ := hbd p hp; omega) (enters_of Try.func34 (by kernel_rfl) rfl) (fun p W => placeX_any p.1 p.2.1 p.2.2 W)
  have CY := fun (W : World) (A5 : Option Addr) (c5 : Nat) (l : Lists W W.heap.size A5 (ptCells P)) => steps_any 35 (fun p => p.2.1) A5 c5 n P W l hn.symm (by omega) (fun p hp => by obtain ⟨_, ⟨a, b⟩⟩ := hbd p hp; omega) (enters_of Try.func35 (by kernel_rfl) rfl) (fun p W => placeY_any p.1 p.2.1 p.2.2 W)
  rw [hX] at CX
  rw [hY] at CY
  have CC := fun (W : World) (A5 : Option Addr) (c5 : Nat) (l : Lists W W.heap.size A5 (ptCells P)) => hasCub_any A5 c5 n P W l hn.symm (by omega)
  rw [← hP] at hcub
  rw [hcub] at CC
  clear hcub
  generalize Ls.length = m at *
  clear h hs hc hX hY hP hn hbd
  go_enter Try.func14, Try.ntmps14
  go_wp2_with (first
    | (go_at_call 31; ((with_reducible refine (C1).mono ?_); rintro e w1 ⟨rfl, b1⟩))
    | (go_at_call 32; ((with_reducible refine (C2 _ b1).mono ?_); rintro e w2 ⟨v5, rfl, own5, b2⟩; have BB2 := b1.trans (b2.mono b1.size); obtain ⟨A5, c5, rfl, l5, _⟩ := own_lists own5))
    | (go_at_call 33; ((with_reducible refine (CX _ A5 c5 l5).mono ?_); rintro e w3 ⟨⟨v6, rfl, own6, hl6⟩, b3⟩; obtain ⟨A6, c6, rfl, _, _⟩ := own_lists own6; have BB3 := BB2.trans (b3.mono BB2.size); have l53 := (l5.below b3).more b3.size))
    | (go_at_call 33; ((with_reducible refine (CY _ A5 c5 l53).mono ?_); rintro e w4 ⟨⟨v8, rfl, own8, hl8⟩, b4⟩; obtain ⟨A8, c8, rfl, _, _⟩ := own_lists own8; have BB4 := BB3.trans (b4.mono BB3.size); have l54 := (l53.below b4).more b4.size))
    | (go_at_call 36; ((with_reducible refine (CC _ A5 c5 l54).mono ?_); rintro e w5 ⟨rfl, b5⟩; have BB5 := BB4.trans (b5.mono BB4.size))))
  go_ret2
  exact ⟨rfl, BB5⟩
set_option maxRecDepth 100000 in
set_option maxHeartbeats 2000000 in
theorem spenc_nil (A : Option Addr) (c : Nat) (Ls : List (List Pt)) (X : List Int) (Y : List Int) (w : World) (h : OutAt w w.heap.size A Ls) (hs : Sm Ls) (hc : chkE Ls = 0) (hX : stpE (fun p => p.1) Ls.flatten 0 = some X) (hY : stpE (fun p => p.2.1) Ls.flatten 0 = some Y) (hcub : Ls.flatten.any isCub = false) (hne : Ls = []) :
    Calls Try.prog 14 #[.slice A Ls.length c] w fun e w' => e = .returned (.tuple #[.slice none 0 0, .int .i64 0]) ∧ Below w.heap.size w w' := by
  have C1 := check_any _ A c Ls w (Nat.le_refl _) h hs
  rw [hc] at C1
  have C2 := fun W (hb : Below w.heap.size w W) => concat_any A c Ls W ((h.below hb).more hb.size) hs.1 (by have := (chk_zero hc).2.2; have := (chk_zero hc).2.1; omega)
  obtain ⟨P, hP⟩ : ∃ P, P = Ls.flatten := ⟨_, rfl⟩
  obtain ⟨n, hn⟩ : ∃ n, n = P.length := ⟨_, rfl⟩
  have hbd := fair_bd hc
  have hn4 : n ≤ 4096 := by rw [hn, hP, cntO_flat]; exact (chk_zero hc).2.1
  rw [← hP] at C2 hX hY hbd
  rw [← hn] at C2
  have CX := fun (W : World) (A5 : Option Addr) (c5 : Nat) (l : Lists W W.heap.size A5 (ptCells P)) => steps_any 34 (fun p => p.1) A5 c5 n P W l hn.symm (by omega) (fun p hp => by obtain ⟨⟨a, b⟩, _⟩ := hbd p hp; omega) (enters_of Try.func34 (by kernel_rfl) rfl) (fun p W => placeX_any p.1 p.2.1 p.2.2 W)
  have CY := fun (W : World) (A5 : Option Addr) (c5 : Nat) (l : Lists W W.heap.size A5 (ptCells P)) => steps_any 35 (fun p => p.2.1) A5 c5 n P W l hn.symm (by omega) (fun p hp => by obtain ⟨_, ⟨a, b⟩⟩ := hbd p hp; omega) (enters_of Try.func35 (by kernel_rfl) rfl) (fun p W => placeY_any p.1 p.2.1 p.2.2 W)
  rw [hX] at CX
  rw [hY] at CY
  have CC := fun (W : World) (A5 : Option Addr) (c5 : Nat) (l : Lists W W.heap.size A5 (ptCells P)) => hasCub_any A5 c5 n P W l hn.symm (by omega)
  rw [← hP] at hcub
  rw [hcub] at CC
  have hm0 : Ls.length = 0 := by rw [hne]; rfl
  rw [hm0] at C1 C2 ⊢
  clear hcub hne hm0
  generalize Ls.length = m at *
  clear h hs hc hX hY hP hn hbd
  go_enter Try.func14, Try.ntmps14
  go_wp2_with (first
    | (go_at_call 31; ((with_reducible refine (C1).mono ?_); rintro e w1 ⟨rfl, b1⟩))
    | (go_at_call 32; ((with_reducible refine (C2 _ b1).mono ?_); rintro e w2 ⟨v5, rfl, own5, b2⟩; have BB2 := b1.trans (b2.mono b1.size); obtain ⟨A5, c5, rfl, l5, _⟩ := own_lists own5))
    | (go_at_call 33; ((with_reducible refine (CX _ A5 c5 l5).mono ?_); rintro e w3 ⟨⟨v6, rfl, own6, hl6⟩, b3⟩; obtain ⟨A6, c6, rfl, _, _⟩ := own_lists own6; have BB3 := BB2.trans (b3.mono BB2.size); have l53 := (l5.below b3).more b3.size))
    | (go_at_call 33; ((with_reducible refine (CY _ A5 c5 l53).mono ?_); rintro e w4 ⟨⟨v8, rfl, own8, hl8⟩, b4⟩; obtain ⟨A8, c8, rfl, _, _⟩ := own_lists own8; have BB4 := BB3.trans (b4.mono BB3.size); have l54 := (l53.below b4).more b4.size))
    | (go_at_call 36; ((with_reducible refine (CC _ A5 c5 l54).mono ?_); rintro e w5 ⟨rfl, b5⟩; have BB5 := BB4.trans (b5.mono BB4.size))))
  go_ret2
  exact ⟨rfl, BB5⟩
/-- What Encode answers. -/
def EncP (w : World) (Ls : List (List Pt)) (e : Ending) (w' : World) : Prop := ∃ A c, e = .returned (.tuple #[.slice A (encS Ls).2.length c, .int .i64 (encS Ls).1]) ∧ w'.ownsRow w.heap.size 5 1 (.slice A (encS Ls).2.length c) (encS Ls).2.length (encS Ls).2 ∧ Below w.heap.size w w'
theorem encP_none {w w' : World} {Ls : List (List Pt)} {e : Ending} {r : Int} (hr : encS Ls = (r, [])) (h : e = .returned (.tuple #[.slice none 0 0, .int .i64 r]) ∧ Below w.heap.size w w') : EncP w Ls e w' := by
  unfold EncP
  rw [hr]
  exact ⟨none, 0, h.1, ⟨rfl, .inl ⟨rfl, rfl⟩⟩, h.2⟩
theorem spenc_any (A : Option Addr) (c : Nat) (Ls : List (List Pt)) (w : World) (h : OutAt w w.heap.size A Ls) (hs : Sm Ls) : Calls Try.prog 14 #[.slice A Ls.length c] w (EncP w Ls) := by
  by_cases hc : chkE Ls = 0
  · cases hX : stpE (fun p => p.1) Ls.flatten 0 with
    | none => cases hY : stpE (fun p => p.2.1) Ls.flatten 0 with
      | none => exact (spenc_nn A c Ls w h hs hc hX hY).mono fun e w' => encP_none (by unfold encS; rw [if_pos hc, hX])
      | some Y => exact (spenc_ns A c Ls Y w h hs hc hX hY).mono fun e w' => encP_none (by unfold encS; rw [if_pos hc, hX])
    | some X => cases hY : stpE (fun p => p.2.1) Ls.flatten 0 with
      | none => exact (spenc_sn A c Ls X w h hs hc hX hY).mono fun e w' => encP_none (by unfold encS; rw [if_pos hc, hX, hY])
      | some Y =>
        cases hcub : Ls.flatten.any isCub
        · by_cases hne : Ls = []
          · exact (spenc_nil A c Ls X Y w h hs hc hX hY hcub hne).mono fun e w' => encP_none (by unfold encS; rw [if_pos hc, hX, hY]; simp only; rw [hcub, if_neg (by simp), if_pos hne])
          · refine (spenc_ok A c Ls X Y w h hs hc hX hY hcub hne).mono fun e w' hg => ?_
            have hr : encS Ls = (0, spB Ls X Y) := by unfold encS; rw [if_pos hc, hX, hY]; simp only; rw [hcub, if_neg (by simp), if_neg hne]
            unfold EncP
            rw [hr]
            exact hg
        · exact (spenc_cub A c Ls X Y w h hs hc hX hY hcub).mono fun e w' => encP_none (by unfold encS; rw [if_pos hc, hX, hY]; simp only; rw [hcub, if_pos rfl])
  · exact (spenc_chk A c Ls w h hs hc).mono fun e w' => encP_none (by unfold encS; rw [if_neg hc])
end Go.Proofs.Ytelhckckcilpaaa

namespace Go.Proofs.Ytelhckckcilpaaa
open Go Go.RowKit
set_option linter.unusedVariables false
set_option linter.unusedSimpArgs false

theorem sat2 {bs A B : List Value} {x : Int} {k : Nat} (h : bs = A ++ (be2 x ++ B)) (hk : k = A.length) : ((rd2 bs k : Nat) : Int) = x % 65536 ∧ k + 2 ≤ bs.length := by
  subst h hk
  refine ⟨?_, by simp [be2]⟩
  rw [rd2_right 0 A.length (by omega)]
  exact rd2_be2 x B
theorem sat1 {bs A B : List Value} {x : Int} {k : Nat} (h : bs = A ++ (be1 x ++ B)) (hk : k = A.length) : ((byteAt bs k : Nat) : Int) = x % 256 ∧ k + 1 ≤ bs.length := by
  subst h hk
  refine ⟨?_, by simp [be1]⟩
  have := byteAt_append_right (a := A) (b := be1 x ++ B) 0
  rw [Nat.add_zero] at this
  rw [this]
  have e : byteAt (be1 x ++ B) 0 = (x % 256).toNat := rfl
  rw [e]; omega
theorem ub2_at {bs A B : List Value} {x : Int} {k : Nat} (h : bs = A ++ (be2 x ++ B)) (hk : k = A.length) (h0 : 0 ≤ x) (h1 : x ≤ 65535) : (ub2 bs k : Int) = x := by
  obtain ⟨a, b⟩ := sat2 h hk
  unfold ub2 rsn
  rw [if_pos b, a]; omega
theorem ib2_at {bs A B : List Value} {x : Int} {k : Nat} (h : bs = A ++ (be2 x ++ B)) (hk : k = A.length) (h0 : -32768 ≤ x) (h1 : x ≤ 32767) : ib2 bs k = x := by
  obtain ⟨a, b⟩ := sat2 h hk
  unfold ib2 ub2 rsn
  rw [if_pos b]
  exact s16_of _ x a h0 h1
theorem ub1_at {bs A B : List Value} {x : Int} {k : Nat} (h : bs = A ++ (be1 x ++ B)) (hk : k = A.length) (h0 : 0 ≤ x) (h1 : x ≤ 255) : (ub1 bs k : Int) = x := by
  obtain ⟨a, b⟩ := sat1 h hk
  unfold ub1 rsn
  rw [if_pos b, a]; omega
/-- The place of each contour's last point. -/
def endsOf : Nat → List (List Pt) → List Nat
  | _, [] => []
  | s, L :: Ls => (s + L.length - 1) :: endsOf (s + L.length) Ls
theorem ends_len : ∀ (Ls : List (List Pt)) (s : Nat), (endsOf s Ls).length = Ls.length
  | [], _ => rfl
  | L :: Ls, s => by simp [endsOf, ends_len Ls]
theorem las_back (bs : List Value) : ∀ (Ls : List (List Pt)) (s k : Nat) (A B : List Value) (acc : List Nat), bs = A ++ (lastsE s Ls ++ B) → k = A.length → (∀ L ∈ Ls, 0 < L.length) → s + cntO Ls ≤ 4096 → cntL acc = s → lasC bs Ls.length k acc = (acc ++ endsOf s Ls, 0)
  | [], s, k, A, B, acc, h, hk, hL, hs, hc => by simp [lasC, endsOf]
  | L :: Ls, s, k, A, B, acc, h, hk, hL, hs, hc => by
    have hl := hL L (by simp)
    have hcn : cntO (L :: Ls) = L.length + cntO Ls := by simp [cntO]
    rw [hcn] at hs
    rw [lastsE] at h
    have hx : ub2 bs k = s + L.length - 1 := by
      have := ub2_at (bs := bs) (A := A) (k := k) (B := lastsE (s + L.length) Ls ++ B) (x := ((s + L.length : Nat) : Int) - 1) (by simpa only [List.append_assoc] using h) hk (by omega) (by omega)
      omega
    rw [List.length_cons, lasC, hx, if_neg (by omega), if_neg (by omega), las_back bs Ls (s + L.length) (k + 2) (A ++ be2 (((s + L.length : Nat) : Int) - 1)) B _ (by simpa only [List.append_assoc] using h) (by rw [List.length_append, be2_len, hk]) (fun M hM => hL M (by simp [hM])) (by omega) (by rw [cntL_snoc]; omega), endsOf]
    simp
theorem con_back : ∀ (Ls : List (List Pt)) (pre : List Pt), (∀ L ∈ Ls, 0 < L.length) → conC (pre ++ Ls.flatten) (endsOf pre.length Ls) pre.length = Ls
  | [], pre, _ => rfl
  | L :: Ls, pre, h => by
    have hl := h L (by simp)
    rw [endsOf, conC, List.flatten_cons, List.drop_left, show pre.length + L.length - 1 + 1 - pre.length = L.length by omega, List.take_left, show pre.length + L.length - 1 + 1 = (pre ++ L).length by rw [List.length_append]; omega]
    have := con_back Ls (pre ++ L) (fun M hM => h M (by simp [hM]))
    rw [List.length_append] at this
    rw [List.length_append, ← List.append_assoc, this]
theorem cnt_ends : ∀ (Ls : List (List Pt)) (s : Nat), (∀ L ∈ Ls, 0 < L.length) → Ls ≠ [] → cntL (endsOf s Ls) = s + cntO Ls
  | [], s, _, h => absurd rfl h
  | [L], s, h, _ => by
    have hl := h L (by simp)
    simp [endsOf, cntL, cntO]; omega
  | L :: M :: Ls, s, h, _ => by
    have ih := cnt_ends (M :: Ls) (s + L.length) (fun N hN => h N (by simp [hN])) (by simp)
    have e : cntL (endsOf s (L :: M :: Ls)) = cntL (endsOf (s + L.length) (M :: Ls)) := by
      rw [endsOf, endsOf]
      simp [cntL]
    rw [e, ih]
    simp [cntO]; omega
/-- Two flags say the same, but for how often they follow. -/
def fEq (f g : Nat) : Prop := bt f 0 = bt g 0 ∧ bt f 1 = bt g 1 ∧ bt f 2 = bt g 2 ∧ bt f 4 = bt g 4 ∧ bt f 5 = bt g 5
def FEq : List Nat → List Nat → Prop
  | [], [] => True
  | f :: F, g :: G => fEq f g ∧ FEq F G
  | _, _ => False
theorem fEq_refl (f : Nat) : fEq f f := ⟨rfl, rfl, rfl, rfl, rfl⟩
theorem FEq_len : ∀ {F G : List Nat}, FEq F G → F.length = G.length
  | [], [], _ => rfl
  | f :: F, g :: G, h => by simp [FEq_len h.2]
  | [], _ :: _, h => h.elim
  | _ :: _, [], h => h.elim
theorem FEq_app : ∀ {F G F2 G2 : List Nat}, FEq F G → FEq F2 G2 → FEq (F ++ F2) (G ++ G2)
  | [], [], _, _, _, h => h
  | f :: F, g :: G, _, _, h, k => ⟨h.1, FEq_app h.2 k⟩
  | [], _ :: _, _, _, h, _ => h.elim
  | _ :: _, [], _, _, h, _ => h.elim
theorem FEq_rep {f g : Nat} (h : fEq f g) : ∀ n, FEq (List.replicate n f) (List.replicate n g)
  | 0 => trivial
  | n + 1 => ⟨h, FEq_rep h n⟩
theorem carr_feq {σ : Type} (f1 f2 : σ → Int → Int × σ) (j1 j2 : Nat) (hj : ∀ f g, fEq f g → bt f j1 = bt g j1 ∧ bt f j2 = bt g j2) : ∀ (F G : List Nat) (X : List Int) (s : σ), FEq F G → carr f1 f2 j1 j2 F X s = carr f1 f2 j1 j2 G X s
  | [], [], X, s, _ => rfl
  | f :: F, g :: G, [], s, h => rfl
  | f :: F, g :: G, x :: X, s, h => by
    obtain ⟨h1, h2⟩ := hj f g h.1
    have e : stepC f1 f2 j1 j2 f x s = stepC f1 f2 j1 j2 g x s := by unfold stepC; rw [h1, h2]
    rw [carr, carr, e, carr_feq f1 f2 j1 j2 hj F G X _ h.2]
  | [], _ :: _, _, _, h => h.elim
  | _ :: _, [], _, _, h => h.elim
theorem pts_feq : ∀ (F G : List Nat) (X Y : List Int) (x y : Int), FEq F G → ptsC F X Y x y = ptsC G X Y x y
  | [], [], X, Y, x, y, _ => rfl
  | f :: F, g :: G, a :: X, b :: Y, x, y, h => by
    have e : knd f = knd g := by unfold knd; rw [h.1.1]
    rw [ptsC, ptsC, e, pts_feq F G X Y _ _ h.2]
  | f :: F, g :: G, [], Y, x, y, h => by simp [ptsC]
  | f :: F, g :: G, a :: X, [], x, y, h => by simp [ptsC]
  | [], _ :: _, _, _, _, _, h => h.elim
  | _ :: _, [], _, _, _, _, h => h.elim
theorem run_same {f : Int} : ∀ (F : List Int) (r : Nat), r ≤ (if F.any (fun x => x != f) then (idxP (fun x => x != f) F).toNat else F.length) → F.take r = List.replicate r f
  | [], r, h => by simp at h; subst h; rfl
  | x :: F, 0, h => rfl
  | x :: F, r + 1, h => by
    by_cases hx : x = f
    · subst hx
      rw [List.take_succ_cons, List.replicate_succ]
      congr 1
      refine run_same F r ?_
      rw [List.any_cons, show (x != x) = false by simp, Bool.false_or] at h
      split
      · rename_i ha
        rw [if_pos ha] at h
        unfold idxP at h
        rw [show (x != x) = false by simp, if_neg (by simp)] at h
        split at h
        · simp at h
        · omega
      · rename_i ha
        rw [if_neg ha, List.length_cons] at h
        omega
    · have hx2 : (x != f) = true := by simpa using hx
      rw [List.any_cons, hx2, Bool.true_or, if_pos rfl] at h
      unfold idxP at h
      rw [hx2, if_pos rfl] at h
      simp at h
theorem map_cast_inj : ∀ (a b : List Nat), a.map (fun (f : Nat) => (f : Int)) = b.map (fun (f : Nat) => (f : Int)) → a = b
  | [], [], _ => rfl
  | x :: a, y :: b, h => by
    simp only [List.map_cons, List.cons.injEq] at h
    rw [map_cast_inj a b h.2]
    congr 1
    omega
  | [], _ :: _, h => by simp at h
  | _ :: _, [], h => by simp at h
theorem runL_same (f : Int) (F : List Int) : (f :: F).take (runL f (f :: F)) = List.replicate (runL f (f :: F)) f := run_same (f :: F) _ (by unfold runL; exact Nat.min_le_left _ _)
theorem runL_le (f : Int) (F : List Int) : runL f F ≤ 256 := Nat.min_le_right _ _
def iF (F : List Nat) : List Int := F.map (fun (f : Nat) => (f : Int))
set_option maxRecDepth 100000 in
theorem or8 : ∀ f : Nat, f < 256 → bt f 3 = false → bits .or .i64 (f : Int) 8 = ((f + 8 : Nat) : Int) ∧ bt (f + 8) 3 = true ∧ fEq (f + 8) f ∧ f + 8 < 256 := by
  have key : ∀ f : Fin 256, bt f.1 3 = false → bits .or .i64 (f.1 : Int) 8 = ((f.1 + 8 : Nat) : Int) ∧ bt (f.1 + 8) 3 = true ∧ (bt (f.1 + 8) 0 = bt f.1 0 ∧ bt (f.1 + 8) 1 = bt f.1 1 ∧ bt (f.1 + 8) 2 = bt f.1 2 ∧ bt (f.1 + 8) 4 = bt f.1 4 ∧ bt (f.1 + 8) 5 = bt f.1 5) ∧ f.1 + 8 < 256 := by decide
  exact fun f hf h3 => key ⟨f, hf⟩ h3
theorem flg_back (bs : List Value) (n : Nat) : ∀ (m : Nat) (G : List Nat) (k j : Nat) (A B : List Value) (acc : List Nat), bs = A ++ (pfE m (iF G) ++ B) → k = A.length → G.length ≤ m → (∀ f ∈ G, f < 256 ∧ bt f 3 = false) → acc.length + G.length = n → G.length ≤ j →
    ∃ F, flgC bs n j k acc = (acc ++ F, A.length + (pfE m (iF G)).length) ∧ FEq F G
  | m, [], k, j, A, B, acc, h, hk, hm, hf, hn, hj => by
    refine ⟨[], ?_, trivial⟩
    rw [flgC_done (by simpa using Nat.le_of_eq hn.symm)]
    cases m <;> simp [pfE, iF, hk]
  | 0, f :: G, k, j, A, B, acc, h, hk, hm, hf, hn, hj => by simp at hm
  | m + 1, f :: G, k, 0, A, B, acc, h, hk, hm, hf, hn, hj => by simp at hj
  | m + 1, f :: G, k, j + 1, A, B, acc, h, hk, hm, hf, hn, hj => by
    obtain ⟨hf1, hf3⟩ := hf f (by simp)
    have hif : iF (f :: G) = (f : Int) :: iF G := rfl
    obtain ⟨r1, r2⟩ := runL_pos (f : Int) (iF G)
    have r3 := runL_le (f : Int) ((f : Int) :: iF G)
    have hsm := runL_same (f : Int) (iF G)
    obtain ⟨r, hr⟩ : ∃ r, r = runL (f : Int) ((f : Int) :: iF G) := ⟨_, rfl⟩
    rw [hif, pfE] at h
    rw [hif, pfE]
    rw [← hr] at h r1 r2 r3 hsm ⊢
    have hlen : ((f : Int) :: iF G).length = G.length + 1 := by simp [iF]
    rw [hlen] at r2
    have hG : (f :: G).take r = List.replicate r f := by
      have e : ((f : Int) :: iF G).take r = ((f :: G).take r).map (fun (f : Nat) => (f : Int)) := by rw [List.map_take]; rfl
      rw [e, ← List.map_replicate (f := fun (f : Nat) => (f : Int))] at hsm
      exact map_cast_inj _ _ hsm
    have hsplit : f :: G = List.replicate r f ++ (f :: G).drop r := by rw [← hG, List.take_append_drop]
    have hdr : ((f : Int) :: iF G).drop r = iF ((f :: G).drop r) := by unfold iF; rw [List.map_drop]; rfl
    rw [hdr] at h ⊢
    have hacc : ¬ n ≤ acc.length := by rw [List.length_cons] at hn; omega
    have hdl : ((f :: G).drop r).length = G.length + 1 - r := by simp
    by_cases h1 : r = 1
    · rw [if_pos h1] at h ⊢
      have hu : ub1 bs k = f := by
        have := ub1_at (bs := bs) (A := A) (k := k) (B := pfE m (iF ((f :: G).drop r)) ++ B) (x := (f : Int)) (by simpa only [List.append_assoc] using h) hk (by omega) (by omega)
        omega
      obtain ⟨F, hF, hE⟩ := flg_back bs n m ((f :: G).drop r) (k + 1) j (A ++ be1 f) B (acc ++ [f]) (by simpa only [List.append_assoc] using h) (by rw [List.length_append, be1_len, hk]) (by rw [hdl]; simp at hm; omega) (fun g hg => hf g (List.mem_of_mem_drop hg)) (by rw [hdl]; simp at hn ⊢; omega) (by rw [hdl]; simp at hj; omega)
      refine ⟨f :: F, ?_, ?_⟩
      · rw [flgC_one hacc (by rw [hu]; exact hf3), hu, hF]
        simp [be1_len]; omega
      · rw [hsplit, h1]
        exact ⟨fEq_refl f, by rw [h1] at hE; exact hE⟩
    · rw [if_neg h1] at h ⊢
      obtain ⟨o1, o2, o3, o4⟩ := or8 f hf1 hf3
      rw [o1] at h ⊢
      have hu : ub1 bs k = f + 8 := by
        have := ub1_at (bs := bs) (A := A) (k := k) (B := be1 ((r : Nat) - 1 : Int) ++ (pfE m (iF ((f :: G).drop r)) ++ B)) (x := ((f + 8 : Nat) : Int)) (by simpa only [List.append_assoc] using h) hk (by omega) (by omega)
        omega
      have hv : ub1 bs (k + 1) = r - 1 := by
        have := ub1_at (bs := bs) (A := A ++ be1 ((f + 8 : Nat) : Int)) (k := k + 1) (B := pfE m (iF ((f :: G).drop r)) ++ B) (x := ((r : Nat) - 1 : Int)) (by simpa only [List.append_assoc] using h) (by rw [List.length_append, be1_len, hk]) (by omega) (by omega)
        omega
      obtain ⟨F, hF, hE⟩ := flg_back bs n m ((f :: G).drop r) (k + 2) j (A ++ be1 ((f + 8 : Nat) : Int) ++ be1 ((r : Nat) - 1 : Int)) B (acc ++ List.replicate r (f + 8)) (by simpa only [List.append_assoc] using h) (by rw [List.length_append, List.length_append, be1_len, be1_len, hk]) (by rw [hdl]; simp at hm; omega) (fun g hg => hf g (List.mem_of_mem_drop hg)) (by rw [hdl]; simp at hn ⊢; omega) (by rw [hdl]; simp at hj; omega)
      refine ⟨List.replicate r (f + 8) ++ F, ?_, ?_⟩
      · rw [flgC_more hacc (by rw [hu]; exact o2), hu, hv, show 1 + (r - 1) = r by omega, hF]
        simp [be1_len]; omega
      · rw [hsplit]
        exact FEq_app (FEq_rep o3 r) hE
end Go.Proofs.Ytelhckckcilpaaa
