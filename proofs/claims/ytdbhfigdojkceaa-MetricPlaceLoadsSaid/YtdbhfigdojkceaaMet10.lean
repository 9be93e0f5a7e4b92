/- The table of places, put. -/
import Derived.Test.YtdbhfigdojkceaaMet5
namespace Go.Proofs.Ytdbhfigdojkceaa
open Go Go.RowKit

theorem pput_len (A : Option Addr) (n c : Nat) (long : Bool) (w : World) (h1 : inB 1 65535 ((n : Int) - 1) = false) (hn : n ≤ 9223372036854775807) : Calls Try.prog 15 #[.slice A n c, .bool long] w (Refused w 1) := by
  have C1 := fun W T k hk => within_new 1 65535 ((n : Int) - 1) false h1 W T k hk
  clear h1
  go_enter Try.func15, Try.ntmps15
  go_wp2_with (first | (go_at_call 40; ((with_reducible refine (C1 _ _ _ (by simp)).mono ?_); rintro e w1 ⟨rfl, b1⟩)))
  go_ret2
  exact ⟨rfl, b1⟩
theorem pput_fall (B : Nat) (A : Option Addr) (c : Nat) (L : List Int) (w : World) (hB : B ≤ w.heap.size) (hL : Lists w B A (intCells L)) (long : Bool) (h1 : inB 1 65535 ((L.length : Int) - 1) = true) (h2 : rises 1048576 0 L = false) : Calls Try.prog 15 #[.slice A L.length c, .bool long] w (Refused w 1) := by
  have hlen := inB_true h1
  have C1 := fun W T k hk => within_new 1 65535 ((L.length : Int) - 1) true h1 W T k hk
  have C2 := fun W (hb : Below w.heap.size w W) => mayLie_any 1048576 B A c L W (hL.below (hb.mono hB)) (by omega)
  rw [h2] at C2
  clear h1 h2 hL
  generalize L.length = n at *
  go_enter Try.func15, Try.ntmps15
  go_wp2_with (first | (go_at_call 40; ((with_reducible refine (C1 _ _ _ (by simp)).mono ?_); rintro e w1 ⟨rfl, b1⟩)) | (go_at_call 41; ((with_reducible refine (C2 _ b1).mono ?_); rintro e w' ⟨rfl, rfl⟩)))
  go_ret2
  exact ⟨rfl, b1⟩
theorem pput_odd (B : Nat) (A : Option Addr) (c : Nat) (L : List Int) (w : World) (hB : B ≤ w.heap.size) (hL : Lists w B A (intCells L)) (h1 : inB 1 65535 ((L.length : Int) - 1) = true) (h2 : rises 1048576 0 L = true) (h3 : (L.any fun x => !okOff false x) = true) : Calls Try.prog 15 #[.slice A L.length c, .bool false] w (Refused w 1) := by
  have hlen := inB_true h1
  have C1 := fun W T k hk => within_new 1 65535 ((L.length : Int) - 1) true h1 W T k hk
  have C2 := fun W (hb : Below w.heap.size w W) => mayLie_any 1048576 B A c L W (hL.below (hb.mono hB)) (by omega)
  have C3 := fun W (hb : Below w.heap.size w W) => hasInt_any 42 #[] (fun x => !okOff false x) B A c L W (Nat.le_trans hB hb.size) (hL.below (hb.mono hB)) (by omega) (enters_of Try.func42 (by kernel_rfl) rfl) (fun W1 x hx _ => unfit_any x (rises_ge 1048576 L 0 h2 x hx).1 W1)
  rw [h2] at C2
  rw [h3] at C3
  clear h1 h2 h3 hL
  generalize L.length = n at *
  go_enter Try.func15, Try.ntmps15
  go_wp2_with (first | (go_at_call 40; ((with_reducible refine (C1 _ _ _ (by simp)).mono ?_); rintro e w1 ⟨rfl, b1⟩)) | (go_at_call 41; ((with_reducible refine (C2 _ b1).mono ?_); rintro e w' ⟨rfl, rfl⟩)) | (go_at_call 43; ((with_reducible refine (C3 _ b1).mono ?_); rintro e w2 ⟨rfl, b2⟩)))
  go_ret2
  exact ⟨rfl, b1.trans (b2.mono b1.size)⟩

theorem writing_true (p : Nat) (w : World) : Calls Try.prog 45 #[.pointer (some ⟨p, 0, none⟩), .bool true] w fun e w' => e = .returned (.func (.func 55) #[.pointer (some ⟨p, 0, none⟩)] #[]) ∧ Below w.heap.size w w' := by
  go_enter Try.func45, Try.ntmps45
  go_wp2
  go_ret
  exact ⟨rfl, (Below.refl _ _).alloc (Nat.le_refl _) _⟩
def MadeHalf (w : World) (p : Nat) (e : Ending) (w' : World) : Prop := ∃ k, e = .returned (.func (.func 56) #[] #[.pointer (some ⟨k, 0, none⟩)]) ∧ Blk w' k 61 #[.pointer (some ⟨p, 0, none⟩)] ∧ Below w.heap.size w w'
theorem writing_false (p : Nat) (w : World) : Calls Try.prog 45 #[.pointer (some ⟨p, 0, none⟩), .bool false] w (MadeHalf w p) := by
  go_enter Try.func45, Try.ntmps45
  go_wp2
  go_ret
  exact ⟨w.heap.size, rfl, Blk.new w _ _, (Below.refl _ _).alloc (Nat.le_refl _) _⟩
theorem half_any (w0 w : World) (p k R : Nat) (L : List Value) (x : Int) (hx0 : 0 ≤ x) (hx9 : x ≤ 1048576) (h : WS w0 w p R L) (hk : Blk w k 61 #[.pointer (some ⟨p, 0, none⟩)]) (hx : L.length + 2 ≤ R) (hR : R ≤ 1099511627776) :
    Calls Try.prog 56 #[.int .i64 x, .pointer (some ⟨k, 0, none⟩)] w (Wrote w0 w p R L (be2 (x / 2))) := by
  have C := wsU16 w0 w p R L (x / 2) h hx hR
  have F := hk.kb; simp only [KB, CellsAt, and_true] at F
  clear h hk hx hR
  go_enter Try.func56, Try.ntmps56
  go_wp2_with (first | (go_at_call 31; ((with_reducible refine C.mono ?_); rintro e w1 ⟨rfl, h1, h2, h3⟩)))
  go_ret
  exact ⟨rfl, h1, h2, h3⟩

set_option maxRecDepth 100000 in
set_option maxHeartbeats 1000000 in
theorem pput_true (B : Nat) (A : Option Addr) (c : Nat) (L : List Int) (w : World) (hB : B ≤ w.heap.size) (hL : Lists w B A (intCells L)) (h1 : inB 1 65535 ((L.length : Int) - 1) = true) (h2 : rises 1048576 0 L = true) :
    Calls Try.prog 15 #[.slice A L.length c, .bool true] w (Gave w (putP true L)) := by
  have hlen := inB_true h1
  have C1 := fun W T k hk => within_new 1 65535 ((L.length : Int) - 1) true h1 W T k hk
  have C2 := fun W (hb : Below w.heap.size w W) => mayLie_any 1048576 B A c L W (hL.below (hb.mono hB)) (by omega)
  have hge := rises_ge 1048576 L 0 h2
  rw [h2] at C2
  
  have C4 := fun w => placesLen_any L.length true (by omega) w
  obtain ⟨R, hRR⟩ : ∃ R, R = L.length * szP true := ⟨_, rfl⟩
  have hR2 : R ≤ 262144 := by rw [hRR]; simp [szP]; omega
  rw [← hRR] at C4
  have HR := Lib.hid hRR
  obtain ⟨x0, hx0⟩ : ∃ x, L[0]? = some x := ⟨L[0]'(by omega), List.getElem?_eq_getElem _⟩
  obtain ⟨b, o, rfl, hbl, hcl⟩ := hL.plain (by intro e; have := intCells_len L; rw [e] at this; simp at this; omega)
  have HF : ∀ W, Below w.heap.size w W → ∀ k x, L[k]? = some x → W.cell? ⟨b, o + k, none⟩ = some (.int .i64 x) := fun W hb k x hk => by
    refine (hb.cell (p := ⟨b, o + k, none⟩) (Nat.lt_of_lt_of_le hbl hB)).trans (hcl _ _ ?_)
    unfold intCells; rw [List.getElem?_map, hk]; rfl
  have HG := Lib.hid hge
  clear h1 h2 hcl hL hx0 hge hRR
  obtain ⟨n, hnn⟩ : ∃ n, n = L.length := ⟨_, rfl⟩
  rw [← hnn] at C1 C2 C4 hlen ⊢
  have HN := Lib.hid hnn
  clear hnn
  go_enter Try.func15, Try.ntmps15
  go_wp2_with (first | (go_at_call 40; ((with_reducible refine (C1 _ _ _ (by simp)).mono ?_); rintro e w1 ⟨rfl, b1⟩)) | (go_at_call 41; ((with_reducible refine (C2 _ b1).mono ?_); rintro e w' ⟨rfl, rfl⟩)) | (go_at_call 44; ((with_reducible refine (C4 _).mono ?_); rintro e w' ⟨rfl, rfl⟩)) | (go_at_call 29; ((with_reducible refine (wsTo w _ R b1).mono ?_); rintro e w4 ⟨pw, rfl, hws, b4⟩)) | (go_at_call 45; ((with_reducible refine (writing_true pw _).mono ?_); rintro e w5 ⟨rfl, b5⟩)))
  clear C1 C2 C4 b1 b4
  go_loopw [39] (fun i wr => ∃ j : Nat, j ≤ n ∧ i = .int .i64 j ∧ WS w wr pw R (putP true (L.take j))) (fun i _ => n - (intOf i).toNat)
  case atStart => exact ⟨0, Nat.zero_le _, rfl, hws.below b5⟩
  case round =>
    obtain ⟨j, hj, rfl, hw⟩ := hrel
    clear hws b5
    by_cases hlt : j < n
    · have e1 : decide ((j : Int) < (n : Int)) = true := by simp; omega
      obtain ⟨x, hx1⟩ : ∃ x, L[j]? = some x := ⟨L[j]'(by rw [← HN.out]; exact hlt), List.getElem?_eq_getElem _⟩
      have f0 := HF _ hw.old j x hx1
      have hx := HG.out x (List.mem_of_getElem? hx1)
      have hlen2 : (putP true (L.take j)).length = j * szP true := by rw [putP_len, List.length_take]; congr 1; have := HN.out; omega
      have hroom : j * szP true + szP true ≤ R := by
        rw [HR.out, ← Nat.succ_mul]
        exact Nat.mul_le_mul_right _ (by have := HN.out; omega)
      simp only [szP, if_true] at hroom hlen2
      have HS := Lib.hid (show putP true (L.take (j + 1)) = putP true (L.take j) ++ beP true x by rw [take_snoc0 hx1, putP_snoc])
      clear hx1
      go_wp2_with (first | (go_at_call 55; ((with_reducible refine (wsU32 w _ pw R _ x hw (by omega) (by omega)).mono ?_); rintro e w6 ⟨rfl, h6, safe6, hz6⟩)))
      go_roundw
      case rel => exact ⟨j + 1, by omega, by go_num, by rw [HS.out]; exact h6⟩
      case measure => simp [intOf]; omega
    · have e1 : decide ((j : Int) < (n : Int)) = false := by simp; omega
      rw [List.take_of_length_le (by have := HN.out; omega)] at hw
      go_wp2_with (first | (go_at_call 33; ((with_reducible refine (wsDone w _ pw R _ hw (by omega)).mono ?_); rintro e w7 ⟨A7, c7, rfl, h7, b7⟩)))
      go_ret2
      exact ⟨A7, c7, rfl, h7, b7⟩

set_option maxRecDepth 100000 in
set_option maxHeartbeats 1000000 in
theorem pput_false (B : Nat) (A : Option Addr) (c : Nat) (L : List Int) (w : World) (hB : B ≤ w.heap.size) (hL : Lists w B A (intCells L)) (h1 : inB 1 65535 ((L.length : Int) - 1) = true) (h2 : rises 1048576 0 L = true) (h3 : (L.any fun x => !okOff false x) = false) :
    Calls Try.prog 15 #[.slice A L.length c, .bool false] w (Gave w (putP false L)) := by
  have hlen := inB_true h1
  have C1 := fun W T k hk => within_new 1 65535 ((L.length : Int) - 1) true h1 W T k hk
  have C2 := fun W (hb : Below w.heap.size w W) => mayLie_any 1048576 B A c L W (hL.below (hb.mono hB)) (by omega)
  have C3 := fun W (hb : Below w.heap.size w W) => hasInt_any 42 #[] (fun x => !okOff false x) B A c L W (Nat.le_trans hB hb.size) (hL.below (hb.mono hB)) (by omega) (enters_of Try.func42 (by kernel_rfl) rfl) (fun W1 x hx _ => unfit_any x (rises_ge 1048576 L 0 h2 x hx).1 W1)
  have hge := rises_ge 1048576 L 0 h2
  rw [h2] at C2
  rw [h3] at C3
  have C4 := fun w => placesLen_any L.length false (by omega) w
  obtain ⟨R, hRR⟩ : ∃ R, R = L.length * szP false := ⟨_, rfl⟩
  have hR2 : R ≤ 262144 := by rw [hRR]; simp [szP]; omega
  rw [← hRR] at C4
  have HR := Lib.hid hRR
  obtain ⟨x0, hx0⟩ : ∃ x, L[0]? = some x := ⟨L[0]'(by omega), List.getElem?_eq_getElem _⟩
  obtain ⟨b, o, rfl, hbl, hcl⟩ := hL.plain (by intro e; have := intCells_len L; rw [e] at this; simp at this; omega)
  have HF : ∀ W, Below w.heap.size w W → ∀ k x, L[k]? = some x → W.cell? ⟨b, o + k, none⟩ = some (.int .i64 x) := fun W hb k x hk => by
    refine (hb.cell (p := ⟨b, o + k, none⟩) (Nat.lt_of_lt_of_le hbl hB)).trans (hcl _ _ ?_)
    unfold intCells; rw [List.getElem?_map, hk]; rfl
  have HG := Lib.hid hge
  clear h1 h2 hcl hL hx0 hge hRR h3
  obtain ⟨n, hnn⟩ : ∃ n, n = L.length := ⟨_, rfl⟩
  rw [← hnn] at C1 C2 C4 hlen C3 ⊢
  have HN := Lib.hid hnn
  clear hnn
  go_enter Try.func15, Try.ntmps15
  go_wp2_with (first | (go_at_call 40; ((with_reducible refine (C1 _ _ _ (by simp)).mono ?_); rintro e w1 ⟨rfl, b1⟩)) | (go_at_call 41; ((with_reducible refine (C2 _ b1).mono ?_); rintro e w' ⟨rfl, rfl⟩)) | (go_at_call 43; ((with_reducible refine (C3 _ b1).mono ?_); rintro e w2 ⟨rfl, b2⟩)) | (go_at_call 44; ((with_reducible refine (C4 _).mono ?_); rintro e w' ⟨rfl, rfl⟩)) | (go_at_call 29; ((with_reducible refine (wsTo w _ R (b1.trans (b2.mono b1.size))).mono ?_); rintro e w4 ⟨pw, rfl, hws, b4⟩)) | (go_at_call 45; ((with_reducible refine (writing_false pw _).mono ?_); rintro e w5 ⟨kk, rfl, hk5, b5⟩)))
  clear C1 C2 C4 b1 b4 C3 b2
  go_loopw [39] (fun i wr => ∃ j : Nat, j ≤ n ∧ i = .int .i64 j ∧ WS w wr pw R (putP false (L.take j)) ∧ Blk wr kk 61 #[.pointer (some ⟨pw, 0, none⟩)]) (fun i _ => n - (intOf i).toNat)
  case atStart => exact ⟨0, Nat.zero_le _, rfl, hws.below b5, hk5⟩
  case round =>
    obtain ⟨j, hj, rfl, hw, hkb⟩ := hrel
    clear hws b5 hk5
    by_cases hlt : j < n
    · have e1 : decide ((j : Int) < (n : Int)) = true := by simp; omega
      obtain ⟨x, hx1⟩ : ∃ x, L[j]? = some x := ⟨L[j]'(by rw [← HN.out]; exact hlt), List.getElem?_eq_getElem _⟩
      have f0 := HF _ hw.old j x hx1
      have hx := HG.out x (List.mem_of_getElem? hx1)
      have hlen2 : (putP false (L.take j)).length = j * szP false := by rw [putP_len, List.length_take]; congr 1; have := HN.out; omega
      have hroom : j * szP false + szP false ≤ R := by
        rw [HR.out, ← Nat.succ_mul]
        exact Nat.mul_le_mul_right _ (by have := HN.out; omega)
      simp only [szP, Bool.false_eq_true, if_false] at hroom hlen2
      have HS := Lib.hid (show putP false (L.take (j + 1)) = putP false (L.take j) ++ beP false x by rw [take_snoc0 hx1, putP_snoc])
      clear hx1
      go_wp2_with (first | (go_at_call 56; ((with_reducible refine (half_any w _ pw kk R _ x hx.1 hx.2 hw hkb (by omega) (by omega)).mono ?_); rintro e w6 ⟨rfl, h6, safe6, hz6⟩)))
      go_roundw
      case rel => exact ⟨j + 1, by omega, by go_num, by rw [HS.out]; exact h6, safe6 _ _ _ (by decide) (by decide) (by decide) hkb⟩
      case measure => simp [intOf]; omega
    · have e1 : decide ((j : Int) < (n : Int)) = false := by simp; omega
      rw [List.take_of_length_le (by have := HN.out; omega)] at hw
      go_wp2_with (first | (go_at_call 33; ((with_reducible refine (wsDone w _ pw R _ hw (by omega)).mono ?_); rintro e w7 ⟨A7, c7, rfl, h7, b7⟩)))
      go_ret2
      exact ⟨A7, c7, rfl, h7, b7⟩

end Go.Proofs.Ytdbhfigdojkceaa
