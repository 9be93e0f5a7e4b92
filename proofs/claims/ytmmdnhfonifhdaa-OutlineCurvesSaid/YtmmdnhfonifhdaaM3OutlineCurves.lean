/- Part 4 of the proof: OuY, OuJ, OuV, OuZ, OuE. -/
import Derived.Lib.SliceRun
import Derived.Shelf.SlicesQ.Reverse
import Derived.Ground.SlgnProg
import Derived.IntWalk
import Derived.Test.YtmmdnhfonifhdaaM2OutlineCurves

namespace Go.Proofs.Ytmmdnhfonifhdaa
open Go Go.RowKit

set_option maxRecDepth 100000 in
theorem clone_any (B : Nat) (A : Option Addr) (c : Nat) (L : List Pt) (w : World) (hB : B ≤ w.heap.size) (h : Lists w B A (ptCells L)) (hn : L.length ≤ 100000) :
    Calls Try.prog 62 #[.slice A L.length c] w (MadeRow w L) := by
  obtain ⟨i1, hi1, hz1, hs1, hy1⟩ := info_parts1 ptInfo
  obtain ⟨i2, hi2, hz2, hs2, hy2⟩ := info_parts1 rowInfo
  have HI1 := Lib.hid hi1
  have HZ1 := Lib.hid hz1
  have HS1 := Lib.hid hs1
  have HY1 := Lib.hid hy1
  have HI2 := Lib.hid hi2
  have HZ2 := Lib.hid hz2
  have HS2 := Lib.hid hs2
  have HY2 := Lib.hid hy2
  clear hi1 hz1 hs1 hy1 hi2 hz2 hs2 hy2
  cases A with
  | none =>
    have hp := h.nil rfl
    have h0 : L = [] := by
      cases L with
      | nil => rfl
      | cons p r => simp [ptCells] at hp
    subst h0
    clear h hp
    have hq : ∀ (w : World) (n c : Nat), (binOp .eql 48 (.slice none n c) (.slice none 0 0)).run Try.prog w = .ok (.bool true) w := fun w n c => Lib.run_eql_slice_nil w _ _ _ _ _ _ _ Try.underlying48
    go_enter Try.func62, Try.ntmps62
    go_wp2
    go_ret
    exact ⟨_, rfl, World.ownsRow_nil _ _ _ _, Below.refl _ _⟩
  | some a =>
    have HE := Lib.hid h
    clear h
    have hq : ∀ (w : World) (n c : Nat), (binOp .eql 48 (.slice (some a) n c) (.slice none 0 0)).run Try.prog w = .ok (.bool false) w := fun w n c => Lib.run_eql_slice_nil w _ _ _ _ _ _ _ Try.underlying48
    go_enter Try.func62, Try.ntmps62
    go_wp2_with (first
      | (at_builtin; refine wpList_append_src _ rfl (.tmp 5) (.tmp 6) 48 rfl w.heap.size 43 i1 (.agg #[.int .i64 0, .int .i64 0, .int .i64 0]) 3 24 Try.underlying48 HI1.out HZ1.out HS1.out HY1.out rfl (by decide) (.slice (some ⟨w.heap.size, 0, none⟩) 0 0) 0 [] rfl (own_none w _ 3) B (some a) L.length c (ptCells L) rfl (HE.out.below ((Below.refl _ _).alloc hB _)) (ptCells_len L) (ptCells_one L) (by simp only [maxLen]; omega) (by omega) (by simp) ?_; intro v1 w1 own1 hg1 hat1; rw [Nat.zero_add, List.nil_append] at own1; have b1 : Below w.heap.size w w1 := ((Below.refl _ _).alloc (Nat.le_refl _) _).grown hg1 (by simp) (fun j hj => by cases hj; exact Nat.le_refl _)))
    go_ret
    exact ⟨v1, rfl, own1, b1⟩

/-- Outlines, one behind the other in block b. -/
structure OutsAt (w : World) (B b : Nat) (Lss : List (List (List Pt))) : Prop where
  at' : ∀ (i : Nat) (Ls : List (List Pt)), Lss[i]? = some Ls → ∃ (A : Option Addr) (c : Nat), w.cell? ⟨b, i, none⟩ = some (.slice A Ls.length c) ∧ OutAt w B A Ls
def SmS (Lss : List (List (List Pt))) : Prop := Lss.length ≤ 2 ∧ ∀ Ls ∈ Lss, Sm Ls

set_option maxRecDepth 100000 in
set_option maxHeartbeats 1000000 in
theorem copied_any (B b c : Nat) (Lss : List (List (List Pt))) (w : World) (hB : B ≤ w.heap.size) (hb0 : b < B) (h : OutsAt w B b Lss) (hs : SmS Lss) :
    Calls Try.prog 39 #[.slice (some ⟨b, 0, none⟩) Lss.length c] w (MadeOut w Lss.flatten) := by
  have hm := hs.1
  have HSM := Lib.hid hs.2
  have HLL := Lib.hid h
  obtain ⟨m, hmm⟩ : ∃ m, m = Lss.length := ⟨_, rfl⟩
  rw [← hmm] at hm ⊢
  have HMM := Lib.hid hmm
  clear h hmm hs
  obtain ⟨i1, hi1, hz1, hs1, hy1⟩ := info_parts1 ptInfo
  obtain ⟨i2, hi2, hz2, hs2, hy2⟩ := info_parts1 rowInfo
  have HI1 := Lib.hid hi1
  have HZ1 := Lib.hid hz1
  have HS1 := Lib.hid hs1
  have HY1 := Lib.hid hy1
  have HI2 := Lib.hid hi2
  have HZ2 := Lib.hid hz2
  have HS2 := Lib.hid hs2
  have HY2 := Lib.hid hy2
  clear hi1 hz1 hs1 hy1 hi2 hz2 hs2 hy2
  go_enter Try.func39, Try.ntmps39
  go_wp2
  go_loopw [3, 10] (fun v i wr => ∃ j : Nat, j ≤ m ∧ i = .int .i64 j ∧ Own2 wr w.heap.size v (Lss.take j).flatten ∧ Hid ((Lss.take j).flatten.length ≤ 100000 * j) ∧ Below w.heap.size w wr) (fun _ i _ => m - (intOf i).toNat)
  case atStart => exact ⟨0, Nat.zero_le _, rfl, Own2.nil _ _, Lib.hid (by simp), Below.refl _ _⟩
  case round =>
    obtain ⟨j, hj, rfl, hO, HJ, hb⟩ := hrel
    by_cases hjm : j < m
    · have e1 : decide ((j : Int) < (m : Int)) = true := by simp; omega
      obtain ⟨Ls, hLs⟩ := at_some (L := Lss) (k := j) (by rw [← HMM.out]; exact hjm)
      obtain ⟨A, c0, hc, hOut⟩ := HLL.out.at' j Ls hLs
      have q0 := (hb.cell (p := ⟨b, j, none⟩) (Nat.lt_of_lt_of_le hb0 hB)).trans hc
      have q3 : b < wr.heap.size := by have := hb.size; omega
      have hsm := HSM.out Ls (List.mem_of_getElem? hLs)
      have hn := hsm.1
      have HM := Lib.hid hsm.2
      have HL := Lib.hid hOut
      have HF := Lib.hid (show (Lss.take (j + 1)).flatten = (Lss.take j).flatten ++ Ls by rw [take_snoc1 hLs]; simp)
      obtain ⟨n, hnn⟩ : ∃ n, n = Ls.length := ⟨_, rfl⟩
      rw [← hnn] at hn q0
      have HN := Lib.hid hnn
      clear hc hOut hsm hLs hnn
      generalize (Lss.take j).flatten = M at *
      go_wp2
      go_loopw [3, 16] (fun v i wr => ∃ k : Nat, k ≤ n ∧ i = .int .i64 k ∧ Own2 wr w.heap.size v (M ++ Ls.take k) ∧ Below w.heap.size w wr) (fun _ i _ => n - (intOf i).toNat)
      case atStart => exact ⟨0, Nat.zero_le _, rfl, by simpa using hO, hb⟩
      case round =>
        clear hO hb q0 q3
        rename_i wx _ _
        obtain ⟨k, hk, rfl, hO, hb⟩ := hrel
        by_cases hlt : k < n
        · have d1 : decide ((k : Int) < (n : Int)) = true := by simp; omega
          obtain ⟨L, hL⟩ := at_some (L := Ls) (k := k) (by rw [← HN.out]; exact hlt)
          obtain ⟨b, o, Ai, ci, rfl, hbl, c0, hE⟩ := HL.out.at' k L hL
          have g0 := (hb.cell (p := ⟨b, o + k, none⟩) (Nat.lt_of_lt_of_le hbl hB)).trans c0
          have g3 : b < wr.heap.size := by have := hb.size; omega
          have HT := Lib.hid (show M ++ Ls.take (k + 1) = M ++ Ls.take k ++ [L] by rw [take_snoc1 hL, List.append_assoc])
          have hl : L.length ≤ 100000 := HM.out L (List.mem_of_getElem? hL)
          obtain ⟨rows, ho, hi⟩ := hO
          have HO := Lib.hid ho
          have HI := Lib.hid hi
          have hbs := hb.size
          have C := clone_any B Ai ci L wr (Nat.le_trans hB hbs) (hE.below (hb.mono hB)) hl
          have HK := Lib.hid (show (M ++ Ls.take k).length ≤ 300000 by rw [List.length_append, List.length_take]; have := HJ.out; have : 100000 * j ≤ 100000 * 2 := Nat.mul_le_mul_left _ (by omega); omega)
          clear c0 hE hL ho hi
          go_wp2_with (first
            | (go_at_call 62; ((with_reducible refine (C).mono ?_); rintro e w1 ⟨r1, rfl, own1, b1⟩; obtain ⟨A1, c1, rfl, _⟩ := own_lists own1))
            | (at_builtin; refine wpList_append_src _ rfl (.tmp 20) (.tmp 23) 22 rfl w.heap.size 48 i2 (.slice none 0 0) 1 24 Try.underlying22 HI2.out HZ2.out HS2.out HY2.out rfl (by decide) _ _ rows rfl (own_stay (own_stay HO.out b1) ((Below.refl _ _).alloc (Nat.le_refl _) _)) _ _ 1 1 [.slice A1 _ c1] rfl (lists_new1 w1 _ _) rfl (fun u hu => by simp at hu; subst hu; rfl) (by simp only [maxLen]; have := HK.out; omega) (by have := HK.out; omega) (by have := b1.size; simp; omega) ?_; intro v2 w2 own2 hg2 _))
          go_roundw
          case rel => exact ⟨k + 1, by omega, by go_num, by rw [HT.out]; exact own2_push hbs HO.out HI.out b1 own1 ((Below.refl _ _).alloc (Nat.le_refl _) _) own2 hg2, (hb.trans (b1.mono hbs)).alloc (Nat.le_trans hbs b1.size) _ |>.grown hg2 (by have := b1.size; simp; omega) (fun j hj => (HO.out.lt j hj).1)⟩
          case measure => simp [intOf]; omega
        · obtain rfl : k = n := by omega
          have d1 : decide ((k : Int) < (k : Int)) = false := by simp
          have HT := Lib.hid (show Ls.take k = Ls by rw [HN.out]; exact List.take_length)
          go_wp2
          go_roundw
          case rel => exact ⟨j + 1, by omega, by go_num, by rw [HF.out]; rw [HT.out] at hO; exact hO, Lib.hid (by rw [HF.out, List.length_append]; have := HJ.out; have := HN.out; omega), hb⟩
          case measure => simp [intOf]; omega
    · obtain rfl : j = m := by omega
      have d1 : decide ((j : Int) < (j : Int)) = false := by simp
      have HT := Lib.hid (show Lss.take j = Lss by rw [HMM.out]; exact List.take_length)
      go_wp2
      go_ret
      exact ⟨_, rfl, by rw [← HT.out]; exact hO, hb⟩

theorem lists_new2 (w : World) (x y : Value) (T : TypeId) (j : Nat) (v : Value) (h : [x, y][j]? = some v) : (w.alloc (.cells #[x, y] T)).cell? ⟨w.heap.size, j, none⟩ = some v := by
  rw [World.cell?_alloc_new]
  rw [← h]; simp

set_option maxRecDepth 100000 in
theorem or2_any (b c : Nat) (x y : Int) (w : World) (c0 : w.cell? ⟨b, 0, none⟩ = some (.int .i64 x)) (c1 : w.cell? ⟨b, 1, none⟩ = some (.int .i64 y)) (r : Int) (hr : (if x = 0 then y else x) = r) :
    Calls Try.prog 38 #[.slice (some ⟨b, 0, none⟩) 2 c] w fun e w' => e = .returned (.int .i64 r) ∧ w = w' := by
  have hb : b < w.heap.size := World.block_lt_of_cell? w _ c0
  have HR := Lib.hid hr
  clear hr
  go_enter Try.func38, Try.ntmps38
  go_wp2
  go_loop [8] (fun i => ∃ k : Nat, k ≤ 2 ∧ i = .int .i64 k ∧ Hid ((1 ≤ k → x = 0) ∧ (2 ≤ k → y = 0))) (fun i => 2 - (intOf i).toNat)
  case atStart => exact ⟨0, Nat.zero_le _, rfl, Lib.hid ⟨by omega, by omega⟩⟩
  case round =>
    obtain ⟨k, hk, rfl, HK⟩ := hrel
    rcases (show k = 0 ∨ k = 1 ∨ k = 2 by omega) with rfl | rfl | rfl
    · by_cases h0 : x = 0
      · subst h0
        go_wp2
        go_round
        case rel => exact ⟨1, by omega, by go_num, Lib.hid ⟨by simp, by omega⟩⟩
        case measure => simp [intOf]
      · have HB := Lib.hid (show r = x by rw [← HR.out, if_neg h0])
        have d0 : (x == 0) = false := by simpa using h0
        have d1 : (x != 0) = true := by simpa using h0
        go_wp2
        go_ret
        exact ⟨ret_int HB.out.symm, rfl⟩
    · have hx : x = 0 := HK.out.1 (Nat.le_refl _)
      subst hx
      by_cases h0 : y = 0
      · subst h0
        go_wp2
        go_round
        case rel => exact ⟨2, by omega, by go_num, Lib.hid ⟨by simp, by simp⟩⟩
        case measure => simp [intOf]
      · have HB := Lib.hid (show r = y by rw [← HR.out]; simp)
        have d0 : (y == 0) = false := by simpa using h0
        have d1 : (y != 0) = true := by simpa using h0
        go_wp2
        go_ret
        exact ⟨ret_int HB.out.symm, rfl⟩
    · obtain ⟨hx, hy⟩ := HK.out
      obtain rfl := hx (by omega)
      obtain rfl := hy (by omega)
      have HB := Lib.hid (show r = 0 by rw [← HR.out]; simp)
      go_wp2
      go_ret
      exact ⟨ret_int HB.out.symm, rfl⟩

end Go.Proofs.Ytmmdnhfonifhdaa

namespace Go.Proofs.Ytmmdnhfonifhdaa
open Go Go.RowKit

def joinE (a b : List (List Pt)) : Int := if chkE a = 0 then (if chkE b = 0 then chkE (a ++ b) else chkE b) else chkE a
def JoinPost (w : World) (a b : List (List Pt)) (e : Ending) (w' : World) : Prop :=
  (joinE a b ≠ 0 → e = .returned (.tuple #[.slice none 0 0, .int .i64 (joinE a b)]) ∧ Below w.heap.size w w') ∧
  (joinE a b = 0 → ∃ v, e = .returned (.tuple #[v, .int .i64 0]) ∧ Own2 w' w.heap.size v (a ++ b) ∧ Below w.heap.size w w')
theorem outs_two {w : World} {A A2 : Option Addr} {c c2 : Nat} {a b : List (List Pt)} (ha : OutAt w w.heap.size A a) (hb : OutAt w w.heap.size A2 b) (T : TypeId) :
    OutsAt (w.alloc (.cells #[.slice A a.length c, .slice A2 b.length c2] T)) (w.alloc (.cells #[.slice A a.length c, .slice A2 b.length c2] T)).heap.size w.heap.size [a, b] := by
  have k := (Below.refl w.heap.size w).alloc (Nat.le_refl _) (.cells #[.slice A a.length c, .slice A2 b.length c2] T)
  refine ⟨fun i Ls h => ?_⟩
  match i, h with
  | 0, h =>
    simp at h; subst h
    exact ⟨A, c, lists_new2 w _ _ T 0 _ rfl, (ha.below k).more k.size⟩
  | 1, h =>
    simp at h; subst h
    exact ⟨A2, c2, lists_new2 w _ _ T 1 _ rfl, (hb.below k).more k.size⟩
  | k + 2, h => simp at h
theorem outs_one {w : World} {A : Option Addr} {c : Nat} {a : List (List Pt)} (ha : OutAt w w.heap.size A a) (T : TypeId) :
    OutsAt (w.alloc (.cells #[.slice A a.length c] T)) (w.alloc (.cells #[.slice A a.length c] T)).heap.size w.heap.size [a] := by
  have k := (Below.refl w.heap.size w).alloc (Nat.le_refl _) (.cells #[.slice A a.length c] T)
  refine ⟨fun i Ls h => ?_⟩
  match i, h with
  | 0, h =>
    simp at h; subst h
    exact ⟨A, c, by rw [World.cell?_alloc_new]; rfl, (ha.below k).more k.size⟩
  | k + 1, h => simp at h

def Sm2 (Ls : List (List Pt)) : Prop := Ls.length ≤ 50000 ∧ ∀ L ∈ Ls, L.length ≤ 100000
theorem Sm2.sm {Ls : List (List Pt)} (h : Sm2 Ls) : Sm Ls := ⟨by have := h.1; omega, h.2⟩
theorem Sm2.app {a b : List (List Pt)} (h : Sm2 a) (k : Sm2 b) : Sm (a ++ b) :=
  ⟨by rw [List.length_append]; have := h.1; have := k.1; omega, fun L hL => by
    rcases List.mem_append.1 hL with h1 | h1
    · exact h.2 L h1
    · exact k.2 L h1⟩

set_option maxRecDepth 100000 in
set_option maxHeartbeats 1000000 in
theorem ojoin_any (B : Nat) (A A2 : Option Addr) (c c2 : Nat) (a b : List (List Pt)) (w : World) (hB : B ≤ w.heap.size) (ha : OutAt w B A a) (hb : OutAt w B A2 b) (sa : Sm2 a) (sb : Sm2 b) :
    Calls Try.prog 21 #[.slice A a.length c, .slice A2 b.length c2] w (JoinPost w a b) := by
  have C1 := check_any B A c a w hB ha sa.sm
  have C2 := fun w1 (b1 : Below w.heap.size w w1) => check_any B A2 c2 b w1 (Nat.le_trans hB b1.size) (hb.below (b1.mono hB)) sb.sm
  have C3 : ∀ (w1 : World), Below w.heap.size w w1 → ∀ (k : Nat), k = w1.heap.size → Calls Try.prog 39 #[.slice (some ⟨k, 0, none⟩) 2 2] (w1.alloc (.cells #[.slice A a.length c, .slice A2 b.length c2] 22)) (MadeOut (w1.alloc (.cells #[.slice A a.length c, .slice A2 b.length c2] 22)) (a ++ b)) := by
    intro w1 b1 k hk
    subst hk
    have := copied_any (w1.alloc (.cells #[.slice A a.length c, .slice A2 b.length c2] 22)).heap.size w1.heap.size 2 [a, b] (w1.alloc (.cells #[.slice A a.length c, .slice A2 b.length c2] 22)) (Nat.le_refl _) (by simp)
      (outs_two ((ha.below (b1.mono hB)).more (Nat.le_trans hB b1.size)) ((hb.below (b1.mono hB)).more (Nat.le_trans hB b1.size)) _) ⟨by simp, fun Ls h => by simp at h; rcases h with rfl | rfl; exact sa.sm; exact sb.sm⟩
    simpa only [List.length_cons, List.length_nil, List.flatten_cons, List.flatten_nil, List.append_nil, Nat.zero_add, Nat.reduceAdd] using this
  have C4 := fun (w1 : World) A c (ho : OutAt w1 w1.heap.size A (a ++ b)) => check_any w1.heap.size A c (a ++ b) w1 (Nat.le_refl _) ho (sa.app sb)
  have C5 := fun (w1 : World) (x y : Int) (r : Int) (hr : (if x = 0 then y else x) = r) => or2_any w1.heap.size 2 x y (w1.alloc (.cells #[.int .i64 x, .int .i64 y] 25)) (lists_new2 w1 _ _ _ 0 _ rfl) (lists_new2 w1 _ _ _ 1 _ rfl) r hr
  have HP : ∀ e w', ((joinE a b ≠ 0 → e = .returned (.tuple #[.slice none 0 0, .int .i64 (joinE a b)]) ∧ Below w.heap.size w w') ∧ (joinE a b = 0 → ∃ v, e = .returned (.tuple #[v, .int .i64 0]) ∧ Own2 w' w.heap.size v (a ++ b) ∧ Below w.heap.size w w')) → JoinPost w a b e w' := fun e w' h => h
  unfold joinE at HP
  clear ha hb sa sb
  generalize a ++ b = ab at *
  generalize a.length = n at *
  generalize b.length = n2 at *
  generalize chkE a = x at *
  generalize chkE b = y at *
  generalize chkE ab = z at *
  obtain ⟨r, hr⟩ : ∃ r, (if x = 0 then y else x) = r := ⟨_, rfl⟩
  have C5 := fun w1 => C5 w1 x y r hr
  by_cases hr0 : r = 0
  · subst hr0
    have hxy : x = 0 ∧ y = 0 := by
      by_cases h : x = 0
      · rw [if_pos h] at hr; exact ⟨h, hr⟩
      · rw [if_neg h] at hr; exact absurd hr h
    obtain ⟨rfl, rfl⟩ := hxy
    clear hr
    have HP := Lib.hid HP
    by_cases hz : z = 0
    · subst hz
      go_enter Try.func21, Try.ntmps21
      go_wp2_with (first
        | (go_at_call 12; ((with_reducible refine (C1).mono ?_); rintro e w1 ⟨rfl, b1⟩))
        | (go_at_call 12; ((with_reducible refine (C2 _ b1).mono ?_); rintro e w2 ⟨rfl, b2⟩; have b3 := b1.trans (b2.mono b1.size)))
        | (go_at_call 38; ((with_reducible refine (C5 _).mono ?_); rintro e w3 ⟨rfl, rfl⟩))
        | (go_at_call 39; ((with_reducible refine (C3 _ (b3.alloc b3.size _) _ (by simp)).mono ?_); rintro e w5 ⟨v5, rfl, own5, b5⟩; have b6 := ((b3.alloc b3.size (.cells #[.int .i64 0, .int .i64 0] 25)).alloc (by simp; exact Nat.le_succ_of_le b3.size) (.cells #[.slice A n c, .slice A2 n2 c2] 22)).trans (b5.mono (by have := b3.size; simp; omega)); obtain ⟨A5, c5, rfl, o5⟩ := own5.out))
        | (go_at_call 12; ((with_reducible refine (C4 _ _ _ o5).mono ?_); rintro e w6 ⟨rfl, b7⟩)))
      go_ret2
      exact HP.out _ _ ⟨fun h => absurd rfl h, fun _ => ⟨_, rfl, (own5.below b7).mono (by have := b3.size; simp; omega), b6.trans (b7.mono b6.size)⟩⟩
    · have d1 : (z == 0) = false := by simpa using hz
      have d2 : (z != 0) = true := by simpa using hz
      go_enter Try.func21, Try.ntmps21
      go_wp2_with (first
        | (go_at_call 12; ((with_reducible refine (C1).mono ?_); rintro e w1 ⟨rfl, b1⟩))
        | (go_at_call 12; ((with_reducible refine (C2 _ b1).mono ?_); rintro e w2 ⟨rfl, b2⟩; have b3 := b1.trans (b2.mono b1.size)))
        | (go_at_call 38; ((with_reducible refine (C5 _).mono ?_); rintro e w3 ⟨rfl, rfl⟩))
        | (go_at_call 39; ((with_reducible refine (C3 _ (b3.alloc b3.size _) _ (by simp)).mono ?_); rintro e w5 ⟨v5, rfl, own5, b5⟩; have b6 := ((b3.alloc b3.size (.cells #[.int .i64 0, .int .i64 0] 25)).alloc (by simp; exact Nat.le_succ_of_le b3.size) (.cells #[.slice A n c, .slice A2 n2 c2] 22)).trans (b5.mono (by have := b3.size; simp; omega)); obtain ⟨A5, c5, rfl, o5⟩ := own5.out))
        | (go_at_call 12; ((with_reducible refine (C4 _ _ _ o5).mono ?_); rintro e w6 ⟨rfl, b7⟩)))
      go_ret2
      exact HP.out _ _ ⟨fun _ => ⟨rfl, b6.trans (b7.mono b6.size)⟩, fun h => absurd h hz⟩
  · have d1 : (r == 0) = false := by simpa using hr0
    have d2 : (r != 0) = true := by simpa using hr0
    have HE := Lib.hid (show (if x = 0 then (if y = 0 then z else y) else x) = r by
      by_cases h : x = 0
      · rw [if_pos h] at hr ⊢; subst hr; rw [if_neg hr0]
      · rw [if_neg h] at hr ⊢; exact hr)
    have HP := Lib.hid HP
    clear hr
    go_enter Try.func21, Try.ntmps21
    go_wp2_with (first
      | (go_at_call 12; ((with_reducible refine (C1).mono ?_); rintro e w1 ⟨rfl, b1⟩))
      | (go_at_call 12; ((with_reducible refine (C2 _ b1).mono ?_); rintro e w2 ⟨rfl, b2⟩; have b3 := b1.trans (b2.mono b1.size)))
      | (go_at_call 38; ((with_reducible refine (C5 _).mono ?_); rintro e w3 ⟨rfl, rfl⟩)))
    go_ret2
    exact HP.out _ _ ⟨fun _ => ⟨by rw [HE.out]; rfl, b3.alloc b3.size _⟩, fun h => absurd (HE.out.symm.trans h) hr0⟩

end Go.Proofs.Ytmmdnhfonifhdaa

namespace Go.Proofs.Ytmmdnhfonifhdaa
open Go Go.RowKit

def revP_ren : Go.Shelf.Ren := ⟨fun | 35 => 40 | n => n, fun | 22 => 48 | 23 => 43 | 3 => 3 | 4 => 4 | 0 => 0 | n => n, fun n => n⟩
theorem revP : SlLaysE0.n35 Try.prog revP_ren := {
  mixed := by kernel_rfl
  f35 := ⟨Try.f40.name, by decide, Try.func40.trans (congrArg some (by kernel_rfl))⟩
  t0 := Try.underlying0
  a0 := Try.isAgg0
  z0 := Try.sizeOf0
  v0 := Try.zeroValue0
  t3 := Try.underlying3
  a3 := Try.isAgg3
  z3 := Try.sizeOf3
  v3 := Try.zeroValue3
  t4 := Try.underlying4
  a4 := Try.isAgg4
  z4 := Try.sizeOf4
  v4 := Try.zeroValue4
  t22 := Try.underlying48
  a22 := Try.isAgg48
  z22 := Try.sizeOf48
  v22 := Try.zeroValue48 }
def encP (p : Pt) : List Value := [.int .i64 p.1, .int .i64 p.2.1, .int .i64 p.2.2]
theorem encP_one : ∀ x : Pt, ∀ v ∈ encP x, v.oneCell' = true := fun x v hv => by simp [encP] at hv; rcases hv with rfl | rfl | rfl <;> rfl
theorem ptCells_get (L : List Pt) (t : Nat) (ht : t < L.length * 3) : (ptCells L)[t]? = some ((encP (L.toArray)[t / 3]!)[t % 3]!) := by
  obtain ⟨p, hp⟩ := at_some (L := L) (k := t / 3) (by omega)
  obtain ⟨h1, h2, h3⟩ := ptCells_at L (t / 3) p hp
  have he : (L.toArray)[t / 3]! = p := by simp [hp]
  rw [he]
  rcases (show t % 3 = 0 ∨ t % 3 = 1 ∨ t % 3 = 2 by omega) with h | h | h
  · rw [show t = t / 3 * 3 by omega, h1, show t / 3 * 3 % 3 = 0 by omega]; rfl
  · rw [show t = t / 3 * 3 + 1 by omega, h2, show (t / 3 * 3 + 1) % 3 = 1 by omega]; rfl
  · rw [show t = t / 3 * 3 + 2 by omega, h3, show (t / 3 * 3 + 2) % 3 = 2 by omega]; rfl
theorem flat_pt (L : List Pt) : Sort.flatK encP 3 L.toArray = (ptCells L).toArray := by
  refine Sort.ext_get! (by simp [ptCells_len]) fun t ht => ?_
  rw [Sort.size_flatK] at ht
  rw [Sort.get_flatK _ _ _ _ ht]
  have := ptCells_get L t (by simpa using ht)
  have hlt : t < (ptCells L).toArray.size := by simp [ptCells_len]; simpa using ht
  rw [getElem!_pos (ptCells L).toArray t hlt, List.getElem_toArray]
  exact (List.getElem?_eq_some_iff.1 this).2.symm
theorem own_block {w : World} {base g n cap : Nat} {e : TypeId} {size : Nat} {xs : List Value} (h : w.ownsRow base e size (.slice (some ⟨g, 0, none⟩) n cap) n xs) :
    ∃ cur, base ≤ g ∧ w.heap[g]? = some (.cells cur e (0, 0)) ∧ n ≤ cap ∧ cap ≤ maxLen ∧ cur.size = cap * size ∧ cur.toList.take (n * size) = xs := by
  rcases h.2 with ⟨h', _⟩ | ⟨g', cap', cur, h', h2⟩
  · simp at h'
  · simp only [Value.slice.injEq, Option.some.injEq, Addr.mk.injEq, and_true, true_and] at h'
    obtain ⟨rfl, rfl⟩ := h'
    exact ⟨cur, h2⟩
theorem reverse_row {w : World} {base g n cap : Nat} {p0 : Pt} {R : List Pt} (h : w.ownsRow base 43 3 (.slice (some ⟨g, 0, none⟩) n cap) n (ptCells (p0 :: R))) (hn : n = R.length + 1) (hs : n ≤ 100000) (c : Nat) :
    Calls Try.prog 40 #[.slice (some ⟨g, 3, none⟩) R.length c] w fun e w' => e = .returned (.tuple #[]) ∧ Only w w' [g] ∧ w'.ownsRow base 43 3 (.slice (some ⟨g, 0, none⟩) n cap) n (ptCells (p0 :: R.reverse)) := by
  obtain ⟨cur, h1, h2, h3, h4, h5, h6⟩ := own_block h
  have hH : Sort.HoldsK encP 3 w g 3 R.toArray := by
    unfold Sort.HoldsK
    intro j hj
    rw [Sort.size_flatK] at hj
    have hj' : j < R.length * 3 := by simpa using hj
    rw [Sort.get_flatK _ _ _ _ hj]
    refine ⟨?_, by simp [World.frozen?, h2]⟩
    rw [cell_of_row w g (3 + j) cur _ (0, 0) h2]
    have e1 : (ptCells (p0 :: R))[3 + j]? = (ptCells R)[j]? := by
      rw [show 3 + j = j + 1 + 1 + 1 by omega]; rfl
    have e2 : cur[3 + j]? = (ptCells (p0 :: R))[3 + j]? := by
      rw [← h6, List.getElem?_take_of_lt (by omega), Array.getElem?_toList]
    rw [e2, e1, ptCells_get R j hj']
    rfl
  have C := AnyQ.slices_Reverse revP 3 Try.isAgg43 Try.sizeOf43 encP (fun _ => rfl) encP_one g 3 c R.toArray w hH (by simp; omega)
  change Calls Try.prog 40 _ _ _ at C
  rw [show R.toArray.size = R.length by simp] at C
  refine C.mono fun e w' ⟨he, m, hw⟩ => ⟨he, ?_, ?_⟩
  · subst hw
    refine ⟨rfl, rfl, rfl, by simp [Sort.putRowK, Sort.putRow, Sort.mapBlock, Sort.ahead], fun b hb hne => ?_⟩
    have : g ≠ b := fun e => hne (by simp [e])
    simp [Sort.putRowK, Sort.putRow, Sort.mapBlock, Sort.ahead, Array.getElem?_modify, this]
  · subst hw
    have hr : R.toArray.reverse = R.reverse.toArray := by simp
    have hh : (Sort.putRowK encP 3 (Sort.ahead w m) g 3 R.toArray.reverse).heap[g]? = some (.cells (Sort.putCells id 3 (ptCells R.reverse).toArray cur) 43 (0, 0)) := by
      rw [hr]
      unfold Sort.putRowK
      rw [flat_pt]
      simp [Sort.putRow, Sort.mapBlock, Sort.ahead, Array.getElem?_modify, h2, Sort.onCells]
    refine ⟨by rw [ptCells_len]; simp; omega, .inr ⟨g, cap, _, rfl, h1, hh, h3, h4, by simp [Sort.putCells, h5], ?_⟩⟩
    refine List.ext_getElem? fun j => ?_
    by_cases hj : j < n * 3
    · rw [List.getElem?_take_of_lt hj, Array.getElem?_toList]
      have hjc : j < cur.size := by rw [h5]; exact Nat.lt_of_lt_of_le hj (Nat.mul_le_mul_right _ h3)
      unfold Sort.putCells
      rw [Array.getElem?_mapIdx, Array.getElem?_eq_getElem hjc, Option.map_some]
      by_cases h3j : j < 3
      · rw [if_neg (by omega)]
        have e2 : cur[j]? = (ptCells (p0 :: R))[j]? := by rw [← h6, List.getElem?_take_of_lt (by omega), Array.getElem?_toList]
        rw [Array.getElem?_eq_getElem hjc] at e2
        rw [e2]
        rcases (show j = 0 ∨ j = 1 ∨ j = 2 by omega) with rfl | rfl | rfl <;> rfl
      · rw [if_pos ⟨by omega, by simp [ptCells_len]; omega⟩]
        obtain ⟨i, rfl⟩ : ∃ i, j = i + 3 := ⟨j - 3, by omega⟩
        have e1 : (ptCells (p0 :: R.reverse))[i + 3]? = (ptCells R.reverse)[i]? := rfl
        rw [e1, show i + 3 - 3 = i by omega]
        have hi : i < (ptCells R.reverse).length := by rw [ptCells_len]; simp; omega
        simp [hi]
    · rw [List.getElem?_eq_none (by simp; omega), List.getElem?_eq_none (by rw [ptCells_len]; simp; omega)]
theorem reverse_none (a : Option Addr) (c : Nat) (w : World) : Calls Try.prog 40 #[.slice a 0 c] w fun e w' => e = .returned (.tuple #[]) ∧ w = w' :=
  (AnyQ.slices_Reverse_empty revP a c w).mono fun _ _ ⟨h1, h2⟩ => ⟨h1, h2.symm⟩

theorem own2_set {w w1 : World} {base i : Nat} {v r : Value} {Ls : List (List Pt)} {L' : List Pt} {rows : List Value} (ho : w.ownsRow base 48 1 v Ls.length rows) (hi : Inner w base Ls rows)
    (hr : rows[i]? = some r) {L : List Pt} (hL : Ls[i]? = some L) (o : Only w w1 (blk r)) (hr1 : w1.ownsRow base 43 3 r L'.length (ptCells L')) : Own2 w1 base v (Ls.set i L') := by
  obtain ⟨q, hq, hqo⟩ := hi.1 i L hL
  rw [hr] at hq; cases hq
  refine ⟨rows, by rw [List.length_set]; exact own_only ho o (fun b h1 h2 => own_own ho hqo (by decide) b h1 h2), fun j M hM => ?_, hi.2⟩
  by_cases hij : j = i
  · subst hij
    have hlt : j < Ls.length := (List.getElem?_eq_some_iff.1 hL).1
    rw [List.getElem?_set_self hlt] at hM
    cases hM
    exact ⟨r, hr, hr1⟩
  · rw [List.getElem?_set_ne (Ne.symm hij)] at hM
    obtain ⟨s, h1, h2⟩ := hi.1 j M hM
    exact ⟨s, h1, own_only h2 o (hi.2 j i s r hij h1 hr)⟩
def revL : List Pt → List Pt
  | [] => []
  | p :: r => p :: r.reverse

set_option maxRecDepth 100000 in
theorem reverse_any (B : Nat) (A : Option Addr) (c : Nat) (Ls : List (List Pt)) (w : World) (hB : B ≤ w.heap.size) (h : OutAt w B A Ls) (hs : Sm Ls) :
    Calls Try.prog 22 #[.slice A Ls.length c] w (MadeOut w (Ls.map revL)) := by
  have C3 : ∀ (k : Nat), k = w.heap.size → Calls Try.prog 39 #[.slice (some ⟨k, 0, none⟩) 1 1] (w.alloc (.cells #[.slice A Ls.length c] 22)) (MadeOut (w.alloc (.cells #[.slice A Ls.length c] 22)) Ls) := by
    intro k hk
    subst hk
    have := copied_any (w.alloc (.cells #[.slice A Ls.length c] 22)).heap.size w.heap.size 1 [Ls] (w.alloc (.cells #[.slice A Ls.length c] 22)) (Nat.le_refl _) (by simp)
      (outs_one (h.more hB) _) ⟨by simp, fun Ls' h => by simp at h; subst h; exact hs⟩
    simpa only [List.length_cons, List.length_nil, List.flatten_cons, List.flatten_nil, List.append_nil, Nat.zero_add, Nat.reduceAdd] using this
  have hn := hs.1
  have HM := Lib.hid hs.2
  obtain ⟨n, hnn⟩ : ∃ n, n = Ls.length := ⟨_, rfl⟩
  rw [← hnn] at hn C3 ⊢
  have HN := Lib.hid hnn
  clear h hs hnn
  go_enter Try.func22, Try.ntmps22
  go_wp2_with (first
    | (go_at_call 39; ((with_reducible refine (C3 _ rfl).mono ?_); rintro e w5 ⟨v5, rfl, own5, b5⟩; have b6 := ((Below.refl w.heap.size w).alloc (Nat.le_refl _) (.cells #[.slice A n c] 22)).trans (b5.mono (by simp)); obtain ⟨A5, c5, rfl, o5⟩ := own5.out))
    | fail)
  rw [← HN.out]
  have HO5 := Lib.hid (own5.mono (show w.heap.size ≤ _ by simp))
  clear own5 o5 b5
  go_loopw [11] (fun i wr => ∃ k : Nat, k ≤ n ∧ i = .int .i64 k ∧ Own2 wr w.heap.size (.slice A5 n c5) ((Ls.take k).map revL ++ Ls.drop k) ∧ Below w.heap.size w wr) (fun i _ => n - (intOf i).toNat)
  case atStart => exact ⟨0, Nat.zero_le _, rfl, by have := HO5.out; rw [← HN.out] at this; simpa using this, b6⟩
  case round =>
    clear b6 HO5
    obtain ⟨k, hk, rfl, hO, hb⟩ := hrel
    by_cases hlt : k < n
    · have d1 : decide ((k : Int) < (n : Int)) = true := by simp; omega
      obtain ⟨L, hL⟩ := at_some (L := Ls) (k := k) (by rw [← HN.out]; exact hlt)
      have hl : L.length ≤ 100000 := HM.out L (List.mem_of_getElem? hL)
      obtain ⟨rows, ho, hi⟩ := hO
      have hML : ((Ls.take k).map revL ++ Ls.drop k)[k]? = some L := by
        rw [List.getElem?_append_right (by simp; exact Nat.min_le_left _ _), List.length_map, List.length_take, Nat.min_eq_left (by rw [← HN.out]; omega), Nat.sub_self, List.getElem?_drop, Nat.add_zero]; exact hL
      have HS := Lib.hid (show ((Ls.take k).map revL ++ Ls.drop k).set k (revL L) = (Ls.take (k + 1)).map revL ++ Ls.drop (k + 1) by
        have hlen : ((Ls.take k).map revL).length = k := by simp; rw [← HN.out]; omega
        rw [List.set_append_right _ _ (by omega), hlen, Nat.sub_self, take_snoc1 hL, List.map_append, List.append_assoc]
        congr 1
        rw [List.drop_eq_getElem_cons (by rw [← HN.out]; exact hlt)]
        rfl)
      obtain ⟨r, hr, hro⟩ := hi.1 k L hML
      have hlenM : ((Ls.take k).map revL ++ Ls.drop k).length = n := by simp; rw [← HN.out]; omega
      rw [hlenM] at ho
      have HLM := Lib.hid hlenM
      clear hlenM
      obtain ⟨A6, c6, e6, l6, _⟩ := own_lists ho
      obtain ⟨bo, oo, rfl, hbo, hcell⟩ := l6.plain (by intro e; subst e; simp at hr)
      cases e6
      have g0 := hcell k r hr
      obtain ⟨Ai, ci, rfl, hli, hci⟩ := own_lists hro
      have HO := Lib.hid ho
      have HI := Lib.hid hi
      have HR := Lib.hid hr
      have HML := Lib.hid hML
      have HRO := Lib.hid hro
      clear ho hi hr hML hro l6 hcell hL hli
      rcases L with _ | ⟨p, _ | ⟨q, R⟩⟩
      · simp only [List.length_nil] at g0 hci
        have hmin : min (0 : Int) 1 = 0 := by decide
        go_wp2_with (first | (go_at_call 40; ((with_reducible refine (reverse_none _ _ _).mono ?_); rintro e w1 ⟨rfl, rfl⟩)))
        all_goals
          go_roundw
          case rel => exact ⟨k + 1, by omega, by go_num, by rw [← HS.out]; exact own2_set (L' := revL []) (by rw [HLM.out]; exact HO.out) HI.out HR.out HML.out (Only.refl _ _) HRO.out, hb⟩
          case measure => simp [intOf]; omega
      · simp only [List.length_cons, List.length_nil, Nat.zero_add] at g0 hci
        have hmin : min (1 : Int) 1 = 1 := by decide
        go_wp2_with (first | (go_at_call 40; ((with_reducible refine (reverse_none _ _ _).mono ?_); rintro e w1 ⟨rfl, rfl⟩)))
        all_goals
          go_roundw
          case rel => exact ⟨k + 1, by omega, by go_num, by rw [← HS.out]; exact own2_set (L' := revL [p]) (by rw [HLM.out]; exact HO.out) HI.out HR.out HML.out (Only.refl _ _) HRO.out, hb⟩
          case measure => simp [intOf]; omega
      · obtain ⟨g, ci', cur, he, _⟩ := (show ∃ g cap cur, Value.slice Ai (p :: q :: R).length ci = .slice (some ⟨g, 0, none⟩) (p :: q :: R).length cap ∧ w.heap.size ≤ g ∧ wr.heap[g]? = some (.cells cur 43 (0, 0)) ∧ (p :: q :: R).length ≤ cap ∧ cap ≤ maxLen ∧ cur.size = cap * 3 ∧ cur.toList.take ((p :: q :: R).length * 3) = ptCells (p :: q :: R) from by
          rcases HRO.out.2 with ⟨_, h⟩ | h
          · simp at h
          · exact h)
        cases he
        have CR := reverse_row HRO.out rfl hl
        obtain ⟨l, hl1⟩ : ∃ l, l = (q :: R).length := ⟨_, rfl⟩
        have hl2 : (p :: q :: R).length = l + 1 := by rw [hl1]; rfl
        rw [← hl1, hl2] at CR
        rw [hl2] at g0 hci hl
        have hmin : min ((l : Int) + 1) 1 = 1 := by simp only [List.length_cons] at hl1; omega
        have hc1 : 1 < ci := by simp only [List.length_cons] at hl1; omega
        have HL1 := Lib.hid hl1
        have HL2 := Lib.hid hl2
        clear hl1 hl2
        go_wp2_with (first | (go_at_call 40; ((with_reducible refine (CR _).mono ?_); rintro e w1 ⟨rfl, o1, own1⟩)))
        go_roundw
        case rel => exact ⟨k + 1, by omega, by go_num, by rw [← HS.out]; exact own2_set (L' := revL (p :: q :: R)) (by rw [HLM.out]; exact HO.out) HI.out HR.out HML.out o1 (by rw [show (revL (p :: q :: R)).length = l + 1 by rw [← HL2.out]; simp [revL]]; rw [HL2.out]; exact own1), hb.trans (o1.to_below hb.size (fun b hb => by simp at hb; subst hb; exact (HRO.out.lt _ rfl).1))⟩
        case measure => simp [intOf]; omega
    · obtain rfl : k = n := by omega
      have d1 : decide ((k : Int) < (k : Int)) = false := by simp
      have HT := Lib.hid (show (Ls.take k).map revL ++ Ls.drop k = Ls.map revL by rw [HN.out]; simp)
      go_wp2
      go_ret
      exact ⟨_, rfl, by rw [← HT.out]; exact hO, hb⟩

end Go.Proofs.Ytmmdnhfonifhdaa

namespace Go.Proofs.Ytmmdnhfonifhdaa
open Go Go.RowKit

theorem lists_pt1 (w : World) (p : Pt) (T : TypeId) : Lists (w.alloc (.cells #[.int .i64 p.1, .int .i64 p.2.1, .int .i64 p.2.2] T)) (w.heap.size + 1) (some ⟨w.heap.size, 0, none⟩) (ptCells [p]) :=
  ⟨fun ha => (nomatch ha), fun a ha j u hu => by
    cases ha
    rw [addr_plain, World.cell?_alloc_new, Nat.zero_add, ← hu]
    rw [List.getElem?_toArray]; rfl, fun a ha _ => by cases ha; simp⟩
theorem lists_ptk (w : World) (p : Pt) (T : TypeId) (k : Nat) (hk : k = w.heap.size) : Lists (w.alloc (.cells #[.int .i64 p.1, .int .i64 p.2.1, .int .i64 p.2.2] T)) (w.heap.size + 1) (some ⟨k, 0, none⟩) (ptCells [p]) := by
  subst hk; exact lists_pt1 w p T
theorem revL_at {L : List Pt} {k x : Nat} {p : Pt} (hk : k < L.length) (hx : x = if k = 0 then 0 else L.length - k) (hp : L[x]? = some p) : (revL L)[k]? = some p := by
  cases L with
  | nil => simp at hk
  | cons q R =>
    cases k with
    | zero => rw [if_pos rfl] at hx; subst hx; exact hp
    | succ k =>
      rw [if_neg (by omega)] at hx
      simp only [List.length_cons] at hk hx
      unfold revL
      rw [List.getElem?_cons_succ, List.getElem?_reverse (by omega)]
      obtain ⟨y, rfl⟩ : ∃ y, x = y + 1 := ⟨R.length - 1 - k, by omega⟩
      rw [List.getElem?_cons_succ] at hp
      rw [show R.length - 1 - k = y by omega]
      exact hp
theorem revL_len (L : List Pt) : (revL L).length = L.length := by cases L <;> simp [revL]

set_option maxRecDepth 100000 in
set_option maxHeartbeats 4000000 in
theorem rreverse_any (B : Nat) (A : Option Addr) (c : Nat) (Ls : List (List Pt)) (w : World) (hB : B ≤ w.heap.size) (h : OutAt w B A Ls) (hs : Sm Ls) :
    Calls Try.prog 23 #[.slice A Ls.length c] w (MadeOut w (Ls.map revL)) := by
  have hn := hs.1
  have HM := Lib.hid hs.2
  have HL := Lib.hid h
  obtain ⟨n, hnn⟩ : ∃ n, n = Ls.length := ⟨_, rfl⟩
  rw [← hnn] at hn ⊢
  have HN := Lib.hid hnn
  clear h hnn hs
  obtain ⟨i1, hi1, hz1, hs1, hy1⟩ := info_parts1 ptInfo
  obtain ⟨i2, hi2, hz2, hs2, hy2⟩ := info_parts1 rowInfo
  have HI1 := Lib.hid hi1
  have HZ1 := Lib.hid hz1
  have HS1 := Lib.hid hs1
  have HY1 := Lib.hid hy1
  have HI2 := Lib.hid hi2
  have HZ2 := Lib.hid hz2
  have HS2 := Lib.hid hs2
  have HY2 := Lib.hid hy2
  clear hi1 hz1 hs1 hy1 hi2 hz2 hs2 hy2
  go_enter Try.func23, Try.ntmps23
  go_wp2
  go_loopw [3, 4] (fun v i wr => ∃ k : Nat, k ≤ n ∧ i = .int .i64 k ∧ Own2 wr w.heap.size v ((Ls.take k).map revL) ∧ Below w.heap.size w wr) (fun _ i _ => n - (intOf i).toNat)
  case atStart => exact ⟨0, Nat.zero_le _, rfl, Own2.nil _ _, Below.refl _ _⟩
  case round =>
    obtain ⟨k, hk, rfl, hO, hb0⟩ := hrel
    obtain ⟨wo, rfl⟩ : ∃ wo, wo = wr := ⟨_, rfl⟩
    by_cases hlt : k < n
    · have d1 : decide ((k : Int) < (n : Int)) = true := by simp; omega
      obtain ⟨L, hL⟩ := at_some (L := Ls) (k := k) (by rw [← HN.out]; exact hlt)
      obtain ⟨b, o, Ai, ci, rfl, hbl, c0, hE⟩ := HL.out.at' k L hL
      have HC : ∀ W, Below w.heap.size w W → W.cell? ⟨b, o + k, none⟩ = some (.slice Ai L.length ci) ∧ b < W.heap.size := fun W hW => ⟨(hW.cell (p := ⟨b, o + k, none⟩) (Nat.lt_of_lt_of_le hbl hB)).trans c0, by have := hW.size; omega⟩
      have hl : L.length ≤ 100000 := HM.out L (List.mem_of_getElem? hL)
      have HT := Lib.hid (show (Ls.take (k + 1)).map revL = (Ls.take k).map revL ++ [revL L] by rw [take_snoc1 hL]; simp)
      have HE := Lib.hid hE
      obtain ⟨rows, ho, hi⟩ := hO
      have HO := Lib.hid ho
      have HI := Lib.hid hi
      have HK := Lib.hid (show ((Ls.take k).map revL).length ≤ 100000 by simp; omega)
      obtain ⟨m, hm⟩ : ∃ m, m = L.length := ⟨_, rfl⟩
      rw [← hm] at HC hl
      have HLM := Lib.hid hm
      clear c0 hE hL ho hi hm
      obtain ⟨f0, f1⟩ := HC _ hb0
      generalize (Ls.take k).map revL = RL at *
      go_wp2
      go_loopw [5, 6] (fun v i wr => ∃ j : Nat, j ≤ m ∧ i = .int .i64 j ∧ wr.ownsRow wo.heap.size 43 3 v j (ptCells ((revL L).take j)) ∧ Below wo.heap.size wo wr) (fun _ i _ => m - (intOf i).toNat)
      case atStart => exact ⟨0, Nat.zero_le _, rfl, World.ownsRow_nil _ _ _ _, Below.refl _ _⟩
      case round =>
        clear f0 f1
        obtain ⟨j, hj, rfl, hown, hb⟩ := hrel
        obtain ⟨f0, f1⟩ := HC wr (hb0.trans (hb.mono hb0.size))
        have hbs := hb0.size
        have hbs2 := hb.size
        by_cases hjm : j < m
        · have d2 : decide ((j : Int) < (m : Int)) = true := by simp; omega
          obtain ⟨x, hx⟩ : ∃ x, x = if j = 0 then 0 else m - j := ⟨_, rfl⟩
          have hxm : x < m := by rw [hx]; split <;> omega
          obtain ⟨p, hp⟩ := at_some (L := L) (k := x) (by rw [← HLM.out]; exact hxm)
          have HP := Lib.hid (show ptCells ((revL L).take (j + 1)) = ptCells ((revL L).take j) ++ ptCells [p] by
            rw [take_snoc1 (revL_at (by rw [← HLM.out]; exact hjm) (by rw [← HLM.out]; exact hx) hp), ptCells_append])
          have e1 : IntKind.i64.wrap ((m : Int) - (j : Int)) = (m : Int) - (j : Int) := IntWalk.i64_in _ (by omega)
          have e2 : ((m : Int) - (j : Int)).tmod (m : Int) = (x : Int) := by
            rw [Int.tmod_eq_emod_of_nonneg (by omega), hx]
            by_cases h0 : j = 0
            · subst h0; simp
            · rw [if_neg h0, Int.emod_eq_of_lt (by omega) (by omega)]; omega
          have e3 : ¬ m = 0 := by omega
          obtain ⟨s, u, rfl, hs, c0, c1, c2⟩ := lists_pt HE.out hp
          obtain ⟨px, py, pz⟩ := p
          simp only at c0 c1 c2
          have HD : ∀ W, Below w.heap.size w W → W.cell? ⟨s, u + x * 3, none⟩ = some (.int .i64 px) ∧ W.cell? ⟨s, u + x * 3 + 1, none⟩ = some (.int .i64 py) ∧ W.cell? ⟨s, u + x * 3 + 2, none⟩ = some (.int .i64 pz) ∧ s < W.heap.size := fun W hW =>
            ⟨(hW.cell (p := ⟨s, u + x * 3, none⟩) (Nat.lt_of_lt_of_le hs hB)).trans c0, (hW.cell (p := ⟨s, u + x * 3 + 1, none⟩) (Nat.lt_of_lt_of_le hs hB)).trans c1, (hW.cell (p := ⟨s, u + x * 3 + 2, none⟩) (Nat.lt_of_lt_of_le hs hB)).trans c2, by have := hW.size; omega⟩
          have HW := Lib.hid hown
          clear c0 c1 c2 hp hx hown
          go_wp2
          clear f0 f1
          have hI : Below wo.heap.size wo wr.drew := hb.drew
          refine wp_region_chain (fun W => Below wo.heap.size wo W) [(0, false), (1, false), (2, false), (3, false), (4, false), (5, false), (6, false), (7, false), (8, false), (9, false), (10, false), (11, false), (12, false), (13, false), (14, false), (15, false), (16, false), (17, false), (18, false), (19, false), (20, true), (21, true), (22, false)] (by kernel_rfl) (by kernel_rfl) hI ?_
          repeat (first
            | (refine ChainL.skip (o := ?_) ?_ ?_ ?_; rotate_left; (focus (first | (simp only [List.getElem?_toArray, List.getElem?_cons_succ, List.getElem?_cons_zero]; with_reducible rfl) | (simp only [List.getElem?_toArray, List.getElem?_cons_zero]; with_reducible rfl))); (focus rfl); simp only [Act.put, List.setIfInBounds_toArray, List.set_cons_zero, List.set_cons_succ])
            | (refine ChainL.val (o := ?_) (v := ?_) ?_ ?_ ?_ ?_ ?_; rotate_left 2; (focus (first | (simp only [List.getElem?_toArray, List.getElem?_cons_succ, List.getElem?_cons_zero]; with_reducible rfl) | (simp only [List.getElem?_toArray, List.getElem?_cons_zero]; with_reducible rfl))); (focus (intro _ _ h; cases h)); (focus rfl); (focus (intro w' hJ; obtain ⟨y1, y2⟩ := HC _ (hb0.trans (hJ.mono hb0.size)); obtain ⟨z1, z2, z3, z4⟩ := HD _ (hb0.trans (hJ.mono hb0.size)); go_simp <;> with_reducible rfl)); simp only [Act.put, List.setIfInBounds_toArray, List.set_cons_zero, List.set_cons_succ]))
          refine ChainL.does (o := ?_) (v := ?_) (w1 := ?_) ?_ ?_ ?_ ?_ ?_
          rotate_left 3
          (focus (simp only [List.getElem?_toArray, List.getElem?_cons_succ, List.getElem?_cons_zero]; with_reducible rfl))
          (focus rfl)
          (focus (go_simp; (constructor <;> with_reducible rfl)))
          exact hI.alloc (by simp; omega) _
          simp only [Act.put, List.setIfInBounds_toArray, List.set_cons_zero, List.set_cons_succ]
          refine ChainL.append (o := ?_) ?_ ?_ (.tmp 22) (.tmp 42) 48 ?_ wo.heap.size 43 i1 (.agg #[.int .i64 0, .int .i64 0, .int .i64 0]) 3 24 Try.underlying48 HI1.out HZ1.out HS1.out HY1.out rfl (by decide) _ j (ptCells ((revL L).take j)) ?_ (own_stay HW.out ((Below.refl _ _).drew.alloc (Nat.le_refl _) _)) _ _ 1 1 (ptCells [(px, py, pz)]) ?_ (lists_pt1 wr.drew (px, py, pz) _) rfl (ptCells_one _) (by simp only [maxLen]; omega) (by omega) (by simp; omega) ?_
          rotate_left 1
          (focus (simp only [List.getElem?_toArray, List.getElem?_cons_succ, List.getElem?_cons_zero]; with_reducible rfl))
          (focus rfl)
          (focus rfl)
          (focus rfl)
          (focus rfl)
          intro v1 w1 own1 hg1 hat1
          have b1 : Below wo.heap.size wo w1 := (hI.alloc (by simp; omega) _).grown hg1 (by simp; omega) (fun b hb => (HW.out.lt b hb).1)
          refine ⟨b1, ?_⟩
          simp only [Act.put, List.setIfInBounds_toArray, List.set_cons_zero, List.set_cons_succ]
          repeat (first
            | (refine ChainL.skip (o := ?_) ?_ ?_ ?_; rotate_left; (focus (first | (simp only [List.getElem?_toArray, List.getElem?_cons_succ, List.getElem?_cons_zero]; with_reducible rfl) | (simp only [List.getElem?_toArray, List.getElem?_cons_zero]; with_reducible rfl))); (focus rfl); simp only [Act.put, List.setIfInBounds_toArray, List.set_cons_zero, List.set_cons_succ])
            | (refine ChainL.val (o := ?_) (v := ?_) ?_ ?_ ?_ ?_ ?_; rotate_left 2; (focus (first | (simp only [List.getElem?_toArray, List.getElem?_cons_succ, List.getElem?_cons_zero]; with_reducible rfl) | (simp only [List.getElem?_toArray, List.getElem?_cons_zero]; with_reducible rfl))); (focus (intro _ _ h; cases h)); (focus rfl); (focus (intro w' hJ; skip; go_simp <;> with_reducible rfl)); simp only [Act.put, List.setIfInBounds_toArray, List.set_cons_zero, List.set_cons_succ]))
          refine ChainL.nil ?_
          go_wp2
          go_roundw
          case rel => exact ⟨j + 1, by omega, by go_num, by rw [HP.out]; exact own1, b1⟩
          case measure => simp [intOf]; omega
        · obtain rfl : j = m := by omega
          have d2 : decide ((j : Int) < (j : Int)) = false := by simp
          have HTT := Lib.hid (show (revL L).take j = revL L by rw [List.take_of_length_le (by rw [revL_len]; have := HLM.out; omega)])
          have HW := Lib.hid (show wr.ownsRow wo.heap.size 43 3 u5 (revL L).length (ptCells (revL L)) by rw [HTT.out] at hown; rw [revL_len, ← HLM.out]; exact hown)
          obtain ⟨A1, c1, e5, _⟩ := own_lists HW.out
          subst e5
          clear hown
          go_wp2_with (first
            | (at_builtin; refine wpList_append_src _ rfl (.tmp 44) (.tmp 46) 22 rfl w.heap.size 48 i2 (.slice none 0 0) 1 24 Try.underlying22 HI2.out HZ2.out HS2.out HY2.out rfl (by decide) _ _ rows rfl (own_stay (own_stay HO.out hb) ((Below.refl _ _).alloc (Nat.le_refl _) _)) _ _ 1 1 [.slice A1 _ c1] rfl (lists_new1 wr _ _) rfl (fun u hu => by simp at hu; subst hu; rfl) (by simp only [maxLen]; have := HK.out; omega) (by have := HK.out; omega) (by have := hb.size; simp; omega) ?_; intro v2 w2 own2 hg2 _))
          go_roundw
          case rel => exact ⟨k + 1, by omega, by go_num, by rw [HT.out]; exact own2_push hbs HO.out HI.out hb HW.out ((Below.refl _ _).alloc (Nat.le_refl _) _) own2 hg2, ((hb0.trans (hb.mono hb0.size)).alloc (by omega) _).grown hg2 (by simp; omega) (fun j hj => (HO.out.lt j hj).1)⟩
          case measure => simp [intOf]; omega
    · obtain rfl : k = n := by omega
      have d1 : decide ((k : Int) < (k : Int)) = false := by simp
      have HT := Lib.hid (show Ls.take k = Ls by rw [HN.out]; exact List.take_length)
      go_wp2
      go_ret
      exact ⟨_, rfl, by rw [HT.out] at hO; exact hO, hb0⟩

end Go.Proofs.Ytmmdnhfonifhdaa

namespace Go.Proofs.Ytmmdnhfonifhdaa
open Go Go.RowKit

def midP (p q : Pt) : Pt := ((p.1 + q.1) / 2, (p.2.1 + q.2.1) / 2, 1)
theorem shr1 (a : Int) (w : World) (_ : -9223372036854775808 ≤ a) (_ : a ≤ 9223372036854775807) : (binOp .shr 3 (.int .i64 a) (.int .u64 1)).run Try.prog w = .ok (.int .i64 (a / 2)) w := by
  go_simp
set_option maxRecDepth 100000 in
theorem mid_any (x y z x' y' z' : Int) (w : World) (h1 : mayB x = true) (h2 : mayB y = true) (h3 : mayB x' = true) (h4 : mayB y' = true) :
    Calls Try.prog 60 #[.agg #[.int .i64 x, .int .i64 y, .int .i64 z], .agg #[.int .i64 x', .int .i64 y', .int .i64 z']] w fun e w' => e = .returned (.agg #[.int .i64 ((x + x') / 2), .int .i64 ((y + y') / 2), .int .i64 1]) ∧ Below w.heap.size w w' := by
  unfold mayB at h1 h2 h3 h4
  simp only [Bool.and_eq_true, decide_eq_true_eq] at h1 h2 h3 h4
  obtain ⟨a1, a2⟩ := h1
  obtain ⟨a3, a4⟩ := h2
  obtain ⟨a5, a6⟩ := h3
  obtain ⟨a7, a8⟩ := h4
  have s1 := fun w => shr1 (x + x') w (by omega) (by omega)
  have s2 := fun w => shr1 (y + y') w (by omega) (by omega)
  go_enter Try.func60, Try.ntmps60
  go_wp2
  exact bodyPost_ret (v := .agg #[.int .i64 ((x + x') / 2), .int .i64 ((y + y') / 2), .int .i64 1]) (by simp [results, Try.results60, go_sem]) rfl ⟨rfl, (((Below.refl _ _).alloc (Nat.le_refl _) _).alloc (by simp) _).alloc (by simp; omega) _⟩

set_option maxRecDepth 100000 in
theorem rmid_any (x y z x' y' z' : Int) (w : World) (h1 : mayB x = true) (h2 : mayB y = true) (h3 : mayB x' = true) (h4 : mayB y' = true) :
    Calls Try.prog 61 #[.agg #[.int .i64 x, .int .i64 y, .int .i64 z], .agg #[.int .i64 x', .int .i64 y', .int .i64 z']] w fun e w' => e = .returned (.agg #[.int .i64 ((x + x') / 2), .int .i64 ((y + y') / 2), .int .i64 1]) ∧ Below w.heap.size w w' := by
  unfold mayB at h1 h2 h3 h4
  simp only [Bool.and_eq_true, decide_eq_true_eq] at h1 h2 h3 h4
  obtain ⟨a1, a2⟩ := h1
  obtain ⟨a3, a4⟩ := h2
  obtain ⟨a5, a6⟩ := h3
  obtain ⟨a7, a8⟩ := h4
  have F1 := fun w => floor_ref (x + x') 2 w (by omega) (by omega) (by omega)
  have F2 := fun w => floor_ref (y + y') 2 w (by omega) (by omega) (by omega)
  have e1 : IntKind.i64.wrap (x + x') = x + x' := IntWalk.i64_in _ (by omega)
  have e2 : IntKind.i64.wrap (y + y') = y + y' := IntWalk.i64_in _ (by omega)
  go_enter Try.func61, Try.ntmps61
  go_wp2
  refine wp_region_chain_last (fun W => W = _) [(0, false), (1, false), (2, false), (3, false), (4, false), (6, false), (7, false), (8, false), (9, false), (10, false), (5, true), (11, true), (12, false)] _ _ (by rfl) (by rfl) (by kernel_rfl) (by kernel_rfl) rfl ?_
  repeat (first
    | (refine ChainL.skip (o := ?_) ?_ ?_ ?_; rotate_left; (focus (first | (simp only [List.getElem?_toArray, List.getElem?_cons_succ, List.getElem?_cons_zero]; with_reducible rfl) | (simp only [List.getElem?_toArray, List.getElem?_cons_zero]; with_reducible rfl))); (focus rfl); simp only [Act.put, List.setIfInBounds_toArray, List.set_cons_zero, List.set_cons_succ])
    | (refine ChainL.val (o := ?_) (v := ?_) ?_ ?_ ?_ ?_ ?_; rotate_left 2; (focus (first | (simp only [List.getElem?_toArray, List.getElem?_cons_succ, List.getElem?_cons_zero]; with_reducible rfl) | (simp only [List.getElem?_toArray, List.getElem?_cons_zero]; with_reducible rfl))); (focus (intro _ _ h; cases h)); (focus rfl); (focus (intro w' hJ; subst hJ; go_simp <;> with_reducible rfl)); simp only [Act.put, List.setIfInBounds_toArray, List.set_cons_zero, List.set_cons_succ]))
  refine ChainL.call (o := ?_) (f := ?_) (args := ?_) ?_ ?_ ?_ ?_
  rotate_left 3
  (focus (simp only [List.getElem?_toArray, List.getElem?_cons_succ, List.getElem?_cons_zero]; with_reducible rfl))
  (focus rfl)
  (focus (go_simp; (constructor <;> with_reducible rfl)))
  refine (F1 _).mono ?_
  rintro e _ ⟨rfl, rfl⟩
  refine ⟨_, rfl, rfl, ?_⟩
  simp only [Act.put, List.setIfInBounds_toArray, List.set_cons_zero, List.set_cons_succ]
  refine ChainL.call (o := ?_) (f := ?_) (args := ?_) ?_ ?_ ?_ ?_
  rotate_left 3
  (focus (simp only [List.getElem?_toArray, List.getElem?_cons_succ, List.getElem?_cons_zero]; with_reducible rfl))
  (focus rfl)
  (focus (go_simp; (constructor <;> with_reducible rfl)))
  refine (F2 _).mono ?_
  rintro e _ ⟨rfl, rfl⟩
  refine ⟨_, rfl, rfl, ?_⟩
  simp only [Act.put, List.setIfInBounds_toArray, List.set_cons_zero, List.set_cons_succ]
  repeat (first
    | (refine ChainL.skip (o := ?_) ?_ ?_ ?_; rotate_left; (focus (first | (simp only [List.getElem?_toArray, List.getElem?_cons_succ, List.getElem?_cons_zero]; with_reducible rfl) | (simp only [List.getElem?_toArray, List.getElem?_cons_zero]; with_reducible rfl))); (focus rfl); simp only [Act.put, List.setIfInBounds_toArray, List.set_cons_zero, List.set_cons_succ])
    | (refine ChainL.val (o := ?_) (v := ?_) ?_ ?_ ?_ ?_ ?_; rotate_left 2; (focus (first | (simp only [List.getElem?_toArray, List.getElem?_cons_succ, List.getElem?_cons_zero]; with_reducible rfl) | (simp only [List.getElem?_toArray, List.getElem?_cons_zero]; with_reducible rfl))); (focus (intro _ _ h; cases h)); (focus rfl); (focus (intro w' hJ; subst hJ; go_simp <;> with_reducible rfl)); simp only [Act.put, List.setIfInBounds_toArray, List.set_cons_zero, List.set_cons_succ]))
  refine ChainL.nil ?_
  go_wp2
  exact bodyPost_ret (v := .agg #[.int .i64 ((x + x') / 2), .int .i64 ((y + y') / 2), .int .i64 1]) (by simp [results, Try.results61, go_sem]) rfl ⟨rfl, ((((Below.refl _ _).alloc (Nat.le_refl _) _).alloc (by simp) _).alloc (by simp; omega) _).drew⟩

theorem isOn_any (x y z : Int) (r : Bool) (hr : (z == 1) = r) (w : World) :
    Calls Try.prog 58 #[.agg #[.int .i64 x, .int .i64 y, .int .i64 z]] w fun e w' => e = .returned (.bool r) ∧ Below w.heap.size w w' := by
  go_enter Try.func58, Try.ntmps58
  go_wp2
  go_ret
  exact ⟨rfl, (Below.refl _ _).alloc (Nat.le_refl _) _⟩

def isOn (p : Pt) : Bool := p.2.2 == 1
def hasOn (L : List Pt) : Bool := L.any isOn
def onI (L : List Pt) : Int := if hasOn L then (L.findIdx isOn : Nat) else -1
/-- Where a contour begins. -/
def st (L : List Pt) : Nat := if hasOn L then L.findIdx isOn else 0
theorem on_at {L : List Pt} {k : Nat} {p : Pt} (hp : L[k]? = some p) (h1 : isOn p = true) (h : ∀ (j : Nat) (q : Pt), j < k → L[j]? = some q → isOn q = false) : hasOn L = true ∧ L.findIdx isOn = k := by
  obtain ⟨hk, he⟩ := List.getElem?_eq_some_iff.1 hp
  refine ⟨List.any_eq_true.2 ⟨p, List.mem_of_getElem? hp, h1⟩, (List.findIdx_eq hk).2 ⟨by rw [he]; exact h1, fun j hj => ?_⟩⟩
  exact h j _ hj (List.getElem?_eq_getElem _)
theorem onI_at {L : List Pt} {k : Nat} {p : Pt} (hp : L[k]? = some p) (h1 : isOn p = true) (h : ∀ (j : Nat) (q : Pt), j < k → L[j]? = some q → isOn q = false) : onI L = k := by
  obtain ⟨a, b⟩ := on_at hp h1 h
  unfold onI; rw [if_pos a, b]
theorem on_none {L : List Pt} (h : ∀ (j : Nat) (q : Pt), L[j]? = some q → isOn q = false) : hasOn L = false := by
  cases h2 : hasOn L
  · rfl
  · obtain ⟨p, hp, h3⟩ := List.any_eq_true.1 h2
    obtain ⟨j, hj⟩ := List.mem_iff_getElem?.1 hp
    rw [h j p hj] at h3; cases h3
theorem onI_none {L : List Pt} (h : ∀ (j : Nat) (q : Pt), L[j]? = some q → isOn q = false) : onI L = -1 := by
  unfold onI; rw [on_none h]; rfl
theorem st_lt {L : List Pt} (h : 0 < L.length) : st L < L.length := by
  unfold st
  cases h2 : hasOn L
  · exact h
  · rw [if_pos rfl]; exact List.findIdx_lt_length.2 (by simpa [hasOn] using h2)
theorem st_max (L : List Pt) : max (onI L) 0 = (st L : Int) := by
  unfold onI st
  cases hasOn L
  · rfl
  · simp only [if_true]; omega

set_option maxRecDepth 100000 in
theorem indexOn_any (B : Nat) (A : Option Addr) (c : Nat) (L : List Pt) (w : World) (hB : B ≤ w.heap.size) (h : Lists w B A (ptCells L)) (hn : L.length ≤ 10000000) :
    Calls Try.prog 57 #[.slice A L.length c, .func (.func 58) #[] #[]] w fun e w' => e = .returned (.int .i64 (onI L)) ∧ Below w.heap.size w w' := by
  have HL := Lib.hid h
  clear h
  obtain ⟨n, hnn⟩ : ∃ n, n = L.length := ⟨_, rfl⟩
  rw [← hnn] at hn ⊢
  have HN := Lib.hid hnn
  clear hnn
  obtain ⟨r, hr⟩ : ∃ r, onI L = r := ⟨_, rfl⟩
  rw [hr]
  have HR := Lib.hid hr
  clear hr
  go_enter Try.func57, Try.ntmps57
  go_wp2
  go_loopw [8] (fun i wr => ∃ k : Nat, k ≤ n ∧ i = .int .i64 k ∧ Hid (∀ (j : Nat) (q : Pt), j < k → L[j]? = some q → isOn q = false) ∧ Below w.heap.size w wr) (fun i _ => n - (intOf i).toNat)
  case atStart => exact ⟨0, Nat.zero_le _, rfl, Lib.hid (fun j q h => absurd h (Nat.not_lt_zero _)), Below.refl _ _⟩
  case round =>
    obtain ⟨k, hk, rfl, HK, hb⟩ := hrel
    by_cases hlt : k < n
    · have d1 : decide ((k : Int) < (n : Int)) = true := by simp; omega
      obtain ⟨⟨x, y, z⟩, hp⟩ := at_some (L := L) (k := k) (by rw [← HN.out]; exact hlt)
      obtain ⟨b, o, rfl, hbl, c0, c1, c2⟩ := lists_pt HL.out hp
      have g0 := (hb.cell (p := ⟨b, o + k * 3, none⟩) (Nat.lt_of_lt_of_le hbl hB)).trans c0
      have g1 := (hb.cell (p := ⟨b, o + k * 3 + 1, none⟩) (Nat.lt_of_lt_of_le hbl hB)).trans c1
      have g2 := (hb.cell (p := ⟨b, o + k * 3 + 2, none⟩) (Nat.lt_of_lt_of_le hbl hB)).trans c2
      have g3 : b < wr.heap.size := by have := hb.size; omega
      simp only at g0 g1 g2
      clear c0 c1 c2
      cases hz : (z == 1)
      · have C := isOn_any x y z false hz
        have HS := Lib.hid (show ∀ (j : Nat) (q : Pt), j < k + 1 → L[j]? = some q → isOn q = false from fun j q hj hq => by
          rcases Nat.lt_or_ge j k with h1 | h1
          · exact HK.out j q h1 hq
          · obtain rfl : j = k := by omega
            rw [hp] at hq; cases hq; exact hz)
        clear hp hz
        go_wp2_with (first | (go_at_call 58; ((with_reducible refine (C _).mono ?_); rintro e w1 ⟨rfl, b1⟩)))
        go_roundw
        case rel => exact ⟨k + 1, by omega, by go_num, HS, hb.trans (b1.mono hb.size)⟩
        case measure => simp [intOf]; omega
      · have C := isOn_any x y z true hz
        have HS := Lib.hid (show r = (k : Int) by rw [← HR.out]; exact onI_at hp hz HK.out)
        clear hp hz
        go_wp2_with (first | (go_at_call 58; ((with_reducible refine (C _).mono ?_); rintro e w1 ⟨rfl, b1⟩)))
        go_ret
        exact ⟨ret_int HS.out.symm, hb.trans (b1.mono hb.size)⟩
    · obtain rfl : k = n := by omega
      have d1 : decide ((k : Int) < (k : Int)) = false := by simp
      have HS := Lib.hid (show r = -1 by rw [← HR.out]; exact onI_none (fun j q hq => HK.out j q (by rw [HN.out]; exact (List.getElem?_eq_some_iff.1 hq).1) hq))
      go_wp2
      go_ret
      exact ⟨ret_int HS.out.symm, hb⟩

end Go.Proofs.Ytmmdnhfonifhdaa
