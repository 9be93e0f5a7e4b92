/- Metrics, loaded. -/
import Derived.Test.YtdbhfigdojkceaaMet6
namespace Go.Proofs.Ytdbhfigdojkceaa
open Go Go.RowKit

def advsTo (bs : List Value) (m k : Nat) : List Int := (List.range k).map (advAt bs m)
def bearsTo (bs : List Value) (m k : Nat) : List Int := (List.range k).map (bearAt bs m)
theorem advsTo_succ (bs : List Value) (m k : Nat) : advsTo bs m (k + 1) = advsTo bs m k ++ [advAt bs m k] := by simp [advsTo, List.range_succ]
theorem bearsTo_succ (bs : List Value) (m k : Nat) : bearsTo bs m (k + 1) = bearsTo bs m k ++ [bearAt bs m k] := by simp [bearsTo, List.range_succ]
theorem advsTo_len (bs : List Value) (m k : Nat) : (advsTo bs m k).length = k := by simp [advsTo]
theorem bearsTo_len (bs : List Value) (m k : Nat) : (bearsTo bs m k).length = k := by simp [bearsTo]
theorem lists_take {w : World} {B : Nat} {A : Option Addr} {xs : List Value} (h : Lists w B A xs) (k : Nat) : Lists w B A (xs.take k) :=
  ⟨fun ha => by rw [h.nil ha]; simp, fun a ha j u hu => h.cell a ha j u (by rw [List.getElem?_take] at hu; split at hu; exact hu; cases hu), fun a ha hx => h.lt a ha (by intro e; rw [e] at hx; simp at hx)⟩
theorem bytes_take {l : List Value} (h : Bytes8 l) (k : Nat) : Bytes8 (l.take k) := fun u hu => h u (List.mem_of_mem_take hu)

/-- Metrics at t: these advances and bearings. -/
def MetAt (w : World) (t : Nat) (us zs : List Int) : Prop := ∃ (A1 : Option Addr) (c1 : Nat) (A2 : Option Addr) (c2 : Nat), Blk w t 68 #[.slice A1 us.length c1, .slice A2 zs.length c2] ∧ Lists w w.heap.size A1 (intCells us) ∧ Lists w w.heap.size A2 (intCells zs)
theorem MetAt.below {w w1 : World} {t : Nat} {us zs : List Int} (h : MetAt w t us zs) (k : Below w.heap.size w w1) : MetAt w1 t us zs := by
  obtain ⟨A1, c1, A2, c2, h1, h2, h3⟩ := h
  exact ⟨A1, c1, A2, c2, h1.below k, (h2.below k).more k.size, (h3.below k).more k.size⟩
def MadeMet (w : World) (bs : List Value) (m n : Nat) (e : Ending) (w' : World) : Prop := ∃ t, e = .returned (.tuple #[.pointer (some ⟨t, 0, none⟩), .int .i64 0]) ∧ MetAt w' t (advsTo bs m m) (bearsTo bs m n) ∧ Below w.heap.size w w'
/-- Nothing was loaded: error n. -/
def NoPtr (w : World) (n : Int) (e : Ending) (w' : World) : Prop := e = .returned (.tuple #[.pointer none, .int .i64 n]) ∧ Below w.heap.size w w'

theorem mload_arg (A : Option Addr) (l c : Nat) (n m : Int) (w : World) (hr : cmB n m = false) :
    Calls Try.prog 11 #[.slice A l c, .int .i64 n, .int .i64 m] w (NoPtr w 1) := by
  have C := fun w => counts_any n m false hr w
  clear hr
  go_enter Try.func11, Try.ntmps11
  go_wp2_with (first | (go_at_call 25; ((with_reducible refine (C _).mono ?_); rintro e w1 ⟨rfl, b⟩)))
  go_ret2
  exact ⟨rfl, b⟩
theorem mload_short (A : Option Addr) (l c : Nat) (n m : Nat) (w : World) (hr : cmB n m = true) (hl : l < posM m n) :
    Calls Try.prog 11 #[.slice A l c, .int .i64 (n : Nat), .int .i64 (m : Nat)] w (NoPtr w 60) := by
  have C := fun w => counts_any n m true hr w
  have h := cmB_true hr
  have C3 := fun w => metricsLen_any n m (by omega) (by omega) w
  clear hr h
  generalize posM m n = R at *
  have d : decide ((l : Int) < (R : Int)) = true := by simp; omega
  go_enter Try.func11, Try.ntmps11
  go_wp2_with (first | (go_at_call 25; ((with_reducible refine (C _).mono ?_); rintro e w1 ⟨rfl, b⟩)) | (go_at_call 30; ((with_reducible refine (C3 _).mono ?_); rintro e w' ⟨rfl, rfl⟩)))
  go_ret2
  exact ⟨rfl, b⟩

set_option maxRecDepth 100000 in
set_option maxHeartbeats 1000000 in
theorem mload_ok (A : Option Addr) (c : Nat) (E : List Value) (n m : Nat) (w : World) (hE : Lists w w.heap.size A E) (h8 : Bytes8 E) (hcap : E.length ≤ c) (hr : cmB n m = true) (hl : posM m n ≤ E.length) :
    Calls Try.prog 11 #[.slice A E.length c, .int .i64 (n : Nat), .int .i64 (m : Nat)] w (MadeMet w (E.take (posM m n)) m n) := by
  have C := fun w => counts_any n m true hr w
  have h := cmB_true hr
  have C3 := fun w => metricsLen_any n m (by omega) (by omega) w
  have hRb : posM m n ≤ 262140 := by unfold posM; omega
  have hmn : m ≤ n := by omega
  have hm1 : 1 ≤ m := by omega
  have hn1 : n ≤ 65535 := by omega
  obtain ⟨bs, hbs⟩ : ∃ bs, bs = E.take (posM m n) := ⟨_, rfl⟩
  have hbl : bs.length = posM m n := by rw [hbs, List.length_take]; omega
  have C4 := fun W (hb : Below w.heap.size w W) c' => new_any A (posM m n) c' bs W (by rw [hbs]; exact (lists_take (hE.below hb) _).more hb.size) hbl (by rw [hbs]; exact bytes_take h8 _) (by omega)
  rw [← hbs]
  obtain ⟨R, hRR⟩ : ∃ R, R = posM m n := ⟨_, rfl⟩
  rw [← hRR] at C3 hRb hl hbl C4
  have HB := Lib.hid hbl
  have HR := Lib.hid hRR
  clear hr h hbs hE h8 hbl hRR
  generalize E.length = l at *
  have d : decide ((l : Int) < (R : Int)) = false := by simp; omega
  have d1 : (R : Int) ≤ (c : Int) := by omega
  have d2 : (0 : Int) ≤ (R : Int) := by omega
  have d3 : (R : Int) ≤ (l : Int) := by omega
  obtain ⟨i0, hi, hz0, hz1, hz2⟩ := info_parts intInfo
  go_enter Try.func11, Try.ntmps11
  go_wp2_with (first | (go_at_call 25; ((with_reducible refine (C _).mono ?_); rintro e w1 ⟨rfl, b⟩)) | (go_at_call 30; ((with_reducible refine (C3 _).mono ?_); rintro e w' ⟨rfl, rfl⟩)) | (go_at_call 34; ((with_reducible refine (C4 _ b _).mono ?_); rintro e w2 ⟨p, rfl, hr, b2, hp⟩)))
  have hlt := hr.lt
  have hls : LSt w w2.heap.size (fun b => w1.heap.size ≤ b ∧ b < w2.heap.size) (w2.alloc (.cells #[.slice none 0 0, .slice none 0 0] 68)) p w2.heap.size bs 0 [] [] (.slice none 0 0) (.slice none 0 0) :=
    ⟨hr.below ((Below.refl _ _).alloc (Nat.le_refl _) _), Blk.new w2 _ _, ⟨rfl, .inl ⟨rfl, rfl⟩⟩, ⟨rfl, .inl ⟨rfl, rfl⟩⟩, (fun _ h => (nomatch h)), (b.trans (b2.mono b.size)).alloc (Nat.le_trans b.size b2.size) _, Nat.le_trans b.size hp, Nat.le_trans b.size b2.size, Nat.le_refl _, (fun b h => h.2), by omega, (fun h => (nomatch h)), fun h => (nomatch h)⟩
  clear C C3 C4 hr b b2 hp hlt
  generalize (fun b => w1.heap.size ≤ b ∧ b < w2.heap.size) = q at hls
  generalize hB0 : w2.heap.size = t at *
  generalize (w2.alloc (.cells #[.slice none 0 0, .slice none 0 0] 68)) = w3 at *
  clear hB0
  go_loopw [30] (fun i wr => ∃ k : Nat, k ≤ n ∧ i = .int .i64 k ∧ ∃ av bv, LSt w t q wr p t bs (posM m k) (advsTo bs m (min k m)) (bearsTo bs m k) av bv) (fun i _ => n - (intOf i).toNat)
  case atStart => exact ⟨0, Nat.zero_le _, rfl, .slice none 0 0, .slice none 0 0, by rw [show posM m 0 = 0 by simp [posM], show min 0 m = 0 by omega]; exact hls⟩
  case round =>
    obtain ⟨k, hk, rfl, av, bv, hl⟩ := hrel
    clear hls
    by_cases hlt : k < n
    · have e1 : decide ((k : Int) < (n : Int)) = true := by simp; omega
      by_cases hkm : k < m
      · have e2 : decide ((k : Int) < (m : Int)) = true := by simp; omega
        have him := posM_mono m (k + 1) n hlt
        rw [posM_succ] at him
        unfold bearPos at him
        rw [if_pos hkm] at him
        go_wp2
        have hl := hl.below ((Below.refl _ _).drew)
        refine wp_region_chain_last (fun w' => w'.cell? ⟨t, 0, none⟩ = some av) [(0, false), (1, false), (2, false), (3, false), (4, false), (5, false), (6, true), (7, true), (8, true), (9, false), (10, false)] _ _ (by rfl) (by rfl) (by kernel_rfl) (by kernel_rfl) ?_ ?_
        exact (hl.2.1.cell 0).trans rfl
        repeat (refine ChainL.val (o := ?_) (v := ?_) ?_ ?_ ?_ ?_ ?_; rotate_left 2; (focus (simp only [List.getElem?_toArray, List.getElem?_cons_succ, List.getElem?_cons_zero]; with_reducible rfl)); (focus (intro _ _ h; cases h)); (focus rfl); (focus (intro w' hI; go_simp <;> with_reducible rfl)); simp only [Act.put, List.setIfInBounds_toArray, List.set_cons_zero, List.set_cons_succ])
        refine ChainL.call (o := ?_) (f := ?_) (args := ?_) ?_ ?_ ?_ ?_
        rotate_left 3
        (focus (simp only [List.getElem?_toArray, List.getElem?_cons_succ, List.getElem?_cons_zero]; with_reducible rfl))
        (focus rfl)
        (focus (go_simp; (constructor <;> with_reducible rfl)))
        refine (rdU16 p bs (posM m k) _ hl.1 (by have := HB.out; omega) (by have := HB.out; have := HR.out; omega)).mono ?_
        rintro e w2 ⟨rfl, hr2, o2⟩
        have hl2 := hl.read hr2 o2
        refine ⟨_, rfl, (hl2.2.1.cell 0).trans rfl, ?_⟩
        simp only [Act.put, List.setIfInBounds_toArray, List.set_cons_zero, List.set_cons_succ]
        refine ChainL.does (o := ?_) (v := ?_) (w1 := ?_) ?_ ?_ ?_ ?_ ?_
        rotate_left 3
        (focus (simp only [List.getElem?_toArray, List.getElem?_cons_succ, List.getElem?_cons_zero]; with_reducible rfl))
        (focus rfl)
        (focus (go_simp; (constructor <;> with_reducible rfl)))
        (focus (exact ((hl2.below ((Below.refl _ _).alloc (Nat.le_refl _) _)).2.1.cell 0).trans rfl))
        simp only [Act.put, List.setIfInBounds_toArray, List.set_cons_zero, List.set_cons_succ]
        have hl3 := hl2.below ((Below.refl _ w2).alloc (Nat.le_refl _) (.cells #[.int .i64 ((rd2 bs (posM m k) : Nat))] 3))
        refine ChainL.append (o := ?_) ?_ ?_ (.tmp 40) (.tmp 43) 38 ?_ t 3 i0 (.int .i64 0) 1 8 Try.underlying38 hi hz0 hz1 hz2 rfl (by decide) av _ (intCells (advsTo bs m (min k m))) ?_ hl3.2.2.1 _ _ 1 1 [.int .i64 ((rd2 bs (posM m k) : Nat))] ?_ (lists_new w2 #[.int .i64 ((rd2 bs (posM m k) : Nat))] 3 [.int .i64 ((rd2 bs (posM m k) : Nat))] (fun j u hu => by simpa using hu)) rfl (by simp [Value.oneCell']) (by simp only [maxLen, advsTo_len]; omega) (by simp only [advsTo_len]; omega) (Nat.le_of_lt (Nat.lt_of_le_of_lt (Nat.le_refl t) hl3.2.1.lt)) ?_
        rotate_left
        (focus (simp only [List.getElem?_toArray, List.getElem?_cons_succ, List.getElem?_cons_zero]; with_reducible rfl))
        (focus rfl)
        (focus rfl)
        (focus rfl)
        (focus rfl)
        intro v4 w4 hown hg hat
        obtain ⟨A4, k4, rfl, _, _⟩ := own_lists hown
        have hl4 := hl3.adv hown hg hat
        refine ⟨((hl3.stayA hg).cell 0).trans rfl, ?_⟩
        simp only [Act.put, List.setIfInBounds_toArray, List.set_cons_zero, List.set_cons_succ]
        repeat (refine ChainL.val (o := ?_) (v := ?_) ?_ ?_ ?_ ?_ ?_; rotate_left 2; (focus (simp only [List.getElem?_toArray, List.getElem?_cons_succ, List.getElem?_cons_zero]; with_reducible rfl)); (focus (intro _ _ h; cases h)); (focus rfl); (focus (intro w' hI; go_simp <;> with_reducible rfl)); simp only [Act.put, List.setIfInBounds_toArray, List.set_cons_zero, List.set_cons_succ])
        refine ChainL.nil ?_
        have F := (hl3.stayA hg).kb
        simp only [KB, CellsAt, Nat.zero_add, and_true] at F
        go_wp2

        clear hl hl2 hl3 hr2 o2 hown hg hat F
        have hl := hl4.below ((Below.refl _ _).drew)
        clear hl4
        generalize (Value.slice A4 ((advsTo bs m (min k m)).length + 1) k4) = av1 at *
        refine wp_region_chain_last (fun w' => w'.cell? ⟨t, 1, none⟩ = some bv) [(0, false), (1, false), (2, false), (3, false), (4, false), (5, false), (6, true), (7, true), (8, true), (9, false), (10, false)] _ _ (by rfl) (by rfl) (by kernel_rfl) (by kernel_rfl) ?_ ?_
        exact (hl.2.1.cell 1).trans rfl
        repeat (refine ChainL.val (o := ?_) (v := ?_) ?_ ?_ ?_ ?_ ?_; rotate_left 2; (focus (simp only [List.getElem?_toArray, List.getElem?_cons_succ, List.getElem?_cons_zero]; with_reducible rfl)); (focus (intro _ _ h; cases h)); (focus rfl); (focus (intro w' hI; go_simp <;> with_reducible rfl)); simp only [Act.put, List.setIfInBounds_toArray, List.set_cons_zero, List.set_cons_succ])
        refine ChainL.call (o := ?_) (f := ?_) (args := ?_) ?_ ?_ ?_ ?_
        rotate_left 3
        (focus (simp only [List.getElem?_toArray, List.getElem?_cons_succ, List.getElem?_cons_zero]; with_reducible rfl))
        (focus rfl)
        (focus (go_simp; (constructor <;> with_reducible rfl)))
        refine (rdI16 p bs (posM m k + 2) _ hl.1 (by have := HB.out; omega) (by have := HB.out; have := HR.out; omega)).mono ?_
        rintro e w2 ⟨rfl, hr2, o2⟩
        have hl2 := hl.read hr2 o2
        refine ⟨_, rfl, (hl2.2.1.cell 1).trans rfl, ?_⟩
        simp only [Act.put, List.setIfInBounds_toArray, List.set_cons_zero, List.set_cons_succ]
        refine ChainL.does (o := ?_) (v := ?_) (w1 := ?_) ?_ ?_ ?_ ?_ ?_
        rotate_left 3
        (focus (simp only [List.getElem?_toArray, List.getElem?_cons_succ, List.getElem?_cons_zero]; with_reducible rfl))
        (focus rfl)
        (focus (go_simp; (constructor <;> with_reducible rfl)))
        (focus (exact ((hl2.below ((Below.refl _ _).alloc (Nat.le_refl _) _)).2.1.cell 1).trans rfl))
        simp only [Act.put, List.setIfInBounds_toArray, List.set_cons_zero, List.set_cons_succ]
        have hl3 := hl2.below ((Below.refl _ w2).alloc (Nat.le_refl _) (.cells #[.int .i64 (s16 (rd2 bs (posM m k + 2)))] 3))
        refine ChainL.append (o := ?_) ?_ ?_ (.tmp 51) (.tmp 54) 38 ?_ t 3 i0 (.int .i64 0) 1 8 Try.underlying38 hi hz0 hz1 hz2 rfl (by decide) bv _ (intCells (bearsTo bs m k)) ?_ hl3.2.2.2.1 _ _ 1 1 [.int .i64 (s16 (rd2 bs (posM m k + 2)))] ?_ (lists_new w2 #[.int .i64 (s16 (rd2 bs (posM m k + 2)))] 3 [.int .i64 (s16 (rd2 bs (posM m k + 2)))] (fun j u hu => by simpa using hu)) rfl (by simp [Value.oneCell']) (by simp only [maxLen, bearsTo_len]; omega) (by simp only [bearsTo_len]; omega) (Nat.le_of_lt (Nat.lt_of_le_of_lt (Nat.le_refl t) hl3.2.1.lt)) ?_
        rotate_left
        (focus (simp only [List.getElem?_toArray, List.getElem?_cons_succ, List.getElem?_cons_zero]; with_reducible rfl))
        (focus rfl)
        (focus rfl)
        (focus rfl)
        (focus rfl)
        intro v4 w4 hown hg hat
        obtain ⟨A4, k4, rfl, _, _⟩ := own_lists hown
        have hl4 := hl3.bear hown hg hat
        refine ⟨((hl3.stayB hg).cell 1).trans rfl, ?_⟩
        simp only [Act.put, List.setIfInBounds_toArray, List.set_cons_zero, List.set_cons_succ]
        repeat (refine ChainL.val (o := ?_) (v := ?_) ?_ ?_ ?_ ?_ ?_; rotate_left 2; (focus (simp only [List.getElem?_toArray, List.getElem?_cons_succ, List.getElem?_cons_zero]; with_reducible rfl)); (focus (intro _ _ h; cases h)); (focus rfl); (focus (intro w' hI; go_simp <;> with_reducible rfl)); simp only [Act.put, List.setIfInBounds_toArray, List.set_cons_zero, List.set_cons_succ])
        refine ChainL.nil ?_
        have F := (hl3.stayB hg).kb
        simp only [KB, CellsAt, Nat.zero_add, and_true] at F
        go_wp2

        go_roundw
        case rel =>
          refine ⟨k + 1, by omega, by go_num, av1, .slice A4 ((bearsTo bs m k).length + 1) k4, ?_⟩
          rw [show min (k + 1) m = k + 1 by omega, advsTo_succ, bearsTo_succ, posM_succ]
          rw [show min k m = k by omega] at hl4
          unfold bearPos bearAt bearPos advAt
          rw [if_pos hkm]
          exact hl4
        case measure => simp [intOf]; omega
      · have e2 : decide ((k : Int) < (m : Int)) = false := by simp; omega
        have him := posM_mono m (k + 1) n hlt
        rw [posM_succ] at him
        unfold bearPos at him
        rw [if_neg hkm] at him
        go_wp2
        have hl := hl.below ((Below.refl _ _).drew)
        refine wp_region_chain_last (fun w' => w'.cell? ⟨t, 1, none⟩ = some bv) [(0, false), (1, false), (2, false), (3, false), (4, false), (5, false), (6, true), (7, true), (8, true), (9, false), (10, false)] _ _ (by rfl) (by rfl) (by kernel_rfl) (by kernel_rfl) ?_ ?_
        exact (hl.2.1.cell 1).trans rfl
        repeat (refine ChainL.val (o := ?_) (v := ?_) ?_ ?_ ?_ ?_ ?_; rotate_left 2; (focus (simp only [List.getElem?_toArray, List.getElem?_cons_succ, List.getElem?_cons_zero]; with_reducible rfl)); (focus (intro _ _ h; cases h)); (focus rfl); (focus (intro w' hI; go_simp <;> with_reducible rfl)); simp only [Act.put, List.setIfInBounds_toArray, List.set_cons_zero, List.set_cons_succ])
        refine ChainL.call (o := ?_) (f := ?_) (args := ?_) ?_ ?_ ?_ ?_
        rotate_left 3
        (focus (simp only [List.getElem?_toArray, List.getElem?_cons_succ, List.getElem?_cons_zero]; with_reducible rfl))
        (focus rfl)
        (focus (go_simp; (constructor <;> with_reducible rfl)))
        refine (rdI16 p bs (posM m k) _ hl.1 (by have := HB.out; omega) (by have := HB.out; have := HR.out; omega)).mono ?_
        rintro e w2 ⟨rfl, hr2, o2⟩
        have hl2 := hl.read hr2 o2
        refine ⟨_, rfl, (hl2.2.1.cell 1).trans rfl, ?_⟩
        simp only [Act.put, List.setIfInBounds_toArray, List.set_cons_zero, List.set_cons_succ]
        refine ChainL.does (o := ?_) (v := ?_) (w1 := ?_) ?_ ?_ ?_ ?_ ?_
        rotate_left 3
        (focus (simp only [List.getElem?_toArray, List.getElem?_cons_succ, List.getElem?_cons_zero]; with_reducible rfl))
        (focus rfl)
        (focus (go_simp; (constructor <;> with_reducible rfl)))
        (focus (exact ((hl2.below ((Below.refl _ _).alloc (Nat.le_refl _) _)).2.1.cell 1).trans rfl))
        simp only [Act.put, List.setIfInBounds_toArray, List.set_cons_zero, List.set_cons_succ]
        have hl3 := hl2.below ((Below.refl _ w2).alloc (Nat.le_refl _) (.cells #[.int .i64 (s16 (rd2 bs (posM m k)))] 3))
        refine ChainL.append (o := ?_) ?_ ?_ (.tmp 51) (.tmp 54) 38 ?_ t 3 i0 (.int .i64 0) 1 8 Try.underlying38 hi hz0 hz1 hz2 rfl (by decide) bv _ (intCells (bearsTo bs m k)) ?_ hl3.2.2.2.1 _ _ 1 1 [.int .i64 (s16 (rd2 bs (posM m k)))] ?_ (lists_new w2 #[.int .i64 (s16 (rd2 bs (posM m k)))] 3 [.int .i64 (s16 (rd2 bs (posM m k)))] (fun j u hu => by simpa using hu)) rfl (by simp [Value.oneCell']) (by simp only [maxLen, bearsTo_len]; omega) (by simp only [bearsTo_len]; omega) (Nat.le_of_lt (Nat.lt_of_le_of_lt (Nat.le_refl t) hl3.2.1.lt)) ?_
        rotate_left
        (focus (simp only [List.getElem?_toArray, List.getElem?_cons_succ, List.getElem?_cons_zero]; with_reducible rfl))
        (focus rfl)
        (focus rfl)
        (focus rfl)
        (focus rfl)
        intro v4 w4 hown hg hat
        obtain ⟨A4, k4, rfl, _, _⟩ := own_lists hown
        have hl4 := hl3.bear hown hg hat
        refine ⟨((hl3.stayB hg).cell 1).trans rfl, ?_⟩
        simp only [Act.put, List.setIfInBounds_toArray, List.set_cons_zero, List.set_cons_succ]
        repeat (refine ChainL.val (o := ?_) (v := ?_) ?_ ?_ ?_ ?_ ?_; rotate_left 2; (focus (simp only [List.getElem?_toArray, List.getElem?_cons_succ, List.getElem?_cons_zero]; with_reducible rfl)); (focus (intro _ _ h; cases h)); (focus rfl); (focus (intro w' hI; go_simp <;> with_reducible rfl)); simp only [Act.put, List.setIfInBounds_toArray, List.set_cons_zero, List.set_cons_succ])
        refine ChainL.nil ?_
        have F := (hl3.stayB hg).kb
        simp only [KB, CellsAt, Nat.zero_add, and_true] at F
        go_wp2

        go_roundw
        case rel =>
          refine ⟨k + 1, by omega, by go_num, av, .slice A4 ((bearsTo bs m k).length + 1) k4, ?_⟩
          rw [show min (k + 1) m = min k m by omega, bearsTo_succ, posM_succ]
          unfold bearPos bearAt bearPos
          rw [if_neg hkm]
          exact hl4
        case measure => simp [intOf]; omega
    · have e1 : decide ((k : Int) < (n : Int)) = false := by simp; omega
      obtain rfl : k = n := by omega
      rw [show min k m = m by omega] at hl
      obtain ⟨h1, h2, h3, h4, h5, h6, h7⟩ := hl
      obtain ⟨A1, c1, rfl, l1, _⟩ := own_lists h3
      obtain ⟨A2, c2, rfl, l2, _⟩ := own_lists h4
      go_wp2
      go_ret2
      exact ⟨t, rfl, ⟨A1, c1, A2, c2, h2, l1, l2⟩, h6⟩

end Go.Proofs.Ytdbhfigdojkceaa
