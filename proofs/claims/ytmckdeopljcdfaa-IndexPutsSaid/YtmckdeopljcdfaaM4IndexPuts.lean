/- Part 5 of the proof: IxA, Ws, Flat, IxB, IxC. -/
import Derived.Deep.MidRow
import Derived.Laws.ResultCell
import Derived.Laws.Rows
import Derived.Laws.Tables
import Derived.Laws.CopyOwn
import Derived.LoopTactic
import Derived.Test.YtmckdeopljcdfaaM3IndexPuts

namespace Go.Proofs.Ytmckdeopljcdfaa
open Go Go.RowKit
set_option linter.unusedVariables false
set_option linter.unusedSimpArgs false

theorem slice_ok (A : Option Addr) (n c a b : Nat) (h1 : a ≤ b) (h2 : b ≤ c) (w : World) : (Instr.sliceAt 22 (.slice A n c) (some (.int .i64 (a : Nat))) (some (.int .i64 (b : Nat))) none).run Try.prog w = .ok (.slice (if c = a then A else A.map (·.add a)) (b - a) (c - a)) w := by
  have hu := Try.underlying22
  have hz := Try.sizeOf5
  have i1 : (0 : Int) ≤ (b : Int) := by omega
  have i2 : (b : Int) ≤ (c : Int) := by omega
  have i3 : (0 : Int) ≤ (a : Int) := by omega
  have i4 : (a : Int) ≤ (b : Int) := by omega
  simp [Instr.sliceAt, Instr.slice, Instr.sliceBounds, Instr.sliceBound, run_underlying hu, Sem.run_bind, Sem.run_pure, Result.andThen, asIntOf, hz, i1, i3, h1, h2]
theorem lists_cut {w : World} {B : Nat} {A : Option Addr} {D : List Value} (h : Lists w B A D) (a b c : Nat) (h1 : a ≤ b) (h2 : b ≤ c) : Lists w B (if c = a then A else A.map (·.add a)) ((D.drop a).take (b - a)) := by
  by_cases hc : c = a
  · rw [if_pos hc, show b - a = 0 by omega, List.take_zero]
    exact ⟨fun _ => rfl, fun _ _ j u hu => by simp at hu, fun _ _ hx => absurd rfl hx⟩
  · rw [if_neg hc]
    exact lists_part h a (b - a)
/-- An Index as it lies: its offsets, its bytes, how many it has. -/
structure IxAt (w : World) (p B : Nat) (os : List Nat) (D : List Value) (size : Int) : Prop where
  low : p < B
  out : ∃ Ao co Ad cd, Blk w p 50 #[.slice Ao os.length co, .slice Ad D.length cd, .int .i64 size] ∧ Lists w B Ao (intCells (os.map Int.ofNat)) ∧ Lists w B Ad D ∧ D.length ≤ cd ∧ Bytes8 D ∧ D.length ≤ 140737488355328
theorem IxAt.below {w w1 : World} {p B : Nat} {os : List Nat} {D : List Value} {size : Int} (h : IxAt w p B os D size) (hb : Below B w w1) : IxAt w1 p B os D size := by
  obtain ⟨hp, Ao, co, Ad, cd, h1, h2, h3, h4⟩ := h
  exact ⟨hp, Ao, co, Ad, cd, (hb.block p hp).trans h1, h2.below hb, h3.below hb, h4⟩
theorem IxAt.more {w : World} {p B B1 : Nat} {os : List Nat} {D : List Value} {size : Int} (h : IxAt w p B os D size) (hB : B ≤ B1) : IxAt w p B1 os D size := by
  obtain ⟨hp, Ao, co, Ad, cd, h1, h2, h3, h4⟩ := h
  exact ⟨Nat.lt_of_lt_of_le hp hB, Ao, co, Ad, cd, h1, h2.more hB, h3.more hB, h4⟩
set_option maxRecDepth 100000 in
theorem ixlen_nil (w : World) : Calls Try.prog 16 #[.pointer none] w fun e w' => e = .returned (.int .i64 0) ∧ w' = w := by
  go_enter Try.func16, Try.ntmps16
  go_wp2
  go_ret
  exact ⟨rfl, rfl⟩
set_option maxRecDepth 100000 in
theorem ixsize_nil (w : World) : Calls Try.prog 17 #[.pointer none] w fun e w' => e = .returned (.int .i64 0) ∧ w' = w := by
  go_enter Try.func17, Try.ntmps17
  go_wp2
  go_ret
  exact ⟨rfl, rfl⟩
set_option maxRecDepth 100000 in
theorem ixat_nil (i : Int) (w : World) : Calls Try.prog 15 #[.pointer none, .int .i64 i] w fun e w' => e = .returned (.tuple #[.slice none 0 0, .int .i64 6]) ∧ w' = w := by
  go_enter Try.func15, Try.ntmps15
  go_wp2
  first | (go_ret2; exact ⟨rfl, rfl⟩) | exact bodyPost_ret (v := .tuple #[.slice none 0 0, .int .i64 6]) (by simp [results, Try.results15, go_sem]) rfl ⟨rfl, rfl⟩
set_option maxRecDepth 100000 in
theorem ixlen_any (p B : Nat) (os : List Nat) (D : List Value) (size : Int) (w : World) (h : IxAt w p B os D size) (hn : os.length ≤ 4611686018427387904) : Calls Try.prog 16 #[.pointer (some ⟨p, 0, none⟩)] w fun e w' => e = .returned (.int .i64 ((os.length - 1 : Nat) : Int)) ∧ w' = w := by
  obtain ⟨hp, Ao, co, Ad, cd, h1, _⟩ := h
  have k0 := h1.cell 0
  have hl := h1.lt
  simp only [List.getElem?_toArray, List.getElem?_cons_zero] at k0
  generalize os.length = n at *
  clear h1
  cases n with
  | zero =>
    go_enter Try.func16, Try.ntmps16
    go_wp2
    go_ret
    exact ⟨rfl, rfl⟩
  | succ n =>
    have hw : IntKind.i64.wrap (((n + 1 : Nat) : Int) - 1) = (n : Int) := by rw [IntWalk.i64_in _ (by omega)]; omega
    have hw1 : IntKind.i64.wrap ((n : Int) + 1 - 1) = (n : Int) := by rw [IntWalk.i64_in _ (by omega)]; omega
    have hw2 : wrap64 ((n : Int) + 1 - 1) = (n : Int) := by unfold wrap64; omega
    have hm : ¬ (n : Int) < 0 := by omega
    go_enter Try.func16, Try.ntmps16
    go_wp2
    go_ret
    exact ⟨by first | rfl | (simp; done) | (simp; omega), rfl⟩
set_option maxRecDepth 100000 in
theorem ixsize_any (p B : Nat) (os : List Nat) (D : List Value) (size : Int) (w : World) (h : IxAt w p B os D size) : Calls Try.prog 17 #[.pointer (some ⟨p, 0, none⟩)] w fun e w' => e = .returned (.int .i64 size) ∧ w' = w := by
  obtain ⟨hp, Ao, co, Ad, cd, h1, _⟩ := h
  have k2 := h1.cell 2
  have hl := h1.lt
  simp only [List.getElem?_toArray, List.getElem?_cons_zero, List.getElem?_cons_succ] at k2
  go_enter Try.func17, Try.ntmps17
  go_wp2
  go_ret
  exact ⟨rfl, rfl⟩
set_option maxRecDepth 100000 in
theorem ixat_none (p B : Nat) (os : List Nat) (D : List Value) (size i : Int) (w : World) (h : IxAt w p B os D size) (hn : os.length ≤ 4611686018427387904) (hi : i < 0 ∨ ((os.length - 1 : Nat) : Int) ≤ i) : Calls Try.prog 15 #[.pointer (some ⟨p, 0, none⟩), .int .i64 i] w fun e w' => e = .returned (.tuple #[.slice none 0 0, .int .i64 4]) ∧ w' = w := by
  have CL := fun W (hW : W = w) => ixlen_any p B os D size W (by rw [hW]; exact h) hn
  generalize os.length - 1 = n at *
  clear h
  by_cases h0 : i < 0
  · go_enter Try.func15, Try.ntmps15
    go_wp2
    first | (go_ret2; exact ⟨rfl, rfl⟩) | exact bodyPost_ret (v := .tuple #[.slice none 0 0, .int .i64 4]) (by simp [results, Try.results15, go_sem]) rfl ⟨rfl, rfl⟩
  · have h1 : (n : Int) ≤ i := by omega
    go_enter Try.func15, Try.ntmps15
    go_wp2_with (go_at_call 16; ((with_reducible refine (CL _ rfl).mono ?_); rintro e w1 ⟨rfl, rfl⟩))
    first | (go_ret2; exact ⟨rfl, rfl⟩) | exact bodyPost_ret (v := .tuple #[.slice none 0 0, .int .i64 4]) (by simp [results, Try.results15, go_sem]) rfl ⟨rfl, rfl⟩
/-- What At answers: a copy. -/
def GotB (w : World) (E : List Value) (e : Ending) (w' : World) : Prop := ∃ A c, e = .returned (.tuple #[.slice A E.length c, .int .i64 0]) ∧ Hid (Lists w' w'.heap.size A E) ∧ Below w.heap.size w w'
set_option maxRecDepth 100000 in
set_option maxHeartbeats 1000000 in
theorem ixat_any (p B : Nat) (os : List Nat) (D : List Value) (size : Int) (i a b0 : Nat) (w : World) (h : IxAt w p B os D size) (hB : B ≤ w.heap.size) (hn : os.length ≤ 4611686018427387904) (ha : os[i]? = some a) (hb : os[i + 1]? = some b0) (h1 : a ≤ b0) (h2 : b0 ≤ D.length) :
    Calls Try.prog 15 #[.pointer (some ⟨p, 0, none⟩), .int .i64 (i : Nat)] w (GotB w ((D.drop a).take (b0 - a))) := by
  have CL := fun W (hW : W = w) => ixlen_any p B os D size W (by rw [hW]; exact h) hn
  have hi : i + 1 < os.length := (List.getElem?_eq_some_iff.1 hb).1
  obtain ⟨hp, Ao, co, Ad, cd, hk, h4, h5, h6, h8, h7⟩ := h
  have k0 := hk.cell 0
  have k1 := hk.cell 1
  simp only [List.getElem?_toArray, List.getElem?_cons_zero, List.getElem?_cons_succ] at k0 k1
  have hp : p < w.heap.size := hk.lt
  have e0 : (intCells (os.map Int.ofNat))[i]? = some (.int .i64 (a : Int)) := by simp [intCells, ha]
  have e1 : (intCells (os.map Int.ofNat))[i + 1]? = some (.int .i64 (b0 : Int)) := by simp [intCells, hb]
  obtain ⟨b, o, rfl, hbl, hc⟩ := h4.plain (by intro e; rw [e] at e0; simp at e0)
  have HO := Lib.hid (And.intro (hc i _ e0) (hc (i + 1) _ e1))
  have hbb : b < w.heap.size := Nat.lt_of_lt_of_le hbl hB
  have hlen : ((D.drop a).take (b0 - a)).length = b0 - a := by simp; omega
  have CC := fun W (hI : Below w.heap.size w W) => clone_any (if cd = a then Ad else Ad.map (·.add a)) (b0 - a) (cd - a) ((D.drop a).take (b0 - a)) W (((lists_cut h5 a b0 cd h1 (Nat.le_trans h2 h6)).more hB |>.below hI).more hI.size) hlen (fun u hu => h8 u (List.mem_of_mem_drop (List.mem_of_mem_take hu))) (by omega)
  have SL := fun W => slice_ok Ad D.length cd a b0 h1 (Nat.le_trans h2 h6) W
  have CC2 := fun W hI => (CC W hI)
  have HG : Hid (∀ A c w', Lists w' w'.heap.size A ((D.drop a).take (b0 - a)) → Below w.heap.size w w' → GotB w ((D.drop a).take (b0 - a)) (.returned (.tuple #[.slice A (b0 - a) c, .int .i64 0])) w') := Lib.hid fun A c w' h1 h2 => ⟨A, c, by rw [hlen], Lib.hid h1, h2⟩
  unfold GaveClone at CC2
  rw [hlen] at CC2
  generalize (D.drop a).take (b0 - a) = X at *
  generalize D.length = dl at *
  have s1 : IntKind.i64.wrap ((i : Int) + 1) = ((i + 1 : Nat) : Int) := by rw [IntWalk.i64_in _ (by omega)]; omega
  obtain ⟨n, hnn⟩ : ∃ n, os.length = n + 1 := ⟨os.length - 1, by omega⟩
  rw [hnn] at CL k0 hi hn
  have hi2 : i < n := by omega
  have hi3 : (i : Int) < (n : Int) + 1 := by omega
  have hi4 : (0 : Int) ≤ (i : Int) := by omega
  have t0 : (0 : Int) ≤ (i : Int) + 1 := by omega
  have t1 : ((i : Int) + 1).toNat = i + 1 := by omega
  clear hnn CC hk h4 h5 h8 hc e0 e1 ha hb
  rw [show n + 1 - 1 = n by omega] at CL
  go_enter Try.func15, Try.ntmps15
  go_wp2_with (go_at_call 16; ((with_reducible refine (CL _ rfl).mono ?_); rintro e w1 ⟨rfl, rfl⟩))
  refine wp_region_chain (fun W => Below w1.heap.size w1 W) [(0, false), (1, false), (2, false), (3, false), (4, false), (5, false), (6, false), (7, false), (8, false), (9, false), (10, false), (11, false), (12, false), (13, false), (14, false), (15, false), (16, false), (17, false), (18, false), (19, false), (20, true), (21, false), (22, false)] (by kernel_rfl) (by kernel_rfl) ((Below.refl _ _).drew) ?_
  repeat (first
    | (refine ChainL.skip (o := ?_) ?_ ?_ ?_; rotate_left; (focus (first | (simp only [List.getElem?_toArray, List.getElem?_cons_succ, List.getElem?_cons_zero]; with_reducible rfl) | (simp only [List.getElem?_toArray, List.getElem?_cons_zero]; with_reducible rfl))); (focus rfl); simp only [Act.put, List.setIfInBounds_toArray, List.set_cons_zero, List.set_cons_succ])
    | (refine ChainL.val (o := ?_) (v := ?_) ?_ ?_ ?_ ?_ ?_; rotate_left 2; (focus (first | (simp only [List.getElem?_toArray, List.getElem?_cons_succ, List.getElem?_cons_zero]; with_reducible rfl) | (simp only [List.getElem?_toArray, List.getElem?_cons_zero]; with_reducible rfl))); (focus (intro _ _ h; cases h)); (focus rfl); (focus (intro w' hI; have c0 := (hI.cell (p := ⟨p, 0, none⟩) hp).trans k0; have c1 := (hI.cell (p := ⟨p, 1, none⟩) hp).trans k1; have g0 := (hI.cell (p := ⟨b, o + i, none⟩) hbb).trans (HO.out.1); have g1 := (hI.cell (p := ⟨b, o + (i + 1), none⟩) hbb).trans (HO.out.2); have hq : p < w'.heap.size := Nat.lt_of_lt_of_le hp hI.size; have hq2 : b < w'.heap.size := Nat.lt_of_lt_of_le hbb hI.size; go_simp; with_reducible rfl)); simp only [Act.put, List.setIfInBounds_toArray, List.set_cons_zero, List.set_cons_succ]))
  refine ChainL.call (o := ?_) (f := ?_) (args := ?_) ?_ ?_ ?_ ?_
  rotate_left 3
  (focus (simp only [List.getElem?_toArray, List.getElem?_cons_succ, List.getElem?_cons_zero]; with_reducible rfl))
  (focus rfl)
  (focus (go_simp; (constructor <;> with_reducible rfl)))
  refine (CC2 _ ((Below.refl _ _).drew)).mono ?_
  rintro e w2 ⟨A2, c2, rfl, l2, hc2, hm2, b2, hf2⟩
  have B2 := ((Below.refl w1.heap.size w1).drew).trans (b2.mono (by simp)); refine ⟨_, rfl, B2, ?_⟩
  simp only [Act.put, List.setIfInBounds_toArray, List.set_cons_zero, List.set_cons_succ]
  repeat (first
    | (refine ChainL.skip (o := ?_) ?_ ?_ ?_; rotate_left; (focus (first | (simp only [List.getElem?_toArray, List.getElem?_cons_succ, List.getElem?_cons_zero]; with_reducible rfl) | (simp only [List.getElem?_toArray, List.getElem?_cons_zero]; with_reducible rfl))); (focus rfl); simp only [Act.put, List.setIfInBounds_toArray, List.set_cons_zero, List.set_cons_succ])
    | (refine ChainL.val (o := ?_) (v := ?_) ?_ ?_ ?_ ?_ ?_; rotate_left 2; (focus (first | (simp only [List.getElem?_toArray, List.getElem?_cons_succ, List.getElem?_cons_zero]; with_reducible rfl) | (simp only [List.getElem?_toArray, List.getElem?_cons_zero]; with_reducible rfl))); (focus (intro _ _ h; cases h)); (focus rfl); (focus (intro w' hI; have c0 := (hI.cell (p := ⟨p, 0, none⟩) hp).trans k0; have c1 := (hI.cell (p := ⟨p, 1, none⟩) hp).trans k1; have g0 := (hI.cell (p := ⟨b, o + i, none⟩) hbb).trans (HO.out.1); have g1 := (hI.cell (p := ⟨b, o + (i + 1), none⟩) hbb).trans (HO.out.2); have hq : p < w'.heap.size := Nat.lt_of_lt_of_le hp hI.size; have hq2 : b < w'.heap.size := Nat.lt_of_lt_of_le hbb hI.size; go_simp; with_reducible rfl)); simp only [Act.put, List.setIfInBounds_toArray, List.set_cons_zero, List.set_cons_succ]))
  refine ChainL.nil ?_
  go_wp2
  all_goals exact bodyPost_ret (v := .tuple #[.slice A2 (b0 - a) c2, .int .i64 0]) (by simp [results, Try.results15, go_sem]) rfl (HG.out A2 c2 _ l2 B2)
end Go.Proofs.Ytmckdeopljcdfaa

namespace Go.Proofs.Ytmckdeopljcdfaa
open Go Go.RowKit

/-- Blocks of other kinds than a writer's stay. -/
def Safe (w w' : World) : Prop := ∀ (q : Nat) (T : TypeId) (cs : Array Value), T ≠ 5 → T ≠ 77 → T ≠ 72 → Blk w q T cs → Blk w' q T cs
theorem wr_safe {w w' : World} {p R : Nat} {F : Bool} {L : List Value} {fp : List Nat} (h : Wr w p R F L fp) (o : Only w w' fp) : Safe w w' := by
  obtain ⟨D, G, dv, gv, hb, hd, hg, _, _, _, _, rfl⟩ := h
  intro q T cs n1 n2 n3 hq
  refine hq.only o fun hm => ?_
  rcases List.mem_cons.1 hm with rfl | hm
  · unfold Blk at hb hq
    rw [hb] at hq
    injection hq with hq
    injection hq with _ e
    exact n3 e.symm
  · rcases List.mem_append.1 hm with hm | hm
    · exact own_ne hd hq n1.symm hm
    · exact own_ne hg hq n2.symm hm

/-- A writer that was made since world w0. -/
def WS (w0 w : World) (p R : Nat) (L : List Value) : Prop := ∃ fp, Wr w p R false L fp ∧ Below w0.heap.size w0 w ∧ ∀ b ∈ fp, w0.heap.size ≤ b
theorem WS.below {w0 w w1 : World} {p R : Nat} {L : List Value} (h : WS w0 w p R L) (k : Below w.heap.size w w1) : WS w0 w1 p R L := by
  obtain ⟨fp, hW, b, hf⟩ := h
  exact ⟨fp, hW.only (Only.of_below k []) (fun _ _ h => (nomatch h)), b.trans (k.mono b.size), hf⟩
theorem WS.alloc {w0 w : World} {p R : Nat} {L : List Value} (h : WS w0 w p R L) (o : Obj) : WS w0 (w.alloc o) p R L := h.below ((Below.refl _ _).alloc (Nat.le_refl _) o)
theorem WS.old {w0 w : World} {p R : Nat} {L : List Value} (h : WS w0 w p R L) : Below w0.heap.size w0 w := h.elim fun _ h => h.2.1
def Wrote (w0 w : World) (p R : Nat) (L E : List Value) (e : Ending) (w' : World) : Prop := e = .returned (.pointer (some ⟨p, 0, none⟩)) ∧ WS w0 w' p R (L ++ E) ∧ Safe w w' ∧ w.heap.size ≤ w'.heap.size
theorem ws_put {w0 w : World} {p R : Nat} {L E : List Value} {f : FuncId} {args : Array Value} (h : WS w0 w p R L) (hx : L.length + E.length ≤ R)
    (hc : ∀ fp, Wr w p R false L fp → Calls Try.prog f args w fun e w' => e = .returned (.pointer (some ⟨p, 0, none⟩)) ∧ Put w w' p R false L fp E) :
    Calls Try.prog f args w (Wrote w0 w p R L E) := by
  obtain ⟨fp, hW, b, hf⟩ := h
  refine (hc fp hW).mono fun e w' ⟨he, fp', h1, h2, h3⟩ => ⟨he, ⟨fp', ?_, ?_, fun x hx => ?_⟩, wr_safe hW h2, h2.size⟩
  · have e1 : putF R false L E = false := by unfold putF; simp; exact hx
    rw [e1] at h1
    unfold putL at h1
    rw [e1, if_neg (by simp)] at h1
    exact h1
  · exact b.trans (h2.to_below b.size hf)
  · rcases h3 x hx with h | h
    · exact hf x h
    · have := b.size; omega
theorem wsU16 (w0 w : World) (p R : Nat) (L : List Value) (x : Int) (h : WS w0 w p R L) (hx : L.length + 2 ≤ R) (hR : R ≤ 1099511627776) :
    Calls Try.prog 27 #[.pointer (some ⟨p, 0, none⟩), .int .i64 x] w (Wrote w0 w p R L (be2 x)) := ws_put h hx fun fp hW => wU16_any p R false L fp x w hW hR
theorem own_base {w : World} {base base1 : Nat} {e : TypeId} {size n : Nat} {v : Value} {xs : List Value} (h : w.ownsRow base e size v n xs) (hb : base1 ≤ base) : w.ownsRow base1 e size v n xs :=
  ⟨h.1, h.2.imp id fun ⟨g, cap, cur, h1, h2, h3⟩ => ⟨g, cap, cur, h1, Nat.le_trans hb h2, h3⟩⟩
theorem wsDone (w0 w : World) (p R : Nat) (L : List Value) (h : WS w0 w p R L) (hR : R ≤ 2147483647) :
    Calls Try.prog 30 #[.pointer (some ⟨p, 0, none⟩)] w (Gave w0 L) := by
  obtain ⟨fp, hW, b, hf⟩ := h
  exact (wdone_any p R L fp w hW hR).mono fun e w' ⟨A, c, h1, h2, h3⟩ => ⟨A, c, h1, own_base h2 b.size, b.trans (h3.mono b.size)⟩
/-- A new writer was answered. -/
def MadeWS (w0 w : World) (R : Nat) (e : Ending) (w' : World) : Prop := ∃ p, e = .returned (.pointer (some ⟨p, 0, none⟩)) ∧ WS w0 w' p R [] ∧ Below w.heap.size w w'
theorem wsTo (w0 w : World) (R : Nat) (hb : Below w0.heap.size w0 w) : Calls Try.prog 26 #[.int .i64 (R : Nat)] w (MadeWS w0 w R) := by
  refine (to_any (R : Nat) w).mono fun e w' ⟨p, fp, h1, h2, h3, h4⟩ => ⟨p, h1, ⟨fp, h2, hb.trans (h3.mono hb.size), fun b hm => ?_⟩, h3⟩
  have := h4 b hm
  have := hb.size
  omega
theorem wsU8 (w0 w : World) (p R : Nat) (L : List Value) (x : Int) (h : WS w0 w p R L) (hx : L.length + 1 ≤ R) (hR : R ≤ 1099511627776) :
    Calls Try.prog 39 #[.pointer (some ⟨p, 0, none⟩), .int .i64 x] w (Wrote w0 w p R L (be1 x)) := ws_put h hx fun fp hW => wU8_any p R false L fp x w hW hR

end Go.Proofs.Ytmckdeopljcdfaa

namespace Go.Proofs.Ytmckdeopljcdfaa
open Go Go.RowKit
set_option linter.unusedVariables false
set_option linter.unusedSimpArgs false

theorem flat_at {α : Type} {f : α → List Value} {sz : Nat} (hf : ∀ x, (f x).length = sz) : ∀ (L : List α) (k : Nat) (x : α), L[k]? = some x → ∀ j v, (f x)[j]? = some v → (L.flatMap f)[k * sz + j]? = some v
  | [], k, x, h, j, v, hv => by simp at h
  | y :: L, 0, x, h, j, v, hv => by
    obtain rfl : y = x := by simpa using h
    have hj := (List.getElem?_eq_some_iff.1 hv).1
    rw [List.flatMap_cons, Nat.zero_mul, Nat.zero_add, List.getElem?_append_left hj]
    exact hv
  | y :: L, k + 1, x, h, j, v, hv => by
    have := flat_at hf L k x (by simpa using h) j v hv
    rw [List.flatMap_cons, List.getElem?_append_right (by rw [hf, Nat.add_mul]; omega), hf, show (k + 1) * sz + j - sz = k * sz + j by rw [Nat.add_mul]; omega]
    exact this
theorem flat_len {α : Type} {f : α → List Value} {sz : Nat} (hf : ∀ x, (f x).length = sz) : ∀ L : List α, (L.flatMap f).length = L.length * sz
  | [] => by simp
  | x :: L => by rw [List.flatMap_cons, List.length_append, hf, flat_len hf L, List.length_cons, Nat.add_mul, Nat.one_mul, Nat.add_comm]
theorem lists_flat {α : Type} {f : α → List Value} {sz : Nat} (hf : ∀ x, (f x).length = sz) (hs : 0 < sz) {w : World} {B : Nat} {A : Option Addr} {L : List α} (h : Lists w B A (L.flatMap f)) {k : Nat} {x : α} (hk : L[k]? = some x) :
    ∃ b o, A = some ⟨b, o, none⟩ ∧ b < B ∧ w.rangeAt b (o + k * sz) (f x) := by
  have h0 : (f x)[0]? = some ((f x)[0]'(by rw [hf]; exact hs)) := List.getElem?_eq_getElem _
  have h1 := flat_at hf L k x hk 0 _ h0
  obtain ⟨b, o, rfl, hb, hc⟩ := h.plain (by intro e; rw [e] at h1; simp at h1)
  exact ⟨b, o, rfl, hb, fun j v hv => by rw [Nat.add_assoc]; exact hc _ _ (flat_at hf L k x hk j v hv)⟩
theorem flat_snoc {α : Type} (f : α → List Value) (L : List α) (x : α) : (L ++ [x]).flatMap f = L.flatMap f ++ f x := by simp
theorem range_below {w w1 : World} {B b o : Nat} {cs : List Value} (h : w.rangeAt b o cs) (hb : b < B) (k : Below B w w1) : w1.rangeAt b o cs := fun j v hv => (k.cell (p := ⟨b, o + j, none⟩) hb).trans (h j v hv)
theorem range_blk {w : World} {p : Nat} {T : TypeId} {cs : List Value} (h : Blk w p T cs.toArray) : w.rangeAt p 0 cs := fun j v hv => by rw [Nat.zero_add, h.cell j, List.getElem?_toArray]; exact hv
theorem blk_row {w : World} {p : Nat} {T : TypeId} {cs : Array Value} (h : Blk w p T cs) (cs1 : Array Value) : Blk (w.setRow p cs1) p T cs1 := setRow_heap w p cs cs1 T (0, 0) h
theorem exec_store_row {P : Program} {ρ : Operand → Value} {o : Oper} {w : World} (ty : TypeId) (x y : Operand) (ho : o.op = .store ty x y)
    (g : Nat) (cells : Array Value) (hx : ρ x = .pointer (some ⟨g, 0, none⟩)) (hy : ρ y = .agg cells)
    (t : TypeId) (old : Array Value) (hg : Blk w g t old) (hi : (P.info? ty).map (·.size) = some cells.size)
    (hold : old.size = cells.size) (h1 : cells.all (·.oneCell') = true) : (execOp ρ o).run P w = .ok .skip (w.setRow g cells) := by
  unfold execOp
  simp only [ho, hx, hy, Instr.storeAt, Instr.sureAddr, Sem.run_bind, Sem.run_pure, Result.andThen_ok, run_storeVar_row w g t ty old cells hg hi hold h1]
theorem exec_load {P : Program} {ρ : Operand → Value} {o : Oper} {w : World} {ty : TypeId} {x : Operand} {p v : Value} (h : (Instr.loadAt ty p).run P w = .ok v w) (ho : o.op = .load ty x) (hx : ρ x = p) : (execOp ρ o).run P w = .ok (.value v) w := by
  unfold execOp
  simp only [ho, hx, Sem.run_bind, h, Result.andThen_ok, Sem.run_pure]
theorem load_blk {P : Program} {w : World} {p : Nat} {T ty : TypeId} {cs : Array Value} {d : TypeDesc} (h : Blk w p T cs) (hu : P.underlying ty = some d) (hd : d.isRow = true) (hi : (P.info? ty).map (·.size) = some cs.size) : (Instr.loadAt ty (.pointer (some ⟨p, 0, none⟩))).run P w = .ok (.agg cs) w := by
  have h1 : w.rangeAt p 0 cs.toList := fun j v hv => by rw [Nat.zero_add, h.cell j]; simpa using hv
  have := run_loadAt_mid (P := P) w p 0 ty cs.toList d h1 hu hd (by simpa using hi)
  simpa using this
theorem only_row {w a : World} {fp : List Nat} (h : Only w a fp) {g : Nat} (hg : g ∈ fp ∨ w.heap.size ≤ g) (cs : Array Value) : Only w (a.setRow g cs) fp :=
  ⟨h.os, h.tape, h.output, by rw [size_setRow]; exact h.size, fun b hb hf => (setRow_other a g b cs (fun e => by subst e; rcases hg with hg | hg; exact hf hg; omega)).trans (h.block b hb hf)⟩
theorem lists_takeF {w : World} {B : Nat} {A : Option Addr} {xs : List Value} (h : Lists w B A xs) (k : Nat) : Lists w B A (xs.take k) :=
  ⟨fun ha => by rw [h.nil ha]; simp, fun a ha j u hu => h.cell a ha j u (by
    rw [List.getElem?_take] at hu
    split at hu
    · exact hu
    · cases hu), fun a ha hx => h.lt a ha (fun e => hx (by rw [e]; simp))⟩
theorem lists_row (w : World) (cs : List Value) (T : TypeId) : Lists (w.alloc (.cells cs.toArray T)) (w.heap.size + 1) (some ⟨w.heap.size, 0, none⟩) cs :=
  ⟨fun ha => (nomatch ha), fun a ha j u hu => by
    cases ha
    rw [addr_plain, World.cell?_alloc_new, Nat.zero_add, ← hu]
    rw [List.getElem?_toArray], fun a ha _ => by cases ha; simp⟩
theorem lists_row_at (w : World) (cs : List Value) (T : TypeId) (k : Nat) (hk : k = w.heap.size) : Lists (w.alloc (.cells cs.toArray T)) (k + 1) (some ⟨k, 0, none⟩) cs := hk ▸ lists_row w cs T
theorem results_row_tmp {P : Program} {fn : Func} {p u : Tmp} {ty : TypeId} (h : fn.results = #[.cell p ty, .tmp u]) (tmps : Array Value) (w : World) (g : Nat) (t : TypeId) (cs : Array Value) (fr : Nat × Nat) (d : TypeDesc) (v : Value)
    (hp : tmps.getD p undef = .pointer (some ⟨g, 0, none⟩)) (hv : tmps.getD u undef = v) (hg : w.heap[g]? = some (.cells cs t fr))
    (hu : P.underlying ty = some d) (hd : (match d with | .struct _ | .array _ _ => true | _ => false) = true) (hi : (P.info? ty).map (·.size) = some cs.size) :
    (results fn tmps).run P w = .ok (.tuple #[.agg cs, v]) w := by
  rw [results_cell_tmp h, hp, hv]
  simp [asAddr, Result.andThen, run_loadVar_row w g t ty cs fr d hg hu hd hi]
theorem results_row_tmp2 {P : Program} {fn : Func} {p u u2 : Tmp} {ty : TypeId} (h : fn.results = #[.cell p ty, .tmp u, .tmp u2]) (tmps : Array Value) (w : World) (g : Nat) (t : TypeId) (cs : Array Value) (fr : Nat × Nat) (d : TypeDesc) (v v2 : Value)
    (hp : tmps.getD p undef = .pointer (some ⟨g, 0, none⟩)) (hv : tmps.getD u undef = v) (hv2 : tmps.getD u2 undef = v2) (hg : w.heap[g]? = some (.cells cs t fr))
    (hu : P.underlying ty = some d) (hd : (match d with | .struct _ | .array _ _ => true | _ => false) = true) (hi : (P.info? ty).map (·.size) = some cs.size) :
    (results fn tmps).run P w = .ok (.tuple #[.agg cs, v, v2]) w := by
  have hp' : tmps[p]?.getD undef = .pointer (some ⟨g, 0, none⟩) := by simpa using hp
  have hv' : tmps[u]?.getD undef = v := by simpa using hv
  have hv2' : tmps[u2]?.getD undef = v2 := by simpa using hv2
  simp [results, h, hp', hv', hv2', Sem.run_bind, asAddr, Result.andThen, run_loadVar_row w g t ty cs fr d hg hu hd hi]
end Go.Proofs.Ytmckdeopljcdfaa

namespace Go.Proofs.Ytmckdeopljcdfaa
open Go Go.RowKit
set_option linter.unusedVariables false
set_option linter.unusedSimpArgs false

/-- How many bytes a number has. -/
def wdN (x : Nat) : Nat := if x = 0 then 0 else if x < 256 then 1 else if x < 65536 then 2 else if x < 16777216 then 3 else 4
theorem wdN_step {x : Nat} (h0 : 0 < x) (h : x < 4294967296) : wdN x = wdN (x / 256) + 1 := by
  unfold wdN
  repeat' split
  all_goals omega
set_option maxRecDepth 100000 in
theorem widthOf_any (x : Nat) (hx : x < 4294967296) (w : World) : Calls Try.prog 38 #[.int .i64 (x : Nat)] w fun e w' => e = .returned (.int .i64 (wdN x : Nat)) ∧ w' = w := by
  go_enter Try.func38, Try.ntmps38
  go_wp2
  go_loopw [0, 3] (fun xv wv wr => ∃ y k : Nat, xv = .int .i64 (y : Nat) ∧ wv = .int .i64 (k : Nat) ∧ y < 4294967296 ∧ k ≤ 4 ∧ Hid (k + wdN y = wdN x) ∧ wr = w) (fun xv _ _ => (intOf xv).toNat)
  case atStart => exact ⟨x, 0, rfl, rfl, hx, by omega, Lib.hid (by omega), rfl⟩
  case round =>
    obtain ⟨y, k, rfl, rfl, hy, hk, hw, rfl⟩ := hrel
    by_cases h0 : 0 < y
    · have d1 : decide ((y : Int) > 0) = true := by simp; omega
      have hst := wdN_step h0 hy
      have hle : wdN x ≤ 4 := by unfold wdN; repeat' split
                                 all_goals omega
      have hk4 : k + 1 ≤ 4 := by have := hw.out; omega
      have HS := Lib.hid hst
      clear hst hle
      go_wp2
      go_roundw
      case rel => exact ⟨y / 256, k + 1, by go_num, by go_num, by omega, hk4, Lib.hid (by rw [← hw.out, HS.out]; omega), (by first | rfl | trivial)⟩
      case measure => simp [intOf]; omega
    · obtain rfl : y = 0 := by omega
      have d1 : decide (((0 : Nat) : Int) > 0) = false := by simp
      have HK := Lib.hid (show k = wdN x by have := hw.out; simpa [wdN] using this)
      go_wp2
      go_ret
      exact ⟨by rw [← HK.out]; rfl, rfl⟩
def be3 (x : Int) : List Value := [.int .u8 (x / 65536 % 256), .int .u8 (x / 256 % 256), .int .u8 (x % 256)]
def beN : Nat → Int → List Value
  | 1, x => be1 x
  | 2, x => be2 x
  | 3, x => be3 x
  | _, x => be4 x
theorem beN_len {n : Nat} (h1 : 1 ≤ n) (h3 : n ≤ 3) (x : Int) : (beN n x).length = n := by
  match n, h1, h3 with
  | 1, _, _ => rfl
  | 2, _, _ => rfl
  | 3, _, _ => rfl
theorem safe_belowI {w w' : World} (h : Below w.heap.size w w') : Safe w w' := fun _ _ _ _ _ _ k => k.below h
theorem Safe.transI {a b c : World} (h : Safe a b) (k : Safe b c) : Safe a c := fun q T cs h1 h2 h3 x => k q T cs h1 h2 h3 (h q T cs h1 h2 h3 x)
set_option maxRecDepth 100000 in
set_option maxHeartbeats 1000000 in
theorem writing1_1 (w0 w : World) (p R tw to : Nat) (L : List Value) (x : Int) (h : WS w0 w p R L) (hx : L.length + 1 ≤ R) (hR : R ≤ 1099511627776) (K1 : Blk w tw 3 #[.int .i64 1]) (K2 : Blk w to 60 #[.func (.func 39) #[.pointer (some ⟨p, 0, none⟩)] #[]]) :
    Calls Try.prog 44 #[.int .i64 x, .pointer (some ⟨tw, 0, none⟩), .pointer (some ⟨to, 0, none⟩)] w fun e w' => e = .returned (.tuple #[]) ∧ WS w0 w' p R (L ++ beN 1 x) ∧ Safe w w' ∧ w.heap.size ≤ w'.heap.size := by
  have c1 := K1.cell 0
  have l1 := K1.lt
  simp only [List.getElem?_toArray, List.getElem?_cons_zero] at c1
  have q0 : IntKind.i64.wrap 0 = 0 := by decide
  have q1 : IntKind.i64.wrap 1 = 1 := by decide
  have q2 : IntKind.i64.wrap 2 = 2 := by decide
  have q8 : IntKind.i64.wrap 8 = 8 := by decide
  have q16 : IntKind.i64.wrap 16 = 16 := by decide
  have S0 : Safe w w := fun _ _ _ _ _ _ k => k
  have Z0 : w.heap.size ≤ w.heap.size := Nat.le_refl _
  go_enter Try.func44, Try.ntmps44
  go_wp2
  refine wp_loop_rounds 2 ?_
  rw [rounds_succ]
  go_wp2
  refine wp_region_chain (fun W => Blk W tw 3 #[.int .i64 1] ∧ Blk W to 60 #[.func (.func 39) #[.pointer (some ⟨p, 0, none⟩)] #[]]) [(0, false), (1, false), (2, false), (3, false), (4, false), (5, false), (6, false), (7, false), (8, true)] (by kernel_rfl) (by kernel_rfl) ⟨K1.below ((Below.refl _ _).drew), K2.below ((Below.refl _ _).drew)⟩ ?_
  repeat (first
    | (refine ChainL.skip (o := ?_) ?_ ?_ ?_; rotate_left; (focus (first | (simp only [List.getElem?_toArray, List.getElem?_cons_succ, List.getElem?_cons_zero]; with_reducible rfl) | (simp only [List.getElem?_toArray, List.getElem?_cons_zero]; with_reducible rfl))); (focus rfl); simp only [Act.put, List.setIfInBounds_toArray, List.set_cons_zero, List.set_cons_succ])
    | (refine ChainL.val (o := ?_) (v := ?_) ?_ ?_ ?_ ?_ ?_; rotate_left 2; (focus (first | (simp only [List.getElem?_toArray, List.getElem?_cons_succ, List.getElem?_cons_zero]; with_reducible rfl) | (simp only [List.getElem?_toArray, List.getElem?_cons_zero]; with_reducible rfl))); (focus (intro _ _ h; cases h)); (focus rfl); (focus (intro w' hI; have c1 := hI.1.cell 0; have c2 := hI.2.cell 0; have l1 := hI.1.lt; have l2 := hI.2.lt; simp only [List.getElem?_toArray, List.getElem?_cons_zero] at c1 c2; go_simp <;> with_reducible rfl)); simp only [Act.put, List.setIfInBounds_toArray, List.set_cons_zero, List.set_cons_succ]))
  refine ChainL.call (o := ?_) (f := ?_) (args := ?_) ?_ ?_ ?_ ?_
  rotate_left 3
  (focus (simp only [List.getElem?_toArray, List.getElem?_cons_succ, List.getElem?_cons_zero]; with_reducible rfl))
  (focus rfl)
  (focus (go_simp; (constructor <;> with_reducible rfl)))
  refine (wsU8 w0 _ p R (L) x (h.below ((Below.refl _ _).drew)) (by first | omega | (simp [be1]; omega)) hR).mono ?_
  rintro e w1 ⟨rfl, h1, s1, z1⟩
  have K1 := s1 _ _ _ (by decide) (by decide) (by decide) (K1.below ((Below.refl _ _).drew)); have K2 := s1 _ _ _ (by decide) (by decide) (by decide) (K2.below ((Below.refl _ _).drew)); have S0 := (S0.transI (safe_belowI ((Below.refl _ _).drew))).transI s1; have Z0 := Nat.le_trans Z0 (show (w).heap.size ≤ w1.heap.size by simpa using z1); refine ⟨_, rfl, ⟨K1, K2⟩, ?_⟩
  simp only [Act.put, List.setIfInBounds_toArray, List.set_cons_zero, List.set_cons_succ]
  refine ChainL.nil ?_
  go_wp2
  rw [rounds_succ]
  go_wp2
  go_end0
  exact ⟨rfl, by simpa [beN, be1, be2, be3] using h1, S0, Z0⟩

set_option maxRecDepth 100000 in
set_option maxHeartbeats 1000000 in
theorem writing1_2 (w0 w : World) (p R tw to : Nat) (L : List Value) (x : Int) (h : WS w0 w p R L) (hx : L.length + 2 ≤ R) (hR : R ≤ 1099511627776) (K1 : Blk w tw 3 #[.int .i64 2]) (K2 : Blk w to 60 #[.func (.func 39) #[.pointer (some ⟨p, 0, none⟩)] #[]]) :
    Calls Try.prog 44 #[.int .i64 x, .pointer (some ⟨tw, 0, none⟩), .pointer (some ⟨to, 0, none⟩)] w fun e w' => e = .returned (.tuple #[]) ∧ WS w0 w' p R (L ++ beN 2 x) ∧ Safe w w' ∧ w.heap.size ≤ w'.heap.size := by
  have c1 := K1.cell 0
  have l1 := K1.lt
  simp only [List.getElem?_toArray, List.getElem?_cons_zero] at c1
  have q0 : IntKind.i64.wrap 0 = 0 := by decide
  have q1 : IntKind.i64.wrap 1 = 1 := by decide
  have q2 : IntKind.i64.wrap 2 = 2 := by decide
  have q8 : IntKind.i64.wrap 8 = 8 := by decide
  have q16 : IntKind.i64.wrap 16 = 16 := by decide
  have S0 : Safe w w := fun _ _ _ _ _ _ k => k
  have Z0 : w.heap.size ≤ w.heap.size := Nat.le_refl _
  go_enter Try.func44, Try.ntmps44
  go_wp2
  refine wp_loop_rounds 3 ?_
  rw [rounds_succ]
  go_wp2
  refine wp_region_chain (fun W => Blk W tw 3 #[.int .i64 2] ∧ Blk W to 60 #[.func (.func 39) #[.pointer (some ⟨p, 0, none⟩)] #[]]) [(0, false), (1, false), (2, false), (3, false), (4, false), (5, false), (6, false), (7, false), (8, true)] (by kernel_rfl) (by kernel_rfl) ⟨K1.below ((Below.refl _ _).drew), K2.below ((Below.refl _ _).drew)⟩ ?_
  repeat (first
    | (refine ChainL.skip (o := ?_) ?_ ?_ ?_; rotate_left; (focus (first | (simp only [List.getElem?_toArray, List.getElem?_cons_succ, List.getElem?_cons_zero]; with_reducible rfl) | (simp only [List.getElem?_toArray, List.getElem?_cons_zero]; with_reducible rfl))); (focus rfl); simp only [Act.put, List.setIfInBounds_toArray, List.set_cons_zero, List.set_cons_succ])
    | (refine ChainL.val (o := ?_) (v := ?_) ?_ ?_ ?_ ?_ ?_; rotate_left 2; (focus (first | (simp only [List.getElem?_toArray, List.getElem?_cons_succ, List.getElem?_cons_zero]; with_reducible rfl) | (simp only [List.getElem?_toArray, List.getElem?_cons_zero]; with_reducible rfl))); (focus (intro _ _ h; cases h)); (focus rfl); (focus (intro w' hI; have c1 := hI.1.cell 0; have c2 := hI.2.cell 0; have l1 := hI.1.lt; have l2 := hI.2.lt; simp only [List.getElem?_toArray, List.getElem?_cons_zero] at c1 c2; go_simp <;> with_reducible rfl)); simp only [Act.put, List.setIfInBounds_toArray, List.set_cons_zero, List.set_cons_succ]))
  refine ChainL.call (o := ?_) (f := ?_) (args := ?_) ?_ ?_ ?_ ?_
  rotate_left 3
  (focus (simp only [List.getElem?_toArray, List.getElem?_cons_succ, List.getElem?_cons_zero]; with_reducible rfl))
  (focus rfl)
  (focus (go_simp; (constructor <;> with_reducible rfl)))
  refine (wsU8 w0 _ p R (L) (x / 256) (h.below ((Below.refl _ _).drew)) (by first | omega | (simp [be1]; omega)) hR).mono ?_
  rintro e w1 ⟨rfl, h1, s1, z1⟩
  have K1 := s1 _ _ _ (by decide) (by decide) (by decide) (K1.below ((Below.refl _ _).drew)); have K2 := s1 _ _ _ (by decide) (by decide) (by decide) (K2.below ((Below.refl _ _).drew)); have S0 := (S0.transI (safe_belowI ((Below.refl _ _).drew))).transI s1; have Z0 := Nat.le_trans Z0 (show (w).heap.size ≤ w1.heap.size by simpa using z1); refine ⟨_, rfl, ⟨K1, K2⟩, ?_⟩
  simp only [Act.put, List.setIfInBounds_toArray, List.set_cons_zero, List.set_cons_succ]
  refine ChainL.nil ?_
  go_wp2
  rw [rounds_succ]
  go_wp2
  refine wp_region_chain (fun W => Blk W tw 3 #[.int .i64 2] ∧ Blk W to 60 #[.func (.func 39) #[.pointer (some ⟨p, 0, none⟩)] #[]]) [(0, false), (1, false), (2, false), (3, false), (4, false), (5, false), (6, false), (7, false), (8, true)] (by kernel_rfl) (by kernel_rfl) ⟨K1.below ((Below.refl _ _).drew), K2.below ((Below.refl _ _).drew)⟩ ?_
  repeat (first
    | (refine ChainL.skip (o := ?_) ?_ ?_ ?_; rotate_left; (focus (first | (simp only [List.getElem?_toArray, List.getElem?_cons_succ, List.getElem?_cons_zero]; with_reducible rfl) | (simp only [List.getElem?_toArray, List.getElem?_cons_zero]; with_reducible rfl))); (focus rfl); simp only [Act.put, List.setIfInBounds_toArray, List.set_cons_zero, List.set_cons_succ])
    | (refine ChainL.val (o := ?_) (v := ?_) ?_ ?_ ?_ ?_ ?_; rotate_left 2; (focus (first | (simp only [List.getElem?_toArray, List.getElem?_cons_succ, List.getElem?_cons_zero]; with_reducible rfl) | (simp only [List.getElem?_toArray, List.getElem?_cons_zero]; with_reducible rfl))); (focus (intro _ _ h; cases h)); (focus rfl); (focus (intro w' hI; have c1 := hI.1.cell 0; have c2 := hI.2.cell 0; have l1 := hI.1.lt; have l2 := hI.2.lt; simp only [List.getElem?_toArray, List.getElem?_cons_zero] at c1 c2; go_simp <;> with_reducible rfl)); simp only [Act.put, List.setIfInBounds_toArray, List.set_cons_zero, List.set_cons_succ]))
  refine ChainL.call (o := ?_) (f := ?_) (args := ?_) ?_ ?_ ?_ ?_
  rotate_left 3
  (focus (simp only [List.getElem?_toArray, List.getElem?_cons_succ, List.getElem?_cons_zero]; with_reducible rfl))
  (focus rfl)
  (focus (go_simp; (constructor <;> with_reducible rfl)))
  refine (wsU8 w0 _ p R (L ++ be1 (x / 256)) x (h1.below ((Below.refl _ _).drew)) (by first | omega | (simp [be1]; omega)) hR).mono ?_
  rintro e w2 ⟨rfl, h2, s2, z2⟩
  have K1 := s2 _ _ _ (by decide) (by decide) (by decide) (K1.below ((Below.refl _ _).drew)); have K2 := s2 _ _ _ (by decide) (by decide) (by decide) (K2.below ((Below.refl _ _).drew)); have S0 := (S0.transI (safe_belowI ((Below.refl _ _).drew))).transI s2; have Z0 := Nat.le_trans Z0 (show (w1).heap.size ≤ w2.heap.size by simpa using z2); refine ⟨_, rfl, ⟨K1, K2⟩, ?_⟩
  simp only [Act.put, List.setIfInBounds_toArray, List.set_cons_zero, List.set_cons_succ]
  refine ChainL.nil ?_
  go_wp2
  rw [rounds_succ]
  go_wp2
  go_end0
  exact ⟨rfl, by simpa [beN, be1, be2, be3] using h2, S0, Z0⟩

set_option maxRecDepth 100000 in
set_option maxHeartbeats 1000000 in
theorem writing1_3 (w0 w : World) (p R tw to : Nat) (L : List Value) (x : Int) (h : WS w0 w p R L) (hx : L.length + 3 ≤ R) (hR : R ≤ 1099511627776) (K1 : Blk w tw 3 #[.int .i64 3]) (K2 : Blk w to 60 #[.func (.func 39) #[.pointer (some ⟨p, 0, none⟩)] #[]]) :
    Calls Try.prog 44 #[.int .i64 x, .pointer (some ⟨tw, 0, none⟩), .pointer (some ⟨to, 0, none⟩)] w fun e w' => e = .returned (.tuple #[]) ∧ WS w0 w' p R (L ++ beN 3 x) ∧ Safe w w' ∧ w.heap.size ≤ w'.heap.size := by
  have c1 := K1.cell 0
  have l1 := K1.lt
  simp only [List.getElem?_toArray, List.getElem?_cons_zero] at c1
  have q0 : IntKind.i64.wrap 0 = 0 := by decide
  have q1 : IntKind.i64.wrap 1 = 1 := by decide
  have q2 : IntKind.i64.wrap 2 = 2 := by decide
  have q8 : IntKind.i64.wrap 8 = 8 := by decide
  have q16 : IntKind.i64.wrap 16 = 16 := by decide
  have S0 : Safe w w := fun _ _ _ _ _ _ k => k
  have Z0 : w.heap.size ≤ w.heap.size := Nat.le_refl _
  go_enter Try.func44, Try.ntmps44
  go_wp2
  refine wp_loop_rounds 4 ?_
  rw [rounds_succ]
  go_wp2
  refine wp_region_chain (fun W => Blk W tw 3 #[.int .i64 3] ∧ Blk W to 60 #[.func (.func 39) #[.pointer (some ⟨p, 0, none⟩)] #[]]) [(0, false), (1, false), (2, false), (3, false), (4, false), (5, false), (6, false), (7, false), (8, true)] (by kernel_rfl) (by kernel_rfl) ⟨K1.below ((Below.refl _ _).drew), K2.below ((Below.refl _ _).drew)⟩ ?_
  repeat (first
    | (refine ChainL.skip (o := ?_) ?_ ?_ ?_; rotate_left; (focus (first | (simp only [List.getElem?_toArray, List.getElem?_cons_succ, List.getElem?_cons_zero]; with_reducible rfl) | (simp only [List.getElem?_toArray, List.getElem?_cons_zero]; with_reducible rfl))); (focus rfl); simp only [Act.put, List.setIfInBounds_toArray, List.set_cons_zero, List.set_cons_succ])
    | (refine ChainL.val (o := ?_) (v := ?_) ?_ ?_ ?_ ?_ ?_; rotate_left 2; (focus (first | (simp only [List.getElem?_toArray, List.getElem?_cons_succ, List.getElem?_cons_zero]; with_reducible rfl) | (simp only [List.getElem?_toArray, List.getElem?_cons_zero]; with_reducible rfl))); (focus (intro _ _ h; cases h)); (focus rfl); (focus (intro w' hI; have c1 := hI.1.cell 0; have c2 := hI.2.cell 0; have l1 := hI.1.lt; have l2 := hI.2.lt; simp only [List.getElem?_toArray, List.getElem?_cons_zero] at c1 c2; go_simp <;> with_reducible rfl)); simp only [Act.put, List.setIfInBounds_toArray, List.set_cons_zero, List.set_cons_succ]))
  refine ChainL.call (o := ?_) (f := ?_) (args := ?_) ?_ ?_ ?_ ?_
  rotate_left 3
  (focus (simp only [List.getElem?_toArray, List.getElem?_cons_succ, List.getElem?_cons_zero]; with_reducible rfl))
  (focus rfl)
  (focus (go_simp; (constructor <;> with_reducible rfl)))
  refine (wsU8 w0 _ p R (L) (x / 65536) (h.below ((Below.refl _ _).drew)) (by first | omega | (simp [be1]; omega)) hR).mono ?_
  rintro e w1 ⟨rfl, h1, s1, z1⟩
  have K1 := s1 _ _ _ (by decide) (by decide) (by decide) (K1.below ((Below.refl _ _).drew)); have K2 := s1 _ _ _ (by decide) (by decide) (by decide) (K2.below ((Below.refl _ _).drew)); have S0 := (S0.transI (safe_belowI ((Below.refl _ _).drew))).transI s1; have Z0 := Nat.le_trans Z0 (show (w).heap.size ≤ w1.heap.size by simpa using z1); refine ⟨_, rfl, ⟨K1, K2⟩, ?_⟩
  simp only [Act.put, List.setIfInBounds_toArray, List.set_cons_zero, List.set_cons_succ]
  refine ChainL.nil ?_
  go_wp2
  rw [rounds_succ]
  go_wp2
  refine wp_region_chain (fun W => Blk W tw 3 #[.int .i64 3] ∧ Blk W to 60 #[.func (.func 39) #[.pointer (some ⟨p, 0, none⟩)] #[]]) [(0, false), (1, false), (2, false), (3, false), (4, false), (5, false), (6, false), (7, false), (8, true)] (by kernel_rfl) (by kernel_rfl) ⟨K1.below ((Below.refl _ _).drew), K2.below ((Below.refl _ _).drew)⟩ ?_
  repeat (first
    | (refine ChainL.skip (o := ?_) ?_ ?_ ?_; rotate_left; (focus (first | (simp only [List.getElem?_toArray, List.getElem?_cons_succ, List.getElem?_cons_zero]; with_reducible rfl) | (simp only [List.getElem?_toArray, List.getElem?_cons_zero]; with_reducible rfl))); (focus rfl); simp only [Act.put, List.setIfInBounds_toArray, List.set_cons_zero, List.set_cons_succ])
    | (refine ChainL.val (o := ?_) (v := ?_) ?_ ?_ ?_ ?_ ?_; rotate_left 2; (focus (first | (simp only [List.getElem?_toArray, List.getElem?_cons_succ, List.getElem?_cons_zero]; with_reducible rfl) | (simp only [List.getElem?_toArray, List.getElem?_cons_zero]; with_reducible rfl))); (focus (intro _ _ h; cases h)); (focus rfl); (focus (intro w' hI; have c1 := hI.1.cell 0; have c2 := hI.2.cell 0; have l1 := hI.1.lt; have l2 := hI.2.lt; simp only [List.getElem?_toArray, List.getElem?_cons_zero] at c1 c2; go_simp <;> with_reducible rfl)); simp only [Act.put, List.setIfInBounds_toArray, List.set_cons_zero, List.set_cons_succ]))
  refine ChainL.call (o := ?_) (f := ?_) (args := ?_) ?_ ?_ ?_ ?_
  rotate_left 3
  (focus (simp only [List.getElem?_toArray, List.getElem?_cons_succ, List.getElem?_cons_zero]; with_reducible rfl))
  (focus rfl)
  (focus (go_simp; (constructor <;> with_reducible rfl)))
  refine (wsU8 w0 _ p R (L ++ be1 (x / 65536)) (x / 256) (h1.below ((Below.refl _ _).drew)) (by first | omega | (simp [be1]; omega)) hR).mono ?_
  rintro e w2 ⟨rfl, h2, s2, z2⟩
  have K1 := s2 _ _ _ (by decide) (by decide) (by decide) (K1.below ((Below.refl _ _).drew)); have K2 := s2 _ _ _ (by decide) (by decide) (by decide) (K2.below ((Below.refl _ _).drew)); have S0 := (S0.transI (safe_belowI ((Below.refl _ _).drew))).transI s2; have Z0 := Nat.le_trans Z0 (show (w1).heap.size ≤ w2.heap.size by simpa using z2); refine ⟨_, rfl, ⟨K1, K2⟩, ?_⟩
  simp only [Act.put, List.setIfInBounds_toArray, List.set_cons_zero, List.set_cons_succ]
  refine ChainL.nil ?_
  go_wp2
  rw [rounds_succ]
  go_wp2
  refine wp_region_chain (fun W => Blk W tw 3 #[.int .i64 3] ∧ Blk W to 60 #[.func (.func 39) #[.pointer (some ⟨p, 0, none⟩)] #[]]) [(0, false), (1, false), (2, false), (3, false), (4, false), (5, false), (6, false), (7, false), (8, true)] (by kernel_rfl) (by kernel_rfl) ⟨K1.below ((Below.refl _ _).drew), K2.below ((Below.refl _ _).drew)⟩ ?_
  repeat (first
    | (refine ChainL.skip (o := ?_) ?_ ?_ ?_; rotate_left; (focus (first | (simp only [List.getElem?_toArray, List.getElem?_cons_succ, List.getElem?_cons_zero]; with_reducible rfl) | (simp only [List.getElem?_toArray, List.getElem?_cons_zero]; with_reducible rfl))); (focus rfl); simp only [Act.put, List.setIfInBounds_toArray, List.set_cons_zero, List.set_cons_succ])
    | (refine ChainL.val (o := ?_) (v := ?_) ?_ ?_ ?_ ?_ ?_; rotate_left 2; (focus (first | (simp only [List.getElem?_toArray, List.getElem?_cons_succ, List.getElem?_cons_zero]; with_reducible rfl) | (simp only [List.getElem?_toArray, List.getElem?_cons_zero]; with_reducible rfl))); (focus (intro _ _ h; cases h)); (focus rfl); (focus (intro w' hI; have c1 := hI.1.cell 0; have c2 := hI.2.cell 0; have l1 := hI.1.lt; have l2 := hI.2.lt; simp only [List.getElem?_toArray, List.getElem?_cons_zero] at c1 c2; go_simp <;> with_reducible rfl)); simp only [Act.put, List.setIfInBounds_toArray, List.set_cons_zero, List.set_cons_succ]))
  refine ChainL.call (o := ?_) (f := ?_) (args := ?_) ?_ ?_ ?_ ?_
  rotate_left 3
  (focus (simp only [List.getElem?_toArray, List.getElem?_cons_succ, List.getElem?_cons_zero]; with_reducible rfl))
  (focus rfl)
  (focus (go_simp; (constructor <;> with_reducible rfl)))
  refine (wsU8 w0 _ p R (L ++ be1 (x / 65536) ++ be1 (x / 256)) x (h2.below ((Below.refl _ _).drew)) (by first | omega | (simp [be1]; omega)) hR).mono ?_
  rintro e w3 ⟨rfl, h3, s3, z3⟩
  have K1 := s3 _ _ _ (by decide) (by decide) (by decide) (K1.below ((Below.refl _ _).drew)); have K2 := s3 _ _ _ (by decide) (by decide) (by decide) (K2.below ((Below.refl _ _).drew)); have S0 := (S0.transI (safe_belowI ((Below.refl _ _).drew))).transI s3; have Z0 := Nat.le_trans Z0 (show (w2).heap.size ≤ w3.heap.size by simpa using z3); refine ⟨_, rfl, ⟨K1, K2⟩, ?_⟩
  simp only [Act.put, List.setIfInBounds_toArray, List.set_cons_zero, List.set_cons_succ]
  refine ChainL.nil ?_
  go_wp2
  rw [rounds_succ]
  go_wp2
  go_end0
  exact ⟨rfl, by simpa [beN, be1, be2, be3] using h3, S0, Z0⟩
theorem writing1_any (n : Nat) (h1 : 1 ≤ n) (h3 : n ≤ 3) (w0 w : World) (p R tw to : Nat) (L : List Value) (x : Int) (h : WS w0 w p R L) (hx : L.length + n ≤ R) (hR : R ≤ 1099511627776) (K1 : Blk w tw 3 #[.int .i64 (n : Nat)]) (K2 : Blk w to 60 #[.func (.func 39) #[.pointer (some ⟨p, 0, none⟩)] #[]]) :
    Calls Try.prog 44 #[.int .i64 x, .pointer (some ⟨tw, 0, none⟩), .pointer (some ⟨to, 0, none⟩)] w fun e w' => e = .returned (.tuple #[]) ∧ WS w0 w' p R (L ++ beN n x) ∧ Safe w w' ∧ w.heap.size ≤ w'.heap.size := by
  match n, h1, h3 with
  | 1, _, _ => exact writing1_1 w0 w p R tw to L x h hx hR K1 K2
  | 2, _, _ => exact writing1_2 w0 w p R tw to L x h hx hR K1 K2
  | 3, _, _ => exact writing1_3 w0 w p R tw to L x h hx hR K1 K2
end Go.Proofs.Ytmckdeopljcdfaa

namespace Go.Proofs.Ytmckdeopljcdfaa
open Go Go.RowKit
set_option linter.unusedVariables false
set_option linter.unusedSimpArgs false

/-- Lists of bytes as they lie. -/
structure RowsAt (w : World) (B : Nat) (A : Option Addr) (Ls : List (List Value)) : Prop where
  at' : ∀ (i : Nat) (L : List Value), Ls[i]? = some L → ∃ (b o : Nat) (Ai : Option Addr) (ci : Nat), A = some ⟨b, o, none⟩ ∧ b < B ∧ w.cell? ⟨b, o + i, none⟩ = some (.slice Ai L.length ci) ∧ Lists w B Ai L
theorem RowsAt.below {w w1 : World} {B : Nat} {A : Option Addr} {Ls : List (List Value)} (h : RowsAt w B A Ls) (hb : Below B w w1) : RowsAt w1 B A Ls :=
  ⟨fun i L hL => by
    obtain ⟨b, o, Ai, ci, h1, h2, h3, h4⟩ := h.at' i L hL
    exact ⟨b, o, Ai, ci, h1, h2, (hb.cell (p := ⟨b, o + i, none⟩) h2).trans h3, h4.below hb⟩⟩
theorem RowsAt.more {w : World} {B B1 : Nat} {A : Option Addr} {Ls : List (List Value)} (h : RowsAt w B A Ls) (hB : B ≤ B1) : RowsAt w B1 A Ls :=
  ⟨fun i L hL => by
    obtain ⟨b, o, Ai, ci, h1, h2, h3, h4⟩ := h.at' i L hL
    exact ⟨b, o, Ai, ci, h1, Nat.lt_of_lt_of_le h2 hB, h3, h4.more hB⟩⟩
/-- How many bytes lists have. -/
def tot (Ls : List (List Value)) : Nat := (Ls.map List.length).sum
theorem tot_snoc (Ls : List (List Value)) (L : List Value) : tot (Ls ++ [L]) = tot Ls + L.length := by simp [tot]
theorem tot_take (Ls : List (List Value)) (k : Nat) : tot (Ls.take k) ≤ tot Ls := by
  induction Ls generalizing k with
  | nil => simp
  | cons L Ls ih =>
    cases k with
    | zero => simp [tot]
    | succ k =>
      have := ih k
      simp only [tot, List.take_succ_cons, List.map_cons, List.sum_cons] at this ⊢
      omega
/-- The offsets, from a on. -/
def offT : Nat → List (List Value) → List Nat
  | a, [] => [a]
  | a, L :: Ls => a :: offT (a + L.length) Ls
theorem offT_snoc (L : List Value) : ∀ (Ls : List (List Value)) (a : Nat), offT a (Ls ++ [L]) = offT a Ls ++ [a + tot Ls + L.length]
  | [], a => by simp [offT, tot]
  | M :: Ls, a => by
    show a :: offT (a + M.length) (Ls ++ [L]) = a :: offT (a + M.length) Ls ++ [a + tot (M :: Ls) + L.length]
    rw [offT_snoc L Ls (a + M.length)]
    simp [tot]
    omega
theorem offT_len : ∀ (Ls : List (List Value)) (a : Nat), (offT a Ls).length = Ls.length + 1
  | [], a => rfl
  | M :: Ls, a => by show (offT (a + M.length) Ls).length + 1 = _; rw [offT_len Ls]; rfl
theorem intInfoI : (Try.prog.info? 3).map (fun i => (i.zero, i.size, i.bytes)) = some (some (.int .i64 0), 1, 8) := by kernel_rfl
theorem own_lowI {w : World} {base : Nat} {e : TypeId} {size n : Nat} {v : Value} {xs : List Value} (h : w.ownsRow base e size v n xs) : ∀ b ∈ blk v, base ≤ b := by
  intro b hm
  rcases h.2 with ⟨rfl, _⟩ | ⟨g, cap, cur, rfl, h2, _⟩
  · simp [blk, Value.ownBlock] at hm
  · have : b = g := by simpa [blk, Value.ownBlock] using hm
    omega
theorem own_blk {w : World} {base : Nat} {e : TypeId} {n : Nat} {v : Value} {xs : List Value} (h : w.ownsRow base e 1 v (n + 1) xs) : ∃ g cap cur, v = .slice (some ⟨g, 0, none⟩) (n + 1) cap ∧ Blk w g e cur ∧ ∀ (j : Nat) (x : Value), xs[j]? = some x → cur[j]? = some x := by
  rcases h.2 with ⟨_, h2⟩ | ⟨g, cap, cur, h1, _, h3, _, _, _, h5⟩
  · omega
  · refine ⟨g, cap, cur, h1, h3, fun j x hx => ?_⟩
    rw [← h5, List.getElem?_take] at hx
    split at hx
    · simpa using hx
    · cases hx
theorem lists_rowI (w : World) (cs : List Value) (T : TypeId) : Lists (w.alloc (.cells cs.toArray T)) (w.heap.size + 1) (some ⟨w.heap.size, 0, none⟩) cs := lists_row w cs T
/-- What putOffsets puts. -/
def offE (Ls : List (List Value)) : List Value := be1 (wdN (1 + tot Ls) : Nat) ++ (offT 1 Ls).flatMap fun o => beN (wdN (1 + tot Ls)) ((o : Nat) : Int)
set_option maxRecDepth 100000 in
theorem writing_any (n p : Nat) (v : Value) (w : World) (hv : v = .func (.func 39) #[.pointer (some ⟨p, 0, none⟩)] #[]) : Calls Try.prog 40 #[.int .i64 (n : Nat), v] w fun e w' => ∃ tw to, e = .returned (.func (.func 44) #[] #[.pointer (some ⟨tw, 0, none⟩), .pointer (some ⟨to, 0, none⟩)]) ∧ Blk w' tw 3 #[.int .i64 (n : Nat)] ∧ Blk w' to 60 #[.func (.func 39) #[.pointer (some ⟨p, 0, none⟩)] #[]] ∧ Below w.heap.size w w' := by
  subst hv
  have al : Below w.heap.size w (w.alloc (.cells #[.int .i64 (n : Nat)] 3)) := (Below.refl _ _).alloc (Nat.le_refl _) _
  have k1 := (Blk.new w 3 #[.int .i64 (n : Nat)]).below ((Below.refl _ _).alloc (Nat.le_refl _) (.cells #[.func (.func 39) #[.pointer (some ⟨p, 0, none⟩)] #[]] 60))
  have k2 := Blk.new (w.alloc (.cells #[.int .i64 (n : Nat)] 3)) 60 #[.func (.func 39) #[.pointer (some ⟨p, 0, none⟩)] #[]]
  have B2 := al.alloc al.size (.cells #[.func (.func 39) #[.pointer (some ⟨p, 0, none⟩)] #[]] 60)
  go_enter Try.func40, Try.ntmps40
  go_wp2
  go_ret
  exact ⟨_, _, rfl, k1, by simpa using k2, B2⟩
set_option maxRecDepth 100000 in
set_option maxHeartbeats 2000000 in
theorem putOffsets_any (w0 w : World) (p R B : Nat) (L : List Value) (A : Option Addr) (c : Nat) (Ls : List (List Value)) (h : WS w0 w p R L) (hB : B ≤ w.heap.size) (hl : RowsAt w B A Ls) (hn : Ls.length ≤ 65535) (ht : tot Ls ≤ 8388608) (hx : L.length + 262144 ≤ R) (hR : R ≤ 1099511627776) :
    Calls Try.prog 28 #[.pointer (some ⟨p, 0, none⟩), .slice A Ls.length c] w fun e w' => e = .returned (.tuple #[]) ∧ WS w0 w' p R (L ++ offE Ls) := by
  have HL := Lib.hid hl
  have HW := Lib.hid h
  obtain ⟨n, hnn⟩ : ∃ n, Ls.length = n := ⟨_, rfl⟩
  rw [hnn] at hn ⊢
  have HN := Lib.hid hnn
  have HT := Lib.hid ht
  clear hl h hnn ht
  obtain ⟨i0, hi, hz0, hz1, hz2⟩ := info_parts intInfoI
  have hrow : (w.alloc (.cells #[.int .i64 1] 3)).ownsRow w.heap.size 3 1 (.slice (some ⟨w.heap.size, 0, none⟩) 1 1) 1 [.int .i64 1] := ⟨rfl, .inr ⟨w.heap.size, 1, _, rfl, Nat.le_refl _, heap_alloc_new w _, Nat.le_refl _, by decide, rfl, rfl⟩⟩
  have HR := Lib.hid hrow
  clear hrow
  go_enter Try.func28, Try.ntmps28
  go_wp2
  go_loopw [4, 5, 16] (fun ev ov iv wr => ∃ k : Nat, k ≤ n ∧ iv = .int .i64 (k : Nat) ∧ ev = .int .i64 ((1 + tot (Ls.take k) : Nat) : Int) ∧ wr.ownsRow w.heap.size 3 1 ov (k + 1) (intCells ((offT 1 (Ls.take k)).map Int.ofNat)) ∧ Below w.heap.size w wr) (fun _ _ iv _ => n - (intOf iv).toNat)
  case atStart => exact ⟨0, Nat.zero_le _, rfl, by simp [tot], by simpa [offT, intCells] using HR.out, (Below.refl _ _).alloc (Nat.le_refl _) _⟩
  case round =>
    obtain ⟨k, hk, rfl, rfl, hown, hb⟩ := hrel
    by_cases hlt : k < n
    · have d1 : decide ((k : Int) < (n : Int)) = true := by simp; omega
      obtain ⟨M, hM⟩ : ∃ M, Ls[k]? = some M := ⟨Ls[k]'(by rw [HN.out]; exact hlt), List.getElem?_eq_getElem _⟩
      obtain ⟨b, o, Ai, ci, rfl, hbl, c0, _⟩ := HL.out.at' k M hM
      have hbw := Nat.lt_of_lt_of_le hbl hB
      have g0 := (hb.cell (p := ⟨b, o + k, none⟩) hbw).trans c0
      have hbr := Nat.lt_of_lt_of_le hbw hb.size
      have hT : Ls.take (k + 1) = Ls.take k ++ [M] := by rw [List.take_add_one, hM]; rfl
      have ht1 := tot_take Ls (k + 1)
      rw [hT, tot_snoc] at ht1
      have htt := HT.out
      have hbd : 1 + tot (Ls.take k) + M.length ≤ 8388609 := by omega
      have HS := Lib.hid (show (1 + tot (Ls.take (k + 1)) : Nat) = 1 + tot (Ls.take k) + M.length by rw [hT, tot_snoc]; omega)
      have HO := Lib.hid (show intCells ((offT 1 (Ls.take (k + 1))).map Int.ofNat) = intCells ((offT 1 (Ls.take k)).map Int.ofNat) ++ [.int .i64 ((1 + tot (Ls.take k) + M.length : Nat) : Int)] by rw [hT, offT_snoc]; simp [intCells])
      generalize intCells ((offT 1 (Ls.take k)).map Int.ofNat) = xs at *
      generalize 1 + tot (Ls.take k) = e0 at *
      obtain ⟨ml, hml⟩ : ∃ ml, M.length = ml := ⟨_, rfl⟩
      rw [hml] at c0 g0 HS HO hbd
      have s1 : IntKind.i64.wrap ((e0 : Int) + (ml : Int)) = ((e0 + ml : Nat) : Int) := by rw [IntWalk.i64_in _ (by omega)]; omega
      have own1 := own_only hown ((Only.refl wr []).alloc (.cells #[.int .i64 ((e0 + ml : Nat) : Int)] 3)) (fun _ _ h => (nomatch h))
      have hs1 := hb.size
      clear hT hM c0 hml htt ht1
      go_wp2_with (first | (at_builtin; refine wpList_append_src _ rfl (.tmp 24) (.tmp 26) 48 rfl w.heap.size 3 i0 (.int .i64 0) 1 8 Try.underlying48 hi hz0 hz1 hz2 rfl (by decide) u5 (k + 1) xs rfl (by exact own1) (wr.heap.size + 1) (some ⟨wr.heap.size, 0, none⟩) 1 1 [.int .i64 ((e0 + ml : Nat) : Int)] (by rfl) (by exact lists_rowI wr [.int .i64 ((e0 + ml : Nat) : Int)] 3) rfl (by simp [Value.oneCell']) (by simp only [maxLen]; omega) (by omega) (by simp; omega) ?_; intro v2 w2 own2 hg2 hat2; have b2 := (hb.alloc hb.size (.cells #[.int .i64 ((e0 + ml : Nat) : Int)] 3)).grown hg2 (by simp; omega) (fun b hb' => own_lowI own1 b (by simp [blk, hb']))))
      go_roundw
      case rel => exact ⟨k + 1, by omega, by go_num, by rw [HS.out]; go_num, by rw [HO.out]; exact own2, b2⟩
      case measure => simp [intOf]; omega
    · obtain rfl : k = n := by omega
      have d1 : decide ((k : Int) < (k : Int)) = false := by simp
      have hTk : Ls.take k = Ls := List.take_of_length_le (by rw [HN.out]; exact Nat.le_refl _)
      rw [hTk] at hown ⊢
      clear hTk
      have hlt2 : 1 + tot Ls < 4294967296 := by have := HT.out; omega
      obtain ⟨wd, hwd⟩ : ∃ wd, wdN (1 + tot Ls) = wd := ⟨_, rfl⟩
      have hw1 : 1 ≤ wd ∧ wd ≤ 3 := by
        rw [← hwd]
        unfold wdN
        have := HT.out
        repeat' split
        all_goals omega
      have HE := Lib.hid (show offE Ls = be1 (wd : Nat) ++ (offT 1 Ls).flatMap fun o => beN wd ((o : Nat) : Int) by unfold offE; rw [hwd])
      have CW := fun W => widthOf_any (1 + tot Ls) hlt2 W
      rw [hwd] at CW
      have hWS := HW.out.below hb
      have hol := offT_len Ls 1
      rw [HN.out] at hol
      have HOL := Lib.hid hol
      obtain ⟨g, cap, cur, rfl, KO, hcur⟩ := own_blk hown
      have HC := Lib.hid hcur
      clear hown hwd hcur hol
      generalize 1 + tot Ls = ee at *
      go_wp2_with (first
        | (go_at_call 38; ((with_reducible refine (CW _).mono ?_); rintro e w2 ⟨rfl, rfl⟩))
        | (go_at_call 39; ((with_reducible refine (wsU8 w0 _ p R L (wd : Nat) hWS (by omega) hR).mono ?_); rintro e w3 ⟨rfl, h3, s3, z3⟩; have KO := s3 _ _ _ (by decide) (by decide) (by decide) KO))
        | (go_at_call 40; ((with_reducible refine (writing_any wd p _ _ rfl).mono ?_); rintro e w4 ⟨tw, to, rfl, KW, KF, b4⟩; have KO := KO.below b4; have h4 := h3.below b4)))
      go_loopw [40] (fun iv wr => ∃ j : Nat, j ≤ k + 1 ∧ iv = .int .i64 (j : Nat) ∧ WS w0 wr p R (L ++ be1 (wd : Nat) ++ ((offT 1 Ls).take j).flatMap fun o => beN wd ((o : Nat) : Int)) ∧ Blk wr tw 3 #[.int .i64 (wd : Nat)] ∧ Blk wr to 60 #[.func (.func 39) #[.pointer (some ⟨p, 0, none⟩)] #[]] ∧ Blk wr g 3 cur) (fun iv _ => k + 1 - (intOf iv).toNat)
      case atStart => exact ⟨0, Nat.zero_le _, rfl, by simpa using h4, KW, KF, KO⟩
      case round =>
        obtain ⟨j, hj, rfl, HJ, KW, KF, KO⟩ := hrel
        clear h3 h4 s3 hWS
        by_cases hlt : j < k + 1
        · have d1 : decide ((j : Int) < (k : Int) + 1) = true := by simp; omega
          obtain ⟨of, hof⟩ : ∃ of, (offT 1 Ls)[j]? = some of := ⟨(offT 1 Ls)[j]'(by rw [HOL.out]; exact hlt), List.getElem?_eq_getElem _⟩
          have hcc := HC.out j (.int .i64 (of : Int)) (by simp [intCells, hof])
          have g0 := (KO.cell j).trans hcc
          have gl := KO.lt
          have HT2 := Lib.hid (show (offT 1 Ls).take (j + 1) = (offT 1 Ls).take j ++ [of] by rw [List.take_add_one, hof]; rfl)
          have hlen : ∀ l : List Nat, (l.flatMap fun o => beN wd ((o : Nat) : Int)).length = l.length * wd := fun l => by
            induction l with
            | nil => simp
            | cons x l ih => rw [List.flatMap_cons, List.length_append, ih, beN_len hw1.1 hw1.2, List.length_cons, Nat.add_mul]; omega
          have hl2 : (L ++ be1 (wd : Nat) ++ ((offT 1 Ls).take j).flatMap fun o => beN wd ((o : Nat) : Int)).length + wd ≤ R := by
            rw [List.length_append, List.length_append, hlen, List.length_take, HOL.out]
            have h5 : min j (k + 1) * wd ≤ 65535 * 3 := Nat.mul_le_mul (by omega) hw1.2
            simp [be1]
            omega
          have CX := writing1_any wd hw1.1 hw1.2 w0 wr p R tw to _ (of : Nat) HJ hl2 hR KW KF
          clear hof hcc hlen hl2
          go_wp2_with (go_at_call 44; ((with_reducible refine (CX).mono ?_); rintro e w5 ⟨rfl, h5, s5, z5⟩))
          go_roundw
          case rel => exact ⟨j + 1, by omega, by go_num, by rw [HT2.out, List.flatMap_append]; simpa using h5, s5 _ _ _ (by decide) (by decide) (by decide) KW, s5 _ _ _ (by decide) (by decide) (by decide) KF, s5 _ _ _ (by decide) (by decide) (by decide) KO⟩
          case measure => simp [intOf]; omega
        · obtain rfl : j = k + 1 := by omega
          have d1 : decide (((k + 1 : Nat) : Int) < (k : Int) + 1) = false := by simp
          rw [List.take_of_length_le (by rw [HOL.out]; exact Nat.le_refl _)] at HJ
          have HF := Lib.hid (show WS w0 wr p R (L ++ offE Ls) by rw [HE.out, ← List.append_assoc]; exact HJ)
          clear HJ
          go_wp2
          go_end0
          exact ⟨rfl, HF.out⟩
end Go.Proofs.Ytmckdeopljcdfaa
