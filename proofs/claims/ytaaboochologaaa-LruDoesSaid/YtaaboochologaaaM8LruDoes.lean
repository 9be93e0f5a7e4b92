/- Part 9 of the proof: LrR, Law, OpenInts, OpenNums, MetM, Met1, Met2, OpenMets, Law4, CnO. -/
import Derived.Test.YtaaboochologaaaRows
import Derived.ProofKit
import Derived.OpenShut
import Derived.Carry
import Derived.ChangeSlices
import Derived.Deep.Slices
import Derived.Deep.Fields
import Derived.SizedLaws
import Derived.Lib.Hide
import Derived.Shelf.Abstract
import Derived.Lib.SmallJoins
import Derived.Test.YtaaboochologaaaM7LruDoes

namespace Go.Proofs.Ytaaboochologaaa
open Go Go.RowKit
set_option linter.unusedVariables false
set_option linter.unusedSimpArgs false

theorem find_skip {k : Ky} {l m : List En} (h : ∀ e ∈ l, e.1 ≠ k) : (l ++ m).find? (isK k) = m.find? (isK k) := by
  rw [List.find?_append, List.find?_eq_none.2 (fun e he => by unfold isK; simp [h e he])]
  rfl
theorem lrget_miss (B p : Nat) (bud : Int) (L : List En) (C : Cs) (k : Ky) (hk : kyW k) (w : World) (h : LrS w B p bud L C) (hf : L.find? (isK k) = none) : Calls Try.prog 13 #[.pointer (some ⟨p, 0, none⟩), .agg #[.int .i64 k.1, .int .i64 k.2.1, .int .i64 k.2.2.1, .int .i64 k.2.2.2]] w fun e w' => e = .returned (.tuple #[.agg #[.int .i64 0, .int .i64 0, .int .i64 0, .int .i64 0, .slice none 0 0], .bool false]) ∧ LrS w' B p bud L C ∧ Below w.heap.size w w' := by
  obtain ⟨ord, h1, rfl, rfl⟩ := h
  have hn : C.f k = none := by
    cases e : C.f k with
    | none => rfl
    | some i =>
      obtain ⟨hi, hki⟩ := (h1.i.f k i).1 e
      have := List.find?_eq_none.1 hf (ent C.PL i) (List.mem_map.2 ⟨i, hi, rfl⟩)
      exact absurd (show isK k (ent C.PL i) = true by unfold isK; simp [ent, hki]) this
  refine (lrget_none B p C k hk w h1.v hn).mono ?_
  rintro e w' ⟨rfl, b⟩
  exact ⟨rfl, ⟨ord, h1.below b, rfl, rfl⟩, b⟩
theorem lrget_hit (B p : Nat) (bud : Int) (L : List En) (C : Cs) (k : Ky) (hk : kyW k) (en : En) (w : World) (h : LrS w B p bud L C) (hf : L.find? (isK k) = some en) : Calls Try.prog 13 #[.pointer (some ⟨p, 0, none⟩), .agg #[.int .i64 k.1, .int .i64 k.2.1, .int .i64 k.2.2.1, .int .i64 k.2.2.2]] w fun e w' => ∃ g C', e = .returned (.tuple #[.agg #[.int .i64 en.2.1.x0, .int .i64 en.2.1.y0, .int .i64 en.2.1.x1, .int .i64 en.2.1.y1, .slice (some ⟨g, 0, none⟩) en.2.2.length en.2.2.length], .bool true]) ∧ Blk w' g 5 en.2.2.toArray ∧ w.heap.size ≤ g ∧ LrS w' B p bud (en :: dropE k L) C' ∧ ModC w w' p C C' := by
  obtain ⟨ord, h1, rfl, rfl⟩ := h
  have hm := List.mem_of_find?_eq_some hf
  have hk1 : en.1 = k := by have := List.find?_some hf; unfold isK at this; simpa using this
  obtain ⟨i, hi, hei⟩ := List.mem_map.1 hm
  have hki : (atP C.PL i).k = k := by rw [← hk1, ← hei]; rfl
  have hfi := (h1.i.f k i).2 ⟨hi, hki⟩
  obtain ⟨l, m, rfl⟩ := List.append_of_mem hi
  obtain ⟨ig, hho, _⟩ := h1.i.get
  have hd := dropE_at h1.i
  rw [hki] at hd
  refine (lrget_some B p C l m i k hk w h1 hfi en.2.1 en.2.2 (by rw [← hei]; rfl) (by rw [← hei]; rfl)).mono ?_
  rintro e w' ⟨g, rfl, gb, gs, ca, md⟩
  refine ⟨g, getC C i, rfl, gb, gs, ⟨_, ca, ?_, rfl⟩, md⟩
  rw [List.map_cons, hd, map_hold (fun j _ => hho j), ent_hold (hho i), hei]
section
set_option linter.unusedSectionVars false
variable [Inhabited BanT]
/-- The cache is all of one's own. -/
def OwnC (N : Nat) (w0 w : World) (p : Nat) (C : Cs) : Prop := Below N w0 w ∧ (∀ b ∈ fpC p C, N ≤ b) ∧ N ≤ w.heap.size
theorem OwnC.mod {N p : Nat} {w0 w w' : World} {C C' : Cs} (h : OwnC N w0 w p C) (m : ModC w w' p C C') : OwnC N w0 w' p C' :=
  ⟨h.1.trans (m.1.to_below h.2.2 h.2.1), fun b hb => by
    rcases m.2 b hb with h1 | h1
    · exact h.2.1 b h1
    · exact Nat.le_trans h.2.2 h1, Nat.le_trans h.2.2 m.1.size⟩
theorem OwnC.below {N p : Nat} {w0 w w' : World} {C : Cs} (h : OwnC N w0 w p C) (b : Below w.heap.size w w') : OwnC N w0 w' p C := h.mod (ModC.below b)
/-- The cache has these entries, and is all of one's own. -/
def StC (N : Nat) (w0 w : World) (p : Nat) (bud : Int) (L : List En) (C : Cs) : Prop := LrS w N p bud L C ∧ OwnC N w0 w p C
theorem StC.below {N p : Nat} {w0 w w' : World} {bud : Int} {L : List En} {C : Cs} (h : StC N w0 w p bud L C) (b : Below w.heap.size w w') : StC N w0 w' p bud L C := ⟨h.1.below b, h.2.below b⟩
end
theorem stnew_any (x : Int) (hx : inZ 0 16777216 x = true) (N : Nat) (w0 w : World) (hb : Below N w0 w) (hN : N ≤ w.heap.size) : Calls Try.prog 8 #[.int .i64 x] w fun e w' => ∃ p C, e = .returned (.tuple #[.pointer (some ⟨p, 0, none⟩), .int .i64 0]) ∧ StC N w0 w' p x [] C := by
  refine (lrnew_ok x hx N w hN).mono ?_
  rintro e w' ⟨p, C, rfl, s, b, hf⟩
  exact ⟨p, C, rfl, s, hb.trans (b.mono hN), fun c hc => Nat.le_trans hN (hf c hc), Nat.le_trans hN b.size⟩
theorem stput_any (N p : Nat) (w0 w : World) (bud : Int) (L : List En) (C : Cs) (k : Ky) (hk : kyW k) (A : Q) (g n : Nat) (M : List Value) (h : StC N w0 w p bud L C) (hl : M.length = n) (hls : Blk w g 5 M.toArray) (h8 : Bytes8 M) (c : Nat) :
    Calls Try.prog 16 #[.pointer (some ⟨p, 0, none⟩), .agg #[.int .i64 k.1, .int .i64 k.2.1, .int .i64 k.2.2.1, .int .i64 k.2.2.2], .agg #[.int .i64 A.x0, .int .i64 A.y0, .int .i64 A.x1, .int .i64 A.y1, .slice (some ⟨g, 0, none⟩) n c]] w fun e w' => ∃ C', e = .returned (.tuple #[.bool (lputB bud A n), .int .i64 (chkC A n)]) ∧ StC N w0 w' p bud (lputL bud L k A n M) C' ∧ ModC w w' p C C' := by
  refine (lrput_any N p bud L C k hk A _ n c M w h.1 hl (lists_blkL hls) h8 (fun a ha _ => by cases ha; exact h.1.v.u8 hls) h.2.2.2).mono ?_
  rintro e w' ⟨C', rfl, s, m⟩
  exact ⟨C', rfl, ⟨s, h.2.mod m⟩, m⟩
theorem stget_hit (N p : Nat) (w0 w : World) (bud : Int) (L : List En) (C : Cs) (k : Ky) (hk : kyW k) (en : En) (h : StC N w0 w p bud L C) (hf : L.find? (isK k) = some en) : Calls Try.prog 13 #[.pointer (some ⟨p, 0, none⟩), .agg #[.int .i64 k.1, .int .i64 k.2.1, .int .i64 k.2.2.1, .int .i64 k.2.2.2]] w fun e w' => ∃ g C', e = .returned (.tuple #[.agg #[.int .i64 en.2.1.x0, .int .i64 en.2.1.y0, .int .i64 en.2.1.x1, .int .i64 en.2.1.y1, .slice (some ⟨g, 0, none⟩) en.2.2.length en.2.2.length], .bool true]) ∧ Blk w' g 5 en.2.2.toArray ∧ w.heap.size ≤ g ∧ StC N w0 w' p bud (en :: dropE k L) C' ∧ ModC w w' p C C' := by
  refine (lrget_hit N p bud L C k hk en w h.1 hf).mono ?_
  rintro e w' ⟨g, C', rfl, gb, gs, s, m⟩
  exact ⟨g, C', rfl, gb, gs, ⟨s, h.2.mod m⟩, m⟩
theorem stget_miss (N p : Nat) (w0 w : World) (bud : Int) (L : List En) (C : Cs) (k : Ky) (hk : kyW k) (h : StC N w0 w p bud L C) (hf : L.find? (isK k) = none) : Calls Try.prog 13 #[.pointer (some ⟨p, 0, none⟩), .agg #[.int .i64 k.1, .int .i64 k.2.1, .int .i64 k.2.2.1, .int .i64 k.2.2.2]] w fun e w' => e = .returned (.tuple #[.agg #[.int .i64 0, .int .i64 0, .int .i64 0, .int .i64 0, .slice none 0 0], .bool false]) ∧ StC N w0 w' p bud L C ∧ Below w.heap.size w w' := by
  refine (lrget_miss N p bud L C k hk w h.1 hf).mono ?_
  rintro e w' ⟨rfl, s, b⟩
  exact ⟨rfl, h.below b, b⟩
theorem repL_8 {n : Nat} {b : Int} (hb : 0 ≤ b ∧ b ≤ 255) : Bytes8 (repL n b) := fun u hu => by
  have := List.eq_of_mem_replicate hu
  exact ⟨b.toNat, by omega, by rw [this, Int.toNat_of_nonneg hb.1]⟩
theorem repL_len (n : Nat) (b : Int) : (repL n b).length = n := List.length_replicate
def kyN (i : Int) : Ky := (i, 0, 0, 0)
theorem kyN_w (i : Int) (h : in64 i) : kyW (kyN i) := ⟨h, show in64 0 from ⟨by decide, by decide⟩, show in64 0 from ⟨by decide, by decide⟩, show in64 0 from ⟨by decide, by decide⟩⟩
def e25 (i b : Int) : En := (kyN i, ⟨0, 0, 30, 1⟩, repL 30 b)
theorem stget25 (N p : Nat) (w0 w : World) (bud : Int) (L : List En) (C : Cs) (i b : Int) (hi : in64 i) (h : StC N w0 w p bud L C) (hf : L.find? (isK (kyN i)) = some (e25 i b)) : Calls Try.prog 13 #[.pointer (some ⟨p, 0, none⟩), .agg #[.int .i64 i, .int .i64 0, .int .i64 0, .int .i64 0]] w fun e w' => ∃ g C', e = .returned (.tuple #[.agg #[.int .i64 0, .int .i64 0, .int .i64 30, .int .i64 1, .slice (some ⟨g, 0, none⟩) 30 30], .bool true]) ∧ Blk w' g 5 (repL 30 b).toArray ∧ StC N w0 w' p bud (e25 i b :: dropE (kyN i) L) C' := by
  refine (stget_hit N p w0 w bud L C (kyN i) (kyN_w i hi) _ h hf).mono ?_
  rintro e w' ⟨g, C', rfl, gb, gs, s, m⟩
  exact ⟨g, C', by simp only [e25, repL_len], gb, s⟩
set_option maxRecDepth 100000 in
set_option maxHeartbeats 2000000 in
theorem lives25_any (w : World) : Calls Try.prog 9 #[] w fun e w' => e = .returned (.bool true) ∧ Below w.heap.size w w' := by
  obtain ⟨N, hN⟩ : ∃ N, N = w.heap.size := ⟨_, rfl⟩
  have CN := stnew_any 200 (by decide) N w w (Below.refl _ _) (by omega)
  have CB := fun W => lrnew_bad (-1) (by decide) W
  have q1 : lputB 200 ⟨0, 0, 30, 1⟩ 30 = true := by decide
  have q2 : chkC ⟨0, 0, 30, 1⟩ 30 = 0 := by decide
  have L1 : lputL 200 [] (kyN 1) ⟨0, 0, 30, 1⟩ 30 (repL 30 5) = [e25 1 5] := by kernel_rfl
  have L2 : lputL 200 [e25 1 5] (kyN 2) ⟨0, 0, 30, 1⟩ 30 (repL 30 6) = [e25 2 6, e25 1 5] := by kernel_rfl
  have L3 : e25 1 5 :: dropE (kyN 1) [e25 2 6, e25 1 5] = [e25 1 5, e25 2 6] := by kernel_rfl
  have L4 : lputL 200 [e25 1 5, e25 2 6] (kyN 3) ⟨0, 0, 30, 1⟩ 30 (repL 30 7) = [e25 3 7, e25 1 5] := by kernel_rfl
  have L5 : e25 1 5 :: dropE (kyN 1) [e25 3 7, e25 1 5] = [e25 1 5, e25 3 7] := by kernel_rfl
  have HN := Lib.hid hN
  have HL := Lib.hid (And.intro q1 (And.intro q2 (And.intro L1 (And.intro L2 (And.intro L3 (And.intro L4 L5))))))
  clear hN q1 q2 L1 L2 L3 L4 L5
  go_enter Try.func9, Try.ntmps9
  go_upto_region 2 with (go_at_call 8; refine (CN).mono ?_; rintro e w1 ⟨p, C0, rfl, s0⟩)
  go_upto_region 5 with (go_at_call 8; refine (CB _).mono ?_; rintro e w1 ⟨rfl, rfl⟩)
  have HS0 := Lib.hid s0
  clear s0 CN CB
  go_upto_region 6 with (first
    | (go_at_call 18; refine (lmask_any 30 5 ⟨by decide, by decide⟩ _).mono ?_; rintro e wm ⟨gm, rfl, gmb, gms, bm⟩; have PP := stput_any N p w wm 200 [] _ (kyN 1) (kyN_w _ ⟨by decide, by decide⟩) ⟨0, 0, 30, 1⟩ gm 30 (repL 30 5) (HS0.out.below bm) (repL_len _ _) gmb (repL_8 (by decide)) 30; rw [HL.out.1, HL.out.2.1, HL.out.2.2.1] at PP)
    | (go_at_call 16; refine (PP).mono ?_; rintro e wp ⟨Cp, rfl, sp, mp⟩))
  have HS1 := Lib.hid sp
  clear sp mp PP gmb gms bm
  go_upto_region 7 with (first
    | (go_at_call 18; refine (lmask_any 30 6 ⟨by decide, by decide⟩ _).mono ?_; rintro e wm ⟨gm, rfl, gmb, gms, bm⟩; have PP := stput_any N p w wm 200 [e25 1 5] _ (kyN 2) (kyN_w _ ⟨by decide, by decide⟩) ⟨0, 0, 30, 1⟩ gm 30 (repL 30 6) (HS1.out.below bm) (repL_len _ _) gmb (repL_8 (by decide)) 30; rw [HL.out.1, HL.out.2.1, HL.out.2.2.2.1] at PP)
    | (go_at_call 16; refine (PP).mono ?_; rintro e wp ⟨Cp, rfl, sp, mp⟩))
  have HS2 := Lib.hid sp
  clear sp mp PP gmb gms bm
  have GG := stget25 N p w _ 200 [e25 2 6, e25 1 5] _ 1 5 ⟨by decide, by decide⟩ HS2.out (by kernel_rfl)
  rw [HL.out.2.2.2.2.1] at GG
  go_upto_region 8 with (first
    | (go_at_call 13; refine (GG).mono ?_; rintro e wg ⟨g2, Cg, rfl, gb, sg⟩; have HR2 := Lib.hid (Blk.new wg 37 #[.int .i64 0, .int .i64 0, .int .i64 0, .int .i64 0, .slice none 0 0]))
    | (refine wpList_store_row rfl 37 (.tmp 9) (.tmp 54) (by with_reducible rfl) wg.heap.size #[.int .i64 0, .int .i64 0, .int .i64 30, .int .i64 1, .slice (some ⟨g2, 0, none⟩) 30 30] (by rfl) (by rfl) 37 #[.int .i64 0, .int .i64 0, .int .i64 0, .int .i64 0, .slice none 0 0] (by exact HR2.out) mkInfoL rfl (by simp [Value.oneCell']) ?_))
  obtain ⟨wy2, hwy⟩ : ∃ wy, wy = (wg.alloc (.cells #[.int .i64 0, .int .i64 0, .int .i64 0, .int .i64 0, .slice none 0 0] 37)).setRow wg.heap.size #[.int .i64 0, .int .i64 0, .int .i64 30, .int .i64 1, .slice (some ⟨g2, 0, none⟩) 30 30] := ⟨_, rfl⟩
  rw [← hwy]
  have by1 : Below wg.heap.size wg wy2 := hwy ▸ below_setRow (g := wg.heap.size) (below_a1 _ _) (Nat.le_refl _) _
  obtain ⟨q2, hq2⟩ : ∃ q, q = wg.heap.size := ⟨_, rfl⟩
  rw [← hq2]
  have HB2 := Lib.hid (And.intro (show Blk wy2 q2 37 #[.int .i64 0, .int .i64 0, .int .i64 30, .int .i64 1, .slice (some ⟨g2, 0, none⟩) 30 30] from by rw [hwy, hq2]; exact blk_row HR2.out _) (gb.below by1))
  have HS3 := Lib.hid (sg.below by1)
  clear gb sg hwy by1 GG hq2
  go_upto_region 9 with (first
    | (go_at_call 18; refine (lmask_any 30 7 ⟨by decide, by decide⟩ _).mono ?_; rintro e wm ⟨gm, rfl, gmb, gms, bm⟩; have PP := stput_any N p w wm 200 [e25 1 5, e25 2 6] _ (kyN 3) (kyN_w _ ⟨by decide, by decide⟩) ⟨0, 0, 30, 1⟩ gm 30 (repL 30 7) (HS3.out.below bm) (repL_len _ _) gmb (repL_8 (by decide)) 30; rw [HL.out.1, HL.out.2.1, HL.out.2.2.2.2.2.1] at PP)
    | (go_at_call 16; refine (PP).mono ?_; rintro e wp ⟨Cp, rfl, sp, mp⟩))
  have HS4 := Lib.hid sp
  clear sp mp PP gmb gms bm
  have GG := stget25 N p w _ 200 [e25 3 7, e25 1 5] _ 1 5 ⟨by decide, by decide⟩ HS4.out (by kernel_rfl)
  rw [HL.out.2.2.2.2.2.2] at GG
  go_upto_region 10 with (first
    | (go_at_call 13; refine (GG).mono ?_; rintro e wg ⟨g4, Cg, rfl, gb, sg⟩; have HR4 := Lib.hid (Blk.new wg 37 #[.int .i64 0, .int .i64 0, .int .i64 0, .int .i64 0, .slice none 0 0]))
    | (refine wpList_store_row rfl 37 (.tmp 13) (.tmp 67) (by with_reducible rfl) wg.heap.size #[.int .i64 0, .int .i64 0, .int .i64 30, .int .i64 1, .slice (some ⟨g4, 0, none⟩) 30 30] (by rfl) (by rfl) 37 #[.int .i64 0, .int .i64 0, .int .i64 0, .int .i64 0, .slice none 0 0] (by exact HR4.out) mkInfoL rfl (by simp [Value.oneCell']) ?_))
  obtain ⟨wy4, hwy⟩ : ∃ wy, wy = (wg.alloc (.cells #[.int .i64 0, .int .i64 0, .int .i64 0, .int .i64 0, .slice none 0 0] 37)).setRow wg.heap.size #[.int .i64 0, .int .i64 0, .int .i64 30, .int .i64 1, .slice (some ⟨g4, 0, none⟩) 30 30] := ⟨_, rfl⟩
  rw [← hwy]
  have by1 : Below wg.heap.size wg wy4 := hwy ▸ below_setRow (g := wg.heap.size) (below_a1 _ _) (Nat.le_refl _) _
  obtain ⟨q4, hq4⟩ : ∃ q, q = wg.heap.size := ⟨_, rfl⟩
  rw [← hq4]
  have HB4 := Lib.hid (And.intro (show Blk wy4 q4 37 #[.int .i64 0, .int .i64 0, .int .i64 30, .int .i64 1, .slice (some ⟨g4, 0, none⟩) 30 30] from by rw [hwy, hq4]; exact blk_row HR4.out _) (gb.below by1))
  have HS5 := Lib.hid (sg.below by1)
  clear gb sg hwy by1 GG hq4
  have GM := stget_miss N p w _ 200 [e25 1 5, e25 3 7] _ (kyN 2) (kyN_w _ ⟨by decide, by decide⟩) HS5.out (by kernel_rfl)
  go_upto_region 11 with (first
    | (go_at_call 13; refine (GM).mono ?_; rintro e wg ⟨rfl, sg, bg⟩; have HRm := Lib.hid (Blk.new wg 37 #[.int .i64 0, .int .i64 0, .int .i64 0, .int .i64 0, .slice none 0 0]))
    | (refine wpList_store_row rfl 37 (.tmp 15) (.tmp 73) (by with_reducible rfl) wg.heap.size #[.int .i64 0, .int .i64 0, .int .i64 0, .int .i64 0, .slice none 0 0] (by rfl) (by rfl) 37 #[.int .i64 0, .int .i64 0, .int .i64 0, .int .i64 0, .slice none 0 0] (by exact HRm.out) mkInfoL rfl (by simp [Value.oneCell']) ?_))
  obtain ⟨wz, hwz⟩ : ∃ wz, wz = (wg.alloc (.cells #[.int .i64 0, .int .i64 0, .int .i64 0, .int .i64 0, .slice none 0 0] 37)).setRow wg.heap.size #[.int .i64 0, .int .i64 0, .int .i64 0, .int .i64 0, .slice none 0 0] := ⟨_, rfl⟩
  rw [← hwz]
  have bz : Below wg.heap.size wg wz := hwz ▸ below_setRow (g := wg.heap.size) (below_a1 _ _) (Nat.le_refl _) _
  have sz := sg.below bz
  have bz2 := bg.trans (bz.mono bg.size)
  have HZ := Lib.hid (And.intro (HB4.out.1.below bz2) (And.intro (HB4.out.2.below bz2) sz))
  have KK := lrkeys_any N p 200 _ _ wz sz.1
  clear hwz bz sz bz2 sg bg GM
  go_wp2_with (first
    | (go_at_call 19; refine (KK).mono ?_; rintro e wk ⟨Ak, ck, rfl, hlk, bk⟩; obtain ⟨bK, oK, rfl, hbK, hcK⟩ := hlk.plain (by simp [kysL, kyL]); have ck0 := hcK 0 (.int .i64 1) (by rfl); rw [Nat.add_zero] at ck0; have sk := HZ.out.2.2.below bk; have LL := lrlen_any N p _ wk sk.1.v; have HH := lrheld_any N p _ wk sk.1.v; rw [sk.1.sum.2.2.2.2] at LL; rw [sk.1.sum.1] at HH; have mb := (HZ.out.1.below bk).cell 4; have ml := (HZ.out.1.below bk).lt; have gb0 := (HZ.out.2.1.below bk).cell 0; have gl := (HZ.out.2.1.below bk).lt; simp only [List.getElem?_toArray, List.getElem?_cons_succ, List.getElem?_cons_zero] at mb gb0; rw [show (repL 30 5)[0]? = some (.int .u8 5) from rfl] at gb0; have HSK := Lib.hid sk; have HBK := Lib.hid bk; clear sk bk hcK)
    | (go_at_call 21; refine (LL).mono ?_; rintro e wl ⟨rfl, rfl⟩)
    | (go_at_call 22; refine (HH).mono ?_; rintro e wl ⟨rfl, rfl⟩))
  have hb := HSK.out.2.1
  rw [HN.out] at hb
  exact bodyPost_ret (results_tmp rfl _ _ _) rfl ⟨rfl, hb⟩
end Go.Proofs.Ytaaboochologaaa

namespace Go.Proofs.Ytaaboochologaaa
open Go.ChangeShapes Go.WideShapes Go.ChangeAt Go.RowKit

section
variable {H : Type} {enc : TypeId × Value → H} {P : Program}

theorem args_stay (hl : laidOutB P = true) {W W' : World} (hb : Below W.heap.size W W') :
    ∀ {ts : List TypeId} {vs : List Value} {ds : List (DataW H)} {ps : List MemPlace}, (ts.all fun t => P.readableRec t && decide (t < P.types.size)) = true →
      DataW.TrodAll enc P W 0 (fun _ => true) true ts vs ds ps → (∀ x ∈ ps, x.block < W.heap.size) → DataW.TrodAll enc P W' 0 (fun b => decide (b < W.heap.size)) true ts vs ds ps
  | [], vs, ds, ps, _, h, _ => by
    obtain ⟨rfl, rfl, rfl⟩ := trodAll_nil h
    exact h
  | t :: ts, vs, ds, ps, hr, h, hp => by
    obtain ⟨v, vs', d, ds', p, q, rfl, rfl, rfl, h1, h2⟩ := trodAll_cons h
    rw [List.all_cons, Bool.and_eq_true, Bool.and_eq_true, decide_eq_true_eq] at hr
    exact trodAll_cons_mk (Below.trod hl hr.1.1 hr.1.2 h1 hb fun x hx => hp x (List.mem_append_left _ hx)) (args_stay hl hb hr.2 h2 fun x hx => hp x (List.mem_append_right _ hx))

theorem law_post {f : Func} {s : ChangeSpec} {T : TypeId} {W W' : World} {args : Array Value} {ds : List (DataW H)} {before : List MemPlace} (hl : laidOutB P = true)
    (hr : f.resultTypes = #[T]) (hT : P.underlying T = some .bool) (hrd : (f.params.toList.all fun t => P.readableRec t && decide (t < P.types.size)) = true) (hv : s.vars = [])
    (h1 : (s.fn H ds).results = [.lit (.bool true)]) (h2 : (s.fn H ds).args = ds) (h3 : (s.fn H ds).vars = [])
    (hW : DataW.Whole enc P f.params.toList s.vars false W args.toList ds [] before) (hb : Below W.heap.size W W') :
    s.post enc P f false true false false W args (.bool true) W' := by
  have hlt : ∀ p ∈ before, p.block < W.heap.size := fun p hp => hW.lt p hp
  obtain ⟨p, q, hA, hV, rfl, _, _⟩ := id hW
  rw [hv] at hV
  have hq : q = [] := by simpa [DataW.TrodVars] using hV
  subst hq
  rw [List.append_nil] at hlt
  refine ⟨ds, [], _, [], p, [], hW, ?_, ?_, ?_, ?_, fun h => nomatch h⟩
  · rw [hr, List.append_nil, h1]; exact trodAll_mk1 (shut_bool hT true)
  · rw [List.append_nil, h2]; exact args_stay hl hb hrd hA hlt
  · rw [List.append_nil, h3, hv]; rfl
  · exact World.keptBut_mono (fun x hx => ⟨by simpa using hx, .inr (.inl hx)⟩) (hb.frame (· ∈ p))
end

theorem Try.own : ownKnob Try.prog.godebug = none := by kernel_rfl
theorem Try.laidOut : laidOutB Try.prog = true := by kernel_rfl

end Go.Proofs.Ytaaboochologaaa

namespace Go.Proofs.Ytaaboochologaaa
open Go.ChangeShapes Go.WideShapes Go.ChangeAt Go.RowKit

section
variable {H : Type} {enc : TypeId × Value → H} {P : Program}
theorem open_list_int {w : World} {t e : TypeId} {base : Nat} {spare : Nat → Bool} {held : Bool} {r : Reach} {b0 : Nat} {v : Value} {d : DataW H} {p : List MemPlace}
    (hs : P.underlying t = some (.slice e)) (he : P.underlying e = some (.int .i64)) (hC : P.cellsOf e = 1)
    (hv : Value.okWide P w r b0 t v) (h : DataW.Trod enc P w base spare held t v d p) :
    ∃ (A : Option Addr) (n c : Nat) (zs : List Int), v = .slice A n c ∧ zs.length = n ∧ n ≤ c ∧ c ≤ maxLen ∧ Lists w w.heap.size A (intCells zs) ∧ ∀ z ∈ zs, (Lit.int .i64 z).wf = true := by
  obtain ⟨a0, len, cap, rfl⟩ := okWide_slice hs hv
  obtain ⟨fuel, hf⟩ := h
  rcases open_ints hs he hC hf with ⟨hcs, _⟩ | ⟨a, len', cap', zs, hcs, _, hl, hm, hz, _, hcell, hwf⟩
  · simp [Value.cells] at hcs
    obtain ⟨rfl, rfl, rfl⟩ := hcs
    exact ⟨none, 0, 0, [], rfl, rfl, Nat.le_refl _, Nat.zero_le _, Lists.empty _ _ _, fun z hz => by cases hz⟩
  · simp [Value.cells] at hcs
    obtain ⟨rfl, rfl, rfl⟩ := hcs
    have hlen : len ≤ zs.length := by split at hz <;> omega
    have hc : ∀ j u, (intCells (zs.take len))[j]? = some u → w.cell? (a.add j) = some u := fun j u hu => by
      have hj : j < (zs.take len).length := by
        rcases Nat.lt_or_ge j (zs.take len).length with h | h
        · exact h
        · rw [List.getElem?_eq_none (by rw [intCells_len]; exact h)] at hu; cases hu
      rw [intCells_get _ _ hj] at hu
      have hj2 : j < len := by simp at hj; omega
      have hh := hcell j (by omega)
      cases hu
      rw [hh]
      simp [List.getD, hj2]
    refine ⟨some a, len, cap, zs.take len, rfl, by simp; omega, hl, hm, ⟨fun ha => (nomatch ha), fun a' ha => ?_, fun a' ha hx => ?_⟩, fun z hz' => hwf z (List.mem_of_mem_take hz')⟩
    · cases ha; exact hc
    · cases ha
      have h0 : 0 < (intCells (zs.take len)).length := by
        rcases Nat.eq_zero_or_pos (intCells (zs.take len)).length with h | h
        · exact absurd (List.eq_nil_of_length_eq_zero h) hx
        · exact h
      have := hc 0 _ (List.getElem?_eq_getElem h0)
      rcases Nat.lt_or_ge a.block w.heap.size with h | h
      · exact h
      · have e0 : (a.add 0) = a := by simp [Addr.add]
        rw [e0] at this
        unfold World.cell? at this
        rw [Array.getElem?_eq_none h] at this
        cases this
end

end Go.Proofs.Ytaaboochologaaa

namespace Go.Proofs.Ytaaboochologaaa
open Go.ChangeShapes Go.WideShapes Go.ChangeAt Go.RowKit

section
variable {H : Type} {enc : TypeId × Value → H} {P : Program}
theorem weights_all {e : TypeId} {d : DataW H} {n : Nat} (hn : n ∈ d.weights P e) : ∀ {l : List (DataW H)}, d ∈ l → n ∈ DataW.weightsAll P e l
  | [], h => (nomatch h)
  | a :: r, h => by
    rw [DataW.weightsAll]
    rcases List.mem_cons.1 h with h | h
    · subst h; exact List.mem_append_left _ hn
    · exact List.mem_append_right _ (weights_all hn h)

theorem cell_lt {w : World} {a : Addr} {v : Value} (h : w.cell? a = some v) : a.block < w.heap.size := by
  rcases Nat.lt_or_ge a.block w.heap.size with h1 | h1
  · exact h1
  · unfold World.cell? at h
    rw [Array.getElem?_eq_none h1] at h
    cases h

/-- A slice of numbers, at the value that a cell holds. -/
theorem open_nums {w : World} {t e : TypeId} {k : IntKind} {base fuel : Nat} {spare : Nat → Bool} {held : Bool} {v : Value} {x : DataW H × List MemPlace}
    (hs : P.underlying t = some (.slice e)) (he : P.underlying e = some (.int k)) (hC : P.cellsOf e = 1) (h : DataW.trod enc P w base spare held fuel t [v] = some x) :
    ∃ (A : Option Addr) (n c : Nat) (zs : List Int), v = .slice A n c ∧ zs.length = n ∧ n ≤ c ∧ c ≤ maxLen ∧ Lists w w.heap.size A (zs.map (Value.int k)) ∧ (∀ z ∈ zs, (Lit.int k z).wf = true) ∧
      ∀ b, (∀ m ∈ x.1.weights P t, m ≤ b) → n * P.bytesOf e ≤ b := by
  rcases open_ints hs he hC h with ⟨hcs, hx⟩ | ⟨a, len, cap, zs, hcs, _, hl, hm, hz, hx, hcell, hwf⟩
  · simp only [List.cons.injEq, and_true] at hcs
    exact ⟨none, 0, 0, [], hcs, rfl, Nat.le_refl _, Nat.zero_le _, Lists.empty _ _ _, (fun z hz => (nomatch hz)), fun b _ => by omega⟩
  · simp only [List.cons.injEq, and_true] at hcs
    have hlen : len ≤ zs.length := by split at hz <;> omega
    have hc : ∀ j u, ((zs.take len).map (Value.int k))[j]? = some u → w.cell? (a.add j) = some u := fun j u hu => by
      rw [List.getElem?_map, Option.map_eq_some_iff] at hu
      obtain ⟨z, hz1, rfl⟩ := hu
      have hj : j < (zs.take len).length := (List.getElem?_eq_some_iff.1 hz1).1
      have hj2 : j < zs.length := by simp at hj; omega
      rw [hcell j hj2]
      simp only [List.getElem?_take, List.length_take] at hz1 hj
      rw [if_pos (by omega)] at hz1
      simp [List.getD, hz1]
    refine ⟨some a, len, cap, zs.take len, hcs, by simp; omega, hl, hm, ⟨fun ha => (nomatch ha), fun a' ha => ?_, fun a' ha hne => ?_⟩, fun z hz' => hwf z (List.mem_of_mem_take hz'), fun b hb => ?_⟩
    · cases ha; exact hc
    · cases ha
      have h0 : 0 < ((zs.take len).map (Value.int k)).length := by
        rcases Nat.eq_zero_or_pos ((zs.take len).map (Value.int k)).length with h | h
        · exact absurd (List.eq_nil_of_length_eq_zero h) hne
        · exact h
      have := cell_lt (hc 0 _ (List.getElem?_eq_getElem h0))
      rwa [addr_add_block] at this
    · subst hx
      have := hb (((lits k (zs.take len) : List (DataW H)).length + (lits k (zs.drop len) : List (DataW H)).length) * P.bytesOf e) (by simp [DataW.weights, hs])
      refine Nat.le_trans (Nat.mul_le_mul_right _ ?_) this
      simp [lits]
      omega

theorem bytes_of_wf {zs : List Int} (h : ∀ z ∈ zs, (Lit.int .u8 z).wf = true) : Bytes8 (zs.map (Value.int .u8)) := fun u hu => by
  obtain ⟨z, hz, rfl⟩ := List.mem_map.1 hu
  have := h z hz
  simp [Lit.wf, IntKind.min, IntKind.max, IntKind.signed, IntKind.bits] at this
  exact ⟨z.toNat, by omega, by congr 1; omega⟩

theorem one_of {w : World} {base fuel : Nat} {spare : Nat → Bool} {held : Bool} {fs : Array Field} {cs : List Value} {ys : List (DataW H × List MemPlace)} (hone : Deep.oneCellFields P fs = true)
    (hg : ∀ (i : Nat) (f : Field), fs[i]? = some f → DataW.trod enc P w base spare held fuel f.type ((cs.drop f.offset).take (P.cellsOf f.type)) = ys[i]?) {j : Nat} {f : Field} {c : Value} {y : DataW H × List MemPlace}
    (hf : fs[j]? = some f) (hc : cs[j]? = some c) (hy : ys[j]? = some y) : DataW.trod enc P w base spare held fuel f.type [c] = some y := by
  have h := hg j f hf
  obtain ⟨h1, h2⟩ := Deep.hone_of hone j f hf
  obtain ⟨hj, hcj⟩ := List.getElem?_eq_some_iff.1 hc
  rw [h1, h2, hy, List.drop_eq_getElem_cons hj, hcj] at h
  exact h
end

end Go.Proofs.Ytaaboochologaaa

namespace Go.Proofs.Ytaaboochologaaa
open Go Go.RowKit

/-- A byte's number. -/
def nb : Value → Nat
  | .int _ x => x.toNat
  | _ => 0
def byteAt (bs : List Value) (i : Nat) : Nat := nb (bs.getD i (.int .u8 0))
def rd2 (bs : List Value) (i : Nat) : Nat := byteAt bs i * 256 + byteAt bs (i + 1)
def rd4 (bs : List Value) (i : Nat) : Nat := ((byteAt bs i * 256 + byteAt bs (i + 1)) * 256 + byteAt bs (i + 2)) * 256 + byteAt bs (i + 3)
/-- A number of two bytes with its sign. -/
def s16 (x : Nat) : Int := if x < 32768 then (x : Int) else (x : Int) - 65536

theorem byteAt_lt {bs : List Value} (h : Bytes8 bs) (i : Nat) : byteAt bs i < 256 := by
  unfold byteAt
  rcases Nat.lt_or_ge i bs.length with hi | hi
  · obtain ⟨x, hx, he⟩ := h bs[i] (List.getElem_mem hi)
    rw [List.getD_eq_getElem?_getD, List.getElem?_eq_getElem hi, Option.getD_some, he]
    simp [nb]; exact hx
  · rw [List.getD_eq_getElem?_getD, List.getElem?_eq_none hi, Option.getD_none]
    simp [nb]
theorem byteAt_get {bs : List Value} (h : Bytes8 bs) {i : Nat} (hi : i < bs.length) : bs[i]? = some (.int .u8 (byteAt bs i : Nat)) := by
  obtain ⟨x, hx, he⟩ := h bs[i] (List.getElem_mem hi)
  rw [List.getElem?_eq_getElem hi, he]
  unfold byteAt
  rw [List.getD_eq_getElem?_getD, List.getElem?_eq_getElem hi, Option.getD_some, he]
  simp [nb]
theorem rd2_lt {bs : List Value} (h : Bytes8 bs) (i : Nat) : rd2 bs i < 65536 := by
  have := byteAt_lt h i; have := byteAt_lt h (i + 1); unfold rd2; omega
theorem rd4_lt {bs : List Value} (h : Bytes8 bs) (i : Nat) : rd4 bs i < 4294967296 := by
  have := byteAt_lt h i; have := byteAt_lt h (i + 1); have := byteAt_lt h (i + 2); have := byteAt_lt h (i + 3); unfold rd4; omega
theorem byteAt_append_left {a b : List Value} {i : Nat} (h : i < a.length) : byteAt (a ++ b) i = byteAt a i := by
  unfold byteAt; rw [List.getD_eq_getElem?_getD, List.getD_eq_getElem?_getD, List.getElem?_append_left h]
theorem byteAt_append_right {a b : List Value} (i : Nat) : byteAt (a ++ b) (a.length + i) = byteAt b i := by
  unfold byteAt; rw [List.getD_eq_getElem?_getD, List.getD_eq_getElem?_getD, List.getElem?_append_right (by omega)]; simp
theorem byteAt_take {a : List Value} {i n : Nat} (h : i < n) : byteAt (a.take n) i = byteAt a i := by
  unfold byteAt; rw [List.getD_eq_getElem?_getD, List.getD_eq_getElem?_getD, List.getElem?_take, if_pos h]
theorem rd2_take {a : List Value} {i n : Nat} (h : i + 1 < n) : rd2 (a.take n) i = rd2 a i := by
  unfold rd2; rw [byteAt_take (by omega), byteAt_take h]
theorem rd4_take {a : List Value} {i n : Nat} (h : i + 3 < n) : rd4 (a.take n) i = rd4 a i := by
  unfold rd4; rw [byteAt_take (by omega), byteAt_take (by omega), byteAt_take (by omega), byteAt_take h]
theorem rd2_right {a b : List Value} (i j : Nat) (h : j = a.length + i) : rd2 (a ++ b) j = rd2 b i := by
  subst h; unfold rd2; rw [byteAt_append_right, Nat.add_assoc, byteAt_append_right]
theorem rd4_right {a b : List Value} (i j : Nat) (h : j = a.length + i) : rd4 (a ++ b) j = rd4 b i := by
  subst h; unfold rd4; rw [byteAt_append_right, Nat.add_assoc, byteAt_append_right, Nat.add_assoc, byteAt_append_right, Nat.add_assoc, byteAt_append_right]
theorem rd2_be2 (x : Int) (b : List Value) : (rd2 (be2 x ++ b) 0 : Int) = x % 65536 := by
  have e : rd2 (be2 x ++ b) 0 = (x / 256 % 256).toNat * 256 + (x % 256).toNat := rfl
  rw [e]; omega
theorem rd4_be4 (x : Int) (b : List Value) : (rd4 (be4 x ++ b) 0 : Int) = x % 4294967296 := by
  have e : rd4 (be4 x ++ b) 0 = (((x / 16777216 % 256).toNat * 256 + (x / 65536 % 256).toNat) * 256 + (x / 256 % 256).toNat) * 256 + (x % 256).toNat := rfl
  rw [e]; omega
theorem s16_of (n : Nat) (x : Int) (h : (n : Int) = x % 65536) (h1 : -32768 ≤ x) (h2 : x ≤ 32767) : s16 n = x := by
  unfold s16; split <;> omega

/-- Where the numbers of glyph k begin, m glyphs having an advance. -/
def posM (m k : Nat) : Nat := 2 * min k m + 2 * k
def bearPos (m k : Nat) : Nat := posM m k + if k < m then 2 else 0
def advAt (bs : List Value) (m k : Nat) : Int := (rd2 bs (posM m k) : Nat)
def bearAt (bs : List Value) (m k : Nat) : Int := s16 (rd2 bs (bearPos m k))
/-- Glyph k's metric. -/
def metAt (bs : List Value) (m k : Nat) : Int × Int := (advAt bs m (min k (m - 1)), bearAt bs m k)
theorem posM_succ (m k : Nat) : posM m (k + 1) = bearPos m k + 2 := by unfold posM bearPos posM; split <;> omega

/-- The bytes of metrics. -/
def putM : List (Int × Int) → Nat → List Value
  | [], _ => []
  | (a, b) :: r, m + 1 => be2 a ++ be2 b ++ putM r m
  | (_, b) :: r, 0 => be2 b ++ putM r 0
theorem putM_snoc : ∀ (l : List (Int × Int)) (m : Nat) (a b : Int), putM (l ++ [(a, b)]) m = putM l m ++ (if l.length < m then be2 a ++ be2 b else be2 b)
  | [], 0, a, b => by simp [putM]
  | [], m + 1, a, b => by simp [putM]
  | (x, y) :: r, 0, a, b => by simp [putM, putM_snoc r 0 a b]
  | (x, y) :: r, m + 1, a, b => by simp [putM, putM_snoc r m a b]
theorem putM_len : ∀ (l : List (Int × Int)) (m : Nat), (putM l m).length = posM m l.length
  | [], _ => by simp [putM, posM]
  | (x, y) :: r, 0 => by simp [putM, putM_len r 0, be2, posM]; omega
  | (x, y) :: r, m + 1 => by simp [putM, putM_len r m, be2, posM]; omega
theorem putM_bytes : ∀ (l : List (Int × Int)) (m : Nat), Bytes8 (putM l m)
  | [], _ => fun _ h => (nomatch h)
  | (_, y) :: r, 0 => (be2_bytes y).append (putM_bytes r 0)
  | (x, y) :: r, m + 1 => ((be2_bytes x).append (be2_bytes y)).append (putM_bytes r m)

theorem putM_adv : ∀ (l : List (Int × Int)) (m k : Nat) (X : List Value) (a b : Int), l[k]? = some (a, b) → k < m → advAt (putM l m ++ X) m k = a % 65536
  | [], m, k, X, a, b, h, _ => by simp at h
  | (x, y) :: r, 0, k, X, a, b, h, hk => by omega
  | (x, y) :: r, m + 1, 0, X, a, b, h, _ => by
    simp at h
    obtain ⟨rfl, rfl⟩ := h
    unfold advAt
    rw [show posM (m + 1) 0 = 0 by simp [posM]]
    simp only [putM, List.append_assoc]
    exact rd2_be2 _ _
  | (x, y) :: r, m + 1, k + 1, X, a, b, h, hk => by
    have ih := putM_adv r m k X a b (by simpa using h) (by omega)
    unfold advAt at *
    simp only [putM, List.append_assoc]
    rw [← List.append_assoc, rd2_right (posM m k) _ (by simp [be2, posM]; omega)]
    exact ih
theorem putM_bear : ∀ (l : List (Int × Int)) (m k : Nat) (X : List Value) (a b : Int), l[k]? = some (a, b) → (rd2 (putM l m ++ X) (bearPos m k) : Int) = b % 65536
  | [], m, k, X, a, b, h => by simp at h
  | (x, y) :: r, 0, 0, X, a, b, h => by
    simp at h
    obtain ⟨rfl, rfl⟩ := h
    rw [show bearPos 0 0 = 0 by simp [bearPos, posM]]
    simp only [putM, List.append_assoc]
    exact rd2_be2 _ _
  | (x, y) :: r, m + 1, 0, X, a, b, h => by
    simp at h
    obtain ⟨rfl, rfl⟩ := h
    simp only [putM, List.append_assoc]
    rw [rd2_right 0 _ (by simp [bearPos, posM, be2])]
    exact rd2_be2 _ _
  | (x, y) :: r, 0, k + 1, X, a, b, h => by
    have ih := putM_bear r 0 k X a b (by simpa using h)
    simp only [putM, List.append_assoc]
    rw [rd2_right (bearPos 0 k) _ (by simp [be2, bearPos, posM]; omega)]
    exact ih
  | (x, y) :: r, m + 1, k + 1, X, a, b, h => by
    have ih := putM_bear r m k X a b (by simpa using h)
    simp only [putM, List.append_assoc]
    rw [← List.append_assoc, rd2_right (bearPos m k) _ (by simp only [be2, bearPos, posM, List.length_append, List.length_cons, List.length_nil]; split <;> split <;> omega)]
    exact ih

/-- Metrics that may be put: m have an advance of their own. -/
def okMet (q : Int × Int) : Bool := decide (0 ≤ q.1) && decide (q.1 ≤ 65535) && decide (-32768 ≤ q.2) && decide (q.2 ≤ 32767)
def lastAdv (l : List (Int × Int)) (m : Nat) : Int := (l.getD (m - 1) (0, 0)).1
def mayPut (l : List (Int × Int)) (m : Nat) : Bool := l.all okMet && (l.drop m).all fun q => q.1 == lastAdv l m
/-- What was put is read again. -/
theorem met_back (l : List (Int × Int)) (m k : Nat) (X : List Value) (q : Int × Int) (hm : 1 ≤ m) (hml : m ≤ l.length) (hp : mayPut l m = true) (hk : l[k]? = some q) : metAt (putM l m ++ X) m k = q := by
  obtain ⟨a, b⟩ := q
  unfold mayPut at hp
  rw [Bool.and_eq_true, List.all_eq_true, List.all_eq_true] at hp
  obtain ⟨h1, h2⟩ := hp
  have ok : ∀ j (p : Int × Int), l[j]? = some p → 0 ≤ p.1 ∧ p.1 ≤ 65535 ∧ -32768 ≤ p.2 ∧ p.2 ≤ 32767 := fun j p hj => by
    have := h1 p (List.mem_of_getElem? hj)
    simp only [okMet, Bool.and_eq_true, decide_eq_true_eq] at this
    omega
  have hb := ok k _ hk
  have e2 : bearAt (putM l m ++ X) m k = b := s16_of _ _ (putM_bear l m k X a b hk) hb.2.2.1 hb.2.2.2
  have e1 : advAt (putM l m ++ X) m (min k (m - 1)) = a := by
    rcases Nat.lt_or_ge k m with hkm | hkm
    · rw [show min k (m - 1) = k by omega, putM_adv l m k X a b hk hkm]
      simp only at hb; omega
    · rw [show min k (m - 1) = m - 1 by omega]
      obtain ⟨⟨a', b'⟩, hp'⟩ : ∃ p, l[m - 1]? = some p := ⟨l[m - 1]'(by omega), List.getElem?_eq_getElem _⟩
      rw [putM_adv l m (m - 1) X a' b' hp' (by omega)]
      have h3 := h2 (a, b) (List.mem_iff_getElem?.2 ⟨k - m, by rw [List.getElem?_drop, show m + (k - m) = k by omega]; exact hk⟩)
      unfold lastAdv at h3
      rw [List.getD_eq_getElem?_getD, hp', Option.getD_some] at h3
      have h3 : a = a' := by simpa using h3
      have := ok _ _ hp'
      simp only at this
      omega
  unfold metAt
  rw [e1, e2]

/-- Places as bytes. -/
def beP (long : Bool) (x : Int) : List Value := if long then be4 x else be2 (x / 2)
def putP (long : Bool) : List Int → List Value
  | [] => []
  | x :: r => beP long x ++ putP long r
def szP (long : Bool) : Nat := if long then 4 else 2
def offAt (long : Bool) (bs : List Value) (k : Nat) : Nat := if long then rd4 bs (k * 4) else 2 * rd2 bs (k * 2)
theorem beP_len (long : Bool) (x : Int) : (beP long x).length = szP long := by cases long <;> rfl
theorem beP_bytes (long : Bool) (x : Int) : Bytes8 (beP long x) := by
  cases long
  · exact be2_bytes _
  · exact be4_bytes _
theorem putP_snoc (long : Bool) (x : Int) : ∀ l, putP long (l ++ [x]) = putP long l ++ beP long x
  | [] => by simp [putP]
  | y :: r => by simp [putP, putP_snoc long x r]
theorem putP_len (long : Bool) : ∀ l, (putP long l).length = l.length * szP long
  | [] => by simp [putP]
  | y :: r => by simp only [putP, List.length_append, beP_len, putP_len long r, List.length_cons]; rw [Nat.succ_mul]; omega
theorem putP_bytes (long : Bool) : ∀ l, Bytes8 (putP long l)
  | [] => fun _ h => (nomatch h)
  | y :: r => (beP_bytes long y).append (putP_bytes long r)
def okOff (long : Bool) (x : Int) : Bool := long || (x % 2 == 0 && decide (x ≤ 131070))
/-- Offsets do not fall, are from last, and none above most. -/
def rises (most : Int) : Int → List Int → Bool
  | _, [] => true
  | last, x :: r => decide (last ≤ x) && decide (x ≤ most) && rises most x r
theorem rises_snoc (most : Int) : ∀ (last : Int) (l : List Int) (x : Int), rises most last (l ++ [x]) = (rises most last l && (decide (l.getLastD last ≤ x) && decide (x ≤ most)))
  | last, [], x => by simp [rises]
  | last, y :: r, x => by
    simp only [List.cons_append, rises, rises_snoc most y r x]
    rw [show (y :: r).getLastD last = r.getLastD y by cases r <;> simp [List.getLastD]]
    simp only [Bool.and_assoc]
theorem rises_ge (most : Int) : ∀ (l : List Int) (last : Int), rises most last l = true → ∀ x ∈ l, last ≤ x ∧ x ≤ most
  | [], _, _, x, hx => (nomatch hx)
  | y :: r, last, h, x, hx => by
    simp only [rises, Bool.and_eq_true, decide_eq_true_eq] at h
    rcases List.mem_cons.1 hx with rfl | hx
    · omega
    · have := rises_ge most r y h.2 x hx
      omega
theorem off_back (long : Bool) : ∀ (l : List Int) (k : Nat) (X : List Value) (x : Int), (∀ y ∈ l, 0 ≤ y ∧ y ≤ 1048576 ∧ okOff long y = true) → l[k]? = some x → (offAt long (putP long l ++ X) k : Int) = x
  | [], k, X, x, _, h => by simp at h
  | y :: r, 0, X, x, hl, h => by
    simp at h
    subst h
    have := hl y (by simp)
    cases long
    · simp only [offAt, putP, beP, List.append_assoc, okOff, Bool.false_or, Bool.and_eq_true, decide_eq_true_eq, beq_iff_eq] at *
      have e := rd2_be2 (y / 2) (putP false r ++ X)
      simp only [Bool.false_eq_true, if_false, Nat.zero_mul]
      omega
    · simp only [offAt, putP, beP, List.append_assoc] at *
      have e := rd4_be4 y (putP true r ++ X)
      simp only [if_true, Nat.zero_mul]
      omega
  | y :: r, k + 1, X, x, hl, h => by
    have ih := off_back long r k X x (fun z hz => hl z (by simp [hz])) (by simpa using h)
    rw [← ih]
    cases long
    · simp only [offAt, putP, List.append_assoc, Bool.false_eq_true, if_false]
      rw [rd2_right (k * 2) _ (by rw [beP_len]; simp only [szP, Bool.false_eq_true, if_false]; omega)]
    · simp only [offAt, putP, List.append_assoc, if_true]
      rw [rd4_right (k * 4) _ (by rw [beP_len]; simp only [szP, if_true]; omega)]

end Go.Proofs.Ytaaboochologaaa

namespace Go.Proofs.Ytaaboochologaaa
open Go Go.RowKit

/-- Is x from a to b? -/
def inB (a b x : Int) : Bool := decide (a ≤ x) && decide (x ≤ b)
theorem inB_yes {a b x : Int} (h1 : a ≤ x) (h2 : x ≤ b) : inB a b x = true := by simp [inB, h1, h2]
theorem inB_true {a b x : Int} (h : inB a b x = true) : a ≤ x ∧ x ≤ b := by simpa [inB] using h
theorem inB_false {a b x : Int} (h : inB a b x = false) : x < a ∨ b < x := by
  by_cases h1 : a ≤ x <;> by_cases h2 : x ≤ b
  · rw [inB_yes h1 h2] at h; cases h
  all_goals omega

/-- What IndexFunc answers of a list in which a predicate holds of one, or of none. -/
def Found {α : Type} (w : World) (L : List α) (p : α → Bool) (e : Ending) (w' : World) : Prop := ∃ r : Int, e = .returned (.int .i64 r) ∧ decide (0 ≤ r) = L.any p ∧ Below w.heap.size w w'
theorem any_snoc {α : Type} {L : List α} {p : α → Bool} {k : Nat} {x : α} (hx : L[k]? = some x) (h : (L.take k).any p = false) (ht : p x = false) : (L.take (k + 1)).any p = false := by
  rw [List.take_add_one, hx]
  simp only [Option.toList_some, List.any_append, h, List.any_cons, ht, List.any_nil, Bool.or_self]
theorem any_yes {α : Type} {L : List α} {p : α → Bool} {k : Nat} {x : α} (hx : L[k]? = some x) (ht : p x = true) : L.any p = true := by
  rw [List.any_eq_true]
  exact ⟨x, List.mem_of_getElem? hx, ht⟩

end Go.Proofs.Ytaaboochologaaa

namespace Go.Proofs.Ytaaboochologaaa
open Go Go.RowKit

/-- May n glyphs be, m of which have an advance of their own? -/
def cmB (n m : Int) : Bool := inB 1 65535 n && inB 1 n m
theorem cmB_true {n m : Int} (h : cmB n m = true) : 1 ≤ n ∧ n ≤ 65535 ∧ 1 ≤ m ∧ m ≤ n := by
  unfold cmB at h
  rw [Bool.and_eq_true] at h
  have := inB_true h.1
  have := inB_true h.2
  omega
theorem cmB_yes {n m : Int} (h1 : 1 ≤ n) (h2 : n ≤ 65535) (h3 : 1 ≤ m) (h4 : m ≤ n) : cmB n m = true := by
  unfold cmB; rw [inB_yes h1 h2, inB_yes h3 h4]; rfl

/-- Metrics as cells. -/
def metCells : List (Int × Int) → List Value
  | [] => []
  | (a, b) :: r => .int .i64 a :: .int .i64 b :: metCells r
theorem metCells_len : ∀ L : List (Int × Int), (metCells L).length = L.length * 2
  | [] => rfl
  | _ :: r => by simp only [metCells, List.length_cons, metCells_len r]; omega
theorem metCells_snoc (a b : Int) : ∀ L, metCells (L ++ [(a, b)]) = metCells L ++ [.int .i64 a, .int .i64 b]
  | [] => rfl
  | (_, _) :: r => by simp only [List.cons_append, metCells, metCells_snoc a b r]
theorem metCells_at : ∀ (L : List (Int × Int)) (k : Nat) (a b : Int), L[k]? = some (a, b) → (metCells L)[k * 2]? = some (.int .i64 a) ∧ (metCells L)[k * 2 + 1]? = some (.int .i64 b)
  | [], k, a, b, h => by simp at h
  | (x, y) :: r, 0, a, b, h => by
    simp only [List.getElem?_cons_zero, Option.some.injEq, Prod.mk.injEq] at h
    obtain ⟨rfl, rfl⟩ := h
    exact ⟨rfl, rfl⟩
  | (x, y) :: r, k + 1, a, b, h => by
    have := metCells_at r k a b (by simpa using h)
    rw [show (k + 1) * 2 = k * 2 + 1 + 1 by omega]
    exact this
theorem metCells_one : ∀ L : List (Int × Int), ∀ u ∈ metCells L, u.oneCell' = true
  | [], u, h => (nomatch h)
  | (x, y) :: r, u, h => by
    simp only [metCells, List.mem_cons] at h
    rcases h with rfl | rfl | h
    · rfl
    · rfl
    · exact metCells_one r u h

end Go.Proofs.Ytaaboochologaaa

namespace Go.Proofs.Ytaaboochologaaa
open Go.ChangeShapes Go.WideShapes Go.ChangeAt Go.RowKit

theorem choose_list {α : Type} {p : Nat → α → Prop} : ∀ {n : Nat}, (∀ i, i < n → ∃ x, p i x) → ∃ L : List α, L.length = n ∧ ∀ i x, L[i]? = some x → p i x
  | 0, _ => ⟨[], rfl, fun i x h => by simp at h⟩
  | n + 1, h => by
    obtain ⟨L, h1, h2⟩ := choose_list (n := n) fun i hi => h i (by omega)
    obtain ⟨x, hx⟩ := h n (by omega)
    refine ⟨L ++ [x], by simp [h1], fun i y hy => ?_⟩
    rcases Nat.lt_or_ge i n with hi | hi
    · rw [List.getElem?_append_left (by omega)] at hy
      exact h2 i y hy
    · rw [List.getElem?_append_right (by omega)] at hy
      have h3 : i - L.length = 0 := by
        rcases Nat.eq_zero_or_pos (i - L.length) with h | h
        · exact h
        · rw [List.getElem?_eq_none (by simp; omega)] at hy; cases hy
      rw [h3] at hy
      cases hy
      rw [show i = n by omega]
      exact hx

section
variable {H : Type} {enc : TypeId × Value → H} {P : Program}
theorem open_bytes {w : World} {t e : TypeId} {base : Nat} {spare : Nat → Bool} {held : Bool} {r : Reach} {b0 : Nat} {v : Value} {d : DataW H} {p : List MemPlace}
    (hs : P.underlying t = some (.slice e)) (he : P.underlying e = some (.int .u8)) (hC : P.cellsOf e = 1) (hb : P.bytesOf e = 1)
    (hv : Value.okWide P w r b0 t v) (h : DataW.Trod enc P w base spare held t v d p) (hz : ∀ m ∈ d.weights P t, m ≤ reachBytes) :
    ∃ (A : Option Addr) (c : Nat) (E : List Value), v = .slice A E.length c ∧ E.length ≤ c ∧ c ≤ 9223372036854775807 ∧ Lists w w.heap.size A E ∧ Bytes8 E ∧ E.length ≤ 140737488355328 := by
  obtain ⟨a0, len, cap, rfl⟩ := okWide_slice hs hv
  obtain ⟨fuel, hf⟩ := h
  rw [show (Value.slice a0 len cap).cells = #[.slice a0 len cap] from rfl] at hf
  obtain ⟨A, n, c, zs, hv1, hlen, hnc, hcm, hL, hwf, hw⟩ := open_nums hs he hC hf
  have h1 := hw reachBytes hz
  rw [hb] at h1
  have hr := reachBytes_lt
  unfold maxLen at hcm
  refine ⟨A, c, zs.map (Value.int .u8), by rw [List.length_map, hlen]; exact hv1, by rw [List.length_map]; omega, hcm, hL, bytes_of_wf hwf, by rw [List.length_map]; omega⟩

theorem open_mets {w : World} {t e : TypeId} {f0 f1 : Field} {base : Nat} {spare : Nat → Bool} {held : Bool} {r : Reach} {b0 : Nat} {v : Value} {d : DataW H} {p : List MemPlace}
    (ht : P.underlying t = some (.slice e)) (he : P.underlying e = some (.struct #[f0, f1])) (hone : Deep.oneCellFields P #[f0, f1] = true) (hC : P.cellsOf e = 2)
    (i0 : P.underlying f0.type = some (.int .i64)) (i1 : P.underlying f1.type = some (.int .i64))
    (hv : Value.okWide P w r b0 t v) (h : DataW.Trod enc P w base spare held t v d p) :
    ∃ (A : Option Addr) (c : Nat) (L : List (Int × Int)), v = .slice A L.length c ∧ L.length ≤ c ∧ c ≤ 9223372036854775807 ∧ Lists w w.heap.size A (metCells L) := by
  obtain ⟨a0, len, cap, rfl⟩ := okWide_slice ht hv
  obtain ⟨fuel, hf⟩ := h
  rcases Deep.open_slice ht hf with ⟨hcs, _⟩ | ⟨a, len', cap', m, n, D, Pl, hcs, hb, hl, hm, hmm, hx, hi⟩
  · simp [Value.cells] at hcs
    obtain ⟨rfl, rfl, rfl⟩ := hcs
    exact ⟨none, 0, [], rfl, Nat.le_refl _, Nat.zero_le _, Lists.empty _ _ _⟩
  · simp [Value.cells] at hcs
    obtain ⟨rfl, rfl, rfl⟩ := hcs
    unfold maxLen at hm
    have hlm : len ≤ m := by split at hmm <;> omega
    obtain ⟨L, hLl, hL⟩ := choose_list (n := len) (p := fun i (q : Int × Int) => w.cell? (a.add (i * 2)) = some (.int .i64 q.1) ∧ w.cell? (a.add (i * 2 + 1)) = some (.int .i64 q.2)) fun i hil => by
      obtain ⟨cs', hc, ht'⟩ := hi i (by omega)
      rw [hC] at hc
      obtain ⟨ys, n', _, hy, _, hyl, hg⟩ := DataW.trod_struct he ht'
      obtain ⟨_, hcl, hat⟩ := World.cells?_some hc
      match cs', hcl with
      | [c0, c1], _ =>
        match ys, hyl with
        | [y0, y1], _ =>
          have k0 := one_of hone hg (j := 0) rfl rfl rfl
          have k1 := one_of hone hg (j := 1) rfl rfl rfl
          obtain ⟨z0, e0, _, _⟩ := DataW.trod_int i0 k0
          obtain ⟨z1, e1, _, _⟩ := DataW.trod_int i1 k1
          simp only [List.cons.injEq, and_true] at e0 e1
          subst e0 e1
          have a0 : w.cell? (a.add (i * 2)) = some (.int .i64 z0) := by have := hat 0 (by omega); rw [Go.Deep.add_add] at this; exact this
          have a1 : w.cell? (a.add (i * 2 + 1)) = some (.int .i64 z1) := by have := hat 1 (by omega); rw [Go.Deep.add_add] at this; exact this
          exact ⟨(z0, z1), a0, a1⟩
    have hcell : ∀ j u, (metCells L)[j]? = some u → w.cell? (a.add j) = some u := fun j u hu => by
      have hj : j < L.length * 2 := by
        rcases Nat.lt_or_ge j (L.length * 2) with h | h
        · exact h
        · rw [List.getElem?_eq_none (by rw [metCells_len]; exact h)] at hu; cases hu
      obtain ⟨q, hq⟩ : ∃ q, L[j / 2]? = some q := ⟨L[j / 2]'(by omega), List.getElem?_eq_getElem _⟩
      obtain ⟨h1, h2⟩ := metCells_at L (j / 2) q.1 q.2 hq
      obtain ⟨h3, h4⟩ := hL _ _ hq
      rcases Nat.mod_two_eq_zero_or_one j with h | h
      · rw [show j / 2 * 2 = j by omega] at h1 h3
        rw [h1] at hu; cases hu; exact h3
      · rw [show j / 2 * 2 + 1 = j by omega] at h2 h4
        rw [h2] at hu; cases hu; exact h4
    refine ⟨some a, cap, L, by rw [hLl], by omega, hm, ⟨fun ha => (nomatch ha), fun a' ha => ?_, fun a' ha hne => ?_⟩⟩
    · cases ha; exact hcell
    · cases ha
      have h0 : 0 < (metCells L).length := by
        rcases Nat.eq_zero_or_pos (metCells L).length with h | h
        · exact absurd (List.eq_nil_of_length_eq_zero h) hne
        · exact h
      have := cell_lt (hcell 0 _ (List.getElem?_eq_getElem h0))
      rwa [addr_add_block] at this
end

end Go.Proofs.Ytaaboochologaaa

namespace Go.Proofs.Ytaaboochologaaa
open Go.ChangeShapes Go.WideShapes Go.ChangeAt Go.RowKit Go.Deep

section
variable {H : Type} {enc : TypeId × Value → H} {P : Program}
theorem open_four {w : World} {t : TypeId} {f0 f1 f2 f3 : Field} {base : Nat} {spare : Nat → Bool} {held : Bool} {r : Reach} {b0 : Nat} {v : Value} {d : DataW H} {p : List MemPlace}
    (hs : P.underlying t = some (.struct #[f0, f1, f2, f3])) (hone : oneCellFields P #[f0, f1, f2, f3] = true) (hC : P.cellsOf t = 4)
    (u0 : P.underlying f0.type = some (.int .i64)) (u1 : P.underlying f1.type = some (.int .i64)) (u2 : P.underlying f2.type = some (.int .i64)) (u3 : P.underlying f3.type = some (.int .i64))
    (hv : Value.okWide P w r b0 t v) (h : DataW.Trod enc P w base spare held t v d p) :
    ∃ a b c e : Int, v = .agg #[.int .i64 a, .int .i64 b, .int .i64 c, .int .i64 e] ∧ (Lit.int .i64 a).wf = true ∧ (Lit.int .i64 b).wf = true ∧ (Lit.int .i64 c).wf = true ∧ (Lit.int .i64 e).wf = true := by
  obtain ⟨v0, v1, v2, v3, y0, y1, y2, y3, n, rfl, _, _, h0, h1, h2, h3⟩ := Joins.open_agg4 hs hone hC hv h
  obtain ⟨a, e0, _, wa⟩ := DataW.trod_int u0 h0
  obtain ⟨b, e1, _, wb⟩ := DataW.trod_int u1 h1
  obtain ⟨c, e2, _, wc⟩ := DataW.trod_int u2 h2
  obtain ⟨e, e3, _, we⟩ := DataW.trod_int u3 h3
  simp at e0 e1 e2 e3
  subst e0 e1 e2 e3
  exact ⟨a, b, c, e, rfl, wa, wb, wc, we⟩
end

theorem Try.cellsB : Try.prog.cellsOf 34 = 4 := by kernel_rfl

end Go.Proofs.Ytaaboochologaaa

namespace Go.Proofs.Ytaaboochologaaa
open Go Go.ChangeShapes Go.WideShapes Go.ChangeAt Go.RowKit
theorem cellsICn : Try.prog.cellsOf 3 = 1 := by kernel_rfl
theorem cellsBCn : Try.prog.cellsOf 34 = 4 := by kernel_rfl
theorem cellsMCn : Try.prog.cellsOf 37 = 5 := by kernel_rfl
theorem cellsSCn : Try.prog.cellsOf 35 = 1 := by kernel_rfl
theorem array_13Cn {α : Type} {cs : Array α} (h : cs.size = 13) : ∃ c0 c1 c2 c3 c4 c5 c6 c7 c8 c9 c10 c11 c12, cs = #[c0, c1, c2, c3, c4, c5, c6, c7, c8, c9, c10, c11, c12] := by
  obtain ⟨l⟩ := cs
  match l, h with
  | [c0, c1, c2, c3, c4, c5, c6, c7, c8, c9, c10, c11, c12], _ => exact ⟨c0, c1, c2, c3, c4, c5, c6, c7, c8, c9, c10, c11, c12, rfl⟩
section
variable {H : Type} {enc : TypeId × Value → H}
set_option maxRecDepth 100000 in
theorem open_boxCn {w : World} {base fuel : Nat} {spare : Nat → Bool} {held : Bool} {c0 c1 c2 c3 : Value} {x : DataW H × List MemPlace}
    (h : DataW.trod enc Try.prog w base spare held fuel 34 [c0, c1, c2, c3] = some x) : ∃ A : Q, c0 = .int .i64 A.x0 ∧ c1 = .int .i64 A.y0 ∧ c2 = .int .i64 A.x1 ∧ c3 = .int .i64 A.y1 := by
  obtain ⟨zs, m, _, _, _, hlen2, hb⟩ := DataW.trod_struct Try.underlying34 h
  match zs, hlen2 with
  | [z0, z1, z2, z3], _ =>
    have k0 := hb 0 _ rfl
    have k1 := hb 1 _ rfl
    have k2 := hb 2 _ rfl
    have k3 := hb 3 _ rfl
    simp [cellsICn] at k0 k1 k2 k3
    obtain ⟨a0, e0, _⟩ := DataW.trod_int Try.underlying3 k0
    obtain ⟨a1, e1, _⟩ := DataW.trod_int Try.underlying3 k1
    obtain ⟨a2, e2, _⟩ := DataW.trod_int Try.underlying3 k2
    obtain ⟨a3, e3, _⟩ := DataW.trod_int Try.underlying3 k3
    simp at e0 e1 e2 e3
    exact ⟨⟨a0, a1, a2, a3⟩, e0, e1, e2, e3⟩
set_option maxRecDepth 100000 in
theorem open_maskCn {w : World} {base fuel : Nat} {spare : Nat → Bool} {held : Bool} {c0 c1 c2 c3 c4 : Value} {x : DataW H × List MemPlace}
    (h : DataW.trod enc Try.prog w base spare held fuel 37 [c0, c1, c2, c3, c4] = some x) : ∃ (A : Q) (Am : Option Addr) (mc : Nat) (E : List Value), c0 = .int .i64 A.x0 ∧ c1 = .int .i64 A.y0 ∧ c2 = .int .i64 A.x1 ∧ c3 = .int .i64 A.y1 ∧ c4 = .slice Am E.length mc ∧ E.length ≤ mc ∧ mc ≤ 9223372036854775807 ∧ Lists w w.heap.size Am E ∧ Bytes8 E := by
  obtain ⟨zs, m, _, _, _, hlen2, hb⟩ := DataW.trod_struct Try.underlying37 h
  match zs, hlen2 with
  | [z0, z1], _ =>
    have k0 := hb 0 _ rfl
    have k1 := hb 1 _ rfl
    simp [cellsBCn, cellsSCn] at k0 k1
    obtain ⟨A, e0, e1, e2, e3⟩ := open_boxCn k0
    obtain ⟨Am, n, c, ns, hv1, hlen, hnc, hcm, hL, hwf, hw⟩ := open_nums Try.underlying35 Try.underlying5 (by kernel_rfl) k1
    unfold maxLen at hcm
    refine ⟨A, Am, c, ns.map (Value.int .u8), e0, e1, e2, e3, ?_, by rw [List.length_map]; omega, hcm, hL, bytes_of_wf hwf⟩
    rw [List.length_map, hlen]
    first | exact hv1 | (simp at hv1; exact hv1)
end
end Go.Proofs.Ytaaboochologaaa
