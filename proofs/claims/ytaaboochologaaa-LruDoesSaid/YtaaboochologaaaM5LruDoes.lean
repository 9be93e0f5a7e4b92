/- Part 6 of the proof: LrF, LrG, LrH, LrI, LrJ. -/
import Derived.Test.YtaaboochologaaaM4LruDoes

namespace Go.Proofs.Ytaaboochologaaa
open Go Go.RowKit
set_option linter.unusedVariables false
set_option linter.unusedSimpArgs false

def setsL (xs : List Value) : Nat → List Value → List Value
  | _, [] => xs
  | o, v :: r => setsL (xs.set o v) (o + 1) r
theorem setsL_mid : ∀ (vs A M B : List Value), M.length = vs.length → setsL (A ++ M ++ B) A.length vs = A ++ vs ++ B
  | [], A, M, B, h => by rw [List.eq_nil_of_length_eq_zero h]; rfl
  | v :: r, A, [], B, h => by simp at h
  | v :: r, A, m :: M, B, h => by
    have e : (A ++ m :: M ++ B).set A.length v = (A ++ [v]) ++ M ++ B := by
      rw [List.append_assoc, List.set_append_right _ _ (Nat.le_refl _), Nat.sub_self, List.cons_append, List.set_cons_zero]
      simp
    have := setsL_mid r (A ++ [v]) M B (by simpa using h)
    rw [setsL, e]
    rw [List.length_append] at this
    exact this.trans (by simp)
theorem setsL_pls {PL : List Pl} {i : Nat} (h : i < PL.length) (y : Pl) : setsL (plsL PL) (i * 11) (plL y) = plsL (PL.set i y) := by
  have e1 : PL = PL.take i ++ PL[i] :: PL.drop (i + 1) := by rw [List.getElem_cons_drop, List.take_append_drop]
  have e2 : PL.set i y = PL.take i ++ y :: PL.drop (i + 1) := List.set_eq_take_append_cons_drop.trans (if_pos h)
  have e3 : plsL PL = plsL (PL.take i) ++ plL PL[i] ++ plsL (PL.drop (i + 1)) := by
    have := congrArg (List.flatMap plL) e1
    rw [List.flatMap_append, List.flatMap_cons, ← List.append_assoc] at this
    exact this
  rw [e2, e3]
  have := setsL_mid (plL y) (plsL (PL.take i)) (plL PL[i]) (plsL (PL.drop (i + 1))) rfl
  rw [plsL_len, List.length_take, Nat.min_eq_left (by omega)] at this
  rw [this]
  simp [plsL]
theorem sets_own {base g n cap size : Nat} {e : TypeId} : ∀ (vs : List Value) (o : Nat) (w : World) (xs : List Value), w.ownsRow base e size (.slice (some ⟨g, 0, none⟩) n cap) n xs → (w.setCells g o vs).ownsRow base e size (.slice (some ⟨g, 0, none⟩) n cap) n (setsL xs o vs) ∧ Only w (w.setCells g o vs) [g]
  | [], o, w, xs, h => ⟨h, Only.refl _ _⟩
  | v :: r, o, w, xs, h => by
    have h1 := (h.stored o v).1
    obtain ⟨h2, h3⟩ := sets_own r (o + 1) _ _ h1
    exact ⟨h2, ((Only.refl w [g]).set (.inl (by simp)) v).trans h3 (fun b hb => .inl hb)⟩
theorem caSet {W : World} {B p : Nat} {C : Cs} (h : CaV W B p C) (j : Nat) (v : Value) : Blk (W.setCell ⟨p, j, none⟩ v) p 67 ((#[.int .i64 C.bud, .int .i64 C.held, .map (some C.mb), C.pv, C.fv] : Array Value).setIfInBounds j v) ∧ Only W (W.setCell ⟨p, j, none⟩ v) [p] := ⟨h.blk.set j v, (Only.refl _ _).set (.inl (by simp)) _⟩
theorem CaV.mp {W : World} {B p : Nat} {C : Cs} (h : CaV W B p C) : C.mb ≠ p := h.map.ne h.blk
theorem CaV.held {W : World} {B p : Nat} {C : Cs} (h : CaV W B p C) (x : Int) : CaV (W.setCell ⟨p, 1, none⟩ (.int .i64 x)) B p { C with held := x } ∧ ModC W (W.setCell ⟨p, 1, none⟩ (.int .i64 x)) p C { C with held := x } := by
  obtain ⟨h1, o⟩ := caSet h 1 (.int .i64 x)
  exact ⟨⟨h1, own_only h.pown o (fun b hb hm => by simp at hm; subst hm; exact h.pne hb), own_only h.fown o (fun b hb hm => by simp at hm; subst hm; exact h.fne hb), h.map.only o (by simp; exact h.mp), h.lo⟩, o.more (fun b hb => .inl (by simp at hb; simp [fpC, hb])), fun b hb => .inl hb⟩
theorem CaV.bud {W : World} {B p : Nat} {C : Cs} (h : CaV W B p C) (x : Int) : CaV (W.setCell ⟨p, 0, none⟩ (.int .i64 x)) B p { C with bud := x } ∧ ModC W (W.setCell ⟨p, 0, none⟩ (.int .i64 x)) p C { C with bud := x } := by
  obtain ⟨h1, o⟩ := caSet h 0 (.int .i64 x)
  exact ⟨⟨h1, own_only h.pown o (fun b hb hm => by simp at hm; subst hm; exact h.pne hb), own_only h.fown o (fun b hb hm => by simp at hm; subst hm; exact h.fne hb), h.map.only o (by simp; exact h.mp), h.lo⟩, o.more (fun b hb => .inl (by simp at hb; simp [fpC, hb])), fun b hb => .inl hb⟩
theorem CaV.maps {W V : World} {B p n : Nat} {C : Cs} {f : Ky → Option Nat} (h : CaV W B p C) (o : Only W V [C.mb]) (hm : MapV V C.mb n f) : CaV V B p { C with n := n, f := f } ∧ ModC W V p C { C with n := n, f := f } :=
  ⟨⟨h.blk.only o (by simp; exact fun e => h.mp e.symm), own_only h.pown o (fun b hb hn => by simp at hn; subst hn; exact h.map.ne_row h.pown hb), own_only h.fown o (fun b hb hn => by simp at hn; subst hn; exact h.map.ne_row h.fown hb), hm, h.lo⟩, o.more (fun b hb => .inl (by simp at hb; simp [fpC, hb])), fun b hb => .inl hb⟩
theorem CaV.place {W : World} {B p g c : Nat} {C : Cs} (h : CaV W B p C) (hpv : C.pv = .slice (some ⟨g, 0, none⟩) C.PL.length c) {i : Nat} (hi : i < C.PL.length) (y : Pl) : CaV (W.setCells g (i * 11) (plL y)) B p { C with PL := C.PL.set i y } ∧ ModC W (W.setCells g (i * 11) (plL y)) p C { C with PL := C.PL.set i y } := by
  have ho := h.pown
  rw [hpv] at ho
  obtain ⟨h1, h2⟩ := sets_own (plL y) (i * 11) W _ ho
  rw [setsL_pls hi] at h1
  refine h.pls (by rw [hpv]; simpa [Go.Proofs.Ytaaboochologaaa.blk, Value.ownBlock] using h2) (List.length_set ..) ?_
  rw [hpv]; exact h1
/-- The free places' row is another one. -/
theorem CaV.free {W V : World} {B p : Nat} {C : Cs} {fv : Value} {FR : List Nat} (h : CaV W B p C) (o : Only W V (Go.Proofs.Ytaaboochologaaa.blk C.fv)) (hf : V.ownsRow B 3 1 fv FR.length (frL FR)) (hat : ∀ b ∈ Go.Proofs.Ytaaboochologaaa.blk fv, b ∈ Go.Proofs.Ytaaboochologaaa.blk C.fv ∨ W.heap.size ≤ b) :
    CaV (V.setCell ⟨p, 4, none⟩ fv) B p { C with fv := fv, FR := FR } ∧ ModC W (V.setCell ⟨p, 4, none⟩ fv) p C { C with fv := fv, FR := FR } := by
  have hV : CaV V B p { C with fv := fv, FR := FR } → True := fun _ => trivial
  have b1 := h.blk.only o h.fne
  have p1 := own_only h.pown o (fun b hb hm => h.pf b hb hm)
  have m1 := h.map.only o (h.map.ne_row h.fown)
  have o2 : Only V (V.setCell ⟨p, 4, none⟩ fv) [p] := (Only.refl _ _).set (.inl (by simp)) _
  refine ⟨⟨b1.set 4 fv, own_only p1 o2 (fun b hb hm => by simp at hm; subst hm; exact own_ne p1 b1 (by decide) hb), own_only hf o2 (fun b hb hm => by simp at hm; subst hm; exact own_ne hf b1 (by decide) hb), m1.only o2 (by simp; exact m1.ne b1), h.lo⟩, ?_, ?_⟩
  · exact (o.more (fun b hb => .inl (by simp [fpC, hb]))).trans o2 (fun b hb => .inl (by simp at hb; simp [fpC, hb]))
  · intro b hb
    simp only [fpC, List.mem_cons, List.mem_append] at hb ⊢
    rcases hb with hb | hb | hb | hb
    · exact .inl (.inl hb)
    · exact .inl (.inr (.inl hb))
    · exact .inl (.inr (.inr (.inl hb)))
    · rcases hat b hb with h1 | h1
      · exact .inl (.inr (.inr (.inr h1)))
      · exact .inr h1
/-- One place more. -/
theorem CaV.grow {W V : World} {B p : Nat} {C : Cs} {pv : Value} {PL : List Pl} (h : CaV W B p C) (o : Only W V (Go.Proofs.Ytaaboochologaaa.blk C.pv)) (hf : V.ownsRow B 74 11 pv PL.length (plsL PL)) (hat : ∀ b ∈ Go.Proofs.Ytaaboochologaaa.blk pv, b ∈ Go.Proofs.Ytaaboochologaaa.blk C.pv ∨ W.heap.size ≤ b) :
    CaV (V.setCell ⟨p, 3, none⟩ pv) B p { C with pv := pv, PL := PL } ∧ ModC W (V.setCell ⟨p, 3, none⟩ pv) p C { C with pv := pv, PL := PL } := by
  have b1 := h.blk.only o h.pne
  have p1 := own_only h.fown o (fun b hb hm => h.pf b hm hb)
  have m1 := h.map.only o (h.map.ne_row h.pown)
  have o2 : Only V (V.setCell ⟨p, 3, none⟩ pv) [p] := (Only.refl _ _).set (.inl (by simp)) _
  refine ⟨⟨b1.set 3 pv, own_only hf o2 (fun b hb hm => by simp at hm; subst hm; exact own_ne hf b1 (by decide) hb), own_only p1 o2 (fun b hb hm => by simp at hm; subst hm; exact own_ne p1 b1 (by decide) hb), m1.only o2 (by simp; exact m1.ne b1), h.lo⟩, ?_, ?_⟩
  · exact (o.more (fun b hb => .inl (by simp [fpC, hb]))).trans o2 (fun b hb => .inl (by simp at hb; simp [fpC, hb]))
  · intro b hb
    simp only [fpC, List.mem_cons, List.mem_append] at hb ⊢
    rcases hb with hb | hb | hb | hb
    · exact .inl (.inl hb)
    · exact .inl (.inr (.inl hb))
    · rcases hat b hb with h1 | h1
      · exact .inl (.inr (.inr (.inl h1)))
      · exact .inr h1
    · exact .inl (.inr (.inr (.inr hb)))
end Go.Proofs.Ytaaboochologaaa

namespace Go.Proofs.Ytaaboochologaaa
open Go Go.RowKit
set_option linter.unusedVariables false
set_option linter.unusedSimpArgs false

theorem plInfo : (Try.prog.info? 74).map (·.size) = some 11 := by kernel_rfl
theorem plInfo3 : (Try.prog.info? 74).map (fun i => (i.zero, i.size, i.bytes)) = some (some (.agg #[.int .i64 0, .int .i64 0, .int .i64 0, .int .i64 0, .int .i64 0, .int .i64 0, .int .i64 0, .int .i64 0, .slice none 0 0, .int .i64 0, .int .i64 0]), 11, 104) := by kernel_rfl
theorem intInfoL : (Try.prog.info? 3).map (fun i => (i.zero, i.size, i.bytes)) = some (some (.int .i64 0), 1, 8) := by kernel_rfl
theorem mkInfoL : (Try.prog.info? 37).map (·.size) = some 5 := by kernel_rfl
theorem kyInfoL : (Try.prog.info? 39).map (·.size) = some 4 := by kernel_rfl
theorem blk_rowL {w : World} {p : Nat} {T : TypeId} {cs : Array Value} (h : Blk w p T cs) (cs1 : Array Value) : Blk (w.setRow p cs1) p T cs1 := setRow_heap w p cs cs1 T (0, 0) h
theorem blk_neL {w : World} {b p : Nat} {T T1 : TypeId} {cs cs1 : Array Value} (h : Blk w b T cs) (k : Blk w p T1 cs1) (hT : T ≠ T1) : b ≠ p := by
  rintro rfl
  unfold Blk at h k
  rw [h] at k
  cases k
  exact hT rfl
/-- What is left of a cache without place i. -/
def outC (C : Cs) (i n : Nat) (fv : Value) : Cs := { C with held := C.held - (64 + (n : Int)), PL := (lnk C.PL (aOf C.PL i) (bOf C.PL i)).set i pl0, FR := C.FR ++ [i], n := C.n - 1, f := fun k' => if k' = (atP C.PL i).k then none else C.f k', fv := fv }
set_option maxRecDepth 100000 in
set_option maxHeartbeats 1000000 in
theorem remove_any (B p : Nat) (C : Cs) (i n c : Nat) (Am : Option Addr) (w : World) (h : CaV w B p C) (hi : i < C.PL.length) (ha : aOf C.PL i < C.PL.length) (hb : bOf C.PL i < C.PL.length) (hP : C.PL.length ≤ 1048576)
    (hrv : (atP C.PL i).rv = .slice Am n c) (hn : n ≤ 16777216) (hk : kyW (atP C.PL i).k) (hf : (C.f (atP C.PL i).k).isSome = true) (hh : 0 ≤ C.held ∧ C.held ≤ 16777216) (hfl : C.FR.length ≤ 1048576) (hB : B ≤ w.heap.size) :
    Calls Try.prog 39 #[.pointer (some ⟨p, 0, none⟩), .int .i64 (i : Nat)] w fun e w' => ∃ fv, e = .returned (.tuple #[]) ∧ CaV w' B p (outC C i n fv) ∧ ModC w w' p C (outC C i n fv) := by
  have U := unlink_any B p C i w h hi ha hb hP
  have ehold : hold (atP (lnk C.PL (aOf C.PL i) (bOf C.PL i)) i) = hold (atP C.PL i) := hold_lnk ha hb i
  obtain ⟨PL1, hPL1⟩ : ∃ PL1, PL1 = lnk C.PL (aOf C.PL i) (bOf C.PL i) := ⟨_, rfl⟩
  rw [← hPL1] at U ehold
  have hl1 : PL1.length = C.PL.length := by rw [hPL1, lnk_len]
  obtain ⟨x, hx⟩ : ∃ x, x = atP PL1 i := ⟨_, rfl⟩
  rw [← hx] at ehold
  simp only [hold, Prod.mk.injEq] at ehold
  obtain ⟨ek, ebx, erv, ebs⟩ := ehold
  rw [hrv] at erv
  rw [← ek] at hk hf
  have hi1 : i < PL1.length := by omega
  have HU := Lib.hid U
  have H0 := Lib.hid (And.intro hPL1 (And.intro hx (And.intro ek hl1)))
  have HF := Lib.hid hf
  have HH := Lib.hid hh
  have HFL := Lib.hid hfl
  have HBs := Lib.hid hB
  have HP := Lib.hid hP
  have HI1 := Lib.hid hi1
  clear h hi ha hb hP hrv U hPL1 hx ek ebs ebx hl1 hf hh hfl hB
  go_enter Try.func39, Try.ntmps39
  go_upto_region 1 with (go_at_call 31; refine (HU.out).mono ?_; rintro e w1 ⟨rfl, v1, m1⟩)
  obtain ⟨g, cc, hpv, hc, hg, pg, c3, hcell, hfr⟩ := v1.cells (by have := HI1.out; dsimp only; omega)
  dsimp only at hpv hc c3 hcell
  have hr : w1.rangeAt g (i * 11) #[.int .i64 x.k.1, .int .i64 x.k.2.1, .int .i64 x.k.2.2.1, .int .i64 x.k.2.2.2, .int .i64 x.bx.x0, .int .i64 x.bx.y0, .int .i64 x.bx.x1, .int .i64 x.bx.y1, .slice Am n c, .int .i64 (x.a : Nat), .int .i64 (x.b : Nat)].toList := fun j v hv => by
    have e : plL (atP PL1 i) = #[.int .i64 x.k.1, .int .i64 x.k.2.1, .int .i64 x.k.2.2.1, .int .i64 x.k.2.2.2, .int .i64 x.bx.x0, .int .i64 x.bx.y0, .int .i64 x.bx.x1, .int .i64 x.bx.y1, .slice Am n c, .int .i64 (x.a : Nat), .int .i64 (x.b : Nat)].toList := by rw [← H0.out.2.1]; unfold plL; rw [erv]
    refine hcell i j v HI1.out ?_ (by rw [e]; exact hv)
    have := (List.getElem?_eq_some_iff.1 hv).1
    simpa using this
  have hpl := v1.lt
  have hR1 : Blk (w1.alloc (.cells #[.int .i64 0, .int .i64 0, .int .i64 0, .int .i64 0, .int .i64 0, .int .i64 0, .int .i64 0, .int .i64 0, .slice none 0 0, .int .i64 0, .int .i64 0] 74)) w1.heap.size 74 #[.int .i64 0, .int .i64 0, .int .i64 0, .int .i64 0, .int .i64 0, .int .i64 0, .int .i64 0, .int .i64 0, .slice none 0 0, .int .i64 0, .int .i64 0] := Blk.new _ _ _
  obtain ⟨m, hm⟩ : ∃ m, m = PL1.length := ⟨_, rfl⟩
  have him : i < m := by rw [hm]; exact HI1.out
  rw [← hm] at c3 hc
  have HV1 := Lib.hid v1
  have HM1 := Lib.hid m1
  have HPV := Lib.hid hpv
  have HC := Lib.hid hcell
  have HFR := Lib.hid hfr
  have HR1 := Lib.hid hR1
  have HMm := Lib.hid hm
  clear v1 m1 hpv hcell hfr hR1 hm
  go_upto_region 2 with (first
    | (refine wpList_load_mid rfl 74 (.tmp 13) (by with_reducible rfl) g (i * 11) (by rfl) #[.int .i64 x.k.1, .int .i64 x.k.2.1, .int .i64 x.k.2.2.1, .int .i64 x.k.2.2.2, .int .i64 x.bx.x0, .int .i64 x.bx.y0, .int .i64 x.bx.x1, .int .i64 x.bx.y1, .slice Am n c, .int .i64 (x.a : Nat), .int .i64 (x.b : Nat)].toList _ hr Try.underlying74 rfl plInfo ?_)
    | (refine wpList_store_row rfl 74 (.tmp 4) (.tmp 14) (by with_reducible rfl) w1.heap.size #[.int .i64 x.k.1, .int .i64 x.k.2.1, .int .i64 x.k.2.2.1, .int .i64 x.k.2.2.2, .int .i64 x.bx.x0, .int .i64 x.bx.y0, .int .i64 x.bx.x1, .int .i64 x.bx.y1, .slice Am n c, .int .i64 (x.a : Nat), .int .i64 (x.b : Nat)] (by rfl) (by rfl) 74 #[.int .i64 0, .int .i64 0, .int .i64 0, .int .i64 0, .int .i64 0, .int .i64 0, .int .i64 0, .int .i64 0, .slice none 0 0, .int .i64 0, .int .i64 0] (by exact HR1.out) plInfo rfl (by simp [Value.oneCell']) ?_))
  obtain ⟨w2, hw2⟩ : ∃ w2, w2 = (w1.alloc (.cells #[.int .i64 0, .int .i64 0, .int .i64 0, .int .i64 0, .int .i64 0, .int .i64 0, .int .i64 0, .int .i64 0, .slice none 0 0, .int .i64 0, .int .i64 0] 74)).setRow w1.heap.size #[.int .i64 x.k.1, .int .i64 x.k.2.1, .int .i64 x.k.2.2.1, .int .i64 x.k.2.2.2, .int .i64 x.bx.x0, .int .i64 x.bx.y0, .int .i64 x.bx.x1, .int .i64 x.bx.y1, .slice Am n c, .int .i64 (x.a : Nat), .int .i64 (x.b : Nat)] := ⟨_, rfl⟩
  rw [← hw2]
  have B2 : Below w1.heap.size w1 w2 := by
    rw [hw2]
    exact below_setRow (g := w1.heap.size) (below_a1 _ _) (Nat.le_refl _) _
  have R2 : Blk w2 w1.heap.size 74 #[.int .i64 x.k.1, .int .i64 x.k.2.1, .int .i64 x.k.2.2.1, .int .i64 x.k.2.2.2, .int .i64 x.bx.x0, .int .i64 x.bx.y0, .int .i64 x.bx.x1, .int .i64 x.bx.y1, .slice Am n c, .int .i64 (x.a : Nat), .int .i64 (x.b : Nat)] := hw2 ▸ blk_rowL HR1.out _
  have r0 := R2.cell 0; have r1 := R2.cell 1; have r2 := R2.cell 2; have r3 := R2.cell 3; have r4 := R2.cell 4; have r5 := R2.cell 5; have r6 := R2.cell 6; have r7 := R2.cell 7; have r8 := R2.cell 8; have r9 := R2.cell 9; have r10 := R2.cell 10; have rl := R2.lt; simp only [List.getElem?_toArray, List.getElem?_cons_succ, List.getElem?_cons_zero] at r0 r1 r2 r3 r4 r5 r6 r7 r8 r9 r10
  have v2 := HV1.out.below B2
  have d1 := v2.blk.cell 1
  have d2 := v2.blk.cell 2
  simp only [List.getElem?_toArray, List.getElem?_cons_succ, List.getElem?_cons_zero] at d1 d2
  have hp2 := v2.lt
  have HD2 := Lib.hid (fun (V : World) (hV : Below w2.heap.size w2 V) => And.intro ((hV.cell (p := ⟨p, 1, none⟩) hp2).trans d1) (And.intro ((hV.cell (p := ⟨w1.heap.size, 4, none⟩) rl).trans r4) (And.intro ((hV.cell (p := ⟨w1.heap.size, 5, none⟩) rl).trans r5) (And.intro ((hV.cell (p := ⟨w1.heap.size, 6, none⟩) rl).trans r6) (And.intro ((hV.cell (p := ⟨w1.heap.size, 7, none⟩) rl).trans r7) (And.intro ((hV.cell (p := ⟨w1.heap.size, 8, none⟩) rl).trans r8) (And.intro (Nat.lt_of_lt_of_le hp2 hV.size) (Nat.lt_of_lt_of_le rl hV.size))))))))
  have HV2 := Lib.hid v2
  have HR2 := Lib.hid R2
  have HB2 := Lib.hid B2
  have HW2 := Lib.hid hw2
  have hw : wrap64 (C.held - (64 + (n : Int))) = C.held - (64 + (n : Int)) := by have := HH.out; unfold wrap64; omega
  have HWR := Lib.hid hw
  clear hw
  have CO := fun W => lrcost_any x.bx Am n c (by omega) W
  obtain ⟨q, hq⟩ : ∃ q, q = w1.heap.size := ⟨_, rfl⟩
  rw [← hq] at HD2 HR2
  rw [← hq]
  have HQ := Lib.hid hq
  clear v2 R2 B2 hw2 d1 d2 r0 r1 r2 r3 r4 r5 r6 r7 r8 r9 r10 rl hr c3 hp2 hq
  have hI : Below w2.heap.size w2 w2.drew := (Below.refl _ _).drew
  refine wp_region_chain_last (fun V => Below w2.heap.size w2 V) [(0, false), (1, false), (2, false), (3, false), (4, false), (5, false), (6, true), (7, false), (8, false), (9, false)] _ _ (by rfl) (by rfl) (by kernel_rfl) (by kernel_rfl) hI ?_
  repeat (first
    | (refine ChainL.skip (o := ?_) ?_ ?_ ?_; rotate_left; (focus (first | (simp only [List.getElem?_toArray, List.getElem?_cons_succ, List.getElem?_cons_zero]; with_reducible rfl) | (simp only [List.getElem?_toArray, List.getElem?_cons_zero]; with_reducible rfl))); (focus rfl); simp only [Act.put, List.setIfInBounds_toArray, List.set_cons_zero, List.set_cons_succ])
    | (refine ChainL.val (o := ?_) (v := ?_) ?_ ?_ ?_ ?_ ?_; rotate_left 2; (focus (first | (simp only [List.getElem?_toArray, List.getElem?_cons_succ, List.getElem?_cons_zero]; with_reducible rfl) | (simp only [List.getElem?_toArray, List.getElem?_cons_zero]; with_reducible rfl))); (focus (intro _ _ h; cases h)); (focus rfl); (focus (intro w' hI; obtain ⟨d1, r4, r5, r6, r7, r8, l1, l2⟩ := HD2.out _ hI; go_simp <;> with_reducible rfl)); simp only [Act.put, List.setIfInBounds_toArray, List.set_cons_zero, List.set_cons_succ]))
  refine ChainL.call (o := ?_) (f := ?_) (args := ?_) ?_ ?_ ?_ ?_
  rotate_left 3
  (focus (first | (simp only [List.getElem?_toArray, List.getElem?_cons_succ, List.getElem?_cons_zero]; with_reducible rfl) | (simp only [List.getElem?_toArray, List.getElem?_cons_zero]; with_reducible rfl)))
  (focus rfl)
  (focus (go_simp; (constructor <;> with_reducible rfl)))
  with_reducible refine (CO _).mono ?_
  rintro e wc ⟨rfl, bc⟩
  have bb : Below w2.heap.size w2 wc := hI.trans (bc.mono hI.size)
  refine ⟨_, rfl, bb, ?_⟩
  simp only [Act.put, List.setIfInBounds_toArray, List.set_cons_zero, List.set_cons_succ]
  repeat (first
    | (refine ChainL.skip (o := ?_) ?_ ?_ ?_; rotate_left; (focus (first | (simp only [List.getElem?_toArray, List.getElem?_cons_succ, List.getElem?_cons_zero]; with_reducible rfl) | (simp only [List.getElem?_toArray, List.getElem?_cons_zero]; with_reducible rfl))); (focus rfl); simp only [Act.put, List.setIfInBounds_toArray, List.set_cons_zero, List.set_cons_succ])
    | (refine ChainL.val (o := ?_) (v := ?_) ?_ ?_ ?_ ?_ ?_; rotate_left 2; (focus (first | (simp only [List.getElem?_toArray, List.getElem?_cons_succ, List.getElem?_cons_zero]; with_reducible rfl) | (simp only [List.getElem?_toArray, List.getElem?_cons_zero]; with_reducible rfl))); (focus (intro _ _ h; cases h)); (focus rfl); (focus (intro w' hI; obtain ⟨d1, r4, r5, r6, r7, r8, l1, l2⟩ := HD2.out _ hI; go_simp <;> with_reducible rfl)); simp only [Act.put, List.setIfInBounds_toArray, List.set_cons_zero, List.set_cons_succ]))
  refine ChainL.nil ?_
  have vc := HV2.out.below bb
  have d1 := vc.blk.cell 1
  simp only [List.getElem?_toArray, List.getElem?_cons_succ, List.getElem?_cons_zero] at d1
  have f1 := vc.blk.frozen 1
  have hpc := vc.lt
  have HVC := Lib.hid vc
  have HBB := Lib.hid bb
  clear vc bb bc hI CO
  go_upto_region 3 with fail
  rw [HWR.out]
  obtain ⟨v3, m3⟩ := HVC.out.held (C.held - (64 + (n : Int)))
  dsimp only at v3 m3
  obtain ⟨w3, hw3⟩ : ∃ w3, w3 = wc.setCell ⟨p, 1, none⟩ (.int .i64 (C.held - (64 + (n : Int)))) := ⟨_, rfl⟩
  rw [← hw3]
  rw [← hw3] at v3 m3
  have R3 := (HR2.out.below HBB.out).only ((Only.refl wc [p]).set (p := ⟨p, 1, none⟩) (.inl (by simp)) (.int .i64 (C.held - (64 + (n : Int))))) (by
    have := (HR2.out.below HBB.out)
    have h1 := HVC.out.blk
    exact fun e => blk_neL this h1 (by decide) (by simpa using e))
  rw [← hw3] at R3
  have r0 := R3.cell 0; have r1 := R3.cell 1; have r2 := R3.cell 2; have r3 := R3.cell 3; have rl := R3.lt
  simp only [List.getElem?_toArray, List.getElem?_cons_succ, List.getElem?_cons_zero] at r0 r1 r2 r3
  have d2 := v3.blk.cell 2
  simp only [List.getElem?_toArray, List.getElem?_cons_succ, List.getElem?_cons_zero] at d2
  have hp3 := v3.lt
  have HD3 := Lib.hid (fun (V : World) (hV : Below w3.heap.size w3 V) => And.intro ((hV.cell (p := ⟨p, 2, none⟩) hp3).trans d2) (And.intro ((hV.cell (p := ⟨q, 0, none⟩) rl).trans r0) (And.intro ((hV.cell (p := ⟨q, 1, none⟩) rl).trans r1) (And.intro ((hV.cell (p := ⟨q, 2, none⟩) rl).trans r2) (And.intro ((hV.cell (p := ⟨q, 3, none⟩) rl).trans r3) (And.intro (Nat.lt_of_lt_of_le hp3 hV.size) (Nat.lt_of_lt_of_le rl hV.size)))))))
  have B3 : Below w3.heap.size w3 w3.drew := (Below.refl _ _).drew
  have v3d := v3.below B3
  have hrun := fun ty => v3d.map.drop hk HF.out ty
  obtain ⟨w4, hdel, hm4, o4⟩ := hrun 0
  have hdel2 : ∀ ty, (Builtin.delete_ #[63, 39] ty #[.map (some C.mb), .agg #[.int .i64 x.k.1, .int .i64 x.k.2.1, .int .i64 x.k.2.2.1, .int .i64 x.k.2.2.2]]).run Try.prog w3.drew = .ok (.tuple #[]) w4 := fun ty => hdel
  obtain ⟨v4, m4⟩ := v3d.maps o4 hm4
  dsimp only at v4 m4
  have HV4 := Lib.hid v4
  have HM4 := Lib.hid m4
  have HM3 := Lib.hid m3
  have HB3 := Lib.hid B3
  have HW3 := Lib.hid hw3
  clear v3 m3 hw3 R3 r0 r1 r2 r3 rl d2 hp3 v3d hrun hm4 o4 v4 m4 hdel d1 f1 hpc
  refine wp_region_chain_last (fun V => Below w3.heap.size w3 V) [(0, false), (1, false), (2, false), (3, false), (4, false), (5, false)] _ _ (by rfl) (by rfl) (by kernel_rfl) (by kernel_rfl) B3 ?_
  repeat (first
    | (refine ChainL.skip (o := ?_) ?_ ?_ ?_; rotate_left; (focus (first | (simp only [List.getElem?_toArray, List.getElem?_cons_succ, List.getElem?_cons_zero]; with_reducible rfl) | (simp only [List.getElem?_toArray, List.getElem?_cons_zero]; with_reducible rfl))); (focus rfl); simp only [Act.put, List.setIfInBounds_toArray, List.set_cons_zero, List.set_cons_succ])
    | (refine ChainL.val (o := ?_) (v := ?_) ?_ ?_ ?_ ?_ ?_; rotate_left 2; (focus (first | (simp only [List.getElem?_toArray, List.getElem?_cons_succ, List.getElem?_cons_zero]; with_reducible rfl) | (simp only [List.getElem?_toArray, List.getElem?_cons_zero]; with_reducible rfl))); (focus (intro _ _ h; cases h)); (focus rfl); (focus (intro w' hI; obtain ⟨d2, r0, r1, r2, r3, l1, l2⟩ := HD3.out _ hI; go_simp <;> with_reducible rfl)); simp only [Act.put, List.setIfInBounds_toArray, List.set_cons_zero, List.set_cons_succ]))
  refine ChainL.nil ?_
  go_upto_region 4 with fail
  clear hdel2 HD3 B3
  obtain ⟨g4, cc4, hpv4, hc4, hg4, pg4, c34, hcell4, hfr4⟩ := HV4.out.cells (by have := HI1.out; dsimp only; omega)
  dsimp only at hpv4 hc4 c34 hcell4
  obtain ⟨rfl, rfl⟩ : g4 = g ∧ cc4 = cc := by
    have := hpv4.symm.trans HPV.out
    simp only [Value.slice.injEq, Option.some.injEq, Addr.mk.injEq, and_true, true_and] at this
    exact this
  have hth : w4.there g4 (i * 11) (#[.int .i64 0, .int .i64 0, .int .i64 0, .int .i64 0, .int .i64 0, .int .i64 0, .int .i64 0, .int .i64 0, .slice none 0 0, .int .i64 0, .int .i64 0] : Array Value).size := fun j hj => ⟨by
    have hj' : j < 11 := hj
    rw [hcell4 i j ((plL (atP PL1 i))[j]'(by rw [plL_len]; exact hj')) HI1.out hj' (List.getElem?_eq_getElem _)]
    rfl, hfr4 _⟩
  rw [← HMm.out] at c34 hc4
  have hp4 := HV4.out.lt
  have HTH := Lib.hid hth
  clear hcell4 hfr4 hpv4 hth pg4 hc4
  go_upto_region 5 with (refine wpList_store_mid rfl 74 (.tmp 37) (.tmp 36) (by with_reducible rfl) g4 (i * 11) #[.int .i64 0, .int .i64 0, .int .i64 0, .int .i64 0, .int .i64 0, .int .i64 0, .int .i64 0, .int .i64 0, .slice none 0 0, .int .i64 0, .int .i64 0] (by rfl) (by rfl) (by exact HTH.out) plInfo (by simp [Value.oneCell']) ?_)
  obtain ⟨v5, m5⟩ := HV4.out.place (by rw [HPV.out]) (i := i) HI1.out pl0
  dsimp only at v5 m5
  obtain ⟨w5, hw5⟩ : ∃ w5, w5 = w4.setCells g4 (i * 11) (#[.int .i64 0, .int .i64 0, .int .i64 0, .int .i64 0, .int .i64 0, .int .i64 0, .int .i64 0, .int .i64 0, .slice none 0 0, .int .i64 0, .int .i64 0] : Array Value).toList := ⟨_, rfl⟩
  rw [← hw5]
  have v5 : CaV w5 B p _ := hw5 ▸ v5
  have m5 : ModC w4 w5 p _ _ := hw5 ▸ m5
  obtain ⟨A0, n0, hfv, hl0, hn0⟩ := own_lists v5.fown
  dsimp only at hfv hn0
  have hown := v5.fown
  have d4 := v5.blk.cell 4
  simp only [List.getElem?_toArray, List.getElem?_cons_succ, List.getElem?_cons_zero] at d4
  rw [hfv] at d4
  have hp5 := v5.lt
  have hb5 := v5.blk
  have B5 : Below w5.heap.size w5 (w5.alloc (.cells #[.int .i64 (i : Nat)] 3)) := below_a1 _ _
  have own1 := (v5.below B5).fown
  dsimp only at own1
  rw [hfv] at own1
  have hb1 := v5.blk.below B5
  obtain ⟨i0, hi, hz0, hz1, hz2⟩ := info_parts intInfoL
  obtain ⟨k, hk0⟩ : ∃ k, k = C.FR.length := ⟨_, rfl⟩
  rw [← hk0] at own1 d4
  have hkl : k ≤ 1048576 := by rw [hk0]; exact HFL.out
  have hBw : B ≤ w5.heap.size := Nat.le_trans v5.lo.1 (Nat.le_of_lt hp5)
  have HV5 := Lib.hid v5
  have HM5 := Lib.hid m5
  have HFV := Lib.hid hfv
  have HK0 := Lib.hid hk0
  have HB5 := Lib.hid B5
  have HW5 := Lib.hid hw5
  have HN0 := Lib.hid (show (Value.slice A0 k n0).ownBlock = C.fv.ownBlock by rw [hfv, ← hk0])
  clear v5 m5 hfv hk0 hn0 hl0 hown hw5 c34 hp4 hpl hb5 B5
  go_wp2_with (at_builtin; refine wpList_append_src _ rfl (.tmp 42) (.tmp 44) 65 rfl B 3 i0 (.int .i64 0) 1 8 Try.underlying65 hi hz0 hz1 hz2 rfl (by decide) (.slice A0 k n0) k (frL C.FR) rfl own1 (w5.heap.size + 1) (some ⟨w5.heap.size, 0, none⟩) 1 1 [.int .i64 (i : Nat)] (by rfl) (lists_row w5 [.int .i64 (i : Nat)] 3) rfl (by simp [Value.oneCell']) (by simp only [maxLen]; omega) (by omega) (by rw [World.size_alloc]; omega) ?_; intro v6 w6 own6 hg6 hat6; obtain ⟨A6, n6, rfl, _⟩ := own_lists own6; have g6 : Only _ w6 (blk (.slice A0 k n0)) := (Only.refl _ _).grown hg6 (fun b hb => .inl (by simp [blk, hb])); have hne : p ∉ blk (Value.slice A0 k n0) := own_ne own1 hb1 (by decide); have hb2 := hb1.only g6 hne; have c6 := hb2.cell 4; simp only [List.getElem?_toArray, List.getElem?_cons_succ, List.getElem?_cons_zero] at c6; have f6 := hb2.frozen 4)
  have e : outC C i n (.slice A6 (k + 1) n6) = { bud := C.bud, held := C.held - (64 + (n : Int)), mb := C.mb, pv := C.pv, fv := .slice A6 (k + 1) n6, PL := PL1.set i pl0, FR := C.FR ++ [i], n := C.n - 1, f := fun k' => if k' = x.k then none else C.f k' } := by
    unfold outC
    rw [← H0.out.1, ← H0.out.2.2.1]
  have hbk : blk C.fv = blk (Value.slice A0 k n0) := by unfold blk; rw [HN0.out]
  obtain ⟨v7, m7⟩ := HV5.out.free (V := w6) (fv := .slice A6 (k + 1) n6) (FR := C.FR ++ [i]) (by
    dsimp only
    rw [hbk]
    exact (Only.of_below HB5.out _).trans g6 (fun b hb => .inl hb)) (by
    rw [List.length_append, ← HK0.out, show frL (C.FR ++ [i]) = frL C.FR ++ [.int .i64 (i : Nat)] from List.map_append]
    exact own6) (by
    intro b hb
    dsimp only
    rw [hbk]
    rcases hat6 with e | e
    · left
      unfold blk at hb ⊢
      rw [← e]; exact hb
    · right
      unfold blk at hb
      rw [e] at hb
      simp at hb
      omega)
  dsimp only at v7 m7
  refine bodyPost_end (results_none rfl _ _ _) rfl ⟨rfl, .slice A6 (k + 1) n6, ?_⟩
  rw [e]
  exact ⟨v7, ((((((HM1.out.trans (ModC.below HB2.out)).trans (ModC.below HBB.out)).trans HM3.out).trans (ModC.below HB3.out)).trans HM4.out).trans HM5.out).trans m7⟩
end Go.Proofs.Ytaaboochologaaa

namespace Go.Proofs.Ytaaboochologaaa
open Go Go.RowKit
set_option linter.unusedVariables false
set_option linter.unusedSimpArgs false

theorem frL_app (L M : List Nat) : frL (L ++ M) = frL L ++ frL M := List.map_append
theorem own_cutL {w : World} {base g n c : Nat} {e : TypeId} {L : List Value} (h : w.ownsRow base e 1 (.slice (some ⟨g, 0, none⟩) n c) n L) (k : Nat) (hk : k ≤ n) : w.ownsRow base e 1 (.slice (some ⟨g, 0, none⟩) k c) k (L.take k) := by
  have hl : L.length = n := by have := h.1; omega
  refine ⟨by rw [List.length_take]; omega, ?_⟩
  rcases h.2 with ⟨h1, h2⟩ | ⟨g1, cap1, cur, h1, h2, h3, h4, h5, h6, h7⟩
  · cases h1
  · cases h1
    refine .inr ⟨g, c, cur, rfl, h2, h3, by omega, h5, h6, ?_⟩
    rw [← h7, List.take_take, Nat.mul_one, Nat.mul_one, Nat.min_eq_left hk]
/-- A place was taken: i. -/
def Vac (C : Cs) (i : Nat) (pv fv : Value) (PL : List Pl) (FR : List Nat) : Prop :=
  (C.FR = [] ∧ FR = [] ∧ PL = C.PL ++ [pl0] ∧ i = C.PL.length ∧ fv = C.fv) ∨ (C.FR = FR ++ [i] ∧ PL = C.PL ∧ pv = C.pv)
def VacP (B p : Nat) (C : Cs) (w : World) (e : Ending) (w' : World) : Prop := ∃ i pv fv PL FR, e = .returned (.int .i64 (i : Nat)) ∧ CaV w' B p { C with pv := pv, fv := fv, PL := PL, FR := FR } ∧ ModC w w' p C { C with pv := pv, fv := fv, PL := PL, FR := FR } ∧ Vac C i pv fv PL FR
set_option maxRecDepth 100000 in
theorem vacant_new (B p : Nat) (C : Cs) (w : World) (h : CaV w B p C) (h1 : 1 ≤ C.PL.length) (hP : C.PL.length ≤ 1048576) (hF : C.FR = []) : Calls Try.prog 38 #[.pointer (some ⟨p, 0, none⟩)] w (VacP B p C w) := by
  obtain ⟨g, c, hpv, hc, hg⟩ := h.row h1
  obtain ⟨A0, n0, hfv, hl0, hn0⟩ := own_lists h.fown
  rw [hF] at hfv hn0
  have c3 := h.blk.cell 3
  have c4 := h.blk.cell 4
  simp only [List.getElem?_toArray, List.getElem?_cons_succ, List.getElem?_cons_zero] at c3 c4
  rw [hpv] at c3
  rw [hfv] at c4
  have hpl := h.lt
  obtain ⟨n, hn⟩ : ∃ n, n = C.PL.length := ⟨_, rfl⟩
  have B5 : Below w.heap.size w (w.alloc (.cells #[.int .i64 0, .int .i64 0, .int .i64 0, .int .i64 0, .int .i64 0, .int .i64 0, .int .i64 0, .int .i64 0, .slice none 0 0, .int .i64 0, .int .i64 0] 74)) := below_a1 _ _
  have own1 := (h.below B5).pown
  rw [hpv, ← hn] at own1
  rw [← hn] at c3 hP
  have hb1 := h.blk.below B5
  obtain ⟨i0, hi, hz0, hz1, hz2⟩ := info_parts plInfo3
  have hBw : B ≤ w.heap.size := Nat.le_trans h.lo.1 (Nat.le_of_lt hpl)
  have H := Lib.hid h
  have HN := Lib.hid hn
  have HPV := Lib.hid hpv
  have HF := Lib.hid hF
  have HB5 := Lib.hid B5
  have wm : wrap64 ((n + 1 : Nat) - 1 : Int) = (n : Int) := by unfold wrap64; omega
  clear h hn hpv hF hl0 hn0 B5 h1 hc hfv
  go_enter Try.func38, Try.ntmps38
  go_wp2_with (at_builtin; refine wpList_append_src _ rfl (.tmp 17) (.tmp 19) 64 rfl B 74 i0 (.agg #[.int .i64 0, .int .i64 0, .int .i64 0, .int .i64 0, .int .i64 0, .int .i64 0, .int .i64 0, .int .i64 0, .slice none 0 0, .int .i64 0, .int .i64 0]) 11 104 Try.underlying64 hi hz0 hz1 hz2 rfl (by decide) (.slice (some ⟨g, 0, none⟩) n c) n (plsL C.PL) rfl own1 (w.heap.size + 1) (some ⟨w.heap.size, 0, none⟩) 1 1 #[.int .i64 0, .int .i64 0, .int .i64 0, .int .i64 0, .int .i64 0, .int .i64 0, .int .i64 0, .int .i64 0, .slice none 0 0, .int .i64 0, .int .i64 0].toList (by rfl) (lists_row w #[.int .i64 0, .int .i64 0, .int .i64 0, .int .i64 0, .int .i64 0, .int .i64 0, .int .i64 0, .int .i64 0, .slice none 0 0, .int .i64 0, .int .i64 0].toList 74) rfl (by simp [Value.oneCell']) (by simp only [maxLen]; omega) (by omega) (by rw [World.size_alloc]; omega) ?_; intro v6 w6 own6 hg6 hat6; obtain ⟨A6, n6, rfl, _⟩ := own_lists own6; have g6 : Only _ w6 (blk (.slice (some ⟨g, 0, none⟩) n c)) := (Only.refl _ _).grown hg6 (fun b hb => .inl (by simp [blk, hb])); have hne : p ∉ blk (Value.slice (some ⟨g, 0, none⟩) n c) := own_ne own1 hb1 (by decide); have hb2 := hb1.only g6 hne; have c6 := hb2.cell 3; simp only [List.getElem?_toArray, List.getElem?_cons_succ, List.getElem?_cons_zero] at c6; have f6 := hb2.frozen 3; have hp6 := hb2.lt)
  have hbk : blk C.pv = blk (Value.slice (some ⟨g, 0, none⟩) n c) := by rw [HPV.out, ← HN.out]
  obtain ⟨v7, m7⟩ := H.out.grow (V := w6) (pv := .slice A6 (n + 1) n6) (PL := C.PL ++ [pl0]) (by
    rw [hbk]
    exact (Only.of_below HB5.out _).trans g6 (fun b hb => .inl hb)) (by
    rw [List.length_append, ← HN.out, show plsL (C.PL ++ [pl0]) = plsL C.PL ++ #[.int .i64 0, .int .i64 0, .int .i64 0, .int .i64 0, .int .i64 0, .int .i64 0, .int .i64 0, .int .i64 0, .slice none 0 0, .int .i64 0, .int .i64 0].toList from by unfold plsL; rw [List.flatMap_append]; rfl]
    exact own6) (by
    intro b hb
    rw [hbk]
    rcases hat6 with e | e
    · left
      unfold blk at hb ⊢
      rw [← e]; exact hb
    · right
      unfold blk at hb
      rw [e] at hb
      simp at hb
      omega)
  exact bodyPost_ret (results_tmp rfl _ _ _) rfl ⟨n, _, C.fv, _, C.FR, by simp [wm], v7, m7, .inl ⟨HF.out, HF.out, rfl, HN.out, rfl⟩⟩
set_option maxRecDepth 100000 in
theorem vacant_old (B p : Nat) (C : Cs) (FR : List Nat) (i : Nat) (w : World) (h : CaV w B p C) (hF : C.FR = FR ++ [i]) (hs : C.FR.length ≤ 1048576) : Calls Try.prog 38 #[.pointer (some ⟨p, 0, none⟩)] w (VacP B p C w) := by
  have hown := h.fown
  rcases hown.2 with ⟨_, h2⟩ | ⟨g, n0, cur, hfv, h2, h3, hn0, _⟩
  · rw [hF] at h2; simp at h2
  · rw [hfv] at hown
    obtain ⟨k, hk⟩ : ∃ k, k = FR.length := ⟨_, rfl⟩
    have hl : C.FR.length = k + 1 := by rw [hF, hk]; simp
    rw [hl] at hown hfv hn0 hs
    have c4 := h.blk.cell 4
    simp only [List.getElem?_toArray, List.getElem?_cons_succ, List.getElem?_cons_zero] at c4
    rw [hfv] at c4
    have ci : w.cell? ⟨g, k, none⟩ = some (.int .i64 (i : Nat)) := by
      rw [hown.cellAt k (by omega), hF, frL_app, List.getElem?_append_right (by rw [frL_len]; omega), frL_len, hk, Nat.sub_self]
      rfl
    have hcut := own_cutL hown k (by omega)
    have e1 : (frL C.FR).take k = frL FR := by rw [hF, frL_app, List.take_append_of_le_length (by rw [frL_len]; omega), List.take_of_length_le (by rw [frL_len]; omega)]
    rw [e1] at hcut
    have hpl := h.lt
    have hgl : g < w.heap.size := (Array.getElem?_eq_some_iff.1 h3).1
    have f4 := h.blk.frozen 4
    have wm : wrap64 (((k + 1 : Nat) : Int) - 1) = (k : Int) := by unfold wrap64; omega
    obtain ⟨v7, m7⟩ := h.free (V := w) (fv := .slice (some ⟨g, 0, none⟩) k n0) (FR := FR) (Only.refl _ _) (by rw [← hk]; exact hcut) (by intro b hb; left; rw [hfv]; exact hb)
    have H7 := Lib.hid (And.intro v7 m7)
    have HF := Lib.hid hF
    have n1 : ¬ n0 = 0 := by omega
    have n2 : k ≤ n0 := by omega
    clear h hown h2 h3 hfv hl hcut e1 v7 m7 hF hk
    obtain ⟨K, hK⟩ : ∃ K, K = k + 1 := ⟨_, rfl⟩
    rw [← hK] at c4 wm
    have hKk : k < K := by omega
    have HK := Lib.hid hK
    clear hK hn0
    go_enter Try.func38, Try.ntmps38
    go_wp2
    exact bodyPost_ret (results_tmp rfl _ _ _) rfl ⟨i, C.pv, _, C.PL, FR, rfl, H7.out.1, H7.out.2, .inr ⟨HF.out, rfl, rfl⟩⟩
theorem vacant_any (B p : Nat) (C : Cs) (w : World) (h : CaV w B p C) (h1 : 1 ≤ C.PL.length) (hP : C.PL.length ≤ 1048576) (hs : C.FR.length ≤ 1048576) : Calls Try.prog 38 #[.pointer (some ⟨p, 0, none⟩)] w (VacP B p C w) := by
  rcases List.eq_nil_or_concat C.FR with e | ⟨FR, i, e⟩
  · exact vacant_new B p C w h h1 hP e
  · exact vacant_old B p C FR i w h (by rw [e, List.concat_eq_append]) hs
end Go.Proofs.Ytaaboochologaaa

namespace Go.Proofs.Ytaaboochologaaa
open Go Go.RowKit
set_option linter.unusedVariables false
set_option linter.unusedSimpArgs false

/-- What masks cost. -/
def costL (PL : List Pl) : List Nat → Int
  | [] => 0
  | i :: l => 64 + ((atP PL i).bs.length : Int) + costL PL l
theorem costL_app (PL : List Pl) : ∀ l m, costL PL (l ++ m) = costL PL l + costL PL m
  | [], m => by simp [costL]
  | i :: l, m => by simp only [List.cons_append, costL, costL_app PL l m]; omega
theorem costL_ge (PL : List Pl) : ∀ l, 64 * (l.length : Int) ≤ costL PL l
  | [] => by simp [costL]
  | i :: l => by have := costL_ge PL l; simp only [costL, List.length_cons]; push_cast; omega
theorem costL_same {PL PL' : List Pl} : ∀ {l : List Nat}, (∀ i ∈ l, hold (atP PL' i) = hold (atP PL i)) → costL PL' l = costL PL l
  | [], _ => rfl
  | i :: l, h => by
    have h1 := h i (by simp)
    simp only [hold, Prod.mk.injEq] at h1
    rw [costL, costL, h1.2.2.2, costL_same (fun j hj => h j (by simp [hj]))]
structure InvC (C : Cs) (ord : List Nat) : Prop where
  nd : (0 :: (ord ++ C.FR)).Nodup
  lt : ∀ i ∈ 0 :: (ord ++ C.FR), i < C.PL.length
  len : C.PL.length = 1 + ord.length + C.FR.length
  small : C.PL.length ≤ 524288
  path : PathL (bOf C.PL) (aOf C.PL) 0 ord 0
  held : C.held = costL C.PL ord
  bud : C.held ≤ 16777216 ∧ 0 ≤ C.bud ∧ C.bud ≤ 16777216
  n : C.n = ord.length
  f : ∀ k i, C.f k = some i ↔ i ∈ ord ∧ (atP C.PL i).k = k
  ky : ∀ i ∈ ord, kyW (atP C.PL i).k
/-- Blocks at which no place's row may lie. -/
def BanT := Nat → Prop
def banP [Inhabited BanT] (g : Nat) : Prop := (default : BanT) g
instance noBan : Inhabited BanT := ⟨fun _ => False⟩
set_option linter.unusedSectionVars false
variable [Inhabited BanT]
/-- A place's rows as they lie. -/
def RowP (W : World) (B : Nat) (x : Pl) : Prop := ∃ g, x.rv = .slice (some ⟨g, 0, none⟩) x.bs.length x.bs.length ∧ Blk W g 5 x.bs.toArray ∧ (B ≤ g ∧ ¬ banP g) ∧ Bytes8 x.bs ∧ x.bs.length ≤ 16777216
structure Ca (W : World) (B p : Nat) (C : Cs) (ord : List Nat) : Prop where
  v : CaV W B p C
  i : InvC C ord
  rows : ∀ i ∈ ord, RowP W B (atP C.PL i)
theorem RowP.mono {W V : World} {B : Nat} {x : Pl} {fp : List Nat} (h : RowP W B x) (o : Only W V fp) (hn : ∀ g cs, Blk W g 5 cs → g ∉ fp) : RowP V B x := by
  obtain ⟨g, h1, h2, h3⟩ := h
  exact ⟨g, h1, h2.only o (hn g _ h2), h3⟩
theorem CaV.u8 {W : World} {B p : Nat} {C : Cs} (h : CaV W B p C) {g : Nat} {cs : Array Value} (hb : Blk W g 5 cs) : g ∉ fpC p C := by
  simp only [fpC, List.mem_cons, List.mem_append, not_or]
  exact ⟨blk_neL hb h.blk (by decide), fun e => by subst e; exact h.map.ne hb rfl, own_ne h.pown hb (by decide), own_ne h.fown hb (by decide)⟩
theorem RowP.mod {W V : World} {B p : Nat} {C C' : Cs} {x : Pl} (h : RowP W B x) (hv : CaV W B p C) (o : ModC W V p C C') : RowP V B x := h.mono o.1 (fun g cs hb => hv.u8 hb)
theorem RowP.hold {W : World} {B : Nat} {x y : Pl} (h : RowP W B x) (e : Go.Proofs.Ytaaboochologaaa.hold y = Go.Proofs.Ytaaboochologaaa.hold x) : RowP W B y := by
  simp only [Go.Proofs.Ytaaboochologaaa.hold, Prod.mk.injEq] at e
  obtain ⟨_, _, e1, e2⟩ := e
  unfold RowP
  rw [e1, e2]
  exact h
theorem Ca.below {W V : World} {B p : Nat} {C : Cs} {ord : List Nat} (h : Ca W B p C ord) (b : Below W.heap.size W V) : Ca V B p C ord := ⟨h.v.below b, h.i, fun i hi => (h.rows i hi).mono (Only.of_below b []) (by simp)⟩
theorem InvC.fr {C : Cs} {ord : List Nat} (h : InvC C ord) : C.FR.length ≤ 524288 ∧ ord.length ≤ 524288 ∧ 1 ≤ C.PL.length := by have := h.len; have := h.small; omega
/-- A mask's neighbours. -/
theorem InvC.near {C : Cs} {ord : List Nat} (h : InvC C ord) {i : Nat} (hi : i ∈ ord) : aOf C.PL i < C.PL.length ∧ bOf C.PL i < C.PL.length := by
  obtain ⟨l, m, rfl⟩ := List.append_of_mem hi
  obtain ⟨h1, h2⟩ := h.path.split
  have h0 := h.lt 0 (by simp)
  constructor
  · rcases h1.last with ⟨e, _⟩ | e
    · rw [e]; exact h0
    · exact h.lt _ (by simp [e])
  · rcases h2.first with ⟨e, _⟩ | e
    · rw [e]; exact h0
    · exact h.lt _ (by simp [e])
/-- Without the mask at place i. -/
theorem InvC.out {C : Cs} {l m : List Nat} {i : Nat} (h : InvC C (l ++ i :: m)) (fv : Value) : InvC (outC C i (atP C.PL i).bs.length fv) (l ++ m) ∧ ∀ j ∈ l ++ m, hold (atP (outC C i (atP C.PL i).bs.length fv).PL j) = hold (atP C.PL j) := by
  have hi := h.lt i (by simp)
  obtain ⟨ha, hb⟩ := h.near (i := i) (by simp)
  have nd := h.nd
  have nd0 := List.nodup_cons.1 nd
  have ndo : (l ++ i :: m).Nodup := (List.nodup_append.1 nd0.2).1
  obtain ⟨nl, nim, nlm⟩ := List.nodup_append.1 ndo
  have nim := List.nodup_cons.1 nim
  have i0 : i ≠ 0 := fun e => nd0.1 (by simp [e])
  have il : i ∉ l := fun e => nlm i e i (by simp) rfl
  have hl1 : (lnk C.PL (aOf C.PL i) (bOf C.PL i)).length = C.PL.length := lnk_len _ _ _
  have hat : ∀ j, j ≠ i → atP ((lnk C.PL (aOf C.PL i) (bOf C.PL i)).set i pl0) j = atP (lnk C.PL (aOf C.PL i) (bOf C.PL i)) j := fun j hj => by rw [atP_set (by omega), if_neg hj]
  have hne : ∀ j ∈ l ++ m, j ≠ i := fun j hj e => by
    subst e
    rcases List.mem_append.1 hj with hj | hj
    · exact il hj
    · exact nim.1 hj
  have hho : ∀ j ∈ l ++ m, hold (atP (outC C i (atP C.PL i).bs.length fv).PL j) = hold (atP C.PL j) := fun j hj => by
    show hold (atP ((lnk C.PL (aOf C.PL i) (bOf C.PL i)).set i pl0) j) = _
    rw [hat j (hne j hj), hold_lnk ha hb]
  have hmem : ∀ j, j ∈ l ++ i :: m ↔ j ∈ l ++ m ∨ j = i := fun j => by simp only [List.mem_append, List.mem_cons]; constructor <;> intro h <;> rcases h with h | h | h <;> simp_all
  refine ⟨⟨?_, ?_, ?_, ?_, ?_, ?_, ?_, ?_, ?_, ?_⟩, hho⟩
  · have : (0 :: (l ++ i :: m ++ C.FR)).Perm (0 :: (l ++ m ++ (C.FR ++ [i]))) := by
      refine List.Perm.cons 0 ?_
      rw [List.append_assoc, List.append_assoc, List.cons_append]
      refine List.Perm.append_left l ?_
      rw [← List.append_assoc]
      exact List.perm_append_comm (l₁ := [i])
    exact this.nodup_iff.1 nd
  · intro j hj
    show j < (List.set _ _ _).length
    rw [List.length_set, hl1]
    refine h.lt j ?_
    have hj' : j ∈ 0 :: (l ++ m ++ (C.FR ++ [i])) := hj
    simp only [List.mem_cons, List.mem_append, List.not_mem_nil, or_false] at hj' ⊢
    rcases hj' with h | (h | h) | h | h <;> simp_all
  · show (List.set _ _ _).length = 1 + (l ++ m).length + (C.FR ++ [i]).length
    rw [List.length_set, hl1, h.len]
    simp only [List.length_append, List.length_cons, List.length_nil]
    omega
  · show (List.set _ _ _).length ≤ _
    rw [List.length_set, hl1]; exact h.small
  · obtain ⟨p1, p2⟩ := h.path.split
    have z1 : 0 ∉ l := fun e => nd0.1 (by simp [e])
    have z2 : 0 ∉ m := fun e => nd0.1 (by simp [e])
    have := PathL.cut p2 p1 z1 z2 (fun c hc hm => nlm c hc c (by simp [hm]) rfl) nl nim.2 z1 z2
    rw [← bOf_lnk ha hb, ← aOf_lnk ha hb] at this
    refine this.keep (fun j hj => ?_) (fun j hj => ?_)
    · show (atP (List.set _ _ _) j).b = _
      rw [hat j (by rcases hj with rfl | hj; exact Ne.symm i0; exact hne j hj)]
      rfl
    · show (atP (List.set _ _ _) j).a = _
      rw [hat j (by rcases hj with rfl | hj; exact Ne.symm i0; exact hne j hj)]
      rfl
  · show C.held - _ = _
    rw [costL_same hho, h.held, costL_app, costL_app, costL]
    omega
  · have := h.bud
    show C.held - _ ≤ _ ∧ _
    exact ⟨by omega, this.2⟩
  · show C.n - 1 = _
    rw [h.n]; simp
  · intro k j
    show (if k = (atP C.PL i).k then none else C.f k) = some j ↔ _
    by_cases e : k = (atP C.PL i).k
    · rw [if_pos e]
      constructor
      · intro h; cases h
      · rintro ⟨h1, h2⟩
        have h3 := hho j h1
        simp only [hold, Prod.mk.injEq] at h3
        rw [h3.1, e] at h2
        have f1 := (h.f (atP C.PL i).k i).2 ⟨by simp, rfl⟩
        have f2 := (h.f (atP C.PL i).k j).2 ⟨(hmem j).2 (.inl h1), h2⟩
        rw [f1] at f2
        cases f2
        exact absurd rfl (hne i h1)
    · rw [if_neg e, h.f k j]
      constructor
      · rintro ⟨h1, h2⟩
        rcases (hmem j).1 h1 with h3 | rfl
        · have h4 := hho j h3
          simp only [hold, Prod.mk.injEq] at h4
          exact ⟨h3, by rw [h4.1]; exact h2⟩
        · exact absurd h2.symm e
      · rintro ⟨h1, h2⟩
        have h4 := hho j h1
        simp only [hold, Prod.mk.injEq] at h4
        exact ⟨(hmem j).2 (.inl h1), by rw [← h4.1]; exact h2⟩
  · intro j hj
    have h4 := hho j hj
    simp only [hold, Prod.mk.injEq] at h4
    rw [h4.1]
    exact h.ky j ((hmem j).2 (.inl hj))
end Go.Proofs.Ytaaboochologaaa

namespace Go.Proofs.Ytaaboochologaaa
open Go Go.RowKit
set_option linter.unusedVariables false
set_option linter.unusedSimpArgs false
set_option linter.unusedSectionVars false
variable [Inhabited BanT]

/-- Place i leads. -/
def leadP (PL : List Pl) (i : Nat) : List Pl := lnk (lnk PL 0 i) i (bOf PL 0)
theorem leadP_len (PL : List Pl) (i : Nat) : (leadP PL i).length = PL.length := by unfold leadP; rw [lnk_len, lnk_len]
theorem leadP_hold {PL : List Pl} {i : Nat} (h0 : 0 < PL.length) (hi : i < PL.length) (hb : bOf PL 0 < PL.length) (j : Nat) : hold (atP (leadP PL i) j) = hold (atP PL j) := by
  unfold leadP
  rw [hold_lnk (by rw [lnk_len]; exact hi) (by rw [lnk_len]; exact hb), hold_lnk h0 hi]
theorem leadP_path {PL : List Pl} {i : Nat} {l : List Nat} (h : PathL (bOf PL) (aOf PL) 0 l 0) (hl : ∀ j ∈ 0 :: i :: l, j < PL.length) (nd : (0 :: i :: l).Nodup) : PathL (bOf (leadP PL i)) (aOf (leadP PL i)) 0 (i :: l) 0 ∧ bOf PL 0 < PL.length := by
  have h0 := hl 0 (by simp)
  have hi := hl i (by simp)
  have hb : bOf PL 0 < PL.length := by
    rcases h.first with ⟨e, _⟩ | e
    · rw [e]; exact h0
    · exact hl _ (by simp [e])
  have n0 := List.nodup_cons.1 nd
  have n1 := List.nodup_cons.1 n0.2
  refine ⟨?_, hb⟩
  unfold leadP
  rw [bOf_lnk (by rw [lnk_len]; exact hi) (by rw [lnk_len]; exact hb), aOf_lnk (by rw [lnk_len]; exact hi) (by rw [lnk_len]; exact hb), bOf_lnk h0 hi, aOf_lnk h0 hi]
  have i0 : i ≠ 0 := fun e => n0.1 (by simp [e])
  have z : 0 ∉ l := fun e => n0.1 (by simp [e])
  exact h.lead z n1.1 i0 i0 z n1.2
def getC (C : Cs) (i : Nat) : Cs := { C with PL := leadP (lnk C.PL (aOf C.PL i) (bOf C.PL i)) i }
theorem InvC.get {C : Cs} {l m : List Nat} {i : Nat} (h : InvC C (l ++ i :: m)) : InvC (getC C i) (i :: (l ++ m)) ∧ (∀ j, hold (atP (getC C i).PL j) = hold (atP C.PL j)) ∧ bOf (lnk C.PL (aOf C.PL i) (bOf C.PL i)) 0 < C.PL.length := by
  have hi := h.lt i (by simp)
  obtain ⟨ha, hb⟩ := h.near (i := i) (by simp)
  have nd0 := List.nodup_cons.1 h.nd
  have ndo : (l ++ i :: m).Nodup := (List.nodup_append.1 nd0.2).1
  obtain ⟨nl, nim, nlm⟩ := List.nodup_append.1 ndo
  have nim := List.nodup_cons.1 nim
  have z1 : 0 ∉ l := fun e => nd0.1 (by simp [e])
  have z2 : 0 ∉ m := fun e => nd0.1 (by simp [e])
  obtain ⟨p1, p2⟩ := h.path.split
  have pc := PathL.cut p2 p1 z1 z2 (fun c hc hm => nlm c hc c (by simp [hm]) rfl) nl nim.2 z1 z2
  rw [← bOf_lnk ha hb, ← aOf_lnk ha hb] at pc
  have hperm : (l ++ i :: m).Perm (i :: (l ++ m)) := List.perm_middle
  have ndn : (0 :: (i :: (l ++ m) ++ C.FR)).Nodup := by
    refine (List.Perm.nodup_iff ?_).1 h.nd
    exact List.Perm.cons 0 (List.Perm.append_right C.FR hperm)
  have hmem : ∀ j, j ∈ l ++ i :: m ↔ j ∈ i :: (l ++ m) := fun j => hperm.mem_iff
  have ndi : (0 :: i :: (l ++ m)).Nodup := by
    rw [List.nodup_cons] at ndn ⊢
    exact ⟨fun e => ndn.1 (by simp only [List.mem_append]; exact .inl e), (List.nodup_append.1 ndn.2).1⟩
  obtain ⟨pl, hb0⟩ := leadP_path pc (by
    intro j hj
    rw [lnk_len]
    refine h.lt j ?_
    rcases List.mem_cons.1 hj with rfl | hj
    · simp
    · have := (hmem j).2 hj
      simp only [List.mem_cons, List.mem_append] at this ⊢
      rcases this with h | h | h <;> simp_all) ndi
  have hho : ∀ j, hold (atP (getC C i).PL j) = hold (atP C.PL j) := fun j => by
    show hold (atP (leadP _ i) j) = _
    rw [leadP_hold (by rw [lnk_len]; omega) (by rw [lnk_len]; exact hi) hb0, hold_lnk ha hb]
  have hk : ∀ j, (atP (getC C i).PL j).k = (atP C.PL j).k := fun j => by
    have := hho j
    simp only [hold, Prod.mk.injEq] at this
    exact this.1
  have hlen : (getC C i).PL.length = C.PL.length := by show (leadP _ i).length = _; rw [leadP_len, lnk_len]
  refine ⟨⟨ndn, ?_, ?_, ?_, pl, ?_, h.bud, ?_, ?_, ?_⟩, hho, by rw [lnk_len] at hb0; exact hb0⟩
  · intro j hj
    rw [hlen]
    refine h.lt j ?_
    have : (0 :: (l ++ i :: m ++ C.FR)).Perm (0 :: (i :: (l ++ m) ++ C.FR)) := List.Perm.cons 0 (List.Perm.append_right C.FR hperm)
    exact this.mem_iff.2 hj
  · rw [hlen, h.len]
    show 1 + (l ++ i :: m).length + C.FR.length = 1 + (i :: (l ++ m)).length + C.FR.length
    rw [hperm.length_eq]
  · rw [hlen]; exact h.small
  · show C.held = _
    rw [costL_same (fun j _ => hho j), h.held, costL, costL_app, costL_app, costL]
    omega
  · show C.n = _
    rw [h.n, hperm.length_eq]
  · intro k j
    show C.f k = some j ↔ _
    rw [h.f k j, hmem j, hk j]
  · intro j hj
    rw [hk j]
    exact h.ky j ((hmem j).2 hj)
def putC (C : Cs) (i : Nat) (pv fv : Value) (PL : List Pl) (FR : List Nat) (x : Pl) : Cs :=
  { C with pv := pv, fv := fv, PL := leadP (PL.set i x) i, FR := FR, n := C.n + 1, f := fun k' => if k' = x.k then some i else C.f k', held := C.held + (64 + (x.bs.length : Int)) }
theorem InvC.put {C : Cs} {ord : List Nat} (h : InvC C ord) {i : Nat} {pv fv : Value} {PL : List Pl} {FR : List Nat} (hv : Vac C i pv fv PL FR) (x : Pl) (hx : kyW x.k) (hf : C.f x.k = none) (hc : C.held + (64 + (x.bs.length : Int)) ≤ C.bud) :
    InvC (putC C i pv fv PL FR x) (i :: ord) ∧ (∀ j ∈ ord, hold (atP (putC C i pv fv PL FR x).PL j) = hold (atP C.PL j)) ∧ hold (atP (putC C i pv fv PL FR x).PL i) = hold x ∧ i < PL.length ∧ bOf (PL.set i x) 0 < PL.length ∧ PL.length ≤ 524288 := by
  have hlen := h.len
  have hge := costL_ge C.PL ord
  rw [← h.held] at hge
  have hbud := h.bud
  have hord : ord.length + 1 ≤ 262144 := by omega
  have nd := h.nd
  obtain ⟨hnd, hpl, hat⟩ : (0 :: (i :: ord ++ FR)).Nodup ∧ (PL.length = 1 + (ord.length + 1) + FR.length ∧ PL.length ≤ 524288) ∧ (∀ j ∈ 0 :: ord, atP PL j = atP C.PL j) ∧ (∀ j ∈ 0 :: (i :: ord ++ FR), j < PL.length) := by
    rcases hv with ⟨e1, rfl, rfl, rfl, _⟩ | ⟨e1, rfl, _⟩
    · rw [e1] at nd hlen
      rw [List.append_nil] at nd ⊢
      have hnot : ∀ j ∈ 0 :: ord, j < C.PL.length := fun j hj => h.lt j (by rw [e1, List.append_nil]; exact hj)
      have n0 := List.nodup_cons.1 nd
      simp only [List.length_nil] at hlen
      refine ⟨?_, ⟨by simp; omega, by simp; omega⟩, fun j hj => ?_, fun j hj => ?_⟩
      · rw [List.nodup_cons, List.nodup_cons]
        refine ⟨fun e => ?_, fun e => ?_, n0.2⟩
        · rcases List.mem_cons.1 e with e | e
          · omega
          · exact n0.1 e
        · have := hnot _ (List.mem_cons.2 (.inr e)); omega
      · unfold atP
        rw [List.getD_eq_getElem?_getD, List.getD_eq_getElem?_getD, List.getElem?_append_left (hnot j hj)]
      · simp only [List.length_append, List.length_cons, List.length_nil]
        rcases List.mem_cons.1 hj with rfl | hj
        · omega
        · rcases List.mem_cons.1 hj with rfl | hj
          · omega
          · have := hnot j (List.mem_cons.2 (.inr hj)); omega
    · have hp : (0 :: (ord ++ C.FR)).Perm (0 :: (i :: ord ++ FR)) := by
        rw [e1]
        refine List.Perm.cons 0 ?_
        rw [← List.append_assoc]
        exact List.perm_append_comm (l₁ := ord ++ FR) (l₂ := [i])
      refine ⟨hp.nodup_iff.1 nd, ⟨?_, h.small⟩, fun _ _ => rfl, fun j hj => h.lt j (hp.mem_iff.2 hj)⟩
      rw [hlen, e1]; simp; omega
  obtain ⟨hat, hlt⟩ := hat
  have ndi : (0 :: i :: ord).Nodup := by
    rw [List.nodup_cons] at hnd ⊢
    exact ⟨fun e => hnd.1 (by simp only [List.mem_append]; exact .inl e), (List.nodup_append.1 hnd.2).1⟩
  have n0 := List.nodup_cons.1 ndi
  have n1 := List.nodup_cons.1 n0.2
  have hi : i < PL.length := hlt i (by simp)
  have hne : ∀ j ∈ 0 :: ord, j ≠ i := fun j hj e => by
    subst e
    rcases List.mem_cons.1 hj with rfl | hj
    · exact n0.1 (by simp)
    · exact n1.1 hj
  have hat2 : ∀ j ∈ 0 :: ord, atP (PL.set i x) j = atP C.PL j := fun j hj => by rw [atP_set hi, if_neg (hne j hj), hat j hj]
  have p1 : PathL (bOf (PL.set i x)) (aOf (PL.set i x)) 0 ord 0 := h.path.keep (fun j hj => by unfold bOf; rw [hat2 j (List.mem_cons.2 hj)]) (fun j hj => by unfold aOf; rw [hat2 j (List.mem_cons.2 hj)])
  obtain ⟨pl, hb0⟩ := leadP_path p1 (fun j hj => by
    rw [List.length_set]
    refine hlt j ?_
    simp only [List.mem_cons, List.mem_append] at hj ⊢
    rcases hj with h | h | h <;> simp_all) ndi
  rw [List.length_set] at hb0
  have hho : ∀ j, hold (atP (putC C i pv fv PL FR x).PL j) = hold (atP (PL.set i x) j) := fun j => leadP_hold (by rw [List.length_set]; omega) (by rw [List.length_set]; exact hi) (by rw [List.length_set]; exact hb0) j
  have hho2 : ∀ j ∈ ord, hold (atP (putC C i pv fv PL FR x).PL j) = hold (atP C.PL j) := fun j hj => by rw [hho j, hat2 j (by simp [hj])]
  have hhi : hold (atP (putC C i pv fv PL FR x).PL i) = hold x := by rw [hho i, atP_set hi, if_pos rfl]
  have hki : (atP (putC C i pv fv PL FR x).PL i).k = x.k := by
    have := hhi
    simp only [hold, Prod.mk.injEq] at this
    exact this.1
  have hkj : ∀ j ∈ ord, (atP (putC C i pv fv PL FR x).PL j).k = (atP C.PL j).k := fun j hj => by
    have := hho2 j hj
    simp only [hold, Prod.mk.injEq] at this
    exact this.1
  have hlp : (putC C i pv fv PL FR x).PL.length = PL.length := by show (leadP _ _).length = _; rw [leadP_len, List.length_set]
  refine ⟨⟨hnd, fun j hj => by rw [hlp]; exact hlt j hj, ?_, by rw [hlp]; exact hpl.2, pl, ?_, ⟨by show C.held + _ ≤ _; omega, hbud.2⟩, ?_, ?_, ?_⟩, hho2, hhi, hi, hb0, hpl.2⟩
  · rw [hlp, hpl.1]
    show _ = 1 + (i :: ord).length + FR.length
    rw [List.length_cons]
  · show C.held + _ = _
    have e : (atP (putC C i pv fv PL FR x).PL i).bs = x.bs := by
      have := hhi
      simp only [hold, Prod.mk.injEq] at this
      exact this.2.2.2
    rw [costL, costL_same hho2, h.held, e]
    omega
  · show C.n + 1 = _
    rw [h.n]; rfl
  · intro k j
    show (if k = x.k then some i else C.f k) = some j ↔ _
    by_cases e : k = x.k
    · rw [if_pos e]
      constructor
      · intro h1; cases h1
        exact ⟨by simp, by rw [hki, e]⟩
      · rintro ⟨h1, h2⟩
        rcases List.mem_cons.1 h1 with rfl | h3
        · rfl
        · rw [hkj j h3] at h2
          have := (h.f k j).2 ⟨h3, h2⟩
          rw [e, hf] at this
          cases this
    · rw [if_neg e, h.f k j]
      constructor
      · rintro ⟨h1, h2⟩
        exact ⟨by simp [h1], by rw [hkj j h1]; exact h2⟩
      · rintro ⟨h1, h2⟩
        rcases List.mem_cons.1 h1 with rfl | h3
        · rw [hki] at h2
          exact absurd h2.symm e
        · exact ⟨h3, by rw [← hkj j h3]; exact h2⟩
  · intro j hj
    rcases List.mem_cons.1 hj with rfl | h3
    · rw [hki]; exact hx
    · rw [hkj j h3]; exact h.ky j h3
end Go.Proofs.Ytaaboochologaaa
