/- Part 7 of the proof: LrK, LrL, LrM. -/
import Derived.Test.YtaaboochologaaaM5LruDoes

namespace Go.Proofs.Ytaaboochologaaa
open Go Go.RowKit
set_option linter.unusedVariables false
set_option linter.unusedSimpArgs false
set_option linter.unusedSectionVars false
variable [Inhabited BanT]

abbrev En := Ky × Q × List Value
def ent (PL : List Pl) (i : Nat) : En := ((atP PL i).k, (atP PL i).bx, (atP PL i).bs)
def costE (e : En) : Int := 64 + (e.2.2.length : Int)
def sumE : List En → Int
  | [] => 0
  | e :: l => costE e + sumE l
theorem costE_pos (e : En) : 64 ≤ costE e := by unfold costE; omega
theorem sumE_nn : ∀ l, 0 ≤ sumE l
  | [] => by simp [sumE]
  | e :: l => by have := sumE_nn l; have := costE_pos e; simp only [sumE]; omega
theorem sumE_len : ∀ l : List En, 64 * (l.length : Int) ≤ sumE l
  | [] => by simp [sumE]
  | e :: l => by have := sumE_len l; have := costE_pos e; simp only [sumE, List.length_cons]; push_cast; omega
theorem costL_ent (PL : List Pl) : ∀ l, costL PL l = sumE (l.map (ent PL))
  | [] => rfl
  | i :: l => by rw [costL, costL_ent PL l]; rfl
/-- As many entries as there is room for. -/
def shrE : Int → List En → List En
  | _, [] => []
  | most, e :: l => if costE e ≤ most then e :: shrE (most - costE e) l else []
theorem shrE_fit : ∀ (l : List En) (most : Int), sumE l ≤ most → shrE most l = l
  | [], _, _ => rfl
  | e :: l, most, h => by
    have := sumE_nn l
    simp only [sumE] at h
    rw [shrE, if_pos (by omega), shrE_fit l _ (by omega)]
theorem shrE_snoc : ∀ (l : List En) (x : En) (most : Int), most < sumE (l ++ [x]) → shrE most (l ++ [x]) = shrE most l
  | [], x, most, h => by
    simp only [List.nil_append, sumE] at h
    have hx : ¬ costE x ≤ most := by omega
    simp [shrE, hx]
  | e :: l, x, most, h => by
    simp only [List.cons_append, sumE] at h
    rw [List.cons_append, shrE, shrE, shrE_snoc l x _ (by omega)]
theorem sumE_app : ∀ l m, sumE (l ++ m) = sumE l + sumE m
  | [], m => by simp [sumE]
  | e :: l, m => by simp only [List.cons_append, sumE, sumE_app l m]; omega
def heldN (p : Nat) (w : World) : Nat := match w.cell? ⟨p, 1, none⟩ with | some (.int _ x) => x.toNat | _ => 0
/-- The cache at p has these entries. -/
def LrS (W : World) (B p : Nat) (bud : Int) (L : List En) (C : Cs) : Prop := ∃ ord, Ca W B p C ord ∧ ord.map (ent C.PL) = L ∧ C.bud = bud
theorem ent_hold {PL PL' : List Pl} {i : Nat} (h : hold (atP PL' i) = hold (atP PL i)) : ent PL' i = ent PL i := by
  simp only [hold, Prod.mk.injEq] at h
  unfold ent
  rw [h.1, h.2.1, h.2.2.2]
theorem map_hold {PL PL' : List Pl} {l : List Nat} (h : ∀ j ∈ l, hold (atP PL' j) = hold (atP PL j)) : l.map (ent PL') = l.map (ent PL) := List.map_congr_left fun j hj => ent_hold (h j hj)
theorem LrS.below {W V : World} {B p : Nat} {bud : Int} {L : List En} {C : Cs} (h : LrS W B p bud L C) (b : Below W.heap.size W V) : LrS V B p bud L C := by
  obtain ⟨ord, h1, h2⟩ := h
  exact ⟨ord, h1.below b, h2⟩
theorem LrS.sum {W : World} {B p : Nat} {bud : Int} {L : List En} {C : Cs} (h : LrS W B p bud L C) : C.held = sumE L ∧ sumE L ≤ 16777216 ∧ 0 ≤ bud ∧ bud ≤ 16777216 ∧ C.n = L.length := by
  obtain ⟨ord, h1, rfl, rfl⟩ := h
  have := h1.i.bud
  rw [← costL_ent, ← h1.i.held, h1.i.n]
  simp
  omega
/-- What is left of the entries without key k. -/
def dropE (k : Ky) (L : List En) : List En := L.filter fun e => !decide (e.1 = k)
theorem dropE_no {k : Ky} {L : List En} (h : ∀ e ∈ L, e.1 ≠ k) : dropE k L = L := List.filter_eq_self.2 fun e he => by simp [h e he]
theorem InvC.key {C : Cs} {l m : List Nat} {i : Nat} (h : InvC C (l ++ i :: m)) : ∀ j ∈ l ++ m, (atP C.PL j).k ≠ (atP C.PL i).k := fun j hj e => by
  have hj' : j ∈ l ++ i :: m := by simp only [List.mem_append, List.mem_cons] at hj ⊢; rcases hj with h | h <;> simp_all
  have h1 := (h.f (atP C.PL i).k i).2 ⟨by simp, rfl⟩
  have h2 := (h.f (atP C.PL i).k j).2 ⟨hj', e⟩
  rw [h1] at h2
  cases h2
  have nd0 := List.nodup_cons.1 h.nd
  have ndo : (l ++ i :: m).Nodup := (List.nodup_append.1 nd0.2).1
  obtain ⟨nl, nim, nlm⟩ := List.nodup_append.1 ndo
  rcases List.mem_append.1 hj with hj | hj
  · exact nlm i hj i (by simp) rfl
  · exact (List.nodup_cons.1 nim).1 hj
theorem dropE_at {C : Cs} {l m : List Nat} {i : Nat} (h : InvC C (l ++ i :: m)) : dropE (atP C.PL i).k ((l ++ i :: m).map (ent C.PL)) = (l ++ m).map (ent C.PL) := by
  have hk := h.key
  have e1 : dropE (atP C.PL i).k (l.map (ent C.PL)) = l.map (ent C.PL) := dropE_no fun e he => by
    obtain ⟨j, hj, rfl⟩ := List.mem_map.1 he
    exact hk j (by simp [hj])
  have e2 : dropE (atP C.PL i).k (m.map (ent C.PL)) = m.map (ent C.PL) := dropE_no fun e he => by
    obtain ⟨j, hj, rfl⟩ := List.mem_map.1 he
    exact hk j (by simp [hj])
  unfold dropE at e1 e2 ⊢
  rw [List.map_append, List.map_cons, List.filter_append, List.filter_cons_of_neg (by simp [ent]), e1, e2, List.map_append]
theorem ca_remove (B p : Nat) (C : Cs) (l m : List Nat) (i : Nat) (w : World) (h : Ca w B p C (l ++ i :: m)) : Calls Try.prog 39 #[.pointer (some ⟨p, 0, none⟩), .int .i64 (i : Nat)] w fun e w' => ∃ C', e = .returned (.tuple #[]) ∧ Ca w' B p C' (l ++ m) ∧ (l ++ m).map (ent C'.PL) = (l ++ m).map (ent C.PL) ∧ C'.bud = C.bud ∧ ModC w w' p C C' := by
  obtain ⟨g, hrv, hb, hg, h8, hl⟩ := h.rows i (by simp)
  obtain ⟨ha, hbb⟩ := h.i.near (i := i) (by simp)
  have hbud := h.i.bud
  have hfr := h.i.fr
  have hge := costL_ge C.PL (l ++ i :: m)
  rw [← h.i.held] at hge
  refine (remove_any B p C i _ _ _ w h.v (h.i.lt i (by simp)) ha hbb (by have := h.i.small; omega) hrv hl (h.i.ky i (by simp)) (by rw [(h.i.f _ i).2 ⟨by simp, rfl⟩]; rfl) (by omega) (by omega) (by have := h.v.lt; have := h.v.lo; omega)).mono ?_
  rintro e w' ⟨fv, rfl, v, md⟩
  obtain ⟨hi, hho⟩ := h.i.out (i := i) fv
  exact ⟨_, rfl, ⟨v, hi, fun j hj => ((h.rows j (by simp only [List.mem_append, List.mem_cons] at hj ⊢; rcases hj with h | h <;> simp_all)).mod h.v md).hold (hho j hj)⟩, map_hold hho, rfl, md⟩
set_option maxRecDepth 100000 in
theorem shrink_any (B p : Nat) (bud most : Int) (L : List En) (C : Cs) (w : World) (h : LrS w B p bud L C) (hm : 0 ≤ most) : Calls Try.prog 37 #[.pointer (some ⟨p, 0, none⟩), .int .i64 most] w fun e w' => ∃ C', e = .returned (.tuple #[]) ∧ LrS w' B p bud (shrE most L) C' ∧ sumE (shrE most L) ≤ most ∧ ModC w w' p C C' := by
  have H := Lib.hid h
  clear h
  go_enter Try.func37, Try.ntmps37
  go_wp2
  go_loopw [] (fun wr => ∃ C' A, LrS wr B p bud A C' ∧ shrE most A = shrE most L ∧ ModC w wr p C C') (fun wr => heldN p wr)
  case atStart => exact ⟨C, L, H.out, rfl, ModC.refl _ _ _⟩
  case round =>
    obtain ⟨C1, A, hS, hsh, md⟩ := hrel
    have hsum := hS.sum
    obtain ⟨ord, hca, hent, hbud⟩ := hS
    have c1 := hca.v.blk.cell 1
    simp only [List.getElem?_toArray, List.getElem?_cons_succ, List.getElem?_cons_zero] at c1
    have hpl := hca.v.lt
    have HS := Lib.hid (And.intro hca (And.intro hent (And.intro hbud (And.intro hsh md))))
    have HSU := Lib.hid hsum
    clear md hsh
    by_cases hlt : most < C1.held
    · obtain ⟨g, c, hpv, hc, hg, pg, c3, hcell, hfr⟩ := hca.v.cells (by have := hca.i.fr; omega)
      have hne : ord ≠ [] := fun e => by
        subst e
        have := hca.i.held
        simp only [costL] at this
        omega
      obtain ⟨l, i, hl⟩ : ∃ l i, ord = l ++ [i] := by
        rcases List.eq_nil_or_concat ord with e | ⟨l, i, e⟩
        · exact absurd e hne
        · exact ⟨l, i, by rw [e, List.concat_eq_append]⟩
      have hal : aOf C1.PL 0 = i := by
        have := hca.i.path
        rw [hl] at this
        exact (this.split (m := [])).2.2
      have ca := hcell 0 9 _ (by have := hca.i.fr; omega) (by omega) rfl
      rw [show (atP C1.PL 0).a = i from hal, Nat.zero_mul, Nat.zero_add] at ca
      have CR := ca_remove B p C1 l [] i wr (hl ▸ hca)
      have h0 : 0 < C1.PL.length := by have := hca.i.fr; omega
      obtain ⟨n, hn⟩ : ∃ n, n = C1.PL.length := ⟨_, rfl⟩
      rw [← hn] at c3 hc h0
      have HL := Lib.hid hl
      have HCR := Lib.hid CR
      have HC1 := Lib.hid c1
      clear hca hent hbud hpv hcell hfr hne hal CR hn hl hsum hc
      go_wp2_with (go_at_call 39; refine (HCR.out).mono ?_; rintro e w1 ⟨C2, rfl, ca2, em2, hb2, md2⟩)
      go_roundw
      case rel =>
        obtain ⟨h1, h2, h3, h4, h5⟩ := HS.out
        refine ⟨C2, (l ++ []).map (ent C2.PL), ⟨_, ca2, rfl, hb2.trans h3⟩, ?_, h5.trans md2⟩
        rw [em2, ← h4, ← h2, HL.out, List.append_nil, List.map_append]
        refine (shrE_snoc _ _ _ ?_).symm
        have : (l.map (ent C1.PL) ++ [ent C1.PL i]) = A := by rw [← h2, HL.out, List.map_append]; rfl
        rw [this, ← HSU.out.1]
        exact hlt
      case measure =>
        have d1 := ca2.v.blk.cell 1
        simp only [List.getElem?_toArray, List.getElem?_cons_succ, List.getElem?_cons_zero] at d1
        have e2 : C2.held = sumE ((l ++ []).map (ent C2.PL)) := (show LrS w1 B p C2.bud _ C2 from ⟨_, ca2, rfl, rfl⟩).sum.1
        have e3 : C1.held = sumE (l.map (ent C1.PL)) + costE (ent C1.PL i) := by
          rw [HSU.out.1, ← HS.out.2.1, HL.out, List.map_append, sumE_app]
          simp [sumE]
        have hp := costE_pos (ent C1.PL i)
        have hn := sumE_nn (l.map (ent C1.PL))
        rw [em2, List.append_nil] at e2
        unfold heldN
        rw [d1, HC1.out]
        dsimp only
        omega
    · go_wp2
      obtain ⟨h1, h2, h3, h4, h5⟩ := HS.out
      have hfit : shrE most A = A := shrE_fit A most (by have := HSU.out.1; omega)
      refine bodyPost_end (results_none rfl _ _ _) rfl ⟨rfl, C1, ⟨ord, h1, ?_, h3⟩, ?_, h5⟩
      · rw [h2, ← h4, hfit]
      · rw [← h4, hfit]; have := HSU.out.1; omega
end Go.Proofs.Ytaaboochologaaa

namespace Go.Proofs.Ytaaboochologaaa
open Go Go.RowKit
set_option linter.unusedVariables false
set_option linter.unusedSimpArgs false
set_option linter.unusedSectionVars false
variable [Inhabited BanT]

theorem CaV.other {W : World} {B p : Nat} {C : Cs} (h : CaV W B p C) {g : Nat} {T : TypeId} {cs : Array Value} (hb : Blk W g T cs) (h1 : T ≠ 67) (h2 : 74 ≠ T) (h3 : 3 ≠ T) : g ∉ fpC p C := by
  simp only [fpC, List.mem_cons, List.mem_append, not_or]
  exact ⟨blk_neL hb h.blk h1, fun e => by subst e; exact h.map.ne hb rfl, own_ne h.pown hb h2, own_ne h.fown hb h3⟩
def isK (k : Ky) (e : En) : Bool := decide (e.1 = k)
def hasE (k : Ky) (L : List En) : Bool := L.any (isK k)
theorem has_none {C : Cs} {ord : List Nat} {k : Ky} (h : InvC C ord) (hf : C.f k = none) : ∀ e ∈ ord.map (ent C.PL), e.1 ≠ k := fun e he hk => by
  obtain ⟨j, hj, rfl⟩ := List.mem_map.1 he
  have := (h.f k j).2 ⟨hj, hk⟩
  rw [hf] at this
  cases this
theorem hasE_no {k : Ky} {L : List En} (h : ∀ e ∈ L, e.1 ≠ k) : hasE k L = false := by
  unfold hasE isK
  rw [List.any_eq_false]
  intro e he
  simp [h e he]
theorem hasE_yes {k : Ky} {L : List En} {e : En} (he : e ∈ L) (hk : e.1 = k) : hasE k L = true := by
  unfold hasE isK
  rw [List.any_eq_true]
  exact ⟨e, he, by simp [hk]⟩
set_option maxRecDepth 100000 in
theorem lrdrop_none (B p : Nat) (C : Cs) (k : Ky) (hk : kyW k) (w : World) (h : CaV w B p C) (hf : C.f k = none) : Calls Try.prog 20 #[.pointer (some ⟨p, 0, none⟩), .agg #[.int .i64 k.1, .int .i64 k.2.1, .int .i64 k.2.2.1, .int .i64 k.2.2.2]] w fun e w' => e = .returned (.bool false) ∧ Below w.heap.size w w' := by
  have B1 : Below w.heap.size w (w.alloc (.cells #[.int .i64 k.1, .int .i64 k.2.1, .int .i64 k.2.2.1, .int .i64 k.2.2.2] 39)) := below_a1 _ _
  have K := Blk.new w 39 #[.int .i64 k.1, .int .i64 k.2.1, .int .i64 k.2.2.1, .int .i64 k.2.2.2]
  have k0 := K.cell 0; have k1 := K.cell 1; have k2 := K.cell 2; have k3 := K.cell 3; have kl := K.lt; simp only [List.getElem?_toArray, List.getElem?_cons_succ, List.getElem?_cons_zero] at k0 k1 k2 k3
  have CF := find_any15 B p C k hk _ (h.below B1)
  rw [hf] at CF
  dsimp only [Option.getD_none, Option.isSome_none] at CF
  clear h hf K
  go_enter Try.func20, Try.ntmps20
  go_wp2_with (go_at_call 30; refine (CF).mono ?_; rintro e w1 ⟨rfl, b1⟩)
  exact bodyPost_ret (results_tmp rfl _ _ _) rfl ⟨rfl, B1.trans (b1.mono B1.size)⟩
set_option maxRecDepth 100000 in
theorem lrdrop_some (B p : Nat) (C : Cs) (l m : List Nat) (i : Nat) (k : Ky) (hk : kyW k) (w : World) (h : Ca w B p C (l ++ i :: m)) (hf : C.f k = some i) : Calls Try.prog 20 #[.pointer (some ⟨p, 0, none⟩), .agg #[.int .i64 k.1, .int .i64 k.2.1, .int .i64 k.2.2.1, .int .i64 k.2.2.2]] w fun e w' => ∃ C', e = .returned (.bool true) ∧ Ca w' B p C' (l ++ m) ∧ (l ++ m).map (ent C'.PL) = (l ++ m).map (ent C.PL) ∧ C'.bud = C.bud ∧ ModC w w' p C C' := by
  have B1 : Below w.heap.size w (w.alloc (.cells #[.int .i64 k.1, .int .i64 k.2.1, .int .i64 k.2.2.1, .int .i64 k.2.2.2] 39)) := below_a1 _ _
  have K := Blk.new w 39 #[.int .i64 k.1, .int .i64 k.2.1, .int .i64 k.2.2.1, .int .i64 k.2.2.2]
  have k0 := K.cell 0; have k1 := K.cell 1; have k2 := K.cell 2; have k3 := K.cell 3; have kl := K.lt; simp only [List.getElem?_toArray, List.getElem?_cons_succ, List.getElem?_cons_zero] at k0 k1 k2 k3
  have CF := find_any15 B p C k hk _ (h.v.below B1)
  rw [hf] at CF
  dsimp only [Option.getD_some, Option.isSome_some] at CF
  have HR := Lib.hid (fun W (hW : Below w.heap.size w W) => ca_remove B p C l m i W (h.below hW))
  clear h hf K
  go_enter Try.func20, Try.ntmps20
  go_wp2_with (first
    | (go_at_call 30; refine (CF).mono ?_; rintro e w1 ⟨rfl, b1⟩; have HB := Lib.hid (B1.trans (b1.mono B1.size)))
    | (go_at_call 39; refine (HR.out _ HB.out).mono ?_; rintro e w2 ⟨C2, rfl, c2, e2, u2, m2⟩))
  exact bodyPost_ret (results_tmp rfl _ _ _) rfl ⟨C2, rfl, c2, e2, u2, (ModC.below HB.out).trans m2⟩
theorem lrdrop_any (B p : Nat) (bud : Int) (L : List En) (C : Cs) (k : Ky) (hk : kyW k) (w : World) (h : LrS w B p bud L C) : Calls Try.prog 20 #[.pointer (some ⟨p, 0, none⟩), .agg #[.int .i64 k.1, .int .i64 k.2.1, .int .i64 k.2.2.1, .int .i64 k.2.2.2]] w fun e w' => ∃ C', e = .returned (.bool (hasE k L)) ∧ LrS w' B p bud (dropE k L) C' ∧ ModC w w' p C C' := by
  obtain ⟨ord, h1, rfl, rfl⟩ := h
  cases hf : C.f k with
  | none =>
    have hn := has_none h1.i hf
    rw [hasE_no hn, dropE_no hn]
    refine (lrdrop_none B p C k hk w h1.v hf).mono ?_
    rintro e w' ⟨rfl, b⟩
    exact ⟨C, rfl, ⟨ord, h1.below b, rfl, rfl⟩, ModC.below b⟩
  | some i =>
    obtain ⟨hi, hki⟩ := (h1.i.f k i).1 hf
    obtain ⟨l, m, rfl⟩ := List.append_of_mem hi
    have hd := dropE_at h1.i
    rw [hki] at hd
    rw [hasE_yes (e := ent C.PL i) (List.mem_map.2 ⟨i, hi, rfl⟩) hki, hd]
    refine (lrdrop_some B p C l m i k hk w h1 hf).mono ?_
    rintro e w' ⟨C2, rfl, c2, e2, u2, m2⟩
    exact ⟨C2, rfl, ⟨_, c2, e2, u2⟩, m2⟩
set_option maxRecDepth 100000 in
theorem lrget_none (B p : Nat) (C : Cs) (k : Ky) (hk : kyW k) (w : World) (h : CaV w B p C) (hf : C.f k = none) : Calls Try.prog 13 #[.pointer (some ⟨p, 0, none⟩), .agg #[.int .i64 k.1, .int .i64 k.2.1, .int .i64 k.2.2.1, .int .i64 k.2.2.2]] w fun e w' => e = .returned (.tuple #[.agg #[.int .i64 0, .int .i64 0, .int .i64 0, .int .i64 0, .slice none 0 0], .bool false]) ∧ Below w.heap.size w w' := by
  have B1 : Below w.heap.size w ((w.alloc (.cells #[.int .i64 k.1, .int .i64 k.2.1, .int .i64 k.2.2.1, .int .i64 k.2.2.2] 39)).alloc (.cells #[.int .i64 0, .int .i64 0, .int .i64 0, .int .i64 0, .slice none 0 0] 37)) := below_a2 _ _ _
  have K := (Blk.new w 39 #[.int .i64 k.1, .int .i64 k.2.1, .int .i64 k.2.2.1, .int .i64 k.2.2.2]).below (below_a1 _ (.cells #[.int .i64 0, .int .i64 0, .int .i64 0, .int .i64 0, .slice none 0 0] 37))
  have k0 := K.cell 0; have k1 := K.cell 1; have k2 := K.cell 2; have k3 := K.cell 3; have kl := K.lt; simp only [List.getElem?_toArray, List.getElem?_cons_succ, List.getElem?_cons_zero] at k0 k1 k2 k3
  have R := Blk.new (w.alloc (.cells #[.int .i64 k.1, .int .i64 k.2.1, .int .i64 k.2.2.1, .int .i64 k.2.2.2] 39)) 37 #[.int .i64 0, .int .i64 0, .int .i64 0, .int .i64 0, .slice none 0 0]
  rw [World.size_alloc] at R
  have CF := find_any15 B p C k hk _ (h.below B1)
  rw [hf] at CF
  dsimp only [Option.getD_none, Option.isSome_none] at CF
  have HR := Lib.hid R
  clear h hf K R
  go_enter Try.func13, Try.ntmps13
  go_wp2_with (first
    | (go_at_call 30; refine (CF).mono ?_; rintro e w1 ⟨rfl, b1⟩; have HR1 := Lib.hid (HR.out.below b1))
    | (refine wpList_store_row rfl 37 (.tmp 4) (.tmp 16) (by with_reducible rfl) (w.heap.size + 1) #[.int .i64 0, .int .i64 0, .int .i64 0, .int .i64 0, .slice none 0 0] (by rfl) (by rfl) 37 #[.int .i64 0, .int .i64 0, .int .i64 0, .int .i64 0, .slice none 0 0] (by exact HR1.out) (by kernel_rfl) rfl (by simp [Value.oneCell']) ?_))
  refine bodyPost_ret (results_row_tmp Try.results13 _ _ (w.heap.size + 1) 37 #[.int .i64 0, .int .i64 0, .int .i64 0, .int .i64 0, .slice none 0 0] (0, 0) _ (.bool false) (by rfl) (by rfl) (show Blk _ _ _ _ from blk_row HR1.out _) Try.underlying37 rfl mkInfoL) rfl ⟨rfl, ?_⟩
  have o9 := only_row (g := w.heap.size + 1) (Only.of_below (B1.trans (b1.mono B1.size)) []) (.inr (by omega)) #[.int .i64 0, .int .i64 0, .int .i64 0, .int .i64 0, .slice none 0 0]
  exact o9.nil_below
theorem lrget_nil (k : Ky) (w : World) : Calls Try.prog 13 #[.pointer none, .agg #[.int .i64 k.1, .int .i64 k.2.1, .int .i64 k.2.2.1, .int .i64 k.2.2.2]] w fun e w' => e = .returned (.tuple #[.agg #[.int .i64 0, .int .i64 0, .int .i64 0, .int .i64 0, .slice none 0 0], .bool false]) ∧ Below w.heap.size w w' := by
  have B1 : Below w.heap.size w ((w.alloc (.cells #[.int .i64 k.1, .int .i64 k.2.1, .int .i64 k.2.2.1, .int .i64 k.2.2.2] 39)).alloc (.cells #[.int .i64 0, .int .i64 0, .int .i64 0, .int .i64 0, .slice none 0 0] 37)) := below_a2 _ _ _
  have K := (Blk.new w 39 #[.int .i64 k.1, .int .i64 k.2.1, .int .i64 k.2.2.1, .int .i64 k.2.2.2]).below (below_a1 _ (.cells #[.int .i64 0, .int .i64 0, .int .i64 0, .int .i64 0, .slice none 0 0] 37))
  have k0 := K.cell 0; have k1 := K.cell 1; have k2 := K.cell 2; have k3 := K.cell 3; have kl := K.lt; simp only [List.getElem?_toArray, List.getElem?_cons_succ, List.getElem?_cons_zero] at k0 k1 k2 k3
  have R := Blk.new (w.alloc (.cells #[.int .i64 k.1, .int .i64 k.2.1, .int .i64 k.2.2.1, .int .i64 k.2.2.2] 39)) 37 #[.int .i64 0, .int .i64 0, .int .i64 0, .int .i64 0, .slice none 0 0]
  rw [World.size_alloc] at R
  have CF := fun W => find_nil k W
  have HR := Lib.hid R
  clear K R
  go_enter Try.func13, Try.ntmps13
  go_wp2_with (first
    | (go_at_call 30; refine (CF _).mono ?_; rintro e w1 ⟨rfl, b1⟩; have HR1 := Lib.hid (HR.out.below b1))
    | (refine wpList_store_row rfl 37 (.tmp 4) (.tmp 16) (by with_reducible rfl) (w.heap.size + 1) #[.int .i64 0, .int .i64 0, .int .i64 0, .int .i64 0, .slice none 0 0] (by rfl) (by rfl) 37 #[.int .i64 0, .int .i64 0, .int .i64 0, .int .i64 0, .slice none 0 0] (by exact HR1.out) (by kernel_rfl) rfl (by simp [Value.oneCell']) ?_))
  refine bodyPost_ret (results_row_tmp Try.results13 _ _ (w.heap.size + 1) 37 #[.int .i64 0, .int .i64 0, .int .i64 0, .int .i64 0, .slice none 0 0] (0, 0) _ (.bool false) (by rfl) (by rfl) (show Blk _ _ _ _ from blk_row HR1.out _) Try.underlying37 rfl mkInfoL) rfl ⟨rfl, ?_⟩
  have o9 := only_row (g := w.heap.size + 1) (Only.of_below (B1.trans (b1.mono B1.size)) []) (.inr (by omega)) #[.int .i64 0, .int .i64 0, .int .i64 0, .int .i64 0, .slice none 0 0]
  exact o9.nil_below
theorem lrdrop_nil (k : Ky) (w : World) : Calls Try.prog 20 #[.pointer none, .agg #[.int .i64 k.1, .int .i64 k.2.1, .int .i64 k.2.2.1, .int .i64 k.2.2.2]] w fun e w' => e = .returned (.bool false) ∧ Below w.heap.size w w' := by
  have B1 : Below w.heap.size w (w.alloc (.cells #[.int .i64 k.1, .int .i64 k.2.1, .int .i64 k.2.2.1, .int .i64 k.2.2.2] 39)) := below_a1 _ _
  have K := Blk.new w 39 #[.int .i64 k.1, .int .i64 k.2.1, .int .i64 k.2.2.1, .int .i64 k.2.2.2]
  have k0 := K.cell 0; have k1 := K.cell 1; have k2 := K.cell 2; have k3 := K.cell 3; have kl := K.lt; simp only [List.getElem?_toArray, List.getElem?_cons_succ, List.getElem?_cons_zero] at k0 k1 k2 k3
  have CF := fun W => find_nil k W
  clear K
  go_enter Try.func20, Try.ntmps20
  go_wp2_with (go_at_call 30; refine (CF _).mono ?_; rintro e w1 ⟨rfl, b1⟩)
  exact bodyPost_ret (results_tmp rfl _ _ _) rfl ⟨rfl, B1.trans (b1.mono B1.size)⟩
theorem lists_blkL {w : World} {g : Nat} {T : TypeId} {M : List Value} (h : Blk w g T M.toArray) : Lists w w.heap.size (some ⟨g, 0, none⟩) M :=
  ⟨fun ha => (nomatch ha), fun a ha j u hu => by
    cases ha
    rw [addr_plain, Nat.zero_add, h.cell, List.getElem?_toArray]; exact hu, fun a ha _ => by cases ha; exact h.lt⟩
set_option maxRecDepth 100000 in
theorem lrget_some (B p : Nat) (C : Cs) (l m : List Nat) (i : Nat) (k : Ky) (hk : kyW k) (w : World) (h : Ca w B p C (l ++ i :: m)) (hf : C.f k = some i) (A : Q) (M : List Value) (hA : A = (atP C.PL i).bx) (hM : M = (atP C.PL i).bs) : Calls Try.prog 13 #[.pointer (some ⟨p, 0, none⟩), .agg #[.int .i64 k.1, .int .i64 k.2.1, .int .i64 k.2.2.1, .int .i64 k.2.2.2]] w fun e w' => ∃ g, e = .returned (.tuple #[.agg #[.int .i64 A.x0, .int .i64 A.y0, .int .i64 A.x1, .int .i64 A.y1, .slice (some ⟨g, 0, none⟩) M.length M.length], .bool true]) ∧ Blk w' g 5 M.toArray ∧ w.heap.size ≤ g ∧ Ca w' B p (getC C i) (i :: (l ++ m)) ∧ ModC w w' p C (getC C i) := by
  have B1 : Below w.heap.size w ((w.alloc (.cells #[.int .i64 k.1, .int .i64 k.2.1, .int .i64 k.2.2.1, .int .i64 k.2.2.2] 39)).alloc (.cells #[.int .i64 0, .int .i64 0, .int .i64 0, .int .i64 0, .slice none 0 0] 37)) := below_a2 _ _ _
  have K := (Blk.new w 39 #[.int .i64 k.1, .int .i64 k.2.1, .int .i64 k.2.2.1, .int .i64 k.2.2.2]).below (below_a1 _ (.cells #[.int .i64 0, .int .i64 0, .int .i64 0, .int .i64 0, .slice none 0 0] 37))
  have k0 := K.cell 0; have k1 := K.cell 1; have k2 := K.cell 2; have k3 := K.cell 3; have kl := K.lt; simp only [List.getElem?_toArray, List.getElem?_cons_succ, List.getElem?_cons_zero] at k0 k1 k2 k3
  have R := Blk.new (w.alloc (.cells #[.int .i64 k.1, .int .i64 k.2.1, .int .i64 k.2.2.1, .int .i64 k.2.2.2] 39)) 37 #[.int .i64 0, .int .i64 0, .int .i64 0, .int .i64 0, .slice none 0 0]
  rw [World.size_alloc] at R
  have CF := find_any15 B p C k hk _ (h.v.below B1)
  rw [hf] at CF
  dsimp only [Option.getD_some, Option.isSome_some] at CF
  have hi := h.i.lt i (by simp)
  obtain ⟨ha, hb⟩ := h.i.near (i := i) (by simp)
  have hsm := h.i.small
  obtain ⟨ig, hho, hb0⟩ := h.i.get
  have HU := Lib.hid (fun W (hW : Below w.heap.size w W) => unlink_any B p C i W (h.v.below hW) hi ha hb (by omega))
  have HLd := Lib.hid (fun W (hW : CaV W B p { C with PL := lnk C.PL (aOf C.PL i) (bOf C.PL i) }) => lead_any B p { C with PL := lnk C.PL (aOf C.PL i) (bOf C.PL i) } i W hW (by dsimp only; rw [lnk_len]; exact hi) (by dsimp only; rw [lnk_len]; exact hb0) (by dsimp only; rw [lnk_len]; omega))
  obtain ⟨g, hrv, hgb, hgB, h8, hml⟩ := h.rows i (by simp)
  rw [← hM] at hrv hgb h8 hml
  have hli : i < (getC C i).PL.length := by show i < (leadP _ i).length; rw [leadP_len, lnk_len]; exact hi
  have hxi := hho i
  simp only [hold, Prod.mk.injEq] at hxi
  obtain ⟨_, xbx, xrv, _⟩ := hxi
  rw [← hA] at xbx
  rw [hrv] at xrv
  have H := Lib.hid (And.intro h (And.intro ig hho))
  have HR := Lib.hid R
  have HG := Lib.hid (And.intro hgb h8)
  have HX := Lib.hid (And.intro hli (And.intro xbx xrv))
  clear h hf K R ha hb hsm hb0 ig hho hrv hgb hgB h8 hA hM hi
  go_enter Try.func13, Try.ntmps13
  go_upto_region 6 with (first
    | (go_at_call 30; refine (CF).mono ?_; rintro e w1 ⟨rfl, b1⟩; have HB := Lib.hid (B1.trans (b1.mono B1.size)); have HR1 := Lib.hid (HR.out.below b1))
    | (go_at_call 31; refine (HU.out _ HB.out).mono ?_; rintro e w2 ⟨rfl, v2, m2⟩)
    | (go_at_call 32; refine (HLd.out _ v2).mono ?_; rintro e w3 ⟨rfl, v3, m3⟩))
  have v3' : CaV w3 B p (getC C i) := v3
  have mm : ModC w w3 p C (getC C i) := ((ModC.below HB.out).trans m2).trans m3
  have v1 := H.out.1.v.below HB.out
  have R3 := (HR1.out.only m2.1 (v1.other HR1.out (by decide) (by decide) (by decide))).only m3.1 (v2.other (HR1.out.only m2.1 (v1.other HR1.out (by decide) (by decide) (by decide))) (by decide) (by decide) (by decide))
  have G3 := HG.out.1.only mm.1 (H.out.1.v.u8 HG.out.1)
  obtain ⟨g3, c3, hpv3, hc3, hg3, pg3, cc3, hcell3, hfr3⟩ := v3'.cells (by have := HX.out.1; omega)
  have hr : w3.rangeAt g3 (i * 11 + 4) #[.int .i64 A.x0, .int .i64 A.y0, .int .i64 A.x1, .int .i64 A.y1, .slice (some ⟨g, 0, none⟩) M.length M.length].toList := fun j v hv => by
    have hj : j < 5 := by have := (List.getElem?_eq_some_iff.1 hv).1; simpa using this
    rw [Nat.add_assoc]
    refine hcell3 i (4 + j) v HX.out.1 (by omega) ?_
    rw [← hv]
    have e1 := HX.out.2.1
    have e2 := HX.out.2.2
    unfold plL
    rw [e1, e2]
    match j, hj with
    | 0, _ => rfl
    | 1, _ => rfl
    | 2, _ => rfl
    | 3, _ => rfl
    | 4, _ => rfl
  have hp3 := v3'.lt
  have CC := lrcopy_any A (some ⟨g, 0, none⟩) M.length M.length M w3 (lists_blkL G3) HG.out.2 rfl hml
  obtain ⟨n, hn⟩ : ∃ n, n = (getC C i).PL.length := ⟨_, rfl⟩
  have hin : i < n := by rw [hn]; exact HX.out.1
  rw [← hn] at cc3 hc3
  have HV := Lib.hid (And.intro v3' (And.intro mm R3))
  clear v3' v3 v2 v1 m2 m3 mm R3 G3 hcell3 hfr3 hpv3 hn
  go_wp2_with (first
    | (refine wpList_load_mid rfl 37 (.tmp 29) (by with_reducible rfl) g3 (i * 11 + 4) (by rfl) #[.int .i64 A.x0, .int .i64 A.y0, .int .i64 A.x1, .int .i64 A.y1, .slice (some ⟨g, 0, none⟩) M.length M.length].toList _ hr Try.underlying37 rfl mkInfoL ?_)
    | (go_at_call 33; refine (CC).mono ?_; rintro e w4 ⟨g4, rfl, gb4, gs4, b4⟩; have HR4 := Lib.hid (HV.out.2.2.below b4))
    | (refine wpList_store_row rfl 37 (.tmp 4) (.tmp 31) (by with_reducible rfl) (w.heap.size + 1) #[.int .i64 A.x0, .int .i64 A.y0, .int .i64 A.x1, .int .i64 A.y1, .slice (some ⟨g4, 0, none⟩) M.length M.length] (by rfl) (by rfl) 37 #[.int .i64 0, .int .i64 0, .int .i64 0, .int .i64 0, .slice none 0 0] (by exact HR4.out) mkInfoL rfl (by simp [Value.oneCell']) ?_))
  have hsz := HV.out.2.1.1.size
  have hR3 := HV.out.2.2.lt
  have o9 : Only w4 (w4.setRow (w.heap.size + 1) #[.int .i64 A.x0, .int .i64 A.y0, .int .i64 A.x1, .int .i64 A.y1, .slice (some ⟨g4, 0, none⟩) M.length M.length]) [w.heap.size + 1] := only_row (Only.refl _ _) (.inl (by simp)) _
  have v4 := HV.out.1.below b4
  have m4 := HV.out.2.1.trans (ModC.below (C := getC C i) b4)
  have v5 := v4.only o9 (fun b hb hm => by simp at hm; subst hm; exact v4.other HR4.out (by decide) (by decide) (by decide) hb)
  have m5 : ModC w (w4.setRow (w.heap.size + 1) #[.int .i64 A.x0, .int .i64 A.y0, .int .i64 A.x1, .int .i64 A.y1, .slice (some ⟨g4, 0, none⟩) M.length M.length]) p C (getC C i) := ⟨m4.1.trans o9 (fun b hb => .inr (by simp at hb; omega)), m4.2⟩
  refine bodyPost_ret (results_row_tmp Try.results13 _ _ (w.heap.size + 1) 37 #[.int .i64 A.x0, .int .i64 A.y0, .int .i64 A.x1, .int .i64 A.y1, .slice (some ⟨g4, 0, none⟩) M.length M.length] (0, 0) _ (.bool true) (by rfl) (by rfl) (show Blk _ _ _ _ from blk_row HR4.out _) Try.underlying37 rfl mkInfoL) rfl ⟨g4, rfl, gb4.only o9 (by simp; omega), by omega, ⟨v5, H.out.2.1, fun j hj => ?_⟩, m5⟩
  refine ((H.out.1.rows j ?_).mod H.out.1.v m5).hold (H.out.2.2 j)
  exact (List.perm_middle (a := i) (l₁ := l) (l₂ := m)).mem_iff.2 hj
end Go.Proofs.Ytaaboochologaaa

namespace Go.Proofs.Ytaaboochologaaa
open Go Go.RowKit
set_option linter.unusedVariables false
set_option linter.unusedSimpArgs false
set_option linter.unusedSectionVars false
variable [Inhabited BanT]

/-- The key's block and the mask's. -/
def KM (W : World) (q : Nat) (k : Ky) (A : Q) (Am : Option Addr) (n c : Nat) : Prop := Blk W q 39 #[.int .i64 k.1, .int .i64 k.2.1, .int .i64 k.2.2.1, .int .i64 k.2.2.2] ∧ Blk W (q + 1) 37 #[.int .i64 A.x0, .int .i64 A.y0, .int .i64 A.x1, .int .i64 A.y1, .slice Am n c]
theorem KM.below {W V : World} {q : Nat} {k : Ky} {A : Q} {Am : Option Addr} {n c : Nat} (h : KM W q k A Am n c) (b : Below W.heap.size W V) : KM V q k A Am n c := ⟨h.1.below b, h.2.below b⟩
theorem KM.mod {W V : World} {B p q : Nat} {C C' : Cs} {k : Ky} {A : Q} {Am : Option Addr} {n c : Nat} (h : KM W q k A Am n c) (hv : CaV W B p C) (o : ModC W V p C C') : KM V q k A Am n c := ⟨h.1.only o.1 (hv.other h.1 (by decide) (by decide) (by decide)), h.2.only o.1 (hv.other h.2 (by decide) (by decide) (by decide))⟩
theorem KM.cells {W : World} {q : Nat} {k : Ky} {A : Q} {Am : Option Addr} {n c : Nat} (h : KM W q k A Am n c) (V : World) (hV : Below W.heap.size W V) : V.cell? ⟨q, 0, none⟩ = some (.int .i64 k.1) ∧ V.cell? ⟨q, 1, none⟩ = some (.int .i64 k.2.1) ∧ V.cell? ⟨q, 2, none⟩ = some (.int .i64 k.2.2.1) ∧ V.cell? ⟨q, 3, none⟩ = some (.int .i64 k.2.2.2) ∧ V.cell? ⟨q + 1, 0, none⟩ = some (.int .i64 A.x0) ∧ V.cell? ⟨q + 1, 1, none⟩ = some (.int .i64 A.y0) ∧ V.cell? ⟨q + 1, 2, none⟩ = some (.int .i64 A.x1) ∧ V.cell? ⟨q + 1, 3, none⟩ = some (.int .i64 A.y1) ∧ V.cell? ⟨q + 1, 4, none⟩ = some (.slice Am n c) ∧ q < V.heap.size ∧ q + 1 < V.heap.size := by
  have hh := h.below hV
  have a := hh.1
  have b := hh.2
  have k0 := a.cell 0; have k1 := a.cell 1; have k2 := a.cell 2; have k3 := a.cell 3; have kl := a.lt; simp only [List.getElem?_toArray, List.getElem?_cons_succ, List.getElem?_cons_zero] at k0 k1 k2 k3
  have m0 := b.cell 0; have m1 := b.cell 1; have m2 := b.cell 2; have m3 := b.cell 3; have m4 := b.cell 4; have ml := b.lt; simp only [List.getElem?_toArray, List.getElem?_cons_succ, List.getElem?_cons_zero] at m0 m1 m2 m3 m4
  exact ⟨k0, k1, k2, k3, m0, m1, m2, m3, m4, kl, ml⟩
theorem KM.made (w : World) (k : Ky) (A : Q) (Am : Option Addr) (n c : Nat) : KM ((w.alloc (.cells #[.int .i64 k.1, .int .i64 k.2.1, .int .i64 k.2.2.1, .int .i64 k.2.2.2] 39)).alloc (.cells #[.int .i64 A.x0, .int .i64 A.y0, .int .i64 A.x1, .int .i64 A.y1, .slice Am n c] 37)) w.heap.size k A Am n c := ⟨(Blk.new w 39 #[.int .i64 k.1, .int .i64 k.2.1, .int .i64 k.2.2.1, .int .i64 k.2.2.2]).below (below_a1 _ (.cells #[.int .i64 A.x0, .int .i64 A.y0, .int .i64 A.x1, .int .i64 A.y1, .slice Am n c] 37)), by
  have := Blk.new (w.alloc (.cells #[.int .i64 k.1, .int .i64 k.2.1, .int .i64 k.2.2.1, .int .i64 k.2.2.2] 39)) 37 #[.int .i64 A.x0, .int .i64 A.y0, .int .i64 A.x1, .int .i64 A.y1, .slice Am n c]
  rw [World.size_alloc] at this
  exact this⟩
theorem lrput_nil (k : Ky) (A : Q) (Am : Option Addr) (n c : Nat) (w : World) : Calls Try.prog 16 #[.pointer none, .agg #[.int .i64 k.1, .int .i64 k.2.1, .int .i64 k.2.2.1, .int .i64 k.2.2.2], .agg #[.int .i64 A.x0, .int .i64 A.y0, .int .i64 A.x1, .int .i64 A.y1, .slice Am n c]] w fun e w' => e = .returned (.tuple #[.bool false, .int .i64 6]) ∧ Below w.heap.size w w' := by
  have B1 : Below w.heap.size w ((w.alloc (.cells #[.int .i64 k.1, .int .i64 k.2.1, .int .i64 k.2.2.1, .int .i64 k.2.2.2] 39)).alloc (.cells #[.int .i64 A.x0, .int .i64 A.y0, .int .i64 A.x1, .int .i64 A.y1, .slice Am n c] 37)) := below_a2 _ _ _
  go_enter Try.func16, Try.ntmps16
  go_wp2
  exact bodyPost_ret (results_tmp2 rfl _ _ _) rfl ⟨rfl, B1⟩
set_option maxRecDepth 100000 in
theorem lrput_bad (k : Ky) (p : Nat) (A : Q) (Am : Option Addr) (n c : Nat) (hc : chkB A n = false) (w : World) : Calls Try.prog 16 #[.pointer (some ⟨p, 0, none⟩), .agg #[.int .i64 k.1, .int .i64 k.2.1, .int .i64 k.2.2.1, .int .i64 k.2.2.2], .agg #[.int .i64 A.x0, .int .i64 A.y0, .int .i64 A.x1, .int .i64 A.y1, .slice Am n c]] w fun e w' => e = .returned (.tuple #[.bool false, .int .i64 220]) ∧ Below w.heap.size w w' := by
  have B1 : Below w.heap.size w ((w.alloc (.cells #[.int .i64 k.1, .int .i64 k.2.1, .int .i64 k.2.2.1, .int .i64 k.2.2.2] 39)).alloc (.cells #[.int .i64 A.x0, .int .i64 A.y0, .int .i64 A.x1, .int .i64 A.y1, .slice Am n c] 37)) := below_a2 _ _ _
  have HK := Lib.hid (KM.made w k A Am n c)
  have CC := fun W => ckmask_any A Am n c W
  rw [show chkC A n = 220 by unfold chkC; rw [hc]; rfl] at CC
  obtain ⟨wa, hwa⟩ : ∃ wa, wa = (w.alloc (.cells #[.int .i64 k.1, .int .i64 k.2.1, .int .i64 k.2.2.1, .int .i64 k.2.2.2] 39)).alloc (.cells #[.int .i64 A.x0, .int .i64 A.y0, .int .i64 A.x1, .int .i64 A.y1, .slice Am n c] 37) := ⟨_, rfl⟩
  rw [← hwa] at HK B1
  obtain ⟨k0, k1, k2, k3, m0, m1, m2, m3, m4, l1, l2⟩ := HK.out.cells wa (Below.refl _ _)
  have HWA := Lib.hid hwa
  clear hwa
  go_enter Try.func16, Try.ntmps16
  go_upto_region 3 with fail
  rw [← HWA.out]
  go_wp2_with (go_at_call 35; refine (CC _).mono ?_; rintro e w1 ⟨rfl, b1⟩)
  exact bodyPost_ret (results_tmp2 rfl _ _ _) rfl ⟨rfl, B1.trans (b1.mono B1.size)⟩
theorem LrS.v {W : World} {B p : Nat} {bud : Int} {L : List En} {C : Cs} (h : LrS W B p bud L C) : CaV W B p C := by obtain ⟨ord, h1, _⟩ := h; exact h1.v
theorem LrS.bud0 {W : World} {B p : Nat} {bud : Int} {L : List En} {C : Cs} (h : LrS W B p bud L C) : W.cell? ⟨p, 0, none⟩ = some (.int .i64 bud) := by
  obtain ⟨ord, h1, _, h2⟩ := h
  have := h1.v.blk.cell 0
  rw [h2] at this
  exact this
set_option maxRecDepth 100000 in
theorem lrput_large (B p : Nat) (bud : Int) (L : List En) (C : Cs) (k : Ky) (hk : kyW k) (A : Q) (Am : Option Addr) (n c : Nat) (M : List Value) (w : World) (h : LrS w B p bud L C) (hck : chkB A n = true) (hn : n ≤ 16777216) (hg : bud < 64 + (n : Int)) : Calls Try.prog 16 #[.pointer (some ⟨p, 0, none⟩), .agg #[.int .i64 k.1, .int .i64 k.2.1, .int .i64 k.2.2.1, .int .i64 k.2.2.2], .agg #[.int .i64 A.x0, .int .i64 A.y0, .int .i64 A.x1, .int .i64 A.y1, .slice Am n c]] w fun e w' => ∃ C', e = .returned (.tuple #[.bool false, .int .i64 0]) ∧ LrS w' B p bud (dropE k L) C' ∧ ModC w w' p C C' := by
  have HN := Lib.hid (show n ≤ 16777216 from hn)
  have B1 : Below w.heap.size w ((w.alloc (.cells #[.int .i64 k.1, .int .i64 k.2.1, .int .i64 k.2.2.1, .int .i64 k.2.2.2] 39)).alloc (.cells #[.int .i64 A.x0, .int .i64 A.y0, .int .i64 A.x1, .int .i64 A.y1, .slice Am n c] 37)) := below_a2 _ _ _
  have HK := Lib.hid (KM.made w k A Am n c)
  have CC := fun W => ckmask_any A Am n c W
  rw [show chkC A n = 0 by unfold chkC; rw [hck]; rfl] at CC
  obtain ⟨wa, hwa⟩ : ∃ wa, wa = (w.alloc (.cells #[.int .i64 k.1, .int .i64 k.2.1, .int .i64 k.2.2.1, .int .i64 k.2.2.2] 39)).alloc (.cells #[.int .i64 A.x0, .int .i64 A.y0, .int .i64 A.x1, .int .i64 A.y1, .slice Am n c] 37) := ⟨_, rfl⟩
  rw [← hwa] at HK B1
  obtain ⟨k0, k1, k2, k3, m0, m1, m2, m3, m4, l1, l2⟩ := HK.out.cells wa (Below.refl _ _)
  have HWA := Lib.hid hwa
  have H := Lib.hid h
  have HD0 := Lib.hid (fun W (hW : Below w.heap.size w W) => lrdrop_any B p bud L C k hk W (h.below hW))
  have HCK := Lib.hid hck
  clear hwa h hck
  go_enter Try.func16, Try.ntmps16
  go_upto_region 3 with fail
  rw [← HWA.out]
  go_upto_region 7 with (first
    | (go_at_call 35; refine (CC _).mono ?_; rintro e w1 ⟨rfl, b1⟩; have HB1 := Lib.hid (B1.trans (b1.mono B1.size)); have HK1 := Lib.hid (HK.out.below b1); obtain ⟨k0, k1, k2, k3, m0, m1, m2, m3, m4, l1, l2⟩ := HK1.out.cells w1 (Below.refl _ _))
    | (go_at_call 20; refine (HD0.out _ HB1.out).mono ?_; rintro e w2 ⟨C1, rfl, s1, md⟩))
  have hv1 := H.out.v.below HB1.out
  have HK2 := Lib.hid (HK1.out.mod hv1 md)
  have HM2 := Lib.hid ((ModC.below (C := C) HB1.out).trans md)
  have HS1 := Lib.hid s1
  have hpl := s1.v.lt
  have c0 := s1.bud0
  clear s1 md k0 k1 k2 k3 m0 m1 m2 m3 m4 l1 l2 hv1 b1
  have hI : Below w2.heap.size w2 w2.drew := (Below.refl _ _).drew
  have HD2 := Lib.hid (fun (V : World) (hV : Below w2.heap.size w2 V) => And.intro ((hV.cell (p := ⟨p, 0, none⟩) hpl).trans c0) (And.intro (Nat.lt_of_lt_of_le hpl hV.size) (HK2.out.cells V hV)))
  have COs := fun W => lrcost_any A Am n c (by have := HN.out; omega) W
  clear hpl c0
  refine wp_region_chain (fun V => Below w2.heap.size w2 V) [(0, false), (2, false), (3, false), (4, false), (5, false), (1, true), (6, false)] (by kernel_rfl) (by kernel_rfl) hI ?_
  repeat (first
    | (refine ChainL.skip (o := ?_) ?_ ?_ ?_; rotate_left; (focus (first | (simp only [List.getElem?_toArray, List.getElem?_cons_succ, List.getElem?_cons_zero]; with_reducible rfl) | (simp only [List.getElem?_toArray, List.getElem?_cons_zero]; with_reducible rfl))); (focus rfl); simp only [Act.put, List.setIfInBounds_toArray, List.set_cons_zero, List.set_cons_succ])
    | (refine ChainL.val (o := ?_) (v := ?_) ?_ ?_ ?_ ?_ ?_; rotate_left 2; (focus (first | (simp only [List.getElem?_toArray, List.getElem?_cons_succ, List.getElem?_cons_zero]; with_reducible rfl) | (simp only [List.getElem?_toArray, List.getElem?_cons_zero]; with_reducible rfl))); (focus (intro _ _ h; cases h)); (focus rfl); (focus (intro w' hI; obtain ⟨c0, lp, k0, k1, k2, k3, m0, m1, m2, m3, m4, l1, l2⟩ := HD2.out _ hI; go_simp <;> with_reducible rfl)); simp only [Act.put, List.setIfInBounds_toArray, List.set_cons_zero, List.set_cons_succ]))
  refine ChainL.call (o := ?_) (f := ?_) (args := ?_) ?_ ?_ ?_ ?_
  rotate_left 3
  (focus (first | (simp only [List.getElem?_toArray, List.getElem?_cons_succ, List.getElem?_cons_zero]; with_reducible rfl) | (simp only [List.getElem?_toArray, List.getElem?_cons_zero]; with_reducible rfl)))
  (focus rfl)
  (focus (go_simp; (constructor <;> with_reducible rfl)))
  with_reducible refine (COs _).mono ?_
  rintro e w3 ⟨rfl, b3⟩
  have bb : Below w2.heap.size w2 w3 := hI.trans (b3.mono hI.size)
  refine ⟨_, rfl, bb, ?_⟩
  simp only [Act.put, List.setIfInBounds_toArray, List.set_cons_zero, List.set_cons_succ]
  repeat (first
    | (refine ChainL.skip (o := ?_) ?_ ?_ ?_; rotate_left; (focus (first | (simp only [List.getElem?_toArray, List.getElem?_cons_succ, List.getElem?_cons_zero]; with_reducible rfl) | (simp only [List.getElem?_toArray, List.getElem?_cons_zero]; with_reducible rfl))); (focus rfl); simp only [Act.put, List.setIfInBounds_toArray, List.set_cons_zero, List.set_cons_succ])
    | (refine ChainL.val (o := ?_) (v := ?_) ?_ ?_ ?_ ?_ ?_; rotate_left 2; (focus (first | (simp only [List.getElem?_toArray, List.getElem?_cons_succ, List.getElem?_cons_zero]; with_reducible rfl) | (simp only [List.getElem?_toArray, List.getElem?_cons_zero]; with_reducible rfl))); (focus (intro _ _ h; cases h)); (focus rfl); (focus (intro w' hI; obtain ⟨c0, lp, k0, k1, k2, k3, m0, m1, m2, m3, m4, l1, l2⟩ := HD2.out _ hI; go_simp <;> with_reducible rfl)); simp only [Act.put, List.setIfInBounds_toArray, List.set_cons_zero, List.set_cons_succ]))
  refine ChainL.nil ?_
  have HB3 := Lib.hid bb
  clear hI b3 bb
  go_wp2
  exact bodyPost_ret (results_tmp2 rfl _ _ _) rfl ⟨C1, rfl, HS1.out.below HB3.out, HM2.out.trans (ModC.below HB3.out)⟩
end Go.Proofs.Ytaaboochologaaa
