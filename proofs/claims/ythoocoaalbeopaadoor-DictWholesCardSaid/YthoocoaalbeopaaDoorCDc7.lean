/- Part 8 of the proof: RangeCA, DcLs, DcB, DcC, DcD. -/
import Derived.Test.YthoocoaalbeopaaDoorCDc6

namespace Go.Proofs.YthoocoaalbeopaaDoor
open Go Go.RowKit
variable {F : Fence} {n : Nat} {P : Program}

theorem wpIn_rangeCA {α : Type} {g : Operand} {ps : Array Tmp} {assign body : Code} {Q : Exit → Act → World → Prop} {a : Act} {w : World}
    (hro : F.round = none) (h1 : 1 ≤ n) {gf : Nat} {lb : Array Value} (hg : a.eval g = .func (.func gf) #[] lb) (hFg : F.fn gf) (eg : ∀ args w, (callFunc gf args).run P w = .ok (.enter gf args) w)
    {encs : α → Array Value} {C : List α → α → World → Prop} {Kp : World → World → Prop} {S Sp : List α → Prop} {w0 : World} (hseq : SeqC F (n - 1) P gf lb encs C Kp S Sp w0)
    (hKt : ∀ {X Y Z : World}, Kp X Y → Kp Y Z → Kp X Z)
    (hKb : ∀ (W : World) (l : Nat) (o o' : Obj), w.heap.size ≤ l → W.heap[l]? = some o → o.isCells = false → o.isWalk = false → Kp W (W.putObj l o'))
    (hb0 : Below w0.heap.size w0 w) (hps : ∀ x, (encs x).size = ps.size) (hC : ∀ pre, OwnFrom w.heap.size (C pre))
    (I : List α → World → Prop) (Ix : Code → List α → World → Prop) (hI : OwnFrom w.heap.size I) (hIx : ∀ c, OwnFrom w.heap.size (Ix c)) (h0 : I [] w) (Ax : α → Act → World → Prop) (hAx : ∀ x a', OwnFrom w.heap.size (fun (_ : List α) W => Ax x a' W))
    (hassign : ∀ (l : Nat) (pre : List α) (x : α) (W : World) (K : Act → World → Prop), I pre W → C pre x W → (∀ a' W', Below W.heap.size W W' → Kp W W' → I pre W' → C pre x W' → Ax x a' W' → K a' W') →
      assign.wpIn (F.inRound l) (n - 1 - 1) P (Exit.then K (fun _ _ _ => False)) { tmps := (ps.zip (encs x)).foldl (fun t (p, v) => t.setIfInBounds p v) a.tmps, defers := [] } W)
    (hbody : ∀ (l : Nat) (pre : List α) (x : α) (a' : Act) (W : World), I pre W → C pre x W → Ax x a' W → body.wpIn (F.inRound l) (n - 1 - 1) P (outC Kp I Ix (pre ++ [x]) W) a' W)
    (hdone : ∀ (D : Nat) (xs : List α) (W : World), w.heap.size ≤ D → S xs → I xs W → W.heap[D]? = some (.deferred (some [])) →
      Q .normal { a with defers := { target := .collected D, args := #[] } :: a.defers } W)
    (hstop : ∀ (D : Nat) (c : Code) (pre : List α) (W : World), w.heap.size ≤ D → Sp pre → Ix c pre W → W.heap[D]? = some (.deferred (some [])) →
      c.wpIn F n P Q { a with defers := { target := .collected D, args := #[] } :: a.defers } W) :
    (Code.rangeFunc g ps assign body).wpIn F n P Q a w := by
  refine wpIn_rangeFunc fun fn hfn => ?_
  obtain ⟨r, hr⟩ : ∃ r : LoopState → Option Code → Loop, r = fun st pe => { state := st, pending := pe, fn, tmps := a.tmps, params := ps, assign, body, defers := w.heap.size } := ⟨_, rfl⟩
  have bk : Books w.heap.size (r .ready none) ((w.alloc (.deferred (some []))).alloc (.loop (r .ready none))) :=
    ⟨(Below.heap_alloc _ _ _ (by simp)).trans (World.alloc_heap_new w _), by
      have := World.alloc_heap_new (w.alloc (.deferred (some []))) (.loop (r .ready none)); rwa [World.size_alloc] at this⟩
  have ent := run_enterLoop_outer (P := P) (w := w) fn a.tmps ps assign body
  rw [show (Loop.mk .ready none fn a.tmps ps assign body w.heap.size) = r .ready none by rw [hr]] at ent
  have i0 : I [] ((w.alloc (.deferred (some []))).alloc (.loop (r .ready none))) := hI.alloc _ (hI.alloc _ h0)
  have b1 : Below w0.heap.size w0 ((w.alloc (.deferred (some []))).alloc (.loop (r .ready none))) :=
    (hb0.alloc hb0.size _).alloc (by have := hb0.size; simp; omega) _
  generalize (w.alloc (.deferred (some []))).alloc (.loop (r .ready none)) = W1 at *
  rw [hro]
  refine ⟨_, _, W1, { target := .fn (.func gf) lb, args := #[.func (.yield (w.heap.size + 1)) #[] #[]] }, W1, gf, #[.func (.yield (w.heap.size + 1)) #[] #[]] ++ lb, W1,
    ent, ?_, ?_, ?_, fun _ => h1, ?_⟩
  · simp only [resolve, hg]
    simp [go_sem]
  · intro f' hf'; simp [Target.leads] at hf'; subst hf'; exact hFg
  · simp [invoke, go_sem, eg]
  refine (hseq (w.heap.size + 1) (fun pre W => I pre W ∧ Books w.heap.size (r .ready none) W) (fun pre W => ∃ c, Ix c pre W ∧ Books w.heap.size (r .done (some c)) W) W1 b1
    (fun s W V h hb => ⟨stays_own hI s W V h.1 hb, h.2.below hb⟩)
    (fun s W V h hb => by obtain ⟨c, hc, hk⟩ := h; exact ⟨c, stays_own (hIx c) s W V hc hb, hk.below hb⟩)
    ?round ⟨i0, bk⟩).mono ?behind
  case round =>
    rintro pre x V ⟨hi, hk⟩ hc
    have y := run_yield (P := P) (args := encs x) hk.record (by rw [hr]; exact hps x)
    rw [hr] at y
    refine ⟨fn, _, assign, body, y, roundIn_of_wpIn hfn (hassign _ pre x V _ hi hc fun a' V1 hbl hkp hi1 hc1 hax => ?_)⟩
    have hk1 := hk.below hbl
    have bg := run_beginRound (P := P) hk1.record (by rw [hr])
    obtain ⟨rb, hrb⟩ : ∃ rb, rb = { r .ready none with state := .busy } := ⟨_, rfl⟩
    rw [← hrb] at bg
    have hkb := hk1.put rb
    have hl1 := hbl.size
    have kp1 : Kp V (V1.putObj (w.heap.size + 1) (.loop rb)) := hKt hkp (hKb _ _ _ _ (by omega) hk1.record rfl rfl)
    have fin : ∀ (jump : Option Code) (V' : World), Books w.heap.size rb V' →
        (Instr.endRound (w.heap.size + 1) jump).run P V' = .ok (.bool jump.isNone) (V'.putObj (w.heap.size + 1) (.loop (r (if jump.isNone then .ready else .done) jump))) := fun jump V' h => by
      rw [run_endRound (P := P) jump h.record, hrb, hr]
    refine ⟨_, bg, ?_⟩
    refine wpIn_mono (hbody _ pre x a' _ (OwnFrom.book hI hk1 hi1 rb) (OwnFrom.book (hC pre) hk1 hc1 rb) (OwnFrom.book (s := pre) (hAx x a') hk1 hax rb)) ?_
    rintro e a3 V' h
    cases e with
    | normal =>
      obtain ⟨h1, h2, h3⟩ := h
      have hk' := hkb.others h1
      exact ⟨_, _, fin none V' hk', .inl ⟨rfl, ⟨OwnFrom.book hI hk' h3 _, hk'.put _⟩, hKt (hKt kp1 h2) (hKb _ _ _ _ (by omega) hk'.record rfl rfl)⟩⟩
    | ret =>
      obtain ⟨h1, h3⟩ := h
      have hk' := hkb.others h1
      exact ⟨_, _, fin (some .ret) V' hk', .inr ⟨rfl, .ret, OwnFrom.book (hIx _) hk' h3 _, hk'.put _⟩⟩
    | exit id =>
      obtain ⟨h1, h3⟩ := h
      have hk' := hkb.others h1
      exact ⟨_, _, fin (some (.exit id)) V' hk', .inr ⟨rfl, .exit id, OwnFrom.book (hIx _) hk' h3 _, hk'.put _⟩⟩
    | goto t => exact h.elim
    | panic ch => exact h.elim
    | outgrown => exact h.elim
  case behind =>
    rintro e V ⟨⟨v, rfl⟩, (⟨xs, hS, hi, hk⟩ | ⟨pre, hSp, c, hi, hk⟩)⟩
    · have en := run_endLoop (P := P) hk.record (by rw [hr]; simp)
      exact ⟨_, _, en, by rw [show (r .ready none).pending = none by rw [hr]]; exact hdone _ xs _ (Nat.le_refl _) hS (OwnFrom.book hI hk hi _) (hk.put _).marks⟩
    · have en := run_endLoop (P := P) hk.record (by rw [hr]; simp)
      exact ⟨_, _, en, by rw [show (r .done (some c)).pending = some c by rw [hr]]; exact hstop _ c pre _ (Nat.le_refl _) hSp (OwnFrom.book (hIx c) hk hi _) (hk.put _).marks⟩
end Go.Proofs.YthoocoaalbeopaaDoor

namespace Go.Proofs.YthoocoaalbeopaaDoor
open Go Go.RowKit Go.Shelf
set_option linter.unusedVariables false
set_option linter.unusedSimpArgs false

theorem blk_grownX {X Y : World} {row : Option Nat} {B p : Nat} {T : TypeId} {cs : Array Value} (h : Blk X p T cs) (hp : p < B) (hg : X.grownBy Y row) (hr : ∀ r, row = some r → B ≤ r ∧ ∃ o : Obj, X.heap[r]? = some o ∧ o.isCells = false) : Blk Y p T cs :=
  (hg.block p h.lt (fun e => by have := (hr p e.symm).1; omega)).trans h
theorem blk_keptX {X Y : World} {row : Option Nat} {p : Nat} {T : TypeId} {cs : Array Value} (h : Blk X p T cs) (hg : X.grownBy Y row) (hr : ∀ r, row = some r → ∃ o : Obj, X.heap[r]? = some o ∧ o.isCells = false) : Blk Y p T cs :=
  (hg.block p h.lt (fun e => by obtain ⟨o, ho, hc⟩ := hr p e.symm; rw [show X.heap[p]? = _ from h] at ho; cases ho; cases hc)).trans h
def LastP (w : World) (Es : List Ent) (op : Int) (e : Ending) (w' : World) : Prop :=
  (match lastE Es op with
   | none => e = .returned (.tuple #[.slice none 0 0, .bool false])
   | some L => ∃ Ai ci, e = .returned (.tuple #[.slice Ai L.length ci, .bool true]) ∧ L.length ≤ ci ∧ Lists w w.heap.size Ai (L.map (Value.int .i64))) ∧ Below w.heap.size w w'
attribute [local go_sem] Oper.semAt_some
set_option maxRecDepth 100000 in
set_option maxHeartbeats 1000000 in
theorem dlast_any (A : Option Addr) (N c : Nat) (Es : List Ent) (op : Int) (w : World) (hE : EntAt w w.heap.size A Es) (hN : Es.length = N) (hn : N ≤ 1000000000000) :
    Calls Tryd.prog 38 #[.slice A N c, .int .i64 op] w (LastP w Es op) := by
  have CB := fun V => back_any A N c V
  have K0 := (((Blk.new w 3 #[.int .i64 op]).below (below_a2 _ (.cells #[.slice none 0 0] 37) (.cells #[.bool false] 4)))).below (below_a1 _ (.cells #[.slice A N c] 24))
  have K1 := ((Blk.new (w.alloc (.cells #[.int .i64 op] 3)) 37 #[.slice none 0 0]).below (below_a1 _ (.cells #[.bool false] 4))).below (below_a1 _ (.cells #[.slice A N c] 24))
  have K2 := (Blk.new ((w.alloc (.cells #[.int .i64 op] 3)).alloc (.cells #[.slice none 0 0] 37)) 4 #[.bool false]).below (below_a1 _ (.cells #[.slice A N c] 24))
  have K3 := Blk.new (((w.alloc (.cells #[.int .i64 op] 3)).alloc (.cells #[.slice none 0 0] 37)).alloc (.cells #[.bool false] 4)) 24 #[.slice A N c]
  have BW := (below_a3 w (.cells #[.int .i64 op] 3) (.cells #[.slice none 0 0] 37) (.cells #[.bool false] 4)).alloc (by simp; omega) (.cells #[.slice A N c] 24)
  simp only [World.size_alloc] at K1 K2 K3
  have hs2 : ((((w.alloc (.cells #[.int .i64 op] 3)).alloc (.cells #[.slice none 0 0] 37)).alloc (.cells #[.bool false] 4)).alloc (.cells #[.slice A N c] 24)).heap.size = w.heap.size + 1 + 1 + 1 + 1 := by simp
  have H0 := Lib.hid K0
  have H1 := Lib.hid K1
  have H2 := Lib.hid K2
  have H3 := Lib.hid K3
  have HB := Lib.hid BW
  have HS2 := Lib.hid hs2
  clear K0 K1 K2 K3 BW hs2
  refine (callsIn_wide (n := 3)).1 ?_
  refine callsIn_of_wp_marks Tryd.func38 rfl trivial ?_
  simp only [Tryd.ntmps38, List.size_toArray, List.length_cons, List.length_nil, Nat.reduceAdd, Nat.reduceSub, Array.replicate_succ, Array.replicate_zero, List.push_toArray, List.append_toArray, List.nil_append, List.cons_append]
  refine wpIn_wide.2 ?_
  go_wp2_with (first | (go_at_call 58; ((with_reducible refine (CB _).mono ?_); rintro e w1 ⟨rfl, rfl⟩)))
  obtain ⟨nb, hnb⟩ : ∃ nb, w.heap.size = nb := ⟨_, rfl⟩
  have HS2 : Hid (_ = nb + 1 + 1 + 1 + 1) := Lib.hid (HS2.out.trans (by rw [hnb]))
  have H0 := Lib.hid H0.out
  generalize hW0 : (((w.alloc (.cells #[.int .i64 op] 3)).alloc (.cells #[.slice none 0 0] 37)).alloc (.cells #[.bool false] 4)).alloc (.cells #[.slice A N c] 24) = W0 at *
  clear hW0
  have hsz := HS2.out
  have HEW := Lib.hid (hnb ▸ hE)
  rw [hnb] at H0 H1 H2 H3 HB ⊢
  refine (wpIn_wide (n := 3)).1 ?_
  refine wpIn_rangeCA (F := Fence.wide) (n := 3) rfl (by omega) (gf := 69) (lb := #[.pointer (some ⟨nb + 1 + 1 + 1, 0, none⟩)]) rfl trivial (enters_of Tryd.func69 (by kernel_rfl) rfl)
    (back_stops _ N c A Es w W0 (hnb ▸ HB.out) H3.out hE hN hn) Below.trans (belowK_b (Nat.le_refl _)) (Below.refl _ _) (fun _ => rfl) (fun pre x X Y row hs hg hr => hs)
    (fun pre V => (∀ (i : Nat) (q : Ent), N ≤ i + pre.length → Es[i]? = some q → q.1 ≠ op) ∧ Below W0.heap.size W0 V)
    (fun c2 pre V => (c2 = .ret ∧ ∃ L Ai ci, lastE Es op = some L ∧ L.length ≤ ci ∧ Lists w w.heap.size Ai (L.map (Value.int .i64)) ∧ Blk V (nb + 1) 37 #[.slice Ai L.length ci] ∧ Blk V (nb + 1 + 1) 4 #[.bool true]) ∧ Below nb w V)
    (OwnFrom.and (fun pre X Y row hs hg hr => hs) (ownFrom_below (Nat.le_refl _) (Nat.le_refl _)))
    (fun c2 => OwnFrom.and (fun pre X Y row hs hg hr => by
      obtain ⟨h1, L, Ai, ci, h2, h3, h4, h5, h6⟩ := hs
      exact ⟨h1, L, Ai, ci, h2, h3, h4, blk_grownX h5 (by omega) hg hr, blk_grownX h6 (by omega) hg hr⟩) (ownFrom_below (by omega) (by omega)))
    ⟨fun i q hi hq => by have := (List.getElem?_eq_some_iff.1 hq).1; simp at hi; omega, Below.refl _ _⟩
    (fun x a' V => ∃ q, nb + 1 + 1 + 1 < q ∧ a' = { tmps := #[.slice A N c, .int .i64 op, undef, .pointer (some ⟨nb, 0, none⟩), .pointer (some ⟨nb + 1, 0, none⟩), .pointer (some ⟨nb + 1 + 1, 0, none⟩), undef, .pointer (some ⟨q, 0, none⟩), .slice A N c, .func (.func 69) #[] #[.pointer (some ⟨nb + 1 + 1 + 1, 0, none⟩)], .int .i64 x.1, .agg #[.int .i64 x.2.1, x.2.2], undef, undef, undef, undef, undef, undef], defers := [] } ∧ Blk V q 42 #[.int .i64 x.2.1, x.2.2])
    (fun x a' pre X Y row hs hg hr => by obtain ⟨q, hq, e, hb⟩ := hs; exact ⟨q, hq, e, blk_keptX hb hg (fun r e => (hr r e).2)⟩)
    ?assign ?body ?done ?stop
  case assign =>
    rintro l pre ⟨i, qo, v⟩ W K ⟨iN, iB⟩ hC hK
    obtain ⟨h1, q, Ai, ci, h2, h3, h4, h5, h6⟩ := hC
    dsimp only at h1 h2 h3 h4 hK ⊢
    subst h3 h4
    have hs := iB.size
    have ba := below_a1 W (.cells #[.int .i64 q.1, .slice Ai q.2.length ci] 42)
    have HK := hK _ _ ba (ba.mono (by omega)) ⟨iN, iB.trans (ba.mono (by omega))⟩ ⟨h1, q, Ai, ci, h2, rfl, rfl, h5, h6⟩ ⟨W.heap.size, by omega, rfl, Blk.new W 42 #[.int .i64 q.1, .slice Ai q.2.length ci]⟩
    clear hK iN h1 h2 h5 h6
    generalize q.1 = qo at *
    generalize q.2.length = m at *
    gi_wp2
    exact HK
  case body =>
    rintro l pre ⟨i, qo, v⟩ a' W ⟨iN, iB⟩ hC ⟨b, hb, rfl, KD⟩
    obtain ⟨h1, q, Ai, ci, h2, h3, h4, h5, h6⟩ := hC
    dsimp only at h1 h2 h3 h4 KD ⊢
    subst h3 h4
    have hs := iB.size
    have K0 : Blk W nb 3 #[.int .i64 op] := (iB.block _ (by omega)).trans H0.out
    have K1 : Blk W (nb + 1) 37 #[.slice none 0 0] := (iB.block _ (by omega)).trans H1.out
    have K2 : Blk W (nb + 1 + 1) 4 #[.bool false] := (iB.block _ (by omega)).trans H2.out
    have c0 := K0.cell 0
    have l0 := K0.lt
    have d0 := KD.cell 0
    have d1 := KD.cell 1
    have dl := KD.lt
    have c1 := K1.cell 0
    have f1 := K1.frozen 0
    have l1 := K1.lt
    have c2 := K2.cell 0
    have f2 := K2.frozen 0
    have l2 := K2.lt
    simp only [List.getElem?_toArray, List.getElem?_cons_succ, List.getElem?_cons_zero] at c0 d0 d1 c1 c2
    by_cases he : q.1 = op
    · have HL := Lib.hid (lastE_at h2 he fun j p hj hp => iN j p (by omega) hp)
      have H6 := Lib.hid h6
      have T1 := (K1.set 0 (.slice Ai q.2.length ci)).other (q := ⟨nb + 1 + 1, 0, none⟩) (by simp) (.bool true)
      have T2 := (K2.other (q := ⟨nb + 1, 0, none⟩) (by simp) (.slice Ai q.2.length ci)).set 0 (.bool true)
      have f3 := (K2.other (q := ⟨nb + 1, 0, none⟩) (by simp) (.slice Ai q.2.length ci)).frozen 0
      have TB : Below nb w ((W.setCell ⟨nb + 1, 0, none⟩ (.slice Ai q.2.length ci)).setCell ⟨nb + 1 + 1, 0, none⟩ (.bool true)) := ((HB.out.trans (iB.mono (by omega))).setCell (p := ⟨nb + 1, 0, none⟩) (by simp) _).setCell (p := ⟨nb + 1 + 1, 0, none⟩) (by simp; omega) _
      have TK := (KeepsOthers.setCell W ⟨nb + 1, 0, none⟩ (.slice Ai q.2.length ci)).trans (KeepsOthers.setCell _ ⟨nb + 1 + 1, 0, none⟩ (.bool true))
      have HT := Lib.hid (And.intro T1 (And.intro T2 (And.intro TB TK)))
      have h2' := Lib.hid h2
      have HQ5 := Lib.hid h5
      have zz : (q.1 == op) = true := by simpa using he
      clear T1 T2 TB TK iN h1 h2 h6 K0 K1 K2 KD h5
      obtain ⟨qo, hqo⟩ : ∃ qo, qo = q.1 := ⟨_, rfl⟩
      rw [← hqo] at d0 zz ⊢
      clear hqo he
      obtain ⟨m, hm⟩ : ∃ m, m = q.2.length := ⟨_, rfl⟩
      rw [← hm] at d1 HT HQ5 f3 ⊢
      have HM := Lib.hid hm
      clear hm
      gi_wp2
      have e := HM.out
      subst e
      exact ⟨HT.out.2.2.2, ⟨rfl, q.2, Ai, ci, HL.out, HQ5.out, H6.out, HT.out.1, HT.out.2.1⟩, HT.out.2.2.1⟩
    · have zz : (q.1 == op) = false := by simpa using he
      have HN2 := Lib.hid (show ∀ (j : Nat) (p : Ent), N ≤ j + (pre.length + 1) → Es[j]? = some p → p.1 ≠ op from fun j p hj hp => by
        rcases Nat.lt_or_ge j (i + 1) with hji | hji
        · have : j = i := by omega
          subst this
          rw [h2] at hp
          cases hp
          exact he
        · exact iN j p (by omega) hp)
      clear iN h1 h2 h6 K0 K1 K2 KD h5
      obtain ⟨qo, hqo⟩ : ∃ qo, qo = q.1 := ⟨_, rfl⟩
      rw [← hqo] at d0 zz ⊢
      clear hqo he
      gi_wp2
      exact ⟨KeepsOthers.refl _, Below.refl _ _, by rw [List.length_append]; exact HN2.out, iB⟩
  case done =>
    rintro D2 xs V hD hxs ⟨iN, iB⟩ hK2
    have hs := iB.size
    have hDl := (Array.getElem?_eq_some_iff.1 hK2).1
    have K1 : Blk V (nb + 1) 37 #[.slice none 0 0] := (iB.block _ (by omega)).trans H1.out
    have K2 : Blk V (nb + 1 + 1) 4 #[.bool false] := (iB.block _ (by omega)).trans H2.out
    have hl := Lib.hid (lastE_none (Es := Es) (op := op) fun j p hp => iN j p (by omega) hp)
    have c1 := K1.cell 0
    have f1 := K1.frozen 0
    have l1 := K1.lt
    have c2 := K2.cell 0
    have f2 := (K2.other (q := ⟨nb + 1, 0, none⟩) (by simp) (.slice none 0 0)).frozen 0
    have l2 := K2.lt
    simp only [List.getElem?_toArray, List.getElem?_cons_succ, List.getElem?_cons_zero] at c1 c2
    have hKK := (KeepsOthers.setCell V ⟨nb + 1, 0, none⟩ (.slice none 0 0)).trans (KeepsOthers.setCell _ ⟨nb + 1 + 1, 0, none⟩ (.bool false))
    have hK' := hKK.same D2 _ hK2 rfl
    have T1 := (K1.set 0 (.slice none 0 0)).other (q := ⟨nb + 1 + 1, 0, none⟩) (by simp) (.bool false)
    have T2 := (K2.other (q := ⟨nb + 1, 0, none⟩) (by simp) (.slice none 0 0)).set 0 (.bool false)
    have hc4 := cell_kept (T1.cell 0) (grownBy_putObj' _ D2 (.deferred none)) (fun r e => by cases e; exact ⟨_, hK', rfl⟩)
    have hc5 := cell_kept (T2.cell 0) (grownBy_putObj' _ D2 (.deferred none)) (fun r e => by cases e; exact ⟨_, hK', rfl⟩)
    have BX : Below nb w ((V.setCell ⟨nb + 1, 0, none⟩ (.slice none 0 0)).setCell ⟨nb + 1 + 1, 0, none⟩ (.bool false)) := ((HB.out.trans (iB.mono (by omega))).setCell (p := ⟨nb + 1, 0, none⟩) (by simp) _).setCell (p := ⟨nb + 1 + 1, 0, none⟩) (by simp; omega) _
    have hBF := Lib.hid (BX.trans (belowK_b (n₀ := nb) (w := W0) (by omega) _ D2 _ (.deferred none) hD hK' rfl rfl))
    clear BX T1 T2 hKK K1 K2 iN
    go_wp2
    refine ⟨by simp, .inl ⟨_, _, rfl, run_takeDeferred hK', ?_⟩⟩
    refine ⟨.tuple #[.slice none 0 0, .bool false], ?_, ?_⟩
    · simp [results, Tryd.f38, go_sem, hc4, hc5]
    · unfold LastP
      rw [hl.out]
      exact ⟨rfl, hnb.symm ▸ hBF.out⟩
  case stop =>
    rintro D2 cc pre V hD _ ⟨⟨rfl, L, Ai, ci, hL, hci, hli, K1, K2⟩, iB⟩ hK2
    have hc4 := cell_kept (K1.cell 0) (grownBy_putObj' _ D2 (.deferred none)) (fun r e => by cases e; exact ⟨_, hK2, rfl⟩)
    have hc5 := cell_kept (K2.cell 0) (grownBy_putObj' _ D2 (.deferred none)) (fun r e => by cases e; exact ⟨_, hK2, rfl⟩)
    have hBF := Lib.hid (iB.trans (belowK_b (n₀ := nb) (w := W0) (by omega) _ D2 _ (.deferred none) hD hK2 rfl rfl))
    have HL := Lib.hid hL
    have HI := Lib.hid hli
    have HC := Lib.hid hci
    clear hL hli hci K1 K2 iB
    gi_wp2
    refine ⟨by simp, .inl ⟨_, _, rfl, run_takeDeferred hK2, ?_⟩⟩
    refine ⟨.tuple #[.slice Ai L.length ci, .bool true], ?_, ?_⟩
    · simp [results, Tryd.f38, go_sem, hc4, hc5]
    · unfold LastP
      rw [HL.out]
      exact ⟨⟨Ai, ci, rfl, HC.out, HI.out⟩, hnb.symm ▸ hBF.out⟩
end Go.Proofs.YthoocoaalbeopaaDoor

namespace Go.Proofs.YthoocoaalbeopaaDoor
open Go Go.RowKit
set_option linter.unusedVariables false
set_option linter.unusedSimpArgs false

/-- A number's bytes. -/
def numE (x : Int) : List Value :=
  if inB (-107) 107 x then be1 (x + 139) else if inB 108 1131 x then be1 (247 + (x - 108) / 256) ++ be1 (x - 108)
  else if inB (-1131) (-108) x then be1 (251 + (-x - 108) / 256) ++ be1 (-x - 108) else if inB (-32768) 32767 x then be1 28 ++ be2 x else be1 29 ++ be4 x
theorem numE_len (x : Int) : 1 ≤ (numE x).length ∧ (numE x).length ≤ 5 := by
  unfold numE
  split
  · simp [be1]
  · split
    · simp [be1]
    · split
      · simp [be1]
      · split <;> simp [be1, be2, be4]
theorem numE_bytes (x : Int) : Bytes8 (numE x) := by
  unfold numE
  split
  · exact be1_bytes _
  · split
    · exact (be1_bytes _).append (be1_bytes _)
    · split
      · exact (be1_bytes _).append (be1_bytes _)
      · split
        · exact (be1_bytes _).append (be2_bytes _)
        · exact (be1_bytes _).append (be4_bytes _)
/-- More was written. -/
def DPut (w0 w : World) (p R : Nat) (D E : List Value) (e : Ending) (w' : World) : Prop := e = .returned (.tuple #[]) ∧ WS w0 w' p R (D ++ E) ∧ Safe w w' ∧ w.heap.size ≤ w'.heap.size
theorem Safe.transD {a b c : World} (h : Safe a b) (k : Safe b c) : Safe a c := fun q T cs h1 h2 h3 x => k q T cs h1 h2 h3 (h q T cs h1 h2 h3 x)
theorem shr8 (a : Int) (w : World) (h1 : -9223372036854775808 ≤ a) (h2 : a ≤ 9223372036854775807) : (binOp .shr 3 (.int .i64 a) (.int .u64 8)).run Tryd.prog w = .ok (.int .i64 (a / 256)) w := by
  go_simp
set_option maxRecDepth 100000 in
theorem dtwo_any (w0 w : World) (p R : Nat) (D : List Value) (f x : Int) (h : WS w0 w p R D) (hx : D.length + 2 ≤ R) (hR : R ≤ 1099511627776) (hf1 : 0 ≤ f) (hf2 : f ≤ 255) (h1 : 108 ≤ x) (h2 : x ≤ 1131) :
    Calls Tryd.prog 52 #[.pointer (some ⟨p, 0, none⟩), .int .i64 f, .int .i64 x] w (DPut w0 w p R D (be1 (f + (x - 108) / 256) ++ be1 (x - 108))) := by
  have q1 : IntKind.i64.wrap (x - 108) = x - 108 := IntWalk.i64_in _ (by omega)
  have q2 : IntKind.i64.wrap (f + (x - 108) / 256) = f + (x - 108) / 256 := IntWalk.i64_in _ (by omega)
  have s1 := fun w => shr8 (x - 108) w (by omega) (by omega)
  go_enter Tryd.func52, Tryd.ntmps52
  go_wp2_with (first
    | (go_at_call 33; ((with_reducible refine (wsU8 w0 _ p R D (f + (x - 108) / 256) h (by omega) (by omega)).mono ?_); rintro e w5 ⟨rfl, h5, s5, z5⟩))
    | (go_at_call 33; ((with_reducible refine (wsU8 w0 _ p R _ (x - 108) h5 (by rw [List.length_append]; simp [be1]; omega) (by omega)).mono ?_); rintro e w6 ⟨rfl, h6, s6, z6⟩)))
  refine bodyPost_end (results_none rfl _ _ _) rfl ⟨rfl, ?_⟩
  rw [← List.append_assoc]
  exact ⟨h6, s5.transD s6, Nat.le_trans z5 z6⟩

set_option maxRecDepth 100000 in
theorem dnum_0 (w0 w : World) (p R : Nat) (D : List Value) (x : Int) (h : WS w0 w p R D) (hx : D.length + 5 ≤ R) (hR : R ≤ 1099511627776) (hx1 : -2147483648 ≤ x) (hx2 : x ≤ 2147483647) (h0 : inB (-107) 107 x = true) :
    Calls Tryd.prog 32 #[.pointer (some ⟨p, 0, none⟩), .int .i64 x] w (DPut w0 w p R D (be1 (x + 139))) := by
  have C0 := fun W => dwithin_any (-107) 107 x true h0 W
  have b0 := inB_true h0
  have q1 : IntKind.i64.wrap (x + 139) = x + 139 := IntWalk.i64_in _ (by omega)
  clear h0
  go_enter Tryd.func32, Tryd.ntmps32
  go_wp2_with (first | (go_at_call 51; ((with_reducible refine (C0 _).mono ?_); rintro e w1 ⟨rfl, rfl⟩)) | (go_at_call 33; ((with_reducible refine (wsU8 w0 _ p R D (x + 139) h (by omega) (by omega)).mono ?_); rintro e w5 ⟨rfl, h5, s5, z5⟩)))
  refine bodyPost_end (results_none rfl _ _ _) rfl ⟨rfl, ?_⟩
  exact ⟨h5, s5, z5⟩

set_option maxRecDepth 100000 in
theorem dnum_1 (w0 w : World) (p R : Nat) (D : List Value) (x : Int) (h : WS w0 w p R D) (hx : D.length + 5 ≤ R) (hR : R ≤ 1099511627776) (hx1 : -2147483648 ≤ x) (hx2 : x ≤ 2147483647) (h0 : inB (-107) 107 x = false) (h1 : inB 108 1131 x = true) :
    Calls Tryd.prog 32 #[.pointer (some ⟨p, 0, none⟩), .int .i64 x] w (DPut w0 w p R D (be1 (247 + (x - 108) / 256) ++ be1 (x - 108))) := by
  have C0 := fun W => dwithin_any (-107) 107 x false h0 W
  have C1 := fun W => dwithin_any 108 1131 x true h1 W
  have b0 := inB_false h0
  have b1 := inB_true h1
  clear h0 h1
  go_enter Tryd.func32, Tryd.ntmps32
  go_wp2_with (first | (go_at_call 51; ((with_reducible refine (C0 _).mono ?_); rintro e w1 ⟨rfl, rfl⟩)) | (go_at_call 51; ((with_reducible refine (C1 _).mono ?_); rintro e w1 ⟨rfl, rfl⟩)) | (go_at_call 52; ((with_reducible refine (dtwo_any w0 _ p R D 247 x h (by omega) hR (by omega) (by omega) (by omega) (by omega)).mono ?_); rintro e w5 ⟨rfl, h5, s5, z5⟩)))
  refine bodyPost_end (results_none rfl _ _ _) rfl ⟨rfl, ?_⟩
  exact ⟨h5, s5, z5⟩

set_option maxRecDepth 100000 in
theorem dnum_2 (w0 w : World) (p R : Nat) (D : List Value) (x : Int) (h : WS w0 w p R D) (hx : D.length + 5 ≤ R) (hR : R ≤ 1099511627776) (hx1 : -2147483648 ≤ x) (hx2 : x ≤ 2147483647) (h0 : inB (-107) 107 x = false) (h1 : inB 108 1131 x = false) (h2 : inB (-1131) (-108) x = true) :
    Calls Tryd.prog 32 #[.pointer (some ⟨p, 0, none⟩), .int .i64 x] w (DPut w0 w p R D (be1 (251 + (-x - 108) / 256) ++ be1 (-x - 108))) := by
  have C0 := fun W => dwithin_any (-107) 107 x false h0 W
  have C1 := fun W => dwithin_any 108 1131 x false h1 W
  have C2 := fun W => dwithin_any (-1131) (-108) x true h2 W
  have b0 := inB_false h0
  have b1 := inB_false h1
  have b2 := inB_true h2
  have q1 : IntKind.i64.wrap (-x) = -x := IntWalk.i64_in _ (by omega)
  clear h0 h1 h2
  go_enter Tryd.func32, Tryd.ntmps32
  go_wp2_with (first | (go_at_call 51; ((with_reducible refine (C0 _).mono ?_); rintro e w1 ⟨rfl, rfl⟩)) | (go_at_call 51; ((with_reducible refine (C1 _).mono ?_); rintro e w1 ⟨rfl, rfl⟩)) | (go_at_call 51; ((with_reducible refine (C2 _).mono ?_); rintro e w1 ⟨rfl, rfl⟩)) | (go_at_call 52; ((with_reducible refine (dtwo_any w0 _ p R D 251 (-x) h (by omega) hR (by omega) (by omega) (by omega) (by omega)).mono ?_); rintro e w5 ⟨rfl, h5, s5, z5⟩)))
  refine bodyPost_end (results_none rfl _ _ _) rfl ⟨rfl, ?_⟩
  exact ⟨h5, s5, z5⟩

set_option maxRecDepth 100000 in
theorem dnum_3 (w0 w : World) (p R : Nat) (D : List Value) (x : Int) (h : WS w0 w p R D) (hx : D.length + 5 ≤ R) (hR : R ≤ 1099511627776) (hx1 : -2147483648 ≤ x) (hx2 : x ≤ 2147483647) (h0 : inB (-107) 107 x = false) (h1 : inB 108 1131 x = false) (h2 : inB (-1131) (-108) x = false) (h3 : inB (-32768) 32767 x = true) :
    Calls Tryd.prog 32 #[.pointer (some ⟨p, 0, none⟩), .int .i64 x] w (DPut w0 w p R D (be1 28 ++ be2 x)) := by
  have C0 := fun W => dwithin_any (-107) 107 x false h0 W
  have C1 := fun W => dwithin_any 108 1131 x false h1 W
  have C2 := fun W => dwithin_any (-1131) (-108) x false h2 W
  have C3 := fun W => dwithin_any (-32768) 32767 x true h3 W
  have b0 := inB_false h0
  have b1 := inB_false h1
  have b2 := inB_false h2
  have b3 := inB_true h3
  clear h0 h1 h2 h3
  go_enter Tryd.func32, Tryd.ntmps32
  go_wp2_with (first | (go_at_call 51; ((with_reducible refine (C0 _).mono ?_); rintro e w1 ⟨rfl, rfl⟩)) | (go_at_call 51; ((with_reducible refine (C1 _).mono ?_); rintro e w1 ⟨rfl, rfl⟩)) | (go_at_call 51; ((with_reducible refine (C2 _).mono ?_); rintro e w1 ⟨rfl, rfl⟩)) | (go_at_call 51; ((with_reducible refine (C3 _).mono ?_); rintro e w1 ⟨rfl, rfl⟩)) | (go_at_call 33; ((with_reducible refine (wsU8 w0 _ p R D 28 h (by omega) (by omega)).mono ?_); rintro e w5 ⟨rfl, h5, s5, z5⟩)) | (go_at_call 53; ((with_reducible refine (wsI16 w0 _ p R _ x h5 (by rw [List.length_append]; simp [be1]; omega) (by omega)).mono ?_); rintro e w6 ⟨rfl, h6, s6, z6⟩)))
  refine bodyPost_end (results_none rfl _ _ _) rfl ⟨rfl, ?_⟩
  rw [← List.append_assoc]
  exact ⟨h6, s5.transD s6, Nat.le_trans z5 z6⟩

set_option maxRecDepth 100000 in
theorem dnum_4 (w0 w : World) (p R : Nat) (D : List Value) (x : Int) (h : WS w0 w p R D) (hx : D.length + 5 ≤ R) (hR : R ≤ 1099511627776) (hx1 : -2147483648 ≤ x) (hx2 : x ≤ 2147483647) (h0 : inB (-107) 107 x = false) (h1 : inB 108 1131 x = false) (h2 : inB (-1131) (-108) x = false) (h3 : inB (-32768) 32767 x = false) :
    Calls Tryd.prog 32 #[.pointer (some ⟨p, 0, none⟩), .int .i64 x] w (DPut w0 w p R D (be1 29 ++ be4 x)) := by
  have C0 := fun W => dwithin_any (-107) 107 x false h0 W
  have C1 := fun W => dwithin_any 108 1131 x false h1 W
  have C2 := fun W => dwithin_any (-1131) (-108) x false h2 W
  have C3 := fun W => dwithin_any (-32768) 32767 x false h3 W
  have b0 := inB_false h0
  have b1 := inB_false h1
  have b2 := inB_false h2
  have b3 := inB_false h3
  clear h0 h1 h2 h3
  go_enter Tryd.func32, Tryd.ntmps32
  go_wp2_with (first | (go_at_call 51; ((with_reducible refine (C0 _).mono ?_); rintro e w1 ⟨rfl, rfl⟩)) | (go_at_call 51; ((with_reducible refine (C1 _).mono ?_); rintro e w1 ⟨rfl, rfl⟩)) | (go_at_call 51; ((with_reducible refine (C2 _).mono ?_); rintro e w1 ⟨rfl, rfl⟩)) | (go_at_call 51; ((with_reducible refine (C3 _).mono ?_); rintro e w1 ⟨rfl, rfl⟩)) | (go_at_call 33; ((with_reducible refine (wsU8 w0 _ p R D 29 h (by omega) (by omega)).mono ?_); rintro e w5 ⟨rfl, h5, s5, z5⟩)) | (go_at_call 54; ((with_reducible refine (wsU32 w0 _ p R _ x h5 (by rw [List.length_append]; simp [be1]; omega) (by omega)).mono ?_); rintro e w6 ⟨rfl, h6, s6, z6⟩)))
  refine bodyPost_end (results_none rfl _ _ _) rfl ⟨rfl, ?_⟩
  rw [← List.append_assoc]
  exact ⟨h6, s5.transD s6, Nat.le_trans z5 z6⟩
theorem dnum_any (w0 w : World) (p R : Nat) (D : List Value) (x : Int) (h : WS w0 w p R D) (hx : D.length + 5 ≤ R) (hR : R ≤ 1099511627776) (hx1 : -2147483648 ≤ x) (hx2 : x ≤ 2147483647) :
    Calls Tryd.prog 32 #[.pointer (some ⟨p, 0, none⟩), .int .i64 x] w (DPut w0 w p R D (numE x)) := by
  unfold numE
  cases h0 : inB (-107) 107 x
  · cases h1 : inB 108 1131 x
    · cases h2 : inB (-1131) (-108) x
      · cases h3 : inB (-32768) 32767 x
        · exact dnum_4 w0 w p R D x h hx hR hx1 hx2 h0 h1 h2 h3
        · exact dnum_3 w0 w p R D x h hx hR hx1 hx2 h0 h1 h2 h3
      · exact dnum_2 w0 w p R D x h hx hR hx1 hx2 h0 h1 h2
    · exact dnum_1 w0 w p R D x h hx hR hx1 hx2 h0 h1
  · exact dnum_0 w0 w p R D x h hx hR hx1 hx2 h0
end Go.Proofs.YthoocoaalbeopaaDoor

namespace Go.Proofs.YthoocoaalbeopaaDoor
open Go Go.RowKit
set_option linter.unusedVariables false
set_option linter.unusedSimpArgs false
variable {q : Nat → Prop}

/-- A number's first byte, and those behind it. -/
def numH (x : Int) : Int :=
  if inB (-107) 107 x then x + 139 else if inB 108 1131 x then 247 + (x - 108) / 256 else if inB (-1131) (-108) x then 251 + (-x - 108) / 256 else if inB (-32768) 32767 x then 28 else 29
def numT (x : Int) : List Value :=
  if inB (-107) 107 x then [] else if inB 108 1131 x then be1 (x - 108) else if inB (-1131) (-108) x then be1 (-x - 108) else if inB (-32768) 32767 x then be2 x else be4 x
theorem numE_eq (x : Int) : numE x = .int .u8 (numH x) :: numT x := by
  unfold numE numH numT
  split
  · rename_i h
    have := inB_true h
    simp only [be1]
    rw [Int.emod_eq_of_lt (by omega) (by omega)]
  · split
    · rename_i h
      have := inB_true h
      simp only [be1, List.cons_append, List.nil_append]
      rw [Int.emod_eq_of_lt (a := 247 + _) (by omega) (by omega)]
    · split
      · rename_i h
        have := inB_true h
        simp only [be1, List.cons_append, List.nil_append]
        rw [Int.emod_eq_of_lt (a := 251 + _) (by omega) (by omega)]
      · split <;> rfl
theorem numH_in (x : Int) : 28 ≤ numH x ∧ numH x ≤ 254 ∧ numH x ≠ 30 := by
  unfold numH
  split
  · rename_i h
    have := inB_true h
    omega
  · split
    · rename_i h
      have := inB_true h
      omega
    · split
      · rename_i h
        have := inB_true h
        omega
      · split <;> omega
theorem byteAt_dropD (E : List Value) (k i : Nat) : byteAt E (k + i) = byteAt (E.drop k) i := by unfold byteAt; rw [List.getD_eq_getElem?_getD, List.getD_eq_getElem?_getD, List.getElem?_drop]
theorem rd2_dropD (E : List Value) (k : Nat) : rd2 E k = rd2 (E.drop k) 0 := by
  unfold rd2
  rw [← byteAt_dropD, ← byteAt_dropD]; rfl
theorem rd4_dropD (E : List Value) (k : Nat) : rd4 E k = rd4 (E.drop k) 0 := by
  unfold rd4
  rw [← byteAt_dropD, ← byteAt_dropD, ← byteAt_dropD, ← byteAt_dropD]; rfl
theorem byteAt_be1 (x : Int) (b : List Value) : (byteAt (be1 x ++ b) 0 : Int) = x % 256 := by
  simp [byteAt, be1, nb]
  omega
theorem len_of_drop {bs E tl : List Value} {k m : Nat} (h : bs.drop k = E ++ tl) (hm : E.length = m) (h0 : 0 < m) : k + m ≤ bs.length := by
  have := congrArg List.length h
  simp only [List.length_drop, List.length_append] at this
  omega
theorem shl8 (a : Int) (w : World) (h1 : 0 ≤ a) (h2 : a ≤ 3) : (binOp .shl 3 (.int .i64 a) (.int .u64 8)).run Tryd.prog w = .ok (.int .i64 (a * 256)) w := by
  have : a = 0 ∨ a = 1 ∨ a = 2 ∨ a = 3 := by omega
  rcases this with rfl | rfl | rfl | rfl
  all_goals (go_simp; rfl)
/-- A number was read. -/
def DNum (q : Nat → Prop) (w : World) (p : Nat) (bs : List Value) (k : Nat) (x : Int) (e : Ending) (w' : World) : Prop := e = .returned (.tuple #[.int .i64 x, .bool true]) ∧ RS q w' p bs k ∧ Only w w' [p]
set_option maxRecDepth 100000 in
theorem drn_0 (p k : Nat) (bs : List Value) (x : Int) (w : World) (h : RS q w p bs k) (hx : inB (-107) 107 x = true) :
    Calls Tryd.prog 44 #[.pointer (some ⟨p, 0, none⟩), .int .i64 (x + 139)] w (DNum q w p bs k x) := by
  have hb := inB_true hx
  have C1 := fun W => dwithin_any 32 246 (x + 139) true (inB_yes (by omega) (by omega)) W
  have q1 : IntKind.i64.wrap (x + 139 - 139) = x := by rw [IntWalk.i64_in _ (by omega)]; omega
  have n1 : ¬ x + 139 = 28 := by omega
  have n2 : ¬ x + 139 = 29 := by omega
  clear hx
  go_enter Tryd.func44, Tryd.ntmps44
  go_wp2_with (first | (go_at_call 51; ((with_reducible refine (C1 _).mono ?_); rintro e w1 ⟨rfl, rfl⟩)))
  exact bodyPost_ret (v := .tuple #[.int .i64 x, .bool true]) (by simp [results, Tryd.results44, go_sem]) rfl ⟨rfl, h, Only.refl _ _⟩
set_option maxRecDepth 100000 in
theorem drn_1 (p k : Nat) (bs : List Value) (x : Int) (w : World) (h : RS q w p bs k) (hL : bs.length ≤ 4611686018427387904) (hk : k + 1 ≤ bs.length) (hv : (byteAt bs k : Int) = (x - 108) % 256) (hx : inB 108 1131 x = true) :
    Calls Tryd.prog 44 #[.pointer (some ⟨p, 0, none⟩), .int .i64 (247 + (x - 108) / 256)] w (DNum q w p bs (k + 1) x) := by
  have hb := inB_true hx
  have CU := rsU8 p bs k w h hL
  unfold rsn at CU
  rw [if_pos hk, hv] at CU
  obtain ⟨f, hf⟩ : ∃ f, (x - 108) / 256 = f := ⟨_, rfl⟩
  obtain ⟨g, hg⟩ : ∃ g, (x - 108) % 256 = g := ⟨_, rfl⟩
  have hfg : 108 + f * 256 + g = x ∧ 0 ≤ f ∧ f ≤ 3 ∧ 0 ≤ g ∧ g < 256 := by omega
  rw [hf]
  rw [hg] at CU
  have C1 := fun W => dwithin_any 32 246 (247 + f) false (by simp [inB]; omega) W
  have C2 := fun W => dwithin_any 247 250 (247 + f) true (inB_yes (by omega) (by omega)) W
  have q0 : IntKind.i64.wrap (247 + f - 247) = f := by rw [IntWalk.i64_in _ (by omega)]; omega
  have q1 := fun w => shl8 f w (by omega) (by omega)
  have q2 : IntKind.i64.wrap (108 + f * 256) = 108 + f * 256 := IntWalk.i64_in _ (by omega)
  have q3 : IntKind.i64.wrap (108 + f * 256 + g) = x := by rw [IntWalk.i64_in _ (by omega)]; omega
  have n1 : ¬ 247 + f = 28 := by omega
  have n2 : ¬ 247 + f = 29 := by omega
  clear hx hf hg hv
  go_enter Tryd.func44, Tryd.ntmps44
  go_wp2_with (first | (go_at_call 51; ((with_reducible refine (C1 _).mono ?_); rintro e w1 ⟨rfl, rfl⟩)) | (go_at_call 51; ((with_reducible refine (C2 _).mono ?_); rintro e w1 ⟨rfl, rfl⟩)) | (go_at_call 23; ((with_reducible refine (CU).mono ?_); rintro e w2 ⟨rfl, hr2, o2⟩)))
  exact bodyPost_ret (v := .tuple #[.int .i64 x, .bool true]) (by simp [results, Tryd.results44, go_sem]; try omega) rfl ⟨rfl, hr2, o2⟩
set_option maxRecDepth 100000 in
theorem drn_2 (p k : Nat) (bs : List Value) (x : Int) (w : World) (h : RS q w p bs k) (hL : bs.length ≤ 4611686018427387904) (hk : k + 1 ≤ bs.length) (hv : (byteAt bs k : Int) = (-x - 108) % 256) (hx : inB (-1131) (-108) x = true) :
    Calls Tryd.prog 44 #[.pointer (some ⟨p, 0, none⟩), .int .i64 (251 + (-x - 108) / 256)] w (DNum q w p bs (k + 1) x) := by
  have hb := inB_true hx
  have CU := rsU8 p bs k w h hL
  unfold rsn at CU
  rw [if_pos hk, hv] at CU
  obtain ⟨f, hf⟩ : ∃ f, (-x - 108) / 256 = f := ⟨_, rfl⟩
  obtain ⟨g, hg⟩ : ∃ g, (-x - 108) % 256 = g := ⟨_, rfl⟩
  have hfg : -108 - f * 256 - g = x ∧ 0 ≤ f ∧ f ≤ 3 ∧ 0 ≤ g ∧ g < 256 := by omega
  rw [hf]
  rw [hg] at CU
  have C1 := fun W => dwithin_any 32 246 (251 + f) false (by simp [inB]; omega) W
  have C2 := fun W => dwithin_any 247 250 (251 + f) false (by simp [inB]; omega) W
  have C3 := fun W => dwithin_any 251 254 (251 + f) true (inB_yes (by omega) (by omega)) W
  have q0 : IntKind.i64.wrap (251 + f - 251) = f := by rw [IntWalk.i64_in _ (by omega)]; omega
  have q1 := fun w => shl8 f w (by omega) (by omega)
  have q2 : IntKind.i64.wrap (-108 - f * 256) = -108 - f * 256 := IntWalk.i64_in _ (by omega)
  have q3 : IntKind.i64.wrap (-108 - f * 256 - g) = x := by rw [IntWalk.i64_in _ (by omega)]; omega
  have n1 : ¬ 251 + f = 28 := by omega
  have n2 : ¬ 251 + f = 29 := by omega
  clear hx hf hg hv
  go_enter Tryd.func44, Tryd.ntmps44
  go_wp2_with (first | (go_at_call 51; ((with_reducible refine (C1 _).mono ?_); rintro e w1 ⟨rfl, rfl⟩)) | (go_at_call 51; ((with_reducible refine (C2 _).mono ?_); rintro e w1 ⟨rfl, rfl⟩)) | (go_at_call 51; ((with_reducible refine (C3 _).mono ?_); rintro e w1 ⟨rfl, rfl⟩)) | (go_at_call 23; ((with_reducible refine (CU).mono ?_); rintro e w2 ⟨rfl, hr2, o2⟩)))
  exact bodyPost_ret (v := .tuple #[.int .i64 x, .bool true]) (by simp [results, Tryd.results44, go_sem]; try omega) rfl ⟨rfl, hr2, o2⟩
set_option maxRecDepth 100000 in
theorem drn_3 (p k : Nat) (bs : List Value) (x : Int) (w : World) (h : RS q w p bs k) (hL : bs.length ≤ 4611686018427387904) (hk : k + 2 ≤ bs.length) (hv : (rd2 bs k : Int) = x % 65536) (hx1 : -32768 ≤ x) (hx2 : x ≤ 32767) :
    Calls Tryd.prog 44 #[.pointer (some ⟨p, 0, none⟩), .int .i64 28] w (DNum q w p bs (k + 2) x) := by
  have CI := rsI16 p bs k w h hL
  unfold rsn at CI
  rw [if_pos hk, show s16 (rd2 bs k) = x by unfold s16; split <;> omega] at CI
  clear hv
  go_enter Tryd.func44, Tryd.ntmps44
  go_wp2_with (first | (go_at_call 64; ((with_reducible refine (CI).mono ?_); rintro e w2 ⟨rfl, hr2, o2⟩)))
  exact bodyPost_ret (v := .tuple #[.int .i64 x, .bool true]) (by simp [results, Tryd.results44, go_sem]) rfl ⟨rfl, hr2, o2⟩
set_option maxRecDepth 100000 in
theorem drn_4 (p k : Nat) (bs : List Value) (x : Int) (w : World) (h : RS q w p bs k) (hL : bs.length ≤ 4611686018427387904) (hk : k + 4 ≤ bs.length) (hv : (rd4 bs k : Int) = x % 4294967296) (hx1 : -2147483648 ≤ x) (hx2 : x ≤ 2147483647) :
    Calls Tryd.prog 44 #[.pointer (some ⟨p, 0, none⟩), .int .i64 29] w (DNum q w p bs (k + 4) x) := by
  have CU := rsU32 p bs k w h hL
  unfold rsn at CU
  rw [if_pos hk, hv] at CU
  have q1 : IntKind.i32.wrap (x % 4294967296) = x := by simp [IntKind.wrap, IntKind.bits, IntKind.signed]; omega
  have q2 : IntKind.i64.wrap x = x := IntWalk.i64_in _ (by omega)
  obtain ⟨y, hy⟩ : ∃ y, x % 4294967296 = y := ⟨_, rfl⟩
  have hyb : 0 ≤ y ∧ y < 4294967296 := by omega
  rw [hy] at CU q1
  clear hv hy
  go_enter Tryd.func44, Tryd.ntmps44
  go_wp2_with (first | (go_at_call 65; ((with_reducible refine (CU).mono ?_); rintro e w2 ⟨rfl, hr2, o2⟩)))
  exact bodyPost_ret (v := .tuple #[.int .i64 x, .bool true]) (by simp [results, Tryd.results44, go_sem, q1]) rfl ⟨rfl, hr2, o2⟩
theorem drn_any (p k : Nat) (bs tl : List Value) (x : Int) (w : World) (h : RS q w p bs k) (hL : bs.length ≤ 4611686018427387904) (hd : bs.drop k = numT x ++ tl) (hx1 : -2147483648 ≤ x) (hx2 : x ≤ 2147483647) :
    Calls Tryd.prog 44 #[.pointer (some ⟨p, 0, none⟩), .int .i64 (numH x)] w (DNum q w p bs (k + (numT x).length) x) := by
  unfold numT at hd ⊢
  unfold numH
  cases h0 : inB (-107) 107 x
  · rw [h0] at hd
    cases h1 : inB 108 1131 x
    · rw [h1] at hd
      cases h2 : inB (-1131) (-108) x
      · rw [h2] at hd
        cases h3 : inB (-32768) 32767 x
        · rw [h3] at hd
          exact drn_4 p k bs x w h hL (len_of_drop hd rfl (by decide)) (by rw [rd4_dropD]; simp only [Bool.false_eq_true, if_false] at hd; rw [hd]; exact rd4_be4 x tl) hx1 hx2
        · rw [h3] at hd
          exact drn_3 p k bs x w h hL (len_of_drop hd rfl (by decide)) (by rw [rd2_dropD]; simp only [Bool.false_eq_true, if_false, if_true] at hd; rw [hd]; exact rd2_be2 x tl) (inB_true h3).1 (inB_true h3).2
      · rw [h2] at hd
        exact drn_2 p k bs x w h hL (len_of_drop hd rfl (by decide)) (by rw [show k = k + 0 from rfl, byteAt_dropD]; simp only [Bool.false_eq_true, if_false, if_true] at hd; rw [hd]; exact byteAt_be1 _ tl) h2
    · rw [h1] at hd
      exact drn_1 p k bs x w h hL (len_of_drop hd rfl (by decide)) (by rw [show k = k + 0 from rfl, byteAt_dropD]; simp only [Bool.false_eq_true, if_false, if_true] at hd; rw [hd]; exact byteAt_be1 _ tl) h1
  · exact drn_0 p k bs x w h h0
set_option maxRecDepth 100000 in
theorem dro_any (p k : Nat) (bs tl : List Value) (x : Int) (w : World) (h : RS q w p bs k) (hL : bs.length ≤ 4611686018427387904) (hd : bs.drop k = numT x ++ tl) (hx1 : -2147483648 ≤ x) (hx2 : x ≤ 2147483647) :
    Calls Tryd.prog 25 #[.pointer (some ⟨p, 0, none⟩), .int .i64 (numH x)] w (DNum q w p bs (k + (numT x).length) (x * 65536)) := by
  have CR := drn_any p k bs tl x w h hL hd hx1 hx2
  have hn := numH_in x
  have q2 : IntKind.i64.wrap (x * 65536) = x * 65536 := IntWalk.i64_in _ (by omega)
  generalize numH x = f at *
  have n1 : ¬ f = 30 := hn.2.2
  clear hd
  go_enter Tryd.func25, Tryd.ntmps25
  go_wp2_with (first | (go_at_call 44; ((with_reducible refine (CR).mono ?_); rintro e w2 ⟨rfl, hr2, o2⟩)))
  exact bodyPost_ret (v := .tuple #[.int .i64 (x * 65536), .bool true]) (by simp [results, Tryd.results25, go_sem, q2]) rfl ⟨rfl, hr2, o2⟩
end Go.Proofs.YthoocoaalbeopaaDoor

namespace Go.Proofs.YthoocoaalbeopaaDoor
open Go Go.RowKit
set_option linter.unusedVariables false
set_option linter.unusedSimpArgs false

/-- Entries' bytes. -/
def opE (o : Int) : List Value := if 3072 ≤ o then be1 12 ++ be1 o else be1 o
def argsE (L : List Int) : List Value := L.flatMap fun x => numE (q16 x)
def putE (Es : List Ent) : List Value := Es.flatMap fun q => argsE q.2 ++ opE q.1
def mayQ (q : Ent) : Bool := mayE q.1 q.2
def roomE (Es : List Ent) : Nat := (Es.map fun q => 5 * q.2.length + 2).sum
theorem opE_len (o : Int) : (opE o).length ≤ 2 := by
  unfold opE
  split <;> simp [be1]
theorem argsE_len (L : List Int) : (argsE L).length ≤ 5 * L.length := by
  unfold argsE
  induction L with
  | nil => simp
  | cons x L ih =>
    have := (numE_len (q16 x)).2
    rw [List.flatMap_cons, List.length_append, List.length_cons]
    omega
theorem putE_snoc {Es : List Ent} {k : Nat} {q : Ent} (h : Es[k]? = some q) : putE (Es.take (k + 1)) = putE (Es.take k) ++ (argsE q.2 ++ opE q.1) := by
  unfold putE
  rw [List.take_add_one, h, List.flatMap_append]
  simp
theorem roomE_snoc {Es : List Ent} {k : Nat} {q : Ent} (h : Es[k]? = some q) : roomE (Es.take (k + 1)) = roomE (Es.take k) + (5 * q.2.length + 2) := by
  unfold roomE
  rw [List.take_add_one, h, List.map_append, List.sum_append]
  simp
theorem mayE_len {o : Int} {L : List Int} (h : mayE o L = true) : L.length ≤ 48 := by
  unfold mayE at h
  simp only [Bool.and_eq_true, decide_eq_true_eq] at h
  exact h.1.2
theorem roomE_le (Es : List Ent) (h : Es.all mayQ = true) : roomE Es ≤ 242 * Es.length := by
  unfold roomE
  induction Es with
  | nil => simp
  | cons q Es ih =>
    simp only [List.all_cons, Bool.and_eq_true] at h
    have := mayE_len h.1
    have := ih h.2
    rw [List.map_cons, List.sum_cons, List.length_cons]
    omega
theorem putE_le (Es : List Ent) : (putE Es).length ≤ roomE Es := by
  unfold roomE putE
  induction Es with
  | nil => simp
  | cons q Es ih =>
    have := argsE_len q.2
    have := opE_len q.1
    rw [List.flatMap_cons, List.length_append, List.length_append, List.map_cons, List.sum_cons]
    omega
theorem roomE_take (Es : List Ent) (k : Nat) : roomE (Es.take k) ≤ roomE Es := by
  conv => rhs; rw [← List.take_append_drop k Es]
  unfold roomE
  rw [List.map_append, List.sum_append]
  omega
theorem entSize : (Tryd.prog.info? 42).map (·.size) = some 2 := by kernel_rfl
theorem mid_ent {w : World} {b k : Nat} {u v : Value} (h0 : w.cell? ⟨b, k, none⟩ = some u) (h1 : w.cell? ⟨b, k + 1, none⟩ = some v) : w.rangeAt b k [u, v] := by
  intro j x hx
  match j, hx with
  | 0, hx => exact h0.trans hx
  | 1, hx => exact h1.trans hx

set_option maxRecDepth 100000 in
set_option maxHeartbeats 4000000 in
theorem dput_bad (A : Option Addr) (c n : Nat) (Es : List Ent) (w : World) (hE : EntAt w w.heap.size A Es) (hnn : Es.length = n) (hn : n ≤ 1000000) (hlen : ∀ q ∈ Es, q.2.length ≤ 1099511627776) (hbad : Es.all mayQ = false) :
    Calls Tryd.prog 14 #[.slice A n c] w fun e w' => e = .returned (.tuple #[.slice none 0 0, .int .i64 1]) ∧ Below w.heap.size w w' := by
  have HE := Lib.hid hE
  have HN := Lib.hid hnn
  have HLEN := Lib.hid hlen
  have HBAD := Lib.hid hbad
  clear hE hnn hlen hbad
  go_enter Tryd.func14, Tryd.ntmps14
  go_wp2
  go_loopw [4, 14] (fun rv iv wr => ∃ k : Nat, k ≤ n ∧ iv = .int .i64 (k : Nat) ∧ rv = .int .i64 (roomE (Es.take k) : Nat) ∧ Hid ((Es.take k).all mayQ = true) ∧ Below w.heap.size w wr) (fun _ iv _ => n - (intOf iv).toNat)
  case atStart => exact ⟨0, Nat.zero_le _, rfl, rfl, Lib.hid rfl, Below.refl _ _⟩
  case round =>
    obtain ⟨k, hk, rfl, rfl, hall, hb⟩ := hrel
    by_cases hlt : k < n
    · have d1 : decide ((k : Int) < (n : Int)) = true := by simp; omega
      obtain ⟨⟨o, L⟩, hq⟩ : ∃ q, Es[k]? = some q := ⟨Es[k]'(by rw [HN.out]; exact hlt), List.getElem?_eq_getElem _⟩
      obtain ⟨b, o0, Ai, ci, rfl, hbl, c0, c1, hci, hLi⟩ := HE.out.at' k _ hq
      simp only at c0 c1 hci hLi
      obtain ⟨m, hm⟩ : ∃ m, L.length = m := ⟨_, rfl⟩
      have hml : L.length ≤ 1099511627776 := HLEN.out _ (List.mem_of_getElem? hq)
      rw [hm] at c1 hci hml
      have g0 := Lib.hid (mid_ent ((hb.cell (p := ⟨b, o0 + k * 2, none⟩) hbl).trans c0) ((hb.cell (p := ⟨b, o0 + k * 2 + 1, none⟩) hbl).trans c1))
      have hr1 := roomE_le (Es.take k) hall.out
      rw [List.length_take] at hr1
      have HS := Lib.hid (show roomE (Es.take (k + 1)) = roomE (Es.take k) + (5 * m + 2) by rw [← hm]; exact roomE_snoc hq)
      obtain ⟨r, hr⟩ : ∃ r, mayE o L = r := ⟨_, rfl⟩
      have CM := fun W (hW : Below w.heap.size w W) => dmay_any o m w.heap.size Ai ci L W hW.size (hLi.below hW) hm (by omega) r hr
      have HA := Lib.hid (show (Es.take (k + 1)).all mayQ = r by rw [List.take_add_one, hq, List.all_append, hall.out]; simpa [mayQ] using hr)
      have hmr : r = true → m ≤ 48 := fun h => by rw [h] at hr; rw [← hm]; exact mayE_len hr
      generalize roomE (Es.take k) = rm at *
      have KP := Blk.new wr 42 #[.int .i64 o, .slice Ai m ci]
      have BA := hb.trans (((Below.refl wr.heap.size wr).alloc (Nat.le_refl _) (.cells #[.int .i64 o, .slice Ai m ci] 42)).mono hb.size)
      clear c0 c1 hci hLi hr hq hm
      cases r
      · skip
        go_wp2_with (first | (refine wpList_load_mid rfl 42 _ (by with_reducible rfl) b (o0 + k * 2) (by rfl) #[.int .i64 o, .slice Ai m ci].toList _ g0.out Tryd.underlying42 rfl (by kernel_rfl) ?_) | (refine wpList_store_row rfl 42 (.tmp 6) (.tmp 17) (by with_reducible rfl) wr.heap.size #[.int .i64 o, .slice Ai m ci] (by rfl) (by rfl) 42 #[.int .i64 0, .slice none 0 0] (by exact Blk.new _ _ _) entSize rfl (by simp [Value.oneCell']) ?_; rw [World.setRow_alloc_new]) | (refine wpList_load_row rfl 42 (.tmp 6) (by with_reducible rfl) wr.heap.size (by rfl) 42 #[.int .i64 o, .slice Ai m ci] (0, 0) _ (by exact KP) Tryd.underlying42 rfl entSize ?_) | (go_at_call 30; ((with_reducible refine (CM _ BA).mono ?_); rintro e w1 ⟨rfl, b1⟩)))
        exact bodyPost_ret (v := .tuple #[.slice none 0 0, .int .i64 1]) (by simp [results, Tryd.results14, go_sem]) rfl ⟨rfl, BA.trans (b1.mono BA.size)⟩
      · have hm48 := hmr rfl
        have e1 : IntKind.i64.wrap (5 * (m : Int)) = 5 * (m : Int) := IntWalk.i64_in _ (by omega)
        have e2 : IntKind.i64.wrap (5 * (m : Int) + 2) = 5 * (m : Int) + 2 := IntWalk.i64_in _ (by omega)
        have e3 : IntKind.i64.wrap ((rm : Int) + (5 * (m : Int) + 2)) = (rm : Int) + (5 * (m : Int) + 2) := IntWalk.i64_in _ (by omega)
        go_wp2_with (first | (refine wpList_load_mid rfl 42 _ (by with_reducible rfl) b (o0 + k * 2) (by rfl) #[.int .i64 o, .slice Ai m ci].toList _ g0.out Tryd.underlying42 rfl (by kernel_rfl) ?_) | (refine wpList_store_row rfl 42 (.tmp 6) (.tmp 17) (by with_reducible rfl) wr.heap.size #[.int .i64 o, .slice Ai m ci] (by rfl) (by rfl) 42 #[.int .i64 0, .slice none 0 0] (by exact Blk.new _ _ _) entSize rfl (by simp [Value.oneCell']) ?_; rw [World.setRow_alloc_new]) | (refine wpList_load_row rfl 42 (.tmp 6) (by with_reducible rfl) wr.heap.size (by rfl) 42 #[.int .i64 o, .slice Ai m ci] (0, 0) _ (by exact KP) Tryd.underlying42 rfl entSize ?_) | (go_at_call 30; ((with_reducible refine (CM _ BA).mono ?_); rintro e w1 ⟨rfl, b1⟩; have K1 := KP.below b1; have y0 := K1.cell 0; have y1 := K1.cell 1; have y2 := K1.lt; simp only [List.getElem?_toArray, List.getElem?_cons_zero, List.getElem?_cons_succ] at y0 y1)))
        go_roundw
        case rel => exact ⟨k + 1, by omega, by go_num, congrArg (Value.int .i64) (by rw [HS.out]; push_cast; omega), HA, BA.trans (b1.mono BA.size)⟩
        case measure => simp [intOf]; omega
    · obtain rfl : n = k := by omega
      have d1 : decide ((n : Int) < (n : Int)) = false := by simp
      have HT := Lib.hid (show Es.take n = Es by rw [← HN.out]; exact List.take_length)
      exact absurd hall.out (by rw [HT.out, HBAD.out]; simp)
end Go.Proofs.YthoocoaalbeopaaDoor
