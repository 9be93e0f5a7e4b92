/- Part 10 of the proof: RangeC, CvS, RangeCA, Round. -/
import Derived.RangeFuncFrom
import Derived.RangeFuncKeeps
import Derived.RangeFuncCalls
import Derived.RangeFuncLeaves
import Derived.RangeFuncNested
import Derived.RangeFuncBound
import Derived.Shelf.Abstract
import Derived.Shelf.RegionOpen
import Derived.WalkKit
import Derived.OwnWalkIn
import Derived.TacticsInMore
import Derived.LoopNIn
import Derived.LoopIn
import Derived.OrdersIn
import Derived.Laws.Rows
import Derived.Laws.Tables
import Derived.Test.YtngfillgndhfbaaCCv8

namespace Go.Proofs.Ytngfillgndhfbaa
open Go Go.RowKit

/-- What bears whatever is laid later. -/
def Stays {β : Type} (I : β → World → Prop) : Prop := ∀ s W W', I s W → Below W.heap.size W W' → I s W'

theorem stays_own {β : Type} {B : Nat} {I : β → World → Prop} (h : OwnFrom B I) : Stays I := fun s W W' hs hb =>
  h s W W' none hs ⟨hb.os, hb.tape, hb.output, hb.size, fun k hk _ => hb.block k hk⟩ (fun r e => by cases e)

/-- An iterator's word: wherever it yields x, behind those of pre, C pre x holds of the memory. -/
def SeqC {α : Type} (F : Fence) (n : Nat) (P : Program) (g : Nat) (lb : Array Value) (encs : α → Array Value) (C : List α → α → World → Prop) (Kp : World → World → Prop)
    (S Sp : List α → Prop) (w : World) : Prop :=
  ∀ (l : Nat) (J Jx : List α → World → Prop) (W : World), Below w.heap.size w W → Stays J → Stays Jx →
    (∀ pre x V, J pre V → C pre x V → YieldAt F (n - 1) P l (encs x) V fun e V' =>
      (e = .returned (.bool true) ∧ J (pre ++ [x]) V' ∧ Kp V V') ∨ (e = .returned (.bool false) ∧ Jx (pre ++ [x]) V')) →
    J [] W →
    CallsIn F n P g (#[.func (.yield l) #[] #[]] ++ lb) W fun e V => (∃ v, e = .returned v) ∧ ((∃ xs, S xs ∧ J xs V) ∨ (∃ pre, Sp pre ∧ Jx pre V))

/-- The two blocks of a loop's own, as they lie between its rounds. -/
structure Books (B : Nat) (r : Loop) (W : World) : Prop where
  marks : W.heap[B]? = some (.deferred (some []))
  record : W.heap[B + 1]? = some (.loop r)

theorem Books.lt {B : Nat} {r : Loop} {W : World} (h : Books B r W) : B + 1 < W.heap.size := (Array.getElem?_eq_some_iff.1 h.record).1
theorem Books.below {B : Nat} {r : Loop} {W V : World} (h : Books B r W) (hb : Below W.heap.size W V) : Books B r V :=
  ⟨(hb.block _ (by have := h.lt; omega)).trans h.marks, (hb.block _ h.lt).trans h.record⟩
theorem Books.put {B : Nat} {r : Loop} {W : World} (h : Books B r W) (r' : Loop) : Books B r' (W.putObj (B + 1) (.loop r')) :=
  ⟨(World.putObj_heap_other (by omega)).trans h.marks, World.putObj_heap_same h.lt⟩
theorem Books.others {B : Nat} {r : Loop} {W V : World} (h : Books B r W) (hk : KeepsOthers W V) : Books B r V :=
  ⟨hk.same _ _ h.marks rfl, hk.same _ _ h.record rfl⟩
theorem OwnFrom.book {β : Type} {B : Nat} {I : β → World → Prop} (h : OwnFrom B I) {s : β} {W : World} {r : Loop} (hb : Books B r W) (hs : I s W) (r' : Loop) : I s (W.putObj (B + 1) (.loop r')) :=
  h.putObj _ hs (by omega) hb.record rfl

variable {F : Fence} {n : Nat} {P : Program}

/-- How a body may end, by the jump that it leaves behind (none: the loop goes on). -/
def outC {α : Type} (Kp : World → World → Prop) (I : List α → World → Prop) (Ix : Code → List α → World → Prop) (xs : List α) (W : World) : Exit → Act → World → Prop
  | .normal, _, V => KeepsOthers W V ∧ Kp W V ∧ I xs V
  | .ret, _, V => KeepsOthers W V ∧ Ix .ret xs V
  | .exit id, _, V => KeepsOthers W V ∧ Ix (.exit id) xs V
  | _, _, _ => False

theorem wpIn_rangeC {α : Type} {g : Operand} {ps : Array Tmp} {assign body : Code} {Q : Exit → Act → World → Prop} {a : Act} {w : World}
    (hro : F.round = none) (h1 : 1 ≤ n) {gf : Nat} {lb : Array Value} (hg : a.eval g = .func (.func gf) #[] lb) (hFg : F.fn gf) (eg : ∀ args w, (callFunc gf args).run P w = .ok (.enter gf args) w)
    {encs : α → Array Value} {C : List α → α → World → Prop} {Kp : World → World → Prop} {S Sp : List α → Prop} {w0 : World} (hseq : SeqC F (n - 1) P gf lb encs C Kp S Sp w0)
    (hKt : ∀ {X Y Z : World}, Kp X Y → Kp Y Z → Kp X Z)
    (hKb : ∀ (W : World) (l : Nat) (o o' : Obj), w.heap.size ≤ l → W.heap[l]? = some o → o.isCells = false → o.isWalk = false → Kp W (W.putObj l o'))
    (hb0 : Below w0.heap.size w0 w) (hps : ∀ x, (encs x).size = ps.size) (hC : ∀ pre, OwnFrom w.heap.size (C pre))
    (I : List α → World → Prop) (Ix : Code → List α → World → Prop) (hI : OwnFrom w.heap.size I) (hIx : ∀ c, OwnFrom w.heap.size (Ix c)) (h0 : I [] w) (a₁ : α → Act)
    (hassign : ∀ (l : Nat) (x : α) (W : World) (K : Act → World → Prop), K (a₁ x) W →
      assign.wpIn (F.inRound l) (n - 1 - 1) P (Exit.then K (fun _ _ _ => False)) { tmps := (ps.zip (encs x)).foldl (fun t (p, v) => t.setIfInBounds p v) a.tmps, defers := [] } W)
    (hbody : ∀ (l : Nat) (pre : List α) (x : α) (W : World), I pre W → C pre x W → body.wpIn (F.inRound l) (n - 1 - 1) P (outC Kp I Ix (pre ++ [x]) W) (a₁ x) W)
    (hdone : ∀ (D : Nat) (xs : List α) (W : World), w.heap.size ≤ D → S xs → I xs W → W.heap[D]? = some (.deferred (some [])) →
      Q .normal { a with defers := { target := .collected D, args := #[] } :: a.defers } W)
    (hstop : ∀ (D : Nat) (c : Code) (pre : List α) (W : World), w.heap.size ≤ D → Sp pre → Ix c pre W → W.heap[D]? = some (.deferred (some [])) →
      c.wpIn F n P Q { a with defers := { target := .collected D, args := #[] } :: a.defers } W) :
    (Code.rangeFunc g ps assign body).wpIn F n P Q a w := by
  refine wpIn_rangeFunc fun fn hfn => ?_
  obtain ⟨r, hr⟩ : ∃ r : LoopState → Option Code → Loop, r = fun st pe => { state := st, pending := pe, fn, tmps := a.tmps, params := ps, assign, body, defers := w.heap.size } := ⟨_, rfl⟩
  have bk : Books w.heap.size (r .ready none) ((w.alloc (.deferred (some []))).alloc (.loop (r .ready none))) :=
    ⟨(Below.heap_alloc _ _ _ (by simp)).trans (World.alloc_heap_new w _), by
      have := World.alloc_heap_new (w.alloc (.deferred (some []))) (.loop (r .ready none)); rwa [World.size_alloc] at this⟩
  have ent := run_enterLoop_outer (P := P) (w := w) fn a.tmps ps assign body
  rw [show (Loop.mk .ready none fn a.tmps ps assign body w.heap.size) = r .ready none by rw [hr]] at ent
  have i0 : I [] ((w.alloc (.deferred (some []))).alloc (.loop (r .ready none))) := hI.alloc _ (hI.alloc _ h0)
  have b1 : Below w0.heap.size w0 ((w.alloc (.deferred (some []))).alloc (.loop (r .ready none))) :=
    (hb0.alloc hb0.size _).alloc (by have := hb0.size; simp; omega) _
  generalize (w.alloc (.deferred (some []))).alloc (.loop (r .ready none)) = W1 at *
  rw [hro]
  refine ⟨_, _, W1, { target := .fn (.func gf) lb, args := #[.func (.yield (w.heap.size + 1)) #[] #[]] }, W1, gf, #[.func (.yield (w.heap.size + 1)) #[] #[]] ++ lb, W1,
    ent, ?_, ?_, ?_, fun _ => h1, ?_⟩
  · simp only [resolve, hg]
    simp [go_sem]
  · intro f' hf'; simp [Target.leads] at hf'; subst hf'; exact hFg
  · simp [invoke, go_sem, eg]
  refine (hseq (w.heap.size + 1) (fun pre W => I pre W ∧ Books w.heap.size (r .ready none) W) (fun pre W => ∃ c, Ix c pre W ∧ Books w.heap.size (r .done (some c)) W) W1 b1
    (fun s W V h hb => ⟨stays_own hI s W V h.1 hb, h.2.below hb⟩)
    (fun s W V h hb => by obtain ⟨c, hc, hk⟩ := h; exact ⟨c, stays_own (hIx c) s W V hc hb, hk.below hb⟩)
    ?round ⟨i0, bk⟩).mono ?behind
  case round =>
    rintro pre x V ⟨hi, hk⟩ hc
    have y := run_yield (P := P) (args := encs x) hk.record (by rw [hr]; exact hps x)
    have bg := run_beginRound (P := P) hk.record (by rw [hr])
    obtain ⟨rb, hrb⟩ : ∃ rb, rb = { r .ready none with state := .busy } := ⟨_, rfl⟩
    rw [← hrb] at bg
    have hkb := hk.put rb
    have kp1 : Kp V (V.putObj (w.heap.size + 1) (.loop rb)) := hKb _ _ _ _ (by omega) hk.record rfl rfl
    have fin : ∀ (jump : Option Code) (V' : World), Books w.heap.size rb V' →
        (Instr.endRound (w.heap.size + 1) jump).run P V' = .ok (.bool jump.isNone) (V'.putObj (w.heap.size + 1) (.loop (r (if jump.isNone then .ready else .done) jump))) := fun jump V' h => by
      rw [run_endRound (P := P) jump h.record, hrb, hr]
    rw [hr] at y
    refine ⟨fn, _, assign, body, y, roundIn_of_wpIn hfn (hassign _ x V _ ⟨_, bg, ?_⟩)⟩
    refine wpIn_mono (hbody _ pre x _ (OwnFrom.book hI hk hi rb) (OwnFrom.book (hC pre) hk hc rb)) ?_
    rintro e a3 V' h
    cases e with
    | normal =>
      obtain ⟨h1, h2, h3⟩ := h
      have hk' := hkb.others h1
      exact ⟨_, _, fin none V' hk', .inl ⟨rfl, ⟨OwnFrom.book hI hk' h3 _, hk'.put _⟩, hKt (hKt kp1 h2) (hKb _ _ _ _ (by omega) hk'.record rfl rfl)⟩⟩
    | ret =>
      obtain ⟨h1, h3⟩ := h
      have hk' := hkb.others h1
      exact ⟨_, _, fin (some .ret) V' hk', .inr ⟨rfl, .ret, OwnFrom.book (hIx _) hk' h3 _, hk'.put _⟩⟩
    | exit id =>
      obtain ⟨h1, h3⟩ := h
      have hk' := hkb.others h1
      exact ⟨_, _, fin (some (.exit id)) V' hk', .inr ⟨rfl, .exit id, OwnFrom.book (hIx _) hk' h3 _, hk'.put _⟩⟩
    | goto t => exact h.elim
    | panic ch => exact h.elim
    | outgrown => exact h.elim
  case behind =>
    rintro e V ⟨⟨v, rfl⟩, (⟨xs, hS, hi, hk⟩ | ⟨pre, hSp, c, hi, hk⟩)⟩
    · have en := run_endLoop (P := P) hk.record (by rw [hr]; simp)
      exact ⟨_, _, en, by rw [show (r .ready none).pending = none by rw [hr]]; exact hdone _ xs _ (Nat.le_refl _) hS (OwnFrom.book hI hk hi _) (hk.put _).marks⟩
    · have en := run_endLoop (P := P) hk.record (by rw [hr]; simp)
      exact ⟨_, _, en, by rw [show (r .done (some c)).pending = some c by rw [hr]]; exact hstop _ c pre _ (Nat.le_refl _) hSp (OwnFrom.book (hIx c) hk hi _) (hk.put _).marks⟩
end Go.Proofs.Ytngfillgndhfbaa

namespace Go.Proofs.Ytngfillgndhfbaa
open Go Go.RowKit Go.Shelf
set_option linter.unusedVariables false
set_option linter.unusedSimpArgs false

/-- The places that a bow has, of any bow; of one that may be, where they lie. -/
theorem cplacesD (c : Bw) (w : World) : Calls Try.prog 22 #[bwV c] w fun e w' => ∃ A n, e = .returned (.slice A n n) ∧ (mayW c = true → n = (plc c).length ∧ ∃ b, A = some ⟨b, 0, none⟩ ∧ w.heap.size ≤ b ∧ Blk w' b 23 ((plc c).flatMap dtL).toArray) ∧ Below w.heap.size w w' := by
  obtain ⟨k, xa, ya, xb, yb, xc, yc, xd, yd⟩ := c
  unfold bwV
  dsimp only
  rcases kinds k with rfl | rfl | rfl | ⟨h1, h2, h3⟩
  · refine (places_1 xa ya xb yb xc yc xd yd w).mono ?_
    rintro e w1 ⟨b, rfl, K, hb, b1⟩
    exact ⟨_, _, rfl, fun _ => ⟨rfl, b, rfl, hb, K⟩, b1⟩
  · refine (places_2 xa ya xb yb xc yc xd yd w).mono ?_
    rintro e w1 ⟨b, rfl, K, hb, b1⟩
    exact ⟨_, _, rfl, fun _ => ⟨rfl, b, rfl, hb, K⟩, b1⟩
  · refine (places_3 xa ya xb yb xc yc xd yd w).mono ?_
    rintro e w1 ⟨b, rfl, K, hb, b1⟩
    exact ⟨_, _, rfl, fun _ => ⟨rfl, b, rfl, hb, K⟩, b1⟩
  · refine (places_0 k xa ya xb yb xc yc xd yd w h1 h2 h3).mono ?_
    rintro e w1 ⟨rfl, b1⟩
    exact ⟨none, 0, rfl, fun h => (by exfalso; unfold mayW at h; rw [plc_0 (c := ⟨k, xa, ya, xb, yb, xc, yc, xd, yd⟩) h1 h2 h3] at h; cases h), b1⟩
/-- A place of a bow that may be, from its places as they lie. -/
theorem catD (c : Bw) (h : mayW c = true) (b : Nat) (i n : Int) (n1 : 1 ≤ n) (n2 : n ≤ 512) (i0 : 0 ≤ i) (i1 : i ≤ n) (w : World) (K : Blk w b 23 ((plc c).flatMap dtL).toArray) :
    Calls Try.prog 31 #[.slice (some ⟨b, 0, none⟩) (plc c).length (plc c).length, .int .i64 i, .int .i64 n] w fun e w' => e = .returned (.agg #[.int .i64 (atW c i n).1, .int .i64 (atW c i n).2]) ∧ Below w.heap.size w w' := by
  obtain ⟨m, hl, m1, m3⟩ := plc_len h
  have A := at_any m w.heap.size (some ⟨b, 0, none⟩) (plc c).length (plc c) i n w (Nat.le_refl _) ((lists_blkD K).more K.lt) hl m3 (any_of_may h) i0 i1 n2 (al_pos ⟨m1, m3⟩ n1)
  have hxy := plc_at hl i n
  have ex : dpx (plc c) i n m = (atW c i n).1 := congrArg Prod.fst hxy
  have ey : dpy (plc c) i n m = (atW c i n).2 := congrArg Prod.snd hxy
  rw [ex, ey] at A
  rw [hl] at A ⊢
  exact A
/-- What a body may do: but for one block all rows stay. -/
def KpD (nb : Nat) (V V' : World) : Prop := Below nb V V' ∧ ∀ (b : Nat) (o : Obj), b ≠ nb → V.heap[b]? = some o → o.isCells = true → V'.heap[b]? = some o
theorem KpD.trans {nb : Nat} {X Y Z : World} (h : KpD nb X Y) (k : KpD nb Y Z) : KpD nb X Z := ⟨h.1.trans k.1, fun b o hb ho hc => k.2 b o hb (h.2 b o hb ho hc) hc⟩
theorem KpD.blk {nb b : Nat} {T : TypeId} {cs : Array Value} {V V' : World} (h : KpD nb V V') (K : Blk V b T cs) (hb : b ≠ nb) : Blk V' b T cs := h.2 b _ hb K rfl

theorem kpD_b {nb : Nat} {w : World} (hn : nb ≤ w.heap.size) (W : World) (l : Nat) (o o' : Obj) (hl : w.heap.size ≤ l) (h : W.heap[l]? = some o) (h1 : o.isCells = false) (h2 : o.isWalk = false) : KpD nb W (W.putObj l o') :=
  ⟨belowK_b hn W l o o' hl h h1 h2, fun b p hb hp hc => (World.putObj_heap_other (fun e => by subst e; rw [h] at hp; cases hp; rw [h1] at hc; cases hc)).trans hp⟩
theorem blk_grownD {X Y : World} {row : Option Nat} {B p : Nat} {T : TypeId} {cs : Array Value} (h : Blk X p T cs) (hp : p < B) (hg : X.grownBy Y row) (hr : ∀ r, row = some r → B ≤ r ∧ ∃ o : Obj, X.heap[r]? = some o ∧ o.isCells = false) : Blk Y p T cs :=
  (hg.block p h.lt (fun e => by have := (hr p e.symm).1; omega)).trans h
theorem blk_keptD {X Y : World} {row : Option Nat} {p : Nat} {T : TypeId} {cs : Array Value} (h : Blk X p T cs) (hg : X.grownBy Y row) (hr : ∀ r, row = some r → ∃ o : Obj, X.heap[r]? = some o ∧ o.isCells = false) : Blk Y p T cs :=
  (hg.block p h.lt (fun e => by obtain ⟨o, ho, hc⟩ := hr p e.symm; rw [show X.heap[p]? = _ from h] at ho; cases ho; cases hc)).trans h
attribute [local go_sem] Oper.semAt_some
set_option maxRecDepth 100000 in
set_option maxHeartbeats 1000000 in
theorem dots_stops (Bx nb N : Nat) (c : Bw) (w0 : World) (hK : Blk w0 Bx 25 (bwL c).toArray) (hz : nb < w0.heap.size) (hN : pcW c = N) :
    SeqC Fence.wide 2 Try.prog 33 #[.pointer (some ⟨Bx, 0, none⟩)] (fun x : Dt => #[.agg #[.int .i64 x.1, .int .i64 x.2]]) (fun pre x _ => pre.length < N ∧ x = atW c ((pre.length : Int) + 1) N) (KpD nb) (fun xs => xs.length = N) (fun _ => True) w0 := by
  intro l J Jx W hW hJ hJx hY h0
  have hn : N ≤ 256 := by
    have := pcs_in (need c)
    unfold pcW at hN
    split at hN <;> omega
  have hmay : 1 ≤ N → mayW c = true := fun h => by
    unfold pcW at hN
    split at hN
    · assumption
    · omega
  have hsw := hW.size
  have CP := fun V => cpcs_any c V
  have CD := fun V => cplacesD c V
  have HA := Lib.hid (fun (h : mayW c = true) (b : Nat) (k : Nat) (hk : k < N) (V : World) (K : Blk V b 23 ((plc c).flatMap dtL).toArray) => catD c h b ((k : Int) + 1) N (by omega) (by omega) (by omega) (by omega) V K)
  rw [hN] at CP
  have KW := hK.below hW
  have kl := KW.lt
  have HKW := Lib.hid KW
  have HM := Lib.hid hmay
  clear hmay hN hK
  have k0 := KW.cell 0
  have k1 := KW.cell 1
  have k2 := KW.cell 2
  have k3 := KW.cell 3
  have k4 := KW.cell 4
  have k5 := KW.cell 5
  have k6 := KW.cell 6
  have k7 := KW.cell 7
  have k8 := KW.cell 8
  simp only [bwL, List.getElem?_toArray, List.getElem?_cons_succ, List.getElem?_cons_zero] at k0 k1 k2 k3 k4 k5 k6 k7 k8
  simp only [bwV] at CP CD
  clear KW
  refine callsIn_of_wp Try.func33 rfl trivial ?_ rfl
  simp only [Try.ntmps33, List.size_toArray, List.length_cons, List.length_nil, Nat.reduceAdd, Nat.reduceSub, Array.replicate_succ, Array.replicate_zero, List.push_toArray, List.append_toArray, List.nil_append, List.cons_append]
  gi_wp2_with (refine ⟨trivial, ?_⟩; first
    | (gi_at_call 9; ((refine (callsIn_wide.2 (CP _)).mono ?_); rintro e w3 ⟨rfl, b3⟩; have K3 := HKW.out.below b3; have kl := K3.lt; have k0 := K3.cell 0; have k1 := K3.cell 1; have k2 := K3.cell 2; have k3 := K3.cell 3; have k4 := K3.cell 4; have k5 := K3.cell 5; have k6 := K3.cell 6; have k7 := K3.cell 7; have k8 := K3.cell 8; simp only [bwL, List.getElem?_toArray, List.getElem?_cons_succ, List.getElem?_cons_zero] at k0 k1 k2 k3 k4 k5 k6 k7 k8; clear K3))
    | (gi_at_call 22; ((refine (callsIn_wide.2 (CD _)).mono ?_); rintro e w4 ⟨A, m, rfl, hpl, b4⟩; have b34 := b3.trans (b4.mono b3.size); have hs34 := b3.size; have h1 := hJ _ _ _ h0 b34; clear k0 k1 k2 k3 k4 k5 k6 k7 k8 kl)))
  have HP := Lib.hid hpl
  have hs4 := b34.size
  have hs5 := b4.size
  clear hpl b3 b4
  gi_loopw [11] (fun i wr => ∃ pre : List Dt, pre.length ≤ N ∧ i = .int .i64 pre.length ∧ J pre wr ∧ KpD nb w4 wr) (fun i _ => N - (intOf i).toNat)
  case atStart => exact ⟨[], Nat.zero_le _, rfl, h1, Below.refl _ _, fun _ _ _ h _ => h⟩
  case round =>
    obtain ⟨pre, hk, rfl, hJk, hb⟩ := hrel
    obtain ⟨k, hpk⟩ : ∃ k, pre.length = k := ⟨_, rfl⟩
    have HPK := Lib.hid hpk
    rw [hpk] at hk
    clear h0 h1
    by_cases hlt : k < N
    · have d1 : pre.length < N := by rw [hpk]; exact hlt
      have hm := HM.out (by omega)
      obtain ⟨rfl, b, rfl, hbl, K4⟩ := HP.out hm
      have CA := HA.out hm b k hlt wr (hb.blk K4 (by omega))
      rw [← hpk] at CA
      have hkn : k < 256 := by omega
      have e1 : IntKind.i64.wrap ((pre.length : Int) + 1) = (pre.length : Int) + 1 := IntWalk.i64_in _ (by omega)
      clear hpk
      gi_wp2_with (refine ⟨trivial, ?_⟩; first
        | (gi_at_call 31; ((refine (callsIn_wide.2 CA).mono ?_); rintro e w5 ⟨rfl, b5⟩; obtain ⟨fn, tmps, assign, body, hy, hRd⟩ := hY pre (atW c ((pre.length : Int) + 1) N) w5 (hJ _ _ _ hJk b5) ⟨by rw [HPK.out]; exact hlt, rfl⟩)))
      refine hRd.mono ?_
      rintro e V (⟨rfl, hJ3, lv⟩ | ⟨rfl, hJx3⟩)
      · gi_wp2
        go_roundw
        case rel => exact ⟨_, by rw [List.length_append, HPK.out]; simp; omega, by rw [List.length_append]; go_num, hJ3, (hb.trans ⟨b5.mono (by have := hb.1.size; omega), fun b o hb ho hc => (b5.block b (Array.getElem?_eq_some_iff.1 ho).1).trans ho⟩).trans lv⟩
        case measure => simp [intOf]; omega
      · gi_wp2
        refine bodyPost_ret (results_none rfl _ _ _) rfl ?_
        exact ⟨⟨_, rfl⟩, .inr ⟨_, trivial, hJx3⟩⟩
    · have d1 : ¬ pre.length < N := by rw [hpk]; exact hlt
      gi_wp2
      go_end0
      exact ⟨⟨_, rfl⟩, .inl ⟨pre, by rw [HPK.out]; omega, hJk⟩⟩
end Go.Proofs.Ytngfillgndhfbaa

namespace Go.Proofs.Ytngfillgndhfbaa
open Go Go.RowKit
variable {F : Fence} {n : Nat} {P : Program}

theorem wpIn_rangeCA {α : Type} {g : Operand} {ps : Array Tmp} {assign body : Code} {Q : Exit → Act → World → Prop} {a : Act} {w : World}
    (hro : F.round = none) (h1 : 1 ≤ n) {gf : Nat} {lb : Array Value} (hg : a.eval g = .func (.func gf) #[] lb) (hFg : F.fn gf) (eg : ∀ args w, (callFunc gf args).run P w = .ok (.enter gf args) w)
    {encs : α → Array Value} {C : List α → α → World → Prop} {Kp : World → World → Prop} {S Sp : List α → Prop} {w0 : World} (hseq : SeqC F (n - 1) P gf lb encs C Kp S Sp w0)
    (hKt : ∀ {X Y Z : World}, Kp X Y → Kp Y Z → Kp X Z)
    (hKb : ∀ (W : World) (l : Nat) (o o' : Obj), w.heap.size ≤ l → W.heap[l]? = some o → o.isCells = false → o.isWalk = false → Kp W (W.putObj l o'))
    (hb0 : Below w0.heap.size w0 w) (hps : ∀ x, (encs x).size = ps.size) (hC : ∀ pre, OwnFrom w.heap.size (C pre))
    (I : List α → World → Prop) (Ix : Code → List α → World → Prop) (hI : OwnFrom w.heap.size I) (hIx : ∀ c, OwnFrom w.heap.size (Ix c)) (h0 : I [] w) (Ax : α → Act → World → Prop) (hAx : ∀ x a', OwnFrom w.heap.size (fun (_ : List α) W => Ax x a' W))
    (hassign : ∀ (l : Nat) (pre : List α) (x : α) (W : World) (K : Act → World → Prop), I pre W → C pre x W → (∀ a' W', Below W.heap.size W W' → Kp W W' → I pre W' → C pre x W' → Ax x a' W' → K a' W') →
      assign.wpIn (F.inRound l) (n - 1 - 1) P (Exit.then K (fun _ _ _ => False)) { tmps := (ps.zip (encs x)).foldl (fun t (p, v) => t.setIfInBounds p v) a.tmps, defers := [] } W)
    (hbody : ∀ (l : Nat) (pre : List α) (x : α) (a' : Act) (W : World), I pre W → C pre x W → Ax x a' W → body.wpIn (F.inRound l) (n - 1 - 1) P (outC Kp I Ix (pre ++ [x]) W) a' W)
    (hdone : ∀ (D : Nat) (xs : List α) (W : World), w.heap.size ≤ D → S xs → I xs W → W.heap[D]? = some (.deferred (some [])) →
      Q .normal { a with defers := { target := .collected D, args := #[] } :: a.defers } W)
    (hstop : ∀ (D : Nat) (c : Code) (pre : List α) (W : World), w.heap.size ≤ D → Sp pre → Ix c pre W → W.heap[D]? = some (.deferred (some [])) →
      c.wpIn F n P Q { a with defers := { target := .collected D, args := #[] } :: a.defers } W) :
    (Code.rangeFunc g ps assign body).wpIn F n P Q a w := by
  refine wpIn_rangeFunc fun fn hfn => ?_
  obtain ⟨r, hr⟩ : ∃ r : LoopState → Option Code → Loop, r = fun st pe => { state := st, pending := pe, fn, tmps := a.tmps, params := ps, assign, body, defers := w.heap.size } := ⟨_, rfl⟩
  have bk : Books w.heap.size (r .ready none) ((w.alloc (.deferred (some []))).alloc (.loop (r .ready none))) :=
    ⟨(Below.heap_alloc _ _ _ (by simp)).trans (World.alloc_heap_new w _), by
      have := World.alloc_heap_new (w.alloc (.deferred (some []))) (.loop (r .ready none)); rwa [World.size_alloc] at this⟩
  have ent := run_enterLoop_outer (P := P) (w := w) fn a.tmps ps assign body
  rw [show (Loop.mk .ready none fn a.tmps ps assign body w.heap.size) = r .ready none by rw [hr]] at ent
  have i0 : I [] ((w.alloc (.deferred (some []))).alloc (.loop (r .ready none))) := hI.alloc _ (hI.alloc _ h0)
  have b1 : Below w0.heap.size w0 ((w.alloc (.deferred (some []))).alloc (.loop (r .ready none))) :=
    (hb0.alloc hb0.size _).alloc (by have := hb0.size; simp; omega) _
  generalize (w.alloc (.deferred (some []))).alloc (.loop (r .ready none)) = W1 at *
  rw [hro]
  refine ⟨_, _, W1, { target := .fn (.func gf) lb, args := #[.func (.yield (w.heap.size + 1)) #[] #[]] }, W1, gf, #[.func (.yield (w.heap.size + 1)) #[] #[]] ++ lb, W1,
    ent, ?_, ?_, ?_, fun _ => h1, ?_⟩
  · simp only [resolve, hg]
    simp [go_sem]
  · intro f' hf'; simp [Target.leads] at hf'; subst hf'; exact hFg
  · simp [invoke, go_sem, eg]
  refine (hseq (w.heap.size + 1) (fun pre W => I pre W ∧ Books w.heap.size (r .ready none) W) (fun pre W => ∃ c, Ix c pre W ∧ Books w.heap.size (r .done (some c)) W) W1 b1
    (fun s W V h hb => ⟨stays_own hI s W V h.1 hb, h.2.below hb⟩)
    (fun s W V h hb => by obtain ⟨c, hc, hk⟩ := h; exact ⟨c, stays_own (hIx c) s W V hc hb, hk.below hb⟩)
    ?round ⟨i0, bk⟩).mono ?behind
  case round =>
    rintro pre x V ⟨hi, hk⟩ hc
    have y := run_yield (P := P) (args := encs x) hk.record (by rw [hr]; exact hps x)
    rw [hr] at y
    refine ⟨fn, _, assign, body, y, roundIn_of_wpIn hfn (hassign _ pre x V _ hi hc fun a' V1 hbl hkp hi1 hc1 hax => ?_)⟩
    have hk1 := hk.below hbl
    have bg := run_beginRound (P := P) hk1.record (by rw [hr])
    obtain ⟨rb, hrb⟩ : ∃ rb, rb = { r .ready none with state := .busy } := ⟨_, rfl⟩
    rw [← hrb] at bg
    have hkb := hk1.put rb
    have hl1 := hbl.size
    have kp1 : Kp V (V1.putObj (w.heap.size + 1) (.loop rb)) := hKt hkp (hKb _ _ _ _ (by omega) hk1.record rfl rfl)
    have fin : ∀ (jump : Option Code) (V' : World), Books w.heap.size rb V' →
        (Instr.endRound (w.heap.size + 1) jump).run P V' = .ok (.bool jump.isNone) (V'.putObj (w.heap.size + 1) (.loop (r (if jump.isNone then .ready else .done) jump))) := fun jump V' h => by
      rw [run_endRound (P := P) jump h.record, hrb, hr]
    refine ⟨_, bg, ?_⟩
    refine wpIn_mono (hbody _ pre x a' _ (OwnFrom.book hI hk1 hi1 rb) (OwnFrom.book (hC pre) hk1 hc1 rb) (OwnFrom.book (s := pre) (hAx x a') hk1 hax rb)) ?_
    rintro e a3 V' h
    cases e with
    | normal =>
      obtain ⟨h1, h2, h3⟩ := h
      have hk' := hkb.others h1
      exact ⟨_, _, fin none V' hk', .inl ⟨rfl, ⟨OwnFrom.book hI hk' h3 _, hk'.put _⟩, hKt (hKt kp1 h2) (hKb _ _ _ _ (by omega) hk'.record rfl rfl)⟩⟩
    | ret =>
      obtain ⟨h1, h3⟩ := h
      have hk' := hkb.others h1
      exact ⟨_, _, fin (some .ret) V' hk', .inr ⟨rfl, .ret, OwnFrom.book (hIx _) hk' h3 _, hk'.put _⟩⟩
    | exit id =>
      obtain ⟨h1, h3⟩ := h
      have hk' := hkb.others h1
      exact ⟨_, _, fin (some (.exit id)) V' hk', .inr ⟨rfl, .exit id, OwnFrom.book (hIx _) hk' h3 _, hk'.put _⟩⟩
    | goto t => exact h.elim
    | panic ch => exact h.elim
    | outgrown => exact h.elim
  case behind =>
    rintro e V ⟨⟨v, rfl⟩, (⟨xs, hS, hi, hk⟩ | ⟨pre, hSp, c, hi, hk⟩)⟩
    · have en := run_endLoop (P := P) hk.record (by rw [hr]; simp)
      exact ⟨_, _, en, by rw [show (r .ready none).pending = none by rw [hr]]; exact hdone _ xs _ (Nat.le_refl _) hS (OwnFrom.book hI hk hi _) (hk.put _).marks⟩
    · have en := run_endLoop (P := P) hk.record (by rw [hr]; simp)
      exact ⟨_, _, en, by rw [show (r .done (some c)).pending = some c by rw [hr]]; exact hstop _ c pre _ (Nat.le_refl _) hSp (OwnFrom.book (hIx c) hk hi _) (hk.put _).marks⟩
end Go.Proofs.Ytngfillgndhfbaa

namespace Go.Proofs.Ytngfillgndhfbaa
open Go Go.RowKit
set_option linter.unusedVariables false
set_option linter.unusedSimpArgs false

section
variable {P : Program} {ops : Array Oper} {Q : Exit → Act → World → Prop} {md : Region.Mode} {n r : Nat}

theorem oper_in {o : Oper} {a : Act} {w : World} {K : Act → World → Prop} (hd : ∀ c, o.op ≠ .defer c) (h : o.wp P a w K Q) : o.wpIn (Fence.wide.inRound r) n P a w K Q := by
  refine ⟨fun _ _ => trivial, ?_⟩
  rw [show (Fence.wide.inRound r).round = some r from rfl, Oper.semAt_some _ _ _ hd]
  unfold Oper.wp at h
  generalize (execOp a.eval o).run P w = x at *
  cases x with
  | ok y w' =>
    cases y <;> simp only [Oper.upon] at h <;> simp only [Oper.uponIn]
    case value => exact h
    case skip => exact h
    case defer => exact h
    case enter => exact ⟨fun hc => by simp [Fence.wide, Fence.inRound] at hc, CallsIn.inRound r (callsIn_wide.2 h)⟩
    case row => exact ⟨fun hc => by simp [Fence.wide, Fence.inRound] at hc, fun c cs _ => let ⟨v, w', k, s⟩ := h c cs; ⟨v, w', k, stepsIn_wide.2 s⟩⟩
  | halt y w' =>
    cases y <;> simp only [Oper.upon] at h <;> simp only [Oper.uponIn]
    exact h
def noDefer (ops : Array Oper) : Bool := ops.toList.all fun o => match o.op with | .defer _ => false | _ => true
theorem noDefer_spec (h : noDefer ops = true) {i : Nat} {o : Oper} (hi : ops[i]? = some o) : ∀ c, o.op ≠ .defer c := fun c e => by
  have hm : o ∈ ops.toList := by
    obtain ⟨k, hk⟩ := Array.getElem?_eq_some_iff.1 hi
    exact List.mem_iff_getElem.2 ⟨i, by simpa using k, by simpa using hk⟩
  have := List.all_eq_true.1 h o hm
  rw [e] at this
  cases this
theorem opOp_in (hd : noDefer ops = true) (hQ : ¬ LetsOut Q) {i : Nat} {a : Act} {w : World} {K : Act → World → Prop} (h : wpOp P ops Q i K a w) : wpOpIn (Fence.wide.inRound r) n P ops Q i K a w := by
  unfold wpOp at h
  unfold wpOpIn
  cases ho : ops[i]? with
  | none => rw [ho] at h; exact h
  | some o =>
    rw [ho] at h
    simp only at h ⊢
    split at h
    · rename_i hw
      rw [if_pos hw]
      rcases h with h | h
      · exact oper_in (noDefer_spec hd ho) h
      · exact absurd h.2 hQ
    · rename_i hw
      rw [if_neg hw]
      exact ⟨fun _ _ => trivial, h⟩
theorem any_in (hd : noDefer ops = true) (hQ : ¬ LetsOut Q) : ∀ (fuel : Nat) (listed : Array Bool) (a : Act) (w : World), wpAny P md ops Q fuel listed a w → wpAnyIn (Fence.wide.inRound r) n P md ops Q fuel listed a w
  | 0, _, _, _, h => h
  | fuel + 1, _, _, _, h => ⟨h.1, fun i hi => wpOpIn_mono (fun _ _ k => any_in hd hQ fuel _ _ _ k) (opOp_in hd hQ (h.2 i hi))⟩
/-- A region whose order is open, in a round: walked in one order. -/
theorem wpIn_region_chain {id : Nat} {a : Act} {w : World} (I : World → Prop) (ord : List (Nat × Bool)) (hm : P.follows .mixedOrders = true) (hd : noDefer ops = true) (hok : chainOk .any ops ord = true) (hQ : ¬ LetsOut Q) (hI : I w.drew)
    (h : ChainL P ops (Q .normal) I ord a w.drew) : (Code.region id ops true).wpIn (Fence.wide.inRound r) n P Q a w := by
  refine wpIn_region_any hm ?_
  unfold chainOk at hok
  simp only [Bool.and_eq_true, decide_eq_true_eq] at hok
  exact any_in hd hQ _ _ _ _ (PlanC.any alone_none (fun i o cs b hi => Region.noSelect_spec hok.1.1 i o cs b hi) ops.size (ord.length + 0) _ a w.drew (DC.none _) (by omega) hI
    (ChainL.plan (fun h => absurd h (Nat.lt_irrefl _)) (fun a w h => by rw [if_neg (Nat.lt_irrefl _)]; exact h) ord _ a _ hok.2 h))

variable {rest : List Oper} {o : Oper} {a : Act} {w : World}
/-- Plain regions' steps on whole rows, in a round. -/
theorem wpListIn_load_row (hgd : o.guard = none) (ty : TypeId) (x : Operand) (ho : o.op = .load ty x)
    (g : Nat) (hx : a.eval x = .pointer (some ⟨g, 0, none⟩)) (t : TypeId) (cs : Array Value) (fr : Nat × Nat) (d : TypeDesc) (hg : w.heap[g]? = some (.cells cs t fr))
    (hu : P.underlying ty = some d) (hd : (match d with | .struct _ | .array _ _ => true | _ => false) = true) (hi : (P.info? ty).map (·.size) = some cs.size)
    (h : wpListIn (Fence.wide.inRound r) n P ops Q rest (a.put o.dst (.agg cs)) w) : wpListIn (Fence.wide.inRound r) n P ops Q (o :: rest) a w :=
  wpListIn_plain hgd fun _ hK => oper_in (fun c e => by rw [ho] at e; cases e) (wp_load_row ty x ho g hx t cs fr d hg hu hd hi (hK _ _ h))
theorem wpListIn_store_row (hgd : o.guard = none) (ty : TypeId) (x y : Operand) (ho : o.op = .store ty x y)
    (g : Nat) (cells : Array Value) (hx : a.eval x = .pointer (some ⟨g, 0, none⟩)) (hy : a.eval y = .agg cells)
    (t : TypeId) (old : Array Value) (hg : w.heap[g]? = some (.cells old t (0, 0))) (hi : (P.info? ty).map (·.size) = some cells.size)
    (hold : old.size = cells.size) (h1 : cells.all (·.oneCell') = true)
    (h : wpListIn (Fence.wide.inRound r) n P ops Q rest (a.put o.dst undef) (w.setRow g cells)) : wpListIn (Fence.wide.inRound r) n P ops Q (o :: rest) a w :=
  wpListIn_plain hgd fun _ hK => oper_in (fun c e => by rw [ho] at e; cases e) (wp_store_row ty x y ho g cells hx hy t old hg hi hold h1 (hK _ _ h))
end
end Go.Proofs.Ytngfillgndhfbaa
