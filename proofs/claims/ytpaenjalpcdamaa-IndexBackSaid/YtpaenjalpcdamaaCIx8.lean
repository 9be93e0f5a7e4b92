/- Part 9 of the proof: Round, IxU, IxY, Rw1, Rw2. -/
import Derived.RangeFuncNested
import Derived.RangeFuncBound
import Derived.RangeFuncCalls
import Derived.RangeFuncLeaves
import Derived.OrdersIn
import Derived.Laws.Rows
import Derived.Laws.Tables
import Derived.LoopTactic
import Derived.Outline
import Derived.Test.YtpaenjalpcdamaaCIx7

namespace Go.Proofs.Ytpaenjalpcdamaa
open Go Go.RowKit
set_option linter.unusedVariables false
set_option linter.unusedSimpArgs false

section
variable {P : Program} {ops : Array Oper} {Q : Exit → Act → World → Prop} {md : Region.Mode} {n r : Nat}

theorem oper_in {o : Oper} {a : Act} {w : World} {K : Act → World → Prop} (hd : ∀ c, o.op ≠ .defer c) (h : o.wp P a w K Q) : o.wpIn (Fence.wide.inRound r) n P a w K Q := by
  refine ⟨fun _ _ => trivial, ?_⟩
  rw [show (Fence.wide.inRound r).round = some r from rfl, Oper.semAt_some _ _ _ hd]
  unfold Oper.wp at h
  generalize (execOp a.eval o).run P w = x at *
  cases x with
  | ok y w' =>
    cases y <;> simp only [Oper.upon] at h <;> simp only [Oper.uponIn]
    case value => exact h
    case skip => exact h
    case defer => exact h
    case enter => exact ⟨fun hc => by simp [Fence.wide, Fence.inRound] at hc, CallsIn.inRound r (callsIn_wide.2 h)⟩
    case row => exact ⟨fun hc => by simp [Fence.wide, Fence.inRound] at hc, fun c cs _ => let ⟨v, w', k, s⟩ := h c cs; ⟨v, w', k, stepsIn_wide.2 s⟩⟩
  | halt y w' =>
    cases y <;> simp only [Oper.upon] at h <;> simp only [Oper.uponIn]
    exact h
def noDefer (ops : Array Oper) : Bool := ops.toList.all fun o => match o.op with | .defer _ => false | _ => true
theorem noDefer_spec (h : noDefer ops = true) {i : Nat} {o : Oper} (hi : ops[i]? = some o) : ∀ c, o.op ≠ .defer c := fun c e => by
  have hm : o ∈ ops.toList := by
    obtain ⟨k, hk⟩ := Array.getElem?_eq_some_iff.1 hi
    exact List.mem_iff_getElem.2 ⟨i, by simpa using k, by simpa using hk⟩
  have := List.all_eq_true.1 h o hm
  rw [e] at this
  cases this
theorem opOp_in (hd : noDefer ops = true) (hQ : ¬ LetsOut Q) {i : Nat} {a : Act} {w : World} {K : Act → World → Prop} (h : wpOp P ops Q i K a w) : wpOpIn (Fence.wide.inRound r) n P ops Q i K a w := by
  unfold wpOp at h
  unfold wpOpIn
  cases ho : ops[i]? with
  | none => rw [ho] at h; exact h
  | some o =>
    rw [ho] at h
    simp only at h ⊢
    split at h
    · rename_i hw
      rw [if_pos hw]
      rcases h with h | h
      · exact oper_in (noDefer_spec hd ho) h
      · exact absurd h.2 hQ
    · rename_i hw
      rw [if_neg hw]
      exact ⟨fun _ _ => trivial, h⟩
theorem any_in (hd : noDefer ops = true) (hQ : ¬ LetsOut Q) : ∀ (fuel : Nat) (listed : Array Bool) (a : Act) (w : World), wpAny P md ops Q fuel listed a w → wpAnyIn (Fence.wide.inRound r) n P md ops Q fuel listed a w
  | 0, _, _, _, h => h
  | fuel + 1, _, _, _, h => ⟨h.1, fun i hi => wpOpIn_mono (fun _ _ k => any_in hd hQ fuel _ _ _ k) (opOp_in hd hQ (h.2 i hi))⟩
/-- A region whose order is open, in a round: walked in one order. -/
theorem wpIn_region_chain {id : Nat} {a : Act} {w : World} (I : World → Prop) (ord : List (Nat × Bool)) (hm : P.follows .mixedOrders = true) (hd : noDefer ops = true) (hok : chainOk .any ops ord = true) (hQ : ¬ LetsOut Q) (hI : I w.drew)
    (h : ChainL P ops (Q .normal) I ord a w.drew) : (Code.region id ops true).wpIn (Fence.wide.inRound r) n P Q a w := by
  refine wpIn_region_any hm ?_
  unfold chainOk at hok
  simp only [Bool.and_eq_true, decide_eq_true_eq] at hok
  exact any_in hd hQ _ _ _ _ (PlanC.any alone_none (fun i o cs b hi => Region.noSelect_spec hok.1.1 i o cs b hi) ops.size (ord.length + 0) _ a w.drew (DC.none _) (by omega) hI
    (ChainL.plan (fun h => absurd h (Nat.lt_irrefl _)) (fun a w h => by rw [if_neg (Nat.lt_irrefl _)]; exact h) ord _ a _ hok.2 h))

variable {rest : List Oper} {o : Oper} {a : Act} {w : World}
/-- Plain regions' steps on whole rows, in a round. -/
theorem wpListIn_load_row (hgd : o.guard = none) (ty : TypeId) (x : Operand) (ho : o.op = .load ty x)
    (g : Nat) (hx : a.eval x = .pointer (some ⟨g, 0, none⟩)) (t : TypeId) (cs : Array Value) (fr : Nat × Nat) (d : TypeDesc) (hg : w.heap[g]? = some (.cells cs t fr))
    (hu : P.underlying ty = some d) (hd : (match d with | .struct _ | .array _ _ => true | _ => false) = true) (hi : (P.info? ty).map (·.size) = some cs.size)
    (h : wpListIn (Fence.wide.inRound r) n P ops Q rest (a.put o.dst (.agg cs)) w) : wpListIn (Fence.wide.inRound r) n P ops Q (o :: rest) a w :=
  wpListIn_plain hgd fun _ hK => oper_in (fun c e => by rw [ho] at e; cases e) (wp_load_row ty x ho g hx t cs fr d hg hu hd hi (hK _ _ h))
theorem wpListIn_store_row (hgd : o.guard = none) (ty : TypeId) (x y : Operand) (ho : o.op = .store ty x y)
    (g : Nat) (cells : Array Value) (hx : a.eval x = .pointer (some ⟨g, 0, none⟩)) (hy : a.eval y = .agg cells)
    (t : TypeId) (old : Array Value) (hg : w.heap[g]? = some (.cells old t (0, 0))) (hi : (P.info? ty).map (·.size) = some cells.size)
    (hold : old.size = cells.size) (h1 : cells.all (·.oneCell') = true)
    (h : wpListIn (Fence.wide.inRound r) n P ops Q rest (a.put o.dst undef) (w.setRow g cells)) : wpListIn (Fence.wide.inRound r) n P ops Q (o :: rest) a w :=
  wpListIn_plain hgd fun _ hK => oper_in (fun c e => by rw [ho] at e; cases e) (wp_store_row ty x y ho g cells hx hy t old hg hi hold h1 (hK _ _ h))
end
end Go.Proofs.Ytpaenjalpcdamaa

namespace Go.Proofs.Ytpaenjalpcdamaa
open Go Go.RowKit Go.Shelf
set_option linter.unusedVariables false
set_option linter.unusedSimpArgs false

theorem blk_al {w : World} {p : Nat} {T : TypeId} {cs : Array Value} (h : Blk w p T cs) (o : Obj) : Blk (w.alloc o) p T cs := h.below ((Below.refl _ _).alloc (Nat.le_refl _) o)
theorem blk_grownU {X Y : World} {row : Option Nat} {B p : Nat} {T : TypeId} {cs : Array Value} (h : Blk X p T cs) (hp : p < B) (hg : X.grownBy Y row) (hr : ∀ r, row = some r → B ≤ r ∧ ∃ o : Obj, X.heap[r]? = some o ∧ o.isCells = false) : Blk Y p T cs :=
  (hg.block p h.lt (fun e => by have := (hr p e.symm).1; omega)).trans h
attribute [local go_sem] Oper.semAt_some
set_option maxRecDepth 100000 in
set_option maxHeartbeats 2000000 in
theorem holds_any (p : Nat) (os : List Nat) (D : List Value) (sz : Int) (A : Option Addr) (c : Nat) (Ls : List (List Value)) (st : Int) (w : World) (hI : IxAt w p w.heap.size os D sz) (hn : os.length ≤ 100000)
    (hO : ∀ k, k + 1 < os.length → ∃ a b, os[k]? = some a ∧ os[k + 1]? = some b ∧ a ≤ b ∧ b ≤ D.length) (hR : RowsAt w w.heap.size A Ls) (hLn : Ls.length = os.length - 1) (hLk : ∀ k, k < os.length - 1 → Ls[k]? = some (lstAt os D k)) (h8 : Bytes8 D) :
    Calls Try.prog 10 #[.pointer (some ⟨p, 0, none⟩), .slice A Ls.length c, .int .i64 sz, .int .i64 st] w fun e w' => e = .returned (.bool true) ∧ Below w.heap.size w w' := by
  have CL := fun V (hV : Below w.heap.size w V) => ixlen_any p w.heap.size os D sz V (hI.below hV) (by omega)
  have CS := fun V (hV : Below w.heap.size w V) => ixsize_any p w.heap.size os D sz V (hI.below hV)
  have HI := Lib.hid hI
  have HR := Lib.hid hR
  have HO := Lib.hid hO
  have HL := Lib.hid hLk
  obtain ⟨n, hnn⟩ : ∃ n, os.length - 1 = n := ⟨_, rfl⟩
  rw [hnn] at hLn CL
  have HN := Lib.hid hnn
  have HM := Lib.hid hLn
  have HV := Lib.hid h8
  rw [hLn]
  have hn2 : n ≤ 100000 := by omega
  have FN := func_nilI
  have Z0 := blk_al (blk_al (Blk.new w 28 #[.slice A n c]) (.cells #[.int .i64 st] 3)) (.cells #[.bool false] 4)
  have S0 := blk_al (Blk.new (w.alloc (.cells #[.slice A n c] 28)) 3 #[.int .i64 st]) (.cells #[.bool false] 4)
  have T0 := Blk.new ((w.alloc (.cells #[.slice A n c] 28)).alloc (.cells #[.int .i64 st] 3)) 4 #[.bool false]
  have B0 : Below w.heap.size w (((w.alloc (.cells #[.slice A n c] 28)).alloc (.cells #[.int .i64 st] 3)).alloc (.cells #[.bool false] 4)) := (((Below.refl _ _).alloc (Nat.le_refl _) _).alloc (by simp) _).alloc (by simp; omega) _
  simp only [World.size_alloc] at S0 T0
  have HZ := Lib.hid Z0
  have HS := Lib.hid S0
  have HT := Lib.hid T0
  have HB0 := Lib.hid B0
  clear hI hR hO hLk hnn hLn h8 Z0 S0 T0 B0 hn
  refine (callsIn_wide (n := 3)).1 ?_
  refine callsIn_of_wp_marks Try.func10 rfl trivial ?_
  simp only [Try.ntmps10, List.size_toArray, List.length_cons, List.length_nil, Nat.reduceAdd, Nat.reduceSub, Array.replicate_succ, Array.replicate_zero, List.push_toArray, List.append_toArray, List.nil_append, List.cons_append]
  refine wpIn_wide.2 ?_
  go_wp2_with (first
    | (go_at_call 14; ((with_reducible refine (ixall_any (.pointer (some ⟨p, 0, none⟩)) rfl _).mono ?_); rintro e w1 ⟨k, rfl, K1, b1⟩; have B1 := HB0.out.trans (b1.mono HB0.out.size); have Z1 := HZ.out.below b1; have S1 := HS.out.below b1; have T1 := HT.out.below b1; have hz1 := T1.lt)))
  have hI : Below w1.heap.size w1 w1.drew := (Below.refl _ _).drew
  have c5 : ∀ V, Below w1.heap.size w1 V → V.cell? ⟨w.heap.size, 0, none⟩ = some (.slice A n c) := fun V hV => (hV.cell (p := ⟨w.heap.size, 0, none⟩) (show w.heap.size < w1.heap.size by omega)).trans (Z1.cell 0)
  refine wp_region_chain (fun V => Below w1.heap.size w1 V) [(0, false), (1, false), (2, false), (3, false), (5, false), (6, false), (4, true), (7, false), (8, false), (9, false), (10, false), (12, false), (11, true), (13, false), (14, false)] (by kernel_rfl) (by kernel_rfl) hI ?_
  repeat (first
    | (refine ChainL.skip (o := ?_) ?_ ?_ ?_; rotate_left; (focus (first | (simp only [List.getElem?_toArray, List.getElem?_cons_succ, List.getElem?_cons_zero]; with_reducible rfl) | (simp only [List.getElem?_toArray, List.getElem?_cons_zero]; with_reducible rfl))); (focus rfl); simp only [Act.put, List.setIfInBounds_toArray, List.set_cons_zero, List.set_cons_succ])
    | (refine ChainL.val (o := ?_) (v := ?_) ?_ ?_ ?_ ?_ ?_; rotate_left 2; (focus (first | (simp only [List.getElem?_toArray, List.getElem?_cons_succ, List.getElem?_cons_zero]; with_reducible rfl) | (simp only [List.getElem?_toArray, List.getElem?_cons_zero]; with_reducible rfl))); (focus (intro _ _ h; cases h)); (focus rfl); (focus (intro w' hJ; have g5 := c5 _ hJ; go_simp <;> with_reducible rfl)); simp only [Act.put, List.setIfInBounds_toArray, List.set_cons_zero, List.set_cons_succ]))
  refine ChainL.call (o := ?_) (f := ?_) (args := ?_) ?_ ?_ ?_ ?_
  rotate_left 3
  (focus (simp only [List.getElem?_toArray, List.getElem?_cons_succ, List.getElem?_cons_zero]; with_reducible rfl))
  (focus rfl)
  (focus (go_simp; (constructor <;> with_reducible rfl)))
  refine (CL _ (B1.trans (hI.mono B1.size))).mono ?_
  rintro e w' ⟨rfl, rfl⟩
  refine ⟨_, rfl, hI, ?_⟩
  simp only [Act.put, List.setIfInBounds_toArray, List.set_cons_zero, List.set_cons_succ]
  repeat (first
    | (refine ChainL.skip (o := ?_) ?_ ?_ ?_; rotate_left; (focus (first | (simp only [List.getElem?_toArray, List.getElem?_cons_succ, List.getElem?_cons_zero]; with_reducible rfl) | (simp only [List.getElem?_toArray, List.getElem?_cons_zero]; with_reducible rfl))); (focus rfl); simp only [Act.put, List.setIfInBounds_toArray, List.set_cons_zero, List.set_cons_succ])
    | (refine ChainL.val (o := ?_) (v := ?_) ?_ ?_ ?_ ?_ ?_; rotate_left 2; (focus (first | (simp only [List.getElem?_toArray, List.getElem?_cons_succ, List.getElem?_cons_zero]; with_reducible rfl) | (simp only [List.getElem?_toArray, List.getElem?_cons_zero]; with_reducible rfl))); (focus (intro _ _ h; cases h)); (focus rfl); (focus (intro w' hJ; skip; go_simp <;> with_reducible rfl)); simp only [Act.put, List.setIfInBounds_toArray, List.set_cons_zero, List.set_cons_succ]))
  refine ChainL.call (o := ?_) (f := ?_) (args := ?_) ?_ ?_ ?_ ?_
  rotate_left 3
  (focus (simp only [List.getElem?_toArray, List.getElem?_cons_succ, List.getElem?_cons_zero]; with_reducible rfl))
  (focus rfl)
  (focus (go_simp; (constructor <;> with_reducible rfl)))
  refine (CS _ (B1.trans (hI.mono B1.size))).mono ?_
  rintro e w' ⟨rfl, rfl⟩
  refine ⟨_, rfl, hI, ?_⟩
  simp only [Act.put, List.setIfInBounds_toArray, List.set_cons_zero, List.set_cons_succ]
  repeat (first
    | (refine ChainL.skip (o := ?_) ?_ ?_ ?_; rotate_left; (focus (first | (simp only [List.getElem?_toArray, List.getElem?_cons_succ, List.getElem?_cons_zero]; with_reducible rfl) | (simp only [List.getElem?_toArray, List.getElem?_cons_zero]; with_reducible rfl))); (focus rfl); simp only [Act.put, List.setIfInBounds_toArray, List.set_cons_zero, List.set_cons_succ])
    | (refine ChainL.val (o := ?_) (v := ?_) ?_ ?_ ?_ ?_ ?_; rotate_left 2; (focus (first | (simp only [List.getElem?_toArray, List.getElem?_cons_succ, List.getElem?_cons_zero]; with_reducible rfl) | (simp only [List.getElem?_toArray, List.getElem?_cons_zero]; with_reducible rfl))); (focus (intro _ _ h; cases h)); (focus rfl); (focus (intro w' hJ; skip; go_simp <;> with_reducible rfl)); simp only [Act.put, List.setIfInBounds_toArray, List.set_cons_zero, List.set_cons_succ]))
  refine ChainL.nil ?_
  go_wp2
  have Y1 : Below w1.heap.size w1 (w1.alloc (.cells #[.int .i64 0] 3)).drew := ((Below.refl _ _).alloc (Nat.le_refl _) _).drew
  have X0 := B1.trans (Y1.mono (by omega))
  have Z2 := Z1.below Y1
  have S2 := S1.below Y1
  have T2 := T1.below Y1
  have K2 := K1.below Y1
  have N2 : Blk (w1.alloc (.cells #[.int .i64 0] 3)).drew w1.heap.size 3 #[.int .i64 (([] : List Got1).length : Int)] := Blk.new w1 3 #[.int .i64 0]
  have hk2 := K1.lt
  have hW0 : (w1.alloc (.cells #[.int .i64 0] 3)).drew.heap.size = w1.heap.size + 1 := by show (w1.alloc _).heap.size = _; simp
  obtain ⟨nb, hnb⟩ : ∃ nb, w1.heap.size = nb := ⟨_, rfl⟩
  rw [hnb] at Y1 N2 hk2 hW0 hz1 ⊢
  generalize (w1.alloc (.cells #[.int .i64 0] 3)).drew = W0 at *
  clear Z1 S1 T1 K1 Y1 CL CS hI c5
  have kc := K2.cell 0
  simp only [List.getElem?_toArray, List.getElem?_cons_zero] at kc
  refine (wpIn_wide (n := 3)).1 ?_
  refine wpIn_rangeC (F := Fence.wide) (n := 3) rfl (by omega) (gf := 32) (lb := #[.pointer (some ⟨k, 0, none⟩)]) rfl trivial (enters_of Try.func32 (by kernel_rfl) rfl)
    (all_stops k nb p w.heap.size os D sz W0 kc hk2 (by omega) (by omega) (HI.out.below X0) (by have := HN.out; omega) HO.out) belowK_t (belowK_b (by omega)) (Below.refl _ _) (fun _ => rfl) (own_cIx _ os D)
    (fun pre V => Blk V nb 3 #[.int .i64 (pre.length : Int)] ∧ Below nb W0 V)
    (fun c pre V => (c = .exit 0 ∧ Blk V nb 3 #[.int .i64 (pre.length : Int)] ∧ (pre.length : Int) = st) ∧ Below nb W0 V)
    (OwnFrom.and (fun pre X Y row hs hg hr => blk_grownU hs (by omega) hg hr) (ownFrom_below (by omega) (by omega)))
    (fun c => OwnFrom.and (fun pre X Y row hs hg hr => ⟨hs.1, blk_grownU hs.2.1 (by omega) hg hr, hs.2.2⟩) (ownFrom_below (by omega) (by omega)))
    ⟨N2, Below.refl _ _⟩
    (fun x => { tmps := #[.pointer (some ⟨p, 0, none⟩), .slice A n c, .int .i64 sz, .int .i64 st, undef, .pointer (some ⟨w.heap.size, 0, none⟩), undef, .pointer (some ⟨w.heap.size + 1, 0, none⟩), .pointer (some ⟨w.heap.size + 1 + 1, 0, none⟩), .func (.func 32) #[] #[.pointer (some ⟨k, 0, none⟩)], .pointer (some ⟨nb, 0, none⟩), .int .i64 (x.1 : Int), .slice x.2.2.1 x.2.1.length x.2.2.2, undef, undef, undef, undef, undef, undef, undef, .pointer (some ⟨p, 0, none⟩), .func (.func 32) #[] #[.pointer (some ⟨k, 0, none⟩)], .func (.func 32) #[] #[.pointer (some ⟨k, 0, none⟩)], .bool false, .bool false, .pointer (some ⟨p, 0, none⟩), .int .i64 (n : Int), .slice A n c, .int .i64 (n : Int), .bool false, .bool false, .bool false, .pointer (some ⟨p, 0, none⟩), .int .i64 sz, .int .i64 sz, .bool false, .bool false, .func (.func 32) #[] #[.pointer (some ⟨k, 0, none⟩)], .int .i64 (x.1 : Int), .slice x.2.2.1 x.2.1.length x.2.2.2, undef, undef, undef, undef, undef, undef, undef, undef, undef, undef, undef, undef, undef, undef, undef, undef, undef, undef, undef, undef, undef, undef, undef, undef, undef, undef, undef, undef, undef, undef, undef, undef, undef, undef, undef, undef, undef, undef, undef, undef, undef, undef, undef, undef, undef, undef, undef, undef, undef, undef, undef, undef, undef, undef, undef, undef, undef, undef, undef, undef, undef, undef, undef, undef, undef, undef, undef, undef, undef, undef, undef, undef, undef, undef, undef, undef, undef, undef, undef, undef, undef, undef, undef], defers := [] })
    ?assign ?body ?done ?stop
  case assign =>
    intro l x W K hK
    gi_wp2
    exact hK
  case body =>
    rintro l pre ⟨i1, E1, A1, c1⟩ W ⟨iN, iB⟩ ⟨h1, h2, h3, h4⟩
    simp only at h1 h2 h3 h4
    subst h1
    have hk := HL.out pre.length h2
    rw [← h3] at hk
    obtain ⟨b, o, Ai, ci, rfl, hbl, g0, gl⟩ := HR.out.at' _ _ hk
    have BW := X0.trans (iB.mono (by omega))
    have hb8 : Bytes8 E1 := fun u hu => HV.out u (by rw [h3] at hu; exact List.mem_of_mem_drop (List.mem_of_mem_take hu))
    obtain ⟨m, hm⟩ : ∃ m, E1.length = m := ⟨_, rfl⟩
    obtain ⟨j, hj⟩ : ∃ j, pre.length = j := ⟨_, rfl⟩
    have hsz := BW.size
    have hs2 := iB.size
    have HX := Lib.hid (show ∀ V, Below W.heap.size W V → V.cell? ⟨nb, 0, none⟩ = some (.int .i64 (j : Int)) ∧ V.cell? ⟨w.heap.size, 0, none⟩ = some (.slice (some ⟨b, o, none⟩) n c) ∧ V.cell? ⟨b, o + j, none⟩ = some (.slice Ai m ci) ∧
        (∀ dst, Try.prog.underlying dst = some .string → (convert 22 dst (.slice A1 m c1)).run Try.prog V = .ok (.string ⟨(E1.map toU8).toArray⟩) V) ∧
        (∀ dst, Try.prog.underlying dst = some .string → (convert 22 dst (.slice Ai m ci)).run Try.prog V = .ok (.string ⟨(E1.map toU8).toArray⟩) V) from fun V hV => by
      rw [hj] at iN g0
      rw [hm] at g0
      exact ⟨(iN.below hV).cell 0, (hV.cell (p := ⟨w.heap.size, 0, none⟩) (show w.heap.size < W.heap.size by omega)).trans ((iB.cell (p := ⟨w.heap.size, 0, none⟩) (show w.heap.size < nb by omega)).trans (Z2.cell 0)),
        (hV.cell (p := ⟨b, o + j, none⟩) (show b < W.heap.size by omega)).trans ((BW.cell (p := ⟨b, o + j, none⟩) hbl).trans g0), conv_lists (h4.out.below hV) hm hb8, conv_lists (((gl.below BW).more hsz).below hV) hm hb8⟩)
    have cS := iB.cell (p := ⟨w.heap.size + 1, 0, none⟩) (show w.heap.size + 1 < nb by omega)
    rw [S2.cell 0] at cS
    simp only [List.getElem?_toArray, List.getElem?_cons_zero] at cS
    have n1 : ¬ w.heap.size + 1 = nb := by omega
    have n2 : ¬ nb = w.heap.size + 1 := by omega
    have cl : nb < W.heap.size := iN.lt
    have fN : W.frozen? ⟨nb, 0, none⟩ = false := iN.frozen 0
    have cN : W.cell? ⟨nb, 0, none⟩ = some (.int .i64 (pre.length : Int)) := iN.cell 0
    have HN1 := Lib.hid iN
    have HB1 := Lib.hid iB
    have HJ := Lib.hid hj
    have d0 : j < n := by rw [← hj, ← HN.out]; exact h2
    have d1 : decide (n ≤ j) = false := by simp; omega
    rw [hj] at cN
    rw [hj, hm]
    clear h3 h4 hk g0 gl hb8 iN iB h2 hm hj
    gi_wp2
    refine wpIn_region_chain (fun V => Below W.heap.size W V) [(0, false), (1, false), (2, false), (3, false), (4, false), (5, false), (6, false), (7, false), (8, false), (9, false), (10, false), (11, false), (12, false), (13, false), (14, false), (15, false), (16, false), (17, false), (18, false)] (by kernel_rfl) (by kernel_rfl) (by kernel_rfl) ?_ ((Below.refl _ _).drew) ?_
    (focus (rintro ⟨_, _, h⟩; exact h))
    repeat (first
      | (refine ChainL.skip (o := ?_) ?_ ?_ ?_; rotate_left; (focus (first | (simp only [List.getElem?_toArray, List.getElem?_cons_succ, List.getElem?_cons_zero]; with_reducible rfl) | (simp only [List.getElem?_toArray, List.getElem?_cons_zero]; with_reducible rfl))); (focus rfl); simp only [Act.put, List.setIfInBounds_toArray, List.set_cons_zero, List.set_cons_succ])
      | (refine ChainL.val (o := ?_) (v := ?_) ?_ ?_ ?_ ?_ ?_; rotate_left 2; (focus (first | (simp only [List.getElem?_toArray, List.getElem?_cons_succ, List.getElem?_cons_zero]; with_reducible rfl) | (simp only [List.getElem?_toArray, List.getElem?_cons_zero]; with_reducible rfl))); (focus (intro _ _ h; cases h)); (focus rfl); (focus (intro w' hI; obtain ⟨e1, e2, e3, q1, q2⟩ := HX.out _ hI; go_simp <;> with_reducible rfl)); simp only [Act.put, List.setIfInBounds_toArray, List.set_cons_zero, List.set_cons_succ]))
    refine ChainL.nil ?_
    obtain ⟨e1, e2, e3, q1, q2⟩ := HX.out _ ((Below.refl _ _).drew)
    have hkO : KeepsOthers W (W.setCell ⟨nb, 0, none⟩ (.int .i64 ((j : Int) + 1))).drew := (KeepsOthers.setCell _ _ _).trans (KeepsOthers.drew _)
    have hkB : Blk (W.setCell ⟨nb, 0, none⟩ (.int .i64 ((j : Int) + 1))) nb 3 #[.int .i64 ((j : Int) + 1)] := HN1.out.set 0 _
    have hkB2 : Blk (W.setCell ⟨nb, 0, none⟩ (.int .i64 ((j : Int) + 1))).drew nb 3 #[.int .i64 ((j : Int) + 1)] := hkB
    have hkX : Below nb W0 (W.setCell ⟨nb, 0, none⟩ (.int .i64 ((j : Int) + 1))).drew := (HB1.out.setCell (p := ⟨nb, 0, none⟩) (Nat.le_refl _) _).drew
    have hkY : Below nb W (W.setCell ⟨nb, 0, none⟩ (.int .i64 ((j : Int) + 1))).drew := ((Below.refl _ _).setCell (p := ⟨nb, 0, none⟩) (Nat.le_refl _) _).drew
    have HO2 := Lib.hid hkO
    have HB2 := Lib.hid hkB2
    have HX2 := Lib.hid hkX
    have HY2 := Lib.hid hkY
    clear hkO hkB hkB2 hkX hkY
    have HLN := Lib.hid (show (((pre ++ [(j, E1, A1, c1)]).length : Nat) : Int) = (j : Int) + 1 by rw [List.length_append, List.length_singleton, HJ.out]; rfl)
    have e5 : IntKind.i64.wrap ((j : Int) + 1) = (j : Int) + 1 := IntWalk.i64_in _ (by omega)
    by_cases hst : (j : Int) + 1 = st
    · subst hst
      gi_wp2
      exact ⟨HO2.out, ⟨rfl, by rw [HLN.out]; exact HB2.out, HLN.out⟩, HX2.out⟩
    · have ds : ((j : Int) + 1 == st) = false := by simpa using hst
      gi_wp2
      exact ⟨HO2.out, HY2.out, by rw [HLN.out]; exact HB2.out, HX2.out⟩
  case done =>
    rintro D2 xs V hD hxs ⟨R3, B3⟩ hK
    have l3 := R3.lt
    have HB3 := Lib.hid B3
    have hs3 := B3.size
    have BV := X0.trans (B3.mono (by omega))
    have HBV := Lib.hid BV
    have hvs := BV.size
    have g1 := (B3.cell (p := ⟨w.heap.size, 0, none⟩) (show w.heap.size < nb by omega)).trans (Z2.cell 0)
    have g2 := (B3.cell (p := ⟨w.heap.size + 1, 0, none⟩) (show w.heap.size + 1 < nb by omega)).trans (S2.cell 0)
    simp only [List.getElem?_toArray, List.getElem?_cons_zero] at g1 g2
    have T3 : Blk V (w.heap.size + 1 + 1) 4 #[.bool false] := (B3.block _ (by omega)).trans T2
    have HT3 := Lib.hid T3
    have ht3 := T3.lt
    have hDl := (Array.getElem?_eq_some_iff.1 hK).1
    have HK3 := Lib.hid hK
    have hD2 : w.heap.size < D2 := by omega
    have Z3 : Blk V w.heap.size 28 #[.slice A n c] := (B3.block _ (by omega)).trans Z2
    have HZ3 := Lib.hid Z3
    clear hK T3 BV B3 T2 S2 Z2 Z3 hD
    have c3 := R3.cell 0
    simp only [List.getElem?_toArray, List.getElem?_cons_zero] at c3
    rw [hxs, HN.out] at c3
    go_wp2
    go_loopw [13] (fun i wr => ∃ j : Nat, j ≤ n ∧ i = .int .i64 j ∧ Below V.heap.size V wr) (fun i _ => n - (intOf i).toNat)
    case atStart => exact ⟨0, Nat.zero_le _, rfl, Below.refl _ _⟩
    case round =>
      obtain ⟨j, hj, rfl, hb⟩ := hrel
      clear c3 g1 g2
      have hsb := hb.size
      have ZB := HZ3.out.below hb
      have zc := ZB.cell 0
      simp only [List.getElem?_toArray, List.getElem?_cons_zero] at zc
      have BW := HBV.out.trans (hb.mono HBV.out.size)
      have hiw := HI.out.below BW
      have HBW := Lib.hid BW
      clear BW
      by_cases hlt : j < n
      · have hk0 := HL.out j (by rw [HN.out]; exact hlt)
        obtain ⟨b, o, Ai, ci, rfl, hbl, g0, gl⟩ := HR.out.at' _ _ hk0
        obtain ⟨oa, ob, ha, hb2, h12, h2d⟩ := HO.out j (by have := HN.out; omega)
        have CA := ixat_any p w.heap.size os D sz j oa ob wr hiw (by omega) (by have := HN.out; omega) ha hb2 h12 h2d
        have hlst : (D.drop oa).take (ob - oa) = lstAt os D j := by
          unfold lstAt
          rw [List.getD_eq_getElem?_getD, List.getD_eq_getElem?_getD, ha, hb2]
          rfl
        rw [hlst] at CA
        have hb8 : Bytes8 (lstAt os D j) := fun u hu => HV.out u (List.mem_of_mem_drop (List.mem_of_mem_take hu))
        have CA2 := Lib.hid CA
        generalize lstAt os D j = E1 at *
        obtain ⟨m, hm⟩ : ∃ m, E1.length = m := ⟨_, rfl⟩
        have gq := HBW.out.cell (p := ⟨b, o + j, none⟩) hbl
        rw [g0, hm] at gq
        have glw := (gl.below HBW.out)
        have HGL := Lib.hid glw
        have HM1 := Lib.hid hm
        have HB8 := Lib.hid hb8
        have HGQ := Lib.hid gq
        clear hk0 g0 gl ha hb2 h12 h2d hiw CA hlst hb8 glw hm gq
        have d1 : (j : Int) < n := by omega
        go_wp2_with (first
          | (go_at_call 15; ((with_reducible refine (CA2.out).mono ?_); rintro e w4 ⟨A4, c4, rfl, L4, b4⟩; have hs4 := b4.size; have zc4 := (b4.cell (p := ⟨w.heap.size, 0, none⟩) (show w.heap.size < wr.heap.size by omega)).trans zc)))
        have HX4 := Lib.hid (show ∀ V, Below w4.heap.size w4 V → V.cell? ⟨w.heap.size, 0, none⟩ = some (.slice (some ⟨b, o, none⟩) n c) ∧ V.cell? ⟨b, o + j, none⟩ = some (.slice Ai m ci) ∧
          (∀ dst, Try.prog.underlying dst = some .string → (convert 22 dst (.slice A4 E1.length c4)).run Try.prog V = .ok (.string ⟨(E1.map toU8).toArray⟩) V) ∧
          (∀ dst, Try.prog.underlying dst = some .string → (convert 22 dst (.slice Ai m ci)).run Try.prog V = .ok (.string ⟨(E1.map toU8).toArray⟩) V) from fun V hV =>
          ⟨(hV.cell (p := ⟨w.heap.size, 0, none⟩) (show w.heap.size < w4.heap.size by omega)).trans zc4,
           (hV.cell (p := ⟨b, o + j, none⟩) (show b < w4.heap.size by omega)).trans ((b4.cell (p := ⟨b, o + j, none⟩) (show b < wr.heap.size by omega)).trans HGQ.out),
           conv_lists (L4.out.below hV) rfl HB8.out, conv_lists ((HGL.out.below (b4.mono (by omega))).below (hV.mono (by omega))) HM1.out HB8.out⟩)
        have hI : Below w4.heap.size w4 w4.drew := (Below.refl _ _).drew
        refine wp_region_chain (fun V => Below w4.heap.size w4 V) [(0, false), (1, false), (2, false), (3, false), (4, false), (5, false), (6, false), (7, false), (8, false), (9, false), (10, false), (11, false)] (by kernel_rfl) (by kernel_rfl) hI ?_
        repeat (first
          | (refine ChainL.skip (o := ?_) ?_ ?_ ?_; rotate_left; (focus (first | (simp only [List.getElem?_toArray, List.getElem?_cons_succ, List.getElem?_cons_zero]; with_reducible rfl) | (simp only [List.getElem?_toArray, List.getElem?_cons_zero]; with_reducible rfl))); (focus rfl); simp only [Act.put, List.setIfInBounds_toArray, List.set_cons_zero, List.set_cons_succ])
          | (refine ChainL.val (o := ?_) (v := ?_) ?_ ?_ ?_ ?_ ?_; rotate_left 2; (focus (first | (simp only [List.getElem?_toArray, List.getElem?_cons_succ, List.getElem?_cons_zero]; with_reducible rfl) | (simp only [List.getElem?_toArray, List.getElem?_cons_zero]; with_reducible rfl))); (focus (intro _ _ h; cases h)); (focus rfl); (focus (intro w' hJ; obtain ⟨e1, e2, q1, q2⟩ := HX4.out _ hJ; go_simp <;> with_reducible rfl)); simp only [Act.put, List.setIfInBounds_toArray, List.set_cons_zero, List.set_cons_succ]))
        refine ChainL.nil ?_
        obtain ⟨e1, e2, q1, q2⟩ := HX4.out _ hI
        clear zc zc4
        go_wp2
        go_roundw
        case rel => exact ⟨j + 1, by omega, by first | rfl | (go_num), hb.trans ((b4.trans (hI.mono (by omega))).mono (by omega))⟩
        case measure => simp [intOf]; omega
      · have hjn : j = n := by omega
        subst hjn
        have d1 : ¬ (j : Int) < j := by omega
        have CN := ixat_none p w.heap.size os D sz j wr hiw (by have := HN.out; omega) (.inr (by rw [HN.out]; omega))
        have CM := ixat_none p w.heap.size os D sz (-1) wr hiw (by have := HN.out; omega) (.inl (by decide))
        have T4 := HT3.out.below hb
        have c4 := T4.cell 0
        have f4 := T4.frozen 0
        have l4 := T4.lt
        simp only [List.getElem?_toArray, List.getElem?_cons_zero] at c4
        have hK4 := (hb.block D2 hDl).trans HK3.out
        have BX := HBW.out.setCell (p := ⟨w.heap.size + 1 + 1, 0, none⟩) (by simp; omega) (.bool true)
        have hK' := (KeepsOthers.setCell wr ⟨w.heap.size + 1 + 1, 0, none⟩ (.bool true)).same D2 _ hK4 rfl
        have br2 := T4.set 0 (.bool true)
        have hc5 := cell_kept (br2.cell 0) (grownBy_putObj' _ D2 (.deferred none)) (fun r e => by cases e; exact ⟨_, hK', rfl⟩)
        have hBF := BX.trans (belowK_b (w := w) (Nat.le_refl _) _ D2 _ (.deferred none) (by omega) hK' rfl rfl)
        clear BX br2 T4 hK4 hiw ZB
        go_wp2_with (first
          | (go_at_call 15; ((with_reducible refine (CN).mono ?_); rintro e w4 ⟨rfl, rfl⟩))
          | (go_at_call 15; ((with_reducible refine (CM).mono ?_); rintro e w5 ⟨rfl, rfl⟩)))
        refine ⟨by simp, .inl ⟨_, _, rfl, run_takeDeferred hK', ?_⟩⟩
        refine ⟨.bool true, ?_, rfl, hBF⟩
        simp [results, Try.f10, go_sem, hc5]

  case stop =>
    rintro D2 cc pre V hD _ ⟨⟨rfl, R3, hst⟩, B3⟩ hK
    have l3 := R3.lt
    have HB3 := Lib.hid B3
    have hs3 := B3.size
    have BV := X0.trans (B3.mono (by omega))
    have HBV := Lib.hid BV
    have hvs := BV.size
    have g1 := (B3.cell (p := ⟨w.heap.size, 0, none⟩) (show w.heap.size < nb by omega)).trans (Z2.cell 0)
    have g2 := (B3.cell (p := ⟨w.heap.size + 1, 0, none⟩) (show w.heap.size + 1 < nb by omega)).trans (S2.cell 0)
    simp only [List.getElem?_toArray, List.getElem?_cons_zero] at g1 g2
    have T3 : Blk V (w.heap.size + 1 + 1) 4 #[.bool false] := (B3.block _ (by omega)).trans T2
    have HT3 := Lib.hid T3
    have ht3 := T3.lt
    have hDl := (Array.getElem?_eq_some_iff.1 hK).1
    have HK3 := Lib.hid hK
    have hD2 : w.heap.size < D2 := by omega
    have Z3 : Blk V w.heap.size 28 #[.slice A n c] := (B3.block _ (by omega)).trans Z2
    have HZ3 := Lib.hid Z3
    clear hK T3 BV B3 T2 S2 Z2 Z3 hD
    have c3 := R3.cell 0
    simp only [List.getElem?_toArray, List.getElem?_cons_zero] at c3
    rw [hst] at c3
    gi_wp2
    by_cases hsn : st = (n : Int)
    · subst hsn
      go_wp2
      go_loopw [13] (fun i wr => ∃ j : Nat, j ≤ n ∧ i = .int .i64 j ∧ Below V.heap.size V wr) (fun i _ => n - (intOf i).toNat)
      case atStart => exact ⟨0, Nat.zero_le _, rfl, Below.refl _ _⟩
      case round =>
        obtain ⟨j, hj, rfl, hb⟩ := hrel
        clear c3 g1 g2
        have hsb := hb.size
        have ZB := HZ3.out.below hb
        have zc := ZB.cell 0
        simp only [List.getElem?_toArray, List.getElem?_cons_zero] at zc
        have BW := HBV.out.trans (hb.mono HBV.out.size)
        have hiw := HI.out.below BW
        have HBW := Lib.hid BW
        clear BW
        by_cases hlt : j < n
        · have hk0 := HL.out j (by rw [HN.out]; exact hlt)
          obtain ⟨b, o, Ai, ci, rfl, hbl, g0, gl⟩ := HR.out.at' _ _ hk0
          obtain ⟨oa, ob, ha, hb2, h12, h2d⟩ := HO.out j (by have := HN.out; omega)
          have CA := ixat_any p w.heap.size os D sz j oa ob wr hiw (by omega) (by have := HN.out; omega) ha hb2 h12 h2d
          have hlst : (D.drop oa).take (ob - oa) = lstAt os D j := by
            unfold lstAt
            rw [List.getD_eq_getElem?_getD, List.getD_eq_getElem?_getD, ha, hb2]
            rfl
          rw [hlst] at CA
          have hb8 : Bytes8 (lstAt os D j) := fun u hu => HV.out u (List.mem_of_mem_drop (List.mem_of_mem_take hu))
          have CA2 := Lib.hid CA
          generalize lstAt os D j = E1 at *
          obtain ⟨m, hm⟩ : ∃ m, E1.length = m := ⟨_, rfl⟩
          have gq := HBW.out.cell (p := ⟨b, o + j, none⟩) hbl
          rw [g0, hm] at gq
          have glw := (gl.below HBW.out)
          have HGL := Lib.hid glw
          have HM1 := Lib.hid hm
          have HB8 := Lib.hid hb8
          have HGQ := Lib.hid gq
          clear hk0 g0 gl ha hb2 h12 h2d hiw CA hlst hb8 glw hm gq
          have d1 : (j : Int) < n := by omega
          go_wp2_with (first
            | (go_at_call 15; ((with_reducible refine (CA2.out).mono ?_); rintro e w4 ⟨A4, c4, rfl, L4, b4⟩; have hs4 := b4.size; have zc4 := (b4.cell (p := ⟨w.heap.size, 0, none⟩) (show w.heap.size < wr.heap.size by omega)).trans zc)))
          have HX4 := Lib.hid (show ∀ V, Below w4.heap.size w4 V → V.cell? ⟨w.heap.size, 0, none⟩ = some (.slice (some ⟨b, o, none⟩) n c) ∧ V.cell? ⟨b, o + j, none⟩ = some (.slice Ai m ci) ∧
            (∀ dst, Try.prog.underlying dst = some .string → (convert 22 dst (.slice A4 E1.length c4)).run Try.prog V = .ok (.string ⟨(E1.map toU8).toArray⟩) V) ∧
            (∀ dst, Try.prog.underlying dst = some .string → (convert 22 dst (.slice Ai m ci)).run Try.prog V = .ok (.string ⟨(E1.map toU8).toArray⟩) V) from fun V hV =>
            ⟨(hV.cell (p := ⟨w.heap.size, 0, none⟩) (show w.heap.size < w4.heap.size by omega)).trans zc4,
             (hV.cell (p := ⟨b, o + j, none⟩) (show b < w4.heap.size by omega)).trans ((b4.cell (p := ⟨b, o + j, none⟩) (show b < wr.heap.size by omega)).trans HGQ.out),
             conv_lists (L4.out.below hV) rfl HB8.out, conv_lists ((HGL.out.below (b4.mono (by omega))).below (hV.mono (by omega))) HM1.out HB8.out⟩)
          have hI : Below w4.heap.size w4 w4.drew := (Below.refl _ _).drew
          refine wp_region_chain (fun V => Below w4.heap.size w4 V) [(0, false), (1, false), (2, false), (3, false), (4, false), (5, false), (6, false), (7, false), (8, false), (9, false), (10, false), (11, false)] (by kernel_rfl) (by kernel_rfl) hI ?_
          repeat (first
            | (refine ChainL.skip (o := ?_) ?_ ?_ ?_; rotate_left; (focus (first | (simp only [List.getElem?_toArray, List.getElem?_cons_succ, List.getElem?_cons_zero]; with_reducible rfl) | (simp only [List.getElem?_toArray, List.getElem?_cons_zero]; with_reducible rfl))); (focus rfl); simp only [Act.put, List.setIfInBounds_toArray, List.set_cons_zero, List.set_cons_succ])
            | (refine ChainL.val (o := ?_) (v := ?_) ?_ ?_ ?_ ?_ ?_; rotate_left 2; (focus (first | (simp only [List.getElem?_toArray, List.getElem?_cons_succ, List.getElem?_cons_zero]; with_reducible rfl) | (simp only [List.getElem?_toArray, List.getElem?_cons_zero]; with_reducible rfl))); (focus (intro _ _ h; cases h)); (focus rfl); (focus (intro w' hJ; obtain ⟨e1, e2, q1, q2⟩ := HX4.out _ hJ; go_simp <;> with_reducible rfl)); simp only [Act.put, List.setIfInBounds_toArray, List.set_cons_zero, List.set_cons_succ]))
          refine ChainL.nil ?_
          obtain ⟨e1, e2, q1, q2⟩ := HX4.out _ hI
          clear zc zc4
          go_wp2
          go_roundw
          case rel => exact ⟨j + 1, by omega, by first | rfl | (go_num), hb.trans ((b4.trans (hI.mono (by omega))).mono (by omega))⟩
          case measure => simp [intOf]; omega
        · have hjn : j = n := by omega
          subst hjn
          have d1 : ¬ (j : Int) < j := by omega
          have CN := ixat_none p w.heap.size os D sz j wr hiw (by have := HN.out; omega) (.inr (by rw [HN.out]; omega))
          have CM := ixat_none p w.heap.size os D sz (-1) wr hiw (by have := HN.out; omega) (.inl (by decide))
          have T4 := HT3.out.below hb
          have c4 := T4.cell 0
          have f4 := T4.frozen 0
          have l4 := T4.lt
          simp only [List.getElem?_toArray, List.getElem?_cons_zero] at c4
          have hK4 := (hb.block D2 hDl).trans HK3.out
          have BX := HBW.out.setCell (p := ⟨w.heap.size + 1 + 1, 0, none⟩) (by simp; omega) (.bool true)
          have hK' := (KeepsOthers.setCell wr ⟨w.heap.size + 1 + 1, 0, none⟩ (.bool true)).same D2 _ hK4 rfl
          have br2 := T4.set 0 (.bool true)
          have hc5 := cell_kept (br2.cell 0) (grownBy_putObj' _ D2 (.deferred none)) (fun r e => by cases e; exact ⟨_, hK', rfl⟩)
          have hBF := BX.trans (belowK_b (w := w) (Nat.le_refl _) _ D2 _ (.deferred none) (by omega) hK' rfl rfl)
          clear BX br2 T4 hK4 hiw ZB
          go_wp2_with (first
            | (go_at_call 15; ((with_reducible refine (CN).mono ?_); rintro e w4 ⟨rfl, rfl⟩))
            | (go_at_call 15; ((with_reducible refine (CM).mono ?_); rintro e w5 ⟨rfl, rfl⟩)))
          refine ⟨by simp, .inl ⟨_, _, rfl, run_takeDeferred hK', ?_⟩⟩
          refine ⟨.bool true, ?_, rfl, hBF⟩
          simp [results, Try.f10, go_sem, hc5]

    · have dsn : (st != (n : Int)) = true := by simpa using hsn
      have dsn2 : (st == (n : Int)) = false := by simpa using hsn
      go_wp2
      go_loopw [13] (fun i wr => ∃ j : Nat, j ≤ n ∧ i = .int .i64 j ∧ Below V.heap.size V wr) (fun i _ => n - (intOf i).toNat)
      case atStart => exact ⟨0, Nat.zero_le _, rfl, Below.refl _ _⟩
      case round =>
        obtain ⟨j, hj, rfl, hb⟩ := hrel
        clear c3 g1 g2
        have hsb := hb.size
        have ZB := HZ3.out.below hb
        have zc := ZB.cell 0
        simp only [List.getElem?_toArray, List.getElem?_cons_zero] at zc
        have BW := HBV.out.trans (hb.mono HBV.out.size)
        have hiw := HI.out.below BW
        have HBW := Lib.hid BW
        clear BW
        by_cases hlt : j < n
        · have hk0 := HL.out j (by rw [HN.out]; exact hlt)
          obtain ⟨b, o, Ai, ci, rfl, hbl, g0, gl⟩ := HR.out.at' _ _ hk0
          obtain ⟨oa, ob, ha, hb2, h12, h2d⟩ := HO.out j (by have := HN.out; omega)
          have CA := ixat_any p w.heap.size os D sz j oa ob wr hiw (by omega) (by have := HN.out; omega) ha hb2 h12 h2d
          have hlst : (D.drop oa).take (ob - oa) = lstAt os D j := by
            unfold lstAt
            rw [List.getD_eq_getElem?_getD, List.getD_eq_getElem?_getD, ha, hb2]
            rfl
          rw [hlst] at CA
          have hb8 : Bytes8 (lstAt os D j) := fun u hu => HV.out u (List.mem_of_mem_drop (List.mem_of_mem_take hu))
          have CA2 := Lib.hid CA
          generalize lstAt os D j = E1 at *
          obtain ⟨m, hm⟩ : ∃ m, E1.length = m := ⟨_, rfl⟩
          have gq := HBW.out.cell (p := ⟨b, o + j, none⟩) hbl
          rw [g0, hm] at gq
          have glw := (gl.below HBW.out)
          have HGL := Lib.hid glw
          have HM1 := Lib.hid hm
          have HB8 := Lib.hid hb8
          have HGQ := Lib.hid gq
          clear hk0 g0 gl ha hb2 h12 h2d hiw CA hlst hb8 glw hm gq
          have d1 : (j : Int) < n := by omega
          go_wp2_with (first
            | (go_at_call 15; ((with_reducible refine (CA2.out).mono ?_); rintro e w4 ⟨A4, c4, rfl, L4, b4⟩; have hs4 := b4.size; have zc4 := (b4.cell (p := ⟨w.heap.size, 0, none⟩) (show w.heap.size < wr.heap.size by omega)).trans zc)))
          have HX4 := Lib.hid (show ∀ V, Below w4.heap.size w4 V → V.cell? ⟨w.heap.size, 0, none⟩ = some (.slice (some ⟨b, o, none⟩) n c) ∧ V.cell? ⟨b, o + j, none⟩ = some (.slice Ai m ci) ∧
            (∀ dst, Try.prog.underlying dst = some .string → (convert 22 dst (.slice A4 E1.length c4)).run Try.prog V = .ok (.string ⟨(E1.map toU8).toArray⟩) V) ∧
            (∀ dst, Try.prog.underlying dst = some .string → (convert 22 dst (.slice Ai m ci)).run Try.prog V = .ok (.string ⟨(E1.map toU8).toArray⟩) V) from fun V hV =>
            ⟨(hV.cell (p := ⟨w.heap.size, 0, none⟩) (show w.heap.size < w4.heap.size by omega)).trans zc4,
             (hV.cell (p := ⟨b, o + j, none⟩) (show b < w4.heap.size by omega)).trans ((b4.cell (p := ⟨b, o + j, none⟩) (show b < wr.heap.size by omega)).trans HGQ.out),
             conv_lists (L4.out.below hV) rfl HB8.out, conv_lists ((HGL.out.below (b4.mono (by omega))).below (hV.mono (by omega))) HM1.out HB8.out⟩)
          have hI : Below w4.heap.size w4 w4.drew := (Below.refl _ _).drew
          refine wp_region_chain (fun V => Below w4.heap.size w4 V) [(0, false), (1, false), (2, false), (3, false), (4, false), (5, false), (6, false), (7, false), (8, false), (9, false), (10, false), (11, false)] (by kernel_rfl) (by kernel_rfl) hI ?_
          repeat (first
            | (refine ChainL.skip (o := ?_) ?_ ?_ ?_; rotate_left; (focus (first | (simp only [List.getElem?_toArray, List.getElem?_cons_succ, List.getElem?_cons_zero]; with_reducible rfl) | (simp only [List.getElem?_toArray, List.getElem?_cons_zero]; with_reducible rfl))); (focus rfl); simp only [Act.put, List.setIfInBounds_toArray, List.set_cons_zero, List.set_cons_succ])
            | (refine ChainL.val (o := ?_) (v := ?_) ?_ ?_ ?_ ?_ ?_; rotate_left 2; (focus (first | (simp only [List.getElem?_toArray, List.getElem?_cons_succ, List.getElem?_cons_zero]; with_reducible rfl) | (simp only [List.getElem?_toArray, List.getElem?_cons_zero]; with_reducible rfl))); (focus (intro _ _ h; cases h)); (focus rfl); (focus (intro w' hJ; obtain ⟨e1, e2, q1, q2⟩ := HX4.out _ hJ; go_simp <;> with_reducible rfl)); simp only [Act.put, List.setIfInBounds_toArray, List.set_cons_zero, List.set_cons_succ]))
          refine ChainL.nil ?_
          obtain ⟨e1, e2, q1, q2⟩ := HX4.out _ hI
          clear zc zc4
          go_wp2
          go_roundw
          case rel => exact ⟨j + 1, by omega, by first | rfl | (go_num), hb.trans ((b4.trans (hI.mono (by omega))).mono (by omega))⟩
          case measure => simp [intOf]; omega
        · have hjn : j = n := by omega
          subst hjn
          have d1 : ¬ (j : Int) < j := by omega
          have CN := ixat_none p w.heap.size os D sz j wr hiw (by have := HN.out; omega) (.inr (by rw [HN.out]; omega))
          have CM := ixat_none p w.heap.size os D sz (-1) wr hiw (by have := HN.out; omega) (.inl (by decide))
          have T4 := HT3.out.below hb
          have c4 := T4.cell 0
          have f4 := T4.frozen 0
          have l4 := T4.lt
          simp only [List.getElem?_toArray, List.getElem?_cons_zero] at c4
          have hK4 := (hb.block D2 hDl).trans HK3.out
          have BX := HBW.out.setCell (p := ⟨w.heap.size + 1 + 1, 0, none⟩) (by simp; omega) (.bool true)
          have hK' := (KeepsOthers.setCell wr ⟨w.heap.size + 1 + 1, 0, none⟩ (.bool true)).same D2 _ hK4 rfl
          have br2 := T4.set 0 (.bool true)
          have hc5 := cell_kept (br2.cell 0) (grownBy_putObj' _ D2 (.deferred none)) (fun r e => by cases e; exact ⟨_, hK', rfl⟩)
          have hBF := BX.trans (belowK_b (w := w) (Nat.le_refl _) _ D2 _ (.deferred none) (by omega) hK' rfl rfl)
          clear BX br2 T4 hK4 hiw ZB
          go_wp2_with (first
            | (go_at_call 15; ((with_reducible refine (CN).mono ?_); rintro e w4 ⟨rfl, rfl⟩))
            | (go_at_call 15; ((with_reducible refine (CM).mono ?_); rintro e w5 ⟨rfl, rfl⟩)))
          refine ⟨by simp, .inl ⟨_, _, rfl, run_takeDeferred hK', ?_⟩⟩
          refine ⟨.bool true, ?_, rfl, hBF⟩
          simp [results, Try.f10, go_sem, hc5]

end Go.Proofs.Ytpaenjalpcdamaa

namespace Go.Proofs.Ytpaenjalpcdamaa
open Go Go.RowKit
set_option linter.unusedVariables false
set_option linter.unusedSimpArgs false

theorem rload_any (A : Option Addr) (c : Nat) (E : List Value) (w : World) (hE : Lists w w.heap.size A E) (h8 : Bytes8 E) (hc : E.length ≤ c) (hc2 : c ≤ 9223372036854775807) (hm : E.length ≤ 20000) :
    Calls Try.prog 9 #[.slice A E.length c] w (RLd w (ldX E)) := by
  obtain ⟨x, hx⟩ : ∃ x, rsn E 2 0 (rdn E 2 0) = x := ⟨_, rfl⟩
  by_cases hx0 : x = 0
  · subst hx0
    refine (rl_zero A c E.length E w hE h8 hc hc2 hm rfl _ rfl hx).mono fun e w' ⟨h1, h2⟩ => ?_
    by_cases hs : E.length < 2
    · have : ldX E = none := by unfold ldX; rw [if_pos hs]
      rw [this]
      rw [decide_eq_true hs] at h1
      exact ⟨⟨2, h1⟩, h2⟩
    · have : ldX E = some ([], [], 2) := by
        rw [rsn_in (by omega), rdn_two] at hx
        unfold ldX; rw [if_neg hs, if_pos hx]
      rw [this]
      rw [decide_eq_false hs] at h1
      exact ⟨none, 0, h1, ⟨fun i L h => by simp [lsts] at h⟩, h2⟩
  · have hn2 : 2 ≤ E.length := by
      refine Nat.le_of_not_lt fun h => hx0 ?_
      rw [← hx]; unfold rsn; rw [if_neg (by omega)]
    have hx2 : rd2 E 0 = x := by rw [rsn_in (by omega), rdn_two] at hx; exact hx
    have hxb : x < 65536 := by rw [← hx2]; exact rd2_lt h8 0
    obtain ⟨y, hy⟩ : ∃ y, rsn E 1 2 (rdn E 1 2) = y := ⟨_, rfl⟩
    have hyE : byteAt E 2 = y := by
      rcases Nat.lt_or_ge E.length 3 with h | h
      · rw [byteAt_out (by omega), ← hy]; unfold rsn; rw [if_neg (by omega)]
      · rw [rsn_in (by omega), rdn_one] at hy; exact hy
    have hyb : y < 256 := by rw [← hyE]; exact byteAt_lt h8 2
    by_cases hbad : decide (E.length < 3) = true ∨ y < 1 ∨ 4 < y ∨ E.length < 3 + (x + 1) * y
    · refine (rl_bad A c E.length E w hE h8 hc hc2 hm rfl x y hx hx0 hxb (by simp; omega) hy hyb _ rfl hbad).mono fun e w' ⟨h1, h2⟩ => ?_
      have : ldX E = none := by
        unfold ldX
        rw [if_neg (by omega), hx2, if_neg hx0, hyE]
        simp only
        rw [if_neg]
        rintro ⟨k1, k2, k3, _⟩
        rcases hbad with h | h | h | h
        · have h3 := of_decide_eq_true h
          have : 1 * 1 ≤ (x + 1) * y := Nat.mul_le_mul (by omega) k1
          omega
        · omega
        · omega
        · omega
      rw [this]
      exact ⟨⟨0, h1⟩, h2⟩
    · have h1 : ¬ y < 1 := fun h => hbad (.inr (.inl h))
      have h2 : ¬ 4 < y := fun h => hbad (.inr (.inr (.inl h)))
      have h3 : ¬ E.length < 3 + (x + 1) * y := fun h => hbad (.inr (.inr (.inr h)))
      exact rl_ok A c E.length E w hE h8 hc hc2 hm rfl x y _ hx hx0 hxb hy (by omega) (by omega) rfl (by omega)
/-- What an Index that was loaded is. -/
structure IxOk (os : List Nat) (D : List Value) : Prop where
  few : os.length ≤ 65537
  ord : ∀ k, k + 1 < os.length → ∃ a b, os[k]? = some a ∧ os[k + 1]? = some b ∧ a ≤ b ∧ b ≤ D.length
  bytes : Bytes8 D
theorem osN_at (E2 : List Value) (y m k : Nat) (h : k < m) : (osN E2 y m)[k]? = some (offI E2 y k).toNat := by
  unfold osN
  rw [List.getElem?_map, List.getElem?_range h]
  rfl
theorem ixOk_of {E : List Value} {os : List Nat} {D : List Value} {s : Nat} (h8 : Bytes8 E) (h : ldX E = some (os, D, s)) : IxOk os D := by
  unfold ldX at h
  split at h
  · cases h
  · split at h
    · injection h with h
      injection h with h1 h
      injection h with h2 h3
      subst h1 h2
      exact ⟨by simp, fun k hk => by simp at hk, fun u hu => by simp at hu⟩
    · simp only at h
      split at h
      · rename_i hok
        injection h with h
        injection h with h1 h
        injection h with h2 h3
        have hv := rd2_lt h8 0
        generalize rd2 E 0 = x at *
        generalize byteAt E 2 = y at *
        generalize (E.drop 3).take ((x + 1) * y) = E2 at *
        generalize (x + 1) * y = mm at *
        subst h1 h2
        obtain ⟨k1, k2, k3, k4, k5⟩ := hok
        refine ⟨by unfold osN; simp; omega, fun k hk => ?_, fun u hu => h8 u (List.mem_of_mem_drop (List.mem_of_mem_take hu))⟩
        have hk2 : k + 1 < x + 1 := by unfold osN at hk; simpa using hk
        have o0 := offs_ge E2 y (x + 1) k4 k (by omega)
        have o1 := offs_ge E2 y (x + 1) k4 (k + 1) hk2
        have ox := offs_ge E2 y (x + 1) k4 x (by omega)
        have h01 := o1.2 k (by omega)
        have h1x : offI E2 y (k + 1) ≤ offI E2 y x := by
          rcases Nat.lt_or_ge (k + 1) x with h | h
          · exact ox.2 _ h
          · have : k + 1 = x := by omega
            rw [this]
            exact Int.le_refl _
        have := o0.1
        refine ⟨_, _, osN_at E2 y (x + 1) k (by omega), osN_at E2 y (x + 1) (k + 1) hk2, by omega, ?_⟩
        rw [List.length_take, List.length_drop]
        omega
      · cases h
/-- An Index that was loaded, as it should be. -/
theorem holds_at (p : Nat) (os : List Nat) (D : List Value) (sz : Int) (A : Option Addr) (c : Nat) (Ls : List (List Value)) (st : Int) (w : World) (hI : IxAt w p w.heap.size os D sz) (ho : IxOk os D) (hL : Ls = lsts os D) (hR : RowsAt w w.heap.size A Ls) :
    Calls Try.prog 10 #[.pointer (some ⟨p, 0, none⟩), .slice A Ls.length c, .int .i64 sz, .int .i64 st] w fun e w' => e = .returned (.bool true) ∧ Below w.heap.size w w' := by
  have hl : Ls.length = os.length - 1 := by rw [hL]; unfold lsts; simp
  have := ho.few
  refine holds_any p os D sz A c Ls st w hI (by omega) ho.ord hR hl (fun k hk => ?_) ho.bytes
  rw [hL]
  unfold lsts
  rw [List.getElem?_map, List.getElem?_range hk]
  rfl
end Go.Proofs.Ytpaenjalpcdamaa

namespace Go.Proofs.Ytpaenjalpcdamaa
open Go Go.RowKit

theorem own_mono {w : World} {base : Nat} {e : TypeId} {size n : Nat} {v : Value} {xs : List Value} (h : w.ownsRow base e size v n xs) : w.ownsRow 0 e size v n xs :=
  ⟨h.1, h.2.imp id fun ⟨g, cap, cur, h1, _, h3⟩ => ⟨g, cap, cur, h1, Nat.zero_le _, h3⟩⟩

end Go.Proofs.Ytpaenjalpcdamaa

namespace Go.Proofs.Ytpaenjalpcdamaa
open Go Go.RowKit

theorem rbytes1_any (x : Int) (w : World) :
    Calls Try.prog 31 #[.int .i64 1, .int .i64 x] w fun e w' => e = .returned (.slice (some ⟨w.heap.size, 0, none⟩) 1 1) ∧ w' = w.alloc (.cells #[.int .u8 (x % 256)] 5) := by
  have hmk : ∀ w : World, (Instr.makeSlice 22 (.int .i64 1) (.int .i64 1)).run Try.prog w = .ok (.slice (some ⟨w.heap.size, 0, none⟩) 1 1) (w.alloc (.cells #[.int .u8 0] 5)) := fun w => by
    have h := run_make_row' (P := Try.prog) 22 5 (.int .u8 0) 1 Try.underlying22 u8Info rfl .i64 .i64 1 (by omega) (by omega) w
    rw [made_zeros] at h
    exact h
  go_enter Try.func31, Try.ntmps31
  go_wp2
  refine wp_loop_rounds 2 ?_
  rw [rounds_succ]
  go_wp2
  rw [rounds_succ]
  go_wp2
  go_ret
  exact ⟨rfl, rfl⟩
set_option maxRecDepth 100000 in
theorem rbytes2_any (x : Int) (w : World) :
    Calls Try.prog 31 #[.int .i64 2, .int .i64 x] w fun e w' => e = .returned (.slice (some ⟨w.heap.size, 0, none⟩) 2 2) ∧ w' = w.alloc (.cells #[.int .u8 (x / 256 % 256), .int .u8 (x % 256)] 5) := by
  have hmk : ∀ w : World, (Instr.makeSlice 22 (.int .i64 2) (.int .i64 2)).run Try.prog w = .ok (.slice (some ⟨w.heap.size, 0, none⟩) 2 2) (w.alloc (.cells #[.int .u8 0, .int .u8 0] 5)) := fun w => by
    have h := run_make_row' (P := Try.prog) 22 5 (.int .u8 0) 1 Try.underlying22 u8Info rfl .i64 .i64 2 (by omega) (by omega) w
    rw [made_zeros] at h
    exact h
  go_enter Try.func31, Try.ntmps31
  go_wp2
  refine wp_loop_rounds 3 ?_
  rw [rounds_succ]
  go_wp2
  rw [rounds_succ]
  go_wp2
  rw [rounds_succ]
  go_wp2
  go_ret
  exact ⟨rfl, rfl⟩
set_option maxRecDepth 100000 in
theorem rbytes4_any (x : Int) (w : World) :
    Calls Try.prog 31 #[.int .i64 4, .int .i64 x] w fun e w' => e = .returned (.slice (some ⟨w.heap.size, 0, none⟩) 4 4) ∧ w' = w.alloc (.cells #[.int .u8 (x / 16777216 % 256), .int .u8 (x / 65536 % 256), .int .u8 (x / 256 % 256), .int .u8 (x % 256)] 5) := by
  have hmk : ∀ w : World, (Instr.makeSlice 22 (.int .i64 4) (.int .i64 4)).run Try.prog w = .ok (.slice (some ⟨w.heap.size, 0, none⟩) 4 4) (w.alloc (.cells #[.int .u8 0, .int .u8 0, .int .u8 0, .int .u8 0] 5)) := fun w => by
    have h := run_make_row' (P := Try.prog) 22 5 (.int .u8 0) 1 Try.underlying22 u8Info rfl .i64 .i64 4 (by omega) (by omega) w
    rw [made_zeros] at h
    exact h
  go_enter Try.func31, Try.ntmps31
  go_wp2
  refine wp_loop_rounds 5 ?_
  rw [rounds_succ]
  go_wp2
  rw [rounds_succ]
  go_wp2
  rw [rounds_succ]
  go_wp2
  rw [rounds_succ]
  go_wp2
  rw [rounds_succ]
  go_wp2
  go_ret
  exact ⟨rfl, rfl⟩
end Go.Proofs.Ytpaenjalpcdamaa
