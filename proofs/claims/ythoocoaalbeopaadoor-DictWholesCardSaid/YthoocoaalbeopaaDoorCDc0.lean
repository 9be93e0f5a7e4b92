/- Part 1 of the proof: Law, Mem, OpenInts, Know, Sep, Bytes, OpenNums, Law4, Num, Fix1. -/
import Derived.Test.YthoocoaalbeopaaDoorRows
import Derived.ProofKit
import Derived.OpenShut
import Derived.Carry
import Derived.Maps.AppendAt
import Derived.Deep.AppendLies
import Derived.Laws.OwnMore
import Derived.OwnWalk
import Derived.WalkKit
import Derived.ChangeSlices
import Derived.Laws.Rows
import Derived.Deep.Slices
import Derived.Deep.Fields
import Derived.SizedLaws
import Derived.Lib.SmallJoins
import Derived.BigQuiet
import Derived.WalkSmall
import Derived.Deep.QuietTactic

namespace Go.Proofs.YthoocoaalbeopaaDoor
open Go.ChangeShapes Go.WideShapes Go.ChangeAt Go.RowKit

section
variable {H : Type} {enc : TypeId × Value → H} {P : Program}

theorem args_stay (hl : laidOutB P = true) {W W' : World} (hb : Below W.heap.size W W') :
    ∀ {ts : List TypeId} {vs : List Value} {ds : List (DataW H)} {ps : List MemPlace}, (ts.all fun t => P.readableRec t && decide (t < P.types.size)) = true →
      DataW.TrodAll enc P W 0 (fun _ => true) true ts vs ds ps → (∀ x ∈ ps, x.block < W.heap.size) → DataW.TrodAll enc P W' 0 (fun b => decide (b < W.heap.size)) true ts vs ds ps
  | [], vs, ds, ps, _, h, _ => by
    obtain ⟨rfl, rfl, rfl⟩ := trodAll_nil h
    exact h
  | t :: ts, vs, ds, ps, hr, h, hp => by
    obtain ⟨v, vs', d, ds', p, q, rfl, rfl, rfl, h1, h2⟩ := trodAll_cons h
    rw [List.all_cons, Bool.and_eq_true, Bool.and_eq_true, decide_eq_true_eq] at hr
    exact trodAll_cons_mk (Below.trod hl hr.1.1 hr.1.2 h1 hb fun x hx => hp x (List.mem_append_left _ hx)) (args_stay hl hb hr.2 h2 fun x hx => hp x (List.mem_append_right _ hx))

theorem law_post {f : Func} {s : ChangeSpec} {T : TypeId} {W W' : World} {args : Array Value} {ds : List (DataW H)} {before : List MemPlace} (hl : laidOutB P = true)
    (hr : f.resultTypes = #[T]) (hT : P.underlying T = some .bool) (hrd : (f.params.toList.all fun t => P.readableRec t && decide (t < P.types.size)) = true) (hv : s.vars = [])
    (h1 : (s.fn H ds).results = [.lit (.bool true)]) (h2 : (s.fn H ds).args = ds) (h3 : (s.fn H ds).vars = [])
    (hW : DataW.Whole enc P f.params.toList s.vars false W args.toList ds [] before) (hb : Below W.heap.size W W') :
    s.post enc P f false true false false W args (.bool true) W' := by
  have hlt : ∀ p ∈ before, p.block < W.heap.size := fun p hp => hW.lt p hp
  obtain ⟨p, q, hA, hV, rfl, _, _⟩ := id hW
  rw [hv] at hV
  have hq : q = [] := by simpa [DataW.TrodVars] using hV
  subst hq
  rw [List.append_nil] at hlt
  refine ⟨ds, [], _, [], p, [], hW, ?_, ?_, ?_, ?_, fun h => nomatch h⟩
  · rw [hr, List.append_nil, h1]; exact trodAll_mk1 (shut_bool hT true)
  · rw [List.append_nil, h2]; exact args_stay hl hb hrd hA hlt
  · rw [List.append_nil, h3, hv]; rfl
  · exact World.keptBut_mono (fun x hx => ⟨by simpa using hx, .inr (.inl hx)⟩) (hb.frame (· ∈ p))
end

theorem Tryd.own : ownKnob Tryd.prog.godebug = none := by kernel_rfl
theorem Tryd.laidOut : laidOutB Tryd.prog = true := by kernel_rfl

end Go.Proofs.YthoocoaalbeopaaDoor

namespace Go.Proofs.YthoocoaalbeopaaDoor
open Go Go.RowKit

/-- A slice's address A and the cells that it reads as: they lie below block B. -/
structure Lists (w : World) (B : Nat) (A : Option Addr) (xs : List Value) : Prop where
  nil : A = none → xs = []
  cell : ∀ a, A = some a → ∀ (j : Nat) (u : Value), xs[j]? = some u → w.cell? (a.add j) = some u
  lt : ∀ a, A = some a → xs ≠ [] → a.block < B

theorem addr_add_block (a : Addr) (j : Nat) : (a.add j).block = a.block := by
  unfold Addr.add
  by_cases h : j = 0 <;> simp [h]

theorem addr_plain (b o j : Nat) : (⟨b, o, none⟩ : Addr).add j = ⟨b, o + j, none⟩ := by
  unfold Addr.add
  by_cases h : j = 0 <;> simp [h]

theorem Lists.keep {w w1 : World} {B : Nat} {A : Option Addr} {xs : List Value} (h : Lists w B A xs) (hk : ∀ p : Addr, p.block < B → w1.cell? p = w.cell? p) : Lists w1 B A xs :=
  ⟨h.nil, fun a ha j u hu => (hk _ (by rw [addr_add_block]; exact h.lt a ha (by intro e; subst e; simp at hu))).trans (h.cell a ha j u hu), h.lt⟩
theorem Lists.more {w : World} {B B1 : Nat} {A : Option Addr} {xs : List Value} (h : Lists w B A xs) (hB : B ≤ B1) : Lists w B1 A xs := ⟨h.nil, h.cell, fun a ha hx => Nat.lt_of_lt_of_le (h.lt a ha hx) hB⟩
theorem Lists.below {w w1 : World} {B : Nat} {A : Option Addr} {xs : List Value} (h : Lists w B A xs) (hb : Below B w w1) : Lists w1 B A xs := h.keep fun _ hp => hb.cell hp
theorem Lists.alloc {w : World} {B : Nat} {A : Option Addr} {xs : List Value} (h : Lists w B A xs) (hB : B ≤ w.heap.size) (o : Obj) : Lists (w.alloc o) B A xs := h.below ((Below.refl _ _).alloc hB o)
theorem Lists.empty (w : World) (B : Nat) (A : Option Addr) : Lists w B A [] := ⟨fun _ => rfl, fun _ _ j u hu => by simp at hu, fun _ _ h => absurd rfl h⟩
theorem Lists.plain {w : World} {B : Nat} {A : Option Addr} {xs : List Value} (h : Lists w B A xs) (hx : xs ≠ []) : ∃ b o, A = some ⟨b, o, none⟩ ∧ b < B ∧ ∀ (j : Nat) (u : Value), xs[j]? = some u → w.cell? ⟨b, o + j, none⟩ = some u := by
  cases A with
  | none => exact absurd (h.nil rfl) hx
  | some a =>
    have hlt := h.lt a rfl hx
    have hc := h.cell a rfl
    obtain ⟨x, l, rfl⟩ : ∃ x l, xs = x :: l := by cases xs with | nil => exact absurd rfl hx | cons x l => exact ⟨x, l, rfl⟩
    obtain ⟨b, o, s⟩ := a
    have hs : s = none := by simpa [Addr.add] using World.cell?_spot (hc 0 x rfl)
    subst hs
    exact ⟨b, o, rfl, hlt, fun j u hu => by have := hc j u hu; rwa [addr_plain] at this⟩

/-- What the call owns reads so. -/
theorem own_lists {w : World} {base : Nat} {e : TypeId} {size n : Nat} {v : Value} {xs : List Value} (h : w.ownsRow base e size v n xs) : ∃ A c, v = .slice A n c ∧ Lists w w.heap.size A xs ∧ n ≤ c := by
  have hc := @World.ownsRow.cells w base e size v n xs h
  rcases h.2 with ⟨rfl, rfl⟩ | ⟨g, cap, cur, rfl, _, hh, hn, _⟩
  · exact ⟨none, 0, rfl, ⟨fun _ => List.eq_nil_of_length_eq_zero (by simpa using h.1), fun _ ha => (nomatch ha), fun _ ha => (nomatch ha)⟩, Nat.le_refl _⟩
  · refine ⟨some ⟨g, 0, none⟩, cap, rfl, ⟨fun ha => (nomatch ha), fun a ha j u hu => ?_, fun a ha _ => ?_⟩, hn⟩
    · cases ha; exact hc (g := g) rfl j u hu
    · cases ha
      rcases Nat.lt_or_ge g w.heap.size with hlt | hge
      · exact hlt
      · rw [Array.getElem?_eq_none hge] at hh; cases hh

section
variable {P : Program} (w : World)

theorem run_append_src (base : Nat) (t ty e : TypeId) (i : TypeInfo) (z : Value) (size bytes : Nat) (ht : P.underlying t = some (.slice e)) (hi : P.info? e = some i) (hz : i.zero = some z)
    (hsize : i.size = size) (hby : i.bytes = bytes) (hzs : z.cells.size = size) (hsz : 0 < size) (v : Value) (n : Nat) (xs : List Value) (hown : w.ownsRow base e size v n xs)
    (B : Nat) (A : Option Addr) (m c : Nat) (news : List Value) (hr : Lists w B A news) (hl : news.length = m * size) (h1 : ∀ u ∈ news, u.oneCell' = true)
    (h63 : n + m ≤ maxLen) (hbytes : (n + m) * bytes ≤ 140737488355328) (hbase : base ≤ w.heap.size) :
    ∃ v' w', (Builtin.append_ #[t, t] ty #[v, .slice A m c]).run P w = .ok v' w' ∧ w'.ownsRow base e size v' (n + m) (xs ++ news) ∧ w.grownBy w' v.ownBlock ∧
      (v'.ownBlock = v.ownBlock ∨ v'.ownBlock = some w.heap.size) := by
  cases A with
  | none =>
    have hn : news = [] := hr.nil rfl
    subst hn
    have hm : m = 0 := by
      have : m * size = 0 := by simpa using hl.symm
      rcases Nat.mul_eq_zero.1 this with h | h
      · exact h
      · omega
    subst hm
    refine ⟨v, w, ?_, by simpa using hown, World.grownBy.refl w _, .inl rfl⟩
    rcases hown.2 with ⟨rfl, rfl⟩ | ⟨g, cap, cur, rfl, _, _, hc, _⟩
    · simp [Builtin.append_, run_underlying ht, sizeOf, typeInfo, hi, Builtin.lenOf, Builtin.firstCells]
    · simp [Builtin.append_, run_underlying ht, sizeOf, typeInfo, hi, Builtin.lenOf, Builtin.firstCells, hc, storeCells]
  | some ad =>
    obtain ⟨v', w', hrun, h2, h3, _, h5⟩ := run_append_own_at (P := P) w base t ty e i z size bytes ht hi hz hsize hby hzs hsz v n xs hown ad m c news hl (hr.cell ad rfl) h1 h63 hbytes hbase
    exact ⟨v', w', hrun, h2, h3, h5⟩

theorem wp_append_src {o : Oper} {a : Act} {K : Act → World → Prop} {Q : Exit → Act → World → Prop} (s x : Operand) (t : TypeId)
    (ho : o.op = .call { callee := .builtin .append, args := #[s, x], argTypes := #[t, t] })
    (base : Nat) (e : TypeId) (i : TypeInfo) (z : Value) (size bytes : Nat) (ht : P.underlying t = some (.slice e)) (hi : P.info? e = some i) (hz : i.zero = some z)
    (hsize : i.size = size) (hby : i.bytes = bytes) (hzs : z.cells.size = size) (hsz : 0 < size)
    (v : Value) (n : Nat) (xs : List Value) (hs : a.eval s = v) (hown : w.ownsRow base e size v n xs)
    (B : Nat) (A : Option Addr) (m c : Nat) (news : List Value) (hx : a.eval x = .slice A m c) (hr : Lists w B A news) (hl : news.length = m * size) (h1 : ∀ u ∈ news, u.oneCell' = true)
    (h63 : n + m ≤ maxLen) (hbytes : (n + m) * bytes ≤ 140737488355328) (hbase : base ≤ w.heap.size)
    (h : ∀ v' w', w'.ownsRow base e size v' (n + m) (xs ++ news) → w.grownBy w' v.ownBlock → (v'.ownBlock = v.ownBlock ∨ v'.ownBlock = some w.heap.size) → K (a.put o.dst v') w') : o.wp P a w K Q := by
  obtain ⟨v', w', hrun, h2, h3, h4⟩ := run_append_src (P := P) w base t o.type e i z size bytes ht hi hz hsize hby hzs hsz v n xs hown B A m c news hr hl h1 h63 hbytes hbase
  unfold Oper.wp execOp
  simp only [ho, resolve, invoke, builtin, Sem.run_bind, Sem.run_pure, Result.andThen_ok, List.map_toArray, List.map_cons, List.map_nil, hs, hx, hrun]
  exact h v' w' h2 h3 h4

theorem wpList_append_src {ops : Array Oper} {rest : List Oper} {o : Oper} {a : Act} {Q : Exit → Act → World → Prop} (hgd : o.guard = none) (s x : Operand) (t : TypeId)
    (ho : o.op = .call { callee := .builtin .append, args := #[s, x], argTypes := #[t, t] })
    (base : Nat) (e : TypeId) (i : TypeInfo) (z : Value) (size bytes : Nat) (ht : P.underlying t = some (.slice e)) (hi : P.info? e = some i) (hz : i.zero = some z)
    (hsize : i.size = size) (hby : i.bytes = bytes) (hzs : z.cells.size = size) (hsz : 0 < size)
    (v : Value) (n : Nat) (xs : List Value) (hs : a.eval s = v) (hown : w.ownsRow base e size v n xs)
    (B : Nat) (A : Option Addr) (m c : Nat) (news : List Value) (hx : a.eval x = .slice A m c) (hr : Lists w B A news) (hl : news.length = m * size) (h1 : ∀ u ∈ news, u.oneCell' = true)
    (h63 : n + m ≤ maxLen) (hbytes : (n + m) * bytes ≤ 140737488355328) (hbase : base ≤ w.heap.size)
    (h : ∀ v' w', w'.ownsRow base e size v' (n + m) (xs ++ news) → w.grownBy w' v.ownBlock → (v'.ownBlock = v.ownBlock ∨ v'.ownBlock = some w.heap.size) → wpList P ops Q rest (a.put o.dst v') w') : wpList P ops Q (o :: rest) a w :=
  wpList_plain hgd fun _ hK => wp_append_src w s x t ho base e i z size bytes ht hi hz hsize hby hzs hsz v n xs hs hown B A m c news hx hr hl h1 h63 hbytes hbase fun v' w' h2 h3 h4 => hK _ _ (h v' w' h2 h3 h4)
end

/-- A list of ints as cells. -/
def intCells (zs : List Int) : List Value := zs.map (Value.int .i64)
theorem intCells_one (zs : List Int) : ∀ u ∈ intCells zs, u.oneCell' = true := by
  intro u hu
  obtain ⟨z, _, rfl⟩ := List.mem_map.1 hu
  rfl
theorem intCells_len (zs : List Int) : (intCells zs).length = zs.length := by simp [intCells]
theorem intCells_get (zs : List Int) (j : Nat) (h : j < zs.length) : (intCells zs)[j]? = some (.int .i64 (zs.getD j 0)) := by simp [intCells, h]

end Go.Proofs.YthoocoaalbeopaaDoor

namespace Go.Proofs.YthoocoaalbeopaaDoor
open Go.ChangeShapes Go.WideShapes Go.ChangeAt Go.RowKit

section
variable {H : Type} {enc : TypeId × Value → H} {P : Program}
theorem open_list_int {w : World} {t e : TypeId} {base : Nat} {spare : Nat → Bool} {held : Bool} {r : Reach} {b0 : Nat} {v : Value} {d : DataW H} {p : List MemPlace}
    (hs : P.underlying t = some (.slice e)) (he : P.underlying e = some (.int .i64)) (hC : P.cellsOf e = 1)
    (hv : Value.okWide P w r b0 t v) (h : DataW.Trod enc P w base spare held t v d p) :
    ∃ (A : Option Addr) (n c : Nat) (zs : List Int), v = .slice A n c ∧ zs.length = n ∧ n ≤ c ∧ c ≤ maxLen ∧ Lists w w.heap.size A (intCells zs) ∧ ∀ z ∈ zs, (Lit.int .i64 z).wf = true := by
  obtain ⟨a0, len, cap, rfl⟩ := okWide_slice hs hv
  obtain ⟨fuel, hf⟩ := h
  rcases open_ints hs he hC hf with ⟨hcs, _⟩ | ⟨a, len', cap', zs, hcs, _, hl, hm, hz, _, hcell, hwf⟩
  · simp [Value.cells] at hcs
    obtain ⟨rfl, rfl, rfl⟩ := hcs
    exact ⟨none, 0, 0, [], rfl, rfl, Nat.le_refl _, Nat.zero_le _, Lists.empty _ _ _, fun z hz => by cases hz⟩
  · simp [Value.cells] at hcs
    obtain ⟨rfl, rfl, rfl⟩ := hcs
    have hlen : len ≤ zs.length := by split at hz <;> omega
    have hc : ∀ j u, (intCells (zs.take len))[j]? = some u → w.cell? (a.add j) = some u := fun j u hu => by
      have hj : j < (zs.take len).length := by
        rcases Nat.lt_or_ge j (zs.take len).length with h | h
        · exact h
        · rw [List.getElem?_eq_none (by rw [intCells_len]; exact h)] at hu; cases hu
      rw [intCells_get _ _ hj] at hu
      have hj2 : j < len := by simp at hj; omega
      have hh := hcell j (by omega)
      cases hu
      rw [hh]
      simp [List.getD, hj2]
    refine ⟨some a, len, cap, zs.take len, rfl, by simp; omega, hl, hm, ⟨fun ha => (nomatch ha), fun a' ha => ?_, fun a' ha hx => ?_⟩, fun z hz' => hwf z (List.mem_of_mem_take hz')⟩
    · cases ha; exact hc
    · cases ha
      have h0 : 0 < (intCells (zs.take len)).length := by
        rcases Nat.eq_zero_or_pos (intCells (zs.take len)).length with h | h
        · exact absurd (List.eq_nil_of_length_eq_zero h) hx
        · exact h
      have := hc 0 _ (List.getElem?_eq_getElem h0)
      rcases Nat.lt_or_ge a.block w.heap.size with h | h
      · exact h
      · have e0 : (a.add 0) = a := by simp [Addr.add]
        rw [e0] at this
        unfold World.cell? at this
        rw [Array.getElem?_eq_none h] at this
        cases this
end

end Go.Proofs.YthoocoaalbeopaaDoor

namespace Go.Proofs.YthoocoaalbeopaaDoor
open Go Go.RowKit

/-- Cells from o on of block b. -/
def CellsAt (w : World) (b : Nat) : Nat → List Value → Prop
  | _, [] => True
  | o, v :: vs => w.cell? ⟨b, o, none⟩ = some v ∧ CellsAt w b (o + 1) vs

/-- Blocks that stand and are not frozen, with what their first cells hold. -/
def KB (w : World) : List (Nat × List Value) → Prop
  | [] => True
  | (b, vs) :: r => b < w.heap.size ∧ (∀ o, w.frozen? ⟨b, o, none⟩ = false) ∧ CellsAt w b 0 vs ∧ KB w r

theorem CellsAt.next {w w1 : World} {b : Nat} (hb : Below w.heap.size w w1) (h : b < w.heap.size) : ∀ {vs : List Value} {o : Nat}, CellsAt w b o vs → CellsAt w1 b o vs
  | [], _, _ => trivial
  | _ :: _, o, H => ⟨(hb.cell (p := ⟨b, o, none⟩) h).trans H.1, CellsAt.next hb h H.2⟩

theorem KB.next {w w1 : World} (hb : Below w.heap.size w w1) : ∀ {l : List (Nat × List Value)}, KB w l → KB w1 l
  | [], _ => trivial
  | _ :: _, H => ⟨Nat.lt_of_lt_of_le H.1 hb.size, fun o => (hb.frozen (p := ⟨_, o, none⟩) H.1).trans (H.2.1 o), H.2.2.1.next hb H.1, H.2.2.2.next hb⟩

theorem cellsAt_new (w : World) (vs : Array Value) (T : TypeId) : ∀ (l : List Value) (o : Nat), vs.toList.drop o = l → CellsAt (w.alloc (.cells vs T)) w.heap.size o l
  | [], _, _ => trivial
  | v :: l, o, h => by
    have hv : vs[o]? = some v := by
      have h0 := congrArg (fun l => l[0]?) h
      simpa using h0
    refine ⟨?_, cellsAt_new w vs T l (o + 1) (by rw [← List.drop_drop, h]; rfl)⟩
    rw [World.cell?_alloc_new]; exact hv

/-- From w0 on nothing of what was there has turned, and this is known of blocks of w. -/
def Known (w0 w : World) (l : List (Nat × List Value)) : Prop := Below w0.heap.size w0 w ∧ KB w l

theorem Known.start (w : World) : Known w w [] := ⟨Below.refl _ _, trivial⟩
theorem Known.next {w0 w w1 : World} {l : List (Nat × List Value)} (H : Known w0 w l) (hb : Below w.heap.size w w1) : Known w0 w1 l := ⟨H.1.trans (hb.mono H.1.size), H.2.next hb⟩
theorem Known.drew {w0 w : World} {l : List (Nat × List Value)} (H : Known w0 w l) : Known w0 w.drew l := H.next ((Below.refl _ _).drew)
theorem Known.alloc {w0 w : World} {l : List (Nat × List Value)} (H : Known w0 w l) (o : Obj) : Known w0 (w.alloc o) l := H.next ((Below.refl _ _).alloc (Nat.le_refl _) o)
theorem Known.new {w0 w : World} {l : List (Nat × List Value)} (H : Known w0 w l) (vs : Array Value) (T : TypeId) : Known w0 (w.alloc (.cells vs T)) ((w.heap.size, vs.toList) :: l) :=
  ⟨(H.alloc _).1, by simp, fun o => World.frozen?_alloc_new w vs T o, cellsAt_new w vs T _ 0 rfl, (H.alloc _).2⟩
theorem Known.drop {w0 w : World} {l : List (Nat × List Value)} {x : Nat × List Value} (H : Known w0 w (x :: l)) : Known w0 w l := ⟨H.1, H.2.2.2.2⟩

/-- A store into a block that stands behind all others that are known: they stay. -/
theorem KB.below {B : Nat} {w w1 : World} (hb : Below B w w1) : ∀ {l : List (Nat × List Value)}, (∀ x ∈ l, x.1 < B) → KB w l → KB w1 l
  | [], _, _ => trivial
  | (b, vs) :: r, hl, H => by
    have h : b < B := hl (b, vs) (List.mem_cons_self)
    refine ⟨Nat.lt_of_lt_of_le H.1 hb.size, fun o => (hb.frozen (p := ⟨b, o, none⟩) h).trans (H.2.1 o), ?_, KB.below hb (fun x hx => hl x (List.mem_cons_of_mem _ hx)) H.2.2.2⟩
    have go : ∀ (vs : List Value) (o : Nat), CellsAt w b o vs → CellsAt w1 b o vs := fun vs => by
      induction vs with
      | nil => intro _ _; trivial
      | cons v vs ih => intro o H; exact ⟨(hb.cell (p := ⟨b, o, none⟩) h).trans H.1, ih _ H.2⟩
    exact go vs 0 H.2.2.1

/-- Four stores into a block. -/
theorem Known.put4 {w0 w8 wr : World} {l : List (Nat × List Value)} {b : Nat} {z0 z1 z2 z3 : Value} (I : Known w0 w8 l) (hb : w8.heap.size ≤ b) (B : Below w8.heap.size w8 wr)
    (hz : b < wr.heap.size) (hf : ∀ o, wr.frozen? ⟨b, o, none⟩ = false) (hc : CellsAt wr b 0 [z0, z1, z2, z3]) (v0 v1 v2 v3 : Value) :
    Known w0 ((((wr.setCell ⟨b, 0, none⟩ v0).setCell ⟨b, 1, none⟩ v1).setCell ⟨b, 2, none⟩ v2).setCell ⟨b, 3, none⟩ v3) ((b, [v0, v1, v2, v3]) :: l) := by
  have K := I.next ((((B.setCell (p := ⟨b, 0, none⟩) hb v0).setCell (p := ⟨b, 1, none⟩) hb v1).setCell (p := ⟨b, 2, none⟩) hb v2).setCell (p := ⟨b, 3, none⟩) hb v3)
  obtain ⟨c0, c1, c2, c3, _⟩ := hc
  simp only [Nat.zero_add, Nat.reduceAdd] at c0 c1 c2 c3
  refine ⟨K.1, ?_, fun o => ?_, ⟨?_, ?_, ?_, ?_, trivial⟩, K.2⟩
  · simpa using hz
  · simp [hf]
  all_goals go_simp

end Go.Proofs.YthoocoaalbeopaaDoor

namespace Go.Proofs.YthoocoaalbeopaaDoor
open Go Go.RowKit

/-- w1 is w but for the blocks of fp, and new ones. -/
structure Only (w w1 : World) (fp : List Nat) : Prop where
  os : w1.os = w.os
  tape : w1.tape = w.tape
  output : w1.output = w.output
  size : w.heap.size ≤ w1.heap.size
  block : ∀ b, b < w.heap.size → b ∉ fp → w1.heap[b]? = w.heap[b]?

theorem Only.refl (w : World) (fp : List Nat) : Only w w fp := ⟨rfl, rfl, rfl, Nat.le_refl _, fun _ _ _ => rfl⟩
theorem Only.of_below {w w1 : World} (h : Below w.heap.size w w1) (fp : List Nat) : Only w w1 fp := ⟨h.os, h.tape, h.output, h.size, fun b hb _ => h.block b hb⟩
theorem Only.to_below {w w1 : World} {fp : List Nat} (h : Only w w1 fp) {B : Nat} (hB : B ≤ w.heap.size) (hf : ∀ b ∈ fp, B ≤ b) : Below B w w1 :=
  ⟨h.os, h.tape, h.output, h.size, fun b hb => h.block b (by omega) fun hm => by have := hf b hm; omega⟩
theorem Only.nil_below {w w1 : World} (h : Only w w1 []) : Below w.heap.size w w1 := h.to_below (Nat.le_refl _) fun _ hb => (nomatch hb)
theorem Only.trans {w a c : World} {fp fp1 : List Nat} (h : Only w a fp) (k : Only a c fp1) (hf : ∀ b ∈ fp1, b ∈ fp ∨ w.heap.size ≤ b) : Only w c fp :=
  ⟨k.os.trans h.os, k.tape.trans h.tape, k.output.trans h.output, Nat.le_trans h.size k.size, fun b hb hn => (k.block b (Nat.lt_of_lt_of_le hb h.size) fun hm => by
    rcases hf b hm with h1 | h1
    · exact hn h1
    · omega).trans (h.block b hb hn)⟩
theorem Only.more {w a : World} {fp fp1 : List Nat} (h : Only w a fp) (hs : ∀ b ∈ fp, b ∈ fp1 ∨ w.heap.size ≤ b) : Only w a fp1 :=
  ⟨h.os, h.tape, h.output, h.size, fun b hb hn => h.block b hb fun hm => by
    rcases hs b hm with h1 | h1
    · exact hn h1
    · omega⟩
theorem Only.then_below {w a c : World} {fp : List Nat} (h : Only w a fp) (k : Below a.heap.size a c) : Only w c fp := h.trans (Only.of_below k []) fun _ hb => (nomatch hb)
theorem Only.alloc {w a : World} {fp : List Nat} (h : Only w a fp) (o : Obj) : Only w (a.alloc o) fp := h.then_below ((Below.refl _ _).alloc (Nat.le_refl _) o)
theorem Only.drew {w a : World} {fp : List Nat} (h : Only w a fp) : Only w a.drew fp := h.then_below ((Below.refl _ _).drew)
theorem Only.set {w a : World} {fp : List Nat} (h : Only w a fp) {p : Addr} (hp : p.block ∈ fp ∨ w.heap.size ≤ p.block) (v : Value) : Only w (a.setCell p v) fp :=
  ⟨h.os, h.tape, h.output, by simpa using h.size, fun b hb hn => by
    rw [Below.heap_setCell a p v b (fun e => by subst e; rcases hp with h1 | h1; exact hn h1; omega)]
    exact h.block b hb hn⟩
theorem Only.grown {w a c : World} {fp : List Nat} {row : Option Nat} (h : Only w a fp) (hg : a.grownBy c row) (hr : ∀ b, row = some b → b ∈ fp ∨ w.heap.size ≤ b) : Only w c fp :=
  ⟨hg.os.trans h.os, hg.tape.trans h.tape, hg.output.trans h.output, Nat.le_trans h.size hg.size, fun b hb hn => (hg.block b (Nat.lt_of_lt_of_le hb h.size) fun e => by
    rcases hr b e.symm with h1 | h1
    · exact hn h1
    · omega).trans (h.block b hb hn)⟩

/-- Block p is just these cells, none frozen. -/
def Blk (w : World) (p : Nat) (T : TypeId) (cs : Array Value) : Prop := w.heap[p]? = some (.cells cs T (0, 0))

theorem Blk.lt {w : World} {p : Nat} {T : TypeId} {cs : Array Value} (h : Blk w p T cs) : p < w.heap.size := by
  rcases Nat.lt_or_ge p w.heap.size with h1 | h1
  · exact h1
  · unfold Blk at h; rw [Array.getElem?_eq_none h1] at h; cases h
theorem Blk.cell {w : World} {p : Nat} {T : TypeId} {cs : Array Value} (h : Blk w p T cs) (j : Nat) : w.cell? ⟨p, j, none⟩ = cs[j]? := cell_of_row w p j cs T (0, 0) h
theorem Blk.frozen {w : World} {p : Nat} {T : TypeId} {cs : Array Value} (h : Blk w p T cs) (j : Nat) : w.frozen? ⟨p, j, none⟩ = false := by
  unfold Blk at h; simp [World.frozen?, h]
theorem Blk.new (w : World) (T : TypeId) (cs : Array Value) : Blk (w.alloc (.cells cs T)) w.heap.size T cs := heap_alloc_new w _
theorem Blk.only {w w1 : World} {p : Nat} {T : TypeId} {cs : Array Value} {fp : List Nat} (h : Blk w p T cs) (k : Only w w1 fp) (hn : p ∉ fp) : Blk w1 p T cs := (k.block p h.lt hn).trans h
theorem Blk.below {w w1 : World} {p : Nat} {T : TypeId} {cs : Array Value} (h : Blk w p T cs) (k : Below w.heap.size w w1) : Blk w1 p T cs := (k.block p h.lt).trans h
theorem Blk.set {w : World} {p : Nat} {T : TypeId} {cs : Array Value} (h : Blk w p T cs) (j : Nat) (v : Value) : Blk (w.setCell ⟨p, j, none⟩ v) p T (cs.setIfInBounds j v) := by
  unfold Blk at *; simp [World.setCell, Array.getElem?_modify, h]
theorem Blk.other {w : World} {p : Nat} {T : TypeId} {cs : Array Value} (h : Blk w p T cs) {q : Addr} (hq : p ≠ q.block) (v : Value) : Blk (w.setCell q v) p T cs := (Below.heap_setCell w q v p hq).trans h
theorem Blk.kb {w : World} {p : Nat} {T : TypeId} {cs : Array Value} (h : Blk w p T cs) : KB w [(p, cs.toList)] := by
  refine ⟨h.lt, fun o => h.frozen o, ?_, trivial⟩
  have go : ∀ (l : List Value) (o : Nat), cs.toList.drop o = l → CellsAt w p o l := by
    intro l
    induction l with
    | nil => intro _ _; trivial
    | cons v l ih =>
      intro o ho
      refine ⟨?_, ih (o + 1) (by rw [← List.drop_drop, ho]; rfl)⟩
      rw [h.cell]
      have h0 := congrArg (fun l => l[0]?) ho
      simpa using h0
  exact go _ 0 rfl

/-- The block of a slice that the call owns. -/
def blk (v : Value) : List Nat := v.ownBlock.toList

theorem own_only {w w1 : World} {base : Nat} {e : TypeId} {size n : Nat} {v : Value} {xs : List Value} {fp : List Nat} (h : w.ownsRow base e size v n xs) (k : Only w w1 fp) (hn : ∀ b ∈ blk v, b ∉ fp) : w1.ownsRow base e size v n xs := by
  refine ⟨h.1, ?_⟩
  have hlt := h.lt
  rcases h.2 with h1 | ⟨g, cap, cur, rfl, h2, h3, h4⟩
  · exact .inl h1
  · exact .inr ⟨g, cap, cur, rfl, h2, (k.block g (hlt g rfl).2 (hn g (by simp [blk, Value.ownBlock]))).trans h3, h4⟩

theorem lists_only {w w1 : World} {B : Nat} {A : Option Addr} {xs : List Value} {fp : List Nat} (h : Lists w B A xs) (hB : B ≤ w.heap.size) (k : Only w w1 fp) (hn : ∀ a, A = some a → xs ≠ [] → a.block ∉ fp) : Lists w1 B A xs :=
  ⟨h.nil, fun a ha j u hu => by
    have hx : xs ≠ [] := by intro e; subst e; simp at hu
    have hb : w1.heap[(a.add j).block]? = w.heap[(a.add j).block]? := by
      rw [addr_add_block]
      exact k.block _ (Nat.lt_of_lt_of_le (h.lt a ha hx) hB) (hn a ha hx)
    exact (World.cell?_of_block hb).trans (h.cell a ha j u hu), h.lt⟩

theorem blk_lt {w : World} {base : Nat} {e : TypeId} {size n : Nat} {v : Value} {xs : List Value} (h : w.ownsRow base e size v n xs) : ∀ b ∈ blk v, b < w.heap.size := by
  intro b hb
  simp only [blk, Option.mem_toList] at hb
  exact (h.lt b hb).2

end Go.Proofs.YthoocoaalbeopaaDoor

namespace Go.Proofs.YthoocoaalbeopaaDoor
open Go Go.RowKit

def zero8 : Value := .int .u8 0

/-- Data from a place on, with so many zeros ahead of each gap's place. -/
def expand (D : List Value) : Nat → List (Nat × Nat) → List Value
  | i, [] => D.drop i
  | i, (a, z) :: G => (D.drop i).take (a - i) ++ List.replicate z zero8 ++ expand D a G

/-- The gaps' places rise, and are none beyond n; none is empty. -/
def GapsOk : Nat → List (Nat × Nat) → Nat → Prop
  | i, [], n => i ≤ n
  | i, (a, z) :: G, n => i ≤ a ∧ 1 ≤ z ∧ GapsOk a G n

def gapSum (G : List (Nat × Nat)) : Nat := (G.map (·.2)).sum

theorem GapsOk.le : ∀ {G : List (Nat × Nat)} {i n : Nat}, GapsOk i G n → i ≤ n
  | [], _, _, h => h
  | _ :: _, _, _, h => Nat.le_trans h.1 h.2.2.le
theorem GapsOk.more : ∀ {G : List (Nat × Nat)} {i n m : Nat}, GapsOk i G n → n ≤ m → GapsOk i G m
  | [], _, _, _, h, hm => Nat.le_trans h hm
  | _ :: _, _, _, _, h, hm => ⟨h.1, h.2.1, h.2.2.more hm⟩
theorem GapsOk.snoc {z : Nat} (hz : 1 ≤ z) : ∀ {G : List (Nat × Nat)} {i n : Nat}, GapsOk i G n → GapsOk i (G ++ [(n, z)]) n
  | [], _, _, h => ⟨h, hz, Nat.le_refl _⟩
  | _ :: _, _, _, h => ⟨h.1, h.2.1, GapsOk.snoc hz h.2.2⟩
theorem GapsOk.count : ∀ {G : List (Nat × Nat)} {i n : Nat}, GapsOk i G n → G.length ≤ gapSum G
  | [], _, _, _ => Nat.zero_le _
  | (a, z) :: G, _, _, h => by
    have := h.2.2.count
    have h1 := h.2.1
    simp only [gapSum, List.map_cons, List.sum_cons, List.length_cons] at *
    omega

theorem expand_data (D E : List Value) : ∀ (G : List (Nat × Nat)) (i : Nat), GapsOk i G D.length → expand (D ++ E) i G = expand D i G ++ E
  | [], i, h => by simp only [expand]; rw [List.drop_append_of_le_length h]
  | (a, z) :: G, i, h => by
    have hle := h.2.2.le
    simp only [expand]
    rw [expand_data D E G a h.2.2, List.drop_append_of_le_length (by have := h.1; omega), List.take_append_of_le_length (by rw [List.length_drop]; omega)]
    simp only [List.append_assoc]

theorem expand_gap (D : List Value) (z : Nat) : ∀ (G : List (Nat × Nat)) (i : Nat), GapsOk i G D.length → expand D i (G ++ [(D.length, z)]) = expand D i G ++ List.replicate z zero8
  | [], i, h => by
    simp only [List.nil_append, expand]
    rw [List.take_of_length_le (by rw [List.length_drop]; omega), List.drop_eq_nil_of_le (Nat.le_refl _)]
    simp
  | (a, y) :: G, i, h => by
    simp only [List.cons_append, expand]
    rw [expand_gap D z G a h.2.2]
    simp only [List.append_assoc]

theorem expand_len (D : List Value) : ∀ (G : List (Nat × Nat)) (i : Nat), GapsOk i G D.length → (expand D i G).length = D.length - i + gapSum G
  | [], i, _ => by simp [expand, gapSum]
  | (a, z) :: G, i, h => by
    have hle := h.2.2.le
    have h1 := h.1
    simp only [expand, List.length_append, List.length_replicate, List.length_take, List.length_drop]
    rw [expand_len D G a h.2.2]
    simp only [gapSum, List.map_cons, List.sum_cons]
    omega

/-- The cells of gaps. -/
def gapCells : List (Nat × Nat) → List Value
  | [] => []
  | (a, z) :: G => .int .i64 (a : Int) :: .int .i64 (z : Int) :: gapCells G
theorem gapCells_len : ∀ G : List (Nat × Nat), (gapCells G).length = G.length * 2
  | [] => rfl
  | _ :: G => by simp only [gapCells, List.length_cons, gapCells_len G]; omega
theorem gapCells_snoc (a z : Nat) : ∀ G : List (Nat × Nat), gapCells (G ++ [(a, z)]) = gapCells G ++ [.int .i64 (a : Int), .int .i64 (z : Int)]
  | [] => rfl
  | (_, _) :: G => by simp only [List.cons_append, gapCells, gapCells_snoc a z G]
theorem gapCells_at : ∀ (G : List (Nat × Nat)) (k : Nat) (a z : Nat), G[k]? = some (a, z) → (gapCells G)[k * 2]? = some (.int .i64 (a : Int)) ∧ (gapCells G)[k * 2 + 1]? = some (.int .i64 (z : Int))
  | [], k, a, z, h => by simp at h
  | (b, y) :: G, 0, a, z, h => by
    simp only [List.getElem?_cons_zero, Option.some.injEq, Prod.mk.injEq] at h
    obtain ⟨rfl, rfl⟩ := h
    exact ⟨rfl, rfl⟩
  | (b, y) :: G, k + 1, a, z, h => by
    have := gapCells_at G k a z (by simpa using h)
    rw [show (k + 1) * 2 = k * 2 + 1 + 1 by omega]
    exact this

/-- Each is a byte. -/
def Bytes8 (l : List Value) : Prop := ∀ u ∈ l, ∃ x : Nat, x < 256 ∧ u = .int .u8 (x : Int)
theorem Bytes8.one {l : List Value} (h : Bytes8 l) : ∀ u ∈ l, u.oneCell' = true := fun u hu => by
  obtain ⟨x, _, rfl⟩ := h u hu
  rfl
theorem Bytes8.append {l m : List Value} (h : Bytes8 l) (k : Bytes8 m) : Bytes8 (l ++ m) := fun u hu => by
  rcases List.mem_append.1 hu with h1 | h1
  · exact h u h1
  · exact k u h1
theorem Bytes8.zeros (n : Nat) : Bytes8 (List.replicate n zero8) := fun u hu => ⟨0, by omega, (List.mem_replicate.1 hu).2⟩

theorem own_ne {w : World} {base p : Nat} {e T : TypeId} {size n : Nat} {v : Value} {xs : List Value} {cs : Array Value} (h : w.ownsRow base e size v n xs) (hb : Blk w p T cs) (hne : e ≠ T) : p ∉ blk v := by
  intro hm
  rcases h.2 with ⟨rfl, _⟩ | ⟨g, cap, cur, rfl, _, hh, _⟩
  · simp [blk, Value.ownBlock] at hm
  · have : p = g := by simpa [blk, Value.ownBlock] using hm
    subst this
    unfold Blk at hb
    rw [hh] at hb
    injection hb with hb
    injection hb with _ ht
    exact hne ht
theorem own_own {w : World} {base base1 : Nat} {e e1 : TypeId} {size n size1 n1 : Nat} {v v1 : Value} {xs xs1 : List Value} (h : w.ownsRow base e size v n xs) (h1 : w.ownsRow base1 e1 size1 v1 n1 xs1) (hne : e ≠ e1) : ∀ b ∈ blk v, b ∉ blk v1 := by
  intro b hb hm
  rcases h.2 with ⟨rfl, _⟩ | ⟨g, cap, cur, rfl, _, hh, _⟩
  · simp [blk, Value.ownBlock] at hb
  · rcases h1.2 with ⟨rfl, _⟩ | ⟨g1, cap1, cur1, rfl, _, hh1, _⟩
    · simp [blk, Value.ownBlock] at hm
    · have e1 : b = g := by simpa [blk, Value.ownBlock] using hb
      have e2 : b = g1 := by simpa [blk, Value.ownBlock] using hm
      subst e1 e2
      rw [hh] at hh1
      injection hh1 with hh1
      injection hh1 with _ ht
      exact hne ht

end Go.Proofs.YthoocoaalbeopaaDoor

namespace Go.Proofs.YthoocoaalbeopaaDoor
open Go.ChangeShapes Go.WideShapes Go.ChangeAt Go.RowKit

section
variable {H : Type} {enc : TypeId × Value → H} {P : Program}
theorem weights_all {e : TypeId} {d : DataW H} {n : Nat} (hn : n ∈ d.weights P e) : ∀ {l : List (DataW H)}, d ∈ l → n ∈ DataW.weightsAll P e l
  | [], h => (nomatch h)
  | a :: r, h => by
    rw [DataW.weightsAll]
    rcases List.mem_cons.1 h with h | h
    · subst h; exact List.mem_append_left _ hn
    · exact List.mem_append_right _ (weights_all hn h)

theorem cell_lt {w : World} {a : Addr} {v : Value} (h : w.cell? a = some v) : a.block < w.heap.size := by
  rcases Nat.lt_or_ge a.block w.heap.size with h1 | h1
  · exact h1
  · unfold World.cell? at h
    rw [Array.getElem?_eq_none h1] at h
    cases h

/-- A slice of numbers, at the value that a cell holds. -/
theorem open_nums {w : World} {t e : TypeId} {k : IntKind} {base fuel : Nat} {spare : Nat → Bool} {held : Bool} {v : Value} {x : DataW H × List MemPlace}
    (hs : P.underlying t = some (.slice e)) (he : P.underlying e = some (.int k)) (hC : P.cellsOf e = 1) (h : DataW.trod enc P w base spare held fuel t [v] = some x) :
    ∃ (A : Option Addr) (n c : Nat) (zs : List Int), v = .slice A n c ∧ zs.length = n ∧ n ≤ c ∧ c ≤ maxLen ∧ Lists w w.heap.size A (zs.map (Value.int k)) ∧ (∀ z ∈ zs, (Lit.int k z).wf = true) ∧
      ∀ b, (∀ m ∈ x.1.weights P t, m ≤ b) → n * P.bytesOf e ≤ b := by
  rcases open_ints hs he hC h with ⟨hcs, hx⟩ | ⟨a, len, cap, zs, hcs, _, hl, hm, hz, hx, hcell, hwf⟩
  · simp only [List.cons.injEq, and_true] at hcs
    exact ⟨none, 0, 0, [], hcs, rfl, Nat.le_refl _, Nat.zero_le _, Lists.empty _ _ _, (fun z hz => (nomatch hz)), fun b _ => by omega⟩
  · simp only [List.cons.injEq, and_true] at hcs
    have hlen : len ≤ zs.length := by split at hz <;> omega
    have hc : ∀ j u, ((zs.take len).map (Value.int k))[j]? = some u → w.cell? (a.add j) = some u := fun j u hu => by
      rw [List.getElem?_map, Option.map_eq_some_iff] at hu
      obtain ⟨z, hz1, rfl⟩ := hu
      have hj : j < (zs.take len).length := (List.getElem?_eq_some_iff.1 hz1).1
      have hj2 : j < zs.length := by simp at hj; omega
      rw [hcell j hj2]
      simp only [List.getElem?_take, List.length_take] at hz1 hj
      rw [if_pos (by omega)] at hz1
      simp [List.getD, hz1]
    refine ⟨some a, len, cap, zs.take len, hcs, by simp; omega, hl, hm, ⟨fun ha => (nomatch ha), fun a' ha => ?_, fun a' ha hne => ?_⟩, fun z hz' => hwf z (List.mem_of_mem_take hz'), fun b hb => ?_⟩
    · cases ha; exact hc
    · cases ha
      have h0 : 0 < ((zs.take len).map (Value.int k)).length := by
        rcases Nat.eq_zero_or_pos ((zs.take len).map (Value.int k)).length with h | h
        · exact absurd (List.eq_nil_of_length_eq_zero h) hne
        · exact h
      have := cell_lt (hc 0 _ (List.getElem?_eq_getElem h0))
      rwa [addr_add_block] at this
    · subst hx
      have := hb (((lits k (zs.take len) : List (DataW H)).length + (lits k (zs.drop len) : List (DataW H)).length) * P.bytesOf e) (by simp [DataW.weights, hs])
      refine Nat.le_trans (Nat.mul_le_mul_right _ ?_) this
      simp [lits]
      omega

theorem bytes_of_wf {zs : List Int} (h : ∀ z ∈ zs, (Lit.int .u8 z).wf = true) : Bytes8 (zs.map (Value.int .u8)) := fun u hu => by
  obtain ⟨z, hz, rfl⟩ := List.mem_map.1 hu
  have := h z hz
  simp [Lit.wf, IntKind.min, IntKind.max, IntKind.signed, IntKind.bits] at this
  exact ⟨z.toNat, by omega, by congr 1; omega⟩

theorem one_of {w : World} {base fuel : Nat} {spare : Nat → Bool} {held : Bool} {fs : Array Field} {cs : List Value} {ys : List (DataW H × List MemPlace)} (hone : Deep.oneCellFields P fs = true)
    (hg : ∀ (i : Nat) (f : Field), fs[i]? = some f → DataW.trod enc P w base spare held fuel f.type ((cs.drop f.offset).take (P.cellsOf f.type)) = ys[i]?) {j : Nat} {f : Field} {c : Value} {y : DataW H × List MemPlace}
    (hf : fs[j]? = some f) (hc : cs[j]? = some c) (hy : ys[j]? = some y) : DataW.trod enc P w base spare held fuel f.type [c] = some y := by
  have h := hg j f hf
  obtain ⟨h1, h2⟩ := Deep.hone_of hone j f hf
  obtain ⟨hj, hcj⟩ := List.getElem?_eq_some_iff.1 hc
  rw [h1, h2, hy, List.drop_eq_getElem_cons hj, hcj] at h
  exact h
end

end Go.Proofs.YthoocoaalbeopaaDoor

namespace Go.Proofs.YthoocoaalbeopaaDoor
open Go.ChangeShapes Go.WideShapes Go.ChangeAt Go.RowKit Go.Deep

section
variable {H : Type} {enc : TypeId × Value → H} {P : Program}
theorem open_four {w : World} {t : TypeId} {f0 f1 f2 f3 : Field} {base : Nat} {spare : Nat → Bool} {held : Bool} {r : Reach} {b0 : Nat} {v : Value} {d : DataW H} {p : List MemPlace}
    (hs : P.underlying t = some (.struct #[f0, f1, f2, f3])) (hone : oneCellFields P #[f0, f1, f2, f3] = true) (hC : P.cellsOf t = 4)
    (u0 : P.underlying f0.type = some (.int .i64)) (u1 : P.underlying f1.type = some (.int .i64)) (u2 : P.underlying f2.type = some (.int .i64)) (u3 : P.underlying f3.type = some (.int .i64))
    (hv : Value.okWide P w r b0 t v) (h : DataW.Trod enc P w base spare held t v d p) :
    ∃ a b c e : Int, v = .agg #[.int .i64 a, .int .i64 b, .int .i64 c, .int .i64 e] ∧ (Lit.int .i64 a).wf = true ∧ (Lit.int .i64 b).wf = true ∧ (Lit.int .i64 c).wf = true ∧ (Lit.int .i64 e).wf = true := by
  obtain ⟨v0, v1, v2, v3, y0, y1, y2, y3, n, rfl, _, _, h0, h1, h2, h3⟩ := Joins.open_agg4 hs hone hC hv h
  obtain ⟨a, e0, _, wa⟩ := DataW.trod_int u0 h0
  obtain ⟨b, e1, _, wb⟩ := DataW.trod_int u1 h1
  obtain ⟨c, e2, _, wc⟩ := DataW.trod_int u2 h2
  obtain ⟨e, e3, _, we⟩ := DataW.trod_int u3 h3
  simp at e0 e1 e2 e3
  subst e0 e1 e2 e3
  exact ⟨a, b, c, e, rfl, wa, wb, wc, we⟩
end


end Go.Proofs.YthoocoaalbeopaaDoor

namespace Go.Proofs.YthoocoaalbeopaaDoor

/-- may a number be? -/
def mayB (x : Int) : Bool := decide (-2147483648 ≤ x) && decide (x ≤ 2147483648)

/-- the nearest whole number to a quotient -/
def near (a b : Int) : Int := if b < 0 then (2 * (-a) + (-b)) / (2 * (-b)) else (2 * a + b) / (2 * b)

theorem div_unique {a b q : Int} (h1 : b * q ≤ a) (h2 : a < b * q + b) : a / b = q := by
  have hb : 0 < b := by omega
  have h3 : a = b * q + (a - b * q) := by omega
  rw [h3, Int.add_comm, Int.add_mul_ediv_left _ _ (by omega : b ≠ 0), Int.ediv_eq_zero_of_lt (by omega) (by omega)]
  omega

theorem tdiv_floor {a b : Int} (hb : 0 < b) (ha : a < 0) (hm : ¬ a % b = 0) : a.tdiv b - 1 = a / b ∧ ¬ a.tmod b = 0 ∧ a.tdiv b ≤ 0 ∧ a < a.tdiv b  := by
  have hd : ¬ b ∣ a := fun h => hm (Int.emod_eq_zero_of_dvd h)
  have e := @Int.tdiv_eq_ediv a b
  rw [if_neg (by intro h; rcases h with h | h; omega; exact hd h), Int.sign_eq_one_of_pos hb] at e
  have h4 : a / b < 0 := Int.ediv_neg_of_neg_of_pos ha hb
  have h5 : a ≤ a / b := Int.le_ediv_of_mul_le hb (by have := Int.mul_le_mul_of_nonpos_left (a := a) (b := b) (c := 1) (by omega) (by omega); omega)
  exact ⟨by omega, fun h => hd (Int.dvd_of_tmod_eq_zero h), by omega, by omega⟩
theorem tdiv_whole {a b : Int} (hm : a % b = 0) : a.tdiv b = a / b ∧ a.tmod b = 0 := by
  have hd : b ∣ a := Int.dvd_of_emod_eq_zero hm
  have e := @Int.tdiv_eq_ediv a b
  rw [if_pos (.inr hd)] at e
  exact ⟨by omega, Int.tmod_eq_zero_of_dvd hd⟩

theorem near_pos {a b q : Int} (hb : 0 < b) (h1 : 2 * (b * q) ≤ 2 * a + b) (h2 : 2 * a + b < 2 * (b * q) + 2 * b) : near a b = q := by
  unfold near; rw [if_neg (by omega)]
  exact div_unique (by rw [Int.mul_assoc]; exact h1) (by rw [Int.mul_assoc]; exact h2)

theorem near_neg {a b q : Int} (hb : b < 0) (h1 : 2 * (b * q) ≥ 2 * a + b) (h2 : 2 * a + b > 2 * (b * q) + 2 * b) : near a b = q := by
  unfold near; rw [if_pos hb]
  exact div_unique (by rw [Int.mul_assoc, Int.neg_mul]; omega) (by rw [Int.mul_assoc, Int.neg_mul]; omega)

theorem near_same {a b n d : Int} (hn : max a (-a) = n) (hd : max b (-b) = d) (h0 : 0 < d) (hs : (!decide (a < 0) == decide (b < 0)) = false) :
    near a b = n / d + if d ≤ 2 * (n % d) then 1 else 0 := by
  have e := Int.mul_ediv_add_emod n d
  have r0 : 0 ≤ n % d := Int.emod_nonneg n (by omega)
  have r1 : n % d < d := Int.emod_lt_of_pos n h0
  by_cases hb : b < 0
  · have ha : a < 0 := by simp [hb] at hs; exact hs
    obtain rfl : b = -d := by omega
    obtain rfl : a = -n := by omega
    clear hn hd hs
    apply near_neg hb <;> (split <;> simp only [Int.neg_mul, Int.mul_add, Int.mul_one, Int.add_zero] <;> omega)
  · have ha : ¬ a < 0 := by simp [hb] at hs; omega
    obtain rfl : b = d := by omega
    obtain rfl : a = n := by omega
    clear hn hd hs
    apply near_pos h0 <;> (split <;> simp only [Int.mul_add, Int.mul_one, Int.add_zero] <;> omega)

theorem near_diff {a b n d : Int} (hn : max a (-a) = n) (hd : max b (-b) = d) (h0 : 0 < d) (hs : (!decide (a < 0) == decide (b < 0)) = true) :
    near a b = -(n / d + if d < 2 * (n % d) then 1 else 0) := by
  have e := Int.mul_ediv_add_emod n d
  have r0 : 0 ≤ n % d := Int.emod_nonneg n (by omega)
  have r1 : n % d < d := Int.emod_lt_of_pos n h0
  by_cases hb : b < 0
  · have ha : ¬ a < 0 := by simp [hb] at hs; omega
    obtain rfl : b = -d := by omega
    obtain rfl : a = n := by omega
    clear hn hd hs
    apply near_neg hb <;> (split <;> simp only [Int.neg_mul, Int.mul_neg, Int.neg_neg, Int.mul_add, Int.mul_one, Int.add_zero] <;> omega)
  · have ha : a < 0 := by simp [hb] at hs; omega
    obtain rfl : b = d := by omega
    obtain rfl : a = -n := by omega
    clear hn hd hs
    apply near_pos h0 <;> (split <;> simp only [Int.mul_neg, Int.mul_add, Int.mul_one, Int.add_zero] <;> omega)

theorem mul_bound {a b : Int} (A B : Nat) (h1 : -(A : Int) ≤ a) (h2 : a ≤ A) (h3 : -(B : Int) ≤ b) (h4 : b ≤ B) : -((A * B : Nat) : Int) ≤ a * b ∧ a * b ≤ ((A * B : Nat) : Int) := by
  have h : (a * b).natAbs ≤ A * B := by rw [Int.natAbs_mul]; exact Nat.mul_le_mul (by omega) (by omega)
  omega

theorem near_spec (a b : Int) (hb : 1 ≤ b) : -b ≤ 2 * (a - near a b * b) ∧ 2 * (a - near a b * b) < b := by
  unfold near
  rw [if_neg (by omega)]
  have h := Int.mul_ediv_add_emod (2 * a + b) (2 * b)
  have h1 := Int.emod_nonneg (2 * a + b) (show 2 * b ≠ 0 by omega)
  have h2 := Int.emod_lt_of_pos (2 * a + b) (show 0 < 2 * b by omega)
  rw [Int.mul_assoc, Int.mul_comm b] at h
  omega

end Go.Proofs.YthoocoaalbeopaaDoor

namespace Go.Proofs.YthoocoaalbeopaaDoor
open Go.RowKit

theorem ret_int {k : IntKind} {a b : Int} (h : a = b) : Ending.returned (.int k a) = .returned (.int k b) := by rw [h]

end Go.Proofs.YthoocoaalbeopaaDoor
