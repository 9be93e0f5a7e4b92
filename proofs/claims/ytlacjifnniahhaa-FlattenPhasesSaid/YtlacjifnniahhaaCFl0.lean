/- Part 1 of the proof: Mem, Know, Sep, Flat, RangeC, FlA, Num, Fix1, Fix2, Fix3. -/
import Derived.Maps.AppendAt
import Derived.Deep.AppendLies
import Derived.Laws.OwnMore
import Derived.OwnWalk
import Derived.WalkKit
import Derived.Laws.Rows
import Derived.Deep.MidRow
import Derived.Laws.ResultCell
import Derived.Laws.Tables
import Derived.Laws.CopyOwn
import Derived.RangeFuncFrom
import Derived.Lib.Hide
import Derived.Test.YtlacjifnniahhaaRows
import Derived.BigQuiet
import Derived.WalkSmall
import Derived.Deep.QuietTactic

namespace Go.Proofs.Ytlacjifnniahhaa
open Go Go.RowKit

/-- A slice's address A and the cells that it reads as: they lie below block B. -/
structure Lists (w : World) (B : Nat) (A : Option Addr) (xs : List Value) : Prop where
  nil : A = none → xs = []
  cell : ∀ a, A = some a → ∀ (j : Nat) (u : Value), xs[j]? = some u → w.cell? (a.add j) = some u
  lt : ∀ a, A = some a → xs ≠ [] → a.block < B

theorem addr_add_block (a : Addr) (j : Nat) : (a.add j).block = a.block := by
  unfold Addr.add
  by_cases h : j = 0 <;> simp [h]

theorem addr_plain (b o j : Nat) : (⟨b, o, none⟩ : Addr).add j = ⟨b, o + j, none⟩ := by
  unfold Addr.add
  by_cases h : j = 0 <;> simp [h]

theorem Lists.keep {w w1 : World} {B : Nat} {A : Option Addr} {xs : List Value} (h : Lists w B A xs) (hk : ∀ p : Addr, p.block < B → w1.cell? p = w.cell? p) : Lists w1 B A xs :=
  ⟨h.nil, fun a ha j u hu => (hk _ (by rw [addr_add_block]; exact h.lt a ha (by intro e; subst e; simp at hu))).trans (h.cell a ha j u hu), h.lt⟩
theorem Lists.more {w : World} {B B1 : Nat} {A : Option Addr} {xs : List Value} (h : Lists w B A xs) (hB : B ≤ B1) : Lists w B1 A xs := ⟨h.nil, h.cell, fun a ha hx => Nat.lt_of_lt_of_le (h.lt a ha hx) hB⟩
theorem Lists.below {w w1 : World} {B : Nat} {A : Option Addr} {xs : List Value} (h : Lists w B A xs) (hb : Below B w w1) : Lists w1 B A xs := h.keep fun _ hp => hb.cell hp
theorem Lists.alloc {w : World} {B : Nat} {A : Option Addr} {xs : List Value} (h : Lists w B A xs) (hB : B ≤ w.heap.size) (o : Obj) : Lists (w.alloc o) B A xs := h.below ((Below.refl _ _).alloc hB o)
theorem Lists.empty (w : World) (B : Nat) (A : Option Addr) : Lists w B A [] := ⟨fun _ => rfl, fun _ _ j u hu => by simp at hu, fun _ _ h => absurd rfl h⟩
theorem Lists.plain {w : World} {B : Nat} {A : Option Addr} {xs : List Value} (h : Lists w B A xs) (hx : xs ≠ []) : ∃ b o, A = some ⟨b, o, none⟩ ∧ b < B ∧ ∀ (j : Nat) (u : Value), xs[j]? = some u → w.cell? ⟨b, o + j, none⟩ = some u := by
  cases A with
  | none => exact absurd (h.nil rfl) hx
  | some a =>
    have hlt := h.lt a rfl hx
    have hc := h.cell a rfl
    obtain ⟨x, l, rfl⟩ : ∃ x l, xs = x :: l := by cases xs with | nil => exact absurd rfl hx | cons x l => exact ⟨x, l, rfl⟩
    obtain ⟨b, o, s⟩ := a
    have hs : s = none := by simpa [Addr.add] using World.cell?_spot (hc 0 x rfl)
    subst hs
    exact ⟨b, o, rfl, hlt, fun j u hu => by have := hc j u hu; rwa [addr_plain] at this⟩

/-- What the call owns reads so. -/
theorem own_lists {w : World} {base : Nat} {e : TypeId} {size n : Nat} {v : Value} {xs : List Value} (h : w.ownsRow base e size v n xs) : ∃ A c, v = .slice A n c ∧ Lists w w.heap.size A xs ∧ n ≤ c := by
  have hc := @World.ownsRow.cells w base e size v n xs h
  rcases h.2 with ⟨rfl, rfl⟩ | ⟨g, cap, cur, rfl, _, hh, hn, _⟩
  · exact ⟨none, 0, rfl, ⟨fun _ => List.eq_nil_of_length_eq_zero (by simpa using h.1), fun _ ha => (nomatch ha), fun _ ha => (nomatch ha)⟩, Nat.le_refl _⟩
  · refine ⟨some ⟨g, 0, none⟩, cap, rfl, ⟨fun ha => (nomatch ha), fun a ha j u hu => ?_, fun a ha _ => ?_⟩, hn⟩
    · cases ha; exact hc (g := g) rfl j u hu
    · cases ha
      rcases Nat.lt_or_ge g w.heap.size with hlt | hge
      · exact hlt
      · rw [Array.getElem?_eq_none hge] at hh; cases hh

section
variable {P : Program} (w : World)

theorem run_append_src (base : Nat) (t ty e : TypeId) (i : TypeInfo) (z : Value) (size bytes : Nat) (ht : P.underlying t = some (.slice e)) (hi : P.info? e = some i) (hz : i.zero = some z)
    (hsize : i.size = size) (hby : i.bytes = bytes) (hzs : z.cells.size = size) (hsz : 0 < size) (v : Value) (n : Nat) (xs : List Value) (hown : w.ownsRow base e size v n xs)
    (B : Nat) (A : Option Addr) (m c : Nat) (news : List Value) (hr : Lists w B A news) (hl : news.length = m * size) (h1 : ∀ u ∈ news, u.oneCell' = true)
    (h63 : n + m ≤ maxLen) (hbytes : (n + m) * bytes ≤ 140737488355328) (hbase : base ≤ w.heap.size) :
    ∃ v' w', (Builtin.append_ #[t, t] ty #[v, .slice A m c]).run P w = .ok v' w' ∧ w'.ownsRow base e size v' (n + m) (xs ++ news) ∧ w.grownBy w' v.ownBlock ∧
      (v'.ownBlock = v.ownBlock ∨ v'.ownBlock = some w.heap.size) := by
  cases A with
  | none =>
    have hn : news = [] := hr.nil rfl
    subst hn
    have hm : m = 0 := by
      have : m * size = 0 := by simpa using hl.symm
      rcases Nat.mul_eq_zero.1 this with h | h
      · exact h
      · omega
    subst hm
    refine ⟨v, w, ?_, by simpa using hown, World.grownBy.refl w _, .inl rfl⟩
    rcases hown.2 with ⟨rfl, rfl⟩ | ⟨g, cap, cur, rfl, _, _, hc, _⟩
    · simp [Builtin.append_, run_underlying ht, sizeOf, typeInfo, hi, Builtin.lenOf, Builtin.firstCells]
    · simp [Builtin.append_, run_underlying ht, sizeOf, typeInfo, hi, Builtin.lenOf, Builtin.firstCells, hc, storeCells]
  | some ad =>
    obtain ⟨v', w', hrun, h2, h3, _, h5⟩ := run_append_own_at (P := P) w base t ty e i z size bytes ht hi hz hsize hby hzs hsz v n xs hown ad m c news hl (hr.cell ad rfl) h1 h63 hbytes hbase
    exact ⟨v', w', hrun, h2, h3, h5⟩

theorem wp_append_src {o : Oper} {a : Act} {K : Act → World → Prop} {Q : Exit → Act → World → Prop} (s x : Operand) (t : TypeId)
    (ho : o.op = .call { callee := .builtin .append, args := #[s, x], argTypes := #[t, t] })
    (base : Nat) (e : TypeId) (i : TypeInfo) (z : Value) (size bytes : Nat) (ht : P.underlying t = some (.slice e)) (hi : P.info? e = some i) (hz : i.zero = some z)
    (hsize : i.size = size) (hby : i.bytes = bytes) (hzs : z.cells.size = size) (hsz : 0 < size)
    (v : Value) (n : Nat) (xs : List Value) (hs : a.eval s = v) (hown : w.ownsRow base e size v n xs)
    (B : Nat) (A : Option Addr) (m c : Nat) (news : List Value) (hx : a.eval x = .slice A m c) (hr : Lists w B A news) (hl : news.length = m * size) (h1 : ∀ u ∈ news, u.oneCell' = true)
    (h63 : n + m ≤ maxLen) (hbytes : (n + m) * bytes ≤ 140737488355328) (hbase : base ≤ w.heap.size)
    (h : ∀ v' w', w'.ownsRow base e size v' (n + m) (xs ++ news) → w.grownBy w' v.ownBlock → (v'.ownBlock = v.ownBlock ∨ v'.ownBlock = some w.heap.size) → K (a.put o.dst v') w') : o.wp P a w K Q := by
  obtain ⟨v', w', hrun, h2, h3, h4⟩ := run_append_src (P := P) w base t o.type e i z size bytes ht hi hz hsize hby hzs hsz v n xs hown B A m c news hr hl h1 h63 hbytes hbase
  unfold Oper.wp execOp
  simp only [ho, resolve, invoke, builtin, Sem.run_bind, Sem.run_pure, Result.andThen_ok, List.map_toArray, List.map_cons, List.map_nil, hs, hx, hrun]
  exact h v' w' h2 h3 h4

theorem wpList_append_src {ops : Array Oper} {rest : List Oper} {o : Oper} {a : Act} {Q : Exit → Act → World → Prop} (hgd : o.guard = none) (s x : Operand) (t : TypeId)
    (ho : o.op = .call { callee := .builtin .append, args := #[s, x], argTypes := #[t, t] })
    (base : Nat) (e : TypeId) (i : TypeInfo) (z : Value) (size bytes : Nat) (ht : P.underlying t = some (.slice e)) (hi : P.info? e = some i) (hz : i.zero = some z)
    (hsize : i.size = size) (hby : i.bytes = bytes) (hzs : z.cells.size = size) (hsz : 0 < size)
    (v : Value) (n : Nat) (xs : List Value) (hs : a.eval s = v) (hown : w.ownsRow base e size v n xs)
    (B : Nat) (A : Option Addr) (m c : Nat) (news : List Value) (hx : a.eval x = .slice A m c) (hr : Lists w B A news) (hl : news.length = m * size) (h1 : ∀ u ∈ news, u.oneCell' = true)
    (h63 : n + m ≤ maxLen) (hbytes : (n + m) * bytes ≤ 140737488355328) (hbase : base ≤ w.heap.size)
    (h : ∀ v' w', w'.ownsRow base e size v' (n + m) (xs ++ news) → w.grownBy w' v.ownBlock → (v'.ownBlock = v.ownBlock ∨ v'.ownBlock = some w.heap.size) → wpList P ops Q rest (a.put o.dst v') w') : wpList P ops Q (o :: rest) a w :=
  wpList_plain hgd fun _ hK => wp_append_src w s x t ho base e i z size bytes ht hi hz hsize hby hzs hsz v n xs hs hown B A m c news hx hr hl h1 h63 hbytes hbase fun v' w' h2 h3 h4 => hK _ _ (h v' w' h2 h3 h4)
end

/-- A list of ints as cells. -/
def intCells (zs : List Int) : List Value := zs.map (Value.int .i64)
theorem intCells_one (zs : List Int) : ∀ u ∈ intCells zs, u.oneCell' = true := by
  intro u hu
  obtain ⟨z, _, rfl⟩ := List.mem_map.1 hu
  rfl
theorem intCells_len (zs : List Int) : (intCells zs).length = zs.length := by simp [intCells]
theorem intCells_get (zs : List Int) (j : Nat) (h : j < zs.length) : (intCells zs)[j]? = some (.int .i64 (zs.getD j 0)) := by simp [intCells, h]

end Go.Proofs.Ytlacjifnniahhaa

namespace Go.Proofs.Ytlacjifnniahhaa
open Go Go.RowKit

/-- Cells from o on of block b. -/
def CellsAt (w : World) (b : Nat) : Nat → List Value → Prop
  | _, [] => True
  | o, v :: vs => w.cell? ⟨b, o, none⟩ = some v ∧ CellsAt w b (o + 1) vs

/-- Blocks that stand and are not frozen, with what their first cells hold. -/
def KB (w : World) : List (Nat × List Value) → Prop
  | [] => True
  | (b, vs) :: r => b < w.heap.size ∧ (∀ o, w.frozen? ⟨b, o, none⟩ = false) ∧ CellsAt w b 0 vs ∧ KB w r

theorem CellsAt.next {w w1 : World} {b : Nat} (hb : Below w.heap.size w w1) (h : b < w.heap.size) : ∀ {vs : List Value} {o : Nat}, CellsAt w b o vs → CellsAt w1 b o vs
  | [], _, _ => trivial
  | _ :: _, o, H => ⟨(hb.cell (p := ⟨b, o, none⟩) h).trans H.1, CellsAt.next hb h H.2⟩

theorem KB.next {w w1 : World} (hb : Below w.heap.size w w1) : ∀ {l : List (Nat × List Value)}, KB w l → KB w1 l
  | [], _ => trivial
  | _ :: _, H => ⟨Nat.lt_of_lt_of_le H.1 hb.size, fun o => (hb.frozen (p := ⟨_, o, none⟩) H.1).trans (H.2.1 o), H.2.2.1.next hb H.1, H.2.2.2.next hb⟩

theorem cellsAt_new (w : World) (vs : Array Value) (T : TypeId) : ∀ (l : List Value) (o : Nat), vs.toList.drop o = l → CellsAt (w.alloc (.cells vs T)) w.heap.size o l
  | [], _, _ => trivial
  | v :: l, o, h => by
    have hv : vs[o]? = some v := by
      have h0 := congrArg (fun l => l[0]?) h
      simpa using h0
    refine ⟨?_, cellsAt_new w vs T l (o + 1) (by rw [← List.drop_drop, h]; rfl)⟩
    rw [World.cell?_alloc_new]; exact hv

/-- From w0 on nothing of what was there has turned, and this is known of blocks of w. -/
def Known (w0 w : World) (l : List (Nat × List Value)) : Prop := Below w0.heap.size w0 w ∧ KB w l

theorem Known.start (w : World) : Known w w [] := ⟨Below.refl _ _, trivial⟩
theorem Known.next {w0 w w1 : World} {l : List (Nat × List Value)} (H : Known w0 w l) (hb : Below w.heap.size w w1) : Known w0 w1 l := ⟨H.1.trans (hb.mono H.1.size), H.2.next hb⟩
theorem Known.drew {w0 w : World} {l : List (Nat × List Value)} (H : Known w0 w l) : Known w0 w.drew l := H.next ((Below.refl _ _).drew)
theorem Known.alloc {w0 w : World} {l : List (Nat × List Value)} (H : Known w0 w l) (o : Obj) : Known w0 (w.alloc o) l := H.next ((Below.refl _ _).alloc (Nat.le_refl _) o)
theorem Known.new {w0 w : World} {l : List (Nat × List Value)} (H : Known w0 w l) (vs : Array Value) (T : TypeId) : Known w0 (w.alloc (.cells vs T)) ((w.heap.size, vs.toList) :: l) :=
  ⟨(H.alloc _).1, by simp, fun o => World.frozen?_alloc_new w vs T o, cellsAt_new w vs T _ 0 rfl, (H.alloc _).2⟩
theorem Known.drop {w0 w : World} {l : List (Nat × List Value)} {x : Nat × List Value} (H : Known w0 w (x :: l)) : Known w0 w l := ⟨H.1, H.2.2.2.2⟩

/-- A store into a block that stands behind all others that are known: they stay. -/
theorem KB.below {B : Nat} {w w1 : World} (hb : Below B w w1) : ∀ {l : List (Nat × List Value)}, (∀ x ∈ l, x.1 < B) → KB w l → KB w1 l
  | [], _, _ => trivial
  | (b, vs) :: r, hl, H => by
    have h : b < B := hl (b, vs) (List.mem_cons_self)
    refine ⟨Nat.lt_of_lt_of_le H.1 hb.size, fun o => (hb.frozen (p := ⟨b, o, none⟩) h).trans (H.2.1 o), ?_, KB.below hb (fun x hx => hl x (List.mem_cons_of_mem _ hx)) H.2.2.2⟩
    have go : ∀ (vs : List Value) (o : Nat), CellsAt w b o vs → CellsAt w1 b o vs := fun vs => by
      induction vs with
      | nil => intro _ _; trivial
      | cons v vs ih => intro o H; exact ⟨(hb.cell (p := ⟨b, o, none⟩) h).trans H.1, ih _ H.2⟩
    exact go vs 0 H.2.2.1

/-- Four stores into a block. -/
theorem Known.put4 {w0 w8 wr : World} {l : List (Nat × List Value)} {b : Nat} {z0 z1 z2 z3 : Value} (I : Known w0 w8 l) (hb : w8.heap.size ≤ b) (B : Below w8.heap.size w8 wr)
    (hz : b < wr.heap.size) (hf : ∀ o, wr.frozen? ⟨b, o, none⟩ = false) (hc : CellsAt wr b 0 [z0, z1, z2, z3]) (v0 v1 v2 v3 : Value) :
    Known w0 ((((wr.setCell ⟨b, 0, none⟩ v0).setCell ⟨b, 1, none⟩ v1).setCell ⟨b, 2, none⟩ v2).setCell ⟨b, 3, none⟩ v3) ((b, [v0, v1, v2, v3]) :: l) := by
  have K := I.next ((((B.setCell (p := ⟨b, 0, none⟩) hb v0).setCell (p := ⟨b, 1, none⟩) hb v1).setCell (p := ⟨b, 2, none⟩) hb v2).setCell (p := ⟨b, 3, none⟩) hb v3)
  obtain ⟨c0, c1, c2, c3, _⟩ := hc
  simp only [Nat.zero_add, Nat.reduceAdd] at c0 c1 c2 c3
  refine ⟨K.1, ?_, fun o => ?_, ⟨?_, ?_, ?_, ?_, trivial⟩, K.2⟩
  · simpa using hz
  · simp [hf]
  all_goals go_simp

end Go.Proofs.Ytlacjifnniahhaa

namespace Go.Proofs.Ytlacjifnniahhaa
open Go Go.RowKit

/-- w1 is w but for the blocks of fp, and new ones. -/
structure Only (w w1 : World) (fp : List Nat) : Prop where
  os : w1.os = w.os
  tape : w1.tape = w.tape
  output : w1.output = w.output
  size : w.heap.size ≤ w1.heap.size
  block : ∀ b, b < w.heap.size → b ∉ fp → w1.heap[b]? = w.heap[b]?

theorem Only.refl (w : World) (fp : List Nat) : Only w w fp := ⟨rfl, rfl, rfl, Nat.le_refl _, fun _ _ _ => rfl⟩
theorem Only.of_below {w w1 : World} (h : Below w.heap.size w w1) (fp : List Nat) : Only w w1 fp := ⟨h.os, h.tape, h.output, h.size, fun b hb _ => h.block b hb⟩
theorem Only.to_below {w w1 : World} {fp : List Nat} (h : Only w w1 fp) {B : Nat} (hB : B ≤ w.heap.size) (hf : ∀ b ∈ fp, B ≤ b) : Below B w w1 :=
  ⟨h.os, h.tape, h.output, h.size, fun b hb => h.block b (by omega) fun hm => by have := hf b hm; omega⟩
theorem Only.nil_below {w w1 : World} (h : Only w w1 []) : Below w.heap.size w w1 := h.to_below (Nat.le_refl _) fun _ hb => (nomatch hb)
theorem Only.trans {w a c : World} {fp fp1 : List Nat} (h : Only w a fp) (k : Only a c fp1) (hf : ∀ b ∈ fp1, b ∈ fp ∨ w.heap.size ≤ b) : Only w c fp :=
  ⟨k.os.trans h.os, k.tape.trans h.tape, k.output.trans h.output, Nat.le_trans h.size k.size, fun b hb hn => (k.block b (Nat.lt_of_lt_of_le hb h.size) fun hm => by
    rcases hf b hm with h1 | h1
    · exact hn h1
    · omega).trans (h.block b hb hn)⟩
theorem Only.more {w a : World} {fp fp1 : List Nat} (h : Only w a fp) (hs : ∀ b ∈ fp, b ∈ fp1 ∨ w.heap.size ≤ b) : Only w a fp1 :=
  ⟨h.os, h.tape, h.output, h.size, fun b hb hn => h.block b hb fun hm => by
    rcases hs b hm with h1 | h1
    · exact hn h1
    · omega⟩
theorem Only.then_below {w a c : World} {fp : List Nat} (h : Only w a fp) (k : Below a.heap.size a c) : Only w c fp := h.trans (Only.of_below k []) fun _ hb => (nomatch hb)
theorem Only.alloc {w a : World} {fp : List Nat} (h : Only w a fp) (o : Obj) : Only w (a.alloc o) fp := h.then_below ((Below.refl _ _).alloc (Nat.le_refl _) o)
theorem Only.drew {w a : World} {fp : List Nat} (h : Only w a fp) : Only w a.drew fp := h.then_below ((Below.refl _ _).drew)
theorem Only.set {w a : World} {fp : List Nat} (h : Only w a fp) {p : Addr} (hp : p.block ∈ fp ∨ w.heap.size ≤ p.block) (v : Value) : Only w (a.setCell p v) fp :=
  ⟨h.os, h.tape, h.output, by simpa using h.size, fun b hb hn => by
    rw [Below.heap_setCell a p v b (fun e => by subst e; rcases hp with h1 | h1; exact hn h1; omega)]
    exact h.block b hb hn⟩
theorem Only.grown {w a c : World} {fp : List Nat} {row : Option Nat} (h : Only w a fp) (hg : a.grownBy c row) (hr : ∀ b, row = some b → b ∈ fp ∨ w.heap.size ≤ b) : Only w c fp :=
  ⟨hg.os.trans h.os, hg.tape.trans h.tape, hg.output.trans h.output, Nat.le_trans h.size hg.size, fun b hb hn => (hg.block b (Nat.lt_of_lt_of_le hb h.size) fun e => by
    rcases hr b e.symm with h1 | h1
    · exact hn h1
    · omega).trans (h.block b hb hn)⟩

/-- Block p is just these cells, none frozen. -/
def Blk (w : World) (p : Nat) (T : TypeId) (cs : Array Value) : Prop := w.heap[p]? = some (.cells cs T (0, 0))

theorem Blk.lt {w : World} {p : Nat} {T : TypeId} {cs : Array Value} (h : Blk w p T cs) : p < w.heap.size := by
  rcases Nat.lt_or_ge p w.heap.size with h1 | h1
  · exact h1
  · unfold Blk at h; rw [Array.getElem?_eq_none h1] at h; cases h
theorem Blk.cell {w : World} {p : Nat} {T : TypeId} {cs : Array Value} (h : Blk w p T cs) (j : Nat) : w.cell? ⟨p, j, none⟩ = cs[j]? := cell_of_row w p j cs T (0, 0) h
theorem Blk.frozen {w : World} {p : Nat} {T : TypeId} {cs : Array Value} (h : Blk w p T cs) (j : Nat) : w.frozen? ⟨p, j, none⟩ = false := by
  unfold Blk at h; simp [World.frozen?, h]
theorem Blk.new (w : World) (T : TypeId) (cs : Array Value) : Blk (w.alloc (.cells cs T)) w.heap.size T cs := heap_alloc_new w _
theorem Blk.only {w w1 : World} {p : Nat} {T : TypeId} {cs : Array Value} {fp : List Nat} (h : Blk w p T cs) (k : Only w w1 fp) (hn : p ∉ fp) : Blk w1 p T cs := (k.block p h.lt hn).trans h
theorem Blk.below {w w1 : World} {p : Nat} {T : TypeId} {cs : Array Value} (h : Blk w p T cs) (k : Below w.heap.size w w1) : Blk w1 p T cs := (k.block p h.lt).trans h
theorem Blk.set {w : World} {p : Nat} {T : TypeId} {cs : Array Value} (h : Blk w p T cs) (j : Nat) (v : Value) : Blk (w.setCell ⟨p, j, none⟩ v) p T (cs.setIfInBounds j v) := by
  unfold Blk at *; simp [World.setCell, Array.getElem?_modify, h]
theorem Blk.other {w : World} {p : Nat} {T : TypeId} {cs : Array Value} (h : Blk w p T cs) {q : Addr} (hq : p ≠ q.block) (v : Value) : Blk (w.setCell q v) p T cs := (Below.heap_setCell w q v p hq).trans h
theorem Blk.kb {w : World} {p : Nat} {T : TypeId} {cs : Array Value} (h : Blk w p T cs) : KB w [(p, cs.toList)] := by
  refine ⟨h.lt, fun o => h.frozen o, ?_, trivial⟩
  have go : ∀ (l : List Value) (o : Nat), cs.toList.drop o = l → CellsAt w p o l := by
    intro l
    induction l with
    | nil => intro _ _; trivial
    | cons v l ih =>
      intro o ho
      refine ⟨?_, ih (o + 1) (by rw [← List.drop_drop, ho]; rfl)⟩
      rw [h.cell]
      have h0 := congrArg (fun l => l[0]?) ho
      simpa using h0
  exact go _ 0 rfl

/-- The block of a slice that the call owns. -/
def blk (v : Value) : List Nat := v.ownBlock.toList

theorem own_only {w w1 : World} {base : Nat} {e : TypeId} {size n : Nat} {v : Value} {xs : List Value} {fp : List Nat} (h : w.ownsRow base e size v n xs) (k : Only w w1 fp) (hn : ∀ b ∈ blk v, b ∉ fp) : w1.ownsRow base e size v n xs := by
  refine ⟨h.1, ?_⟩
  have hlt := h.lt
  rcases h.2 with h1 | ⟨g, cap, cur, rfl, h2, h3, h4⟩
  · exact .inl h1
  · exact .inr ⟨g, cap, cur, rfl, h2, (k.block g (hlt g rfl).2 (hn g (by simp [blk, Value.ownBlock]))).trans h3, h4⟩

theorem lists_only {w w1 : World} {B : Nat} {A : Option Addr} {xs : List Value} {fp : List Nat} (h : Lists w B A xs) (hB : B ≤ w.heap.size) (k : Only w w1 fp) (hn : ∀ a, A = some a → xs ≠ [] → a.block ∉ fp) : Lists w1 B A xs :=
  ⟨h.nil, fun a ha j u hu => by
    have hx : xs ≠ [] := by intro e; subst e; simp at hu
    have hb : w1.heap[(a.add j).block]? = w.heap[(a.add j).block]? := by
      rw [addr_add_block]
      exact k.block _ (Nat.lt_of_lt_of_le (h.lt a ha hx) hB) (hn a ha hx)
    exact (World.cell?_of_block hb).trans (h.cell a ha j u hu), h.lt⟩

theorem blk_lt {w : World} {base : Nat} {e : TypeId} {size n : Nat} {v : Value} {xs : List Value} (h : w.ownsRow base e size v n xs) : ∀ b ∈ blk v, b < w.heap.size := by
  intro b hb
  simp only [blk, Option.mem_toList] at hb
  exact (h.lt b hb).2

end Go.Proofs.Ytlacjifnniahhaa

namespace Go.Proofs.Ytlacjifnniahhaa
open Go Go.RowKit
set_option linter.unusedVariables false
set_option linter.unusedSimpArgs false

theorem flat_at {α : Type} {f : α → List Value} {sz : Nat} (hf : ∀ x, (f x).length = sz) : ∀ (L : List α) (k : Nat) (x : α), L[k]? = some x → ∀ j v, (f x)[j]? = some v → (L.flatMap f)[k * sz + j]? = some v
  | [], k, x, h, j, v, hv => by simp at h
  | y :: L, 0, x, h, j, v, hv => by
    obtain rfl : y = x := by simpa using h
    have hj := (List.getElem?_eq_some_iff.1 hv).1
    rw [List.flatMap_cons, Nat.zero_mul, Nat.zero_add, List.getElem?_append_left hj]
    exact hv
  | y :: L, k + 1, x, h, j, v, hv => by
    have := flat_at hf L k x (by simpa using h) j v hv
    rw [List.flatMap_cons, List.getElem?_append_right (by rw [hf, Nat.add_mul]; omega), hf, show (k + 1) * sz + j - sz = k * sz + j by rw [Nat.add_mul]; omega]
    exact this
theorem flat_len {α : Type} {f : α → List Value} {sz : Nat} (hf : ∀ x, (f x).length = sz) : ∀ L : List α, (L.flatMap f).length = L.length * sz
  | [] => by simp
  | x :: L => by rw [List.flatMap_cons, List.length_append, hf, flat_len hf L, List.length_cons, Nat.add_mul, Nat.one_mul, Nat.add_comm]
theorem lists_flat {α : Type} {f : α → List Value} {sz : Nat} (hf : ∀ x, (f x).length = sz) (hs : 0 < sz) {w : World} {B : Nat} {A : Option Addr} {L : List α} (h : Lists w B A (L.flatMap f)) {k : Nat} {x : α} (hk : L[k]? = some x) :
    ∃ b o, A = some ⟨b, o, none⟩ ∧ b < B ∧ w.rangeAt b (o + k * sz) (f x) := by
  have h0 : (f x)[0]? = some ((f x)[0]'(by rw [hf]; exact hs)) := List.getElem?_eq_getElem _
  have h1 := flat_at hf L k x hk 0 _ h0
  obtain ⟨b, o, rfl, hb, hc⟩ := h.plain (by intro e; rw [e] at h1; simp at h1)
  exact ⟨b, o, rfl, hb, fun j v hv => by rw [Nat.add_assoc]; exact hc _ _ (flat_at hf L k x hk j v hv)⟩
theorem flat_snoc {α : Type} (f : α → List Value) (L : List α) (x : α) : (L ++ [x]).flatMap f = L.flatMap f ++ f x := by simp
theorem range_below {w w1 : World} {B b o : Nat} {cs : List Value} (h : w.rangeAt b o cs) (hb : b < B) (k : Below B w w1) : w1.rangeAt b o cs := fun j v hv => (k.cell (p := ⟨b, o + j, none⟩) hb).trans (h j v hv)
theorem range_blk {w : World} {p : Nat} {T : TypeId} {cs : List Value} (h : Blk w p T cs.toArray) : w.rangeAt p 0 cs := fun j v hv => by rw [Nat.zero_add, h.cell j, List.getElem?_toArray]; exact hv
theorem blk_row {w : World} {p : Nat} {T : TypeId} {cs : Array Value} (h : Blk w p T cs) (cs1 : Array Value) : Blk (w.setRow p cs1) p T cs1 := setRow_heap w p cs cs1 T (0, 0) h
theorem exec_store_row {P : Program} {ρ : Operand → Value} {o : Oper} {w : World} (ty : TypeId) (x y : Operand) (ho : o.op = .store ty x y)
    (g : Nat) (cells : Array Value) (hx : ρ x = .pointer (some ⟨g, 0, none⟩)) (hy : ρ y = .agg cells)
    (t : TypeId) (old : Array Value) (hg : Blk w g t old) (hi : (P.info? ty).map (·.size) = some cells.size)
    (hold : old.size = cells.size) (h1 : cells.all (·.oneCell') = true) : (execOp ρ o).run P w = .ok .skip (w.setRow g cells) := by
  unfold execOp
  simp only [ho, hx, hy, Instr.storeAt, Instr.sureAddr, Sem.run_bind, Sem.run_pure, Result.andThen_ok, run_storeVar_row w g t ty old cells hg hi hold h1]
theorem exec_load {P : Program} {ρ : Operand → Value} {o : Oper} {w : World} {ty : TypeId} {x : Operand} {p v : Value} (h : (Instr.loadAt ty p).run P w = .ok v w) (ho : o.op = .load ty x) (hx : ρ x = p) : (execOp ρ o).run P w = .ok (.value v) w := by
  unfold execOp
  simp only [ho, hx, Sem.run_bind, h, Result.andThen_ok, Sem.run_pure]
theorem load_blk {P : Program} {w : World} {p : Nat} {T ty : TypeId} {cs : Array Value} {d : TypeDesc} (h : Blk w p T cs) (hu : P.underlying ty = some d) (hd : d.isRow = true) (hi : (P.info? ty).map (·.size) = some cs.size) : (Instr.loadAt ty (.pointer (some ⟨p, 0, none⟩))).run P w = .ok (.agg cs) w := by
  have h1 : w.rangeAt p 0 cs.toList := fun j v hv => by rw [Nat.zero_add, h.cell j]; simpa using hv
  have := run_loadAt_mid (P := P) w p 0 ty cs.toList d h1 hu hd (by simpa using hi)
  simpa using this
theorem only_row {w a : World} {fp : List Nat} (h : Only w a fp) {g : Nat} (hg : g ∈ fp ∨ w.heap.size ≤ g) (cs : Array Value) : Only w (a.setRow g cs) fp :=
  ⟨h.os, h.tape, h.output, by rw [size_setRow]; exact h.size, fun b hb hf => (setRow_other a g b cs (fun e => by subst e; rcases hg with hg | hg; exact hf hg; omega)).trans (h.block b hb hf)⟩
theorem lists_takeF {w : World} {B : Nat} {A : Option Addr} {xs : List Value} (h : Lists w B A xs) (k : Nat) : Lists w B A (xs.take k) :=
  ⟨fun ha => by rw [h.nil ha]; simp, fun a ha j u hu => h.cell a ha j u (by
    rw [List.getElem?_take] at hu
    split at hu
    · exact hu
    · cases hu), fun a ha hx => h.lt a ha (fun e => hx (by rw [e]; simp))⟩
theorem lists_row (w : World) (cs : List Value) (T : TypeId) : Lists (w.alloc (.cells cs.toArray T)) (w.heap.size + 1) (some ⟨w.heap.size, 0, none⟩) cs :=
  ⟨fun ha => (nomatch ha), fun a ha j u hu => by
    cases ha
    rw [addr_plain, World.cell?_alloc_new, Nat.zero_add, ← hu]
    rw [List.getElem?_toArray], fun a ha _ => by cases ha; simp⟩
theorem lists_row_at (w : World) (cs : List Value) (T : TypeId) (k : Nat) (hk : k = w.heap.size) : Lists (w.alloc (.cells cs.toArray T)) (k + 1) (some ⟨k, 0, none⟩) cs := hk ▸ lists_row w cs T
theorem results_row_tmp {P : Program} {fn : Func} {p u : Tmp} {ty : TypeId} (h : fn.results = #[.cell p ty, .tmp u]) (tmps : Array Value) (w : World) (g : Nat) (t : TypeId) (cs : Array Value) (fr : Nat × Nat) (d : TypeDesc) (v : Value)
    (hp : tmps.getD p undef = .pointer (some ⟨g, 0, none⟩)) (hv : tmps.getD u undef = v) (hg : w.heap[g]? = some (.cells cs t fr))
    (hu : P.underlying ty = some d) (hd : (match d with | .struct _ | .array _ _ => true | _ => false) = true) (hi : (P.info? ty).map (·.size) = some cs.size) :
    (results fn tmps).run P w = .ok (.tuple #[.agg cs, v]) w := by
  rw [results_cell_tmp h, hp, hv]
  simp [asAddr, Result.andThen, run_loadVar_row w g t ty cs fr d hg hu hd hi]
theorem results_row_tmp2 {P : Program} {fn : Func} {p u u2 : Tmp} {ty : TypeId} (h : fn.results = #[.cell p ty, .tmp u, .tmp u2]) (tmps : Array Value) (w : World) (g : Nat) (t : TypeId) (cs : Array Value) (fr : Nat × Nat) (d : TypeDesc) (v v2 : Value)
    (hp : tmps.getD p undef = .pointer (some ⟨g, 0, none⟩)) (hv : tmps.getD u undef = v) (hv2 : tmps.getD u2 undef = v2) (hg : w.heap[g]? = some (.cells cs t fr))
    (hu : P.underlying ty = some d) (hd : (match d with | .struct _ | .array _ _ => true | _ => false) = true) (hi : (P.info? ty).map (·.size) = some cs.size) :
    (results fn tmps).run P w = .ok (.tuple #[.agg cs, v, v2]) w := by
  have hp' : tmps[p]?.getD undef = .pointer (some ⟨g, 0, none⟩) := by simpa using hp
  have hv' : tmps[u]?.getD undef = v := by simpa using hv
  have hv2' : tmps[u2]?.getD undef = v2 := by simpa using hv2
  simp [results, h, hp', hv', hv2', Sem.run_bind, asAddr, Result.andThen, run_loadVar_row w g t ty cs fr d hg hu hd hi]
end Go.Proofs.Ytlacjifnniahhaa

namespace Go.Proofs.Ytlacjifnniahhaa
open Go Go.RowKit

/-- What bears whatever is laid later. -/
def Stays {β : Type} (I : β → World → Prop) : Prop := ∀ s W W', I s W → Below W.heap.size W W' → I s W'

theorem stays_own {β : Type} {B : Nat} {I : β → World → Prop} (h : OwnFrom B I) : Stays I := fun s W W' hs hb =>
  h s W W' none hs ⟨hb.os, hb.tape, hb.output, hb.size, fun k hk _ => hb.block k hk⟩ (fun r e => by cases e)

/-- An iterator's word: wherever it yields x, behind those of pre, C pre x holds of the memory. -/
def SeqC {α : Type} (F : Fence) (n : Nat) (P : Program) (g : Nat) (lb : Array Value) (encs : α → Array Value) (C : List α → α → World → Prop) (Kp : World → World → Prop)
    (S Sp : List α → Prop) (w : World) : Prop :=
  ∀ (l : Nat) (J Jx : List α → World → Prop) (W : World), Below w.heap.size w W → Stays J → Stays Jx →
    (∀ pre x V, J pre V → C pre x V → YieldAt F (n - 1) P l (encs x) V fun e V' =>
      (e = .returned (.bool true) ∧ J (pre ++ [x]) V' ∧ Kp V V') ∨ (e = .returned (.bool false) ∧ Jx (pre ++ [x]) V')) →
    J [] W →
    CallsIn F n P g (#[.func (.yield l) #[] #[]] ++ lb) W fun e V => (∃ v, e = .returned v) ∧ ((∃ xs, S xs ∧ J xs V) ∨ (∃ pre, Sp pre ∧ Jx pre V))

/-- The two blocks of a loop's own, as they lie between its rounds. -/
structure Books (B : Nat) (r : Loop) (W : World) : Prop where
  marks : W.heap[B]? = some (.deferred (some []))
  record : W.heap[B + 1]? = some (.loop r)

theorem Books.lt {B : Nat} {r : Loop} {W : World} (h : Books B r W) : B + 1 < W.heap.size := (Array.getElem?_eq_some_iff.1 h.record).1
theorem Books.below {B : Nat} {r : Loop} {W V : World} (h : Books B r W) (hb : Below W.heap.size W V) : Books B r V :=
  ⟨(hb.block _ (by have := h.lt; omega)).trans h.marks, (hb.block _ h.lt).trans h.record⟩
theorem Books.put {B : Nat} {r : Loop} {W : World} (h : Books B r W) (r' : Loop) : Books B r' (W.putObj (B + 1) (.loop r')) :=
  ⟨(World.putObj_heap_other (by omega)).trans h.marks, World.putObj_heap_same h.lt⟩
theorem Books.others {B : Nat} {r : Loop} {W V : World} (h : Books B r W) (hk : KeepsOthers W V) : Books B r V :=
  ⟨hk.same _ _ h.marks rfl, hk.same _ _ h.record rfl⟩
theorem OwnFrom.book {β : Type} {B : Nat} {I : β → World → Prop} (h : OwnFrom B I) {s : β} {W : World} {r : Loop} (hb : Books B r W) (hs : I s W) (r' : Loop) : I s (W.putObj (B + 1) (.loop r')) :=
  h.putObj _ hs (by omega) hb.record rfl

variable {F : Fence} {n : Nat} {P : Program}

/-- How a body may end, by the jump that it leaves behind (none: the loop goes on). -/
def outC {α : Type} (Kp : World → World → Prop) (I : List α → World → Prop) (Ix : Code → List α → World → Prop) (xs : List α) (W : World) : Exit → Act → World → Prop
  | .normal, _, V => KeepsOthers W V ∧ Kp W V ∧ I xs V
  | .ret, _, V => KeepsOthers W V ∧ Ix .ret xs V
  | .exit id, _, V => KeepsOthers W V ∧ Ix (.exit id) xs V
  | _, _, _ => False

theorem wpIn_rangeC {α : Type} {g : Operand} {ps : Array Tmp} {assign body : Code} {Q : Exit → Act → World → Prop} {a : Act} {w : World}
    (hro : F.round = none) (h1 : 1 ≤ n) {gf : Nat} {lb : Array Value} (hg : a.eval g = .func (.func gf) #[] lb) (hFg : F.fn gf) (eg : ∀ args w, (callFunc gf args).run P w = .ok (.enter gf args) w)
    {encs : α → Array Value} {C : List α → α → World → Prop} {Kp : World → World → Prop} {S Sp : List α → Prop} {w0 : World} (hseq : SeqC F (n - 1) P gf lb encs C Kp S Sp w0)
    (hKt : ∀ {X Y Z : World}, Kp X Y → Kp Y Z → Kp X Z)
    (hKb : ∀ (W : World) (l : Nat) (o o' : Obj), w.heap.size ≤ l → W.heap[l]? = some o → o.isCells = false → o.isWalk = false → Kp W (W.putObj l o'))
    (hb0 : Below w0.heap.size w0 w) (hps : ∀ x, (encs x).size = ps.size) (hC : ∀ pre, OwnFrom w.heap.size (C pre))
    (I : List α → World → Prop) (Ix : Code → List α → World → Prop) (hI : OwnFrom w.heap.size I) (hIx : ∀ c, OwnFrom w.heap.size (Ix c)) (h0 : I [] w) (a₁ : α → Act)
    (hassign : ∀ (l : Nat) (x : α) (W : World) (K : Act → World → Prop), K (a₁ x) W →
      assign.wpIn (F.inRound l) (n - 1 - 1) P (Exit.then K (fun _ _ _ => False)) { tmps := (ps.zip (encs x)).foldl (fun t (p, v) => t.setIfInBounds p v) a.tmps, defers := [] } W)
    (hbody : ∀ (l : Nat) (pre : List α) (x : α) (W : World), I pre W → C pre x W → body.wpIn (F.inRound l) (n - 1 - 1) P (outC Kp I Ix (pre ++ [x]) W) (a₁ x) W)
    (hdone : ∀ (D : Nat) (xs : List α) (W : World), w.heap.size ≤ D → S xs → I xs W → W.heap[D]? = some (.deferred (some [])) →
      Q .normal { a with defers := { target := .collected D, args := #[] } :: a.defers } W)
    (hstop : ∀ (D : Nat) (c : Code) (pre : List α) (W : World), w.heap.size ≤ D → Sp pre → Ix c pre W → W.heap[D]? = some (.deferred (some [])) →
      c.wpIn F n P Q { a with defers := { target := .collected D, args := #[] } :: a.defers } W) :
    (Code.rangeFunc g ps assign body).wpIn F n P Q a w := by
  refine wpIn_rangeFunc fun fn hfn => ?_
  obtain ⟨r, hr⟩ : ∃ r : LoopState → Option Code → Loop, r = fun st pe => { state := st, pending := pe, fn, tmps := a.tmps, params := ps, assign, body, defers := w.heap.size } := ⟨_, rfl⟩
  have bk : Books w.heap.size (r .ready none) ((w.alloc (.deferred (some []))).alloc (.loop (r .ready none))) :=
    ⟨(Below.heap_alloc _ _ _ (by simp)).trans (World.alloc_heap_new w _), by
      have := World.alloc_heap_new (w.alloc (.deferred (some []))) (.loop (r .ready none)); rwa [World.size_alloc] at this⟩
  have ent := run_enterLoop_outer (P := P) (w := w) fn a.tmps ps assign body
  rw [show (Loop.mk .ready none fn a.tmps ps assign body w.heap.size) = r .ready none by rw [hr]] at ent
  have i0 : I [] ((w.alloc (.deferred (some []))).alloc (.loop (r .ready none))) := hI.alloc _ (hI.alloc _ h0)
  have b1 : Below w0.heap.size w0 ((w.alloc (.deferred (some []))).alloc (.loop (r .ready none))) :=
    (hb0.alloc hb0.size _).alloc (by have := hb0.size; simp; omega) _
  generalize (w.alloc (.deferred (some []))).alloc (.loop (r .ready none)) = W1 at *
  rw [hro]
  refine ⟨_, _, W1, { target := .fn (.func gf) lb, args := #[.func (.yield (w.heap.size + 1)) #[] #[]] }, W1, gf, #[.func (.yield (w.heap.size + 1)) #[] #[]] ++ lb, W1,
    ent, ?_, ?_, ?_, fun _ => h1, ?_⟩
  · simp only [resolve, hg]
    simp [go_sem]
  · intro f' hf'; simp [Target.leads] at hf'; subst hf'; exact hFg
  · simp [invoke, go_sem, eg]
  refine (hseq (w.heap.size + 1) (fun pre W => I pre W ∧ Books w.heap.size (r .ready none) W) (fun pre W => ∃ c, Ix c pre W ∧ Books w.heap.size (r .done (some c)) W) W1 b1
    (fun s W V h hb => ⟨stays_own hI s W V h.1 hb, h.2.below hb⟩)
    (fun s W V h hb => by obtain ⟨c, hc, hk⟩ := h; exact ⟨c, stays_own (hIx c) s W V hc hb, hk.below hb⟩)
    ?round ⟨i0, bk⟩).mono ?behind
  case round =>
    rintro pre x V ⟨hi, hk⟩ hc
    have y := run_yield (P := P) (args := encs x) hk.record (by rw [hr]; exact hps x)
    have bg := run_beginRound (P := P) hk.record (by rw [hr])
    obtain ⟨rb, hrb⟩ : ∃ rb, rb = { r .ready none with state := .busy } := ⟨_, rfl⟩
    rw [← hrb] at bg
    have hkb := hk.put rb
    have kp1 : Kp V (V.putObj (w.heap.size + 1) (.loop rb)) := hKb _ _ _ _ (by omega) hk.record rfl rfl
    have fin : ∀ (jump : Option Code) (V' : World), Books w.heap.size rb V' →
        (Instr.endRound (w.heap.size + 1) jump).run P V' = .ok (.bool jump.isNone) (V'.putObj (w.heap.size + 1) (.loop (r (if jump.isNone then .ready else .done) jump))) := fun jump V' h => by
      rw [run_endRound (P := P) jump h.record, hrb, hr]
    rw [hr] at y
    refine ⟨fn, _, assign, body, y, roundIn_of_wpIn hfn (hassign _ x V _ ⟨_, bg, ?_⟩)⟩
    refine wpIn_mono (hbody _ pre x _ (OwnFrom.book hI hk hi rb) (OwnFrom.book (hC pre) hk hc rb)) ?_
    rintro e a3 V' h
    cases e with
    | normal =>
      obtain ⟨h1, h2, h3⟩ := h
      have hk' := hkb.others h1
      exact ⟨_, _, fin none V' hk', .inl ⟨rfl, ⟨OwnFrom.book hI hk' h3 _, hk'.put _⟩, hKt (hKt kp1 h2) (hKb _ _ _ _ (by omega) hk'.record rfl rfl)⟩⟩
    | ret =>
      obtain ⟨h1, h3⟩ := h
      have hk' := hkb.others h1
      exact ⟨_, _, fin (some .ret) V' hk', .inr ⟨rfl, .ret, OwnFrom.book (hIx _) hk' h3 _, hk'.put _⟩⟩
    | exit id =>
      obtain ⟨h1, h3⟩ := h
      have hk' := hkb.others h1
      exact ⟨_, _, fin (some (.exit id)) V' hk', .inr ⟨rfl, .exit id, OwnFrom.book (hIx _) hk' h3 _, hk'.put _⟩⟩
    | goto t => exact h.elim
    | panic ch => exact h.elim
    | outgrown => exact h.elim
  case behind =>
    rintro e V ⟨⟨v, rfl⟩, (⟨xs, hS, hi, hk⟩ | ⟨pre, hSp, c, hi, hk⟩)⟩
    · have en := run_endLoop (P := P) hk.record (by rw [hr]; simp)
      exact ⟨_, _, en, by rw [show (r .ready none).pending = none by rw [hr]]; exact hdone _ xs _ (Nat.le_refl _) hS (OwnFrom.book hI hk hi _) (hk.put _).marks⟩
    · have en := run_endLoop (P := P) hk.record (by rw [hr]; simp)
      exact ⟨_, _, en, by rw [show (r .done (some c)).pending = some c by rw [hr]]; exact hstop _ c pre _ (Nat.le_refl _) hSp (OwnFrom.book (hIx c) hk hi _) (hk.put _).marks⟩
end Go.Proofs.Ytlacjifnniahhaa

namespace Go.Proofs.Ytlacjifnniahhaa
open Go Go.RowKit
set_option linter.unusedVariables false
set_option linter.unusedSimpArgs false

section
variable {α : Type} {f : α → List Value}
/-- A list of lists of structs, read: all lies below block B. -/
structure OutF (f : α → List Value) (w : World) (B : Nat) (A : Option Addr) (Ls : List (List α)) : Prop where
  at' : ∀ (i : Nat) (L : List α), Ls[i]? = some L → ∃ (b o : Nat) (Ai : Option Addr) (ci : Nat), A = some ⟨b, o, none⟩ ∧ b < B ∧ w.cell? ⟨b, o + i, none⟩ = some (.slice Ai L.length ci) ∧ Lists w B Ai (L.flatMap f)
theorem OutF.below {w w1 : World} {B : Nat} {A : Option Addr} {Ls : List (List α)} (h : OutF f w B A Ls) (hb : Below B w w1) : OutF f w1 B A Ls :=
  ⟨fun i L hL => by
    obtain ⟨b, o, Ai, ci, h1, h2, h3, h4⟩ := h.at' i L hL
    exact ⟨b, o, Ai, ci, h1, h2, (hb.cell (p := ⟨b, o + i, none⟩) h2).trans h3, h4.below hb⟩⟩
theorem OutF.more {w : World} {B B1 : Nat} {A : Option Addr} {Ls : List (List α)} (h : OutF f w B A Ls) (hB : B ≤ B1) : OutF f w B1 A Ls :=
  ⟨fun i L hL => by
    obtain ⟨b, o, Ai, ci, h1, h2, h3, h4⟩ := h.at' i L hL
    exact ⟨b, o, Ai, ci, h1, Nat.lt_of_lt_of_le h2 hB, h3, h4.more hB⟩⟩
theorem OutF.nil (w : World) (B : Nat) : OutF f w B none [] := ⟨fun i L h => by simp at h⟩
def cntF (Ls : List (List α)) : Nat := (Ls.map List.length).sum
theorem cntF_snoc (Ls : List (List α)) (L : List α) : cntF (Ls ++ [L]) = cntF Ls + L.length := by simp [cntF]
theorem cntF_cons (Ls : List (List α)) (L : List α) : cntF (L :: Ls) = L.length + cntF Ls := by simp [cntF]
theorem cntF_le : ∀ {Ls : List (List α)} {m : Nat}, (∀ L ∈ Ls, L.length ≤ m) → cntF Ls ≤ Ls.length * m
  | [], m, _ => by simp [cntF]
  | L :: Ls, m, h => by
    have h1 := cntF_le (Ls := Ls) (m := m) fun M hM => h M (by simp [hM])
    have h2 := h L (by simp)
    rw [cntF_cons, List.length_cons, Nat.add_mul, Nat.one_mul]
    omega
theorem cntF_flat (Ls : List (List α)) : Ls.flatten.length = cntF Ls := by simp [cntF, List.length_flatten]
theorem cntF_take (Ls : List (List α)) (k : Nat) : cntF (Ls.take k) ≤ cntF Ls := by
  have : cntF Ls = cntF (Ls.take k) + cntF (Ls.drop k) := by
    conv => lhs; rw [← List.take_append_drop k Ls]
    simp only [cntF, List.map_append, List.sum_append]
  omega
theorem cntF_mem {Ls : List (List α)} {L : List α} (h : L ∈ Ls) : L.length ≤ cntF Ls := by
  induction Ls with
  | nil => simp at h
  | cons M Ls ih =>
    rw [cntF_cons]
    rcases List.mem_cons.1 h with rfl | h
    · omega
    · have := ih h; omega
theorem at_someF {L : List α} {k : Nat} (h : k < L.length) : ∃ x, L[k]? = some x := ⟨L[k]'h, List.getElem?_eq_getElem _⟩
theorem take_snocF {L : List α} {k : Nat} {x : α} (h : L[k]? = some x) : L.take (k + 1) = L.take k ++ [x] := by
  rw [List.take_add_one, h]; rfl
theorem prefixF {Ls : List (List α)} {k j : Nat} {L : List α} {x : α} (hL : Ls[k]? = some L) (hx : L[j]? = some x) : (Ls.take k).flatten ++ L.take j ++ [x] <+: Ls.flatten := by
  have e : Ls = Ls.take k ++ L :: Ls.drop (k + 1) := by
    obtain ⟨hk, he⟩ := List.getElem?_eq_some_iff.1 hL
    rw [← he, ← List.drop_eq_getElem_cons hk, List.take_append_drop]
  have e2 : L = L.take j ++ x :: L.drop (j + 1) := by
    obtain ⟨hk, he⟩ := List.getElem?_eq_some_iff.1 hx
    rw [← he, ← List.drop_eq_getElem_cons hk, List.take_append_drop]
  refine ⟨L.drop (j + 1) ++ (Ls.drop (k + 1)).flatten, ?_⟩
  conv => rhs; rw [e]
  rw [List.flatten_append, List.flatten_cons]
  conv => rhs; rw [e2]
  simp
theorem prefix_inj {pre M : List α} {x y : α} (h1 : pre ++ [x] <+: M) (h2 : M[pre.length]? = some y) : x = y := by
  obtain ⟨t, rfl⟩ := h1
  simpa using h2
end

/-- What a round of a range may do: below block nb nothing but what stands in the list changes. -/
structure KpX (nb : Nat) (fp : List Nat) (V V' : World) : Prop where
  os : V'.os = V.os
  tape : V'.tape = V.tape
  output : V'.output = V.output
  size : V.heap.size ≤ V'.heap.size
  block : ∀ b, b < nb → b ∉ fp → V'.heap[b]? = V.heap[b]?
theorem KpX.refl (nb : Nat) (fp : List Nat) (V : World) : KpX nb fp V V := ⟨rfl, rfl, rfl, Nat.le_refl _, fun _ _ _ => rfl⟩
theorem KpX.trans {nb : Nat} {fp : List Nat} {X Y Z : World} (h : KpX nb fp X Y) (k : KpX nb fp Y Z) : KpX nb fp X Z :=
  ⟨k.os.trans h.os, k.tape.trans h.tape, k.output.trans h.output, Nat.le_trans h.size k.size, fun b hb hf => (k.block b hb hf).trans (h.block b hb hf)⟩
theorem KpX.of {nb : Nat} {fp : List Nat} {V V' : World} (h : Below nb V V') : KpX nb fp V V' := ⟨h.os, h.tape, h.output, h.size, fun b hb _ => h.block b hb⟩
theorem KpX.only {nb : Nat} {fp : List Nat} {V V' : World} (h : Only V V' fp) (hn : nb ≤ V.heap.size) : KpX nb fp V V' := ⟨h.os, h.tape, h.output, h.size, fun b hb hf => h.block b (Nat.lt_of_lt_of_le hb hn) hf⟩
theorem KpX.cell {nb : Nat} {fp : List Nat} {V V' : World} (h : KpX nb fp V V') {p : Addr} (hp : p.block < nb) (hf : p.block ∉ fp) : V'.cell? p = V.cell? p := World.cell?_of_block (h.block _ hp hf)
theorem KpX.blk {nb b : Nat} {fp : List Nat} {T : TypeId} {cs : Array Value} {V V' : World} (h : KpX nb fp V V') (K : Blk V b T cs) (hb : b < nb) (hf : b ∉ fp) : Blk V' b T cs := (h.block b hb hf).trans K
theorem KpX.to {nb B : Nat} {fp : List Nat} {V V' : World} (h : KpX nb fp V V') (hB : B ≤ nb) (hf : ∀ b ∈ fp, B ≤ b) : Below B V V' := ⟨h.os, h.tape, h.output, h.size, fun b hb => h.block b (by omega) (fun hm => by have := hf b hm; omega)⟩
theorem kpX_b {nb : Nat} {fp : List Nat} {w : World} (hn : nb ≤ w.heap.size) (W : World) (l : Nat) (o o' : Obj) (hl : w.heap.size ≤ l) (h : W.heap[l]? = some o) (h1 : o.isCells = false) (h2 : o.isWalk = false) : KpX nb fp W (W.putObj l o') :=
  ⟨rfl, rfl, rfl, by simp [World.putObj], fun b hb _ => World.putObj_heap_other (fun e => by omega)⟩
end Go.Proofs.Ytlacjifnniahhaa

namespace Go.Proofs.Ytlacjifnniahhaa

/-- may a number be? -/
def mayB (x : Int) : Bool := decide (-2147483648 ≤ x) && decide (x ≤ 2147483648)

/-- the nearest whole number to a quotient -/
def near (a b : Int) : Int := if b < 0 then (2 * (-a) + (-b)) / (2 * (-b)) else (2 * a + b) / (2 * b)

theorem div_unique {a b q : Int} (h1 : b * q ≤ a) (h2 : a < b * q + b) : a / b = q := by
  have hb : 0 < b := by omega
  have h3 : a = b * q + (a - b * q) := by omega
  rw [h3, Int.add_comm, Int.add_mul_ediv_left _ _ (by omega : b ≠ 0), Int.ediv_eq_zero_of_lt (by omega) (by omega)]
  omega

theorem tdiv_floor {a b : Int} (hb : 0 < b) (ha : a < 0) (hm : ¬ a % b = 0) : a.tdiv b - 1 = a / b ∧ ¬ a.tmod b = 0 ∧ a.tdiv b ≤ 0 ∧ a < a.tdiv b  := by
  have hd : ¬ b ∣ a := fun h => hm (Int.emod_eq_zero_of_dvd h)
  have e := @Int.tdiv_eq_ediv a b
  rw [if_neg (by intro h; rcases h with h | h; omega; exact hd h), Int.sign_eq_one_of_pos hb] at e
  have h4 : a / b < 0 := Int.ediv_neg_of_neg_of_pos ha hb
  have h5 : a ≤ a / b := Int.le_ediv_of_mul_le hb (by have := Int.mul_le_mul_of_nonpos_left (a := a) (b := b) (c := 1) (by omega) (by omega); omega)
  exact ⟨by omega, fun h => hd (Int.dvd_of_tmod_eq_zero h), by omega, by omega⟩
theorem tdiv_whole {a b : Int} (hm : a % b = 0) : a.tdiv b = a / b ∧ a.tmod b = 0 := by
  have hd : b ∣ a := Int.dvd_of_emod_eq_zero hm
  have e := @Int.tdiv_eq_ediv a b
  rw [if_pos (.inr hd)] at e
  exact ⟨by omega, Int.tmod_eq_zero_of_dvd hd⟩

theorem near_pos {a b q : Int} (hb : 0 < b) (h1 : 2 * (b * q) ≤ 2 * a + b) (h2 : 2 * a + b < 2 * (b * q) + 2 * b) : near a b = q := by
  unfold near; rw [if_neg (by omega)]
  exact div_unique (by rw [Int.mul_assoc]; exact h1) (by rw [Int.mul_assoc]; exact h2)

theorem near_neg {a b q : Int} (hb : b < 0) (h1 : 2 * (b * q) ≥ 2 * a + b) (h2 : 2 * a + b > 2 * (b * q) + 2 * b) : near a b = q := by
  unfold near; rw [if_pos hb]
  exact div_unique (by rw [Int.mul_assoc, Int.neg_mul]; omega) (by rw [Int.mul_assoc, Int.neg_mul]; omega)

theorem near_same {a b n d : Int} (hn : max a (-a) = n) (hd : max b (-b) = d) (h0 : 0 < d) (hs : (!decide (a < 0) == decide (b < 0)) = false) :
    near a b = n / d + if d ≤ 2 * (n % d) then 1 else 0 := by
  have e := Int.mul_ediv_add_emod n d
  have r0 : 0 ≤ n % d := Int.emod_nonneg n (by omega)
  have r1 : n % d < d := Int.emod_lt_of_pos n h0
  by_cases hb : b < 0
  · have ha : a < 0 := by simp [hb] at hs; exact hs
    obtain rfl : b = -d := by omega
    obtain rfl : a = -n := by omega
    clear hn hd hs
    apply near_neg hb <;> (split <;> simp only [Int.neg_mul, Int.mul_add, Int.mul_one, Int.add_zero] <;> omega)
  · have ha : ¬ a < 0 := by simp [hb] at hs; omega
    obtain rfl : b = d := by omega
    obtain rfl : a = n := by omega
    clear hn hd hs
    apply near_pos h0 <;> (split <;> simp only [Int.mul_add, Int.mul_one, Int.add_zero] <;> omega)

theorem near_diff {a b n d : Int} (hn : max a (-a) = n) (hd : max b (-b) = d) (h0 : 0 < d) (hs : (!decide (a < 0) == decide (b < 0)) = true) :
    near a b = -(n / d + if d < 2 * (n % d) then 1 else 0) := by
  have e := Int.mul_ediv_add_emod n d
  have r0 : 0 ≤ n % d := Int.emod_nonneg n (by omega)
  have r1 : n % d < d := Int.emod_lt_of_pos n h0
  by_cases hb : b < 0
  · have ha : ¬ a < 0 := by simp [hb] at hs; omega
    obtain rfl : b = -d := by omega
    obtain rfl : a = n := by omega
    clear hn hd hs
    apply near_neg hb <;> (split <;> simp only [Int.neg_mul, Int.mul_neg, Int.neg_neg, Int.mul_add, Int.mul_one, Int.add_zero] <;> omega)
  · have ha : a < 0 := by simp [hb] at hs; omega
    obtain rfl : b = d := by omega
    obtain rfl : a = -n := by omega
    clear hn hd hs
    apply near_pos h0 <;> (split <;> simp only [Int.mul_neg, Int.mul_add, Int.mul_one, Int.add_zero] <;> omega)

theorem mul_bound {a b : Int} (A B : Nat) (h1 : -(A : Int) ≤ a) (h2 : a ≤ A) (h3 : -(B : Int) ≤ b) (h4 : b ≤ B) : -((A * B : Nat) : Int) ≤ a * b ∧ a * b ≤ ((A * B : Nat) : Int) := by
  have h : (a * b).natAbs ≤ A * B := by rw [Int.natAbs_mul]; exact Nat.mul_le_mul (by omega) (by omega)
  omega

theorem near_spec (a b : Int) (hb : 1 ≤ b) : -b ≤ 2 * (a - near a b * b) ∧ 2 * (a - near a b * b) < b := by
  unfold near
  rw [if_neg (by omega)]
  have h := Int.mul_ediv_add_emod (2 * a + b) (2 * b)
  have h1 := Int.emod_nonneg (2 * a + b) (show 2 * b ≠ 0 by omega)
  have h2 := Int.emod_lt_of_pos (2 * a + b) (show 0 < 2 * b by omega)
  rw [Int.mul_assoc, Int.mul_comm b] at h
  omega

end Go.Proofs.Ytlacjifnniahhaa

namespace Go.Proofs.Ytlacjifnniahhaa
open Go.RowKit

theorem ret_int {k : IntKind} {a b : Int} (h : a = b) : Ending.returned (.int k a) = .returned (.int k b) := by rw [h]

theorem may_ref (x : Int) (w : World) : Calls Try.prog 33 #[.int .i64 x] w fun e w' => e = .returned (.bool (mayB x)) ∧ w = w' := by
  unfold mayB
  by_cases h1 : -2147483648 ≤ x <;> by_cases h2 : x ≤ 2147483648
  all_goals
    go_enter Try.func33, Try.ntmps33
    go_wp2
    go_ret
    simp [h1, h2]

theorem may_any (x : Int) (w : World) : Calls Try.prog 29 #[.int .i64 x] w fun e w' => e = .returned (.bool (mayB x)) ∧ w = w' := by
  unfold mayB
  by_cases h1 : -2147483648 ≤ x <;> by_cases h2 : x ≤ 2147483648
  all_goals
    go_enter Try.func29, Try.ntmps29
    go_wp2
    go_ret
    simp [h1, h2]

theorem floor_ref (a b : Int) (w : World) (hb : 0 < b) (ha : -9223372036854775808 ≤ a) (ha2 : a ≤ 9223372036854775807) :
    Calls Try.prog 35 #[.int .i64 a, .int .i64 b] w fun e w' => e = .returned (.int .i64 (a / b)) ∧ w = w' := by
  by_cases h2 : a < 0
  · by_cases h1 : a % b = 0
    · obtain ⟨e1, e2⟩ := tdiv_whole h1
      have H : Hid (a.tdiv b = a / b) := e1
      have e3 : (a.tmod b != 0) = false := by simp [e2]
      clear e1 h1 e2
      go_enter Try.func35, Try.ntmps35
      go_wp2
      go_ret
      exact ⟨ret_int H.out, rfl⟩
    · obtain ⟨e1, e2, e4, e5⟩ := tdiv_floor hb h2 h1
      have H : Hid (a.tdiv b - 1 = a / b) := e1
      have e3 : (a.tmod b != 0) = true := by simp [e2]
      have e6 : -9223372036854775808 ≤ a.tdiv b - 1 := by omega
      clear e1 h1
      go_enter Try.func35, Try.ntmps35
      go_wp2
      go_ret
      exact ⟨ret_int H.out, rfl⟩
  · by_cases h1 : a % b = 0
    all_goals
      go_enter Try.func35, Try.ntmps35
      go_wp2
      all_goals go_ret
      all_goals exact ⟨rfl, rfl⟩

end Go.Proofs.Ytlacjifnniahhaa

namespace Go.Proofs.Ytlacjifnniahhaa
open Go.RowKit

theorem ret_iiv {k l : IntKind} {a b a' b' : Int} {v : Value} (h : a = a') (g : b = b') : Ending.returned (.tuple #[.int k a, .int l b, v]) = .returned (.tuple #[.int k a', .int l b', v]) := by rw [h, g]

theorem split_same (a b n d : Int) (w : World) (ha : -4611686018427387904 ≤ a) (hb : -4611686018427387904 ≤ b) (ha2 : a ≤ 4611686018427387904) (hb2 : b ≤ 4611686018427387904)
    (hn : max a (-a) = n) (hdd : max b (-b) = d) (hd : (!decide (a < 0) == decide (b < 0)) = false) :
    Calls Try.prog 95 #[.int .i64 a, .int .i64 b] w fun e w' => e = .returned (.tuple #[.int .i64 n, .int .i64 d, .func (.func 107) #[] #[]]) ∧ w = w' := by
  go_enter Try.func95, Try.ntmps95
  go_wp2
  all_goals go_ret3
  all_goals exact ⟨ret_iiv (by omega) (by omega), rfl⟩

theorem split_diff (a b n d : Int) (w : World) (ha : -4611686018427387904 ≤ a) (hb : -4611686018427387904 ≤ b) (ha2 : a ≤ 4611686018427387904) (hb2 : b ≤ 4611686018427387904)
    (hn : max a (-a) = n) (hdd : max b (-b) = d) (hd : (!decide (a < 0) == decide (b < 0)) = true) :
    Calls Try.prog 95 #[.int .i64 a, .int .i64 b] w fun e w' => e = .returned (.tuple #[.int .i64 n, .int .i64 d, .func (.func 108) #[] #[]]) ∧ w = w' := by
  go_enter Try.func95, Try.ntmps95
  go_wp2
  all_goals go_ret3
  all_goals exact ⟨ret_iiv (by omega) (by omega), rfl⟩

theorem nearest_same (a b n d : Int) (w : World) (ha : -4611686018427387904 ≤ a) (hb : -4611686018427387904 ≤ b) (ha2 : a ≤ 4611686018427387904) (hb2 : b ≤ 4611686018427387904)
    (hn : max a (-a) = n) (hdd : max b (-b) = d) (h0 : 0 < d) (hd : (!decide (a < 0) == decide (b < 0)) = false) :
    Calls Try.prog 81 #[.int .i64 a, .int .i64 b] w fun e w' => e = .returned (.int .i64 (near a b)) ∧ ∃ k, w' = w.drewN k := by
  have C := split_same a b n d w ha hb ha2 hb2 hn hdd hd
  have Hq := near_same hn hdd h0 hd
  generalize near a b = q at Hq ⊢
  have n0 : 0 ≤ n := by omega
  have n1 : n ≤ 4611686018427387904 := by omega
  have d1 : d ≤ 4611686018427387904 := by omega
  have r0 : 0 ≤ n % d := Int.emod_nonneg n (by omega)
  have r1 : n % d < d := Int.emod_lt_of_pos n h0
  have q0 : 0 ≤ n / d := Int.ediv_nonneg n0 (by omega)
  have q1 : n / d ≤ n := Int.ediv_le_self d n0
  clear hn hdd hd
  rcases (by omega : d < 2 * (n % d) ∨ 2 * (n % d) = d ∨ 2 * (n % d) < d) with h | h | h
  · have HE : Hid (q = (n / d + 1)) := (by rw [Hq, if_pos (by omega)] : q = (n / d + 1))
    clear Hq
    go_enter Try.func81, Try.ntmps81
    go_wp2_with (go_at_call 95; refine C.mono ?_; rintro e w' ⟨rfl, rfl⟩)
    go_quiet (fail)
    go_wp2
    go_ret
    exact ⟨ret_int HE.out.symm, _, rfl⟩
  · have HE : Hid (q = n / d + 1) := (by rw [Hq, if_pos (by omega)] : q = n / d + 1)
    have hb : (2 * (n % d) == d) = true := by simp [h]
    have hl : ¬ d < 2 * (n % d) := by omega
    clear h Hq
    go_enter Try.func81, Try.ntmps81
    go_wp2_with (go_at_call 95; refine C.mono ?_; rintro e w' ⟨rfl, rfl⟩)
    go_quiet (fail)
    go_wp2
    go_ret
    exact ⟨ret_int HE.out.symm, _, rfl⟩
  · have HE : Hid (q = (n / d)) := (by rw [Hq, if_neg (by omega)]; simp : q = (n / d))
    have hb : (2 * (n % d) == d) = false := by rw [Bool.eq_false_iff]; intro c; have := eq_of_beq c; omega
    have hl : ¬ d < 2 * (n % d) := by omega
    clear Hq
    go_enter Try.func81, Try.ntmps81
    go_wp2_with (go_at_call 95; refine C.mono ?_; rintro e w' ⟨rfl, rfl⟩)
    go_quiet (fail)
    go_wp2
    go_ret
    exact ⟨ret_int HE.out.symm, _, rfl⟩

theorem nearest_diff (a b n d : Int) (w : World) (ha : -4611686018427387904 ≤ a) (hb : -4611686018427387904 ≤ b) (ha2 : a ≤ 4611686018427387904) (hb2 : b ≤ 4611686018427387904)
    (hn : max a (-a) = n) (hdd : max b (-b) = d) (h0 : 0 < d) (hd : (!decide (a < 0) == decide (b < 0)) = true) :
    Calls Try.prog 81 #[.int .i64 a, .int .i64 b] w fun e w' => e = .returned (.int .i64 (near a b)) ∧ ∃ k, w' = w.drewN k := by
  have C := split_diff a b n d w ha hb ha2 hb2 hn hdd hd
  have Hq := near_diff hn hdd h0 hd
  generalize near a b = q at Hq ⊢
  have n0 : 0 ≤ n := by omega
  have n1 : n ≤ 4611686018427387904 := by omega
  have d1 : d ≤ 4611686018427387904 := by omega
  have r0 : 0 ≤ n % d := Int.emod_nonneg n (by omega)
  have r1 : n % d < d := Int.emod_lt_of_pos n h0
  have q0 : 0 ≤ n / d := Int.ediv_nonneg n0 (by omega)
  have q1 : n / d ≤ n := Int.ediv_le_self d n0
  clear hn hdd hd
  rcases (by omega : d < 2 * (n % d) ∨ 2 * (n % d) = d ∨ 2 * (n % d) < d) with h | h | h
  · have HE : Hid (q = -(n / d + 1)) := (by rw [Hq, if_pos (by omega)] : q = -(n / d + 1))
    clear Hq
    go_enter Try.func81, Try.ntmps81
    go_wp2_with (go_at_call 95; refine C.mono ?_; rintro e w' ⟨rfl, rfl⟩)
    go_quiet (fail)
    go_wp2
    go_ret
    exact ⟨ret_int HE.out.symm, _, rfl⟩
  · have HE : Hid (q = -(n / d)) := (by rw [Hq, if_neg (by omega)]; simp : q = -(n / d))
    have hb : (2 * (n % d) == d) = true := by simp [h]
    have hl : ¬ d < 2 * (n % d) := by omega
    clear h Hq
    go_enter Try.func81, Try.ntmps81
    go_wp2_with (go_at_call 95; refine C.mono ?_; rintro e w' ⟨rfl, rfl⟩)
    go_quiet (fail)
    go_wp2
    go_ret
    exact ⟨ret_int HE.out.symm, _, rfl⟩
  · have HE : Hid (q = -(n / d)) := (by rw [Hq, if_neg (by omega)]; simp : q = -(n / d))
    have hb : (2 * (n % d) == d) = false := by rw [Bool.eq_false_iff]; intro c; have := eq_of_beq c; omega
    have hl : ¬ d < 2 * (n % d) := by omega
    clear Hq
    go_enter Try.func81, Try.ntmps81
    go_wp2_with (go_at_call 95; refine C.mono ?_; rintro e w' ⟨rfl, rfl⟩)
    go_quiet (fail)
    go_wp2
    go_ret
    exact ⟨ret_int HE.out.symm, _, rfl⟩

theorem nearest_any (a b : Int) (w : World) (ha : -4611686018427387904 ≤ a) (hb : -4611686018427387904 ≤ b) (ha2 : a ≤ 4611686018427387904) (hb2 : b ≤ 4611686018427387904) (h0 : b ≠ 0) :
    Calls Try.prog 81 #[.int .i64 a, .int .i64 b] w fun e w' => e = .returned (.int .i64 (near a b)) ∧ ∃ k, w' = w.drewN k := by
  by_cases h : (!decide (a < 0) == decide (b < 0)) = true
  · exact nearest_diff a b _ _ w ha hb ha2 hb2 rfl rfl (by omega) h
  · exact nearest_same a b _ _ w ha hb ha2 hb2 rfl rfl (by omega) (by simpa using h)

end Go.Proofs.Ytlacjifnniahhaa

namespace Go.Proofs.Ytlacjifnniahhaa
open Go.RowKit

theorem ret_ii {k l : IntKind} {a b a' b' : Int} (h : a = a') (g : b = b') : Ending.returned (.tuple #[.int k a, .int l b]) = .returned (.tuple #[.int k a', .int l b']) := by rw [h, g]

theorem near_arg (a b : Int) (w : World) (hb : b < 1) :
    Calls Try.prog 57 #[.int .i64 a, .int .i64 b] w fun e w' => e = .returned (.tuple #[.int .i64 0, .int .i64 1]) ∧ w = w' := by
  go_enter Try.func57, Try.ntmps57
  go_wp2
  go_ret2
  exact ⟨rfl, rfl⟩

theorem near_over (a b : Int) (w : World) (hb : ¬ b < 1) (h : a < -2305843009213693952 ∨ a > 2305843009213693952 ∨ b > 2305843009213693952) :
    Calls Try.prog 57 #[.int .i64 a, .int .i64 b] w fun e w' => e = .returned (.tuple #[.int .i64 0, .int .i64 10]) ∧ w = w' := by
  by_cases h1 : a < -2305843009213693952 <;> by_cases h2 : a > 2305843009213693952 <;> by_cases h3 : b > 2305843009213693952
  all_goals first | (exfalso; omega) | skip
  all_goals clear h
  all_goals
    go_enter Try.func57, Try.ntmps57
    go_wp2
    go_ret2
    exact ⟨rfl, rfl⟩

theorem near_ok (a b : Int) (w : World) (hb : 1 ≤ b) (h1 : -2305843009213693952 ≤ a) (h2 : a ≤ 2305843009213693952) (h3 : b ≤ 2305843009213693952) :
    Calls Try.prog 57 #[.int .i64 a, .int .i64 b] w fun e w' => e = .returned (.tuple #[.int .i64 (near a b), .int .i64 0]) ∧ ∃ k, w' = w.drewN k := by
  have C := fun w => nearest_any a b w (by omega) (by omega) (by omega) (by omega) (by omega)
  go_enter Try.func57, Try.ntmps57
  go_wp2_with (go_at_call 81; refine (C _).mono ?_; rintro e w' ⟨rfl, k, rfl⟩)
  go_ret2
  exact ⟨rfl, _, rfl⟩

theorem rnear_ok (a b : Int) (w : World) (hb : 1 ≤ b) (h1 : -2305843009213693952 ≤ a) (h2 : a ≤ 2305843009213693952) (h3 : b ≤ 2305843009213693952) :
    Calls Try.prog 13 #[.int .i64 a, .int .i64 b] w fun e w' => e = .returned (.int .i64 (near a b)) ∧ w = w' := by
  have C := fun w => floor_ref (2 * a + b) (2 * b) w (by omega) (by omega) (by omega)
  have e : Hid ((2 * a + b) / (2 * b) = near a b) := (by unfold near; rw [if_neg (by omega)] : (2 * a + b) / (2 * b) = near a b)
  go_enter Try.func13, Try.ntmps13
  go_wp2_with (go_at_call 35; refine (C _).mono ?_; rintro e w' ⟨rfl, rfl⟩)
  go_ret
  exact ⟨ret_int e.out, rfl⟩

end Go.Proofs.Ytlacjifnniahhaa
