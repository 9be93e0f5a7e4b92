/- Part 1 of the proof: Mem, Know, Sep, Flat, Num, Fix1, Fix2, Fix3, May, Fix4, Eq4, Aff1, Rnd, Aff2, Box1, LrA. -/
import Derived.Maps.AppendAt
import Derived.Deep.AppendLies
import Derived.Laws.OwnMore
import Derived.OwnWalk
import Derived.WalkKit
import Derived.Laws.Rows
import Derived.Deep.MidRow
import Derived.Laws.ResultCell
import Derived.Laws.Tables
import Derived.Laws.CopyOwn
import Derived.Test.YtaaboochologaaaRows
import Derived.BigQuiet
import Derived.WalkSmall
import Derived.Deep.QuietTactic
import Derived.Deep.RegionHeld3
import Derived.StillTailTactics
import Derived.Lib.Hide

namespace Go.Proofs.Ytaaboochologaaa
open Go Go.RowKit

/-- A slice's address A and the cells that it reads as: they lie below block B. -/
structure Lists (w : World) (B : Nat) (A : Option Addr) (xs : List Value) : Prop where
  nil : A = none → xs = []
  cell : ∀ a, A = some a → ∀ (j : Nat) (u : Value), xs[j]? = some u → w.cell? (a.add j) = some u
  lt : ∀ a, A = some a → xs ≠ [] → a.block < B

theorem addr_add_block (a : Addr) (j : Nat) : (a.add j).block = a.block := by
  unfold Addr.add
  by_cases h : j = 0 <;> simp [h]

theorem addr_plain (b o j : Nat) : (⟨b, o, none⟩ : Addr).add j = ⟨b, o + j, none⟩ := by
  unfold Addr.add
  by_cases h : j = 0 <;> simp [h]

theorem Lists.keep {w w1 : World} {B : Nat} {A : Option Addr} {xs : List Value} (h : Lists w B A xs) (hk : ∀ p : Addr, p.block < B → w1.cell? p = w.cell? p) : Lists w1 B A xs :=
  ⟨h.nil, fun a ha j u hu => (hk _ (by rw [addr_add_block]; exact h.lt a ha (by intro e; subst e; simp at hu))).trans (h.cell a ha j u hu), h.lt⟩
theorem Lists.more {w : World} {B B1 : Nat} {A : Option Addr} {xs : List Value} (h : Lists w B A xs) (hB : B ≤ B1) : Lists w B1 A xs := ⟨h.nil, h.cell, fun a ha hx => Nat.lt_of_lt_of_le (h.lt a ha hx) hB⟩
theorem Lists.below {w w1 : World} {B : Nat} {A : Option Addr} {xs : List Value} (h : Lists w B A xs) (hb : Below B w w1) : Lists w1 B A xs := h.keep fun _ hp => hb.cell hp
theorem Lists.alloc {w : World} {B : Nat} {A : Option Addr} {xs : List Value} (h : Lists w B A xs) (hB : B ≤ w.heap.size) (o : Obj) : Lists (w.alloc o) B A xs := h.below ((Below.refl _ _).alloc hB o)
theorem Lists.empty (w : World) (B : Nat) (A : Option Addr) : Lists w B A [] := ⟨fun _ => rfl, fun _ _ j u hu => by simp at hu, fun _ _ h => absurd rfl h⟩
theorem Lists.plain {w : World} {B : Nat} {A : Option Addr} {xs : List Value} (h : Lists w B A xs) (hx : xs ≠ []) : ∃ b o, A = some ⟨b, o, none⟩ ∧ b < B ∧ ∀ (j : Nat) (u : Value), xs[j]? = some u → w.cell? ⟨b, o + j, none⟩ = some u := by
  cases A with
  | none => exact absurd (h.nil rfl) hx
  | some a =>
    have hlt := h.lt a rfl hx
    have hc := h.cell a rfl
    obtain ⟨x, l, rfl⟩ : ∃ x l, xs = x :: l := by cases xs with | nil => exact absurd rfl hx | cons x l => exact ⟨x, l, rfl⟩
    obtain ⟨b, o, s⟩ := a
    have hs : s = none := by simpa [Addr.add] using World.cell?_spot (hc 0 x rfl)
    subst hs
    exact ⟨b, o, rfl, hlt, fun j u hu => by have := hc j u hu; rwa [addr_plain] at this⟩

/-- What the call owns reads so. -/
theorem own_lists {w : World} {base : Nat} {e : TypeId} {size n : Nat} {v : Value} {xs : List Value} (h : w.ownsRow base e size v n xs) : ∃ A c, v = .slice A n c ∧ Lists w w.heap.size A xs ∧ n ≤ c := by
  have hc := @World.ownsRow.cells w base e size v n xs h
  rcases h.2 with ⟨rfl, rfl⟩ | ⟨g, cap, cur, rfl, _, hh, hn, _⟩
  · exact ⟨none, 0, rfl, ⟨fun _ => List.eq_nil_of_length_eq_zero (by simpa using h.1), fun _ ha => (nomatch ha), fun _ ha => (nomatch ha)⟩, Nat.le_refl _⟩
  · refine ⟨some ⟨g, 0, none⟩, cap, rfl, ⟨fun ha => (nomatch ha), fun a ha j u hu => ?_, fun a ha _ => ?_⟩, hn⟩
    · cases ha; exact hc (g := g) rfl j u hu
    · cases ha
      rcases Nat.lt_or_ge g w.heap.size with hlt | hge
      · exact hlt
      · rw [Array.getElem?_eq_none hge] at hh; cases hh

section
variable {P : Program} (w : World)

theorem run_append_src (base : Nat) (t ty e : TypeId) (i : TypeInfo) (z : Value) (size bytes : Nat) (ht : P.underlying t = some (.slice e)) (hi : P.info? e = some i) (hz : i.zero = some z)
    (hsize : i.size = size) (hby : i.bytes = bytes) (hzs : z.cells.size = size) (hsz : 0 < size) (v : Value) (n : Nat) (xs : List Value) (hown : w.ownsRow base e size v n xs)
    (B : Nat) (A : Option Addr) (m c : Nat) (news : List Value) (hr : Lists w B A news) (hl : news.length = m * size) (h1 : ∀ u ∈ news, u.oneCell' = true)
    (h63 : n + m ≤ maxLen) (hbytes : (n + m) * bytes ≤ 140737488355328) (hbase : base ≤ w.heap.size) :
    ∃ v' w', (Builtin.append_ #[t, t] ty #[v, .slice A m c]).run P w = .ok v' w' ∧ w'.ownsRow base e size v' (n + m) (xs ++ news) ∧ w.grownBy w' v.ownBlock ∧
      (v'.ownBlock = v.ownBlock ∨ v'.ownBlock = some w.heap.size) := by
  cases A with
  | none =>
    have hn : news = [] := hr.nil rfl
    subst hn
    have hm : m = 0 := by
      have : m * size = 0 := by simpa using hl.symm
      rcases Nat.mul_eq_zero.1 this with h | h
      · exact h
      · omega
    subst hm
    refine ⟨v, w, ?_, by simpa using hown, World.grownBy.refl w _, .inl rfl⟩
    rcases hown.2 with ⟨rfl, rfl⟩ | ⟨g, cap, cur, rfl, _, _, hc, _⟩
    · simp [Builtin.append_, run_underlying ht, sizeOf, typeInfo, hi, Builtin.lenOf, Builtin.firstCells]
    · simp [Builtin.append_, run_underlying ht, sizeOf, typeInfo, hi, Builtin.lenOf, Builtin.firstCells, hc, storeCells]
  | some ad =>
    obtain ⟨v', w', hrun, h2, h3, _, h5⟩ := run_append_own_at (P := P) w base t ty e i z size bytes ht hi hz hsize hby hzs hsz v n xs hown ad m c news hl (hr.cell ad rfl) h1 h63 hbytes hbase
    exact ⟨v', w', hrun, h2, h3, h5⟩

theorem wp_append_src {o : Oper} {a : Act} {K : Act → World → Prop} {Q : Exit → Act → World → Prop} (s x : Operand) (t : TypeId)
    (ho : o.op = .call { callee := .builtin .append, args := #[s, x], argTypes := #[t, t] })
    (base : Nat) (e : TypeId) (i : TypeInfo) (z : Value) (size bytes : Nat) (ht : P.underlying t = some (.slice e)) (hi : P.info? e = some i) (hz : i.zero = some z)
    (hsize : i.size = size) (hby : i.bytes = bytes) (hzs : z.cells.size = size) (hsz : 0 < size)
    (v : Value) (n : Nat) (xs : List Value) (hs : a.eval s = v) (hown : w.ownsRow base e size v n xs)
    (B : Nat) (A : Option Addr) (m c : Nat) (news : List Value) (hx : a.eval x = .slice A m c) (hr : Lists w B A news) (hl : news.length = m * size) (h1 : ∀ u ∈ news, u.oneCell' = true)
    (h63 : n + m ≤ maxLen) (hbytes : (n + m) * bytes ≤ 140737488355328) (hbase : base ≤ w.heap.size)
    (h : ∀ v' w', w'.ownsRow base e size v' (n + m) (xs ++ news) → w.grownBy w' v.ownBlock → (v'.ownBlock = v.ownBlock ∨ v'.ownBlock = some w.heap.size) → K (a.put o.dst v') w') : o.wp P a w K Q := by
  obtain ⟨v', w', hrun, h2, h3, h4⟩ := run_append_src (P := P) w base t o.type e i z size bytes ht hi hz hsize hby hzs hsz v n xs hown B A m c news hr hl h1 h63 hbytes hbase
  unfold Oper.wp execOp
  simp only [ho, resolve, invoke, builtin, Sem.run_bind, Sem.run_pure, Result.andThen_ok, List.map_toArray, List.map_cons, List.map_nil, hs, hx, hrun]
  exact h v' w' h2 h3 h4

theorem wpList_append_src {ops : Array Oper} {rest : List Oper} {o : Oper} {a : Act} {Q : Exit → Act → World → Prop} (hgd : o.guard = none) (s x : Operand) (t : TypeId)
    (ho : o.op = .call { callee := .builtin .append, args := #[s, x], argTypes := #[t, t] })
    (base : Nat) (e : TypeId) (i : TypeInfo) (z : Value) (size bytes : Nat) (ht : P.underlying t = some (.slice e)) (hi : P.info? e = some i) (hz : i.zero = some z)
    (hsize : i.size = size) (hby : i.bytes = bytes) (hzs : z.cells.size = size) (hsz : 0 < size)
    (v : Value) (n : Nat) (xs : List Value) (hs : a.eval s = v) (hown : w.ownsRow base e size v n xs)
    (B : Nat) (A : Option Addr) (m c : Nat) (news : List Value) (hx : a.eval x = .slice A m c) (hr : Lists w B A news) (hl : news.length = m * size) (h1 : ∀ u ∈ news, u.oneCell' = true)
    (h63 : n + m ≤ maxLen) (hbytes : (n + m) * bytes ≤ 140737488355328) (hbase : base ≤ w.heap.size)
    (h : ∀ v' w', w'.ownsRow base e size v' (n + m) (xs ++ news) → w.grownBy w' v.ownBlock → (v'.ownBlock = v.ownBlock ∨ v'.ownBlock = some w.heap.size) → wpList P ops Q rest (a.put o.dst v') w') : wpList P ops Q (o :: rest) a w :=
  wpList_plain hgd fun _ hK => wp_append_src w s x t ho base e i z size bytes ht hi hz hsize hby hzs hsz v n xs hs hown B A m c news hx hr hl h1 h63 hbytes hbase fun v' w' h2 h3 h4 => hK _ _ (h v' w' h2 h3 h4)
end

/-- A list of ints as cells. -/
def intCells (zs : List Int) : List Value := zs.map (Value.int .i64)
theorem intCells_one (zs : List Int) : ∀ u ∈ intCells zs, u.oneCell' = true := by
  intro u hu
  obtain ⟨z, _, rfl⟩ := List.mem_map.1 hu
  rfl
theorem intCells_len (zs : List Int) : (intCells zs).length = zs.length := by simp [intCells]
theorem intCells_get (zs : List Int) (j : Nat) (h : j < zs.length) : (intCells zs)[j]? = some (.int .i64 (zs.getD j 0)) := by simp [intCells, h]

end Go.Proofs.Ytaaboochologaaa

namespace Go.Proofs.Ytaaboochologaaa
open Go Go.RowKit

/-- Cells from o on of block b. -/
def CellsAt (w : World) (b : Nat) : Nat → List Value → Prop
  | _, [] => True
  | o, v :: vs => w.cell? ⟨b, o, none⟩ = some v ∧ CellsAt w b (o + 1) vs

/-- Blocks that stand and are not frozen, with what their first cells hold. -/
def KB (w : World) : List (Nat × List Value) → Prop
  | [] => True
  | (b, vs) :: r => b < w.heap.size ∧ (∀ o, w.frozen? ⟨b, o, none⟩ = false) ∧ CellsAt w b 0 vs ∧ KB w r

theorem CellsAt.next {w w1 : World} {b : Nat} (hb : Below w.heap.size w w1) (h : b < w.heap.size) : ∀ {vs : List Value} {o : Nat}, CellsAt w b o vs → CellsAt w1 b o vs
  | [], _, _ => trivial
  | _ :: _, o, H => ⟨(hb.cell (p := ⟨b, o, none⟩) h).trans H.1, CellsAt.next hb h H.2⟩

theorem KB.next {w w1 : World} (hb : Below w.heap.size w w1) : ∀ {l : List (Nat × List Value)}, KB w l → KB w1 l
  | [], _ => trivial
  | _ :: _, H => ⟨Nat.lt_of_lt_of_le H.1 hb.size, fun o => (hb.frozen (p := ⟨_, o, none⟩) H.1).trans (H.2.1 o), H.2.2.1.next hb H.1, H.2.2.2.next hb⟩

theorem cellsAt_new (w : World) (vs : Array Value) (T : TypeId) : ∀ (l : List Value) (o : Nat), vs.toList.drop o = l → CellsAt (w.alloc (.cells vs T)) w.heap.size o l
  | [], _, _ => trivial
  | v :: l, o, h => by
    have hv : vs[o]? = some v := by
      have h0 := congrArg (fun l => l[0]?) h
      simpa using h0
    refine ⟨?_, cellsAt_new w vs T l (o + 1) (by rw [← List.drop_drop, h]; rfl)⟩
    rw [World.cell?_alloc_new]; exact hv

/-- From w0 on nothing of what was there has turned, and this is known of blocks of w. -/
def Known (w0 w : World) (l : List (Nat × List Value)) : Prop := Below w0.heap.size w0 w ∧ KB w l

theorem Known.start (w : World) : Known w w [] := ⟨Below.refl _ _, trivial⟩
theorem Known.next {w0 w w1 : World} {l : List (Nat × List Value)} (H : Known w0 w l) (hb : Below w.heap.size w w1) : Known w0 w1 l := ⟨H.1.trans (hb.mono H.1.size), H.2.next hb⟩
theorem Known.drew {w0 w : World} {l : List (Nat × List Value)} (H : Known w0 w l) : Known w0 w.drew l := H.next ((Below.refl _ _).drew)
theorem Known.alloc {w0 w : World} {l : List (Nat × List Value)} (H : Known w0 w l) (o : Obj) : Known w0 (w.alloc o) l := H.next ((Below.refl _ _).alloc (Nat.le_refl _) o)
theorem Known.new {w0 w : World} {l : List (Nat × List Value)} (H : Known w0 w l) (vs : Array Value) (T : TypeId) : Known w0 (w.alloc (.cells vs T)) ((w.heap.size, vs.toList) :: l) :=
  ⟨(H.alloc _).1, by simp, fun o => World.frozen?_alloc_new w vs T o, cellsAt_new w vs T _ 0 rfl, (H.alloc _).2⟩
theorem Known.drop {w0 w : World} {l : List (Nat × List Value)} {x : Nat × List Value} (H : Known w0 w (x :: l)) : Known w0 w l := ⟨H.1, H.2.2.2.2⟩

/-- A store into a block that stands behind all others that are known: they stay. -/
theorem KB.below {B : Nat} {w w1 : World} (hb : Below B w w1) : ∀ {l : List (Nat × List Value)}, (∀ x ∈ l, x.1 < B) → KB w l → KB w1 l
  | [], _, _ => trivial
  | (b, vs) :: r, hl, H => by
    have h : b < B := hl (b, vs) (List.mem_cons_self)
    refine ⟨Nat.lt_of_lt_of_le H.1 hb.size, fun o => (hb.frozen (p := ⟨b, o, none⟩) h).trans (H.2.1 o), ?_, KB.below hb (fun x hx => hl x (List.mem_cons_of_mem _ hx)) H.2.2.2⟩
    have go : ∀ (vs : List Value) (o : Nat), CellsAt w b o vs → CellsAt w1 b o vs := fun vs => by
      induction vs with
      | nil => intro _ _; trivial
      | cons v vs ih => intro o H; exact ⟨(hb.cell (p := ⟨b, o, none⟩) h).trans H.1, ih _ H.2⟩
    exact go vs 0 H.2.2.1

/-- Four stores into a block. -/
theorem Known.put4 {w0 w8 wr : World} {l : List (Nat × List Value)} {b : Nat} {z0 z1 z2 z3 : Value} (I : Known w0 w8 l) (hb : w8.heap.size ≤ b) (B : Below w8.heap.size w8 wr)
    (hz : b < wr.heap.size) (hf : ∀ o, wr.frozen? ⟨b, o, none⟩ = false) (hc : CellsAt wr b 0 [z0, z1, z2, z3]) (v0 v1 v2 v3 : Value) :
    Known w0 ((((wr.setCell ⟨b, 0, none⟩ v0).setCell ⟨b, 1, none⟩ v1).setCell ⟨b, 2, none⟩ v2).setCell ⟨b, 3, none⟩ v3) ((b, [v0, v1, v2, v3]) :: l) := by
  have K := I.next ((((B.setCell (p := ⟨b, 0, none⟩) hb v0).setCell (p := ⟨b, 1, none⟩) hb v1).setCell (p := ⟨b, 2, none⟩) hb v2).setCell (p := ⟨b, 3, none⟩) hb v3)
  obtain ⟨c0, c1, c2, c3, _⟩ := hc
  simp only [Nat.zero_add, Nat.reduceAdd] at c0 c1 c2 c3
  refine ⟨K.1, ?_, fun o => ?_, ⟨?_, ?_, ?_, ?_, trivial⟩, K.2⟩
  · simpa using hz
  · simp [hf]
  all_goals go_simp

end Go.Proofs.Ytaaboochologaaa

namespace Go.Proofs.Ytaaboochologaaa
open Go Go.RowKit

/-- w1 is w but for the blocks of fp, and new ones. -/
structure Only (w w1 : World) (fp : List Nat) : Prop where
  os : w1.os = w.os
  tape : w1.tape = w.tape
  output : w1.output = w.output
  size : w.heap.size ≤ w1.heap.size
  block : ∀ b, b < w.heap.size → b ∉ fp → w1.heap[b]? = w.heap[b]?

theorem Only.refl (w : World) (fp : List Nat) : Only w w fp := ⟨rfl, rfl, rfl, Nat.le_refl _, fun _ _ _ => rfl⟩
theorem Only.of_below {w w1 : World} (h : Below w.heap.size w w1) (fp : List Nat) : Only w w1 fp := ⟨h.os, h.tape, h.output, h.size, fun b hb _ => h.block b hb⟩
theorem Only.to_below {w w1 : World} {fp : List Nat} (h : Only w w1 fp) {B : Nat} (hB : B ≤ w.heap.size) (hf : ∀ b ∈ fp, B ≤ b) : Below B w w1 :=
  ⟨h.os, h.tape, h.output, h.size, fun b hb => h.block b (by omega) fun hm => by have := hf b hm; omega⟩
theorem Only.nil_below {w w1 : World} (h : Only w w1 []) : Below w.heap.size w w1 := h.to_below (Nat.le_refl _) fun _ hb => (nomatch hb)
theorem Only.trans {w a c : World} {fp fp1 : List Nat} (h : Only w a fp) (k : Only a c fp1) (hf : ∀ b ∈ fp1, b ∈ fp ∨ w.heap.size ≤ b) : Only w c fp :=
  ⟨k.os.trans h.os, k.tape.trans h.tape, k.output.trans h.output, Nat.le_trans h.size k.size, fun b hb hn => (k.block b (Nat.lt_of_lt_of_le hb h.size) fun hm => by
    rcases hf b hm with h1 | h1
    · exact hn h1
    · omega).trans (h.block b hb hn)⟩
theorem Only.more {w a : World} {fp fp1 : List Nat} (h : Only w a fp) (hs : ∀ b ∈ fp, b ∈ fp1 ∨ w.heap.size ≤ b) : Only w a fp1 :=
  ⟨h.os, h.tape, h.output, h.size, fun b hb hn => h.block b hb fun hm => by
    rcases hs b hm with h1 | h1
    · exact hn h1
    · omega⟩
theorem Only.then_below {w a c : World} {fp : List Nat} (h : Only w a fp) (k : Below a.heap.size a c) : Only w c fp := h.trans (Only.of_below k []) fun _ hb => (nomatch hb)
theorem Only.alloc {w a : World} {fp : List Nat} (h : Only w a fp) (o : Obj) : Only w (a.alloc o) fp := h.then_below ((Below.refl _ _).alloc (Nat.le_refl _) o)
theorem Only.drew {w a : World} {fp : List Nat} (h : Only w a fp) : Only w a.drew fp := h.then_below ((Below.refl _ _).drew)
theorem Only.set {w a : World} {fp : List Nat} (h : Only w a fp) {p : Addr} (hp : p.block ∈ fp ∨ w.heap.size ≤ p.block) (v : Value) : Only w (a.setCell p v) fp :=
  ⟨h.os, h.tape, h.output, by simpa using h.size, fun b hb hn => by
    rw [Below.heap_setCell a p v b (fun e => by subst e; rcases hp with h1 | h1; exact hn h1; omega)]
    exact h.block b hb hn⟩
theorem Only.grown {w a c : World} {fp : List Nat} {row : Option Nat} (h : Only w a fp) (hg : a.grownBy c row) (hr : ∀ b, row = some b → b ∈ fp ∨ w.heap.size ≤ b) : Only w c fp :=
  ⟨hg.os.trans h.os, hg.tape.trans h.tape, hg.output.trans h.output, Nat.le_trans h.size hg.size, fun b hb hn => (hg.block b (Nat.lt_of_lt_of_le hb h.size) fun e => by
    rcases hr b e.symm with h1 | h1
    · exact hn h1
    · omega).trans (h.block b hb hn)⟩

/-- Block p is just these cells, none frozen. -/
def Blk (w : World) (p : Nat) (T : TypeId) (cs : Array Value) : Prop := w.heap[p]? = some (.cells cs T (0, 0))

theorem Blk.lt {w : World} {p : Nat} {T : TypeId} {cs : Array Value} (h : Blk w p T cs) : p < w.heap.size := by
  rcases Nat.lt_or_ge p w.heap.size with h1 | h1
  · exact h1
  · unfold Blk at h; rw [Array.getElem?_eq_none h1] at h; cases h
theorem Blk.cell {w : World} {p : Nat} {T : TypeId} {cs : Array Value} (h : Blk w p T cs) (j : Nat) : w.cell? ⟨p, j, none⟩ = cs[j]? := cell_of_row w p j cs T (0, 0) h
theorem Blk.frozen {w : World} {p : Nat} {T : TypeId} {cs : Array Value} (h : Blk w p T cs) (j : Nat) : w.frozen? ⟨p, j, none⟩ = false := by
  unfold Blk at h; simp [World.frozen?, h]
theorem Blk.new (w : World) (T : TypeId) (cs : Array Value) : Blk (w.alloc (.cells cs T)) w.heap.size T cs := heap_alloc_new w _
theorem Blk.only {w w1 : World} {p : Nat} {T : TypeId} {cs : Array Value} {fp : List Nat} (h : Blk w p T cs) (k : Only w w1 fp) (hn : p ∉ fp) : Blk w1 p T cs := (k.block p h.lt hn).trans h
theorem Blk.below {w w1 : World} {p : Nat} {T : TypeId} {cs : Array Value} (h : Blk w p T cs) (k : Below w.heap.size w w1) : Blk w1 p T cs := (k.block p h.lt).trans h
theorem Blk.set {w : World} {p : Nat} {T : TypeId} {cs : Array Value} (h : Blk w p T cs) (j : Nat) (v : Value) : Blk (w.setCell ⟨p, j, none⟩ v) p T (cs.setIfInBounds j v) := by
  unfold Blk at *; simp [World.setCell, Array.getElem?_modify, h]
theorem Blk.other {w : World} {p : Nat} {T : TypeId} {cs : Array Value} (h : Blk w p T cs) {q : Addr} (hq : p ≠ q.block) (v : Value) : Blk (w.setCell q v) p T cs := (Below.heap_setCell w q v p hq).trans h
theorem Blk.kb {w : World} {p : Nat} {T : TypeId} {cs : Array Value} (h : Blk w p T cs) : KB w [(p, cs.toList)] := by
  refine ⟨h.lt, fun o => h.frozen o, ?_, trivial⟩
  have go : ∀ (l : List Value) (o : Nat), cs.toList.drop o = l → CellsAt w p o l := by
    intro l
    induction l with
    | nil => intro _ _; trivial
    | cons v l ih =>
      intro o ho
      refine ⟨?_, ih (o + 1) (by rw [← List.drop_drop, ho]; rfl)⟩
      rw [h.cell]
      have h0 := congrArg (fun l => l[0]?) ho
      simpa using h0
  exact go _ 0 rfl

/-- The block of a slice that the call owns. -/
def blk (v : Value) : List Nat := v.ownBlock.toList

theorem own_only {w w1 : World} {base : Nat} {e : TypeId} {size n : Nat} {v : Value} {xs : List Value} {fp : List Nat} (h : w.ownsRow base e size v n xs) (k : Only w w1 fp) (hn : ∀ b ∈ blk v, b ∉ fp) : w1.ownsRow base e size v n xs := by
  refine ⟨h.1, ?_⟩
  have hlt := h.lt
  rcases h.2 with h1 | ⟨g, cap, cur, rfl, h2, h3, h4⟩
  · exact .inl h1
  · exact .inr ⟨g, cap, cur, rfl, h2, (k.block g (hlt g rfl).2 (hn g (by simp [blk, Value.ownBlock]))).trans h3, h4⟩

theorem lists_only {w w1 : World} {B : Nat} {A : Option Addr} {xs : List Value} {fp : List Nat} (h : Lists w B A xs) (hB : B ≤ w.heap.size) (k : Only w w1 fp) (hn : ∀ a, A = some a → xs ≠ [] → a.block ∉ fp) : Lists w1 B A xs :=
  ⟨h.nil, fun a ha j u hu => by
    have hx : xs ≠ [] := by intro e; subst e; simp at hu
    have hb : w1.heap[(a.add j).block]? = w.heap[(a.add j).block]? := by
      rw [addr_add_block]
      exact k.block _ (Nat.lt_of_lt_of_le (h.lt a ha hx) hB) (hn a ha hx)
    exact (World.cell?_of_block hb).trans (h.cell a ha j u hu), h.lt⟩

theorem blk_lt {w : World} {base : Nat} {e : TypeId} {size n : Nat} {v : Value} {xs : List Value} (h : w.ownsRow base e size v n xs) : ∀ b ∈ blk v, b < w.heap.size := by
  intro b hb
  simp only [blk, Option.mem_toList] at hb
  exact (h.lt b hb).2

end Go.Proofs.Ytaaboochologaaa

namespace Go.Proofs.Ytaaboochologaaa
open Go Go.RowKit
set_option linter.unusedVariables false
set_option linter.unusedSimpArgs false

theorem flat_at {α : Type} {f : α → List Value} {sz : Nat} (hf : ∀ x, (f x).length = sz) : ∀ (L : List α) (k : Nat) (x : α), L[k]? = some x → ∀ j v, (f x)[j]? = some v → (L.flatMap f)[k * sz + j]? = some v
  | [], k, x, h, j, v, hv => by simp at h
  | y :: L, 0, x, h, j, v, hv => by
    obtain rfl : y = x := by simpa using h
    have hj := (List.getElem?_eq_some_iff.1 hv).1
    rw [List.flatMap_cons, Nat.zero_mul, Nat.zero_add, List.getElem?_append_left hj]
    exact hv
  | y :: L, k + 1, x, h, j, v, hv => by
    have := flat_at hf L k x (by simpa using h) j v hv
    rw [List.flatMap_cons, List.getElem?_append_right (by rw [hf, Nat.add_mul]; omega), hf, show (k + 1) * sz + j - sz = k * sz + j by rw [Nat.add_mul]; omega]
    exact this
theorem flat_len {α : Type} {f : α → List Value} {sz : Nat} (hf : ∀ x, (f x).length = sz) : ∀ L : List α, (L.flatMap f).length = L.length * sz
  | [] => by simp
  | x :: L => by rw [List.flatMap_cons, List.length_append, hf, flat_len hf L, List.length_cons, Nat.add_mul, Nat.one_mul, Nat.add_comm]
theorem lists_flat {α : Type} {f : α → List Value} {sz : Nat} (hf : ∀ x, (f x).length = sz) (hs : 0 < sz) {w : World} {B : Nat} {A : Option Addr} {L : List α} (h : Lists w B A (L.flatMap f)) {k : Nat} {x : α} (hk : L[k]? = some x) :
    ∃ b o, A = some ⟨b, o, none⟩ ∧ b < B ∧ w.rangeAt b (o + k * sz) (f x) := by
  have h0 : (f x)[0]? = some ((f x)[0]'(by rw [hf]; exact hs)) := List.getElem?_eq_getElem _
  have h1 := flat_at hf L k x hk 0 _ h0
  obtain ⟨b, o, rfl, hb, hc⟩ := h.plain (by intro e; rw [e] at h1; simp at h1)
  exact ⟨b, o, rfl, hb, fun j v hv => by rw [Nat.add_assoc]; exact hc _ _ (flat_at hf L k x hk j v hv)⟩
theorem flat_snoc {α : Type} (f : α → List Value) (L : List α) (x : α) : (L ++ [x]).flatMap f = L.flatMap f ++ f x := by simp
theorem range_below {w w1 : World} {B b o : Nat} {cs : List Value} (h : w.rangeAt b o cs) (hb : b < B) (k : Below B w w1) : w1.rangeAt b o cs := fun j v hv => (k.cell (p := ⟨b, o + j, none⟩) hb).trans (h j v hv)
theorem range_blk {w : World} {p : Nat} {T : TypeId} {cs : List Value} (h : Blk w p T cs.toArray) : w.rangeAt p 0 cs := fun j v hv => by rw [Nat.zero_add, h.cell j, List.getElem?_toArray]; exact hv
theorem blk_row {w : World} {p : Nat} {T : TypeId} {cs : Array Value} (h : Blk w p T cs) (cs1 : Array Value) : Blk (w.setRow p cs1) p T cs1 := setRow_heap w p cs cs1 T (0, 0) h
theorem exec_store_row {P : Program} {ρ : Operand → Value} {o : Oper} {w : World} (ty : TypeId) (x y : Operand) (ho : o.op = .store ty x y)
    (g : Nat) (cells : Array Value) (hx : ρ x = .pointer (some ⟨g, 0, none⟩)) (hy : ρ y = .agg cells)
    (t : TypeId) (old : Array Value) (hg : Blk w g t old) (hi : (P.info? ty).map (·.size) = some cells.size)
    (hold : old.size = cells.size) (h1 : cells.all (·.oneCell') = true) : (execOp ρ o).run P w = .ok .skip (w.setRow g cells) := by
  unfold execOp
  simp only [ho, hx, hy, Instr.storeAt, Instr.sureAddr, Sem.run_bind, Sem.run_pure, Result.andThen_ok, run_storeVar_row w g t ty old cells hg hi hold h1]
theorem exec_load {P : Program} {ρ : Operand → Value} {o : Oper} {w : World} {ty : TypeId} {x : Operand} {p v : Value} (h : (Instr.loadAt ty p).run P w = .ok v w) (ho : o.op = .load ty x) (hx : ρ x = p) : (execOp ρ o).run P w = .ok (.value v) w := by
  unfold execOp
  simp only [ho, hx, Sem.run_bind, h, Result.andThen_ok, Sem.run_pure]
theorem load_blk {P : Program} {w : World} {p : Nat} {T ty : TypeId} {cs : Array Value} {d : TypeDesc} (h : Blk w p T cs) (hu : P.underlying ty = some d) (hd : d.isRow = true) (hi : (P.info? ty).map (·.size) = some cs.size) : (Instr.loadAt ty (.pointer (some ⟨p, 0, none⟩))).run P w = .ok (.agg cs) w := by
  have h1 : w.rangeAt p 0 cs.toList := fun j v hv => by rw [Nat.zero_add, h.cell j]; simpa using hv
  have := run_loadAt_mid (P := P) w p 0 ty cs.toList d h1 hu hd (by simpa using hi)
  simpa using this
theorem only_row {w a : World} {fp : List Nat} (h : Only w a fp) {g : Nat} (hg : g ∈ fp ∨ w.heap.size ≤ g) (cs : Array Value) : Only w (a.setRow g cs) fp :=
  ⟨h.os, h.tape, h.output, by rw [size_setRow]; exact h.size, fun b hb hf => (setRow_other a g b cs (fun e => by subst e; rcases hg with hg | hg; exact hf hg; omega)).trans (h.block b hb hf)⟩
theorem lists_takeF {w : World} {B : Nat} {A : Option Addr} {xs : List Value} (h : Lists w B A xs) (k : Nat) : Lists w B A (xs.take k) :=
  ⟨fun ha => by rw [h.nil ha]; simp, fun a ha j u hu => h.cell a ha j u (by
    rw [List.getElem?_take] at hu
    split at hu
    · exact hu
    · cases hu), fun a ha hx => h.lt a ha (fun e => hx (by rw [e]; simp))⟩
theorem lists_row (w : World) (cs : List Value) (T : TypeId) : Lists (w.alloc (.cells cs.toArray T)) (w.heap.size + 1) (some ⟨w.heap.size, 0, none⟩) cs :=
  ⟨fun ha => (nomatch ha), fun a ha j u hu => by
    cases ha
    rw [addr_plain, World.cell?_alloc_new, Nat.zero_add, ← hu]
    rw [List.getElem?_toArray], fun a ha _ => by cases ha; simp⟩
theorem lists_row_at (w : World) (cs : List Value) (T : TypeId) (k : Nat) (hk : k = w.heap.size) : Lists (w.alloc (.cells cs.toArray T)) (k + 1) (some ⟨k, 0, none⟩) cs := hk ▸ lists_row w cs T
theorem results_row_tmp {P : Program} {fn : Func} {p u : Tmp} {ty : TypeId} (h : fn.results = #[.cell p ty, .tmp u]) (tmps : Array Value) (w : World) (g : Nat) (t : TypeId) (cs : Array Value) (fr : Nat × Nat) (d : TypeDesc) (v : Value)
    (hp : tmps.getD p undef = .pointer (some ⟨g, 0, none⟩)) (hv : tmps.getD u undef = v) (hg : w.heap[g]? = some (.cells cs t fr))
    (hu : P.underlying ty = some d) (hd : (match d with | .struct _ | .array _ _ => true | _ => false) = true) (hi : (P.info? ty).map (·.size) = some cs.size) :
    (results fn tmps).run P w = .ok (.tuple #[.agg cs, v]) w := by
  rw [results_cell_tmp h, hp, hv]
  simp [asAddr, Result.andThen, run_loadVar_row w g t ty cs fr d hg hu hd hi]
theorem results_row_tmp2 {P : Program} {fn : Func} {p u u2 : Tmp} {ty : TypeId} (h : fn.results = #[.cell p ty, .tmp u, .tmp u2]) (tmps : Array Value) (w : World) (g : Nat) (t : TypeId) (cs : Array Value) (fr : Nat × Nat) (d : TypeDesc) (v v2 : Value)
    (hp : tmps.getD p undef = .pointer (some ⟨g, 0, none⟩)) (hv : tmps.getD u undef = v) (hv2 : tmps.getD u2 undef = v2) (hg : w.heap[g]? = some (.cells cs t fr))
    (hu : P.underlying ty = some d) (hd : (match d with | .struct _ | .array _ _ => true | _ => false) = true) (hi : (P.info? ty).map (·.size) = some cs.size) :
    (results fn tmps).run P w = .ok (.tuple #[.agg cs, v, v2]) w := by
  have hp' : tmps[p]?.getD undef = .pointer (some ⟨g, 0, none⟩) := by simpa using hp
  have hv' : tmps[u]?.getD undef = v := by simpa using hv
  have hv2' : tmps[u2]?.getD undef = v2 := by simpa using hv2
  simp [results, h, hp', hv', hv2', Sem.run_bind, asAddr, Result.andThen, run_loadVar_row w g t ty cs fr d hg hu hd hi]
end Go.Proofs.Ytaaboochologaaa

namespace Go.Proofs.Ytaaboochologaaa

/-- may a number be? -/
def mayB (x : Int) : Bool := decide (-2147483648 ≤ x) && decide (x ≤ 2147483648)

/-- the nearest whole number to a quotient -/
def near (a b : Int) : Int := if b < 0 then (2 * (-a) + (-b)) / (2 * (-b)) else (2 * a + b) / (2 * b)

theorem div_unique {a b q : Int} (h1 : b * q ≤ a) (h2 : a < b * q + b) : a / b = q := by
  have hb : 0 < b := by omega
  have h3 : a = b * q + (a - b * q) := by omega
  rw [h3, Int.add_comm, Int.add_mul_ediv_left _ _ (by omega : b ≠ 0), Int.ediv_eq_zero_of_lt (by omega) (by omega)]
  omega

theorem tdiv_floor {a b : Int} (hb : 0 < b) (ha : a < 0) (hm : ¬ a % b = 0) : a.tdiv b - 1 = a / b ∧ ¬ a.tmod b = 0 ∧ a.tdiv b ≤ 0 ∧ a < a.tdiv b  := by
  have hd : ¬ b ∣ a := fun h => hm (Int.emod_eq_zero_of_dvd h)
  have e := @Int.tdiv_eq_ediv a b
  rw [if_neg (by intro h; rcases h with h | h; omega; exact hd h), Int.sign_eq_one_of_pos hb] at e
  have h4 : a / b < 0 := Int.ediv_neg_of_neg_of_pos ha hb
  have h5 : a ≤ a / b := Int.le_ediv_of_mul_le hb (by have := Int.mul_le_mul_of_nonpos_left (a := a) (b := b) (c := 1) (by omega) (by omega); omega)
  exact ⟨by omega, fun h => hd (Int.dvd_of_tmod_eq_zero h), by omega, by omega⟩
theorem tdiv_whole {a b : Int} (hm : a % b = 0) : a.tdiv b = a / b ∧ a.tmod b = 0 := by
  have hd : b ∣ a := Int.dvd_of_emod_eq_zero hm
  have e := @Int.tdiv_eq_ediv a b
  rw [if_pos (.inr hd)] at e
  exact ⟨by omega, Int.tmod_eq_zero_of_dvd hd⟩

theorem near_pos {a b q : Int} (hb : 0 < b) (h1 : 2 * (b * q) ≤ 2 * a + b) (h2 : 2 * a + b < 2 * (b * q) + 2 * b) : near a b = q := by
  unfold near; rw [if_neg (by omega)]
  exact div_unique (by rw [Int.mul_assoc]; exact h1) (by rw [Int.mul_assoc]; exact h2)

theorem near_neg {a b q : Int} (hb : b < 0) (h1 : 2 * (b * q) ≥ 2 * a + b) (h2 : 2 * a + b > 2 * (b * q) + 2 * b) : near a b = q := by
  unfold near; rw [if_pos hb]
  exact div_unique (by rw [Int.mul_assoc, Int.neg_mul]; omega) (by rw [Int.mul_assoc, Int.neg_mul]; omega)

theorem near_same {a b n d : Int} (hn : max a (-a) = n) (hd : max b (-b) = d) (h0 : 0 < d) (hs : (!decide (a < 0) == decide (b < 0)) = false) :
    near a b = n / d + if d ≤ 2 * (n % d) then 1 else 0 := by
  have e := Int.mul_ediv_add_emod n d
  have r0 : 0 ≤ n % d := Int.emod_nonneg n (by omega)
  have r1 : n % d < d := Int.emod_lt_of_pos n h0
  by_cases hb : b < 0
  · have ha : a < 0 := by simp [hb] at hs; exact hs
    obtain rfl : b = -d := by omega
    obtain rfl : a = -n := by omega
    clear hn hd hs
    apply near_neg hb <;> (split <;> simp only [Int.neg_mul, Int.mul_add, Int.mul_one, Int.add_zero] <;> omega)
  · have ha : ¬ a < 0 := by simp [hb] at hs; omega
    obtain rfl : b = d := by omega
    obtain rfl : a = n := by omega
    clear hn hd hs
    apply near_pos h0 <;> (split <;> simp only [Int.mul_add, Int.mul_one, Int.add_zero] <;> omega)

theorem near_diff {a b n d : Int} (hn : max a (-a) = n) (hd : max b (-b) = d) (h0 : 0 < d) (hs : (!decide (a < 0) == decide (b < 0)) = true) :
    near a b = -(n / d + if d < 2 * (n % d) then 1 else 0) := by
  have e := Int.mul_ediv_add_emod n d
  have r0 : 0 ≤ n % d := Int.emod_nonneg n (by omega)
  have r1 : n % d < d := Int.emod_lt_of_pos n h0
  by_cases hb : b < 0
  · have ha : ¬ a < 0 := by simp [hb] at hs; omega
    obtain rfl : b = -d := by omega
    obtain rfl : a = n := by omega
    clear hn hd hs
    apply near_neg hb <;> (split <;> simp only [Int.neg_mul, Int.mul_neg, Int.neg_neg, Int.mul_add, Int.mul_one, Int.add_zero] <;> omega)
  · have ha : a < 0 := by simp [hb] at hs; omega
    obtain rfl : b = d := by omega
    obtain rfl : a = -n := by omega
    clear hn hd hs
    apply near_pos h0 <;> (split <;> simp only [Int.mul_neg, Int.mul_add, Int.mul_one, Int.add_zero] <;> omega)

theorem mul_bound {a b : Int} (A B : Nat) (h1 : -(A : Int) ≤ a) (h2 : a ≤ A) (h3 : -(B : Int) ≤ b) (h4 : b ≤ B) : -((A * B : Nat) : Int) ≤ a * b ∧ a * b ≤ ((A * B : Nat) : Int) := by
  have h : (a * b).natAbs ≤ A * B := by rw [Int.natAbs_mul]; exact Nat.mul_le_mul (by omega) (by omega)
  omega

theorem near_spec (a b : Int) (hb : 1 ≤ b) : -b ≤ 2 * (a - near a b * b) ∧ 2 * (a - near a b * b) < b := by
  unfold near
  rw [if_neg (by omega)]
  have h := Int.mul_ediv_add_emod (2 * a + b) (2 * b)
  have h1 := Int.emod_nonneg (2 * a + b) (show 2 * b ≠ 0 by omega)
  have h2 := Int.emod_lt_of_pos (2 * a + b) (show 0 < 2 * b by omega)
  rw [Int.mul_assoc, Int.mul_comm b] at h
  omega

end Go.Proofs.Ytaaboochologaaa

namespace Go.Proofs.Ytaaboochologaaa
open Go.RowKit

theorem ret_int {k : IntKind} {a b : Int} (h : a = b) : Ending.returned (.int k a) = .returned (.int k b) := by rw [h]

theorem may_ref (x : Int) (w : World) : Calls Try.prog 45 #[.int .i64 x] w fun e w' => e = .returned (.bool (mayB x)) ∧ w = w' := by
  unfold mayB
  by_cases h1 : -2147483648 ≤ x <;> by_cases h2 : x ≤ 2147483648
  all_goals
    go_enter Try.func45, Try.ntmps45
    go_wp2
    go_ret
    simp [h1, h2]

theorem may_any (x : Int) (w : World) : Calls Try.prog 53 #[.int .i64 x] w fun e w' => e = .returned (.bool (mayB x)) ∧ w = w' := by
  unfold mayB
  by_cases h1 : -2147483648 ≤ x <;> by_cases h2 : x ≤ 2147483648
  all_goals
    go_enter Try.func53, Try.ntmps53
    go_wp2
    go_ret
    simp [h1, h2]

end Go.Proofs.Ytaaboochologaaa

namespace Go.Proofs.Ytaaboochologaaa
open Go.RowKit

theorem ret_iiv {k l : IntKind} {a b a' b' : Int} {v : Value} (h : a = a') (g : b = b') : Ending.returned (.tuple #[.int k a, .int l b, v]) = .returned (.tuple #[.int k a', .int l b', v]) := by rw [h, g]

end Go.Proofs.Ytaaboochologaaa

namespace Go.Proofs.Ytaaboochologaaa
open Go.RowKit

theorem ret_ii {k l : IntKind} {a b a' b' : Int} (h : a = a') (g : b = b') : Ending.returned (.tuple #[.int k a, .int l b]) = .returned (.tuple #[.int k a', .int l b']) := by rw [h, g]

end Go.Proofs.Ytaaboochologaaa

namespace Go.Proofs.Ytaaboochologaaa
open Go.RowKit

theorem all_take_snoc (f : Int → Bool) (zs : List Int) (k : Nat) (h : k < zs.length) : (zs.take (k + 1)).all f = ((zs.take k).all f && f (zs.getD k 0)) := by
  rw [List.take_succ_eq_append_getElem h, List.all_append]; simp [List.getD, h]

theorem all_false_of_take (f : Int → Bool) (zs : List Int) (k : Nat) (h : (zs.take k).all f = false) : zs.all f = false := by
  have e := List.take_append_drop k zs
  rw [← e, List.all_append, h, Bool.false_and]

end Go.Proofs.Ytaaboochologaaa

namespace Go.Proofs.Ytaaboochologaaa
open Go.RowKit

theorem cells2 (w0 : World) (b : Nat) (hb : w0.heap.size = b) (x y : Int) (t : TypeId) (j : Nat) (hj : j < [x, y].length) :
    (w0.alloc (.cells #[.int .i64 x, .int .i64 y] t)).cell? ⟨b, 0 + j, none⟩ = some (.int .i64 ([x, y].getD j 0)) := by
  rw [World.cell?_alloc_at _ _ _ _ hb.symm]
  match j, hj with
  | 0, _ => rfl
  | 1, _ => rfl

theorem cells3 (w0 : World) (b : Nat) (hb : w0.heap.size = b) (x y z : Int) (t : TypeId) (j : Nat) (hj : j < [x, y, z].length) :
    (w0.alloc (.cells #[.int .i64 x, .int .i64 y, .int .i64 z] t)).cell? ⟨b, 0 + j, none⟩ = some (.int .i64 ([x, y, z].getD j 0)) := by
  rw [World.cell?_alloc_at _ _ _ _ hb.symm]
  match j, hj with
  | 0, _ => rfl
  | 1, _ => rfl
  | 2, _ => rfl

theorem all2 (x y : Int) : [x, y].all mayB = (mayB x && mayB y) := by simp
theorem all3 (x y z : Int) : [x, y, z].all mayB = (mayB x && mayB y && mayB z) := by simp [Bool.and_assoc]

/-- a result, if it may be -/
def outR (x : Int) : Int := if mayB x then x else 0
def outE (x : Int) : Int := if mayB x then 0 else 10

theorem mayB_lo {x : Int} (h : mayB x = true) : -2147483648 ≤ x := by unfold mayB at h; simp at h; exact h.1
theorem mayB_hi {x : Int} (h : mayB x = true) : x ≤ 2147483648 := by unfold mayB at h; simp at h; exact h.2

theorem below_next {w w1 w2 : World} (h : Below w.heap.size w w1) (g : Below w1.heap.size w1 w2) : Below w.heap.size w w2 := h.trans (g.mono h.size)
theorem below_a1 (w : World) (o : Obj) : Below w.heap.size w (w.alloc o) := (Below.refl _ _).alloc (Nat.le_refl _) o
theorem below_a2 (w : World) (o p : Obj) : Below w.heap.size w ((w.alloc o).alloc p) := (below_a1 w o).alloc (by simp) p
theorem below_a3 (w : World) (o p q : Obj) : Below w.heap.size w (((w.alloc o).alloc p).alloc q) := (below_a2 w o p).alloc (by simp; omega) q
theorem below_a4 (w : World) (o p q r : Obj) : Below w.heap.size w ((((w.alloc o).alloc p).alloc q).alloc r) := (below_a3 w o p q).alloc (by simp; omega) r
theorem below_a5 (w : World) (o p q r s : Obj) : Below w.heap.size w (((((w.alloc o).alloc p).alloc q).alloc r).alloc s) := (below_a4 w o p q r).alloc (by simp; omega) s

end Go.Proofs.Ytaaboochologaaa

namespace Go.Proofs.Ytaaboochologaaa
open Go.RowKit

/-- are two quadruples the same? -/
def eq4 (a b c d a' b' c' d' : Int) : Bool := a == a' && b == b' && c == c' && d == d'

theorem eqB_run (a b c d a' b' c' d' : Int) (w : World) :
    (binOp .eql 34 (.agg #[.int .i64 a, .int .i64 b, .int .i64 c, .int .i64 d]) (.agg #[.int .i64 a', .int .i64 b', .int .i64 c', .int .i64 d'])).run Try.prog w = .ok (.bool (eq4 a b c d a' b' c' d')) w := by
  have hS : Try.prog.underlying 34 = some (.struct (Try.prog.fieldsOf 34)) := by kernel_rfl
  have hp : Try.prog.stoodInHeld 34 = false := by kernel_rfl
  have u3 := Try.underlying3
  have a3 := Try.isAgg3
  have z3 := Try.sizeOf3
  rw [run_eql_struct, show (10000 : Nat) = 9999 + 1 from rfl, run_equalIn_agg w 9999 34 _ _ hS hp]
  simp only [Program.fieldsOf, Try.underlying34]
  unfold eq4
  go_simp
  by_cases h1 : a = a' <;> by_cases h2 : b = b' <;> by_cases h3 : c = c' <;> by_cases h4 : d = d' <;> simp [h1, h2, h3, h4]

theorem eqB_guard (a b c d a' b' c' d' : Int) (x y : Operand) (w : World) :
    (eqGuard .eql 34 x y (.agg #[.int .i64 a, .int .i64 b, .int .i64 c, .int .i64 d]) (.agg #[.int .i64 a', .int .i64 b', .int .i64 c', .int .i64 d'])).run Try.prog w = .ok () w :=
  run_eqGuard_agg w .eql 34 x y _ _ (by kernel_rfl)

end Go.Proofs.Ytaaboochologaaa

namespace Go.Proofs.Ytaaboochologaaa
open Go.RowKit

/-- a number of a matrix, cut off -/
def clampP (x : Int) : Int := min (max x (-32768)) 32767
def fitB (x : Int) : Bool := decide (-32768 ≤ x) && decide (x < 32768)

theorem bcell {W w1 : World} (hb : Below W.heap.size W w1) : (∀ b o, b < W.heap.size → w1.cell? ⟨b, o, none⟩ = W.cell? ⟨b, o, none⟩) ∧ (∀ b o, b < W.heap.size → w1.frozen? ⟨b, o, none⟩ = W.frozen? ⟨b, o, none⟩) :=
  ⟨fun _ _ h => hb.cell h, fun _ _ h => hb.frozen h⟩

/-- may a matrix be? -/
def fitM (a b c d : Int) : Bool := fitB a && fitB b && fitB c && fitB d

theorem clamp_fit (a : Int) : (a == clampP a) = fitB a := by
  unfold fitB clampP
  rw [Bool.eq_iff_iff]; simp; omega

theorem eq4_clamp (a b c d : Int) : eq4 a b c d (clampP a) (clampP b) (clampP c) (clampP d) = fitM a b c d := by
  unfold eq4 fitM; rw [clamp_fit, clamp_fit, clamp_fit, clamp_fit]

end Go.Proofs.Ytaaboochologaaa

namespace Go.Proofs.Ytaaboochologaaa
open Go.RowKit

theorem i64_mask (n : Int) (k : Nat) (hk : k ≤ 62) : bits .and .i64 n ((2 ^ k - 1 : Nat) : Int) = n % ((2 ^ k : Nat) : Int) := by
  have hlt : 2 ^ k ≤ 2 ^ 62 := Nat.pow_le_pow_right (by omega) hk
  have hpos : 0 < 2 ^ k := Nat.two_pow_pos k
  have h1 : (BitVec.ofInt 64 ((2 ^ k - 1 : Nat) : Int)).toNat = 2 ^ k - 1 := by
    rw [BitVec.ofInt_natCast, BitVec.toNat_ofNat]; exact Nat.mod_eq_of_lt (by omega)
  have key : (BitVec.ofInt 64 n &&& BitVec.ofInt 64 ((2 ^ k - 1 : Nat) : Int)).toNat = (n % ((2 ^ 64 : Nat) : Int)).toNat % 2 ^ k := by
    rw [BitVec.toNat_and, BitVec.toNat_ofInt, h1, Nat.and_two_pow_sub_one_eq_mod]
  show IntKind.i64.wrap ((BitVec.ofInt 64 n &&& BitVec.ofInt 64 ((2 ^ k - 1 : Nat) : Int)).toNat : Nat) = _
  have hd : ((2 ^ k : Nat) : Int) ∣ ((2 ^ 64 : Nat) : Int) := Int.natCast_dvd_natCast.mpr (Nat.pow_dvd_pow 2 (by omega))
  have hm : n % ((2 ^ 64 : Nat) : Int) % ((2 ^ k : Nat) : Int) = n % ((2 ^ k : Nat) : Int) := Int.emod_emod_of_dvd n hd
  have h0 : 0 ≤ n % ((2 ^ 64 : Nat) : Int) := Int.emod_nonneg n (by omega)
  have hb := Int.emod_lt_of_pos n (show (0 : Int) < ((2 ^ k : Nat) : Int) by omega)
  have hb0 := Int.emod_nonneg n (show ((2 ^ k : Nat) : Int) ≠ 0 by omega)
  rw [key, Int.natCast_emod, Int.toNat_of_nonneg h0, hm]
  exact IntWalk.i64_in _ (by omega)

theorem i64_and63 (n : Int) : bits .and .i64 n 63 = n % 64 := i64_mask n 6 (by decide)
theorem i64_and1 (n : Int) : bits .and .i64 n 1 = n % 2 := i64_mask n 1 (by decide)

end Go.Proofs.Ytaaboochologaaa

namespace Go.Proofs.Ytaaboochologaaa
open Go.RowKit

theorem fitB_lo {x : Int} (h : fitB x = true) : -32768 ≤ x := by unfold fitB at h; simp at h; exact h.1
theorem fitB_hi {x : Int} (h : fitB x = true) : x < 32768 := by unfold fitB at h; simp at h; exact h.2
theorem prod_lim {x a : Int} (hx : mayB x = true) (ha : fitB a = true) : -70368744177664 ≤ x * a ∧ x * a ≤ 70368744177664 :=
  mul_bound 2147483648 32768 (mayB_lo hx) (mayB_hi hx) (fitB_lo ha) (by have := fitB_hi ha; omega)

/-- what Apply answers: the error, and the two numbers behind the matrix -/
def apX (a c x y : Int) : Int := near (x * a + y * c) 16384
def apE (a b c d x y : Int) : Int := if fitM a b c d then (if mayB x && mayB y then (if mayB (apX a c x y) && mayB (apX b d x y) then 0 else 10) else 10) else 1
def apR (e v : Int) : Int := if e = 0 then v else 0

theorem ret_iii {a b c a' b' c' : Int} (h : a = a') (g : b = b') (k : c = c') : Ending.returned (.tuple #[.int .i64 a, .int .i64 b, .int .i64 c]) = .returned (.tuple #[.int .i64 a', .int .i64 b', .int .i64 c']) := by rw [h, g, k]

end Go.Proofs.Ytaaboochologaaa

namespace Go.Proofs.Ytaaboochologaaa
open Go.RowKit

/-- a box's four numbers -/
structure Q where
  x0 : Int
  y0 : Int
  x1 : Int
  y1 : Int
deriving DecidableEq

def mayQ (A : Q) : Bool := mayB A.x0 && mayB A.y0 && mayB A.x1 && mayB A.y1
def emptyQ (A : Q) : Bool := decide (A.x1 ≤ A.x0) || decide (A.y1 ≤ A.y0)
def zeroQ : Q := ⟨0, 0, 0, 0⟩
def plainQ (A : Q) : Q := if emptyQ A then zeroQ else A
def dropV (x : Int) : Int := if mayB x then x else 0

theorem drop_eq (x : Int) : (x == dropV x) = mayB x := by
  unfold dropV
  by_cases h : mayB x = true
  · simp [h]
  · have h' : mayB x = false := by simpa using h
    rw [h']
    have : x ≠ 0 := by rintro rfl; exact h (by decide)
    simp [this]

theorem eq4_drop (A : Q) : eq4 A.x0 A.y0 A.x1 A.y1 (dropV A.x0) (dropV A.y0) (dropV A.x1) (dropV A.y1) = mayQ A := by
  unfold eq4 mayQ; rw [drop_eq, drop_eq, drop_eq, drop_eq]

theorem drop_any (x : Int) (w : World) : Calls Try.prog 52 #[.int .i64 x] w fun e w' => e = .returned (.int .i64 (dropV x)) ∧ w = w' := by
  have M := fun w => may_any x w
  unfold dropV
  by_cases h : mayB x = true
  · rw [if_pos h]
    rw [h] at M
    clear h
    go_enter Try.func52, Try.ntmps52
    go_wp2_with (go_at_call 53; refine (M _).mono ?_; rintro e w' ⟨rfl, rfl⟩)
    go_ret
    exact ⟨rfl, rfl⟩
  · rw [if_neg h]
    rw [show mayB x = false by simpa using h] at M
    clear h
    go_enter Try.func52, Try.ntmps52
    go_wp2_with (go_at_call 53; refine (M _).mono ?_; rintro e w' ⟨rfl, rfl⟩)
    go_ret
    exact ⟨rfl, rfl⟩

set_option maxHeartbeats 1000000 in
theorem eachSide_drop (A : Q) (w : World) :
    Calls Try.prog 51 #[.agg #[.int .i64 A.x0, .int .i64 A.y0, .int .i64 A.x1, .int .i64 A.y1], .func (.func 52) #[] #[], .func (.func 52) #[] #[]] w fun e w' =>
      e = .returned (.agg #[.int .i64 (dropV A.x0), .int .i64 (dropV A.y0), .int .i64 (dropV A.x1), .int .i64 (dropV A.y1)]) ∧ Below w.heap.size w w' := by
  go_enter Try.func51, Try.ntmps51
  go_wp2
  go_region_held3 (fun w' => w'.cell? ⟨w.heap.size, 0, none⟩ = some (.int .i64 A.x0) ∧ w'.cell? ⟨w.heap.size, 1, none⟩ = some (.int .i64 A.y0) ∧ w'.cell? ⟨w.heap.size, 2, none⟩ = some (.int .i64 A.x1) ∧ w'.cell? ⟨w.heap.size, 3, none⟩ = some (.int .i64 A.y1))
    (go_keep) (first | (go_at_call 52; ((with_reducible refine (drop_any _ _).mono ?_); rintro e w' ⟨rfl, rfl⟩)))
  go_wp2
  refine bodyPost_ret (v := .agg #[.int .i64 (dropV A.x0), .int .i64 (dropV A.y0), .int .i64 (dropV A.x1), .int .i64 (dropV A.y1)]) (by simp [results, Try.results51, go_sem]) rfl ⟨rfl, ?_⟩
  exact below_drewN (below_a2 _ _ _) 1

set_option maxHeartbeats 1000000 in
theorem mayBox_any (A : Q) (w : World) :
    Calls Try.prog 49 #[.agg #[.int .i64 A.x0, .int .i64 A.y0, .int .i64 A.x1, .int .i64 A.y1]] w fun e w' => e = .returned (.bool (mayQ A)) ∧ Below w.heap.size w w' := by
  have q1 := fun w => eqB_run A.x0 A.y0 A.x1 A.y1 (dropV A.x0) (dropV A.y0) (dropV A.x1) (dropV A.y1) w
  rw [eq4_drop] at q1
  have q2 := fun x y w => eqB_guard A.x0 A.y0 A.x1 A.y1 (dropV A.x0) (dropV A.y0) (dropV A.x1) (dropV A.y1) x y w
  go_enter Try.func49, Try.ntmps49
  go_wp2
  go_region_held3 (fun w' => w'.cell? ⟨w.heap.size, 0, none⟩ = some (.int .i64 A.x0) ∧ w'.cell? ⟨w.heap.size, 1, none⟩ = some (.int .i64 A.y0) ∧ w'.cell? ⟨w.heap.size, 2, none⟩ = some (.int .i64 A.x1) ∧ w'.cell? ⟨w.heap.size, 3, none⟩ = some (.int .i64 A.y1))
    (go_keep) (first | (go_at_call 51; refine (eachSide_drop A _).mono ?_; rintro e w1 ⟨rfl, hb⟩; obtain ⟨hc, hf⟩ := bcell hb))
  all_goals go_wp2
  go_ret
  exact ⟨rfl, (below_a1 _ _).drew.trans (hb.mono (below_a1 _ _).size)⟩

theorem empty_any (A : Q) (w : World) :
    Calls Try.prog 47 #[.agg #[.int .i64 A.x0, .int .i64 A.y0, .int .i64 A.x1, .int .i64 A.y1]] w fun e w' => e = .returned (.bool (emptyQ A)) ∧ Below w.heap.size w w' := by
  unfold emptyQ
  by_cases h1 : A.x1 ≤ A.x0 <;> by_cases h2 : A.y1 ≤ A.y0
  all_goals
    go_enter Try.func47, Try.ntmps47
    go_wp2
    go_ret
    refine ⟨?_, below_a1 _ _⟩
    simp [h1, h2]

theorem rempty_any (A : Q) (w : World) :
    Calls Try.prog 43 #[.agg #[.int .i64 A.x0, .int .i64 A.y0, .int .i64 A.x1, .int .i64 A.y1]] w fun e w' => e = .returned (.bool (emptyQ A)) ∧ Below w.heap.size w w' := by
  unfold emptyQ
  by_cases h1 : A.x1 ≤ A.x0 <;> by_cases h2 : A.y1 ≤ A.y0
  all_goals
    go_enter Try.func43, Try.ntmps43
    go_wp2
    go_ret
    refine ⟨?_, below_a1 _ _⟩
    simp [h1, h2]

end Go.Proofs.Ytaaboochologaaa

namespace Go.Proofs.Ytaaboochologaaa
open Go Go.RowKit
set_option linter.unusedVariables false
set_option linter.unusedSimpArgs false

def updF (f : Nat → Nat) (i v : Nat) : Nat → Nat := fun k => if k = i then v else f k
/-- From x over l to z: each one's neighbours. -/
def PathL (B A : Nat → Nat) : Nat → List Nat → Nat → Prop
  | x, [], z => B x = z ∧ A z = x
  | x, y :: l, z => B x = y ∧ A y = x ∧ PathL B A y l z
theorem PathL.keep {B A B' A' : Nat → Nat} : ∀ {x : Nat} {l : List Nat} {z : Nat}, PathL B A x l z → (∀ i, i = x ∨ i ∈ l → B' i = B i) → (∀ i, i = z ∨ i ∈ l → A' i = A i) → PathL B' A' x l z
  | x, [], z, h, hB, hA => ⟨by rw [hB x (.inl rfl)]; exact h.1, by rw [hA z (.inl rfl)]; exact h.2⟩
  | x, y :: l, z, h, hB, hA => ⟨by rw [hB x (.inl rfl)]; exact h.1, by rw [hA y (.inr (by simp))]; exact h.2.1, h.2.2.keep (fun i hi => hB i (.inr (by rcases hi with rfl | hi <;> simp [*]))) (fun i hi => hA i (by rcases hi with rfl | hi; exact .inl rfl; exact .inr (by simp [hi])))⟩
theorem PathL.first {B A : Nat → Nat} : ∀ {x : Nat} {l : List Nat} {z : Nat}, PathL B A x l z → B x = z ∧ l = [] ∨ B x ∈ l
  | x, [], z, h => .inl ⟨h.1, rfl⟩
  | x, y :: l, z, h => .inr (by rw [h.1]; simp)
theorem PathL.last {B A : Nat → Nat} : ∀ {x : Nat} {l : List Nat} {z : Nat}, PathL B A x l z → A z = x ∧ l = [] ∨ A z ∈ l
  | x, [], z, h => .inl ⟨h.2, rfl⟩
  | x, y :: l, z, h => by
    rcases h.2.2.last with ⟨h1, _⟩ | h1
    · exact .inr (by rw [h1]; simp)
    · exact .inr (by simp [h1])
theorem PathL.split {B A : Nat → Nat} {y : Nat} {m : List Nat} {z : Nat} : ∀ {x : Nat} {l : List Nat}, PathL B A x (l ++ y :: m) z → PathL B A x l y ∧ PathL B A y m z
  | x, [], h => ⟨⟨h.1, h.2.1⟩, h.2.2⟩
  | x, c :: l, h => ⟨⟨h.1, h.2.1, (PathL.split (l := l) h.2.2).1⟩, (PathL.split (l := l) h.2.2).2⟩
theorem PathL.cut {B A : Nat → Nat} {i : Nat} {m : List Nat} {z : Nat} (hm : PathL B A i m z) : ∀ {x : Nat} {l : List Nat}, PathL B A x l i → x ∉ l → x ∉ m → (∀ c ∈ l, c ∉ m) → l.Nodup → m.Nodup → z ∉ l → z ∉ m → PathL (updF B (A i) (B i)) (updF A (B i) (A i)) x (l ++ m) z
  | x, [], hl, h1, h2, h3, h4, h5, h6, h7 => by
    have ha : A i = x := hl.2
    cases m with
    | nil =>
      have hb : B i = z := hm.1
      exact ⟨by simp [updF, ha, hb], by simp [updF, ha, hb]⟩
    | cons y m =>
      have hb : B i = y := hm.1
      have hy := List.nodup_cons.1 h5
      refine ⟨by simp [updF, ha, hb], by simp [updF, ha, hb], hm.2.2.keep (fun k hk => ?_) (fun k hk => ?_)⟩
      · have : k ≠ x := fun e => h2 (by rw [← e]; exact List.mem_cons.2 hk)
        simp [updF, ha, this]
      · have : k ≠ y := fun e => by
          subst e
          rcases hk with rfl | hk
          · exact h7 (by simp)
          · exact hy.1 hk
        simp [updF, hb, this]
  | x, c :: l, hl, h1, h2, h3, h4, h5, h6, h7 => by
    have hc := List.nodup_cons.1 h4
    have r := PathL.cut hm hl.2.2 hc.1 (h3 c (by simp)) (fun d hd => h3 d (by simp [hd])) hc.2 h5 (fun h => h6 (by simp [h])) h7
    refine ⟨?_, ?_, r⟩
    · have : x ≠ A i := fun e => by
        rcases hl.2.2.last with ⟨g, _⟩ | g
        · rw [g] at e; exact h1 (by simp [e])
        · rw [← e] at g; exact h1 (by simp [g])
      simp only [updF, if_neg this]; exact hl.1
    · have : c ≠ B i := fun e => by
        rcases hm.first with ⟨g, _⟩ | g
        · rw [g] at e; exact h6 (by simp [e])
        · rw [← e] at g; exact h3 c (by simp) g
      simp only [updF, if_neg this]; exact hl.2.1
/-- i is put in behind x. -/
theorem PathL.lead {B A : Nat → Nat} {x i z : Nat} {l : List Nat} (h : PathL B A x l z) (h1 : x ∉ l) (hi : i ∉ l) (hx : i ≠ x) (hz : i ≠ z) (hzl : z ∉ l) (hn : l.Nodup) : PathL (updF (updF B x i) i (B x)) (updF (updF A i x) (B x) i) x (i :: l) z := by
  cases l with
  | nil =>
    obtain ⟨h2, h3⟩ := h
    have hxi : x ≠ i := Ne.symm hx
    exact ⟨by simp [updF, hxi], by simp [updF, h2, hz], by simp [updF, h2], by simp [updF, h2]⟩
  | cons c m =>
    obtain ⟨h2, h3, h4⟩ := h
    have hc := List.nodup_cons.1 hn
    have hxi : x ≠ i := Ne.symm hx
    have hic : i ≠ c := fun e => hi (by simp [e])
    refine ⟨by simp [updF, hxi], by simp [updF, h2, hic], by simp [updF, h2], by simp [updF, h2], h4.keep (fun k hk => ?_) (fun k hk => ?_)⟩
    · have a : k ≠ i := fun e => hi (by rw [← e]; exact List.mem_cons.2 hk)
      have b : k ≠ x := fun e => h1 (by rw [← e]; exact List.mem_cons.2 hk)
      simp [updF, a, b]
    · have a : k ≠ i := fun e => by
        subst e
        rcases hk with rfl | hk
        · exact hz rfl
        · exact hi (by simp [hk])
      have b : k ≠ c := fun e => by
        subst e
        rcases hk with rfl | hk
        · exact hzl (by simp)
        · exact hc.1 hk
      simp [updF, h2, a, b]

abbrev Ky := Int × Int × Int × Int
/-- A place: its key, its mask's box, rows (value, bytes), its neighbours. -/
structure Pl where
  k : Ky
  bx : Q
  rv : Value
  bs : List Value
  a : Nat
  b : Nat
def pl0 : Pl := ⟨(0, 0, 0, 0), ⟨0, 0, 0, 0⟩, .slice none 0 0, [], 0, 0⟩
def kyL (k : Ky) : List Value := [.int .i64 k.1, .int .i64 k.2.1, .int .i64 k.2.2.1, .int .i64 k.2.2.2]
def kyV (k : Ky) : Value := .agg (kyL k).toArray
def mkL (A : Q) (rv : Value) : List Value := [.int .i64 A.x0, .int .i64 A.y0, .int .i64 A.x1, .int .i64 A.y1, rv]
def plL (x : Pl) : List Value := [.int .i64 x.k.1, .int .i64 x.k.2.1, .int .i64 x.k.2.2.1, .int .i64 x.k.2.2.2, .int .i64 x.bx.x0, .int .i64 x.bx.y0, .int .i64 x.bx.x1, .int .i64 x.bx.y1, x.rv, .int .i64 (x.a : Nat), .int .i64 (x.b : Nat)]
theorem plL_len (x : Pl) : (plL x).length = 11 := rfl
def plsL (PL : List Pl) : List Value := PL.flatMap plL
theorem plsL_len (PL : List Pl) : (plsL PL).length = PL.length * 11 := flat_len plL_len PL
def atP (PL : List Pl) (i : Nat) : Pl := PL.getD i pl0
theorem atP_get {PL : List Pl} {i : Nat} (h : i < PL.length) : PL[i]? = some (atP PL i) := by
  unfold atP
  rw [List.getD_eq_getElem?_getD, List.getElem?_eq_getElem h, Option.getD_some]
theorem atP_set {PL : List Pl} {i : Nat} (h : i < PL.length) (x : Pl) (j : Nat) : atP (PL.set i x) j = if j = i then x else atP PL j := by
  unfold atP
  rw [List.getD_eq_getElem?_getD, List.getD_eq_getElem?_getD, List.getElem?_set]
  by_cases e : i = j
  · subst e; simp [h]
  · simp [e, Ne.symm e]
def bOf (PL : List Pl) (i : Nat) : Nat := (atP PL i).b
def aOf (PL : List Pl) (i : Nat) : Nat := (atP PL i).a
def setB (PL : List Pl) (i v : Nat) : List Pl := PL.set i { atP PL i with b := v }
def setA (PL : List Pl) (i v : Nat) : List Pl := PL.set i { atP PL i with a := v }
/-- y stands behind x. -/
def lnk (PL : List Pl) (x y : Nat) : List Pl := setA (setB PL x y) y x
theorem setB_len (PL : List Pl) (i v : Nat) : (setB PL i v).length = PL.length := by simp [setB]
theorem setA_len (PL : List Pl) (i v : Nat) : (setA PL i v).length = PL.length := by simp [setA]
theorem lnk_len (PL : List Pl) (x y : Nat) : (lnk PL x y).length = PL.length := by simp [lnk, setA, setB]
theorem bOf_setB {PL : List Pl} {i : Nat} (h : i < PL.length) (v : Nat) : bOf (setB PL i v) = updF (bOf PL) i v := by
  funext j; unfold bOf setB updF; rw [atP_set h]; split <;> rfl
theorem aOf_setB {PL : List Pl} {i : Nat} (h : i < PL.length) (v : Nat) : aOf (setB PL i v) = aOf PL := by
  funext j; unfold aOf setB; rw [atP_set h]; split
  · next e => rw [e]
  · rfl
theorem aOf_setA {PL : List Pl} {i : Nat} (h : i < PL.length) (v : Nat) : aOf (setA PL i v) = updF (aOf PL) i v := by
  funext j; unfold aOf setA updF; rw [atP_set h]; split <;> rfl
theorem bOf_setA {PL : List Pl} {i : Nat} (h : i < PL.length) (v : Nat) : bOf (setA PL i v) = bOf PL := by
  funext j; unfold bOf setA; rw [atP_set h]; split
  · next e => rw [e]
  · rfl
theorem bOf_lnk {PL : List Pl} {x y : Nat} (hx : x < PL.length) (hy : y < PL.length) : bOf (lnk PL x y) = updF (bOf PL) x y := by
  unfold lnk; rw [bOf_setA (by rw [setB_len]; exact hy), bOf_setB hx]
theorem aOf_lnk {PL : List Pl} {x y : Nat} (hx : x < PL.length) (hy : y < PL.length) : aOf (lnk PL x y) = updF (aOf PL) y x := by
  unfold lnk; rw [aOf_setA (by rw [setB_len]; exact hy), aOf_setB hx]
/-- What a place holds, its neighbours aside. -/
def hold (x : Pl) : Ky × Q × Value × List Value := (x.k, x.bx, x.rv, x.bs)
theorem hold_lnk {PL : List Pl} {x y : Nat} (hx : x < PL.length) (hy : y < PL.length) (j : Nat) : hold (atP (lnk PL x y) j) = hold (atP PL j) := by
  unfold lnk setA setB
  rw [atP_set (by simpa using hy)]
  split
  · next e => subst e; rw [atP_set hx]; split
              · next e => subst e; rfl
              · rfl
  · rw [atP_set hx]; split
    · next e => subst e; rfl
    · rfl
/-- All hang together, in this order. -/
def linkN (xs : List Nat) (PL : List Pl) : Nat → List Pl
  | 0 => PL
  | n + 1 => lnk (linkN xs PL n) (xs.getD n 0) (xs.getD (n + 1) 0)
theorem linkN_len (xs : List Nat) (PL : List Pl) : ∀ n, (linkN xs PL n).length = PL.length
  | 0 => rfl
  | n + 1 => by rw [linkN, lnk_len, linkN_len xs PL n]
/-- One cell of a row of places. -/
theorem set_flat {α : Type} {f : α → List Value} {sz : Nat} (hf : ∀ x, (f x).length = sz) (v : Value) (j : Nat) (hj : j < sz) : ∀ (L : List α) (i : Nat) (x y : α), L[i]? = some x → f y = (f x).set j v → (L.flatMap f).set (i * sz + j) v = (L.set i y).flatMap f
  | [], i, x, y, h, _ => by simp at h
  | c :: L, 0, x, y, h, hy => by
    obtain rfl : c = x := by simpa using h
    rw [List.set_cons_zero, List.flatMap_cons, List.flatMap_cons, Nat.zero_mul, Nat.zero_add, List.set_append_left _ _ (by rw [hf]; exact hj), hy]
  | c :: L, i + 1, x, y, h, hy => by
    rw [List.set_cons_succ, List.flatMap_cons, List.flatMap_cons, List.set_append_right _ _ (by rw [hf, Nat.add_mul]; omega), hf, show (i + 1) * sz + j - sz = i * sz + j by rw [Nat.add_mul]; omega, set_flat hf v j hj L i x y (by simpa using h) hy]
theorem plsL_setB {PL : List Pl} {i : Nat} (h : i < PL.length) (v : Nat) : (plsL PL).set (i * 11 + 10) (.int .i64 (v : Nat)) = plsL (setB PL i v) := set_flat plL_len _ 10 (by omega) PL i _ _ (atP_get h) rfl
theorem plsL_setA {PL : List Pl} {i : Nat} (h : i < PL.length) (v : Nat) : (plsL PL).set (i * 11 + 9) (.int .i64 (v : Nat)) = plsL (setA PL i v) := set_flat plL_len _ 9 (by omega) PL i _ _ (atP_get h) rfl
theorem plsL_at {PL : List Pl} {i : Nat} (h : i < PL.length) (j : Nat) (v : Value) (hv : (plL (atP PL i))[j]? = some v) : (plsL PL)[i * 11 + j]? = some v := flat_at plL_len PL i _ (atP_get h) j v hv
end Go.Proofs.Ytaaboochologaaa
