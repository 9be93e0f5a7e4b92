/- Part 3 of the proof: LrC, Wide, ChainW, LrD, Copy, Wr1, Wr2, Wr3, Wr4, Bytes2, Wr5, Box2, Box3, Box4, Box5. -/
import Derived.Deep.DeepAppendWide
import Derived.Laws.CopyOwn
import Derived.Lib.Hide
import Derived.Outline
import Derived.LoopTactic
import Derived.Deep.RegionLaw
import Derived.Deep.OwnRows
import Derived.Deep.RegionHeld3
import Derived.Deep.RegionWith
import Derived.Deep.DeepCutAuto
import Derived.Test.YtaaboochologaaaM1LruDoes

namespace Go.Proofs.Ytaaboochologaaa
open Go Go.RowKit
set_option linter.unusedVariables false
set_option linter.unusedSimpArgs false

theorem only_cellL {w V : World} {fp : List Nat} (o : Only w V fp) {p : Addr} (hp : p.block < w.heap.size) (hn : p.block ∉ fp) : V.cell? p = w.cell? p := World.cell?_of_block (o.block p.block hp hn)
structure Cs where
  bud : Int
  held : Int
  mb : Nat
  pv : Value
  fv : Value
  PL : List Pl
  FR : List Nat
  n : Nat
  f : Ky → Option Nat
def frL (FR : List Nat) : List Value := FR.map fun (i : Nat) => .int .i64 (i : Int)
theorem frL_len (FR : List Nat) : (frL FR).length = FR.length := List.length_map _
theorem frL_get {FR : List Nat} {i : Nat} (h : i < FR.length) : (frL FR)[i]? = some (.int .i64 (FR.getD i 0 : Nat)) := by
  simp [frL, List.getElem?_eq_getElem h]
/-- The cache at block p. -/
structure CaV (W : World) (B p : Nat) (C : Cs) : Prop where
  blk : Blk W p 67 #[.int .i64 C.bud, .int .i64 C.held, .map (some C.mb), C.pv, C.fv]
  pown : W.ownsRow B 74 11 C.pv C.PL.length (plsL C.PL)
  fown : W.ownsRow B 3 1 C.fv C.FR.length (frL C.FR)
  map : MapV W C.mb C.n C.f
  lo : B ≤ p ∧ B ≤ C.mb
/-- The blocks that a cache is. -/
def fpC (p : Nat) (C : Cs) : List Nat := p :: C.mb :: (blk C.pv ++ blk C.fv)
theorem CaV.lt {W : World} {B p : Nat} {C : Cs} (h : CaV W B p C) : p < W.heap.size := h.blk.lt
theorem CaV.only {W V : World} {B p : Nat} {C : Cs} {fp : List Nat} (h : CaV W B p C) (o : Only W V fp) (hn : ∀ b ∈ fpC p C, b ∉ fp) : CaV V B p C :=
  ⟨h.blk.only o (hn _ (by simp [fpC])), own_only h.pown o (fun b hb => hn b (by simp [fpC, hb])), own_only h.fown o (fun b hb => hn b (by simp [fpC, hb])), h.map.only o (hn _ (by simp [fpC])), h.lo⟩
theorem CaV.below {W V : World} {B p : Nat} {C : Cs} (h : CaV W B p C) (o : Below W.heap.size W V) : CaV V B p C := h.only (Only.of_below o []) (fun _ _ h => (nomatch h))
/-- What a call has changed: the cache, no more. -/
def ModC (w w' : World) (p : Nat) (C C' : Cs) : Prop := Only w w' (fpC p C) ∧ ∀ b ∈ fpC p C', b ∈ fpC p C ∨ w.heap.size ≤ b
theorem ModC.refl (w : World) (p : Nat) (C : Cs) : ModC w w p C C := ⟨Only.refl _ _, fun _ h => .inl h⟩
theorem ModC.trans {w w1 w2 : World} {p : Nat} {a b c : Cs} (h : ModC w w1 p a b) (k : ModC w1 w2 p b c) : ModC w w2 p a c :=
  ⟨h.1.trans k.1 h.2, fun x hx => by
    rcases k.2 x hx with h1 | h1
    · exact h.2 x h1
    · exact .inr (Nat.le_trans h.1.size h1)⟩
theorem ModC.below {w w1 : World} {p : Nat} {C : Cs} (h : Below w.heap.size w w1) : ModC w w1 p C C := ⟨Only.of_below h _, fun _ hb => .inl hb⟩
theorem CaV.pne {W : World} {B p : Nat} {C : Cs} (h : CaV W B p C) : p ∉ Go.Proofs.Ytaaboochologaaa.blk C.pv := own_ne h.pown h.blk (by decide)
theorem CaV.fne {W : World} {B p : Nat} {C : Cs} (h : CaV W B p C) : p ∉ Go.Proofs.Ytaaboochologaaa.blk C.fv := own_ne h.fown h.blk (by decide)
theorem CaV.pf {W : World} {B p : Nat} {C : Cs} (h : CaV W B p C) : ∀ b ∈ Go.Proofs.Ytaaboochologaaa.blk C.pv, b ∉ Go.Proofs.Ytaaboochologaaa.blk C.fv := own_own h.pown h.fown (by decide)
/-- The places are others. -/
theorem CaV.pls {W V : World} {B p : Nat} {C : Cs} (h : CaV W B p C) (o : Only W V (Go.Proofs.Ytaaboochologaaa.blk C.pv)) {PL' : List Pl} (hl : PL'.length = C.PL.length) (ho : V.ownsRow B 74 11 C.pv C.PL.length (plsL PL')) : CaV V B p { C with PL := PL' } ∧ ModC W V p C { C with PL := PL' } :=
  ⟨⟨h.blk.only o h.pne, by dsimp only; rw [hl]; exact ho, own_only h.fown o (fun b hb hm => h.pf b hm hb), h.map.only o (h.map.ne_row h.pown), h.lo⟩, o.more (fun b hb => .inl (by simp [fpC, hb])), fun b hb => .inl hb⟩
/-- The places' row. -/
theorem CaV.row {W : World} {B p : Nat} {C : Cs} (h : CaV W B p C) (h1 : 1 ≤ C.PL.length) : ∃ g c, C.pv = .slice (some ⟨g, 0, none⟩) C.PL.length c ∧ C.PL.length ≤ c ∧ g < W.heap.size := by
  rcases h.pown.2 with ⟨_, h2⟩ | ⟨g, cap, cur, h2, _, h3, h4, _⟩
  · omega
  · exact ⟨g, cap, h2, h4, (Array.getElem?_eq_some_iff.1 h3).1⟩
theorem row_cell {W : World} {B g c n : Nat} {PL : List Pl} (h : W.ownsRow B 74 11 (.slice (some ⟨g, 0, none⟩) n c) n (plsL PL)) (hl : PL.length = n) {i j : Nat} (hi : i < n) (hj : j < 11) {v : Value} (hv : (plL (atP PL i))[j]? = some v) : W.cell? ⟨g, i * 11 + j, none⟩ = some v := by
  rw [h.cellAt _ (by omega)]
  exact plsL_at (by omega) j v hv
theorem in_frL {b : Nat} {w : World} {xs : List Nat} (h : Blk w b 3 (frL xs).toArray) {i : Nat} (hi : i < xs.length) : w.cell? ⟨b, i, none⟩ = some (.int .i64 (xs.getD i 0 : Nat)) := by
  rw [h.cell, List.getElem?_toArray]; exact frL_get hi
set_option maxRecDepth 100000 in
theorem chain_any (B p : Nat) (C : Cs) (xs : List Nat) (b m : Nat) (w : World) (h : CaV w B p C) (hx : ∀ x ∈ xs, x < C.PL.length) (hm : xs.length = m + 1) (hm1 : 1 ≤ m) (hm3 : m ≤ 2) (hP : C.PL.length ≤ 1048576) (hb : Blk w b 3 (frL xs).toArray) :
    Calls Try.prog 41 #[.pointer (some ⟨p, 0, none⟩), .slice (some ⟨b, 0, none⟩) (m + 1) (m + 1)] w fun e w' => e = .returned (.tuple #[]) ∧ CaV w' B p { C with PL := linkN xs C.PL m } ∧ ModC w w' p C { C with PL := linkN xs C.PL m } := by
  have hx0 : 1 ≤ C.PL.length := by
    cases xs with
    | nil => simp at hm
    | cons x l => have := hx x (by simp); omega
  obtain ⟨g, c, hpv, hc, hg⟩ := h.row hx0
  obtain ⟨n, hn⟩ : ∃ n, n = C.PL.length := ⟨_, rfl⟩
  have hown := h.pown
  rw [hpv, ← hn] at hown
  have c3 := h.blk.cell 3
  simp only [List.getElem?_toArray, List.getElem?_cons_succ, List.getElem?_cons_zero] at c3
  rw [hpv, ← hn] at c3
  have pg : p ≠ g := fun e => by
    have := h.pne
    rw [hpv] at this
    simp [blk, Value.ownBlock] at this
    exact this e
  have bg : b ≠ g := fun e => by
    have := own_ne h.pown hb (by decide)
    rw [hpv] at this
    simp [blk, Value.ownBlock] at this
    exact this e
  have hpl := h.lt
  have hbl := hb.lt
  rw [← hn] at hx hP hc
  have HX : Hid (∀ i, i ≤ m → xs.getD i 0 < n) := fun i hi => by
    have hi' : i < xs.length := by omega
    rw [List.getD_eq_getElem?_getD, List.getElem?_eq_getElem hi', Option.getD_some]
    exact hx _ (List.getElem_mem hi')
  have HB : Hid (∀ i, i ≤ m → w.cell? ⟨b, i, none⟩ = some (.int .i64 (xs.getD i 0 : Nat))) := fun i hi => in_frL hb (by omega)
  have H := Lib.hid h
  have HO := Lib.hid hown
  have HN := Lib.hid hn
  have HPV := Lib.hid hpv
  clear hx hb h hown hn hpv hm hx0
  have i6 : ¬ m = 0 := by omega
  go_enter Try.func41, Try.ntmps41
  go_wp2
  go_loopw [4, 5, 9] (fun _ _ i wr => ∃ k : Nat, k ≤ m ∧ i = .int .i64 k ∧ Only w wr [g] ∧ wr.ownsRow B 74 11 (.slice (some ⟨g, 0, none⟩) n c) n (plsL (linkN xs C.PL k))) (fun _ _ i _ => m - (intOf i).toNat)
  case atStart => exact ⟨0, Nat.zero_le _, rfl, Only.refl _ _, HO.out⟩
  case round =>
    obtain ⟨k, hk, rfl, ho, hr⟩ := hrel
    have HON := Lib.hid ho
    have HR := Lib.hid hr
    have e3 : wr.cell? ⟨p, 3, none⟩ = _ := (only_cellL ho hpl (by simp; exact pg)).trans c3
    have hgl : g < wr.heap.size := Nat.lt_of_lt_of_le hg ho.size
    have hpl2 : p < wr.heap.size := Nat.lt_of_lt_of_le hpl ho.size
    by_cases hlt : k < m
    · have k1 : k < m + 1 := by omega
      have k2 : (k : Int) < (m : Int) + 1 := by omega
      have b0 := HX.out k (by omega)
      have b1 := HX.out (k + 1) (by omega)
      have e0 : wr.cell? ⟨b, k, none⟩ = some (.int .i64 (xs.getD k 0 : Nat)) := (only_cellL ho hbl (by simp; exact bg)).trans (HB.out k (by omega))
      have e1 : wr.cell? ⟨b, 1 + k, none⟩ = some (.int .i64 (xs.getD (k + 1) 0 : Nat)) := (only_cellL ho hbl (by simp; exact bg)).trans (by rw [Nat.add_comm 1 k]; exact HB.out (k + 1) (by omega))
      obtain ⟨x, hx⟩ : ∃ x, x = xs.getD k 0 := ⟨_, rfl⟩
      obtain ⟨y, hy⟩ : ∃ y, y = xs.getD (k + 1) 0 := ⟨_, rfl⟩
      rw [← hx] at b0 e0
      rw [← hy] at b1 e1
      have hln : (linkN xs C.PL k).length = n := by rw [linkN_len, HN.out]
      obtain ⟨wd, hwd⟩ : ∃ wd, wd = wr.drew := ⟨_, rfl⟩
      have od : Only wr wd [g] := hwd ▸ (Only.refl _ _).drew
      have E3 : wd.cell? ⟨p, 3, none⟩ = _ := (only_cellL od hpl2 (by simp; exact pg)).trans e3
      have hbl2 : b < wr.heap.size := Nat.lt_of_lt_of_le hbl ho.size
      have E0 : wd.cell? ⟨b, k, none⟩ = _ := (only_cellL od hbl2 (by simp; exact bg)).trans e0
      have hrd : wd.ownsRow B 74 11 (.slice (some ⟨g, 0, none⟩) n c) n (plsL (linkN xs C.PL k)) := hwd ▸ hr.drew
      obtain ⟨old, hold0⟩ : ∃ v, wd.cell? ⟨g, x * 11 + 10, none⟩ = some v := ⟨_, row_cell hrd hln b0 (j := 10) (by omega) rfl⟩
      have f0 := hrd.frozenAt (x * 11 + 10)
      have st := (hrd.stored (x * 11 + 10) (.int .i64 (y : Nat))).1
      rw [plsL_setB (by omega)] at st
      obtain ⟨wv, hwv⟩ : ∃ wv, wv = (wd.setCell ⟨g, x * 11 + 10, none⟩ (.int .i64 (y : Nat))).drew := ⟨_, rfl⟩
      have o2 : Only wd wv [g] := hwv ▸ ((Only.refl _ _).set (.inl (by simp)) _).drew
      have st := hwv ▸ st.drew
      have hpld : p < wd.heap.size := Nat.lt_of_lt_of_le hpl2 od.size
      have hbld : b < wd.heap.size := Nat.lt_of_lt_of_le hbl2 od.size
      have hgld : g < wd.heap.size := Nat.lt_of_lt_of_le hgl od.size
      have G3 : wv.cell? ⟨p, 3, none⟩ = _ := (only_cellL o2 hpld (by simp; exact pg)).trans E3
      have G0 : wv.cell? ⟨b, k, none⟩ = _ := (only_cellL o2 hbld (by simp; exact bg)).trans E0
      obtain ⟨old1, hold1⟩ : ∃ v, wv.cell? ⟨g, y * 11 + 9, none⟩ = some v := ⟨_, row_cell st (by rw [setB_len]; exact hln) b1 (j := 9) (by omega) rfl⟩
      have f1 := st.frozenAt (y * 11 + 9)
      have st2 := (st.stored (y * 11 + 9) (.int .i64 (x : Nat))).1
      rw [plsL_setA (by rw [setB_len]; omega)] at st2
      have o3 : Only wv (wv.setCell ⟨g, y * 11 + 9, none⟩ (.int .i64 (x : Nat))) [g] := (Only.refl _ _).set (.inl (by simp)) _
      have HS := Lib.hid st2
      have HO3 := Lib.hid ((((HON.out.trans od (fun b hb => .inl hb)).trans o2 (fun b hb => .inl hb)).trans o3 (fun b hb => .inl hb)))
      have HXY := Lib.hid (And.intro hx hy)
      have HWV := Lib.hid hwv
      have HWD := Lib.hid hwd
      have hpl3 : p < wv.heap.size := Nat.lt_of_lt_of_le hpld o2.size
      have hgl3 : g < wv.heap.size := Nat.lt_of_lt_of_le hgld o2.size
      clear hr hrd st st2 od o2 o3 ho hx hy hwv hwd hln
      go_wp2
      refine wp_region_chain_last (fun V => V = wd) [(0, false), (1, false), (2, false), (3, false), (4, false), (5, false), (6, false), (7, false), (8, false), (9, false), (10, false)] _ _ (by rfl) (by rfl) (by kernel_rfl) (by kernel_rfl) HWD.out.symm ?_
      repeat (first
        | (refine ChainL.skip (o := ?_) ?_ ?_ ?_; rotate_left; (focus (first | (simp only [List.getElem?_toArray, List.getElem?_cons_succ, List.getElem?_cons_zero]; with_reducible rfl) | (simp only [List.getElem?_toArray, List.getElem?_cons_zero]; with_reducible rfl))); (focus rfl); simp only [Act.put, List.setIfInBounds_toArray, List.set_cons_zero, List.set_cons_succ])
        | (refine ChainL.val (o := ?_) (v := ?_) ?_ ?_ ?_ ?_ ?_; rotate_left 2; (focus (first | (simp only [List.getElem?_toArray, List.getElem?_cons_succ, List.getElem?_cons_zero]; with_reducible rfl) | (simp only [List.getElem?_toArray, List.getElem?_cons_zero]; with_reducible rfl))); (focus (intro _ _ h; cases h)); (focus rfl); (focus (intro w' hI; subst hI; go_simp <;> with_reducible rfl)); simp only [Act.put, List.setIfInBounds_toArray, List.set_cons_zero, List.set_cons_succ]))
      refine ChainL.nil ?_
      rw [← HWD.out]
      go_wp2
      refine wp_region_chain_last (fun V => V = wv) [(0, false), (1, false), (2, false), (3, false), (4, false), (5, false), (6, false), (7, false), (8, false), (9, false), (10, false)] _ _ (by rfl) (by rfl) (by kernel_rfl) (by kernel_rfl) HWV.out.symm ?_
      repeat (first
        | (refine ChainL.skip (o := ?_) ?_ ?_ ?_; rotate_left; (focus (first | (simp only [List.getElem?_toArray, List.getElem?_cons_succ, List.getElem?_cons_zero]; with_reducible rfl) | (simp only [List.getElem?_toArray, List.getElem?_cons_zero]; with_reducible rfl))); (focus rfl); simp only [Act.put, List.setIfInBounds_toArray, List.set_cons_zero, List.set_cons_succ])
        | (refine ChainL.val (o := ?_) (v := ?_) ?_ ?_ ?_ ?_ ?_; rotate_left 2; (focus (first | (simp only [List.getElem?_toArray, List.getElem?_cons_succ, List.getElem?_cons_zero]; with_reducible rfl) | (simp only [List.getElem?_toArray, List.getElem?_cons_zero]; with_reducible rfl))); (focus (intro _ _ h; cases h)); (focus rfl); (focus (intro w' hI; subst hI; go_simp <;> with_reducible rfl)); simp only [Act.put, List.setIfInBounds_toArray, List.set_cons_zero, List.set_cons_succ]))
      refine ChainL.nil ?_
      rw [← HWV.out]
      go_wp2
      go_roundw
      case rel =>
        refine ⟨k + 1, by omega, by go_num, HO3.out, ?_⟩
        have := HS.out
        rw [linkN, lnk, ← HXY.out.1, ← HXY.out.2]
        exact this
      case measure => simp [intOf]; omega
    · obtain rfl : k = m := by omega
      have hcc := HPV.out
      go_wp2
      refine bodyPost_end (results_none rfl _ _ _) rfl ⟨rfl, ?_⟩
      exact H.out.pls (V := wr) (by rw [hcc]; simpa [blk, Value.ownBlock] using HON.out) (linkN_len _ _ _) (by rw [hcc, ← HN.out]; exact HR.out)
end Go.Proofs.Ytaaboochologaaa

namespace Go.Proofs.Ytaaboochologaaa
open Go Go.RowKit

section
variable {P : Program} (w : World)

theorem run_append_src_wide (base : Nat) (t ty e : TypeId) (i : TypeInfo) (z : Value) (size bytes : Nat) (ht : P.underlying t = some (.slice e)) (hi : P.info? e = some i) (hz : i.zero = some z)
    (hsize : i.size = size) (hby : i.bytes = bytes) (hzs : z.cells.size = size) (hsz : 0 < size) (v : Value) (n : Nat) (xs : List Value) (hown : w.ownsRow base e size v n xs)
    (B : Nat) (A : Option Addr) (m c : Nat) (news : List Value) (hr : Lists w B A news) (hl : news.length = m * size) (h1 : ∀ u ∈ news, u.oneCell' = true)
    (h63 : n + m ≤ maxLen) (hbytes : ((n + m) + (n + m) / 4 + 192) * bytes ≤ 281474976710656) (hbase : base ≤ w.heap.size) :
    ∃ v' w', (Builtin.append_ #[t, t] ty #[v, .slice A m c]).run P w = .ok v' w' ∧ w'.ownsRow base e size v' (n + m) (xs ++ news) ∧ w.grownBy w' v.ownBlock := by
  cases A with
  | none =>
    have hn : news = [] := hr.nil rfl
    subst hn
    have hm : m = 0 := by
      have : m * size = 0 := by simpa using hl.symm
      rcases Nat.mul_eq_zero.1 this with h | h
      · exact h
      · omega
    subst hm
    refine ⟨v, w, ?_, by simpa using hown, World.grownBy.refl w _⟩
    rcases hown.2 with ⟨rfl, rfl⟩ | ⟨g, cap, cur, rfl, _, _, hc, _⟩
    · simp [Builtin.append_, run_underlying ht, sizeOf, typeInfo, hi, Builtin.lenOf, Builtin.firstCells]
    · simp [Builtin.append_, run_underlying ht, sizeOf, typeInfo, hi, Builtin.lenOf, Builtin.firstCells, hc, storeCells]
  | some ad =>
    obtain ⟨v', w', hrun, h2, h3, _⟩ := run_append_own_wide (P := P) w base t ty e i z size bytes ht hi hz hsize hby hzs hsz v n xs hown ad m c news hl (hr.cell ad rfl) h1 h63 hbytes hbase
    exact ⟨v', w', hrun, h2, h3⟩

theorem wp_append_src_wide {o : Oper} {a : Act} {K : Act → World → Prop} {Q : Exit → Act → World → Prop} (s x : Operand) (t : TypeId)
    (ho : o.op = .call { callee := .builtin .append, args := #[s, x], argTypes := #[t, t] })
    (base : Nat) (e : TypeId) (i : TypeInfo) (z : Value) (size bytes : Nat) (ht : P.underlying t = some (.slice e)) (hi : P.info? e = some i) (hz : i.zero = some z)
    (hsize : i.size = size) (hby : i.bytes = bytes) (hzs : z.cells.size = size) (hsz : 0 < size)
    (v : Value) (n : Nat) (xs : List Value) (hs : a.eval s = v) (hown : w.ownsRow base e size v n xs)
    (B : Nat) (A : Option Addr) (m c : Nat) (news : List Value) (hx : a.eval x = .slice A m c) (hr : Lists w B A news) (hl : news.length = m * size) (h1 : ∀ u ∈ news, u.oneCell' = true)
    (h63 : n + m ≤ maxLen) (hbytes : ((n + m) + (n + m) / 4 + 192) * bytes ≤ 281474976710656) (hbase : base ≤ w.heap.size)
    (h : ∀ v' w', w'.ownsRow base e size v' (n + m) (xs ++ news) → w.grownBy w' v.ownBlock → K (a.put o.dst v') w') : o.wp P a w K Q := by
  obtain ⟨v', w', hrun, h2, h3⟩ := run_append_src_wide (P := P) w base t o.type e i z size bytes ht hi hz hsize hby hzs hsz v n xs hown B A m c news hr hl h1 h63 hbytes hbase
  unfold Oper.wp execOp
  simp only [ho, resolve, invoke, builtin, Sem.run_bind, Sem.run_pure, Result.andThen_ok, List.map_toArray, List.map_cons, List.map_nil, hs, hx, hrun]
  exact h v' w' h2 h3

theorem wpList_append_src_wide {ops : Array Oper} {rest : List Oper} {o : Oper} {a : Act} {Q : Exit → Act → World → Prop} (hgd : o.guard = none) (s x : Operand) (t : TypeId)
    (ho : o.op = .call { callee := .builtin .append, args := #[s, x], argTypes := #[t, t] })
    (base : Nat) (e : TypeId) (i : TypeInfo) (z : Value) (size bytes : Nat) (ht : P.underlying t = some (.slice e)) (hi : P.info? e = some i) (hz : i.zero = some z)
    (hsize : i.size = size) (hby : i.bytes = bytes) (hzs : z.cells.size = size) (hsz : 0 < size)
    (v : Value) (n : Nat) (xs : List Value) (hs : a.eval s = v) (hown : w.ownsRow base e size v n xs)
    (B : Nat) (A : Option Addr) (m c : Nat) (news : List Value) (hx : a.eval x = .slice A m c) (hr : Lists w B A news) (hl : news.length = m * size) (h1 : ∀ u ∈ news, u.oneCell' = true)
    (h63 : n + m ≤ maxLen) (hbytes : ((n + m) + (n + m) / 4 + 192) * bytes ≤ 281474976710656) (hbase : base ≤ w.heap.size)
    (h : ∀ v' w', w'.ownsRow base e size v' (n + m) (xs ++ news) → w.grownBy w' v.ownBlock → wpList P ops Q rest (a.put o.dst v') w') : wpList P ops Q (o :: rest) a w :=
  wpList_plain hgd fun _ hK => wp_append_src_wide w s x t ho base e i z size bytes ht hi hz hsize hby hzs hsz v n xs hs hown B A m c news hx hr hl h1 h63 hbytes hbase fun v' w' h2 h3 => hK _ _ (h v' w' h2 h3)
end

end Go.Proofs.Ytaaboochologaaa

namespace Go.Proofs.Ytaaboochologaaa
open Go Go.RowKit
set_option linter.unusedVariables false
set_option linter.unusedSimpArgs false

section
variable {P : Program} {ops : Array Oper} {I : World → Prop} {E : Act → World → Prop} {i : Nat} {r : List (Nat × Bool)} {o : Oper} {a : Act} {w : World}
theorem ChainL.appendW (hi : ops[i]? = some o) (hw : Region.wanted o (yielded ops a.tmps) = true) (s x : Operand) (t : TypeId)
    (ho : o.op = .call { callee := .builtin .append, args := #[s, x], argTypes := #[t, t] })
    (base : Nat) (e : TypeId) (info : TypeInfo) (z : Value) (size bytes : Nat) (ht : P.underlying t = some (.slice e)) (hi' : P.info? e = some info) (hz : info.zero = some z)
    (hsize : info.size = size) (hby : info.bytes = bytes) (hzs : z.cells.size = size) (hsz : 0 < size)
    (v : Value) (n : Nat) (xs : List Value) (hs : a.eval s = v) (hown : w.ownsRow base e size v n xs)
    (B : Nat) (A : Option Addr) (m c : Nat) (news : List Value) (hx : a.eval x = .slice A m c) (hr : Lists w B A news) (hl : news.length = m * size) (h1 : ∀ u ∈ news, u.oneCell' = true)
    (h63 : n + m ≤ maxLen) (hbytes : ((n + m) + (n + m) / 4 + 192) * bytes ≤ 281474976710656) (hbase : base ≤ w.heap.size)
    (h : ∀ v' w', w'.ownsRow base e size v' (n + m) (xs ++ news) → w.grownBy w' v.ownBlock → I w' ∧ ChainL P ops E I r (a.put o.dst v') w') : ChainL P ops E I ((i, true) :: r) a w := by
  obtain ⟨v', w', hrun, h2, h3⟩ := run_append_src_wide (P := P) w base t o.type e info z size bytes ht hi' hz hsize hby hzs hsz v n xs hown B A m c news hr hl h1 h63 hbytes hbase
  refine ⟨o, hi, hw, .inl ⟨v', w', ?_, h v' w' h2 h3⟩⟩
  unfold execOp
  simp only [ho, resolve, invoke, builtin, Sem.run_bind, Sem.run_pure, Result.andThen_ok, List.map_toArray, List.map_cons, List.map_nil, hs, hx, hrun]
end
theorem own_new (w : World) : (w.alloc (.cells #[] 5)).ownsRow w.heap.size 5 1 (.slice (some ⟨w.heap.size, 0, none⟩) 0 0) 0 [] := ⟨rfl, .inr ⟨w.heap.size, 0, #[], rfl, Nat.le_refl _, heap_alloc_new w _, Nat.le_refl _, Nat.zero_le _, rfl, rfl⟩⟩
theorem own_new_at (w : World) (k : Nat) (hk : k = w.heap.size) : (w.alloc (.cells #[] 5)).ownsRow k 5 1 (.slice (some ⟨k, 0, none⟩) 0 0) 0 [] := hk ▸ own_new w

end Go.Proofs.Ytaaboochologaaa

namespace Go.Proofs.Ytaaboochologaaa
open Go Go.RowKit
set_option linter.unusedVariables false
set_option linter.unusedSimpArgs false

/-- The places' row as it lies, told of any world in which it still does. -/
theorem CaV.cells {W : World} {B p : Nat} {C : Cs} (h : CaV W B p C) (h1 : 1 ≤ C.PL.length) : ∃ g c, C.pv = .slice (some ⟨g, 0, none⟩) C.PL.length c ∧ C.PL.length ≤ c ∧ g < W.heap.size ∧ p ≠ g ∧ W.cell? ⟨p, 3, none⟩ = some (.slice (some ⟨g, 0, none⟩) C.PL.length c) ∧
    (∀ i j v, i < C.PL.length → j < 11 → (plL (atP C.PL i))[j]? = some v → W.cell? ⟨g, i * 11 + j, none⟩ = some v) ∧ ∀ j, W.frozen? ⟨g, j, none⟩ = false := by
  obtain ⟨g, c, hpv, hc, hg⟩ := h.row h1
  have hown := h.pown
  rw [hpv] at hown
  have c3 := h.blk.cell 3
  simp only [List.getElem?_toArray, List.getElem?_cons_succ, List.getElem?_cons_zero] at c3
  rw [hpv] at c3
  refine ⟨g, c, hpv, hc, hg, fun e => ?_, c3, fun i j v hi hj hv => row_cell hown rfl hi hj hv, fun j => hown.frozenAt j⟩
  have := h.pne
  rw [hpv] at this
  simp [Go.Proofs.Ytaaboochologaaa.blk, Value.ownBlock] at this
  exact this e
set_option maxRecDepth 100000 in
theorem unlink_any (B p : Nat) (C : Cs) (i : Nat) (w : World) (h : CaV w B p C) (hi : i < C.PL.length) (ha : aOf C.PL i < C.PL.length) (hb : bOf C.PL i < C.PL.length) (hP : C.PL.length ≤ 1048576) :
    Calls Try.prog 31 #[.pointer (some ⟨p, 0, none⟩), .int .i64 (i : Nat)] w fun e w' => e = .returned (.tuple #[]) ∧ CaV w' B p { C with PL := lnk C.PL (aOf C.PL i) (bOf C.PL i) } ∧ ModC w w' p C { C with PL := lnk C.PL (aOf C.PL i) (bOf C.PL i) } := by
  obtain ⟨g, c, hpv, hc, hg, pg, c3, hcell, hfr⟩ := h.cells (by omega)
  have ca := hcell i 9 _ hi (by omega) rfl
  have cb := hcell i 10 _ hi (by omega) rfl
  have hpl := h.lt
  have hwa : Below w.heap.size w (w.drew.alloc (.cells #[.int .i64 (aOf C.PL i : Nat), .int .i64 (bOf C.PL i : Nat)] 3)) := ((Below.refl _ _).drew).alloc (Nat.le_refl _) _
  have CC := chain_any B p C [aOf C.PL i, bOf C.PL i] w.heap.size 1 (w.drew.alloc (.cells #[.int .i64 (aOf C.PL i : Nat), .int .i64 (bOf C.PL i : Nat)] 3)) (h.below hwa) (by simp [ha, hb]) rfl (Nat.le_refl _) (by omega) hP (Blk.new w.drew 3 #[.int .i64 (aOf C.PL i : Nat), .int .i64 (bOf C.PL i : Nat)])
  have HWA := Lib.hid hwa
  rw [show (atP C.PL i).a = aOf C.PL i from rfl] at ca
  rw [show (atP C.PL i).b = bOf C.PL i from rfl] at cb
  obtain ⟨x, hx⟩ : ∃ x, x = aOf C.PL i := ⟨_, rfl⟩
  obtain ⟨y, hy⟩ : ∃ y, y = bOf C.PL i := ⟨_, rfl⟩
  rw [← hx] at ca CC HWA
  rw [← hy] at cb CC HWA
  rw [← hx, ← hy]
  obtain ⟨n, hn⟩ : ∃ n, n = C.PL.length := ⟨_, rfl⟩
  rw [← hn] at c3 hi hc
  have HCC := Lib.hid CC
  have HD := Lib.hid (fun (V : World) (hV : Below w.heap.size w V) => And.intro ((hV.cell (p := ⟨p, 3, none⟩) hpl).trans c3) (And.intro ((hV.cell (p := ⟨g, i * 11 + 9, none⟩) hg).trans ca) (And.intro ((hV.cell (p := ⟨g, i * 11 + 10, none⟩) hg).trans cb) (And.intro (Nat.lt_of_lt_of_le hpl hV.size) (Nat.lt_of_lt_of_le hg hV.size)))))
  clear h ha hb hpv hcell hfr ca cb c3 hwa CC hx hy hn hP
  have hI : Below w.heap.size w w.drew := (Below.refl _ _).drew
  go_enter Try.func31, Try.ntmps31
  go_wp2
  refine wp_region_chain_last (fun V => Below w.heap.size w V) [(0, false), (1, false), (2, false), (3, false), (4, false), (5, false), (6, false), (7, false), (8, false), (9, false), (10, false), (11, false), (12, false), (13, false), (14, false), (15, false), (16, false), (17, true)] _ _ (by rfl) (by rfl) (by kernel_rfl) (by kernel_rfl) hI ?_
  repeat (first
    | (refine ChainL.skip (o := ?_) ?_ ?_ ?_; rotate_left; (focus (first | (simp only [List.getElem?_toArray, List.getElem?_cons_succ, List.getElem?_cons_zero]; with_reducible rfl) | (simp only [List.getElem?_toArray, List.getElem?_cons_zero]; with_reducible rfl))); (focus rfl); simp only [Act.put, List.setIfInBounds_toArray, List.set_cons_zero, List.set_cons_succ])
    | (refine ChainL.val (o := ?_) (v := ?_) ?_ ?_ ?_ ?_ ?_; rotate_left 2; (focus (first | (simp only [List.getElem?_toArray, List.getElem?_cons_succ, List.getElem?_cons_zero]; with_reducible rfl) | (simp only [List.getElem?_toArray, List.getElem?_cons_zero]; with_reducible rfl))); (focus (intro _ _ h; cases h)); (focus rfl); (focus (intro w' hI; obtain ⟨c3, ca, cb, l1, l2⟩ := HD.out _ hI; go_simp <;> with_reducible rfl)); simp only [Act.put, List.setIfInBounds_toArray, List.set_cons_zero, List.set_cons_succ]))
  refine ChainL.does (o := ?_) (v := ?_) (w1 := ?_) ?_ ?_ ?_ ?_ ?_
  rotate_left 3
  (focus (first | (simp only [List.getElem?_toArray, List.getElem?_cons_succ, List.getElem?_cons_zero]; with_reducible rfl) | (simp only [List.getElem?_toArray, List.getElem?_cons_zero]; with_reducible rfl)))
  (focus rfl)
  (focus (go_simp; (constructor <;> with_reducible rfl)))
  (focus (exact HWA.out))
  simp only [Act.put, List.setIfInBounds_toArray, List.set_cons_zero, List.set_cons_succ]
  refine ChainL.nil ?_
  go_wp2_with (go_at_call 41; refine (HCC.out).mono ?_; rintro e w1 ⟨rfl, v1, m1⟩)
  exact bodyPost_end (results_none rfl _ _ _) rfl ⟨rfl, v1, (ModC.below HWA.out).trans m1⟩
set_option maxRecDepth 100000 in
theorem lead_any (B p : Nat) (C : Cs) (i : Nat) (w : World) (h : CaV w B p C) (hi : i < C.PL.length) (hb : bOf C.PL 0 < C.PL.length) (hP : C.PL.length ≤ 1048576) :
    Calls Try.prog 32 #[.pointer (some ⟨p, 0, none⟩), .int .i64 (i : Nat)] w fun e w' => e = .returned (.tuple #[]) ∧ CaV w' B p { C with PL := lnk (lnk C.PL 0 i) i (bOf C.PL 0) } ∧ ModC w w' p C { C with PL := lnk (lnk C.PL 0 i) i (bOf C.PL 0) } := by
  obtain ⟨g, c, hpv, hc, hg, pg, c3, hcell, hfr⟩ := h.cells (by omega)
  have cb := hcell 0 10 _ (by omega) (by omega) rfl
  have hpl := h.lt
  have hwa : Below w.heap.size w (w.alloc (.cells #[.int .i64 0, .int .i64 (i : Nat), .int .i64 (bOf C.PL 0 : Nat)] 3)) := (Below.refl _ _).alloc (Nat.le_refl _) _
  have CC := chain_any B p C [0, i, bOf C.PL 0] w.heap.size 2 (w.alloc (.cells #[.int .i64 0, .int .i64 (i : Nat), .int .i64 (bOf C.PL 0 : Nat)] 3)) (h.below hwa) (by simp [hi, hb]; omega) rfl (by omega) (by omega) hP (Blk.new w 3 #[.int .i64 0, .int .i64 (i : Nat), .int .i64 (bOf C.PL 0 : Nat)])
  have HWA := Lib.hid hwa
  rw [show (atP C.PL 0).b = bOf C.PL 0 from rfl] at cb
  obtain ⟨y, hy⟩ : ∃ y, y = bOf C.PL 0 := ⟨_, rfl⟩
  rw [← hy] at cb CC HWA
  rw [← hy]
  obtain ⟨n, hn⟩ : ∃ n, n = C.PL.length := ⟨_, rfl⟩
  rw [← hn] at c3 hi hc
  have h0 : 0 < n := by omega
  have HCC := Lib.hid CC
  rw [Nat.zero_mul, Nat.zero_add] at cb
  clear h hb hpv hcell hfr hwa CC hy hn hP
  go_enter Try.func32, Try.ntmps32
  go_wp2_with (go_at_call 41; refine (HCC.out).mono ?_; rintro e w1 ⟨rfl, v1, m1⟩)
  exact bodyPost_end (results_none rfl _ _ _) rfl ⟨rfl, v1, (ModC.below HWA.out).trans m1⟩
end Go.Proofs.Ytaaboochologaaa

namespace Go.Proofs.Ytaaboochologaaa
open Go Go.RowKit

theorem only_setRow (w : World) (g : Nat) (cs : Array Value) : Only w (w.setRow g cs) [g] :=
  ⟨rfl, rfl, rfl, by simp [World.setRow], fun b _ hn => setRow_other w g b cs (fun e => hn (by simp [e]))⟩

section
variable {P : Program} {w : World}
theorem run_copy_only (dT sT ty elem : TypeId) (hu : P.underlying dT = some (.slice elem)) (hsz : (P.info? elem).map (·.size) = some 1)
    (dp sp : Option Addr) (dLen dCap sLen sCap : Nat) (g off : Nat) (cur : List Value) (t : TypeId) (hg : w.heap[g]? = some (.cells cur.toArray t (0, 0))) (cs : List Value) (hn : cs.length = Nat.min sLen dLen)
    (hpos : 0 < cs.length → dp = some ⟨g, off, none⟩ ∧ ∃ ad, sp = some ad ∧ ∀ (j : Nat) (v : Value), cs[j]? = some v → w.cell? (ad.add j) = some v)
    (hfit : off + cs.length ≤ cur.length) (h1 : ∀ v ∈ cs, v.oneCell' = true) :
    ∃ w', (Builtin.copy_ #[dT, sT] ty #[.slice dp dLen dCap, .slice sp sLen sCap]).run P w = .ok (goInt cs.length) w' ∧ w'.heap[g]? = some (.cells (splice cur off cs).toArray t (0, 0)) ∧ Only w w' [g] := by
  by_cases h0 : cs.length = 0
  · obtain rfl : cs = [] := List.eq_nil_of_length_eq_zero h0
    exact ⟨w, run_copy_none (P := P) w dT sT ty elem dp sp dLen dCap sLen sCap hu hsz (by simpa using hn.symm), by simpa [splice] using hg, Only.refl w _⟩
  · obtain ⟨rfl, ad, rfl, hsrc⟩ := hpos (by omega)
    refine ⟨_, run_copy_row (P := P) w dT sT ty elem g off dLen dCap ad sLen sCap cur.toArray t cs hu hsz hg hn hsrc (by simpa using hfit) h1, ?_, only_setRow w g _⟩
    rw [setRow_heap w g _ _ t _ hg]
    simp [splice]

theorem step_copy_only {ops : Array Oper} {o : Oper} {a : Act} {K : Act → World → Prop} {Q : Exit → Act → World → Prop} {E : Prop} (hgd : o.guard = none) (d s : Operand) (dT sT : TypeId)
    (ho : o.op = .call { callee := .builtin .copy, args := #[d, s], argTypes := #[dT, sT] }) (elem : TypeId) (hu : P.underlying dT = some (.slice elem)) (hsz : (P.info? elem).map (·.size) = some 1)
    (dp sp : Option Addr) (dLen dCap sLen sCap : Nat) (hd : a.eval d = .slice dp dLen dCap) (hs : a.eval s = .slice sp sLen sCap)
    (g off : Nat) (cur : List Value) (t : TypeId) (hg : w.heap[g]? = some (.cells cur.toArray t (0, 0))) (cs : List Value) (hn : cs.length = Nat.min sLen dLen)
    (hpos : 0 < cs.length → dp = some ⟨g, off, none⟩ ∧ ∃ ad, sp = some ad ∧ ∀ (j : Nat) (v : Value), cs[j]? = some v → w.cell? (ad.add j) = some v)
    (hfit : off + cs.length ≤ cur.length) (h1 : ∀ v ∈ cs, v.oneCell' = true)
    (h : ∀ w', Hid (w'.heap[g]? = some (.cells (splice cur off cs).toArray t (0, 0))) → Only w w' [g] → K (a.put o.dst (goInt cs.length)) w') :
    if Region.wanted o (yielded ops a.tmps) = true then Oper.wp P o a w K Q else E := by
  rw [if_pos (by simp [Region.wanted, hgd])]
  obtain ⟨w', hrun, h2, h3⟩ := run_copy_only (P := P) dT sT o.type elem hu hsz dp sp dLen dCap sLen sCap g off cur t hg cs hn hpos hfit h1
  unfold Oper.wp
  simp [execOp, ho, resolve, invoke, builtin, hd, hs, hrun, Result.andThen]
  exact h w' h2 h3
end

end Go.Proofs.Ytaaboochologaaa

namespace Go.Proofs.Ytaaboochologaaa
open Go Go.RowKit

end Go.Proofs.Ytaaboochologaaa

namespace Go.Proofs.Ytaaboochologaaa
open Go Go.RowKit

/-- What becomes of a writer that is handed E. -/
def putF (R : Nat) (F : Bool) (L E : List Value) : Bool := F || decide (R < L.length + E.length)
def putL (R : Nat) (F : Bool) (L E : List Value) : List Value := if putF R F L E then L else L ++ E
theorem u8Info : (Try.prog.info? 5).map (fun i => (i.zero, i.size, i.bytes)) = some (some (.int .u8 0), 1, 1) := by kernel_rfl
theorem ret_ptr (p : Nat) : Ending.returned (.pointer (some ⟨p, 0, none⟩)) = Ending.returned (.pointer (some ⟨p, 0, none⟩)) := rfl

end Go.Proofs.Ytaaboochologaaa

namespace Go.Proofs.Ytaaboochologaaa
open Go Go.RowKit

theorem lists_new (w : World) (cs : Array Value) (T : TypeId) (E : List Value) (h : ∀ (j : Nat) (u : Value), E[j]? = some u → cs[j]? = some u) : Lists (w.alloc (.cells cs T)) (w.alloc (.cells cs T)).heap.size (some ⟨w.heap.size, 0, none⟩) E :=
  ⟨fun ha => (nomatch ha), fun a ha j u hu => by
    cases ha
    rw [addr_plain, Nat.zero_add, World.cell?_alloc_new]
    exact h j u hu, fun a ha _ => by cases ha; simp⟩
theorem byte_of (x : Int) : ∃ n : Nat, n < 256 ∧ Value.int .u8 (x % 256) = .int .u8 (n : Int) := ⟨(x % 256).toNat, by omega, by congr 1; omega⟩
def be1 (x : Int) : List Value := [.int .u8 (x % 256)]
theorem be1_bytes (x : Int) : Bytes8 (be1 x) := by
  intro u hu
  simp only [be1, List.mem_cons, List.not_mem_nil, or_false] at hu
  subst hu
  all_goals exact byte_of _
def be2 (x : Int) : List Value := [.int .u8 (x / 256 % 256), .int .u8 (x % 256)]
theorem be2_bytes (x : Int) : Bytes8 (be2 x) := by
  intro u hu
  simp only [be2, List.mem_cons, List.not_mem_nil, or_false] at hu
  rcases hu with rfl | rfl
  all_goals exact byte_of _
def be4 (x : Int) : List Value := [.int .u8 (x / 16777216 % 256), .int .u8 (x / 65536 % 256), .int .u8 (x / 256 % 256), .int .u8 (x % 256)]
theorem be4_bytes (x : Int) : Bytes8 (be4 x) := by
  intro u hu
  simp only [be4, List.mem_cons, List.not_mem_nil, or_false] at hu
  rcases hu with rfl | rfl | rfl | rfl
  all_goals exact byte_of _

end Go.Proofs.Ytaaboochologaaa

namespace Go.Proofs.Ytaaboochologaaa
open Go Go.RowKit

theorem step_append_src {P : Program} {w : World} {ops : Array Oper} {o : Oper} {a : Act} {K : Act → World → Prop} {Q : Exit → Act → World → Prop} {X : Prop} (hgd : o.guard = none) (s x : Operand) (t : TypeId)
    (ho : o.op = .call { callee := .builtin .append, args := #[s, x], argTypes := #[t, t] })
    (base : Nat) (e : TypeId) (i : TypeInfo) (z : Value) (size bytes : Nat) (ht : P.underlying t = some (.slice e)) (hi : P.info? e = some i) (hz : i.zero = some z)
    (hsize : i.size = size) (hby : i.bytes = bytes) (hzs : z.cells.size = size) (hsz : 0 < size)
    (v : Value) (n : Nat) (xs : List Value) (hs : a.eval s = v) (hown : w.ownsRow base e size v n xs)
    (B : Nat) (A : Option Addr) (m c : Nat) (news : List Value) (hx : a.eval x = .slice A m c) (hr : Lists w B A news) (hl : news.length = m * size) (h1 : ∀ u ∈ news, u.oneCell' = true)
    (h63 : n + m ≤ maxLen) (hbytes : (n + m) * bytes ≤ 140737488355328) (hbase : base ≤ w.heap.size)
    (h : ∀ v' w', w'.ownsRow base e size v' (n + m) (xs ++ news) → w.grownBy w' v.ownBlock → (v'.ownBlock = v.ownBlock ∨ v'.ownBlock = some w.heap.size) → K (a.put o.dst v') w') :
    if Region.wanted o (yielded ops a.tmps) = true then Oper.wp P o a w K Q else X := by
  rw [if_pos (by simp [Region.wanted, hgd])]
  exact wp_append_src w s x t ho base e i z size bytes ht hi hz hsize hby hzs hsz v n xs hs hown B A m c news hx hr hl h1 h63 hbytes hbase h

/-- How many zeros a pad to n wants. -/
def padN (l : Nat) (n : Int) : Nat := if n < 1 then 0 else if (l : Int) % n = 0 then 0 else (n - (l : Int) % n).toNat

end Go.Proofs.Ytaaboochologaaa

namespace Go.Proofs.Ytaaboochologaaa
open Go Go.RowKit

/-- What stands ahead of the data behind the last gap; where that data begins. -/
def preE (D : List Value) : Nat → List (Nat × Nat) → List Value
  | _, [] => []
  | i, (a, z) :: G => (D.drop i).take (a - i) ++ List.replicate z zero8 ++ preE D a G
def lastA : Nat → List (Nat × Nat) → Nat
  | i, [] => i
  | _, (a, _) :: G => lastA a G

theorem expand_pre (D : List Value) : ∀ (G : List (Nat × Nat)) (i : Nat), expand D i G = preE D i G ++ D.drop (lastA i G)
  | [], i => rfl
  | (a, z) :: G, i => by simp only [expand, preE, lastA, expand_pre D G a, List.append_assoc]
theorem preE_snoc (D : List Value) (a z : Nat) : ∀ (G : List (Nat × Nat)) (i : Nat), preE D i (G ++ [(a, z)]) = preE D i G ++ ((D.drop (lastA i G)).take (a - lastA i G) ++ List.replicate z zero8)
  | [], i => by simp [preE, lastA]
  | (b, y) :: G, i => by simp only [List.cons_append, preE, lastA, preE_snoc D a z G b, List.append_assoc]
theorem lastA_snoc (a z : Nat) : ∀ (G : List (Nat × Nat)) (i : Nat), lastA i (G ++ [(a, z)]) = a
  | [], i => rfl
  | (b, y) :: G, i => by simp only [List.cons_append, lastA, lastA_snoc a z G b]
theorem lastA_le : ∀ (G : List (Nat × Nat)) {i n : Nat}, GapsOk i G n → lastA i G ≤ n
  | [], _, _, h => h
  | (_, _) :: G, _, _, h => lastA_le G h.2.2
theorem gap_at : ∀ (G : List (Nat × Nat)) (i n k a z : Nat), GapsOk i G n → G[k]? = some (a, z) → lastA i (G.take k) ≤ a ∧ a ≤ n ∧ 1 ≤ z
  | [], _, _, k, _, _, _, h => by simp at h
  | (b, y) :: G, i, n, 0, a, z, hg, h => by
    simp only [List.getElem?_cons_zero, Option.some.injEq, Prod.mk.injEq] at h
    obtain ⟨rfl, rfl⟩ := h
    exact ⟨hg.1, hg.2.2.le, hg.2.1⟩
  | (b, y) :: G, i, n, k + 1, a, z, hg, h => by
    simp only [List.take_succ_cons, lastA]
    exact gap_at G b n k a z hg.2.2 (by simpa using h)
theorem take_snoc {G : List (Nat × Nat)} {k a z : Nat} (h : G[k]? = some (a, z)) : G.take (k + 1) = G.take k ++ [(a, z)] := by
  rw [List.take_add_one, h]; rfl
theorem pre_prefix (D : List Value) : ∀ (G : List (Nat × Nat)) (i k : Nat), (preE D i (G.take k)).length ≤ (preE D i G).length
  | [], i, k => by simp
  | (a, z) :: G, i, 0 => by simp [preE]
  | (a, z) :: G, i, k + 1 => by
    have := pre_prefix D G a k
    simp only [List.take_succ_cons, preE, List.length_append]
    omega
theorem pre_len_le (D : List Value) (G : List (Nat × Nat)) (k : Nat) : (preE D 0 (G.take k)).length ≤ (expand D 0 G).length := by
  rw [expand_pre, List.length_append]
  have := pre_prefix D G 0 k
  omega

/-- The row behind k gaps: n bytes in all. -/
def rowAt (D : List Value) (G : List (Nat × Nat)) (n k : Nat) : List Value := preE D 0 (G.take k) ++ List.replicate (n - (preE D 0 (G.take k)).length) zero8
theorem rowAt_len (D : List Value) (G : List (Nat × Nat)) (n k : Nat) (h : (preE D 0 (G.take k)).length ≤ n) : (rowAt D G n k).length = n := by
  unfold rowAt; rw [List.length_append, List.length_replicate]; omega
theorem splice_row (P cs : List Value) (n : Nat) (h : P.length + cs.length ≤ n) : splice (P ++ List.replicate (n - P.length) zero8) P.length cs = P ++ cs ++ List.replicate (n - (P ++ cs).length) zero8 := by
  unfold splice
  rw [List.take_left, List.drop_append, List.drop_eq_nil_of_le (by omega), List.nil_append, List.drop_replicate, List.append_assoc, List.length_append]
  congr 3
  omega
theorem row_next (D : List Value) (G : List (Nat × Nat)) (n k a z : Nat) (hg : G[k]? = some (a, z)) (hn : (preE D 0 (G.take (k + 1))).length ≤ n) :
    splice (rowAt D G n k) (preE D 0 (G.take k)).length ((D.drop (lastA 0 (G.take k))).take (a - lastA 0 (G.take k))) = rowAt D G n (k + 1) := by
  rw [take_snoc hg, preE_snoc] at hn
  unfold rowAt
  rw [splice_row _ _ _ (by simp only [List.length_append] at hn; omega), take_snoc hg, preE_snoc]
  simp only [List.append_assoc, List.length_append, List.length_replicate] at hn ⊢
  congr 2
  rw [List.replicate_append_replicate]
  congr 1
  omega
theorem row_last (D : List Value) (G : List (Nat × Nat)) : splice (rowAt D G (expand D 0 G).length G.length) (preE D 0 G).length (D.drop (lastA 0 G)) = expand D 0 G := by
  have hl := expand_pre D G 0
  unfold rowAt
  rw [List.take_length, splice_row _ _ _ (by rw [hl, List.length_append]; omega), ← hl]
  simp
theorem made_zeros (n : Nat) : madeCells #[.int .u8 0] n = (List.replicate n zero8).toArray := by
  unfold madeCells zero8
  apply Array.ext
  · simp
  · intro i h1 h2
    simp [Nat.mod_one]

end Go.Proofs.Ytaaboochologaaa

namespace Go.Proofs.Ytaaboochologaaa
open Go Go.RowKit

theorem addr_add_add (a : Addr) (i j : Nat) : (a.add i).add j = a.add (i + j) := by
  unfold Addr.add
  by_cases hi : i = 0
  · subst hi; simp
  · by_cases hj : j = 0
    · subst hj; simp [hi]
    · simp [hi, hj, Nat.add_assoc]

theorem u8One : (Try.prog.info? 5).map (·.size) = some 1 := by kernel_rfl

/-- What is answered: the bytes, in new memory. -/
def Gave (w : World) (L : List Value) (e : Ending) (w' : World) : Prop := ∃ A c, e = .returned (.tuple #[.slice A L.length c, .int .i64 0]) ∧ w'.ownsRow w.heap.size 5 1 (.slice A L.length c) L.length L ∧ Below w.heap.size w w'

end Go.Proofs.Ytaaboochologaaa

namespace Go.Proofs.Ytaaboochologaaa
open Go.RowKit

theorem below_set4 {B b : Nat} {a w : World} (h : Below B a w) (hb : B ≤ b) (v0 v1 v2 v3 : Value) :
    Below B a ((((w.setCell ⟨b, 0, none⟩ v0).setCell ⟨b, 1, none⟩ v1).setCell ⟨b, 2, none⟩ v2).setCell ⟨b, 3, none⟩ v3) :=
  (((h.setCell hb _).setCell hb _).setCell hb _).setCell hb _

theorem plain_zero (A : Q) (w : World) (h : emptyQ A = true) :
    Calls Try.prog 50 #[.agg #[.int .i64 A.x0, .int .i64 A.y0, .int .i64 A.x1, .int .i64 A.y1]] w fun e w' => e = .returned (.agg #[.int .i64 0, .int .i64 0, .int .i64 0, .int .i64 0]) ∧ Below w.heap.size w w' := by
  have E := fun w => empty_any A w
  rw [h] at E
  clear h
  go_enter Try.func50, Try.ntmps50
  go_wp2_with (first | (go_at_call 47; ((with_reducible refine (E _).mono ?_); rintro e w1 ⟨rfl, b1⟩; obtain ⟨c1, f1⟩ := bcell b1; have z1 : w.heap.size + 1 < w1.heap.size := (by have := b1.size; (try simp at this); omega))))
  refine bodyPost_ret (v := .agg #[.int .i64 0, .int .i64 0, .int .i64 0, .int .i64 0]) (by simp [results, Try.results50, go_sem, *]) rfl ⟨rfl, ?_⟩
  exact below_set4 (below_next (below_a2 _ _ _) b1) (by omega) _ _ _ _

theorem plain_same (A : Q) (w : World) (h : emptyQ A = false) :
    Calls Try.prog 50 #[.agg #[.int .i64 A.x0, .int .i64 A.y0, .int .i64 A.x1, .int .i64 A.y1]] w fun e w' => e = .returned (.agg #[.int .i64 A.x0, .int .i64 A.y0, .int .i64 A.x1, .int .i64 A.y1]) ∧ Below w.heap.size w w' := by
  have E := fun w => empty_any A w
  rw [h] at E
  clear h
  go_enter Try.func50, Try.ntmps50
  go_wp2_with (first | (go_at_call 47; ((with_reducible refine (E _).mono ?_); rintro e w1 ⟨rfl, b1⟩; obtain ⟨c1, f1⟩ := bcell b1; have z1 : w.heap.size + 1 < w1.heap.size := (by have := b1.size; (try simp at this); omega))))
  refine bodyPost_ret (v := .agg #[.int .i64 A.x0, .int .i64 A.y0, .int .i64 A.x1, .int .i64 A.y1]) (by simp [results, Try.results50, go_sem, *]) rfl ⟨rfl, ?_⟩
  exact below_set4 (below_next (below_a2 _ _ _) b1) (by omega) _ _ _ _

end Go.Proofs.Ytaaboochologaaa

namespace Go.Proofs.Ytaaboochologaaa
open Go.RowKit

theorem not_zero (A : Q) (h : emptyQ A = false) : eq4 A.x0 A.y0 A.x1 A.y1 0 0 0 0 = false := by
  unfold emptyQ at h
  unfold eq4
  simp only [Bool.or_eq_false_iff, decide_eq_false_iff_not] at h
  rw [Bool.eq_false_iff]
  intro c
  simp only [Bool.and_eq_true, beq_iff_eq] at c
  omega

theorem at_next {A : Q} {bk : Nat} {w w1 : World} (b : Below w.heap.size w w1) (h : bk < w.heap.size) (H : w.cell? ⟨bk, 0, none⟩ = some (.int .i64 A.x0) ∧ w.cell? ⟨bk, 1, none⟩ = some (.int .i64 A.y0) ∧ w.cell? ⟨bk, 2, none⟩ = some (.int .i64 A.x1) ∧ w.cell? ⟨bk, 3, none⟩ = some (.int .i64 A.y1)) : w1.cell? ⟨bk, 0, none⟩ = some (.int .i64 A.x0) ∧ w1.cell? ⟨bk, 1, none⟩ = some (.int .i64 A.y0) ∧ w1.cell? ⟨bk, 2, none⟩ = some (.int .i64 A.x1) ∧ w1.cell? ⟨bk, 3, none⟩ = some (.int .i64 A.y1) := by
  rw [b.cell (p := ⟨bk, 0, none⟩) h, b.cell (p := ⟨bk, 1, none⟩) h, b.cell (p := ⟨bk, 2, none⟩) h, b.cell (p := ⟨bk, 3, none⟩) h]; exact H
theorem fr_next {bk : Nat} {w w1 : World} (b : Below w.heap.size w w1) (h : bk < w.heap.size) (H : ∀ o, w.frozen? ⟨bk, o, none⟩ = false) : ∀ o, w1.frozen? ⟨bk, o, none⟩ = false := fun o => (b.frozen (p := ⟨bk, o, none⟩) h).trans (H o)
theorem lt_next {n : Nat} {w w1 : World} (b : Below w.heap.size w w1) (h : n < w.heap.size) : n < w1.heap.size := Nat.lt_of_lt_of_le h b.size

/-- the facts of a world in which the call's own three boxes lie -/
def In3 (w wx : World) (A B Z : Q) : Prop := Below w.heap.size w wx ∧ (w.heap.size < wx.heap.size ∧ w.heap.size + 1 < wx.heap.size ∧ w.heap.size + 1 + 1 < wx.heap.size) ∧ (wx.cell? ⟨w.heap.size, 0, none⟩ = some (.int .i64 A.x0) ∧ wx.cell? ⟨w.heap.size, 1, none⟩ = some (.int .i64 A.y0) ∧ wx.cell? ⟨w.heap.size, 2, none⟩ = some (.int .i64 A.x1) ∧ wx.cell? ⟨w.heap.size, 3, none⟩ = some (.int .i64 A.y1)) ∧ (wx.cell? ⟨w.heap.size + 1, 0, none⟩ = some (.int .i64 B.x0) ∧ wx.cell? ⟨w.heap.size + 1, 1, none⟩ = some (.int .i64 B.y0) ∧ wx.cell? ⟨w.heap.size + 1, 2, none⟩ = some (.int .i64 B.x1) ∧ wx.cell? ⟨w.heap.size + 1, 3, none⟩ = some (.int .i64 B.y1)) ∧ (wx.cell? ⟨w.heap.size + 1 + 1, 0, none⟩ = some (.int .i64 Z.x0) ∧ wx.cell? ⟨w.heap.size + 1 + 1, 1, none⟩ = some (.int .i64 Z.y0) ∧ wx.cell? ⟨w.heap.size + 1 + 1, 2, none⟩ = some (.int .i64 Z.x1) ∧ wx.cell? ⟨w.heap.size + 1 + 1, 3, none⟩ = some (.int .i64 Z.y1)) ∧
  (∀ o, wx.frozen? ⟨w.heap.size, o, none⟩ = false) ∧ (∀ o, wx.frozen? ⟨w.heap.size + 1, o, none⟩ = false) ∧ (∀ o, wx.frozen? ⟨w.heap.size + 1 + 1, o, none⟩ = false)

theorem In3.start (w : World) (A B Z : Q) : In3 w (((w.alloc (.cells #[.int .i64 A.x0, .int .i64 A.y0, .int .i64 A.x1, .int .i64 A.y1] 34)).alloc (.cells #[.int .i64 B.x0, .int .i64 B.y0, .int .i64 B.x1, .int .i64 B.y1] 34)).alloc (.cells #[.int .i64 Z.x0, .int .i64 Z.y0, .int .i64 Z.x1, .int .i64 Z.y1] 34)) A B Z := by
  refine ⟨below_a3 _ _ _ _, ⟨by simp <;> omega, by simp <;> omega, by simp <;> omega⟩, ⟨?_, ?_, ?_, ?_⟩, ⟨?_, ?_, ?_, ?_⟩, ⟨?_, ?_, ?_, ?_⟩, fun o => ?_, fun o => ?_, fun o => ?_⟩ <;> go_simp

theorem In3.next {w wx wy : World} {A B Z : Q} (h : In3 w wx A B Z) (b : Below wx.heap.size wx wy) : In3 w wy A B Z := by
  obtain ⟨h0, ⟨h1, h2, h3⟩, hA, hB, hZ, f1, f2, f3⟩ := h
  exact ⟨below_next h0 b, ⟨lt_next b h1, lt_next b h2, lt_next b h3⟩, at_next b h1 hA, at_next b h2 hB, at_next b h3 hZ, fr_next b h1 f1, fr_next b h2 f2, fr_next b h3 f3⟩

theorem In3.drew {w wx : World} {A B Z : Q} (h : In3 w wx A B Z) : In3 w wx.drew A B Z :=
  ⟨h.1.drew, h.2.1, h.2.2.1, h.2.2.2.1, h.2.2.2.2.1, h.2.2.2.2.2.1, h.2.2.2.2.2.2.1, h.2.2.2.2.2.2.2⟩

theorem set_at {A : Q} (wx : World) (bk : Nat) (A' : Q) (h : wx.cell? ⟨bk, 0, none⟩ = some (.int .i64 A.x0) ∧ wx.cell? ⟨bk, 1, none⟩ = some (.int .i64 A.y0) ∧ wx.cell? ⟨bk, 2, none⟩ = some (.int .i64 A.x1) ∧ wx.cell? ⟨bk, 3, none⟩ = some (.int .i64 A.y1)) :
    ((((wx.setCell ⟨bk, 0, none⟩ (.int .i64 A'.x0)).setCell ⟨bk, 1, none⟩ (.int .i64 A'.y0)).setCell ⟨bk, 2, none⟩ (.int .i64 A'.x1)).setCell ⟨bk, 3, none⟩ (.int .i64 A'.y1)).cell? ⟨bk, 0, none⟩ = some (.int .i64 A'.x0) ∧ ((((wx.setCell ⟨bk, 0, none⟩ (.int .i64 A'.x0)).setCell ⟨bk, 1, none⟩ (.int .i64 A'.y0)).setCell ⟨bk, 2, none⟩ (.int .i64 A'.x1)).setCell ⟨bk, 3, none⟩ (.int .i64 A'.y1)).cell? ⟨bk, 1, none⟩ = some (.int .i64 A'.y0) ∧ ((((wx.setCell ⟨bk, 0, none⟩ (.int .i64 A'.x0)).setCell ⟨bk, 1, none⟩ (.int .i64 A'.y0)).setCell ⟨bk, 2, none⟩ (.int .i64 A'.x1)).setCell ⟨bk, 3, none⟩ (.int .i64 A'.y1)).cell? ⟨bk, 2, none⟩ = some (.int .i64 A'.x1) ∧ ((((wx.setCell ⟨bk, 0, none⟩ (.int .i64 A'.x0)).setCell ⟨bk, 1, none⟩ (.int .i64 A'.y0)).setCell ⟨bk, 2, none⟩ (.int .i64 A'.x1)).setCell ⟨bk, 3, none⟩ (.int .i64 A'.y1)).cell? ⟨bk, 3, none⟩ = some (.int .i64 A'.y1) := by
  obtain ⟨h0, h1, h2, h3⟩ := h
  refine ⟨?_, ?_, ?_, ?_⟩ <;> go_simp

theorem set_other {A : Q} (wx : World) (bk b2 : Nat) (v0 v1 v2 v3 : Value) (hne : b2 ≠ bk) (h : wx.cell? ⟨b2, 0, none⟩ = some (.int .i64 A.x0) ∧ wx.cell? ⟨b2, 1, none⟩ = some (.int .i64 A.y0) ∧ wx.cell? ⟨b2, 2, none⟩ = some (.int .i64 A.x1) ∧ wx.cell? ⟨b2, 3, none⟩ = some (.int .i64 A.y1)) :
    ((((wx.setCell ⟨bk, 0, none⟩ v0).setCell ⟨bk, 1, none⟩ v1).setCell ⟨bk, 2, none⟩ v2).setCell ⟨bk, 3, none⟩ v3).cell? ⟨b2, 0, none⟩ = some (.int .i64 A.x0) ∧ ((((wx.setCell ⟨bk, 0, none⟩ v0).setCell ⟨bk, 1, none⟩ v1).setCell ⟨bk, 2, none⟩ v2).setCell ⟨bk, 3, none⟩ v3).cell? ⟨b2, 1, none⟩ = some (.int .i64 A.y0) ∧ ((((wx.setCell ⟨bk, 0, none⟩ v0).setCell ⟨bk, 1, none⟩ v1).setCell ⟨bk, 2, none⟩ v2).setCell ⟨bk, 3, none⟩ v3).cell? ⟨b2, 2, none⟩ = some (.int .i64 A.x1) ∧ ((((wx.setCell ⟨bk, 0, none⟩ v0).setCell ⟨bk, 1, none⟩ v1).setCell ⟨bk, 2, none⟩ v2).setCell ⟨bk, 3, none⟩ v3).cell? ⟨b2, 3, none⟩ = some (.int .i64 A.y1) := by
  obtain ⟨h0, h1, h2, h3⟩ := h
  have e1 : ¬ bk = b2 := fun c => hne c.symm
  refine ⟨?_, ?_, ?_, ?_⟩ <;> go_simp

theorem In3.set01 {w wx : World} {A B Z : Q} (h : In3 w wx A B Z) (A' B' : Q) :
    In3 w ((((((((wx.setCell ⟨w.heap.size, 0, none⟩ (.int .i64 A'.x0)).setCell ⟨w.heap.size, 1, none⟩ (.int .i64 A'.y0)).setCell ⟨w.heap.size, 2, none⟩ (.int .i64 A'.x1)).setCell ⟨w.heap.size, 3, none⟩ (.int .i64 A'.y1)).setCell ⟨w.heap.size + 1, 0, none⟩ (.int .i64 B'.x0)).setCell ⟨w.heap.size + 1, 1, none⟩ (.int .i64 B'.y0)).setCell ⟨w.heap.size + 1, 2, none⟩ (.int .i64 B'.x1)).setCell ⟨w.heap.size + 1, 3, none⟩ (.int .i64 B'.y1)) A' B' Z := by
  obtain ⟨h0, ⟨h1, h2, h3⟩, hA, hB, hZ, f1, f2, f3⟩ := h
  refine ⟨below_set4 (below_set4 h0 (by omega) _ _ _ _) (by omega) _ _ _ _, ⟨by simpa [World.setCell] using h1, by simpa [World.setCell] using h2, by simpa [World.setCell] using h3⟩, ?_, ?_, ?_, ?_, ?_, ?_⟩
  · exact set_other _ _ _ _ _ _ _ (by omega) (set_at _ _ _ hA)
  · exact set_at (A := B) _ _ _ (set_other _ _ _ _ _ _ _ (by omega) hB)
  · exact set_other _ _ _ _ _ _ _ (by omega) (set_other _ _ _ _ _ _ _ (by omega) hZ)
  · intro o; simp [f1]
  · intro o; simp [f2]
  · intro o; simp [f3]

end Go.Proofs.Ytaaboochologaaa

namespace Go.Proofs.Ytaaboochologaaa
open Go.RowKit

def joinQ (A B : Q) : Q := ⟨min A.x0 B.x0, min A.y0 B.y0, max A.x1 B.x1, max A.y1 B.y1⟩
def meetQ (A B : Q) : Q := ⟨max A.x0 B.x0, max A.y0 B.y0, min A.x1 B.x1, min A.y1 B.y1⟩

def joinR (A B : Q) : Q := if emptyQ A then plainQ B else if emptyQ B then A else joinQ A B
def meetR (A B : Q) : Q := plainQ (meetQ A B)

theorem plain_any (A : Q) (w : World) : Calls Try.prog 50 #[.agg #[.int .i64 A.x0, .int .i64 A.y0, .int .i64 A.x1, .int .i64 A.y1]] w fun e w' => e = .returned (.agg #[.int .i64 (plainQ A).x0, .int .i64 (plainQ A).y0, .int .i64 (plainQ A).x1, .int .i64 (plainQ A).y1]) ∧ Below w.heap.size w w' := by
  unfold plainQ
  by_cases h : emptyQ A = true
  · rw [if_pos h]; exact plain_zero A w h
  · rw [if_neg h]; exact plain_same A w (by simpa using h)

theorem plain_eq4 (A : Q) : eq4 (plainQ A).x0 (plainQ A).y0 (plainQ A).x1 (plainQ A).y1 0 0 0 0 = emptyQ A := by
  unfold plainQ
  by_cases h : emptyQ A = true
  · rw [if_pos h, h]; rfl
  · rw [if_neg h, show emptyQ A = false by simpa using h]; exact not_zero A (by simpa using h)

end Go.Proofs.Ytaaboochologaaa

namespace Go.Proofs.Ytaaboochologaaa
open Go.RowKit

/-- the facts of a world in which the call's own two boxes lie -/
def In2 (w wx : World) (A Z : Q) : Prop := Below w.heap.size w wx ∧ (w.heap.size < wx.heap.size ∧ w.heap.size + 1 < wx.heap.size) ∧ (wx.cell? ⟨w.heap.size, 0, none⟩ = some (.int .i64 A.x0) ∧ wx.cell? ⟨w.heap.size, 1, none⟩ = some (.int .i64 A.y0) ∧ wx.cell? ⟨w.heap.size, 2, none⟩ = some (.int .i64 A.x1) ∧ wx.cell? ⟨w.heap.size, 3, none⟩ = some (.int .i64 A.y1)) ∧ (wx.cell? ⟨w.heap.size + 1, 0, none⟩ = some (.int .i64 Z.x0) ∧ wx.cell? ⟨w.heap.size + 1, 1, none⟩ = some (.int .i64 Z.y0) ∧ wx.cell? ⟨w.heap.size + 1, 2, none⟩ = some (.int .i64 Z.x1) ∧ wx.cell? ⟨w.heap.size + 1, 3, none⟩ = some (.int .i64 Z.y1)) ∧ (∀ o, wx.frozen? ⟨w.heap.size, o, none⟩ = false) ∧ (∀ o, wx.frozen? ⟨w.heap.size + 1, o, none⟩ = false)

theorem In2.start (w : World) (A Z : Q) : In2 w ((w.alloc (.cells #[.int .i64 A.x0, .int .i64 A.y0, .int .i64 A.x1, .int .i64 A.y1] 34)).alloc (.cells #[.int .i64 Z.x0, .int .i64 Z.y0, .int .i64 Z.x1, .int .i64 Z.y1] 34)) A Z := by
  refine ⟨below_a2 _ _ _, ⟨by simp <;> omega, by simp <;> omega⟩, ⟨?_, ?_, ?_, ?_⟩, ⟨?_, ?_, ?_, ?_⟩, fun o => ?_, fun o => ?_⟩ <;> go_simp

theorem In2.next {w wx wy : World} {A Z : Q} (h : In2 w wx A Z) (b : Below wx.heap.size wx wy) : In2 w wy A Z := by
  obtain ⟨h0, ⟨h1, h2⟩, hA, hZ, f1, f2⟩ := h
  exact ⟨below_next h0 b, ⟨lt_next b h1, lt_next b h2⟩, at_next b h1 hA, at_next b h2 hZ, fr_next b h1 f1, fr_next b h2 f2⟩

theorem In2.drewN {w wx : World} {A Z : Q} (h : In2 w wx A Z) (k : Nat) : In2 w (wx.drewN k) A Z :=
  ⟨below_drewN h.1 k, h.2.1, h.2.2.1, h.2.2.2.1, h.2.2.2.2.1, h.2.2.2.2.2⟩

/-- the facts of a world in which the call's own one box lies -/
def In1 (w wx : World) (A : Q) : Prop := Below w.heap.size w wx ∧ w.heap.size < wx.heap.size ∧ (wx.cell? ⟨w.heap.size, 0, none⟩ = some (.int .i64 A.x0) ∧ wx.cell? ⟨w.heap.size, 1, none⟩ = some (.int .i64 A.y0) ∧ wx.cell? ⟨w.heap.size, 2, none⟩ = some (.int .i64 A.x1) ∧ wx.cell? ⟨w.heap.size, 3, none⟩ = some (.int .i64 A.y1))

theorem In1.start (w : World) (A : Q) : In1 w (w.alloc (.cells #[.int .i64 A.x0, .int .i64 A.y0, .int .i64 A.x1, .int .i64 A.y1] 34)) A := by
  refine ⟨below_a1 _ _, by simp, ?_, ?_, ?_, ?_⟩ <;> go_simp

theorem In1.next {w wx wy : World} {A : Q} (h : In1 w wx A) (b : Below wx.heap.size wx wy) : In1 w wy A := by
  obtain ⟨h0, h1, hA⟩ := h
  exact ⟨below_next h0 b, lt_next b h1, at_next b h1 hA⟩

def holdsQ (A : Q) (x y : Int) : Bool := mayQ A && (decide (A.x0 ≤ x) && decide (x < A.x1) && decide (A.y0 ≤ y) && decide (y < A.y1))

theorem mayQ_lims {A : Q} (h : mayQ A = true) : (-2147483648 ≤ A.x0 ∧ A.x0 ≤ 2147483648) ∧ (-2147483648 ≤ A.y0 ∧ A.y0 ≤ 2147483648) ∧ (-2147483648 ≤ A.x1 ∧ A.x1 ≤ 2147483648) ∧ (-2147483648 ≤ A.y1 ∧ A.y1 ≤ 2147483648) := by
  unfold mayQ at h
  simp only [Bool.and_eq_true] at h
  exact ⟨⟨mayB_lo h.1.1.1, mayB_hi h.1.1.1⟩, ⟨mayB_lo h.1.1.2, mayB_hi h.1.1.2⟩, ⟨mayB_lo h.1.2, mayB_hi h.1.2⟩, ⟨mayB_lo h.2, mayB_hi h.2⟩⟩

theorem plain_lims {A : Q} (h : mayQ A = true) : (-2147483648 ≤ (plainQ A).x0 ∧ (plainQ A).x0 ≤ 2147483648) ∧ (-2147483648 ≤ (plainQ A).y0 ∧ (plainQ A).y0 ≤ 2147483648) ∧ (-2147483648 ≤ (plainQ A).x1 ∧ (plainQ A).x1 ≤ 2147483648) ∧ (-2147483648 ≤ (plainQ A).y1 ∧ (plainQ A).y1 ≤ 2147483648) := by
  unfold plainQ
  split
  · decide
  · exact mayQ_lims h

theorem area_no (A : Q) (w : World) (hm : mayQ A = false) :
    Calls Try.prog 48 #[.agg #[.int .i64 A.x0, .int .i64 A.y0, .int .i64 A.x1, .int .i64 A.y1]] w fun e w' => e = .returned (.tuple #[.int .i64 0, .int .i64 10]) ∧ Below w.heap.size w w' := by
  have M := fun w => mayBox_any A w
  rw [hm] at M
  have I := In1.start w A
  go_enter Try.func48, Try.ntmps48
  go_wp2_with (first | (go_at_call 49; ((with_reducible refine (M _).mono ?_); rintro e w1 ⟨rfl, b1⟩; have I := I.next b1; obtain ⟨_, y1, hA⟩ := id I)))
  go_ret2
  exact ⟨rfl, I.1⟩

theorem area_none (A : Q) (w : World) (hm : mayQ A = true) (he : emptyQ A = true) :
    Calls Try.prog 48 #[.agg #[.int .i64 A.x0, .int .i64 A.y0, .int .i64 A.x1, .int .i64 A.y1]] w fun e w' => e = .returned (.tuple #[.int .i64 0, .int .i64 0]) ∧ Below w.heap.size w w' := by
  have M := fun w => mayBox_any A w
  have P := fun w => plain_zero A w he
  have q1 := fun w => eqB_run 0 0 0 0 0 0 0 0 w
  have q2 := fun x y w => eqB_guard 0 0 0 0 0 0 0 0 x y w
  rw [show eq4 0 0 0 0 0 0 0 0 = true from rfl] at q1
  rw [hm] at M
  have I := In1.start w A
  go_enter Try.func48, Try.ntmps48
  go_wp2_with (first | (go_at_call 49; ((with_reducible refine (M _).mono ?_); rintro e w1 ⟨rfl, b1⟩; have I := I.next b1; obtain ⟨_, y1, hA⟩ := id I)) | (go_at_call 50; ((with_reducible refine (P _).mono ?_); rintro e w2 ⟨rfl, b2⟩; have I := I.next b2; obtain ⟨_, y1, hA⟩ := id I)))
  go_ret2
  exact ⟨rfl, I.1⟩

end Go.Proofs.Ytaaboochologaaa
