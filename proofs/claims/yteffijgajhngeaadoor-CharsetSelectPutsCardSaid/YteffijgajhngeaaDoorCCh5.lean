/- Part 6 of the proof: Flat, ChE, ChF, ChN. -/
import Derived.Deep.MidRow
import Derived.Laws.ResultCell
import Derived.Laws.Rows
import Derived.Laws.Tables
import Derived.Laws.CopyOwn
import Derived.Shelf.Abstract
import Derived.Test.YteffijgajhngeaaDoorCCh4

namespace Go.Proofs.YteffijgajhngeaaDoor
open Go Go.RowKit
set_option linter.unusedVariables false
set_option linter.unusedSimpArgs false

theorem flat_at {α : Type} {f : α → List Value} {sz : Nat} (hf : ∀ x, (f x).length = sz) : ∀ (L : List α) (k : Nat) (x : α), L[k]? = some x → ∀ j v, (f x)[j]? = some v → (L.flatMap f)[k * sz + j]? = some v
  | [], k, x, h, j, v, hv => by simp at h
  | y :: L, 0, x, h, j, v, hv => by
    obtain rfl : y = x := by simpa using h
    have hj := (List.getElem?_eq_some_iff.1 hv).1
    rw [List.flatMap_cons, Nat.zero_mul, Nat.zero_add, List.getElem?_append_left hj]
    exact hv
  | y :: L, k + 1, x, h, j, v, hv => by
    have := flat_at hf L k x (by simpa using h) j v hv
    rw [List.flatMap_cons, List.getElem?_append_right (by rw [hf, Nat.add_mul]; omega), hf, show (k + 1) * sz + j - sz = k * sz + j by rw [Nat.add_mul]; omega]
    exact this
theorem flat_len {α : Type} {f : α → List Value} {sz : Nat} (hf : ∀ x, (f x).length = sz) : ∀ L : List α, (L.flatMap f).length = L.length * sz
  | [] => by simp
  | x :: L => by rw [List.flatMap_cons, List.length_append, hf, flat_len hf L, List.length_cons, Nat.add_mul, Nat.one_mul, Nat.add_comm]
theorem lists_flat {α : Type} {f : α → List Value} {sz : Nat} (hf : ∀ x, (f x).length = sz) (hs : 0 < sz) {w : World} {B : Nat} {A : Option Addr} {L : List α} (h : Lists w B A (L.flatMap f)) {k : Nat} {x : α} (hk : L[k]? = some x) :
    ∃ b o, A = some ⟨b, o, none⟩ ∧ b < B ∧ w.rangeAt b (o + k * sz) (f x) := by
  have h0 : (f x)[0]? = some ((f x)[0]'(by rw [hf]; exact hs)) := List.getElem?_eq_getElem _
  have h1 := flat_at hf L k x hk 0 _ h0
  obtain ⟨b, o, rfl, hb, hc⟩ := h.plain (by intro e; rw [e] at h1; simp at h1)
  exact ⟨b, o, rfl, hb, fun j v hv => by rw [Nat.add_assoc]; exact hc _ _ (flat_at hf L k x hk j v hv)⟩
theorem flat_snoc {α : Type} (f : α → List Value) (L : List α) (x : α) : (L ++ [x]).flatMap f = L.flatMap f ++ f x := by simp
theorem range_below {w w1 : World} {B b o : Nat} {cs : List Value} (h : w.rangeAt b o cs) (hb : b < B) (k : Below B w w1) : w1.rangeAt b o cs := fun j v hv => (k.cell (p := ⟨b, o + j, none⟩) hb).trans (h j v hv)
theorem range_blk {w : World} {p : Nat} {T : TypeId} {cs : List Value} (h : Blk w p T cs.toArray) : w.rangeAt p 0 cs := fun j v hv => by rw [Nat.zero_add, h.cell j, List.getElem?_toArray]; exact hv
theorem blk_row {w : World} {p : Nat} {T : TypeId} {cs : Array Value} (h : Blk w p T cs) (cs1 : Array Value) : Blk (w.setRow p cs1) p T cs1 := setRow_heap w p cs cs1 T (0, 0) h
theorem exec_store_row {P : Program} {ρ : Operand → Value} {o : Oper} {w : World} (ty : TypeId) (x y : Operand) (ho : o.op = .store ty x y)
    (g : Nat) (cells : Array Value) (hx : ρ x = .pointer (some ⟨g, 0, none⟩)) (hy : ρ y = .agg cells)
    (t : TypeId) (old : Array Value) (hg : Blk w g t old) (hi : (P.info? ty).map (·.size) = some cells.size)
    (hold : old.size = cells.size) (h1 : cells.all (·.oneCell') = true) : (execOp ρ o).run P w = .ok .skip (w.setRow g cells) := by
  unfold execOp
  simp only [ho, hx, hy, Instr.storeAt, Instr.sureAddr, Sem.run_bind, Sem.run_pure, Result.andThen_ok, run_storeVar_row w g t ty old cells hg hi hold h1]
theorem exec_load {P : Program} {ρ : Operand → Value} {o : Oper} {w : World} {ty : TypeId} {x : Operand} {p v : Value} (h : (Instr.loadAt ty p).run P w = .ok v w) (ho : o.op = .load ty x) (hx : ρ x = p) : (execOp ρ o).run P w = .ok (.value v) w := by
  unfold execOp
  simp only [ho, hx, Sem.run_bind, h, Result.andThen_ok, Sem.run_pure]
theorem load_blk {P : Program} {w : World} {p : Nat} {T ty : TypeId} {cs : Array Value} {d : TypeDesc} (h : Blk w p T cs) (hu : P.underlying ty = some d) (hd : d.isRow = true) (hi : (P.info? ty).map (·.size) = some cs.size) : (Instr.loadAt ty (.pointer (some ⟨p, 0, none⟩))).run P w = .ok (.agg cs) w := by
  have h1 : w.rangeAt p 0 cs.toList := fun j v hv => by rw [Nat.zero_add, h.cell j]; simpa using hv
  have := run_loadAt_mid (P := P) w p 0 ty cs.toList d h1 hu hd (by simpa using hi)
  simpa using this
theorem only_row {w a : World} {fp : List Nat} (h : Only w a fp) {g : Nat} (hg : g ∈ fp ∨ w.heap.size ≤ g) (cs : Array Value) : Only w (a.setRow g cs) fp :=
  ⟨h.os, h.tape, h.output, by rw [size_setRow]; exact h.size, fun b hb hf => (setRow_other a g b cs (fun e => by subst e; rcases hg with hg | hg; exact hf hg; omega)).trans (h.block b hb hf)⟩
theorem lists_takeF {w : World} {B : Nat} {A : Option Addr} {xs : List Value} (h : Lists w B A xs) (k : Nat) : Lists w B A (xs.take k) :=
  ⟨fun ha => by rw [h.nil ha]; simp, fun a ha j u hu => h.cell a ha j u (by
    rw [List.getElem?_take] at hu
    split at hu
    · exact hu
    · cases hu), fun a ha hx => h.lt a ha (fun e => hx (by rw [e]; simp))⟩
theorem lists_row (w : World) (cs : List Value) (T : TypeId) : Lists (w.alloc (.cells cs.toArray T)) (w.heap.size + 1) (some ⟨w.heap.size, 0, none⟩) cs :=
  ⟨fun ha => (nomatch ha), fun a ha j u hu => by
    cases ha
    rw [addr_plain, World.cell?_alloc_new, Nat.zero_add, ← hu]
    rw [List.getElem?_toArray], fun a ha _ => by cases ha; simp⟩
theorem lists_row_at (w : World) (cs : List Value) (T : TypeId) (k : Nat) (hk : k = w.heap.size) : Lists (w.alloc (.cells cs.toArray T)) (k + 1) (some ⟨k, 0, none⟩) cs := hk ▸ lists_row w cs T
theorem results_row_tmp {P : Program} {fn : Func} {p u : Tmp} {ty : TypeId} (h : fn.results = #[.cell p ty, .tmp u]) (tmps : Array Value) (w : World) (g : Nat) (t : TypeId) (cs : Array Value) (fr : Nat × Nat) (d : TypeDesc) (v : Value)
    (hp : tmps.getD p undef = .pointer (some ⟨g, 0, none⟩)) (hv : tmps.getD u undef = v) (hg : w.heap[g]? = some (.cells cs t fr))
    (hu : P.underlying ty = some d) (hd : (match d with | .struct _ | .array _ _ => true | _ => false) = true) (hi : (P.info? ty).map (·.size) = some cs.size) :
    (results fn tmps).run P w = .ok (.tuple #[.agg cs, v]) w := by
  rw [results_cell_tmp h, hp, hv]
  simp [asAddr, Result.andThen, run_loadVar_row w g t ty cs fr d hg hu hd hi]
theorem results_row_tmp2 {P : Program} {fn : Func} {p u u2 : Tmp} {ty : TypeId} (h : fn.results = #[.cell p ty, .tmp u, .tmp u2]) (tmps : Array Value) (w : World) (g : Nat) (t : TypeId) (cs : Array Value) (fr : Nat × Nat) (d : TypeDesc) (v v2 : Value)
    (hp : tmps.getD p undef = .pointer (some ⟨g, 0, none⟩)) (hv : tmps.getD u undef = v) (hv2 : tmps.getD u2 undef = v2) (hg : w.heap[g]? = some (.cells cs t fr))
    (hu : P.underlying ty = some d) (hd : (match d with | .struct _ | .array _ _ => true | _ => false) = true) (hi : (P.info? ty).map (·.size) = some cs.size) :
    (results fn tmps).run P w = .ok (.tuple #[.agg cs, v, v2]) w := by
  have hp' : tmps[p]?.getD undef = .pointer (some ⟨g, 0, none⟩) := by simpa using hp
  have hv' : tmps[u]?.getD undef = v := by simpa using hv
  have hv2' : tmps[u2]?.getD undef = v2 := by simpa using hv2
  simp [results, h, hp', hv', hv2', Sem.run_bind, asAddr, Result.andThen, run_loadVar_row w g t ty cs fr d hg hu hd hi]
end Go.Proofs.YteffijgajhngeaaDoor

namespace Go.Proofs.YteffijgajhngeaaDoor
open Go Go.RowKit
set_option linter.unusedVariables false
set_option linter.unusedSimpArgs false

/-- How far a run goes on. -/
def runF (P : Int → Int → Bool) (most : Nat) (L : List Int) : Nat → Nat → Nat
  | 0, n => n
  | m + 1, n => if n < min L.length most ∧ P (L.getD (n - 1) 0) (L.getD n 0) = true then runF P most L m (n + 1) else n
def runN (P : Int → Int → Bool) (most : Nat) (L : List Int) : Nat := runF P most L L.length 1
theorem runF_le (P : Int → Int → Bool) (most : Nat) (L : List Int) : ∀ m n, n ≤ runF P most L m n ∧ (n ≤ min L.length most → runF P most L m n ≤ min L.length most)
  | 0, n => ⟨Nat.le_refl _, fun h => h⟩
  | m + 1, n => by
    unfold runF
    split
    · rename_i h
      have := runF_le P most L m (n + 1)
      exact ⟨by omega, fun _ => this.2 (by omega)⟩
    · exact ⟨Nat.le_refl _, fun h => h⟩
theorem runN_le {P : Int → Int → Bool} {most : Nat} {L : List Int} (h1 : 1 ≤ L.length) (hm : 1 ≤ most) : 1 ≤ runN P most L ∧ runN P most L ≤ L.length ∧ runN P most L ≤ most := by
  have := runF_le P most L L.length 1
  unfold runN
  have h := this.2 (by omega)
  omega
/-- How many each run has. -/
def cntsF (P : Int → Int → Bool) (most : Nat) : Nat → List Int → List Nat
  | 0, _ => []
  | m + 1, L => if L.length = 0 then [] else runN P most L :: cntsF P most m (L.drop (runN P most L))
def cnts (P : Int → Int → Bool) (most : Nat) (L : List Int) : List Nat := cntsF P most L.length L
theorem cntsF_nil {P : Int → Int → Bool} {most m : Nat} {L : List Int} (h : L.length = 0) : cntsF P most m L = [] := by
  cases m with
  | zero => rfl
  | succ m => unfold cntsF; rw [if_pos h]
theorem cntsF_more {P : Int → Int → Bool} {most m : Nat} {L : List Int} (h : L.length ≠ 0) : cntsF P most (m + 1) L = runN P most L :: cntsF P most m (L.drop (runN P most L)) := by
  conv => lhs; unfold cntsF
  rw [if_neg h]
theorem runF_yes {P : Int → Int → Bool} {most : Nat} {L : List Int} {m k : Nat} (h : k + 1 < min L.length most) (hp : P (L.getD k 0) (L.getD (k + 1) 0) = true) : runF P most L (m + 1) (k + 1) = runF P most L m (k + 1 + 1) := by
  conv => lhs; unfold runF
  rw [Nat.add_sub_cancel, if_pos ⟨h, hp⟩]
theorem runF_no {P : Int → Int → Bool} {most : Nat} {L : List Int} {m k : Nat} (h : ¬ (k + 1 < min L.length most ∧ P (L.getD k 0) (L.getD (k + 1) 0) = true)) : runF P most L m (k + 1) = k + 1 := by
  cases m with
  | zero => rfl
  | succ m => unfold runF; rw [Nat.add_sub_cancel, if_neg h]
theorem cntsF_len {P : Int → Int → Bool} {most : Nat} (hm : 1 ≤ most) : ∀ (m : Nat) (L : List Int), (cntsF P most m L).length ≤ L.length
  | 0, L => by simp [cntsF]
  | m + 1, L => by
    unfold cntsF
    split
    · simp
    · rename_i h
      have := cntsF_len (P := P) hm m (L.drop (runN P most L))
      have h1 := runN_le (P := P) (most := most) (L := L) (by omega) hm
      rw [List.length_drop] at this
      rw [List.length_cons]
      omega
theorem slice_okI (A : Option Addr) (n c a : Nat) (h1 : a ≤ n) (h2 : n ≤ c) (w : World) : (Instr.sliceAt 24 (.slice A n c) (some (.int .i64 (a : Nat))) none none).run Tryd.prog w = .ok (.slice (if c = a then A else A.map (·.add a)) (n - a) (c - a)) w := by
  have hu := Tryd.underlying24
  have hz := Tryd.sizeOf3
  have i2 : (n : Int) ≤ (c : Int) := by omega
  have i3 : (0 : Int) ≤ (a : Int) := by omega
  have i4 : (a : Int) ≤ (n : Int) := by omega
  simp [Instr.sliceAt, Instr.slice, Instr.sliceBounds, Instr.sliceBound, run_underlying hu, Sem.run_bind, Sem.run_pure, Result.andThen, asIntOf, hz, i3, h1, h2]
theorem lists_dropI {w : World} {B : Nat} {A : Option Addr} {L : List Int} (h : Lists w B A (intCells L)) (a c : Nat) (h1 : a ≤ L.length) (h2 : L.length ≤ c) : Lists w B (if c = a then A else A.map (·.add a)) (intCells (L.drop a)) := by
  have e : intCells (L.drop a) = ((intCells L).drop a).take (L.length - a) := by
    unfold intCells
    rw [List.map_drop, List.take_of_length_le (by simp)]
  rw [e]
  by_cases hc : c = a
  · rw [if_pos hc, show L.length - a = 0 by omega, List.take_zero]
    exact ⟨fun _ => rfl, fun _ _ j u hu => by simp at hu, fun _ _ hx => absurd rfl hx⟩
  · rw [if_neg hc]
    exact lists_part h a (L.length - a)
theorem intCells_atD {L : List Int} {j : Nat} (h : j < L.length) : (intCells L)[j]? = some (.int .i64 (L.getD j 0)) := by
  unfold intCells
  rw [List.getElem?_map, List.getD_eq_getElem?_getD, List.getElem?_eq_getElem h]
  rfl
set_option maxRecDepth 100000 in
set_option maxHeartbeats 4000000 in
theorem cranges_any (g : FuncId) (P : Int → Int → Bool) (B : Nat) (A : Option Addr) (c n most : Nat) (L : List Int) (w : World) (hB : B ≤ w.heap.size) (hL : Lists w B A (intCells L)) (hnn : L.length = n) (hc : n ≤ c) (hn : n ≤ 65536) (hm : 1 ≤ most) (hm2 : most ≤ 65536)
    (eg : ∀ args w, (callFunc g args).run Tryd.prog w = .ok (.enter g args) w)
    (hp : ∀ (W : World) (x y : Int), Calls Tryd.prog g #[.int .i64 x, .int .i64 y] W fun e w' => e = .returned (.bool (P x y)) ∧ W = w') :
    Calls Tryd.prog 36 #[.slice A n c, .int .i64 (most : Nat), .func (.func g) #[] #[]] w fun e w' => ∃ v, e = .returned v ∧ w'.ownsRow w.heap.size 3 1 v (cnts P most L).length (intCells ((cnts P most L).map Int.ofNat)) ∧ Below w.heap.size w w' := by
  obtain ⟨R, hR⟩ : ∃ R, R = cnts P most L := ⟨_, rfl⟩
  rw [← hR]
  have HS0 := Lib.hid (show [] ++ cntsF P most n L = R by rw [hR, List.nil_append, ← hnn]; rfl)
  have HL0 := Lib.hid hL
  have HP := Lib.hid hp
  have HN := Lib.hid hnn
  clear hR hL hp hnn
  obtain ⟨i0, hi, hz0, hz1, hz2⟩ := info_parts intInfoC
  go_enter Tryd.func36, Tryd.ntmps36
  go_wp2
  go_loopw [0, 7] (fun lv cv wr => ∃ (m : Nat) (Lr : List Int) (acc : List Nat) (A' : Option Addr) (n' c' : Nat), lv = .slice A' n' c' ∧ Hid (Lr.length = n') ∧ Hid (Lists wr B A' (intCells Lr)) ∧ n' ≤ c' ∧ n' ≤ m ∧ n' + acc.length ≤ 65536 ∧ Hid (acc ++ cntsF P most m Lr = R) ∧ wr.ownsRow w.heap.size 3 1 cv acc.length (intCells (acc.map Int.ofNat)) ∧ Below w.heap.size w wr) (fun lv _ _ => sLenC lv)
  case atStart => exact ⟨n, L, [], A, n, c, rfl, HN, HL0, hc, Nat.le_refl _, by simpa using hn, HS0, World.ownsRow_nil _ _ _ _, Below.refl _ _⟩
  case round =>
    obtain ⟨m, Lr, acc, A', n', c', rfl, hLn, hLi, hc', hmn, hacc, hgo, hown, hb⟩ := hrel
    obtain ⟨wq, rfl⟩ : ∃ wq, wq = wr := ⟨_, rfl⟩
    have hbs := hb.size
    by_cases hlt : 0 < n'
    · have d1 : (n' : Int) > 0 := by omega
      obtain ⟨m1, rfl⟩ : ∃ x, m = x + 1 := ⟨m - 1, by omega⟩
      have hrl := runN_le (P := P) (most := most) (L := Lr) (by rw [hLn.out]; exact hlt) hm
      rw [hLn.out] at hrl
      have HCO := Lib.hid (cntsF_more (P := P) (most := most) (m := m1) (L := Lr) (by rw [hLn.out]; omega))
      obtain ⟨b, o, hA', hbl, hcl⟩ := hLi.out.plain (by intro e; have h2 := congrArg List.length e; rw [intCells_len, hLn.out] at h2; simp at h2; omega)
      have HCL := Lib.hid (show ∀ j, j < n' → ∀ V, Below wq.heap.size wq V → V.cell? ⟨b, o + j, none⟩ = some (.int .i64 (Lr.getD j 0)) from fun j hj V hV => (hV.cell (p := ⟨b, o + j, none⟩) (show b < wq.heap.size by omega)).trans (hcl j _ (intCells_atD (by rw [hLn.out]; exact hj))))
      obtain ⟨rn, hrn⟩ : ∃ rn, runN P most Lr = rn := ⟨_, rfl⟩
      have HRN := Lib.hid (show runF P most Lr n' 1 = rn by rw [← hrn, ← hLn.out]; rfl)
      rw [hrn] at hrl
      rw [hrn] at HCO
      subst hA'
      clear hcl hrn
      go_wp2
      go_loopw [8] (fun kv wi => ∃ k f : Nat, kv = .int .i64 ((k : Int) + 1) ∧ k + 1 ≤ n' ∧ n' ≤ k + 1 + f ∧ Hid (runF P most Lr f (k + 1) = rn) ∧ Below wq.heap.size wq wi) (fun kv _ => n' - (intOf kv).toNat)
      case atStart => exact ⟨0, n', rfl, hlt, by omega, HRN, Below.refl _ _⟩
      case round =>
        obtain ⟨k, f, rfl, hkn, hkf, hrun, hbi⟩ := hrel
        have hI : Below wq.heap.size wq wr.drew := hbi.drew
        have hsw := hbs
        have hiw := hbi.size
        have e0 : IntKind.i64.wrap (k : Int) = (k : Int) := IntWalk.i64_in _ (by omega)
        by_cases hin : k + 1 < n' ∧ k + 1 < most
        · obtain ⟨f1, rfl⟩ : ∃ x, f = x + 1 := ⟨f - 1, by omega⟩
          have n3 : (k : Int) < (n' : Int) := by omega
          have n3b : k < n' := by omega
          have n4b : k + 1 < n' := by omega
          have n5b : k + 1 < most := by omega
          have n4 : (k : Int) + 1 < (n' : Int) := by omega
          have n5 : (k : Int) + 1 < (most : Int) := by omega
          have n7 : (0 : Int) ≤ (k : Int) + 1 := by omega
          have n8 : ((k : Int) + 1).toNat = k + 1 := by omega
          have hmn2 : k + 1 < min Lr.length most := by rw [hLn.out]; omega
          cases hpp : P (Lr.getD k 0) (Lr.getD (k + 1) 0)
          · have HRK := Lib.hid (show rn = k + 1 by rw [← hrun.out]; exact runF_no (fun h => by rw [hpp] at h; cases h.2))
            have CP := fun V => HP.out V (Lr.getD k 0) (Lr.getD (k + 1) 0)
            rw [hpp] at CP
            rcases Nat.lt_or_ge most n' with hmm | hmm
            · have hmx : (most < n') = True := by simp; omega
              clear hpp hrun
              go_wp2
              refine wp_region_chain (fun V => Below wq.heap.size wq V) [(0, false), (1, false), (2, false), (3, false), (4, false), (5, false), (6, false), (7, false), (8, false), (9, false), (10, false), (11, false), (12, false), (13, false), (14, false), (15, false), (16, false), (17, true), (18, false)] (by kernel_rfl) (by kernel_rfl) hI ?_
              repeat (first
                | (refine ChainL.skip (o := ?_) ?_ ?_ ?_; rotate_left; (focus (first | (simp only [List.getElem?_toArray, List.getElem?_cons_succ, List.getElem?_cons_zero]; with_reducible rfl) | (simp only [List.getElem?_toArray, List.getElem?_cons_zero]; with_reducible rfl))); (focus rfl); simp only [Act.put, List.setIfInBounds_toArray, List.set_cons_zero, List.set_cons_succ])
                | (refine ChainL.val (o := ?_) (v := ?_) ?_ ?_ ?_ ?_ ?_; rotate_left 2; (focus (first | (simp only [List.getElem?_toArray, List.getElem?_cons_succ, List.getElem?_cons_zero]; with_reducible rfl) | (simp only [List.getElem?_toArray, List.getElem?_cons_zero]; with_reducible rfl))); (focus (intro _ _ h; cases h)); (focus rfl); (focus (intro w' hJ; have y1 := HCL.out k (by omega) _ hJ; have y2 := HCL.out (k + 1) (by omega) _ hJ; go_simp <;> with_reducible rfl)); simp only [Act.put, List.setIfInBounds_toArray, List.set_cons_zero, List.set_cons_succ]))
              refine ChainL.call (o := ?_) (f := ?_) (args := ?_) ?_ ?_ ?_ ?_
              rotate_left 3
              (focus (simp only [List.getElem?_toArray, List.getElem?_cons_succ, List.getElem?_cons_zero]; with_reducible rfl))
              (focus rfl)
              (focus (go_simp; first | exact eg _ _ | (constructor <;> with_reducible rfl)))
              refine (CP _).mono ?_
              rintro e w' ⟨rfl, rfl⟩
              refine ⟨_, rfl, hI, ?_⟩
              simp only [Act.put, List.setIfInBounds_toArray, List.set_cons_zero, List.set_cons_succ]
              repeat (first
                | (refine ChainL.skip (o := ?_) ?_ ?_ ?_; rotate_left; (focus (first | (simp only [List.getElem?_toArray, List.getElem?_cons_succ, List.getElem?_cons_zero]; with_reducible rfl) | (simp only [List.getElem?_toArray, List.getElem?_cons_zero]; with_reducible rfl))); (focus rfl); simp only [Act.put, List.setIfInBounds_toArray, List.set_cons_zero, List.set_cons_succ])
                | (refine ChainL.val (o := ?_) (v := ?_) ?_ ?_ ?_ ?_ ?_; rotate_left 2; (focus (first | (simp only [List.getElem?_toArray, List.getElem?_cons_succ, List.getElem?_cons_zero]; with_reducible rfl) | (simp only [List.getElem?_toArray, List.getElem?_cons_zero]; with_reducible rfl))); (focus (intro _ _ h; cases h)); (focus rfl); (focus (intro w' hJ; have y1 := HCL.out k (by omega) _ hJ; have y2 := HCL.out (k + 1) (by omega) _ hJ; go_simp <;> with_reducible rfl)); simp only [Act.put, List.setIfInBounds_toArray, List.set_cons_zero, List.set_cons_succ]))
              refine ChainL.nil ?_
              have SL := fun W => slice_okI (some ⟨b, o, none⟩) n' c' (k + 1) (by omega) hc' W
              rw [show (((k + 1 : Nat)) : Int) = (k : Int) + 1 by omega] at SL
              have HLD := Lib.hid (lists_dropI hLi.out (k + 1) c' (by rw [hLn.out]; omega) (by rw [hLn.out]; exact hc'))
              have HE9 := Lib.hid (show intCells ((acc ++ [k + 1]).map Int.ofNat) = intCells (acc.map Int.ofNat) ++ [.int .i64 ((k : Int) + 1)] by unfold intCells; rw [List.map_append, List.map_append]; rfl)
              generalize (if c' = k + 1 then some (⟨b, o, none⟩ : Addr) else (some (⟨b, o, none⟩ : Addr)).map (·.add (k + 1))) = A2 at *
              go_wp2_with (first | (at_builtin; refine wpList_append_src _ rfl (.tmp 33) (.tmp 35) 24 rfl w.heap.size 3 i0 (.int .i64 0) 1 8 Tryd.underlying24 hi hz0 hz1 hz2 rfl (by decide) _ acc.length (intCells (acc.map Int.ofNat)) rfl (own_only hown ((Only.of_below hI []).alloc (.cells #[.int .i64 ((k : Int) + 1)] 3)) (fun _ _ h => (nomatch h))) (wr.drew.heap.size + 1) (some ⟨wr.drew.heap.size, 0, none⟩) 1 1 [.int .i64 ((k : Int) + 1)] (by rfl) (lists_row wr.drew [.int .i64 ((k : Int) + 1)] 3) rfl (by simp [Value.oneCell']) (by simp only [maxLen]; omega) (by omega) (by have := hI.size; simp; omega) ?_; intro v7 w7 own7 hg7 hat7; have bw7 : Below w.heap.size wq w7 := ((hI.mono hsw).alloc (by have := hI.size; omega) _).grown hg7 (by have := hI.size; simp; omega) (fun j hj => (hown.lt j hj).1); have b7 := hb.trans bw7))
              go_roundw
              case rel => exact ⟨m1, Lr.drop (k + 1), acc ++ [k + 1], A2, n' - (k + 1), c' - (k + 1), rfl, Lib.hid (by rw [List.length_drop, hLn.out]), Lib.hid (HLD.out.below (bw7.mono hB)), by omega, by omega, by rw [List.length_append]; simp; omega, Lib.hid (by rw [← hgo.out, HCO.out, HRK.out, List.append_assoc]; rfl), by rw [List.length_append, HE9.out]; exact own7, b7⟩
              case measure => simp [sLenC]; omega
            · have hmx : (most < n') = False := by simp; omega
              clear hpp hrun
              go_wp2
              refine wp_region_chain (fun V => Below wq.heap.size wq V) [(0, false), (1, false), (2, false), (3, false), (4, false), (5, false), (6, false), (7, false), (8, false), (9, false), (10, false), (11, false), (12, false), (13, false), (14, false), (15, false), (16, false), (17, true), (18, false)] (by kernel_rfl) (by kernel_rfl) hI ?_
              repeat (first
                | (refine ChainL.skip (o := ?_) ?_ ?_ ?_; rotate_left; (focus (first | (simp only [List.getElem?_toArray, List.getElem?_cons_succ, List.getElem?_cons_zero]; with_reducible rfl) | (simp only [List.getElem?_toArray, List.getElem?_cons_zero]; with_reducible rfl))); (focus rfl); simp only [Act.put, List.setIfInBounds_toArray, List.set_cons_zero, List.set_cons_succ])
                | (refine ChainL.val (o := ?_) (v := ?_) ?_ ?_ ?_ ?_ ?_; rotate_left 2; (focus (first | (simp only [List.getElem?_toArray, List.getElem?_cons_succ, List.getElem?_cons_zero]; with_reducible rfl) | (simp only [List.getElem?_toArray, List.getElem?_cons_zero]; with_reducible rfl))); (focus (intro _ _ h; cases h)); (focus rfl); (focus (intro w' hJ; have y1 := HCL.out k (by omega) _ hJ; have y2 := HCL.out (k + 1) (by omega) _ hJ; go_simp <;> with_reducible rfl)); simp only [Act.put, List.setIfInBounds_toArray, List.set_cons_zero, List.set_cons_succ]))
              refine ChainL.call (o := ?_) (f := ?_) (args := ?_) ?_ ?_ ?_ ?_
              rotate_left 3
              (focus (simp only [List.getElem?_toArray, List.getElem?_cons_succ, List.getElem?_cons_zero]; with_reducible rfl))
              (focus rfl)
              (focus (go_simp; first | exact eg _ _ | (constructor <;> with_reducible rfl)))
              refine (CP _).mono ?_
              rintro e w' ⟨rfl, rfl⟩
              refine ⟨_, rfl, hI, ?_⟩
              simp only [Act.put, List.setIfInBounds_toArray, List.set_cons_zero, List.set_cons_succ]
              repeat (first
                | (refine ChainL.skip (o := ?_) ?_ ?_ ?_; rotate_left; (focus (first | (simp only [List.getElem?_toArray, List.getElem?_cons_succ, List.getElem?_cons_zero]; with_reducible rfl) | (simp only [List.getElem?_toArray, List.getElem?_cons_zero]; with_reducible rfl))); (focus rfl); simp only [Act.put, List.setIfInBounds_toArray, List.set_cons_zero, List.set_cons_succ])
                | (refine ChainL.val (o := ?_) (v := ?_) ?_ ?_ ?_ ?_ ?_; rotate_left 2; (focus (first | (simp only [List.getElem?_toArray, List.getElem?_cons_succ, List.getElem?_cons_zero]; with_reducible rfl) | (simp only [List.getElem?_toArray, List.getElem?_cons_zero]; with_reducible rfl))); (focus (intro _ _ h; cases h)); (focus rfl); (focus (intro w' hJ; have y1 := HCL.out k (by omega) _ hJ; have y2 := HCL.out (k + 1) (by omega) _ hJ; go_simp <;> with_reducible rfl)); simp only [Act.put, List.setIfInBounds_toArray, List.set_cons_zero, List.set_cons_succ]))
              refine ChainL.nil ?_
              have SL := fun W => slice_okI (some ⟨b, o, none⟩) n' c' (k + 1) (by omega) hc' W
              rw [show (((k + 1 : Nat)) : Int) = (k : Int) + 1 by omega] at SL
              have HLD := Lib.hid (lists_dropI hLi.out (k + 1) c' (by rw [hLn.out]; omega) (by rw [hLn.out]; exact hc'))
              have HE9 := Lib.hid (show intCells ((acc ++ [k + 1]).map Int.ofNat) = intCells (acc.map Int.ofNat) ++ [.int .i64 ((k : Int) + 1)] by unfold intCells; rw [List.map_append, List.map_append]; rfl)
              generalize (if c' = k + 1 then some (⟨b, o, none⟩ : Addr) else (some (⟨b, o, none⟩ : Addr)).map (·.add (k + 1))) = A2 at *
              go_wp2_with (first | (at_builtin; refine wpList_append_src _ rfl (.tmp 33) (.tmp 35) 24 rfl w.heap.size 3 i0 (.int .i64 0) 1 8 Tryd.underlying24 hi hz0 hz1 hz2 rfl (by decide) _ acc.length (intCells (acc.map Int.ofNat)) rfl (own_only hown ((Only.of_below hI []).alloc (.cells #[.int .i64 ((k : Int) + 1)] 3)) (fun _ _ h => (nomatch h))) (wr.drew.heap.size + 1) (some ⟨wr.drew.heap.size, 0, none⟩) 1 1 [.int .i64 ((k : Int) + 1)] (by rfl) (lists_row wr.drew [.int .i64 ((k : Int) + 1)] 3) rfl (by simp [Value.oneCell']) (by simp only [maxLen]; omega) (by omega) (by have := hI.size; simp; omega) ?_; intro v7 w7 own7 hg7 hat7; have bw7 : Below w.heap.size wq w7 := ((hI.mono hsw).alloc (by have := hI.size; omega) _).grown hg7 (by have := hI.size; simp; omega) (fun j hj => (hown.lt j hj).1); have b7 := hb.trans bw7))
              go_roundw
              case rel => exact ⟨m1, Lr.drop (k + 1), acc ++ [k + 1], A2, n' - (k + 1), c' - (k + 1), rfl, Lib.hid (by rw [List.length_drop, hLn.out]), Lib.hid (HLD.out.below (bw7.mono hB)), by omega, by omega, by rw [List.length_append]; simp; omega, Lib.hid (by rw [← hgo.out, HCO.out, HRK.out, List.append_assoc]; rfl), by rw [List.length_append, HE9.out]; exact own7, b7⟩
              case measure => simp [sLenC]; omega
          · have HRK := Lib.hid (show runF P most Lr f1 (k + 1 + 1) = rn by rw [← hrun.out]; exact (runF_yes hmn2 hpp).symm)
            have CP := fun V => HP.out V (Lr.getD k 0) (Lr.getD (k + 1) 0)
            rw [hpp] at CP
            rcases Nat.lt_or_ge most n' with hmm | hmm
            · have hmx : (most < n') = True := by simp; omega
              clear hpp hrun
              go_wp2
              refine wp_region_chain (fun V => Below wq.heap.size wq V) [(0, false), (1, false), (2, false), (3, false), (4, false), (5, false), (6, false), (7, false), (8, false), (9, false), (10, false), (11, false), (12, false), (13, false), (14, false), (15, false), (16, false), (17, true), (18, false)] (by kernel_rfl) (by kernel_rfl) hI ?_
              repeat (first
                | (refine ChainL.skip (o := ?_) ?_ ?_ ?_; rotate_left; (focus (first | (simp only [List.getElem?_toArray, List.getElem?_cons_succ, List.getElem?_cons_zero]; with_reducible rfl) | (simp only [List.getElem?_toArray, List.getElem?_cons_zero]; with_reducible rfl))); (focus rfl); simp only [Act.put, List.setIfInBounds_toArray, List.set_cons_zero, List.set_cons_succ])
                | (refine ChainL.val (o := ?_) (v := ?_) ?_ ?_ ?_ ?_ ?_; rotate_left 2; (focus (first | (simp only [List.getElem?_toArray, List.getElem?_cons_succ, List.getElem?_cons_zero]; with_reducible rfl) | (simp only [List.getElem?_toArray, List.getElem?_cons_zero]; with_reducible rfl))); (focus (intro _ _ h; cases h)); (focus rfl); (focus (intro w' hJ; have y1 := HCL.out k (by omega) _ hJ; have y2 := HCL.out (k + 1) (by omega) _ hJ; go_simp <;> with_reducible rfl)); simp only [Act.put, List.setIfInBounds_toArray, List.set_cons_zero, List.set_cons_succ]))
              refine ChainL.call (o := ?_) (f := ?_) (args := ?_) ?_ ?_ ?_ ?_
              rotate_left 3
              (focus (simp only [List.getElem?_toArray, List.getElem?_cons_succ, List.getElem?_cons_zero]; with_reducible rfl))
              (focus rfl)
              (focus (go_simp; first | exact eg _ _ | (constructor <;> with_reducible rfl)))
              refine (CP _).mono ?_
              rintro e w' ⟨rfl, rfl⟩
              refine ⟨_, rfl, hI, ?_⟩
              simp only [Act.put, List.setIfInBounds_toArray, List.set_cons_zero, List.set_cons_succ]
              repeat (first
                | (refine ChainL.skip (o := ?_) ?_ ?_ ?_; rotate_left; (focus (first | (simp only [List.getElem?_toArray, List.getElem?_cons_succ, List.getElem?_cons_zero]; with_reducible rfl) | (simp only [List.getElem?_toArray, List.getElem?_cons_zero]; with_reducible rfl))); (focus rfl); simp only [Act.put, List.setIfInBounds_toArray, List.set_cons_zero, List.set_cons_succ])
                | (refine ChainL.val (o := ?_) (v := ?_) ?_ ?_ ?_ ?_ ?_; rotate_left 2; (focus (first | (simp only [List.getElem?_toArray, List.getElem?_cons_succ, List.getElem?_cons_zero]; with_reducible rfl) | (simp only [List.getElem?_toArray, List.getElem?_cons_zero]; with_reducible rfl))); (focus (intro _ _ h; cases h)); (focus rfl); (focus (intro w' hJ; have y1 := HCL.out k (by omega) _ hJ; have y2 := HCL.out (k + 1) (by omega) _ hJ; go_simp <;> with_reducible rfl)); simp only [Act.put, List.setIfInBounds_toArray, List.set_cons_zero, List.set_cons_succ]))
              refine ChainL.nil ?_
              go_wp2
              go_roundw
              case rel => exact ⟨k + 1, f1, by first | rfl | go_num, by omega, by omega, HRK, hI⟩
              case measure => simp [intOf]; omega
            · have hmx : (most < n') = False := by simp; omega
              clear hpp hrun
              go_wp2
              refine wp_region_chain (fun V => Below wq.heap.size wq V) [(0, false), (1, false), (2, false), (3, false), (4, false), (5, false), (6, false), (7, false), (8, false), (9, false), (10, false), (11, false), (12, false), (13, false), (14, false), (15, false), (16, false), (17, true), (18, false)] (by kernel_rfl) (by kernel_rfl) hI ?_
              repeat (first
                | (refine ChainL.skip (o := ?_) ?_ ?_ ?_; rotate_left; (focus (first | (simp only [List.getElem?_toArray, List.getElem?_cons_succ, List.getElem?_cons_zero]; with_reducible rfl) | (simp only [List.getElem?_toArray, List.getElem?_cons_zero]; with_reducible rfl))); (focus rfl); simp only [Act.put, List.setIfInBounds_toArray, List.set_cons_zero, List.set_cons_succ])
                | (refine ChainL.val (o := ?_) (v := ?_) ?_ ?_ ?_ ?_ ?_; rotate_left 2; (focus (first | (simp only [List.getElem?_toArray, List.getElem?_cons_succ, List.getElem?_cons_zero]; with_reducible rfl) | (simp only [List.getElem?_toArray, List.getElem?_cons_zero]; with_reducible rfl))); (focus (intro _ _ h; cases h)); (focus rfl); (focus (intro w' hJ; have y1 := HCL.out k (by omega) _ hJ; have y2 := HCL.out (k + 1) (by omega) _ hJ; go_simp <;> with_reducible rfl)); simp only [Act.put, List.setIfInBounds_toArray, List.set_cons_zero, List.set_cons_succ]))
              refine ChainL.call (o := ?_) (f := ?_) (args := ?_) ?_ ?_ ?_ ?_
              rotate_left 3
              (focus (simp only [List.getElem?_toArray, List.getElem?_cons_succ, List.getElem?_cons_zero]; with_reducible rfl))
              (focus rfl)
              (focus (go_simp; first | exact eg _ _ | (constructor <;> with_reducible rfl)))
              refine (CP _).mono ?_
              rintro e w' ⟨rfl, rfl⟩
              refine ⟨_, rfl, hI, ?_⟩
              simp only [Act.put, List.setIfInBounds_toArray, List.set_cons_zero, List.set_cons_succ]
              repeat (first
                | (refine ChainL.skip (o := ?_) ?_ ?_ ?_; rotate_left; (focus (first | (simp only [List.getElem?_toArray, List.getElem?_cons_succ, List.getElem?_cons_zero]; with_reducible rfl) | (simp only [List.getElem?_toArray, List.getElem?_cons_zero]; with_reducible rfl))); (focus rfl); simp only [Act.put, List.setIfInBounds_toArray, List.set_cons_zero, List.set_cons_succ])
                | (refine ChainL.val (o := ?_) (v := ?_) ?_ ?_ ?_ ?_ ?_; rotate_left 2; (focus (first | (simp only [List.getElem?_toArray, List.getElem?_cons_succ, List.getElem?_cons_zero]; with_reducible rfl) | (simp only [List.getElem?_toArray, List.getElem?_cons_zero]; with_reducible rfl))); (focus (intro _ _ h; cases h)); (focus rfl); (focus (intro w' hJ; have y1 := HCL.out k (by omega) _ hJ; have y2 := HCL.out (k + 1) (by omega) _ hJ; go_simp <;> with_reducible rfl)); simp only [Act.put, List.setIfInBounds_toArray, List.set_cons_zero, List.set_cons_succ]))
              refine ChainL.nil ?_
              go_wp2
              go_roundw
              case rel => exact ⟨k + 1, f1, by first | rfl | go_num, by omega, by omega, HRK, hI⟩
              case measure => simp [intOf]; omega
        · have HRK := Lib.hid (show rn = k + 1 by rw [← hrun.out]; exact runF_no (fun h => hin (by have := h.1; rw [hLn.out] at this; omega)))
          rcases Nat.lt_or_ge most n' with hmm | hmm
          · have hmx : (most < n') = True := by simp; omega
            have dk : ((k : Int) + 1 < (most : Int)) = False := by simp; omega
            clear hrun
            go_wp2
            refine wp_region_chain (fun V => Below wq.heap.size wq V) [(0, false), (1, false), (2, false), (3, false), (4, false), (5, false), (6, false), (7, false), (8, false), (9, false), (10, false), (11, false), (12, false), (13, false), (14, false), (15, false), (16, false), (17, false), (18, false)] (by kernel_rfl) (by kernel_rfl) hI ?_
            repeat (first
              | (refine ChainL.skip (o := ?_) ?_ ?_ ?_; rotate_left; (focus (first | (simp only [List.getElem?_toArray, List.getElem?_cons_succ, List.getElem?_cons_zero]; with_reducible rfl) | (simp only [List.getElem?_toArray, List.getElem?_cons_zero]; with_reducible rfl))); (focus rfl); simp only [Act.put, List.setIfInBounds_toArray, List.set_cons_zero, List.set_cons_succ])
              | (refine ChainL.val (o := ?_) (v := ?_) ?_ ?_ ?_ ?_ ?_; rotate_left 2; (focus (first | (simp only [List.getElem?_toArray, List.getElem?_cons_succ, List.getElem?_cons_zero]; with_reducible rfl) | (simp only [List.getElem?_toArray, List.getElem?_cons_zero]; with_reducible rfl))); (focus (intro _ _ h; cases h)); (focus rfl); (focus (intro w' hJ; skip; go_simp <;> with_reducible rfl)); simp only [Act.put, List.setIfInBounds_toArray, List.set_cons_zero, List.set_cons_succ]))
            refine ChainL.nil ?_
            have SL := fun W => slice_okI (some ⟨b, o, none⟩) n' c' (k + 1) (by omega) hc' W
            rw [show (((k + 1 : Nat)) : Int) = (k : Int) + 1 by omega] at SL
            have HLD := Lib.hid (lists_dropI hLi.out (k + 1) c' (by rw [hLn.out]; omega) (by rw [hLn.out]; exact hc'))
            have HE9 := Lib.hid (show intCells ((acc ++ [k + 1]).map Int.ofNat) = intCells (acc.map Int.ofNat) ++ [.int .i64 ((k : Int) + 1)] by unfold intCells; rw [List.map_append, List.map_append]; rfl)
            generalize (if c' = k + 1 then some (⟨b, o, none⟩ : Addr) else (some (⟨b, o, none⟩ : Addr)).map (·.add (k + 1))) = A2 at *
            go_wp2_with (first | (at_builtin; refine wpList_append_src _ rfl (.tmp 33) (.tmp 35) 24 rfl w.heap.size 3 i0 (.int .i64 0) 1 8 Tryd.underlying24 hi hz0 hz1 hz2 rfl (by decide) _ acc.length (intCells (acc.map Int.ofNat)) rfl (own_only hown ((Only.of_below hI []).alloc (.cells #[.int .i64 ((k : Int) + 1)] 3)) (fun _ _ h => (nomatch h))) (wr.drew.heap.size + 1) (some ⟨wr.drew.heap.size, 0, none⟩) 1 1 [.int .i64 ((k : Int) + 1)] (by rfl) (lists_row wr.drew [.int .i64 ((k : Int) + 1)] 3) rfl (by simp [Value.oneCell']) (by simp only [maxLen]; omega) (by omega) (by have := hI.size; simp; omega) ?_; intro v7 w7 own7 hg7 hat7; have bw7 : Below w.heap.size wq w7 := ((hI.mono hsw).alloc (by have := hI.size; omega) _).grown hg7 (by have := hI.size; simp; omega) (fun j hj => (hown.lt j hj).1); have b7 := hb.trans bw7))
            go_roundw
            case rel => exact ⟨m1, Lr.drop (k + 1), acc ++ [k + 1], A2, n' - (k + 1), c' - (k + 1), rfl, Lib.hid (by rw [List.length_drop, hLn.out]), Lib.hid (HLD.out.below (bw7.mono hB)), by omega, by omega, by rw [List.length_append]; simp; omega, Lib.hid (by rw [← hgo.out, HCO.out, HRK.out, List.append_assoc]; rfl), by rw [List.length_append, HE9.out]; exact own7, b7⟩
            case measure => simp [sLenC]; omega
          · have hmx : (most < n') = False := by simp; omega
            have dk : ((k : Int) + 1 < (n' : Int)) = False := by simp; omega
            clear hrun
            go_wp2
            refine wp_region_chain (fun V => Below wq.heap.size wq V) [(0, false), (1, false), (2, false), (3, false), (4, false), (5, false), (6, false), (7, false), (8, false), (9, false), (10, false), (11, false), (12, false), (13, false), (14, false), (15, false), (16, false), (17, false), (18, false)] (by kernel_rfl) (by kernel_rfl) hI ?_
            repeat (first
              | (refine ChainL.skip (o := ?_) ?_ ?_ ?_; rotate_left; (focus (first | (simp only [List.getElem?_toArray, List.getElem?_cons_succ, List.getElem?_cons_zero]; with_reducible rfl) | (simp only [List.getElem?_toArray, List.getElem?_cons_zero]; with_reducible rfl))); (focus rfl); simp only [Act.put, List.setIfInBounds_toArray, List.set_cons_zero, List.set_cons_succ])
              | (refine ChainL.val (o := ?_) (v := ?_) ?_ ?_ ?_ ?_ ?_; rotate_left 2; (focus (first | (simp only [List.getElem?_toArray, List.getElem?_cons_succ, List.getElem?_cons_zero]; with_reducible rfl) | (simp only [List.getElem?_toArray, List.getElem?_cons_zero]; with_reducible rfl))); (focus (intro _ _ h; cases h)); (focus rfl); (focus (intro w' hJ; skip; go_simp <;> with_reducible rfl)); simp only [Act.put, List.setIfInBounds_toArray, List.set_cons_zero, List.set_cons_succ]))
            refine ChainL.nil ?_
            have SL := fun W => slice_okI (some ⟨b, o, none⟩) n' c' (k + 1) (by omega) hc' W
            rw [show (((k + 1 : Nat)) : Int) = (k : Int) + 1 by omega] at SL
            have HLD := Lib.hid (lists_dropI hLi.out (k + 1) c' (by rw [hLn.out]; omega) (by rw [hLn.out]; exact hc'))
            have HE9 := Lib.hid (show intCells ((acc ++ [k + 1]).map Int.ofNat) = intCells (acc.map Int.ofNat) ++ [.int .i64 ((k : Int) + 1)] by unfold intCells; rw [List.map_append, List.map_append]; rfl)
            generalize (if c' = k + 1 then some (⟨b, o, none⟩ : Addr) else (some (⟨b, o, none⟩ : Addr)).map (·.add (k + 1))) = A2 at *
            go_wp2_with (first | (at_builtin; refine wpList_append_src _ rfl (.tmp 33) (.tmp 35) 24 rfl w.heap.size 3 i0 (.int .i64 0) 1 8 Tryd.underlying24 hi hz0 hz1 hz2 rfl (by decide) _ acc.length (intCells (acc.map Int.ofNat)) rfl (own_only hown ((Only.of_below hI []).alloc (.cells #[.int .i64 ((k : Int) + 1)] 3)) (fun _ _ h => (nomatch h))) (wr.drew.heap.size + 1) (some ⟨wr.drew.heap.size, 0, none⟩) 1 1 [.int .i64 ((k : Int) + 1)] (by rfl) (lists_row wr.drew [.int .i64 ((k : Int) + 1)] 3) rfl (by simp [Value.oneCell']) (by simp only [maxLen]; omega) (by omega) (by have := hI.size; simp; omega) ?_; intro v7 w7 own7 hg7 hat7; have bw7 : Below w.heap.size wq w7 := ((hI.mono hsw).alloc (by have := hI.size; omega) _).grown hg7 (by have := hI.size; simp; omega) (fun j hj => (hown.lt j hj).1); have b7 := hb.trans bw7))
            go_roundw
            case rel => exact ⟨m1, Lr.drop (k + 1), acc ++ [k + 1], A2, n' - (k + 1), c' - (k + 1), rfl, Lib.hid (by rw [List.length_drop, hLn.out]), Lib.hid (HLD.out.below (bw7.mono hB)), by omega, by omega, by rw [List.length_append]; simp; omega, Lib.hid (by rw [← hgo.out, HCO.out, HRK.out, List.append_assoc]; rfl), by rw [List.length_append, HE9.out]; exact own7, b7⟩
            case measure => simp [sLenC]; omega
    · have d1 : ¬ (n' : Int) > 0 := by omega
      obtain rfl : n' = 0 := by omega
      have HE := Lib.hid (show acc = R by have := hgo.out; rw [cntsF_nil hLn.out, List.append_nil] at this; exact this)
      go_wp2
      go_ret
      exact ⟨_, rfl, by rw [← HE.out]; exact hown, hb⟩
end Go.Proofs.YteffijgajhngeaaDoor

namespace Go.Proofs.YteffijgajhngeaaDoor
open Go Go.RowKit
set_option linter.unusedVariables false
set_option linter.unusedSimpArgs false

/-- The table of how many a range has at most, as it lies. -/
structure GL (w : World) : Prop where
  lt : 0 < w.heap.size
  c0 : w.cell? ⟨0, 0, none⟩ = some (.int .i64 1)
  c1 : w.cell? ⟨0, 1, none⟩ = some (.int .i64 256)
  c2 : w.cell? ⟨0, 2, none⟩ = some (.int .i64 65536)
theorem GL.below {w w1 : World} (h : GL w) (b : Below w.heap.size w w1) : GL w1 :=
  ⟨Nat.lt_of_lt_of_le h.lt b.size, (b.cell (p := ⟨0, 0, none⟩) h.lt).trans h.c0, (b.cell (p := ⟨0, 1, none⟩) h.lt).trans h.c1, (b.cell (p := ⟨0, 2, none⟩) h.lt).trans h.c2⟩
def mostC : Nat → Nat
  | 0 => 1
  | 1 => 256
  | _ => 65536
theorem GL.at {w : World} (h : GL w) (f : Nat) (hf : f ≤ 2) : w.cell? ⟨0, f, none⟩ = some (.int .i64 ((mostC f : Nat) : Int)) := by
  match f, hf with
  | 0, _ => exact h.c0
  | 1, _ => exact h.c1
  | 2, _ => exact h.c2
def nextP (x y : Int) : Bool := y == wrap64 (x + 1)
theorem cnext_any (W : World) (x y : Int) : Calls Tryd.prog 35 #[.int .i64 x, .int .i64 y] W fun e w' => e = .returned (.bool (nextP x y)) ∧ W = w' := by
  unfold nextP
  go_enter Tryd.func35, Tryd.ntmps35
  go_wp2
  go_ret
  exact ⟨rfl, rfl⟩
/-- How it is put how many more a range has. -/
def moreE (f : Nat) (x : Int) : List Value := match f with
  | 1 => be1 x
  | 2 => be2 x
  | _ => []
def rgE (f : Nat) : List Nat → List Int → List Value
  | [], _ => []
  | n :: cs, L => be2 (L.getD 0 0) ++ moreE f ((n - 1 : Nat) : Int) ++ rgE f cs (L.drop n)
def putC (f : Nat) (L : List Int) : List Value := be1 (f : Nat) ++ rgE f (cnts nextP (mostC f) L.tail) L.tail
theorem moreE_len (f : Nat) (hf : f ≤ 2) (x : Int) : (moreE f x).length = f := by
  match f, hf with
  | 0, _ => rfl
  | 1, _ => rfl
  | 2, _ => rfl
theorem rgE_len (f : Nat) (hf : f ≤ 2) : ∀ (cs : List Nat) (L : List Int), (rgE f cs L).length = (2 + f) * cs.length
  | [], _ => rfl
  | n :: cs, L => by
    show (be2 (L.getD 0 0) ++ moreE f ((n - 1 : Nat) : Int) ++ rgE f cs (L.drop n)).length = _
    rw [List.length_append, List.length_append, moreE_len f hf, rgE_len f hf cs, List.length_cons, Nat.mul_add]
    simp [be2]
    omega
/-- How a number is written. -/
def wmoreF (f p k : Nat) : Value := match f with
  | 1 => .func (.func 33) #[.pointer (some ⟨p, 0, none⟩)] #[]
  | 2 => .func (.func 37) #[.pointer (some ⟨p, 0, none⟩)] #[]
  | _ => .func (.func 53) #[] #[.pointer (some ⟨k, 0, none⟩)]
theorem cwriting_any (f : Nat) (hf : f ≤ 2) (p : Nat) (w : World) : Calls Tryd.prog 34 #[.pointer (some ⟨p, 0, none⟩), .int .i64 (f : Nat)] w fun e w' => ∃ k, e = .returned (wmoreF f p k) ∧ Blk w' k 56 #[.pointer (some ⟨p, 0, none⟩)] ∧ Below w.heap.size w w' := by
  have K := Blk.new w 56 #[.pointer (some ⟨p, 0, none⟩)]
  have B := (Below.refl w.heap.size w).alloc (Nat.le_refl _) (.cells #[.pointer (some ⟨p, 0, none⟩)] 56)
  match f, hf with
  | 0, _ =>
    go_enter Tryd.func34, Tryd.ntmps34
    go_wp2
    go_ret
    exact ⟨_, rfl, K, B⟩
  | 1, _ =>
    go_enter Tryd.func34, Tryd.ntmps34
    go_wp2
    go_ret
    exact ⟨_, rfl, K, B⟩
  | 2, _ =>
    go_enter Tryd.func34, Tryd.ntmps34
    go_wp2
    go_ret
    exact ⟨_, rfl, K, B⟩
theorem cwriting1_any (x : Int) (p k : Nat) (w : World) (h : Blk w k 56 #[.pointer (some ⟨p, 0, none⟩)]) : Calls Tryd.prog 53 #[.int .i64 x, .pointer (some ⟨k, 0, none⟩)] w fun e w' => e = .returned (.pointer (some ⟨p, 0, none⟩)) ∧ w = w' := by
  have c := h.cell 0
  have l := h.lt
  simp only [List.getElem?_toArray, List.getElem?_cons_zero] at c
  go_enter Tryd.func53, Tryd.ntmps53
  go_wp2
  go_ret
  exact ⟨rfl, rfl⟩
/-- A row of counts, which may be empty, in memory of its own. -/
def CntAt (w : World) (v : Value) (cs : List Nat) : Prop := 0 < cs.length → ∃ g cap cur, v = .slice (some ⟨g, 0, none⟩) cs.length cap ∧ Blk w g 3 cur ∧ ∀ (j x : Nat), cs[j]? = some x → cur[j]? = some (.int .i64 (x : Int))
theorem cntAt_of {w : World} {base : Nat} {v : Value} {cs : List Nat} (h : w.ownsRow base 3 1 v cs.length (intCells (cs.map Int.ofNat))) : CntAt w v cs := by
  intro h0
  rcases h.2 with ⟨_, h2⟩ | ⟨g, cap, cur, h1, _, h3, _, _, _, h5⟩
  · omega
  · refine ⟨g, cap, cur, h1, h3, fun j x hx => ?_⟩
    have hc : (intCells (cs.map Int.ofNat))[j]? = some (.int .i64 (x : Int)) := by unfold intCells; rw [List.getElem?_map, List.getElem?_map, hx]; rfl
    rw [← h5, List.getElem?_take] at hc
    split at hc
    · simpa using hc
    · cases hc
theorem CntAt.safe {w w1 : World} {v : Value} {cs : List Nat} (h : CntAt w v cs) (s : Safe w w1) : CntAt w1 v cs := fun h0 => by
  obtain ⟨g, cap, cur, h1, h2, h3⟩ := h h0
  exact ⟨g, cap, cur, h1, s _ _ _ (by decide) (by decide) (by decide) h2, h3⟩
theorem CntAt.below {w w1 : World} {v : Value} {cs : List Nat} (h : CntAt w v cs) (b : Below w.heap.size w w1) : CntAt w1 v cs := fun h0 => by
  obtain ⟨g, cap, cur, h1, h2, h3⟩ := h h0
  exact ⟨g, cap, cur, h1, h2.below b, h3⟩
end Go.Proofs.YteffijgajhngeaaDoor

namespace Go.Proofs.YteffijgajhngeaaDoor
open Go Go.RowKit
set_option linter.unusedVariables false
set_option linter.unusedSimpArgs false

def sameP (x y : Int) : Bool := y == x
theorem csame1_any (W : World) (x y : Int) : Calls Tryd.prog 56 #[.int .i64 x, .int .i64 y] W fun e w' => e = .returned (.bool (sameP x y)) ∧ W = w' := by
  unfold sameP
  go_enter Tryd.func56, Tryd.ntmps56
  go_wp2
  go_ret
  exact ⟨rfl, rfl⟩
/-- Ranges, one behind the other: where each begins, and its number. -/
def rsE : List Nat → Nat → List Int → List Value
  | [], _, _ => []
  | x :: cs, f, L => be2 (f : Nat) ++ be1 (L.getD f 0) ++ rsE cs (f + x) L
def rgsE (L : List Int) : List Value := be2 ((cnts sameP L.length L).length : Nat) ++ (rsE (cnts sameP L.length L) 0 L ++ be2 (L.length : Nat))
set_option maxRecDepth 100000 in
set_option maxHeartbeats 4000000 in
theorem cputRanges_any (w0 w : World) (p R : Nat) (pre : List Value) (A : Option Addr) (c n : Nat) (L : List Int) (h : WS w0 w p R pre) (hE : Lists w0 w0.heap.size A (intCells L)) (hnn : L.length = n) (hc : n ≤ c) (hn1 : 1 ≤ n) (hn2 : n ≤ 65535) (hx : pre.length + 4 + 3 * n ≤ R) (hR : R ≤ 1000000) :
    Calls Tryd.prog 44 #[.pointer (some ⟨p, 0, none⟩), .slice A n c] w fun e w' => e = .returned (.tuple #[]) ∧ WS w0 w' p R (pre ++ rgsE L) := by
  obtain ⟨cs, hcs⟩ : ∃ cs, cnts sameP n L = cs := ⟨_, rfl⟩
  have ee : Enters Tryd.prog 56 := enters_of Tryd.func56 (by kernel_rfl) rfl
  have hw0 := h.old.size
  have CR : ∀ W, Below w0.heap.size w0 W → Calls Tryd.prog 36 #[.slice A n c, .int .i64 (n : Nat), .func (.func 56) #[] #[]] W fun e w' => ∃ v, e = .returned v ∧ w'.ownsRow W.heap.size 3 1 v cs.length (intCells (cs.map Int.ofNat)) ∧ Below W.heap.size W w' := fun W hb => by
    have := cranges_any 56 sameP w0.heap.size A c n n L W hb.size (hE.below hb) hnn hc (by omega) hn1 (by omega) ee csame1_any
    rw [hcs] at this
    exact this
  obtain ⟨b, o, rfl, hbl, hcl0⟩ := hE.plain (by intro e; have h2 := congrArg List.length e; rw [intCells_len, hnn] at h2; simp at h2; omega)
  have HCL := Lib.hid (show ∀ j, j < n → ∀ V, Below w0.heap.size w0 V → V.cell? ⟨b, o + j, none⟩ = some (.int .i64 (L.getD j 0)) from fun j hj V hV => (hV.cell (p := ⟨b, o + j, none⟩) hbl).trans (hcl0 j _ (intCells_atD (by rw [hnn]; exact hj))))
  have hcl2 := cntsF_len (P := sameP) (most := n) hn1 L.length L
  rw [show cntsF sameP n L.length L = cs by rw [← hcs]; unfold cnts; rfl, hnn] at hcl2
  have HCS := Lib.hid (show cs = cntsF sameP n n L by rw [← hcs, ← hnn]; rfl)
  obtain ⟨mm, hmm⟩ : ∃ mm, cs.length = mm := ⟨_, rfl⟩
  have HT := Lib.hid (show rgsE L = be2 (mm : Nat) ++ (rsE cs 0 L ++ be2 (n : Nat)) by unfold rgsE; rw [hnn, hcs, hmm])
  rw [hmm] at CR hcl2
  have HMM := Lib.hid hmm
  have HN := Lib.hid hnn
  have HW := Lib.hid h
  have h1 := h.old
  rw [HT.out]
  clear hE hnn hcs ee hcl0 hmm h
  go_enter Tryd.func44, Tryd.ntmps44
  go_wp2_with (first
    | (go_at_call 36; ((with_reducible refine (CR _ h1).mono ?_); rintro e w7 ⟨v7, rfl, own7, b7⟩; have h7 := HW.out.below b7; obtain ⟨A7, c7, rfl, ql7, _⟩ := own_lists own7; clear ql7; have KO7 := cntAt_of (cs := cs) (by rw [HMM.out]; exact own7)))
    | (go_at_call 37; ((with_reducible refine (wsU16 w0 _ p R pre (mm : Nat) h7 (by omega) (by omega)).mono ?_); rintro e w8 ⟨rfl, h8, s8, z8⟩; have KO8 := KO7.safe s8)))
  have HW8 := Lib.hid h8
  have HKO := Lib.hid KO8
  clear h7 h8 KO7 KO8 s8 z8 b7 own7 CR h1
  obtain ⟨g, cap, cur, hgv, hgb7, hcur⟩ := HKO.out (by
    rw [HMM.out]
    have h2 := HCS.out
    have h3 := HMM.out
    have : cs ≠ [] := fun e => by
      rw [e] at h2
      obtain ⟨y, rfl⟩ : ∃ y, n = y + 1 := ⟨n - 1, by omega⟩
      rw [cntsF_more (by rw [HN.out]; omega)] at h2
      cases h2
    rcases Nat.eq_zero_or_pos mm with h0 | h0
    · rw [h0] at h3; exact absurd (List.eq_nil_of_length_eq_zero h3) this
    · exact h0)
  rw [HMM.out] at hgv
  injection hgv with hg1 hg2 hg3
  subst hg1
  clear hg2 hg3
  have HG7 := Lib.hid hgb7
  have HCUR := Lib.hid hcur
  clear hgb7 hcur HKO
  go_loopw [6, 20] (fun fv iv wr => ∃ (j m f : Nat) (D : List Value), fv = .int .i64 (f : Nat) ∧ iv = .int .i64 (j : Nat) ∧ j ≤ mm ∧ f ≤ n ∧ Hid (cs.drop j = cntsF sameP n m (L.drop f)) ∧ Hid (n ≤ f + m) ∧ Hid (D ++ rsE (cs.drop j) f L = rsE cs 0 L) ∧ Hid (D.length = 3 * j) ∧ WS w0 wr p R ((pre ++ be2 (mm : Nat)) ++ D) ∧ Blk wr g 3 cur) (fun _ iv _ => mm - (intOf iv).toNat)
  case atStart => exact ⟨0, n, 0, [], rfl, rfl, Nat.zero_le _, Nat.zero_le _, HCS, Lib.hid (by omega), Lib.hid rfl, Lib.hid rfl, by rw [List.append_nil]; exact HW8.out, HG7.out⟩
  case round =>
    obtain ⟨j, m, f, D, rfl, rfl, hj, hfn, hdr, hfm, hby, hDl, hws, hko⟩ := hrel
    by_cases hlt : j < mm
    · have d1 : (j : Int) < (mm : Int) := by omega
      obtain ⟨x0, hx0⟩ : ∃ x, cs[j]? = some x := ⟨cs[j]'(by rw [HMM.out]; exact hlt), List.getElem?_eq_getElem _⟩
      have hdc : cs.drop j = x0 :: cs.drop (j + 1) := by rw [List.drop_eq_getElem_cons (by rw [HMM.out]; exact hlt)]; congr 1; rw [List.getElem?_eq_getElem (by rw [HMM.out]; exact hlt)] at hx0; exact Option.some.inj hx0
      have hstep := hdr.out
      rw [hdc] at hstep
      have hfl : f < n := by
        rcases Nat.lt_or_ge f n with h | h
        · exact h
        · rw [cntsF_nil (by rw [List.length_drop, HN.out]; omega)] at hstep; cases hstep
      obtain ⟨m1, rfl⟩ : ∃ y, m = y + 1 := by
        cases m with
        | zero => cases hstep
        | succ y => exact ⟨y, rfl⟩
      rw [cntsF_more (by rw [List.length_drop, HN.out]; omega)] at hstep
      injection hstep with hs1 hs2
      have hrl := runN_le (P := sameP) (most := n) (L := L.drop f) (by rw [List.length_drop, HN.out]; omega) hn1
      rw [← hs1, List.length_drop, HN.out] at hrl
      rw [← hs1, List.drop_drop] at hs2
      have gx := HCUR.out j x0 hx0
      have gc : wr.cell? ⟨g, j, none⟩ = some (.int .i64 (x0 : Int)) := by
        rw [hko.cell j]
        simpa using gx
      have hgl2 := hko.lt
      obtain ⟨r0, hr0⟩ : ∃ r0, L.getD f 0 = r0 := ⟨_, rfl⟩
      have HC0 := Lib.hid (show ∀ V, Below w0.heap.size w0 V → V.cell? ⟨b, o + f, none⟩ = some (.int .i64 r0) from fun V hV => by rw [← hr0]; exact HCL.out f hfl V hV)
      have n3 : (f : Int) < (n : Int) := by omega
      have HD2 := Lib.hid (show cs.drop (j + 1) = cntsF sameP n m1 (L.drop (f + x0)) by rw [hs2])
      have HBY := Lib.hid (show (D ++ (be2 (f : Nat) ++ be1 r0)) ++ rsE (cs.drop (j + 1)) (f + x0) L = rsE cs 0 L by
        rw [← hby.out, hdc, List.append_assoc]
        show _ = D ++ (be2 (f : Nat) ++ be1 (L.getD f 0) ++ rsE (cs.drop (j + 1)) (f + x0) L)
        rw [hr0])
      have e5 : IntKind.i64.wrap ((f : Int) + (x0 : Int)) = ((f + x0 : Nat) : Int) := by rw [IntWalk.i64_in _ (by omega)]; omega
      have HDL := hDl
      have hwd := hws.below ((Below.refl _ _).drew)
      have kod := hko.below ((Below.refl _ _).drew)
      have hI : Below w0.heap.size w0 wr.drew := hws.old.drew
      have hlen : ((pre ++ be2 (mm : Nat)) ++ D).length = pre.length + 2 + 3 * j := by rw [List.length_append, List.length_append, HDL.out]; rfl
      have HLEN := Lib.hid hlen
      clear hdc hs1 hs2 hx0 hdr hby hr0 gx hlen hko
      go_wp2
      refine wp_region_chain (fun V => Below w0.heap.size w0 V) [(0, false), (1, false), (3, false), (4, false), (5, false), (6, false), (2, true), (7, true)] (by kernel_rfl) (by kernel_rfl) hI ?_
      repeat (first
        | (refine ChainL.skip (o := ?_) ?_ ?_ ?_; rotate_left; (focus (first | (simp only [List.getElem?_toArray, List.getElem?_cons_succ, List.getElem?_cons_zero]; with_reducible rfl) | (simp only [List.getElem?_toArray, List.getElem?_cons_zero]; with_reducible rfl))); (focus rfl); simp only [Act.put, List.setIfInBounds_toArray, List.set_cons_zero, List.set_cons_succ])
        | (refine ChainL.val (o := ?_) (v := ?_) ?_ ?_ ?_ ?_ ?_; rotate_left 2; (focus (first | (simp only [List.getElem?_toArray, List.getElem?_cons_succ, List.getElem?_cons_zero]; with_reducible rfl) | (simp only [List.getElem?_toArray, List.getElem?_cons_zero]; with_reducible rfl))); (focus (intro _ _ h; cases h)); (focus rfl); (focus (intro w' hJ; have y1 := HC0.out _ hJ; have y2 := Nat.lt_of_lt_of_le hbl hJ.size; go_simp <;> with_reducible rfl)); simp only [Act.put, List.setIfInBounds_toArray, List.set_cons_zero, List.set_cons_succ]))
      refine ChainL.call (o := ?_) (f := ?_) (args := ?_) ?_ ?_ ?_ ?_
      rotate_left 3
      (focus (simp only [List.getElem?_toArray, List.getElem?_cons_succ, List.getElem?_cons_zero]; with_reducible rfl))
      (focus rfl)
      (focus (go_simp; (constructor <;> with_reducible rfl)))
      refine (wsU16 w0 _ p R _ (f : Nat) hwd (by rw [HLEN.out]; omega) (by omega)).mono ?_
      rintro e w5 ⟨rfl, h5, s5, z5⟩
      have ko5 := s5 _ _ _ (by decide) (by decide) (by decide) kod
      refine ⟨_, rfl, h5.old, ?_⟩
      simp only [Act.put, List.setIfInBounds_toArray, List.set_cons_zero, List.set_cons_succ]
      refine ChainL.call (o := ?_) (f := ?_) (args := ?_) ?_ ?_ ?_ ?_
      rotate_left 3
      (focus (simp only [List.getElem?_toArray, List.getElem?_cons_succ, List.getElem?_cons_zero]; with_reducible rfl))
      (focus rfl)
      (focus (go_simp; (constructor <;> with_reducible rfl)))
      refine (wsU8 w0 _ p R _ r0 h5 (by rw [List.length_append, HLEN.out]; simp [be2, be1]; omega) (by omega)).mono ?_
      rintro e w6 ⟨rfl, h6, s6, z6⟩
      have ko6 := s6 _ _ _ (by decide) (by decide) (by decide) ko5
      refine ⟨_, rfl, h6.old, ?_⟩
      simp only [Act.put, List.setIfInBounds_toArray, List.set_cons_zero, List.set_cons_succ]
      refine ChainL.nil ?_
      go_wp2
      go_roundw
      case rel => exact ⟨j + 1, m1, f + x0, D ++ (be2 (f : Nat) ++ be1 r0), by first | rfl | go_num, by first | rfl | go_num, by omega, by omega, HD2, Lib.hid (by have := hfm.out; omega), HBY, Lib.hid (by rw [List.length_append, HDL.out]; simp [be1, be2]; omega), by rw [← List.append_assoc, ← List.append_assoc]; exact h6, ko6⟩
      case measure => simp [intOf]; omega
    · have d1 : ¬ (j : Int) < (mm : Int) := by omega
      obtain rfl : j = mm := by omega
      have hdn : cs.drop j = [] := List.drop_of_length_le (by rw [HMM.out]; exact Nat.le_refl _)
      have hfe : f = n := by
        have h2 := hdr.out
        rw [hdn] at h2
        rcases Nat.lt_or_ge f n with h | h
        · obtain ⟨y, rfl⟩ : ∃ y, m = y + 1 := ⟨m - 1, by have := hfm.out; omega⟩
          rw [cntsF_more (by rw [List.length_drop, HN.out]; omega)] at h2
          cases h2
        · omega
      subst hfe
      have HF := Lib.hid (show D = rsE cs 0 L by have h := hby.out; rw [hdn] at h; simpa [rsE] using h)
      have HDL := hDl
      clear hby hdr hdn
      go_wp2_with (first | (go_at_call 37; ((with_reducible refine (wsU16 w0 _ p R _ (f : Nat) hws (by rw [List.length_append, List.length_append, HDL.out]; simp [be2]; omega) (by omega)).mono ?_); rintro e w5 ⟨rfl, h5, s5, z5⟩)))
      refine bodyPost_end (results_none rfl _ _ _) rfl ⟨rfl, ?_⟩
      rw [← HF.out, ← List.append_assoc, ← List.append_assoc]
      exact h5
end Go.Proofs.YteffijgajhngeaaDoor
