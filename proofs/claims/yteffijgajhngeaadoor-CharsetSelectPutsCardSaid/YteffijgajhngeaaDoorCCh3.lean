/- Part 4 of the proof: Rd4, Bytes2, Copy, Wr5, Conv, Met1, Met2, OpenMets, Law4, Rn, Rs, Ws. -/
import Derived.WalkSpells
import Derived.Deep.OwnRows
import Derived.Laws.CopyOwn
import Derived.Deep.RegionHeld3
import Derived.Outline
import Derived.Laws.IdiomStrings
import Derived.Laws.BytesArg
import Derived.Lib.Hide
import Derived.Shelf.Abstract
import Derived.Lib.SmallJoins
import Derived.Test.YteffijgajhngeaaDoorCCh2

namespace Go.Proofs.YteffijgajhngeaaDoor
open Go Go.RowKit
variable {q : Nat → Prop}

/-- A copy in new memory. -/
def GaveClone (w : World) (E : List Value) (e : Ending) (w' : World) : Prop := ∃ A c, e = .returned (.slice A E.length c) ∧ Lists w' w'.heap.size A E ∧ E.length ≤ c ∧ c ≤ 9223372036854775807 ∧ Below w.heap.size w w' ∧ (∀ a, A = some a → w.heap.size ≤ a.block)

set_option maxRecDepth 100000 in
theorem clone_any (A : Option Addr) (n c : Nat) (E : List Value) (w : World) (hE : Lists w w.heap.size A E) (hn : E.length = n) (h8 : Bytes8 E) (hm : n ≤ 140737488355328) :
    Calls Tryd.prog 45 #[.slice A n c] w fun e w' => GaveClone w E e w' := by
  have q1 := fun w => Lib.run_eql_slice_nil (P := Tryd.prog) w 22 5 A n c 0 0 Tryd.underlying22
  cases A with
  | none =>
    obtain rfl : E = [] := hE.nil rfl
    obtain rfl : n = 0 := hn.symm
    have hq : GaveClone w [] (.returned (.slice none 0 0)) w := ⟨none, 0, rfl, Lists.empty _ _ _, Nat.le_refl _, by omega, Below.refl _ _, fun a h => (nomatch h)⟩
    go_enter Tryd.func45, Tryd.ntmps45
    go_wp2
    all_goals go_ret
    all_goals exact hq
  | some a =>
    obtain ⟨i0, hi, hz0, hz1, hz2⟩ := info_parts u8Info
    have HN := Lib.hid hn
    clear hn
    go_enter Tryd.func45, Tryd.ntmps45
    go_wp2_with (first | (at_builtin; refine wpList_append_src _ rfl (.tmp 5) (.tmp 6) 22 rfl w.heap.size 5 i0 (.int .u8 0) 1 1 Tryd.underlying22 hi hz0 hz1 hz2 rfl (by decide) (.slice (some ⟨w.heap.size, 0, none⟩) 0 0) 0 [] rfl ⟨rfl, .inr ⟨w.heap.size, 0, #[], rfl, Nat.le_refl _, heap_alloc_new w _, Nat.le_refl _, Nat.zero_le _, rfl, rfl⟩⟩ w.heap.size (some a) n c E rfl (hE.alloc (Nat.le_refl _) _) (by rw [HN.out, Nat.mul_one]) h8.one (by simp only [maxLen]; omega) (by omega) (by simp) ?_; intro v1 w1 hown hg hat; rw [Nat.zero_add, List.nil_append] at hown))
    go_ret
    have hb : Below w.heap.size w w1 := ((Below.refl _ _).alloc (Nat.le_refl _) _).grown hg (by simp) (fun j hj => by cases hj; exact Nat.le_refl _)
    obtain ⟨A2, c2, hv, hl, hc2⟩ := own_lists hown
    have hcm : c2 ≤ maxLen := by
      rcases hown.2 with ⟨h, _⟩ | ⟨g, cap, cur, h, _, _, _, h7, _⟩
      · rw [hv] at h; injection h with _ _ h; omega
      · rw [hv] at h; injection h with _ _ h; omega
    have hlow : ∀ a, A2 = some a → w.heap.size ≤ a.block := by
      rcases hown.2 with ⟨h, _⟩ | ⟨g, cap, cur, h, h1, _⟩
      · rw [hv] at h; injection h with h; intro a ha; rw [h] at ha; cases ha
      · rw [hv] at h; injection h with h; intro a ha; rw [h] at ha; cases ha; exact h1
    unfold maxLen at hcm
    exact ⟨A2, c2, by rw [HN.out]; exact congrArg _ hv, hl, by rw [HN.out]; exact hc2, by omega, hb, hlow⟩

/-- A new reader was answered. -/
def MadeRd (w : World) (E : List Value) (e : Ending) (w' : World) : Prop := ∃ p, e = .returned (.pointer (some ⟨p, 0, none⟩)) ∧ Rd (fun b => w.heap.size ≤ b ∧ b < w'.heap.size) w' p E 0 false ∧ Below w.heap.size w w' ∧ w.heap.size ≤ p

theorem new_any (A : Option Addr) (n c : Nat) (E : List Value) (w : World) (hE : Lists w w.heap.size A E) (hn : E.length = n) (h8 : Bytes8 E) (hm : n ≤ 140737488355328) :
    Calls Tryd.prog 22 #[.slice A n c] w fun e w' => MadeRd w E e w' := by
  have C := clone_any A n c E w hE hn h8 hm
  clear hE hn
  go_enter Tryd.func22, Tryd.ntmps22
  go_wp2_with (first | (go_at_call 45; ((refine C.mono ?_); rintro e w1 ⟨A1, c1, rfl, hl, hc, hc2, hb, hlow⟩)))
  go_ret
  refine ⟨w1.heap.size, rfl, ⟨A1, c1, Blk.new w1 _ _, (hl.alloc (Nat.le_refl _) _).more (by simp), h8, Nat.zero_le _, hc, hc2, fun a ha hx => ?_⟩, hb.alloc hb.size _, hb.size⟩
  have := hl.lt a ha hx
  exact ⟨by omega, hlow a ha, by simp <;> omega⟩

theorem rU16_ok (p : Nat) (bs : List Value) (i x0 x1 : Nat) (w : World) (h : Rd q w p bs i false) (hL : bs.length ≤ 4611686018427387904) (him : i + 2 ≤ bs.length) (h0 : bs[i]? = some (.int .u8 (x0 : Nat))) (h1 : bs[i + 1]? = some (.int .u8 (x1 : Nat))) (l0 : x0 < 256) (l1 : x1 < 256) :
    Calls Tryd.prog 27 #[.pointer (some ⟨p, 0, none⟩)] w fun e w' => e = .returned (.int .i64 (x0 * 256 + x1 : Nat)) ∧ Rd q w' p bs (i + 2) false ∧ Only w w' [p] := by
  have C := number2_ok p bs i x0 x1 w h hL him h0 h1 l0 l1
  clear h h0 h1
  go_enter Tryd.func27, Tryd.ntmps27
  go_wp2_with (first | (go_at_call 46; ((refine C.mono ?_); rintro e w2 ⟨rfl, hr, o2⟩)))
  go_ret
  exact ⟨rfl, hr, o2⟩
theorem rU16_short (p : Nat) (bs : List Value) (i : Nat) (w : World) (h : Rd q w p bs i false) (hL : bs.length ≤ 4611686018427387904) (him : bs.length - i < 2) :
    Calls Tryd.prog 27 #[.pointer (some ⟨p, 0, none⟩)] w fun e w' => e = .returned (.int .i64 0) ∧ Rd q w' p bs i true ∧ Only w w' [p] := by
  have C := number_short p bs i 2 w h hL (.inr (by omega))
  clear h
  go_enter Tryd.func27, Tryd.ntmps27
  go_wp2_with (first | (go_at_call 46; ((refine C.mono ?_); rintro e w2 ⟨rfl, hr, o2⟩)))
  go_ret
  exact ⟨rfl, hr, o2⟩

end Go.Proofs.YteffijgajhngeaaDoor

namespace Go.Proofs.YteffijgajhngeaaDoor
open Go Go.RowKit

/-- What stands ahead of the data behind the last gap; where that data begins. -/
def preE (D : List Value) : Nat → List (Nat × Nat) → List Value
  | _, [] => []
  | i, (a, z) :: G => (D.drop i).take (a - i) ++ List.replicate z zero8 ++ preE D a G
def lastA : Nat → List (Nat × Nat) → Nat
  | i, [] => i
  | _, (a, _) :: G => lastA a G

theorem expand_pre (D : List Value) : ∀ (G : List (Nat × Nat)) (i : Nat), expand D i G = preE D i G ++ D.drop (lastA i G)
  | [], i => rfl
  | (a, z) :: G, i => by simp only [expand, preE, lastA, expand_pre D G a, List.append_assoc]
theorem preE_snoc (D : List Value) (a z : Nat) : ∀ (G : List (Nat × Nat)) (i : Nat), preE D i (G ++ [(a, z)]) = preE D i G ++ ((D.drop (lastA i G)).take (a - lastA i G) ++ List.replicate z zero8)
  | [], i => by simp [preE, lastA]
  | (b, y) :: G, i => by simp only [List.cons_append, preE, lastA, preE_snoc D a z G b, List.append_assoc]
theorem lastA_snoc (a z : Nat) : ∀ (G : List (Nat × Nat)) (i : Nat), lastA i (G ++ [(a, z)]) = a
  | [], i => rfl
  | (b, y) :: G, i => by simp only [List.cons_append, lastA, lastA_snoc a z G b]
theorem lastA_le : ∀ (G : List (Nat × Nat)) {i n : Nat}, GapsOk i G n → lastA i G ≤ n
  | [], _, _, h => h
  | (_, _) :: G, _, _, h => lastA_le G h.2.2
theorem gap_at : ∀ (G : List (Nat × Nat)) (i n k a z : Nat), GapsOk i G n → G[k]? = some (a, z) → lastA i (G.take k) ≤ a ∧ a ≤ n ∧ 1 ≤ z
  | [], _, _, k, _, _, _, h => by simp at h
  | (b, y) :: G, i, n, 0, a, z, hg, h => by
    simp only [List.getElem?_cons_zero, Option.some.injEq, Prod.mk.injEq] at h
    obtain ⟨rfl, rfl⟩ := h
    exact ⟨hg.1, hg.2.2.le, hg.2.1⟩
  | (b, y) :: G, i, n, k + 1, a, z, hg, h => by
    simp only [List.take_succ_cons, lastA]
    exact gap_at G b n k a z hg.2.2 (by simpa using h)
theorem take_snoc {G : List (Nat × Nat)} {k a z : Nat} (h : G[k]? = some (a, z)) : G.take (k + 1) = G.take k ++ [(a, z)] := by
  rw [List.take_add_one, h]; rfl
theorem pre_prefix (D : List Value) : ∀ (G : List (Nat × Nat)) (i k : Nat), (preE D i (G.take k)).length ≤ (preE D i G).length
  | [], i, k => by simp
  | (a, z) :: G, i, 0 => by simp [preE]
  | (a, z) :: G, i, k + 1 => by
    have := pre_prefix D G a k
    simp only [List.take_succ_cons, preE, List.length_append]
    omega
theorem pre_len_le (D : List Value) (G : List (Nat × Nat)) (k : Nat) : (preE D 0 (G.take k)).length ≤ (expand D 0 G).length := by
  rw [expand_pre, List.length_append]
  have := pre_prefix D G 0 k
  omega

/-- The row behind k gaps: n bytes in all. -/
def rowAt (D : List Value) (G : List (Nat × Nat)) (n k : Nat) : List Value := preE D 0 (G.take k) ++ List.replicate (n - (preE D 0 (G.take k)).length) zero8
theorem rowAt_len (D : List Value) (G : List (Nat × Nat)) (n k : Nat) (h : (preE D 0 (G.take k)).length ≤ n) : (rowAt D G n k).length = n := by
  unfold rowAt; rw [List.length_append, List.length_replicate]; omega
theorem splice_row (P cs : List Value) (n : Nat) (h : P.length + cs.length ≤ n) : splice (P ++ List.replicate (n - P.length) zero8) P.length cs = P ++ cs ++ List.replicate (n - (P ++ cs).length) zero8 := by
  unfold splice
  rw [List.take_left, List.drop_append, List.drop_eq_nil_of_le (by omega), List.nil_append, List.drop_replicate, List.append_assoc, List.length_append]
  congr 3
  omega
theorem row_next (D : List Value) (G : List (Nat × Nat)) (n k a z : Nat) (hg : G[k]? = some (a, z)) (hn : (preE D 0 (G.take (k + 1))).length ≤ n) :
    splice (rowAt D G n k) (preE D 0 (G.take k)).length ((D.drop (lastA 0 (G.take k))).take (a - lastA 0 (G.take k))) = rowAt D G n (k + 1) := by
  rw [take_snoc hg, preE_snoc] at hn
  unfold rowAt
  rw [splice_row _ _ _ (by simp only [List.length_append] at hn; omega), take_snoc hg, preE_snoc]
  simp only [List.append_assoc, List.length_append, List.length_replicate] at hn ⊢
  congr 2
  rw [List.replicate_append_replicate]
  congr 1
  omega
theorem row_last (D : List Value) (G : List (Nat × Nat)) : splice (rowAt D G (expand D 0 G).length G.length) (preE D 0 G).length (D.drop (lastA 0 G)) = expand D 0 G := by
  have hl := expand_pre D G 0
  unfold rowAt
  rw [List.take_length, splice_row _ _ _ (by rw [hl, List.length_append]; omega), ← hl]
  simp
theorem made_zeros (n : Nat) : madeCells #[.int .u8 0] n = (List.replicate n zero8).toArray := by
  unfold madeCells zero8
  apply Array.ext
  · simp
  · intro i h1 h2
    simp [Nat.mod_one]

end Go.Proofs.YteffijgajhngeaaDoor

namespace Go.Proofs.YteffijgajhngeaaDoor
open Go Go.RowKit

theorem only_setRow (w : World) (g : Nat) (cs : Array Value) : Only w (w.setRow g cs) [g] :=
  ⟨rfl, rfl, rfl, by simp [World.setRow], fun b _ hn => setRow_other w g b cs (fun e => hn (by simp [e]))⟩

section
variable {P : Program} {w : World}
theorem run_copy_only (dT sT ty elem : TypeId) (hu : P.underlying dT = some (.slice elem)) (hsz : (P.info? elem).map (·.size) = some 1)
    (dp sp : Option Addr) (dLen dCap sLen sCap : Nat) (g off : Nat) (cur : List Value) (t : TypeId) (hg : w.heap[g]? = some (.cells cur.toArray t (0, 0))) (cs : List Value) (hn : cs.length = Nat.min sLen dLen)
    (hpos : 0 < cs.length → dp = some ⟨g, off, none⟩ ∧ ∃ ad, sp = some ad ∧ ∀ (j : Nat) (v : Value), cs[j]? = some v → w.cell? (ad.add j) = some v)
    (hfit : off + cs.length ≤ cur.length) (h1 : ∀ v ∈ cs, v.oneCell' = true) :
    ∃ w', (Builtin.copy_ #[dT, sT] ty #[.slice dp dLen dCap, .slice sp sLen sCap]).run P w = .ok (goInt cs.length) w' ∧ w'.heap[g]? = some (.cells (splice cur off cs).toArray t (0, 0)) ∧ Only w w' [g] := by
  by_cases h0 : cs.length = 0
  · obtain rfl : cs = [] := List.eq_nil_of_length_eq_zero h0
    exact ⟨w, run_copy_none (P := P) w dT sT ty elem dp sp dLen dCap sLen sCap hu hsz (by simpa using hn.symm), by simpa [splice] using hg, Only.refl w _⟩
  · obtain ⟨rfl, ad, rfl, hsrc⟩ := hpos (by omega)
    refine ⟨_, run_copy_row (P := P) w dT sT ty elem g off dLen dCap ad sLen sCap cur.toArray t cs hu hsz hg hn hsrc (by simpa using hfit) h1, ?_, only_setRow w g _⟩
    rw [setRow_heap w g _ _ t _ hg]
    simp [splice]

theorem step_copy_only {ops : Array Oper} {o : Oper} {a : Act} {K : Act → World → Prop} {Q : Exit → Act → World → Prop} {E : Prop} (hgd : o.guard = none) (d s : Operand) (dT sT : TypeId)
    (ho : o.op = .call { callee := .builtin .copy, args := #[d, s], argTypes := #[dT, sT] }) (elem : TypeId) (hu : P.underlying dT = some (.slice elem)) (hsz : (P.info? elem).map (·.size) = some 1)
    (dp sp : Option Addr) (dLen dCap sLen sCap : Nat) (hd : a.eval d = .slice dp dLen dCap) (hs : a.eval s = .slice sp sLen sCap)
    (g off : Nat) (cur : List Value) (t : TypeId) (hg : w.heap[g]? = some (.cells cur.toArray t (0, 0))) (cs : List Value) (hn : cs.length = Nat.min sLen dLen)
    (hpos : 0 < cs.length → dp = some ⟨g, off, none⟩ ∧ ∃ ad, sp = some ad ∧ ∀ (j : Nat) (v : Value), cs[j]? = some v → w.cell? (ad.add j) = some v)
    (hfit : off + cs.length ≤ cur.length) (h1 : ∀ v ∈ cs, v.oneCell' = true)
    (h : ∀ w', Hid (w'.heap[g]? = some (.cells (splice cur off cs).toArray t (0, 0))) → Only w w' [g] → K (a.put o.dst (goInt cs.length)) w') :
    if Region.wanted o (yielded ops a.tmps) = true then Oper.wp P o a w K Q else E := by
  rw [if_pos (by simp [Region.wanted, hgd])]
  obtain ⟨w', hrun, h2, h3⟩ := run_copy_only (P := P) dT sT o.type elem hu hsz dp sp dLen dCap sLen sCap g off cur t hg cs hn hpos hfit h1
  unfold Oper.wp
  simp [execOp, ho, resolve, invoke, builtin, hd, hs, hrun, Result.andThen]
  exact h w' h2 h3
end

end Go.Proofs.YteffijgajhngeaaDoor

namespace Go.Proofs.YteffijgajhngeaaDoor
open Go Go.RowKit

theorem addr_add_add (a : Addr) (i j : Nat) : (a.add i).add j = a.add (i + j) := by
  unfold Addr.add
  by_cases hi : i = 0
  · subst hi; simp
  · by_cases hj : j = 0
    · subst hj; simp [hi]
    · simp [hi, hj, Nat.add_assoc]

theorem u8One : (Tryd.prog.info? 5).map (·.size) = some 1 := by kernel_rfl

theorem wdone_full (p R : Nat) (L : List Value) (fp : List Nat) (w : World) (hW : Wr w p R true L fp) :
    Calls Tryd.prog 38 #[.pointer (some ⟨p, 0, none⟩)] w fun e w' => e = .returned (.tuple #[.slice none 0 0, .int .i64 2]) ∧ Below w.heap.size w w' := by
  obtain ⟨D, G, dv, gv, hb, _⟩ := hW
  have F := hb.kb; simp only [KB, CellsAt, Nat.zero_add, Nat.reduceAdd, and_true] at F
  clear hb
  go_enter Tryd.func38, Tryd.ntmps38
  go_wp2
  go_ret2
  exact ⟨rfl, Below.refl _ _⟩

/-- What is answered: the bytes, in new memory. -/
def Gave (w : World) (L : List Value) (e : Ending) (w' : World) : Prop := ∃ A c, e = .returned (.tuple #[.slice A L.length c, .int .i64 0]) ∧ w'.ownsRow w.heap.size 5 1 (.slice A L.length c) L.length L ∧ Below w.heap.size w w'

set_option maxRecDepth 100000 in
set_option maxHeartbeats 4000000 in
theorem wdone_any (p R : Nat) (L : List Value) (fp : List Nat) (w : World) (hW : Wr w p R false L fp) (hR : R ≤ 2147483647) :
    Calls Tryd.prog 38 #[.pointer (some ⟨p, 0, none⟩)] w fun e w' => Gave w L e w' := by
  have C0 := fun w' (hb : Below w.heap.size w w') => wlen_any p R false L fp w' (hW.only (Only.of_below hb []) (fun _ _ h => (nomatch h))) (by omega)
  obtain ⟨D, G, dv, gv, hb, hD, hG, k1, k2, k3, k4, _⟩ := hW
  have hl := expand_len D G 0 k1
  have hN : L.length ≤ 2147483647 := by omega
  have hN1 : ¬ (2147483647 < (L.length : Int)) := by omega
  have hmk := run_make_row' (P := Tryd.prog) 22 5 (.int .u8 0) 1 Tryd.underlying22 u8Info rfl .i64 .i64 L.length (by omega) (by omega)
  have hmk : ∀ w : World, (Instr.makeSlice 22 (.int .i64 (L.length : Int)) (.int .i64 (L.length : Int))).run Tryd.prog w = .ok (.slice (some ⟨w.heap.size, 0, none⟩) L.length L.length) (w.alloc (.cells (List.replicate L.length zero8).toArray 5)) := fun w => by rw [hmk w, made_zeros]
  have hcnt := k1.count
  have hGn : G.length ≤ 2147483647 := by rw [k3] at hN; omega
  have hDn : D.length ≤ 2147483647 := by rw [k3] at hN; omega
  obtain ⟨A0, c0, rfl, lD, hc0⟩ := own_lists hD
  obtain ⟨Ag, cg, rfl, lG, _⟩ := own_lists hG
  have hcm : c0 ≤ maxLen := by
    rcases hD.2 with ⟨h, _⟩ | ⟨g, cap, cur, h, _, _, _, h7, _⟩
    · injection h with _ _ h; omega
    · injection h with _ _ h; omega
  unfold maxLen at hcm
  have H3 := Lib.hid k3
  have HK1 := Lib.hid k1
  have HLD := Lib.hid lD
  have HLG := Lib.hid lG
  have HK2 := Lib.hid k2
  have hN0 : (0 : Int) ≤ (L.length : Int) := by omega
  clear hl hcnt k3 k1 lD lG k2 hD hG
  have F := hb.kb; simp only [KB, CellsAt, Nat.zero_add, Nat.reduceAdd, and_true] at F
  obtain ⟨N, hNN⟩ : ∃ N, N = L.length := ⟨_, rfl⟩
  rw [← hNN] at C0 hN hN1 hmk hN0
  have HN := Lib.hid hNN
  clear hNN
  go_enter Tryd.func38, Tryd.ntmps38
  go_wp2_with (first | (go_at_call 54; ((with_reducible refine (C0 _ (Below.refl _ _)).mono ?_); rintro e w1 ⟨rfl, b1⟩; have F1 := (hb.below b1).kb; simp only [KB, CellsAt, Nat.zero_add, Nat.reduceAdd, and_true] at F1)) | (go_at_call 54; ((with_reducible refine (C0 _ b1).mono ?_); rintro e w2 ⟨rfl, b2⟩; have b2 := b1.trans (b2.mono b1.size); have F2 := (hb.below b2).kb; simp only [KB, CellsAt, Nat.zero_add, Nat.reduceAdd, and_true] at F2)))
  have hg0 : (w2.alloc (.cells (List.replicate N zero8).toArray 5)).heap[w2.heap.size]? = some (.cells (rowAt D G N 0).toArray 5 (0, 0)) := by
    rw [heap_alloc_new]
    rfl
  have HG0 := Lib.hid hg0
  have hgw := b2.size
  have bm : Below w.heap.size w (w2.alloc (.cells (List.replicate N zero8).toArray 5)) := b2.alloc b2.size _
  clear hg0 F F1
  generalize hgg : w2.heap.size = g at *
  clear hgg
  go_loopw [5, 6, 28] (fun fr to ix wr => ∃ k : Nat, k ≤ G.length ∧ ix = .int .i64 k ∧ ∃ f t : Nat, fr = .int .i64 f ∧ to = .int .i64 t ∧ Hid (f = lastA 0 (G.take k) ∧ t = (preE D 0 (G.take k)).length) ∧ Below w.heap.size w wr ∧ Hid (wr.heap[g]? = some (.cells (rowAt D G N k).toArray 5 (0, 0)))) (fun _ _ ix _ => G.length - (intOf ix).toNat)
  case atStart => exact ⟨0, Nat.zero_le _, rfl, 0, 0, rfl, rfl, Lib.hid ⟨rfl, rfl⟩, bm, HG0⟩
  case round =>
    obtain ⟨k, hk, rfl, f, t, rfl, rfl, HFT, hbw, HGW⟩ := hrel
    have F3 := (hb.below hbw).kb; simp only [KB, CellsAt, Nat.zero_add, Nat.reduceAdd, and_true] at F3
    clear F2 HG0
    by_cases hlt : k < G.length
    · obtain ⟨⟨a, z⟩, hgk⟩ : ∃ q, G[k]? = some q := ⟨G[k], List.getElem?_eq_getElem hlt⟩
      obtain ⟨bg, og, hAg, hbg, hcg⟩ := HLG.out.plain (by intro e; have := gapCells_len G; rw [e] at this; simp at this; omega)
      subst hAg
      have hga := gapCells_at G k a z hgk
      have ga := (hbw.cell (p := ⟨bg, og + k * 2, none⟩) hbg).trans (hcg (k * 2) _ hga.1)
      have gz := (hbw.cell (p := ⟨bg, og + (k * 2 + 1), none⟩) hbg).trans (hcg (k * 2 + 1) _ hga.2)
      rw [← Nat.add_assoc] at gz
      clear hga hcg
      obtain ⟨q1, q2, q3⟩ := gap_at G 0 D.length k a z HK1.out hgk
      have hpre := pre_len_le D G (k + 1)
      have hpl : (preE D 0 (G.take (k + 1))).length = t + ((a - f) + z) := by
        rw [take_snoc hgk, preE_snoc, HFT.out.1, HFT.out.2]
        simp only [List.length_append, List.length_replicate, List.length_take, List.length_drop]
        omega
      rw [hpl, ← H3.out, ← HN.out] at hpre
      rw [← HFT.out.1] at q1
      have HRN := Lib.hid (row_next D G N k a z hgk (by rw [hpl]; exact hpre))
      have HPL := Lib.hid hpl
      rw [← HFT.out.1, ← HFT.out.2] at HRN
      have hrl := rowAt_len D G N k (by rw [← HFT.out.2]; omega)
      clear hpl
      have hfa : (f : Int) ≤ (a : Int) := by omega
      have haD : (a : Int) ≤ (D.length : Int) := by omega
      have hDc : (D.length : Int) ≤ (c0 : Int) := by omega
      have htN : (t : Int) ≤ (N : Int) := by omega
      have hntN : ¬ N = t := by omega
      have hf0 : (0 : Int) ≤ (f : Int) := by omega
      have ha0 : (0 : Int) ≤ (a : Int) := by omega
      have hac : (a : Int) ≤ (c0 : Int) := by omega
      have hfc : (f : Int) ≤ (c0 : Int) := by omega
      have ht0 : (0 : Int) ≤ (t : Int) := by omega
      have hgb : g < wr.heap.size := (Array.getElem?_eq_some_iff.1 HGW.out).1
      have hcl : ((D.drop f).take (a - f)).length = a - f := by simp only [List.length_take, List.length_drop]; omega
      have hc1 : ∀ v ∈ (D.drop f).take (a - f), v.oneCell' = true := fun v hv => HK2.out.one v (List.mem_of_mem_drop (List.mem_of_mem_take hv))
      have hcc : ∀ (j : Nat) (v : Value), ((D.drop f).take (a - f))[j]? = some v → D[f + j]? = some v := fun j v hv => by
        have hj : j < a - f := by
          rcases Nat.lt_or_ge j (a - f) with h | h
          · exact h
          · rw [List.getElem?_eq_none (by omega)] at hv; cases hv
        simpa [hj] using hv
      have hcn : ((D.drop f).take (a - f)).length = Nat.min (a - f) (N - t) := by rw [hcl]; show _ = min _ _; omega
      have hfit : t + ((D.drop f).take (a - f)).length ≤ (rowAt D G N k).length := by rw [hcl, hrl]; omega
      have s1 : IntKind.i64.wrap (((a - f : Nat) : Int) + (z : Int)) = ((a - f : Nat) : Int) + (z : Int) := IntWalk.i64_in _ (by omega)
      have s2 : IntKind.i64.wrap ((t : Int) + (((a - f : Nat) : Int) + (z : Int))) = (t : Int) + (((a - f : Nat) : Int) + (z : Int)) := IntWalk.i64_in _ (by omega)
      have hgp : p ≠ g := fun e => by have := hb.lt; omega
      have hbox : Blk (wr.alloc (.cells #[.int .i64 (a : Nat), .int .i64 (z : Nat)] 77)).drew wr.heap.size 77 #[.int .i64 (a : Nat), .int .i64 (z : Nat)] := Blk.new wr _ _
      have bw1 : Below w.heap.size w (wr.alloc (.cells #[.int .i64 (a : Nat), .int .i64 (z : Nat)] 77)).drew := (hbw.alloc hbw.size _).drew
      have hbp := hb.below bw1
      have HG1 : (wr.alloc (.cells #[.int .i64 (a : Nat), .int .i64 (z : Nat)] 77)).drew.heap[g]? = some (.cells (rowAt D G N k).toArray 5 (0, 0)) := (Below.heap_alloc _ _ g hgb).trans HGW.out
      have HG1 := Lib.hid HG1
      have hnext : ∀ w5, Only (wr.alloc (.cells #[.int .i64 (a : Nat), .int .i64 (z : Nat)] 77)).drew w5 [g] → Below w.heap.size w w5 := fun w5 o5 => bw1.trans (o5.to_below bw1.size (fun b hm => by simp at hm; omega))
      have HNL := Lib.hid (p := a = lastA 0 (G.take (k + 1)) ∧ t + ((a - f) + z) = (preE D 0 (G.take (k + 1))).length) ⟨by rw [take_snoc hgk, lastA_snoc], HPL.out.symm⟩
      have hld : ∀ a0, A0 = some a0 → ∀ (j : Nat) (v : Value), ((D.drop f).take (a - f))[j]? = some v → (wr.alloc (.cells #[.int .i64 (a : Nat), .int .i64 (z : Nat)] 77)).drew.cell? ((a0.add f).add j) = some v := fun a0 h0 j v hv => by
        have h1 := HLD.out.cell a0 h0 (f + j) v (hcc j v hv)
        have h2 : D ≠ [] := by intro e; subst e; have := hcc j v hv; simp at this
        rw [addr_add_add]
        exact (bw1.cell (by rw [addr_add_block]; exact HLD.out.lt a0 h0 h2)).trans h1
      have hsome : 0 < ((D.drop f).take (a - f)).length → ∃ a0, A0 = some a0 := fun h => by
        cases hA : A0 with
        | some a0 => exact ⟨a0, rfl⟩
        | none =>
          have := HLD.out.nil hA
          subst this
          simp at h
      clear hcc
      generalize (D.drop f).take (a - f) = cs at *
      have HCF : ∀ (w5 : World), Only (wr.alloc (.cells #[.int .i64 (a : Nat), .int .i64 (z : Nat)] 77)).drew w5 [g] → KB w5 [(p, [.int .i64 (R : Nat), .bool false, .slice A0 D.length c0, .slice (some ⟨bg, og, none⟩) G.length cg, .int .i64 (gapSum G : Nat)])] ∧ KB w5 [(wr.heap.size, [.int .i64 (a : Nat), .int .i64 (z : Nat)])] := fun w5 o5 =>
        ⟨(hbp.only o5 (by simpa using hgp)).kb, (hbox.only o5 (by simp; omega)).kb⟩
      clear hfit hcn
      by_cases hcf : c0 = f
      · have HZ1 := Lib.hid (show cs.length = 0 by omega)
        have hz9 : cs = [] := List.eq_nil_of_length_eq_zero HZ1.out
        obtain rfl : a = f := by omega
        obtain rfl : a = c0 := by omega
        subst hz9
        have s3 : IntKind.i64.wrap (z : Int) = (z : Int) := IntWalk.i64_in _ (by omega)
        have s4 : IntKind.i64.wrap ((t : Int) + (z : Int)) = (t : Int) + (z : Int) := IntWalk.i64_in _ (by omega)
        clear s1 s2 hcl hld hsome hcf
        go_wp2
        go_region_held3 (fun w' => w'.cell? ⟨p, 2, none⟩ = some (.slice A0 D.length a) ∧ w'.cell? ⟨wr.heap.size, 0, none⟩ = some (.int .i64 (a : Nat)) ∧ w'.cell? ⟨wr.heap.size, 1, none⟩ = some (.int .i64 (z : Nat))) (first | (refine ⟨?_, ?_, ?_⟩ <;> go_simp)) (first | (refine step_copy_only rfl (.tmp 35) (.tmp 43) 22 22 rfl 5 Tryd.underlying22 u8One _ _ _ _ _ _ rfl rfl g t (rowAt D G N k) 5 HG1.out [] (by show 0 = min _ _; omega) (fun h => absurd h (by simp)) (by rw [hrl]; simp; omega) hc1 ?_; intro w5 HGW5 o5; have F5 := HCF w5 o5; simp only [KB, CellsAt, Nat.zero_add, Nat.reduceAdd, and_true] at F5))
        have bw5 := hnext _ o5
        clear HCF
        go_wp2
        go_roundw
        case rel => exact ⟨k + 1, by omega, by go_num, a, t + ((a - a) + z), rfl, by simp, HNL, bw5, by rw [← HRN.out]; exact HGW5⟩
        case measure => simp [intOf]; omega
      · go_wp2
        go_region_held3 (fun w' => w'.cell? ⟨p, 2, none⟩ = some (.slice A0 D.length c0) ∧ w'.cell? ⟨wr.heap.size, 0, none⟩ = some (.int .i64 (a : Nat)) ∧ w'.cell? ⟨wr.heap.size, 1, none⟩ = some (.int .i64 (z : Nat))) (first | (refine ⟨?_, ?_, ?_⟩ <;> go_simp)) (first | (refine step_copy_only rfl (.tmp 35) (.tmp 43) 22 22 rfl 5 Tryd.underlying22 u8One _ _ _ _ _ _ rfl rfl g t (rowAt D G N k) 5 HG1.out cs (hcl.trans (by show _ = min _ _; omega)) (fun h => ⟨rfl, by obtain ⟨a0, h0⟩ := hsome h; exact ⟨a0.add f, by rw [h0]; rfl, hld a0 h0⟩⟩) (by rw [hrl, hcl]; omega) hc1 ?_; intro w5 HGW5 o5; have F5 := HCF w5 o5; simp only [KB, CellsAt, Nat.zero_add, Nat.reduceAdd, and_true] at F5))
        have bw5 := hnext _ o5
        clear HCF
        go_wp2
        go_roundw
        case rel => exact ⟨k + 1, by omega, by go_num, a, t + ((a - f) + z), rfl, by go_num, HNL, bw5, by rw [← HRN.out]; exact HGW5⟩
        case measure => simp [intOf]; omega
    · obtain rfl : k = G.length := by omega
      have e1 : G.take G.length = G := List.take_length
      have hft := HFT.out
      rw [e1] at hft
      have hlen := expand_pre D G 0
      rw [← H3.out] at hlen
      have hfD := lastA_le G HK1.out
      have hNL := HN.out
      rw [hlen, List.length_append, List.length_drop, ← hft.1, ← hft.2] at hNL
      rw [← hft.1] at hfD
      have hrow := row_last D G
      rw [← H3.out, ← HN.out, ← hft.1, ← hft.2] at hrow
      have HROW := Lib.hid hrow
      have hrl := rowAt_len D G N G.length (by rw [e1, ← hft.2]; omega)
      have hfD0 : (f : Int) ≤ (D.length : Int) := by omega
      have hDc : (D.length : Int) ≤ (c0 : Int) := by omega
      have hfc : (f : Int) ≤ (c0 : Int) := by omega
      have htN : (t : Int) ≤ (N : Int) := by omega
      have hf0 : (0 : Int) ≤ (f : Int) := by omega
      have ht0 : (0 : Int) ≤ (t : Int) := by omega
      have hgb : g < wr.heap.size := (Array.getElem?_eq_some_iff.1 HGW.out).1
      have hgp : p ≠ g := fun e => by have := hb.lt; omega
      have HG1 : wr.drew.heap[g]? = some (.cells (rowAt D G N G.length).toArray 5 (0, 0)) := HGW.out
      have HG1 := Lib.hid HG1
      have hbp := hb.below hbw.drew
      have hc1 : ∀ v ∈ D.drop f, v.oneCell' = true := fun v hv => HK2.out.one v (List.mem_of_mem_drop hv)
      have hcl : (D.drop f).length = D.length - f := List.length_drop
      have hfin : ∀ w5, Hid (w5.heap[g]? = some (.cells (splice (rowAt D G N G.length) t (D.drop f)).toArray 5 (0, 0))) → Only wr.drew w5 [g] → Gave w L (.returned (.tuple #[.slice (some ⟨g, 0, none⟩) N N, .int .i64 0])) w5 := fun w5 H o5 => by
        have h1 := H.out
        rw [HROW.out] at h1
        have h2 := HN.out
        subst h2
        refine ⟨some ⟨g, 0, none⟩, L.length, rfl, ⟨by simp, .inr ⟨g, L.length, L.toArray, rfl, hgw, h1, Nat.le_refl _, by unfold maxLen; omega, by simp, by simp⟩⟩, hbw.drew.trans (o5.to_below hbw.size (fun b hm => by simp at hm; omega))⟩
      have hld : ∀ a0, A0 = some a0 → ∀ (j : Nat) (v : Value), (D.drop f)[j]? = some v → wr.drew.cell? ((a0.add f).add j) = some v := fun a0 h0 j v hv => by
        rw [List.getElem?_drop] at hv
        have h1 := HLD.out.cell a0 h0 (f + j) v hv
        have h2 : D ≠ [] := by intro e; subst e; simp at hv
        rw [addr_add_add]
        exact (hbw.drew.cell (by rw [addr_add_block]; exact HLD.out.lt a0 h0 h2)).trans h1
      have hsome : 0 < (D.drop f).length → ∃ a0, A0 = some a0 := fun h => by
        cases hA : A0 with
        | some a0 => exact ⟨a0, rfl⟩
        | none =>
          have := HLD.out.nil hA
          subst this
          simp at h
      have HFIN := Lib.hid hfin
      have HRL := Lib.hid hrl
      have HNL := Lib.hid hNL
      have HCL := Lib.hid hcl
      clear hfin hrow hlen hft HROW hrl hNL hcl e1
      generalize D.drop f = cs at *
      have HCF : ∀ (w5 : World), Only wr.drew w5 [g] → KB w5 [(p, [.int .i64 (R : Nat), .bool false, .slice A0 D.length c0, .slice Ag G.length cg, .int .i64 (gapSum G : Nat)])] := fun w5 o5 => (hbp.only o5 (by simpa using hgp)).kb
      by_cases hcf : c0 = f
      · have hcs : cs = [] := List.eq_nil_of_length_eq_zero (by have := HCL.out; omega)
        obtain rfl : c0 = f := hcf
        obtain rfl : t = N := by have := HNL.out; omega
        subst hcs
        clear hld hsome
        go_wp2
        go_region_held3 (fun w' => w'.cell? ⟨p, 2, none⟩ = some (.slice A0 D.length c0)) (first | go_simp) (first | (refine step_copy_only rfl (.tmp 54) (.tmp 60) 22 22 rfl 5 Tryd.underlying22 u8One _ _ _ _ _ _ rfl rfl g t (rowAt D G t G.length) 5 HG1.out [] (by show 0 = min _ _; omega) (fun h => absurd h (by simp)) (by rw [HRL.out]; simp) (fun v hv => (nomatch hv)) ?_; intro w5 HGW5 o5; have F5 := HCF w5 o5; simp only [KB, CellsAt, Nat.zero_add, Nat.reduceAdd, and_true] at F5))
        go_wp2
        go_ret2
        exact HFIN.out _ HGW5 o5
      · by_cases hNt : N = t
        · have hcs : cs = [] := List.eq_nil_of_length_eq_zero (by have := HCL.out; have := HNL.out; omega)
          obtain rfl : N = t := hNt
          subst hcs
          clear hld hsome
          go_wp2
          go_region_held3 (fun w' => w'.cell? ⟨p, 2, none⟩ = some (.slice A0 D.length c0)) (first | go_simp) (first | (refine step_copy_only rfl (.tmp 54) (.tmp 60) 22 22 rfl 5 Tryd.underlying22 u8One _ _ _ _ _ _ rfl rfl g N (rowAt D G N G.length) 5 HG1.out [] (by show 0 = min _ _; omega) (fun h => absurd h (by simp)) (by rw [HRL.out]; simp) (fun v hv => (nomatch hv)) ?_; intro w5 HGW5 o5; have F5 := HCF w5 o5; simp only [KB, CellsAt, Nat.zero_add, Nat.reduceAdd, and_true] at F5))
          go_wp2
          go_ret2
          exact HFIN.out _ HGW5 o5
        · go_wp2
          go_region_held3 (fun w' => w'.cell? ⟨p, 2, none⟩ = some (.slice A0 D.length c0)) (first | go_simp) (first | (refine step_copy_only rfl (.tmp 54) (.tmp 60) 22 22 rfl 5 Tryd.underlying22 u8One _ _ _ _ _ _ rfl rfl g t (rowAt D G N G.length) 5 HG1.out cs (HCL.out.trans (by have := HNL.out; show _ = min _ _; omega)) (fun h => ⟨rfl, by obtain ⟨a0, h0⟩ := hsome h; exact ⟨a0.add f, by rw [h0]; rfl, hld a0 h0⟩⟩) (by rw [HRL.out, HCL.out]; have := HNL.out; omega) hc1 ?_; intro w5 HGW5 o5; have F5 := HCF w5 o5; simp only [KB, CellsAt, Nat.zero_add, Nat.reduceAdd, and_true] at F5))
          go_wp2
          go_ret2
          exact HFIN.out _ HGW5 o5

end Go.Proofs.YteffijgajhngeaaDoor

namespace Go.Proofs.YteffijgajhngeaaDoor
open Go Go.RowKit

/-- A cell of a byte, as a byte. -/
def toU8 : Value → UInt8
  | .int _ n => UInt8.ofNat n.toNat
  | _ => 0
set_option maxRecDepth 100000 in
/-- string(b) -/
theorem conv_lists {w : World} {B n c : Nat} {A : Option Addr} {E : List Value} (hl : Lists w B A E) (hn : E.length = n) (h8 : Bytes8 E) :
    ∀ dst, Tryd.prog.underlying dst = some .string → (convert 22 dst (.slice A n c)).run Tryd.prog w = .ok (.string ⟨(E.map toU8).toArray⟩) w := by
  intro dst hd
  cases A with
  | none =>
    rw [hl.nil rfl]
    exact run_convert_bytes_nil w 22 5 Tryd.underlying22 Tryd.underlying5 n c dst hd
  | some a =>
    have := run_convert_bytes_back (P := Tryd.prog) w 22 dst 5 a c (E.map toU8) Tryd.underlying22 Tryd.underlying5 hd (fun j hj => by
      rw [List.length_map] at hj
      obtain ⟨x, hx, he⟩ := h8 E[j] (List.getElem_mem hj)
      rw [hl.cell a rfl j E[j] (List.getElem?_eq_getElem hj)]
      simp only [List.getElem_map, he, toU8]
      congr 2
      rw [Int.toNat_natCast, UInt8.toNat_ofNat']
      congr 1
      omega)
    rw [List.length_map, hn] at this
    exact this

end Go.Proofs.YteffijgajhngeaaDoor

namespace Go.Proofs.YteffijgajhngeaaDoor
open Go Go.RowKit

/-- Is x from a to b? -/
def inB (a b x : Int) : Bool := decide (a ≤ x) && decide (x ≤ b)
theorem inB_yes {a b x : Int} (h1 : a ≤ x) (h2 : x ≤ b) : inB a b x = true := by simp [inB, h1, h2]
theorem inB_true {a b x : Int} (h : inB a b x = true) : a ≤ x ∧ x ≤ b := by simpa [inB] using h
theorem inB_false {a b x : Int} (h : inB a b x = false) : x < a ∨ b < x := by
  by_cases h1 : a ≤ x <;> by_cases h2 : x ≤ b
  · rw [inB_yes h1 h2] at h; cases h
  all_goals omega

/-- What IndexFunc answers of a list in which a predicate holds of one, or of none. -/
def Found {α : Type} (w : World) (L : List α) (p : α → Bool) (e : Ending) (w' : World) : Prop := ∃ r : Int, e = .returned (.int .i64 r) ∧ decide (0 ≤ r) = L.any p ∧ Below w.heap.size w w'
theorem any_snoc {α : Type} {L : List α} {p : α → Bool} {k : Nat} {x : α} (hx : L[k]? = some x) (h : (L.take k).any p = false) (ht : p x = false) : (L.take (k + 1)).any p = false := by
  rw [List.take_add_one, hx]
  simp only [Option.toList_some, List.any_append, h, List.any_cons, ht, List.any_nil, Bool.or_self]
theorem any_yes {α : Type} {L : List α} {p : α → Bool} {k : Nat} {x : α} (hx : L[k]? = some x) (ht : p x = true) : L.any p = true := by
  rw [List.any_eq_true]
  exact ⟨x, List.mem_of_getElem? hx, ht⟩

set_option maxRecDepth 100000 in
theorem findInt_any (g : FuncId) (lb : Array Value) (p : Int → Bool) (B : Nat) (A : Option Addr) (c : Nat) (L : List Int) (w : World) (hB : B ≤ w.heap.size) (hL : Lists w B A (intCells L)) (hn : L.length ≤ 1099511627776)
    (eg : ∀ args w, (callFunc g args).run Tryd.prog w = .ok (.enter g args) w)
    (hp : ∀ (W : World) (x : Int), x ∈ L → Below w.heap.size w W → Calls Tryd.prog g (#[.int .i64 x] ++ lb) W fun e w' => e = .returned (.bool (p x)) ∧ Below W.heap.size W w') :
    Calls Tryd.prog 58 #[.slice A L.length c, .func (.func g) #[] lb] w fun e w' => Found w L p e w' := by
  have HL := Lib.hid hL
  have HP := Lib.hid hp
  clear hL hp
  obtain ⟨n, hnn⟩ : ∃ n, n = L.length := ⟨_, rfl⟩
  rw [← hnn] at hn ⊢
  have HN := Lib.hid hnn
  clear hnn
  go_enter Tryd.func58, Tryd.ntmps58
  go_wp2
  go_loopw [8] (fun i wr => ∃ k : Nat, k ≤ n ∧ i = .int .i64 k ∧ Hid ((L.take k).any p = false) ∧ Below w.heap.size w wr) (fun i _ => n - (intOf i).toNat)
  case atStart => exact ⟨0, Nat.zero_le _, rfl, Lib.hid rfl, Below.refl _ _⟩
  case round =>
    obtain ⟨k, hk, rfl, HK, hb⟩ := hrel
    by_cases hlt : k < n
    · have d1 : decide ((k : Int) < (n : Int)) = true := by simp; omega
      obtain ⟨x, hx⟩ : ∃ x, L[k]? = some x := ⟨L[k]'(by rw [← HN.out]; exact hlt), List.getElem?_eq_getElem _⟩
      have hx' : (intCells L)[k]? = some (.int .i64 x) := by unfold intCells; rw [List.getElem?_map, hx]; rfl
      obtain ⟨b, o, hA, hbl, hcl⟩ := HL.out.plain (by intro e; rw [e] at hx'; simp at hx')
      subst hA
      have g0 := (hb.cell (p := ⟨b, o + k, none⟩) (Nat.lt_of_lt_of_le hbl hB)).trans (hcl k _ hx')
      have C := HP.out wr x (List.mem_of_getElem? hx) hb
      have HX := Lib.hid hx
      clear hcl hx hx'
      cases ht : p x
      · rw [ht] at C
        have HT := Lib.hid (any_snoc HX.out HK.out ht)
        clear ht
        go_wp2_with (go_at_fn g; ((with_reducible refine (C).mono ?_); rintro e w1 ⟨rfl, b1⟩))
        go_roundw
        case rel => exact ⟨k + 1, by omega, by go_num, HT, hb.trans (b1.mono hb.size)⟩
        case measure => simp [intOf]; omega
      · rw [ht] at C
        have HT := Lib.hid (any_yes (L := L) (p := p) HX.out ht)
        clear ht
        go_wp2_with (go_at_fn g; ((with_reducible refine (C).mono ?_); rintro e w1 ⟨rfl, b1⟩))
        go_ret
        exact ⟨(k : Int), rfl, by rw [HT.out]; simp, hb.trans (b1.mono hb.size)⟩
    · have d1 : decide ((k : Int) < (n : Int)) = false := by simp; omega
      have HT := Lib.hid (show L.any p = false by have := HK.out; rwa [List.take_of_length_le (by have := HN.out; omega)] at this)
      go_wp2
      go_ret
      exact ⟨-1, rfl, by rw [HT.out]; rfl, hb⟩

theorem hasInt_any (g : FuncId) (lb : Array Value) (p : Int → Bool) (B : Nat) (A : Option Addr) (c : Nat) (L : List Int) (w : World) (hB : B ≤ w.heap.size) (hL : Lists w B A (intCells L)) (hn : L.length ≤ 1099511627776)
    (eg : ∀ args w, (callFunc g args).run Tryd.prog w = .ok (.enter g args) w)
    (hp : ∀ (W : World) (x : Int), x ∈ L → Below w.heap.size w W → Calls Tryd.prog g (#[.int .i64 x] ++ lb) W fun e w' => e = .returned (.bool (p x)) ∧ Below W.heap.size W w') :
    Calls Tryd.prog 51 #[.slice A L.length c, .func (.func g) #[] lb] w fun e w' => e = .returned (.bool (L.any p)) ∧ Below w.heap.size w w' := by
  have C := findInt_any g lb p B A c L w hB hL hn eg hp
  clear hL hp eg
  go_enter Tryd.func51, Tryd.ntmps51
  go_wp2_with (first | (go_at_call 58; ((with_reducible refine (C).mono ?_); rintro e w1 ⟨r, rfl, hr, b⟩)))
  go_ret
  refine ⟨?_, b⟩
  rw [← hr]
  rfl

end Go.Proofs.YteffijgajhngeaaDoor

namespace Go.Proofs.YteffijgajhngeaaDoor
open Go Go.RowKit

/-- May n glyphs be, m of which have an advance of their own? -/
def cmB (n m : Int) : Bool := inB 1 65535 n && inB 1 n m
theorem cmB_true {n m : Int} (h : cmB n m = true) : 1 ≤ n ∧ n ≤ 65535 ∧ 1 ≤ m ∧ m ≤ n := by
  unfold cmB at h
  rw [Bool.and_eq_true] at h
  have := inB_true h.1
  have := inB_true h.2
  omega
theorem cmB_yes {n m : Int} (h1 : 1 ≤ n) (h2 : n ≤ 65535) (h3 : 1 ≤ m) (h4 : m ≤ n) : cmB n m = true := by
  unfold cmB; rw [inB_yes h1 h2, inB_yes h3 h4]; rfl

/-- Metrics as cells. -/
def metCells : List (Int × Int) → List Value
  | [] => []
  | (a, b) :: r => .int .i64 a :: .int .i64 b :: metCells r
theorem metCells_len : ∀ L : List (Int × Int), (metCells L).length = L.length * 2
  | [] => rfl
  | _ :: r => by simp only [metCells, List.length_cons, metCells_len r]; omega
theorem metCells_snoc (a b : Int) : ∀ L, metCells (L ++ [(a, b)]) = metCells L ++ [.int .i64 a, .int .i64 b]
  | [] => rfl
  | (_, _) :: r => by simp only [List.cons_append, metCells, metCells_snoc a b r]
theorem metCells_at : ∀ (L : List (Int × Int)) (k : Nat) (a b : Int), L[k]? = some (a, b) → (metCells L)[k * 2]? = some (.int .i64 a) ∧ (metCells L)[k * 2 + 1]? = some (.int .i64 b)
  | [], k, a, b, h => by simp at h
  | (x, y) :: r, 0, a, b, h => by
    simp only [List.getElem?_cons_zero, Option.some.injEq, Prod.mk.injEq] at h
    obtain ⟨rfl, rfl⟩ := h
    exact ⟨rfl, rfl⟩
  | (x, y) :: r, k + 1, a, b, h => by
    have := metCells_at r k a b (by simpa using h)
    rw [show (k + 1) * 2 = k * 2 + 1 + 1 by omega]
    exact this
theorem metCells_one : ∀ L : List (Int × Int), ∀ u ∈ metCells L, u.oneCell' = true
  | [], u, h => (nomatch h)
  | (x, y) :: r, u, h => by
    simp only [metCells, List.mem_cons] at h
    rcases h with rfl | rfl | h
    · rfl
    · rfl
    · exact metCells_one r u h

end Go.Proofs.YteffijgajhngeaaDoor

namespace Go.Proofs.YteffijgajhngeaaDoor
open Go.ChangeShapes Go.WideShapes Go.ChangeAt Go.RowKit

theorem choose_list {α : Type} {p : Nat → α → Prop} : ∀ {n : Nat}, (∀ i, i < n → ∃ x, p i x) → ∃ L : List α, L.length = n ∧ ∀ i x, L[i]? = some x → p i x
  | 0, _ => ⟨[], rfl, fun i x h => by simp at h⟩
  | n + 1, h => by
    obtain ⟨L, h1, h2⟩ := choose_list (n := n) fun i hi => h i (by omega)
    obtain ⟨x, hx⟩ := h n (by omega)
    refine ⟨L ++ [x], by simp [h1], fun i y hy => ?_⟩
    rcases Nat.lt_or_ge i n with hi | hi
    · rw [List.getElem?_append_left (by omega)] at hy
      exact h2 i y hy
    · rw [List.getElem?_append_right (by omega)] at hy
      have h3 : i - L.length = 0 := by
        rcases Nat.eq_zero_or_pos (i - L.length) with h | h
        · exact h
        · rw [List.getElem?_eq_none (by simp; omega)] at hy; cases hy
      rw [h3] at hy
      cases hy
      rw [show i = n by omega]
      exact hx

section
variable {H : Type} {enc : TypeId × Value → H} {P : Program}
theorem open_bytes {w : World} {t e : TypeId} {base : Nat} {spare : Nat → Bool} {held : Bool} {r : Reach} {b0 : Nat} {v : Value} {d : DataW H} {p : List MemPlace}
    (hs : P.underlying t = some (.slice e)) (he : P.underlying e = some (.int .u8)) (hC : P.cellsOf e = 1) (hb : P.bytesOf e = 1)
    (hv : Value.okWide P w r b0 t v) (h : DataW.Trod enc P w base spare held t v d p) (hz : ∀ m ∈ d.weights P t, m ≤ reachBytes) :
    ∃ (A : Option Addr) (c : Nat) (E : List Value), v = .slice A E.length c ∧ E.length ≤ c ∧ c ≤ 9223372036854775807 ∧ Lists w w.heap.size A E ∧ Bytes8 E ∧ E.length ≤ 140737488355328 := by
  obtain ⟨a0, len, cap, rfl⟩ := okWide_slice hs hv
  obtain ⟨fuel, hf⟩ := h
  rw [show (Value.slice a0 len cap).cells = #[.slice a0 len cap] from rfl] at hf
  obtain ⟨A, n, c, zs, hv1, hlen, hnc, hcm, hL, hwf, hw⟩ := open_nums hs he hC hf
  have h1 := hw reachBytes hz
  rw [hb] at h1
  have hr := reachBytes_lt
  unfold maxLen at hcm
  refine ⟨A, c, zs.map (Value.int .u8), by rw [List.length_map, hlen]; exact hv1, by rw [List.length_map]; omega, hcm, hL, bytes_of_wf hwf, by rw [List.length_map]; omega⟩

theorem open_mets {w : World} {t e : TypeId} {f0 f1 : Field} {base : Nat} {spare : Nat → Bool} {held : Bool} {r : Reach} {b0 : Nat} {v : Value} {d : DataW H} {p : List MemPlace}
    (ht : P.underlying t = some (.slice e)) (he : P.underlying e = some (.struct #[f0, f1])) (hone : Deep.oneCellFields P #[f0, f1] = true) (hC : P.cellsOf e = 2)
    (i0 : P.underlying f0.type = some (.int .i64)) (i1 : P.underlying f1.type = some (.int .i64))
    (hv : Value.okWide P w r b0 t v) (h : DataW.Trod enc P w base spare held t v d p) :
    ∃ (A : Option Addr) (c : Nat) (L : List (Int × Int)), v = .slice A L.length c ∧ L.length ≤ c ∧ c ≤ 9223372036854775807 ∧ Lists w w.heap.size A (metCells L) := by
  obtain ⟨a0, len, cap, rfl⟩ := okWide_slice ht hv
  obtain ⟨fuel, hf⟩ := h
  rcases Deep.open_slice ht hf with ⟨hcs, _⟩ | ⟨a, len', cap', m, n, D, Pl, hcs, hb, hl, hm, hmm, hx, hi⟩
  · simp [Value.cells] at hcs
    obtain ⟨rfl, rfl, rfl⟩ := hcs
    exact ⟨none, 0, [], rfl, Nat.le_refl _, Nat.zero_le _, Lists.empty _ _ _⟩
  · simp [Value.cells] at hcs
    obtain ⟨rfl, rfl, rfl⟩ := hcs
    unfold maxLen at hm
    have hlm : len ≤ m := by split at hmm <;> omega
    obtain ⟨L, hLl, hL⟩ := choose_list (n := len) (p := fun i (q : Int × Int) => w.cell? (a.add (i * 2)) = some (.int .i64 q.1) ∧ w.cell? (a.add (i * 2 + 1)) = some (.int .i64 q.2)) fun i hil => by
      obtain ⟨cs', hc, ht'⟩ := hi i (by omega)
      rw [hC] at hc
      obtain ⟨ys, n', _, hy, _, hyl, hg⟩ := DataW.trod_struct he ht'
      obtain ⟨_, hcl, hat⟩ := World.cells?_some hc
      match cs', hcl with
      | [c0, c1], _ =>
        match ys, hyl with
        | [y0, y1], _ =>
          have k0 := one_of hone hg (j := 0) rfl rfl rfl
          have k1 := one_of hone hg (j := 1) rfl rfl rfl
          obtain ⟨z0, e0, _, _⟩ := DataW.trod_int i0 k0
          obtain ⟨z1, e1, _, _⟩ := DataW.trod_int i1 k1
          simp only [List.cons.injEq, and_true] at e0 e1
          subst e0 e1
          have a0 : w.cell? (a.add (i * 2)) = some (.int .i64 z0) := by have := hat 0 (by omega); rw [Go.Deep.add_add] at this; exact this
          have a1 : w.cell? (a.add (i * 2 + 1)) = some (.int .i64 z1) := by have := hat 1 (by omega); rw [Go.Deep.add_add] at this; exact this
          exact ⟨(z0, z1), a0, a1⟩
    have hcell : ∀ j u, (metCells L)[j]? = some u → w.cell? (a.add j) = some u := fun j u hu => by
      have hj : j < L.length * 2 := by
        rcases Nat.lt_or_ge j (L.length * 2) with h | h
        · exact h
        · rw [List.getElem?_eq_none (by rw [metCells_len]; exact h)] at hu; cases hu
      obtain ⟨q, hq⟩ : ∃ q, L[j / 2]? = some q := ⟨L[j / 2]'(by omega), List.getElem?_eq_getElem _⟩
      obtain ⟨h1, h2⟩ := metCells_at L (j / 2) q.1 q.2 hq
      obtain ⟨h3, h4⟩ := hL _ _ hq
      rcases Nat.mod_two_eq_zero_or_one j with h | h
      · rw [show j / 2 * 2 = j by omega] at h1 h3
        rw [h1] at hu; cases hu; exact h3
      · rw [show j / 2 * 2 + 1 = j by omega] at h2 h4
        rw [h2] at hu; cases hu; exact h4
    refine ⟨some a, cap, L, by rw [hLl], by omega, hm, ⟨fun ha => (nomatch ha), fun a' ha => ?_, fun a' ha hne => ?_⟩⟩
    · cases ha; exact hcell
    · cases ha
      have h0 : 0 < (metCells L).length := by
        rcases Nat.eq_zero_or_pos (metCells L).length with h | h
        · exact absurd (List.eq_nil_of_length_eq_zero h) hne
        · exact h
      have := cell_lt (hcell 0 _ (List.getElem?_eq_getElem h0))
      rwa [addr_add_block] at this
end

end Go.Proofs.YteffijgajhngeaaDoor

namespace Go.Proofs.YteffijgajhngeaaDoor
open Go.ChangeShapes Go.WideShapes Go.ChangeAt Go.RowKit Go.Deep

section
variable {H : Type} {enc : TypeId × Value → H} {P : Program}
theorem open_four {w : World} {t : TypeId} {f0 f1 f2 f3 : Field} {base : Nat} {spare : Nat → Bool} {held : Bool} {r : Reach} {b0 : Nat} {v : Value} {d : DataW H} {p : List MemPlace}
    (hs : P.underlying t = some (.struct #[f0, f1, f2, f3])) (hone : oneCellFields P #[f0, f1, f2, f3] = true) (hC : P.cellsOf t = 4)
    (u0 : P.underlying f0.type = some (.int .i64)) (u1 : P.underlying f1.type = some (.int .i64)) (u2 : P.underlying f2.type = some (.int .i64)) (u3 : P.underlying f3.type = some (.int .i64))
    (hv : Value.okWide P w r b0 t v) (h : DataW.Trod enc P w base spare held t v d p) :
    ∃ a b c e : Int, v = .agg #[.int .i64 a, .int .i64 b, .int .i64 c, .int .i64 e] ∧ (Lit.int .i64 a).wf = true ∧ (Lit.int .i64 b).wf = true ∧ (Lit.int .i64 c).wf = true ∧ (Lit.int .i64 e).wf = true := by
  obtain ⟨v0, v1, v2, v3, y0, y1, y2, y3, n, rfl, _, _, h0, h1, h2, h3⟩ := Joins.open_agg4 hs hone hC hv h
  obtain ⟨a, e0, _, wa⟩ := DataW.trod_int u0 h0
  obtain ⟨b, e1, _, wb⟩ := DataW.trod_int u1 h1
  obtain ⟨c, e2, _, wc⟩ := DataW.trod_int u2 h2
  obtain ⟨e, e3, _, we⟩ := DataW.trod_int u3 h3
  simp at e0 e1 e2 e3
  subst e0 e1 e2 e3
  exact ⟨a, b, c, e, rfl, wa, wb, wc, we⟩
end


end Go.Proofs.YteffijgajhngeaaDoor

namespace Go.Proofs.YteffijgajhngeaaDoor
open Go Go.RowKit

variable {q : Nat → Prop}
theorem Rd.bytes {w : World} {p i : Nat} {bs : List Value} {bad : Bool} (h : Rd q w p bs i bad) : Bytes8 bs := by
  obtain ⟨_, _, _, _, h8, _⟩ := h
  exact h8
/-- A number was read: x; the reader stands at i. -/
def ReadN (q : Nat → Prop) (w : World) (p : Nat) (bs : List Value) (i : Nat) (x : Int) (e : Ending) (w' : World) : Prop := e = .returned (.int .i64 x) ∧ Rd q w' p bs i false ∧ Only w w' [p]
theorem rdNum2 (p : Nat) (bs : List Value) (i : Nat) (w : World) (h : Rd q w p bs i false) (hL : bs.length ≤ 4611686018427387904) (him : i + 2 ≤ bs.length) :
    Calls Tryd.prog 46 #[.pointer (some ⟨p, 0, none⟩), .int .i64 2] w (ReadN q w p bs (i + 2) (rd2 bs i : Nat)) :=
  number2_ok p bs i (byteAt bs i) (byteAt bs (i + 1)) w h hL him (byteAt_get h.bytes (by omega)) (byteAt_get h.bytes (by omega)) (byteAt_lt h.bytes _) (byteAt_lt h.bytes _)
theorem rdNum4 (p : Nat) (bs : List Value) (i : Nat) (w : World) (h : Rd q w p bs i false) (hL : bs.length ≤ 4611686018427387904) (him : i + 4 ≤ bs.length) :
    Calls Tryd.prog 46 #[.pointer (some ⟨p, 0, none⟩), .int .i64 4] w (ReadN q w p bs (i + 4) (rd4 bs i : Nat)) :=
  number4_ok p bs i (byteAt bs i) (byteAt bs (i + 1)) (byteAt bs (i + 2)) (byteAt bs (i + 3)) w h hL him (byteAt_get h.bytes (by omega)) (byteAt_get h.bytes (by omega)) (byteAt_get h.bytes (by omega)) (byteAt_get h.bytes (by omega)) (byteAt_lt h.bytes _) (byteAt_lt h.bytes _) (byteAt_lt h.bytes _) (byteAt_lt h.bytes _)
theorem rdU16 (p : Nat) (bs : List Value) (i : Nat) (w : World) (h : Rd q w p bs i false) (hL : bs.length ≤ 4611686018427387904) (him : i + 2 ≤ bs.length) :
    Calls Tryd.prog 27 #[.pointer (some ⟨p, 0, none⟩)] w (ReadN q w p bs (i + 2) (rd2 bs i : Nat)) := by
  have C := rdNum2 p bs i w h hL him
  clear h
  go_enter Tryd.func27, Tryd.ntmps27
  go_wp2_with (first | (go_at_call 46; ((refine C.mono ?_); rintro e w2 ⟨rfl, hr, o2⟩)))
  go_ret
  exact ⟨rfl, hr, o2⟩
theorem s16_wrap (x : Nat) (h : x < 65536) : wrap64 (IntKind.i16.wrap (x : Int)) = s16 x := by
  have e : IntKind.i16.wrap (x : Int) = s16 x := by
    unfold s16
    by_cases h1 : x < 32768
    · rw [if_pos h1]; exact IntWalk.i16_in _ (by omega)
    · rw [if_neg h1]
      have h2 : (x : Int) % 65536 = x := by omega
      simp only [IntKind.wrap, IntKind.bits, IntKind.signed, Bool.true_and]
      have h3 : (if decide ((x : Int) % 65536 ≥ 32768) = true then (x : Int) % 65536 - 65536 else (x : Int) % 65536) = (x : Int) - 65536 := by rw [h2, if_pos (by simp; omega)]
      exact h3
  rw [e]
  unfold wrap64 s16
  split <;> omega
end Go.Proofs.YteffijgajhngeaaDoor

namespace Go.Proofs.YteffijgajhngeaaDoor
open Go Go.RowKit

variable {q : Nat → Prop}
def RS (q : Nat → Prop) (w : World) (p : Nat) (bs : List Value) (k : Nat) : Prop := (k ≤ bs.length ∧ Rd q w p bs k false) ∨ (bs.length < k ∧ ∃ i, Rd q w p bs i true)
theorem RS.below {w w1 : World} {p k : Nat} {bs : List Value} (h : RS q w p bs k) (b : Below w.heap.size w w1) : RS q w1 p bs k :=
  h.imp (fun ⟨h1, h2⟩ => ⟨h1, h2.below b⟩) (fun ⟨h1, i, h2⟩ => ⟨h1, i, h2.below b⟩)
theorem RS.only {w w1 : World} {p k : Nat} {bs : List Value} {fp : List Nat} (h : RS q w p bs k) (o : Only w w1 fp) (hp : p ∉ fp) (hq : ∀ b ∈ fp, ¬ q b) : RS q w1 p bs k :=
  h.imp (fun ⟨h1, h2⟩ => ⟨h1, h2.only o hp hq⟩) (fun ⟨h1, i, h2⟩ => ⟨h1, i, h2.only o hp hq⟩)
theorem RS.bytes {w : World} {p k : Nat} {bs : List Value} (h : RS q w p bs k) : Bytes8 bs := h.elim (fun h => h.2.bytes) fun ⟨_, _, h⟩ => h.bytes

/-- The number of m bytes at k: 0 where they are not all there. -/
def rsn (bs : List Value) (m k : Nat) (x : Nat) : Nat := if k + m ≤ bs.length then x else 0
theorem rsn_lt {bs : List Value} {m k x B : Nat} (h : x < B) : rsn bs m k x < B := by unfold rsn; split <;> omega
/-- A number was read by a reader that may have come to its end. -/
def ReadS (q : Nat → Prop) (w : World) (p : Nat) (bs : List Value) (k : Nat) (x : Int) (e : Ending) (w' : World) : Prop := e = .returned (.int .i64 x) ∧ RS q w' p bs k ∧ Only w w' [p]

theorem rs_num (p : Nat) (bs : List Value) (k m x : Nat) (w : World) (h : RS q w p bs k) (hL : bs.length ≤ 4611686018427387904) (hm : 0 < m)
    (C : k + m ≤ bs.length → Rd q w p bs k false → Calls Tryd.prog 46 #[.pointer (some ⟨p, 0, none⟩), .int .i64 (m : Nat)] w fun e w' => e = .returned (.int .i64 (x : Nat)) ∧ Rd q w' p bs (k + m) false ∧ Only w w' [p]) :
    Calls Tryd.prog 46 #[.pointer (some ⟨p, 0, none⟩), .int .i64 (m : Nat)] w (ReadS q w p bs (k + m) (rsn bs m k x : Nat)) := by
  unfold rsn
  rcases h with ⟨h1, h2⟩ | ⟨h1, i, h2⟩
  · by_cases hk : k + m ≤ bs.length
    · rw [if_pos hk]
      exact (C hk h2).mono fun e w' ⟨a, b, c⟩ => ⟨a, .inl ⟨hk, b⟩, c⟩
    · rw [if_neg hk]
      exact (number_short p bs k (m : Nat) w h2 hL (.inr (by omega))).mono fun e w' ⟨a, b, c⟩ => ⟨a, .inr ⟨by omega, k, b⟩, c⟩
  · rw [if_neg (by omega)]
    exact (number_bad p bs i (m : Nat) w h2).mono fun e w' ⟨a, b⟩ => ⟨a, .inr ⟨by omega, i, b ▸ h2⟩, b ▸ Only.refl _ _⟩
theorem rsNum1 (p : Nat) (bs : List Value) (k : Nat) (w : World) (h : RS q w p bs k) (hL : bs.length ≤ 4611686018427387904) :
    Calls Tryd.prog 46 #[.pointer (some ⟨p, 0, none⟩), .int .i64 1] w (ReadS q w p bs (k + 1) (rsn bs 1 k (byteAt bs k) : Nat)) :=
  rs_num p bs k 1 _ w h hL (by decide) fun hk hR => number1_ok p bs k (byteAt bs k) w hR hL hk (byteAt_get hR.bytes (by omega)) (byteAt_lt hR.bytes _)
theorem rsNum2 (p : Nat) (bs : List Value) (k : Nat) (w : World) (h : RS q w p bs k) (hL : bs.length ≤ 4611686018427387904) :
    Calls Tryd.prog 46 #[.pointer (some ⟨p, 0, none⟩), .int .i64 2] w (ReadS q w p bs (k + 2) (rsn bs 2 k (rd2 bs k) : Nat)) :=
  rs_num p bs k 2 _ w h hL (by decide) fun hk hR => rdNum2 p bs k w hR hL hk
theorem rsNum4 (p : Nat) (bs : List Value) (k : Nat) (w : World) (h : RS q w p bs k) (hL : bs.length ≤ 4611686018427387904) :
    Calls Tryd.prog 46 #[.pointer (some ⟨p, 0, none⟩), .int .i64 4] w (ReadS q w p bs (k + 4) (rsn bs 4 k (rd4 bs k) : Nat)) :=
  rs_num p bs k 4 _ w h hL (by decide) fun hk hR => rdNum4 p bs k w hR hL hk

theorem rsU8 (p : Nat) (bs : List Value) (k : Nat) (w : World) (h : RS q w p bs k) (hL : bs.length ≤ 4611686018427387904) :
    Calls Tryd.prog 24 #[.pointer (some ⟨p, 0, none⟩)] w (ReadS q w p bs (k + 1) (rsn bs 1 k (byteAt bs k) : Nat)) := by
  have C := rsNum1 p bs k w h hL
  clear h
  go_enter Tryd.func24, Tryd.ntmps24
  go_wp2_with (first | (go_at_call 46; ((refine C.mono ?_); rintro e w2 ⟨rfl, hr, o2⟩)))
  go_ret
  exact ⟨rfl, hr, o2⟩
theorem rsU16 (p : Nat) (bs : List Value) (k : Nat) (w : World) (h : RS q w p bs k) (hL : bs.length ≤ 4611686018427387904) :
    Calls Tryd.prog 27 #[.pointer (some ⟨p, 0, none⟩)] w (ReadS q w p bs (k + 2) (rsn bs 2 k (rd2 bs k) : Nat)) := by
  have C := rsNum2 p bs k w h hL
  clear h
  go_enter Tryd.func27, Tryd.ntmps27
  go_wp2_with (first | (go_at_call 46; ((refine C.mono ?_); rintro e w2 ⟨rfl, hr, o2⟩)))
  go_ret
  exact ⟨rfl, hr, o2⟩
end Go.Proofs.YteffijgajhngeaaDoor

namespace Go.Proofs.YteffijgajhngeaaDoor
open Go Go.RowKit

/-- Blocks of other kinds than a writer's stay. -/
def Safe (w w' : World) : Prop := ∀ (q : Nat) (T : TypeId) (cs : Array Value), T ≠ 5 → T ≠ 77 → T ≠ 74 → Blk w q T cs → Blk w' q T cs
theorem wr_safe {w w' : World} {p R : Nat} {F : Bool} {L : List Value} {fp : List Nat} (h : Wr w p R F L fp) (o : Only w w' fp) : Safe w w' := by
  obtain ⟨D, G, dv, gv, hb, hd, hg, _, _, _, _, rfl⟩ := h
  intro q T cs n1 n2 n3 hq
  refine hq.only o fun hm => ?_
  rcases List.mem_cons.1 hm with rfl | hm
  · unfold Blk at hb hq
    rw [hb] at hq
    injection hq with hq
    injection hq with _ e
    exact n3 e.symm
  · rcases List.mem_append.1 hm with hm | hm
    · exact own_ne hd hq n1.symm hm
    · exact own_ne hg hq n2.symm hm

/-- A writer that was made since world w0. -/
def WS (w0 w : World) (p R : Nat) (L : List Value) : Prop := ∃ fp, Wr w p R false L fp ∧ Below w0.heap.size w0 w ∧ ∀ b ∈ fp, w0.heap.size ≤ b
theorem WS.below {w0 w w1 : World} {p R : Nat} {L : List Value} (h : WS w0 w p R L) (k : Below w.heap.size w w1) : WS w0 w1 p R L := by
  obtain ⟨fp, hW, b, hf⟩ := h
  exact ⟨fp, hW.only (Only.of_below k []) (fun _ _ h => (nomatch h)), b.trans (k.mono b.size), hf⟩
theorem WS.alloc {w0 w : World} {p R : Nat} {L : List Value} (h : WS w0 w p R L) (o : Obj) : WS w0 (w.alloc o) p R L := h.below ((Below.refl _ _).alloc (Nat.le_refl _) o)
theorem WS.old {w0 w : World} {p R : Nat} {L : List Value} (h : WS w0 w p R L) : Below w0.heap.size w0 w := h.elim fun _ h => h.2.1
def Wrote (w0 w : World) (p R : Nat) (L E : List Value) (e : Ending) (w' : World) : Prop := e = .returned (.pointer (some ⟨p, 0, none⟩)) ∧ WS w0 w' p R (L ++ E) ∧ Safe w w' ∧ w.heap.size ≤ w'.heap.size
theorem ws_put {w0 w : World} {p R : Nat} {L E : List Value} {f : FuncId} {args : Array Value} (h : WS w0 w p R L) (hx : L.length + E.length ≤ R)
    (hc : ∀ fp, Wr w p R false L fp → Calls Tryd.prog f args w fun e w' => e = .returned (.pointer (some ⟨p, 0, none⟩)) ∧ Put w w' p R false L fp E) :
    Calls Tryd.prog f args w (Wrote w0 w p R L E) := by
  obtain ⟨fp, hW, b, hf⟩ := h
  refine (hc fp hW).mono fun e w' ⟨he, fp', h1, h2, h3⟩ => ⟨he, ⟨fp', ?_, ?_, fun x hx => ?_⟩, wr_safe hW h2, h2.size⟩
  · have e1 : putF R false L E = false := by unfold putF; simp; exact hx
    rw [e1] at h1
    unfold putL at h1
    rw [e1, if_neg (by simp)] at h1
    exact h1
  · exact b.trans (h2.to_below b.size hf)
  · rcases h3 x hx with h | h
    · exact hf x h
    · have := b.size; omega
theorem wsU16 (w0 w : World) (p R : Nat) (L : List Value) (x : Int) (h : WS w0 w p R L) (hx : L.length + 2 ≤ R) (hR : R ≤ 1099511627776) :
    Calls Tryd.prog 37 #[.pointer (some ⟨p, 0, none⟩), .int .i64 x] w (Wrote w0 w p R L (be2 x)) := ws_put h hx fun fp hW => wU16_any p R false L fp x w hW hR
theorem own_base {w : World} {base base1 : Nat} {e : TypeId} {size n : Nat} {v : Value} {xs : List Value} (h : w.ownsRow base e size v n xs) (hb : base1 ≤ base) : w.ownsRow base1 e size v n xs :=
  ⟨h.1, h.2.imp id fun ⟨g, cap, cur, h1, h2, h3⟩ => ⟨g, cap, cur, h1, Nat.le_trans hb h2, h3⟩⟩
theorem wsDone (w0 w : World) (p R : Nat) (L : List Value) (h : WS w0 w p R L) (hR : R ≤ 2147483647) :
    Calls Tryd.prog 38 #[.pointer (some ⟨p, 0, none⟩)] w (Gave w0 L) := by
  obtain ⟨fp, hW, b, hf⟩ := h
  exact (wdone_any p R L fp w hW hR).mono fun e w' ⟨A, c, h1, h2, h3⟩ => ⟨A, c, h1, own_base h2 b.size, b.trans (h3.mono b.size)⟩
/-- A new writer was answered. -/
def MadeWS (w0 w : World) (R : Nat) (e : Ending) (w' : World) : Prop := ∃ p, e = .returned (.pointer (some ⟨p, 0, none⟩)) ∧ WS w0 w' p R [] ∧ Below w.heap.size w w'
theorem wsTo (w0 w : World) (R : Nat) (hb : Below w0.heap.size w0 w) : Calls Tryd.prog 32 #[.int .i64 (R : Nat)] w (MadeWS w0 w R) := by
  refine (to_any (R : Nat) w).mono fun e w' ⟨p, fp, h1, h2, h3, h4⟩ => ⟨p, h1, ⟨fp, h2, hb.trans (h3.mono hb.size), fun b hm => ?_⟩, h3⟩
  have := h4 b hm
  have := hb.size
  omega
theorem wsU8 (w0 w : World) (p R : Nat) (L : List Value) (x : Int) (h : WS w0 w p R L) (hx : L.length + 1 ≤ R) (hR : R ≤ 1099511627776) :
    Calls Tryd.prog 33 #[.pointer (some ⟨p, 0, none⟩), .int .i64 x] w (Wrote w0 w p R L (be1 x)) := ws_put h hx fun fp hW => wU8_any p R false L fp x w hW hR

end Go.Proofs.YteffijgajhngeaaDoor
