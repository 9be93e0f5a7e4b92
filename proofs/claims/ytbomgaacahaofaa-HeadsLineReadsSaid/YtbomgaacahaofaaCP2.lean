/- Part 3 of the proof: Wr4, Bytes2, Copy, Wr5, MetM, Ws, Wide, ChainW. -/
import Derived.Deep.RegionLaw
import Derived.Outline
import Derived.Deep.OwnRows
import Derived.Laws.CopyOwn
import Derived.Deep.RegionHeld3
import Derived.Deep.DeepAppendWide
import Derived.Test.YtbomgaacahaofaaCP1

namespace Go.Proofs.Ytbomgaacahaofaa
open Go Go.RowKit

theorem step_append_src {P : Program} {w : World} {ops : Array Oper} {o : Oper} {a : Act} {K : Act → World → Prop} {Q : Exit → Act → World → Prop} {X : Prop} (hgd : o.guard = none) (s x : Operand) (t : TypeId)
    (ho : o.op = .call { callee := .builtin .append, args := #[s, x], argTypes := #[t, t] })
    (base : Nat) (e : TypeId) (i : TypeInfo) (z : Value) (size bytes : Nat) (ht : P.underlying t = some (.slice e)) (hi : P.info? e = some i) (hz : i.zero = some z)
    (hsize : i.size = size) (hby : i.bytes = bytes) (hzs : z.cells.size = size) (hsz : 0 < size)
    (v : Value) (n : Nat) (xs : List Value) (hs : a.eval s = v) (hown : w.ownsRow base e size v n xs)
    (B : Nat) (A : Option Addr) (m c : Nat) (news : List Value) (hx : a.eval x = .slice A m c) (hr : Lists w B A news) (hl : news.length = m * size) (h1 : ∀ u ∈ news, u.oneCell' = true)
    (h63 : n + m ≤ maxLen) (hbytes : (n + m) * bytes ≤ 140737488355328) (hbase : base ≤ w.heap.size)
    (h : ∀ v' w', w'.ownsRow base e size v' (n + m) (xs ++ news) → w.grownBy w' v.ownBlock → (v'.ownBlock = v.ownBlock ∨ v'.ownBlock = some w.heap.size) → K (a.put o.dst v') w') :
    if Region.wanted o (yielded ops a.tmps) = true then Oper.wp P o a w K Q else X := by
  rw [if_pos (by simp [Region.wanted, hgd])]
  exact wp_append_src w s x t ho base e i z size bytes ht hi hz hsize hby hzs hsz v n xs hs hown B A m c news hx hr hl h1 h63 hbytes hbase h

/-- How many zeros a pad to n wants. -/
def padN (l : Nat) (n : Int) : Nat := if n < 1 then 0 else if (l : Int) % n = 0 then 0 else (n - (l : Int) % n).toNat

theorem Put.nothing {w w' : World} {p R : Nat} {F : Bool} {L : List Value} {fp : List Nat} (hW : Wr w p R F L fp) (hb : Below w.heap.size w w') : Put w w' p R F L fp [] := by
  have hL : L.length ≤ R := by
    obtain ⟨_, _, _, _, _, _, _, _, _, _, h, _⟩ := hW
    exact h
  have hf : putF R F L [] = F := by
    unfold putF
    rw [show decide (R < L.length + ([] : List Value).length) = false by simp; omega]
    simp
  refine ⟨fp, ?_, Only.of_below hb fp, fun b h => .inl h⟩
  unfold putL
  rw [hf]
  have := hW.only (Only.of_below hb []) (fun _ _ h => (nomatch h))
  cases F
  · rw [if_neg (by simp), List.append_nil]; exact this
  · rw [if_pos rfl]; exact this
theorem Put.before {w w1 w' : World} {p R : Nat} {F : Bool} {L E : List Value} {fp : List Nat} (hb : Below w.heap.size w w1) (h : Put w1 w' p R F L fp E) : Put w w' p R F L fp E := by
  obtain ⟨fp', h1, h2, h3⟩ := h
  exact ⟨fp', h1, (Only.of_below hb fp).trans h2 (fun b hb => .inl hb), fun b hm => (h3 b hm).imp id (fun h => Nat.le_trans hb.size h)⟩

theorem pad_done {w w2 w3 w4 : World} {p R : Nat} {L D : List Value} {fp : List Nat} {G : List (Nat × Nat)} {dv gv v4 : Value} {z H : Nat} (hb : Blk w p 108 #[.int .i64 (R : Nat), .bool false, dv, gv, .int .i64 (gapSum G : Nat)]) (hD : w.ownsRow 0 5 1 dv D.length D) (hG : w.ownsRow 0 110 2 gv G.length (gapCells G))
    (k1 : GapsOk 0 G D.length) (k2 : Bytes8 D) (k3 : L = expand D 0 G) (k5 : fp = p :: (blk dv ++ blk gv)) (hf : putF R false L (List.replicate z zero8) = false) (hx : L.length + z ≤ R) (hz1 : 1 ≤ z)
    (b2 : Below w.heap.size w w2) (o3 : Only w2 w3 [p]) (o4 : Only w3 w4 (blk gv)) (hb4 : Blk w4 p 108 #[.int .i64 (R : Nat), .bool false, dv, gv, .int .i64 (gapSum G : Nat)])
    (hown : w4.ownsRow 0 110 2 v4 (G.length + 1) (gapCells G ++ [.int .i64 (D.length : Nat), .int .i64 (z : Nat)])) (hat : v4.ownBlock = gv.ownBlock ∨ v4.ownBlock = some H) (hH : w3.heap.size ≤ H) (s : Int) (hs : s = (gapSum G : Int) + z) :
    Put w ((w4.setCell ⟨p, 3, none⟩ v4).setCell ⟨p, 4, none⟩ (.int .i64 s)) p R false L fp (List.replicate z zero8) := by
  have n1 := own_ne hG hb (by decide)
  have n2 := own_ne hD hb (by decide)
  have n3 := own_own hD hG (by decide)
  have n4 := own_ne hown hb4 (by decide)
  have o1 : Only w w3 [p] := (Only.of_below b2 [p]).trans o3 (fun b hb => .inl hb)
  have o5 : Only w4 ((w4.setCell ⟨p, 3, none⟩ v4).setCell ⟨p, 4, none⟩ (.int .i64 s)) [p] := ((Only.refl _ _).set (.inl (by simp)) _).set (.inl (by simp)) _
  refine ⟨p :: (blk dv ++ blk v4), ?_, ?_, ?_⟩
  · unfold putL
    rw [hf, if_neg (by simp)]
    refine ⟨D, G ++ [(D.length, z)], dv, v4, ?_, own_only (own_only (own_only hD o1 (fun b hm e => by simp at e; subst e; exact n2 hm)) o4 (fun b hm e => n3 b hm e)) o5 (fun b hm e => by simp at e; subst e; exact n2 hm), ?_, k1.snoc hz1, k2, ?_, ?_, rfl⟩
    · have := (hb4.set 3 v4).set 4 (.int .i64 s)
      rw [show ((gapSum (G ++ [(D.length, z)]) : Nat) : Int) = s by rw [hs]; simp [gapSum]]
      exact this
    · rw [gapCells_snoc, show (G ++ [(D.length, z)]).length = G.length + 1 by simp]
      exact own_only hown o5 (fun b hm e => by simp at e; subst e; exact n4 hm)
    · rw [expand_gap D z G 0 k1, ← k3]
    · rw [List.length_append, List.length_replicate]; exact hx
  · subst k5
    exact ((o1.more (fun b hm => by simp at hm; subst hm; simp)).trans o4 (fun b hm => .inl (by simp [hm]))).trans o5 (fun b hm => by simp at hm; subst hm; simp)
  · intro b hm
    subst k5
    rcases List.mem_cons.1 hm with rfl | hm
    · exact .inl (by simp)
    · rcases List.mem_append.1 hm with hm | hm
      · exact .inl (by simp [hm])
      · rcases hat with e | e
        · left
          have : b ∈ blk gv := by unfold blk at hm ⊢; rw [← e]; exact hm
          simp [this]
        · right
          have : b = H := by unfold blk at hm; rw [e] at hm; simpa using hm
          have := o1.size
          omega

end Go.Proofs.Ytbomgaacahaofaa

namespace Go.Proofs.Ytbomgaacahaofaa
open Go Go.RowKit

/-- What stands ahead of the data behind the last gap; where that data begins. -/
def preE (D : List Value) : Nat → List (Nat × Nat) → List Value
  | _, [] => []
  | i, (a, z) :: G => (D.drop i).take (a - i) ++ List.replicate z zero8 ++ preE D a G
def lastA : Nat → List (Nat × Nat) → Nat
  | i, [] => i
  | _, (a, _) :: G => lastA a G

theorem expand_pre (D : List Value) : ∀ (G : List (Nat × Nat)) (i : Nat), expand D i G = preE D i G ++ D.drop (lastA i G)
  | [], i => rfl
  | (a, z) :: G, i => by simp only [expand, preE, lastA, expand_pre D G a, List.append_assoc]
theorem preE_snoc (D : List Value) (a z : Nat) : ∀ (G : List (Nat × Nat)) (i : Nat), preE D i (G ++ [(a, z)]) = preE D i G ++ ((D.drop (lastA i G)).take (a - lastA i G) ++ List.replicate z zero8)
  | [], i => by simp [preE, lastA]
  | (b, y) :: G, i => by simp only [List.cons_append, preE, lastA, preE_snoc D a z G b, List.append_assoc]
theorem lastA_snoc (a z : Nat) : ∀ (G : List (Nat × Nat)) (i : Nat), lastA i (G ++ [(a, z)]) = a
  | [], i => rfl
  | (b, y) :: G, i => by simp only [List.cons_append, lastA, lastA_snoc a z G b]
theorem lastA_le : ∀ (G : List (Nat × Nat)) {i n : Nat}, GapsOk i G n → lastA i G ≤ n
  | [], _, _, h => h
  | (_, _) :: G, _, _, h => lastA_le G h.2.2
theorem gap_at : ∀ (G : List (Nat × Nat)) (i n k a z : Nat), GapsOk i G n → G[k]? = some (a, z) → lastA i (G.take k) ≤ a ∧ a ≤ n ∧ 1 ≤ z
  | [], _, _, k, _, _, _, h => by simp at h
  | (b, y) :: G, i, n, 0, a, z, hg, h => by
    simp only [List.getElem?_cons_zero, Option.some.injEq, Prod.mk.injEq] at h
    obtain ⟨rfl, rfl⟩ := h
    exact ⟨hg.1, hg.2.2.le, hg.2.1⟩
  | (b, y) :: G, i, n, k + 1, a, z, hg, h => by
    simp only [List.take_succ_cons, lastA]
    exact gap_at G b n k a z hg.2.2 (by simpa using h)
theorem take_snoc {G : List (Nat × Nat)} {k a z : Nat} (h : G[k]? = some (a, z)) : G.take (k + 1) = G.take k ++ [(a, z)] := by
  rw [List.take_add_one, h]; rfl
theorem pre_prefix (D : List Value) : ∀ (G : List (Nat × Nat)) (i k : Nat), (preE D i (G.take k)).length ≤ (preE D i G).length
  | [], i, k => by simp
  | (a, z) :: G, i, 0 => by simp [preE]
  | (a, z) :: G, i, k + 1 => by
    have := pre_prefix D G a k
    simp only [List.take_succ_cons, preE, List.length_append]
    omega
theorem pre_len_le (D : List Value) (G : List (Nat × Nat)) (k : Nat) : (preE D 0 (G.take k)).length ≤ (expand D 0 G).length := by
  rw [expand_pre, List.length_append]
  have := pre_prefix D G 0 k
  omega

/-- The row behind k gaps: n bytes in all. -/
def rowAt (D : List Value) (G : List (Nat × Nat)) (n k : Nat) : List Value := preE D 0 (G.take k) ++ List.replicate (n - (preE D 0 (G.take k)).length) zero8
theorem rowAt_len (D : List Value) (G : List (Nat × Nat)) (n k : Nat) (h : (preE D 0 (G.take k)).length ≤ n) : (rowAt D G n k).length = n := by
  unfold rowAt; rw [List.length_append, List.length_replicate]; omega
theorem splice_row (P cs : List Value) (n : Nat) (h : P.length + cs.length ≤ n) : splice (P ++ List.replicate (n - P.length) zero8) P.length cs = P ++ cs ++ List.replicate (n - (P ++ cs).length) zero8 := by
  unfold splice
  rw [List.take_left, List.drop_append, List.drop_eq_nil_of_le (by omega), List.nil_append, List.drop_replicate, List.append_assoc, List.length_append]
  congr 3
  omega
theorem row_next (D : List Value) (G : List (Nat × Nat)) (n k a z : Nat) (hg : G[k]? = some (a, z)) (hn : (preE D 0 (G.take (k + 1))).length ≤ n) :
    splice (rowAt D G n k) (preE D 0 (G.take k)).length ((D.drop (lastA 0 (G.take k))).take (a - lastA 0 (G.take k))) = rowAt D G n (k + 1) := by
  rw [take_snoc hg, preE_snoc] at hn
  unfold rowAt
  rw [splice_row _ _ _ (by simp only [List.length_append] at hn; omega), take_snoc hg, preE_snoc]
  simp only [List.append_assoc, List.length_append, List.length_replicate] at hn ⊢
  congr 2
  rw [List.replicate_append_replicate]
  congr 1
  omega
theorem row_last (D : List Value) (G : List (Nat × Nat)) : splice (rowAt D G (expand D 0 G).length G.length) (preE D 0 G).length (D.drop (lastA 0 G)) = expand D 0 G := by
  have hl := expand_pre D G 0
  unfold rowAt
  rw [List.take_length, splice_row _ _ _ (by rw [hl, List.length_append]; omega), ← hl]
  simp
theorem made_zeros (n : Nat) : madeCells #[.int .u8 0] n = (List.replicate n zero8).toArray := by
  unfold madeCells zero8
  apply Array.ext
  · simp
  · intro i h1 h2
    simp [Nat.mod_one]

end Go.Proofs.Ytbomgaacahaofaa

namespace Go.Proofs.Ytbomgaacahaofaa
open Go Go.RowKit

theorem only_setRow (w : World) (g : Nat) (cs : Array Value) : Only w (w.setRow g cs) [g] :=
  ⟨rfl, rfl, rfl, by simp [World.setRow], fun b _ hn => setRow_other w g b cs (fun e => hn (by simp [e]))⟩

section
variable {P : Program} {w : World}
theorem run_copy_only (dT sT ty elem : TypeId) (hu : P.underlying dT = some (.slice elem)) (hsz : (P.info? elem).map (·.size) = some 1)
    (dp sp : Option Addr) (dLen dCap sLen sCap : Nat) (g off : Nat) (cur : List Value) (t : TypeId) (hg : w.heap[g]? = some (.cells cur.toArray t (0, 0))) (cs : List Value) (hn : cs.length = Nat.min sLen dLen)
    (hpos : 0 < cs.length → dp = some ⟨g, off, none⟩ ∧ ∃ ad, sp = some ad ∧ ∀ (j : Nat) (v : Value), cs[j]? = some v → w.cell? (ad.add j) = some v)
    (hfit : off + cs.length ≤ cur.length) (h1 : ∀ v ∈ cs, v.oneCell' = true) :
    ∃ w', (Builtin.copy_ #[dT, sT] ty #[.slice dp dLen dCap, .slice sp sLen sCap]).run P w = .ok (goInt cs.length) w' ∧ w'.heap[g]? = some (.cells (splice cur off cs).toArray t (0, 0)) ∧ Only w w' [g] := by
  by_cases h0 : cs.length = 0
  · obtain rfl : cs = [] := List.eq_nil_of_length_eq_zero h0
    exact ⟨w, run_copy_none (P := P) w dT sT ty elem dp sp dLen dCap sLen sCap hu hsz (by simpa using hn.symm), by simpa [splice] using hg, Only.refl w _⟩
  · obtain ⟨rfl, ad, rfl, hsrc⟩ := hpos (by omega)
    refine ⟨_, run_copy_row (P := P) w dT sT ty elem g off dLen dCap ad sLen sCap cur.toArray t cs hu hsz hg hn hsrc (by simpa using hfit) h1, ?_, only_setRow w g _⟩
    rw [setRow_heap w g _ _ t _ hg]
    simp [splice]

theorem step_copy_only {ops : Array Oper} {o : Oper} {a : Act} {K : Act → World → Prop} {Q : Exit → Act → World → Prop} {E : Prop} (hgd : o.guard = none) (d s : Operand) (dT sT : TypeId)
    (ho : o.op = .call { callee := .builtin .copy, args := #[d, s], argTypes := #[dT, sT] }) (elem : TypeId) (hu : P.underlying dT = some (.slice elem)) (hsz : (P.info? elem).map (·.size) = some 1)
    (dp sp : Option Addr) (dLen dCap sLen sCap : Nat) (hd : a.eval d = .slice dp dLen dCap) (hs : a.eval s = .slice sp sLen sCap)
    (g off : Nat) (cur : List Value) (t : TypeId) (hg : w.heap[g]? = some (.cells cur.toArray t (0, 0))) (cs : List Value) (hn : cs.length = Nat.min sLen dLen)
    (hpos : 0 < cs.length → dp = some ⟨g, off, none⟩ ∧ ∃ ad, sp = some ad ∧ ∀ (j : Nat) (v : Value), cs[j]? = some v → w.cell? (ad.add j) = some v)
    (hfit : off + cs.length ≤ cur.length) (h1 : ∀ v ∈ cs, v.oneCell' = true)
    (h : ∀ w', Hid (w'.heap[g]? = some (.cells (splice cur off cs).toArray t (0, 0))) → Only w w' [g] → K (a.put o.dst (goInt cs.length)) w') :
    if Region.wanted o (yielded ops a.tmps) = true then Oper.wp P o a w K Q else E := by
  rw [if_pos (by simp [Region.wanted, hgd])]
  obtain ⟨w', hrun, h2, h3⟩ := run_copy_only (P := P) dT sT o.type elem hu hsz dp sp dLen dCap sLen sCap g off cur t hg cs hn hpos hfit h1
  unfold Oper.wp
  simp [execOp, ho, resolve, invoke, builtin, hd, hs, hrun, Result.andThen]
  exact h w' h2 h3
end

end Go.Proofs.Ytbomgaacahaofaa

namespace Go.Proofs.Ytbomgaacahaofaa
open Go Go.RowKit

theorem addr_add_add (a : Addr) (i j : Nat) : (a.add i).add j = a.add (i + j) := by
  unfold Addr.add
  by_cases hi : i = 0
  · subst hi; simp
  · by_cases hj : j = 0
    · subst hj; simp [hi]
    · simp [hi, hj, Nat.add_assoc]

theorem u8One : (Try.prog.info? 5).map (·.size) = some 1 := by kernel_rfl

theorem wdone_full (p R : Nat) (L : List Value) (fp : List Nat) (w : World) (hW : Wr w p R true L fp) :
    Calls Try.prog 44 #[.pointer (some ⟨p, 0, none⟩)] w fun e w' => e = .returned (.tuple #[.slice none 0 0, .int .i64 2]) ∧ Below w.heap.size w w' := by
  obtain ⟨D, G, dv, gv, hb, _⟩ := hW
  have F := hb.kb; simp only [KB, CellsAt, Nat.zero_add, Nat.reduceAdd, and_true] at F
  clear hb
  go_enter Try.func44, Try.ntmps44
  go_wp2
  go_ret2
  exact ⟨rfl, Below.refl _ _⟩

/-- What is answered: the bytes, in new memory. -/
def Gave (w : World) (L : List Value) (e : Ending) (w' : World) : Prop := ∃ A c, e = .returned (.tuple #[.slice A L.length c, .int .i64 0]) ∧ w'.ownsRow w.heap.size 5 1 (.slice A L.length c) L.length L ∧ Below w.heap.size w w'

set_option maxRecDepth 100000 in
set_option maxHeartbeats 4000000 in
theorem wdone_any (p R : Nat) (L : List Value) (fp : List Nat) (w : World) (hW : Wr w p R false L fp) (hR : R ≤ 2147483647) :
    Calls Try.prog 44 #[.pointer (some ⟨p, 0, none⟩)] w fun e w' => Gave w L e w' := by
  have C0 := fun w' (hb : Below w.heap.size w w') => wlen_any p R false L fp w' (hW.only (Only.of_below hb []) (fun _ _ h => (nomatch h))) (by omega)
  obtain ⟨D, G, dv, gv, hb, hD, hG, k1, k2, k3, k4, _⟩ := hW
  have hl := expand_len D G 0 k1
  have hN : L.length ≤ 2147483647 := by omega
  have hN1 : ¬ (2147483647 < (L.length : Int)) := by omega
  have hmk := run_make_row' (P := Try.prog) 26 5 (.int .u8 0) 1 Try.underlying26 u8Info rfl .i64 .i64 L.length (by omega) (by omega)
  have hmk : ∀ w : World, (Instr.makeSlice 26 (.int .i64 (L.length : Int)) (.int .i64 (L.length : Int))).run Try.prog w = .ok (.slice (some ⟨w.heap.size, 0, none⟩) L.length L.length) (w.alloc (.cells (List.replicate L.length zero8).toArray 5)) := fun w => by rw [hmk w, made_zeros]
  have hcnt := k1.count
  have hGn : G.length ≤ 2147483647 := by rw [k3] at hN; omega
  have hDn : D.length ≤ 2147483647 := by rw [k3] at hN; omega
  obtain ⟨A0, c0, rfl, lD, hc0⟩ := own_lists hD
  obtain ⟨Ag, cg, rfl, lG, _⟩ := own_lists hG
  have hcm : c0 ≤ maxLen := by
    rcases hD.2 with ⟨h, _⟩ | ⟨g, cap, cur, h, _, _, _, h7, _⟩
    · injection h with _ _ h; omega
    · injection h with _ _ h; omega
  unfold maxLen at hcm
  have H3 := Lib.hid k3
  have HK1 := Lib.hid k1
  have HLD := Lib.hid lD
  have HLG := Lib.hid lG
  have HK2 := Lib.hid k2
  have hN0 : (0 : Int) ≤ (L.length : Int) := by omega
  clear hl hcnt k3 k1 lD lG k2 hD hG
  have F := hb.kb; simp only [KB, CellsAt, Nat.zero_add, Nat.reduceAdd, and_true] at F
  obtain ⟨N, hNN⟩ : ∃ N, N = L.length := ⟨_, rfl⟩
  rw [← hNN] at C0 hN hN1 hmk hN0
  have HN := Lib.hid hNN
  clear hNN
  go_enter Try.func44, Try.ntmps44
  go_wp2_with (first | (go_at_call 58; ((with_reducible refine (C0 _ (Below.refl _ _)).mono ?_); rintro e w1 ⟨rfl, b1⟩; have F1 := (hb.below b1).kb; simp only [KB, CellsAt, Nat.zero_add, Nat.reduceAdd, and_true] at F1)) | (go_at_call 58; ((with_reducible refine (C0 _ b1).mono ?_); rintro e w2 ⟨rfl, b2⟩; have b2 := b1.trans (b2.mono b1.size); have F2 := (hb.below b2).kb; simp only [KB, CellsAt, Nat.zero_add, Nat.reduceAdd, and_true] at F2)))
  have hg0 : (w2.alloc (.cells (List.replicate N zero8).toArray 5)).heap[w2.heap.size]? = some (.cells (rowAt D G N 0).toArray 5 (0, 0)) := by
    rw [heap_alloc_new]
    rfl
  have HG0 := Lib.hid hg0
  have hgw := b2.size
  have bm : Below w.heap.size w (w2.alloc (.cells (List.replicate N zero8).toArray 5)) := b2.alloc b2.size _
  clear hg0 F F1
  generalize hgg : w2.heap.size = g at *
  clear hgg
  go_loopw [5, 6, 28] (fun fr to ix wr => ∃ k : Nat, k ≤ G.length ∧ ix = .int .i64 k ∧ ∃ f t : Nat, fr = .int .i64 f ∧ to = .int .i64 t ∧ Hid (f = lastA 0 (G.take k) ∧ t = (preE D 0 (G.take k)).length) ∧ Below w.heap.size w wr ∧ Hid (wr.heap[g]? = some (.cells (rowAt D G N k).toArray 5 (0, 0)))) (fun _ _ ix _ => G.length - (intOf ix).toNat)
  case atStart => exact ⟨0, Nat.zero_le _, rfl, 0, 0, rfl, rfl, Lib.hid ⟨rfl, rfl⟩, bm, HG0⟩
  case round =>
    obtain ⟨k, hk, rfl, f, t, rfl, rfl, HFT, hbw, HGW⟩ := hrel
    have F3 := (hb.below hbw).kb; simp only [KB, CellsAt, Nat.zero_add, Nat.reduceAdd, and_true] at F3
    clear F2 HG0
    by_cases hlt : k < G.length
    · obtain ⟨⟨a, z⟩, hgk⟩ : ∃ q, G[k]? = some q := ⟨G[k], List.getElem?_eq_getElem hlt⟩
      obtain ⟨bg, og, hAg, hbg, hcg⟩ := HLG.out.plain (by intro e; have := gapCells_len G; rw [e] at this; simp at this; omega)
      subst hAg
      have hga := gapCells_at G k a z hgk
      have ga := (hbw.cell (p := ⟨bg, og + k * 2, none⟩) hbg).trans (hcg (k * 2) _ hga.1)
      have gz := (hbw.cell (p := ⟨bg, og + (k * 2 + 1), none⟩) hbg).trans (hcg (k * 2 + 1) _ hga.2)
      rw [← Nat.add_assoc] at gz
      clear hga hcg
      obtain ⟨q1, q2, q3⟩ := gap_at G 0 D.length k a z HK1.out hgk
      have hpre := pre_len_le D G (k + 1)
      have hpl : (preE D 0 (G.take (k + 1))).length = t + ((a - f) + z) := by
        rw [take_snoc hgk, preE_snoc, HFT.out.1, HFT.out.2]
        simp only [List.length_append, List.length_replicate, List.length_take, List.length_drop]
        omega
      rw [hpl, ← H3.out, ← HN.out] at hpre
      rw [← HFT.out.1] at q1
      have HRN := Lib.hid (row_next D G N k a z hgk (by rw [hpl]; exact hpre))
      have HPL := Lib.hid hpl
      rw [← HFT.out.1, ← HFT.out.2] at HRN
      have hrl := rowAt_len D G N k (by rw [← HFT.out.2]; omega)
      clear hpl
      have hfa : (f : Int) ≤ (a : Int) := by omega
      have haD : (a : Int) ≤ (D.length : Int) := by omega
      have hDc : (D.length : Int) ≤ (c0 : Int) := by omega
      have htN : (t : Int) ≤ (N : Int) := by omega
      have hntN : ¬ N = t := by omega
      have hf0 : (0 : Int) ≤ (f : Int) := by omega
      have ha0 : (0 : Int) ≤ (a : Int) := by omega
      have hac : (a : Int) ≤ (c0 : Int) := by omega
      have hfc : (f : Int) ≤ (c0 : Int) := by omega
      have ht0 : (0 : Int) ≤ (t : Int) := by omega
      have hgb : g < wr.heap.size := (Array.getElem?_eq_some_iff.1 HGW.out).1
      have hcl : ((D.drop f).take (a - f)).length = a - f := by simp only [List.length_take, List.length_drop]; omega
      have hc1 : ∀ v ∈ (D.drop f).take (a - f), v.oneCell' = true := fun v hv => HK2.out.one v (List.mem_of_mem_drop (List.mem_of_mem_take hv))
      have hcc : ∀ (j : Nat) (v : Value), ((D.drop f).take (a - f))[j]? = some v → D[f + j]? = some v := fun j v hv => by
        have hj : j < a - f := by
          rcases Nat.lt_or_ge j (a - f) with h | h
          · exact h
          · rw [List.getElem?_eq_none (by omega)] at hv; cases hv
        simpa [hj] using hv
      have hcn : ((D.drop f).take (a - f)).length = Nat.min (a - f) (N - t) := by rw [hcl]; show _ = min _ _; omega
      have hfit : t + ((D.drop f).take (a - f)).length ≤ (rowAt D G N k).length := by rw [hcl, hrl]; omega
      have s1 : IntKind.i64.wrap (((a - f : Nat) : Int) + (z : Int)) = ((a - f : Nat) : Int) + (z : Int) := IntWalk.i64_in _ (by omega)
      have s2 : IntKind.i64.wrap ((t : Int) + (((a - f : Nat) : Int) + (z : Int))) = (t : Int) + (((a - f : Nat) : Int) + (z : Int)) := IntWalk.i64_in _ (by omega)
      have hgp : p ≠ g := fun e => by have := hb.lt; omega
      have hbox : Blk (wr.alloc (.cells #[.int .i64 (a : Nat), .int .i64 (z : Nat)] 110)).drew wr.heap.size 110 #[.int .i64 (a : Nat), .int .i64 (z : Nat)] := Blk.new wr _ _
      have bw1 : Below w.heap.size w (wr.alloc (.cells #[.int .i64 (a : Nat), .int .i64 (z : Nat)] 110)).drew := (hbw.alloc hbw.size _).drew
      have hbp := hb.below bw1
      have HG1 : (wr.alloc (.cells #[.int .i64 (a : Nat), .int .i64 (z : Nat)] 110)).drew.heap[g]? = some (.cells (rowAt D G N k).toArray 5 (0, 0)) := (Below.heap_alloc _ _ g hgb).trans HGW.out
      have HG1 := Lib.hid HG1
      have hnext : ∀ w5, Only (wr.alloc (.cells #[.int .i64 (a : Nat), .int .i64 (z : Nat)] 110)).drew w5 [g] → Below w.heap.size w w5 := fun w5 o5 => bw1.trans (o5.to_below bw1.size (fun b hm => by simp at hm; omega))
      have HNL := Lib.hid (p := a = lastA 0 (G.take (k + 1)) ∧ t + ((a - f) + z) = (preE D 0 (G.take (k + 1))).length) ⟨by rw [take_snoc hgk, lastA_snoc], HPL.out.symm⟩
      have hld : ∀ a0, A0 = some a0 → ∀ (j : Nat) (v : Value), ((D.drop f).take (a - f))[j]? = some v → (wr.alloc (.cells #[.int .i64 (a : Nat), .int .i64 (z : Nat)] 110)).drew.cell? ((a0.add f).add j) = some v := fun a0 h0 j v hv => by
        have h1 := HLD.out.cell a0 h0 (f + j) v (hcc j v hv)
        have h2 : D ≠ [] := by intro e; subst e; have := hcc j v hv; simp at this
        rw [addr_add_add]
        exact (bw1.cell (by rw [addr_add_block]; exact HLD.out.lt a0 h0 h2)).trans h1
      have hsome : 0 < ((D.drop f).take (a - f)).length → ∃ a0, A0 = some a0 := fun h => by
        cases hA : A0 with
        | some a0 => exact ⟨a0, rfl⟩
        | none =>
          have := HLD.out.nil hA
          subst this
          simp at h
      clear hcc
      generalize (D.drop f).take (a - f) = cs at *
      have HCF : ∀ (w5 : World), Only (wr.alloc (.cells #[.int .i64 (a : Nat), .int .i64 (z : Nat)] 110)).drew w5 [g] → KB w5 [(p, [.int .i64 (R : Nat), .bool false, .slice A0 D.length c0, .slice (some ⟨bg, og, none⟩) G.length cg, .int .i64 (gapSum G : Nat)])] ∧ KB w5 [(wr.heap.size, [.int .i64 (a : Nat), .int .i64 (z : Nat)])] := fun w5 o5 =>
        ⟨(hbp.only o5 (by simpa using hgp)).kb, (hbox.only o5 (by simp; omega)).kb⟩
      clear hfit hcn
      by_cases hcf : c0 = f
      · have HZ1 := Lib.hid (show cs.length = 0 by omega)
        have hz9 : cs = [] := List.eq_nil_of_length_eq_zero HZ1.out
        obtain rfl : a = f := by omega
        obtain rfl : a = c0 := by omega
        subst hz9
        have s3 : IntKind.i64.wrap (z : Int) = (z : Int) := IntWalk.i64_in _ (by omega)
        have s4 : IntKind.i64.wrap ((t : Int) + (z : Int)) = (t : Int) + (z : Int) := IntWalk.i64_in _ (by omega)
        clear s1 s2 hcl hld hsome hcf
        go_wp2
        go_region_held3 (fun w' => w'.cell? ⟨p, 2, none⟩ = some (.slice A0 D.length a) ∧ w'.cell? ⟨wr.heap.size, 0, none⟩ = some (.int .i64 (a : Nat)) ∧ w'.cell? ⟨wr.heap.size, 1, none⟩ = some (.int .i64 (z : Nat))) (first | (refine ⟨?_, ?_, ?_⟩ <;> go_simp)) (first | (refine step_copy_only rfl (.tmp 35) (.tmp 43) 26 26 rfl 5 Try.underlying26 u8One _ _ _ _ _ _ rfl rfl g t (rowAt D G N k) 5 HG1.out [] (by show 0 = min _ _; omega) (fun h => absurd h (by simp)) (by rw [hrl]; simp; omega) hc1 ?_; intro w5 HGW5 o5; have F5 := HCF w5 o5; simp only [KB, CellsAt, Nat.zero_add, Nat.reduceAdd, and_true] at F5))
        have bw5 := hnext _ o5
        clear HCF
        go_wp2
        go_roundw
        case rel => exact ⟨k + 1, by omega, by go_num, a, t + ((a - a) + z), rfl, by simp, HNL, bw5, by rw [← HRN.out]; exact HGW5⟩
        case measure => simp [intOf]; omega
      · go_wp2
        go_region_held3 (fun w' => w'.cell? ⟨p, 2, none⟩ = some (.slice A0 D.length c0) ∧ w'.cell? ⟨wr.heap.size, 0, none⟩ = some (.int .i64 (a : Nat)) ∧ w'.cell? ⟨wr.heap.size, 1, none⟩ = some (.int .i64 (z : Nat))) (first | (refine ⟨?_, ?_, ?_⟩ <;> go_simp)) (first | (refine step_copy_only rfl (.tmp 35) (.tmp 43) 26 26 rfl 5 Try.underlying26 u8One _ _ _ _ _ _ rfl rfl g t (rowAt D G N k) 5 HG1.out cs (hcl.trans (by show _ = min _ _; omega)) (fun h => ⟨rfl, by obtain ⟨a0, h0⟩ := hsome h; exact ⟨a0.add f, by rw [h0]; rfl, hld a0 h0⟩⟩) (by rw [hrl, hcl]; omega) hc1 ?_; intro w5 HGW5 o5; have F5 := HCF w5 o5; simp only [KB, CellsAt, Nat.zero_add, Nat.reduceAdd, and_true] at F5))
        have bw5 := hnext _ o5
        clear HCF
        go_wp2
        go_roundw
        case rel => exact ⟨k + 1, by omega, by go_num, a, t + ((a - f) + z), rfl, by go_num, HNL, bw5, by rw [← HRN.out]; exact HGW5⟩
        case measure => simp [intOf]; omega
    · obtain rfl : k = G.length := by omega
      have e1 : G.take G.length = G := List.take_length
      have hft := HFT.out
      rw [e1] at hft
      have hlen := expand_pre D G 0
      rw [← H3.out] at hlen
      have hfD := lastA_le G HK1.out
      have hNL := HN.out
      rw [hlen, List.length_append, List.length_drop, ← hft.1, ← hft.2] at hNL
      rw [← hft.1] at hfD
      have hrow := row_last D G
      rw [← H3.out, ← HN.out, ← hft.1, ← hft.2] at hrow
      have HROW := Lib.hid hrow
      have hrl := rowAt_len D G N G.length (by rw [e1, ← hft.2]; omega)
      have hfD0 : (f : Int) ≤ (D.length : Int) := by omega
      have hDc : (D.length : Int) ≤ (c0 : Int) := by omega
      have hfc : (f : Int) ≤ (c0 : Int) := by omega
      have htN : (t : Int) ≤ (N : Int) := by omega
      have hf0 : (0 : Int) ≤ (f : Int) := by omega
      have ht0 : (0 : Int) ≤ (t : Int) := by omega
      have hgb : g < wr.heap.size := (Array.getElem?_eq_some_iff.1 HGW.out).1
      have hgp : p ≠ g := fun e => by have := hb.lt; omega
      have HG1 : wr.drew.heap[g]? = some (.cells (rowAt D G N G.length).toArray 5 (0, 0)) := HGW.out
      have HG1 := Lib.hid HG1
      have hbp := hb.below hbw.drew
      have hc1 : ∀ v ∈ D.drop f, v.oneCell' = true := fun v hv => HK2.out.one v (List.mem_of_mem_drop hv)
      have hcl : (D.drop f).length = D.length - f := List.length_drop
      have hfin : ∀ w5, Hid (w5.heap[g]? = some (.cells (splice (rowAt D G N G.length) t (D.drop f)).toArray 5 (0, 0))) → Only wr.drew w5 [g] → Gave w L (.returned (.tuple #[.slice (some ⟨g, 0, none⟩) N N, .int .i64 0])) w5 := fun w5 H o5 => by
        have h1 := H.out
        rw [HROW.out] at h1
        have h2 := HN.out
        subst h2
        refine ⟨some ⟨g, 0, none⟩, L.length, rfl, ⟨by simp, .inr ⟨g, L.length, L.toArray, rfl, hgw, h1, Nat.le_refl _, by unfold maxLen; omega, by simp, by simp⟩⟩, hbw.drew.trans (o5.to_below hbw.size (fun b hm => by simp at hm; omega))⟩
      have hld : ∀ a0, A0 = some a0 → ∀ (j : Nat) (v : Value), (D.drop f)[j]? = some v → wr.drew.cell? ((a0.add f).add j) = some v := fun a0 h0 j v hv => by
        rw [List.getElem?_drop] at hv
        have h1 := HLD.out.cell a0 h0 (f + j) v hv
        have h2 : D ≠ [] := by intro e; subst e; simp at hv
        rw [addr_add_add]
        exact (hbw.drew.cell (by rw [addr_add_block]; exact HLD.out.lt a0 h0 h2)).trans h1
      have hsome : 0 < (D.drop f).length → ∃ a0, A0 = some a0 := fun h => by
        cases hA : A0 with
        | some a0 => exact ⟨a0, rfl⟩
        | none =>
          have := HLD.out.nil hA
          subst this
          simp at h
      have HFIN := Lib.hid hfin
      have HRL := Lib.hid hrl
      have HNL := Lib.hid hNL
      have HCL := Lib.hid hcl
      clear hfin hrow hlen hft HROW hrl hNL hcl e1
      generalize D.drop f = cs at *
      have HCF : ∀ (w5 : World), Only wr.drew w5 [g] → KB w5 [(p, [.int .i64 (R : Nat), .bool false, .slice A0 D.length c0, .slice Ag G.length cg, .int .i64 (gapSum G : Nat)])] := fun w5 o5 => (hbp.only o5 (by simpa using hgp)).kb
      by_cases hcf : c0 = f
      · have hcs : cs = [] := List.eq_nil_of_length_eq_zero (by have := HCL.out; omega)
        obtain rfl : c0 = f := hcf
        obtain rfl : t = N := by have := HNL.out; omega
        subst hcs
        clear hld hsome
        go_wp2
        go_region_held3 (fun w' => w'.cell? ⟨p, 2, none⟩ = some (.slice A0 D.length c0)) (first | go_simp) (first | (refine step_copy_only rfl (.tmp 54) (.tmp 60) 26 26 rfl 5 Try.underlying26 u8One _ _ _ _ _ _ rfl rfl g t (rowAt D G t G.length) 5 HG1.out [] (by show 0 = min _ _; omega) (fun h => absurd h (by simp)) (by rw [HRL.out]; simp) (fun v hv => (nomatch hv)) ?_; intro w5 HGW5 o5; have F5 := HCF w5 o5; simp only [KB, CellsAt, Nat.zero_add, Nat.reduceAdd, and_true] at F5))
        go_wp2
        go_ret2
        exact HFIN.out _ HGW5 o5
      · by_cases hNt : N = t
        · have hcs : cs = [] := List.eq_nil_of_length_eq_zero (by have := HCL.out; have := HNL.out; omega)
          obtain rfl : N = t := hNt
          subst hcs
          clear hld hsome
          go_wp2
          go_region_held3 (fun w' => w'.cell? ⟨p, 2, none⟩ = some (.slice A0 D.length c0)) (first | go_simp) (first | (refine step_copy_only rfl (.tmp 54) (.tmp 60) 26 26 rfl 5 Try.underlying26 u8One _ _ _ _ _ _ rfl rfl g N (rowAt D G N G.length) 5 HG1.out [] (by show 0 = min _ _; omega) (fun h => absurd h (by simp)) (by rw [HRL.out]; simp) (fun v hv => (nomatch hv)) ?_; intro w5 HGW5 o5; have F5 := HCF w5 o5; simp only [KB, CellsAt, Nat.zero_add, Nat.reduceAdd, and_true] at F5))
          go_wp2
          go_ret2
          exact HFIN.out _ HGW5 o5
        · go_wp2
          go_region_held3 (fun w' => w'.cell? ⟨p, 2, none⟩ = some (.slice A0 D.length c0)) (first | go_simp) (first | (refine step_copy_only rfl (.tmp 54) (.tmp 60) 26 26 rfl 5 Try.underlying26 u8One _ _ _ _ _ _ rfl rfl g t (rowAt D G N G.length) 5 HG1.out cs (HCL.out.trans (by have := HNL.out; show _ = min _ _; omega)) (fun h => ⟨rfl, by obtain ⟨a0, h0⟩ := hsome h; exact ⟨a0.add f, by rw [h0]; rfl, hld a0 h0⟩⟩) (by rw [HRL.out, HCL.out]; have := HNL.out; omega) hc1 ?_; intro w5 HGW5 o5; have F5 := HCF w5 o5; simp only [KB, CellsAt, Nat.zero_add, Nat.reduceAdd, and_true] at F5))
          go_wp2
          go_ret2
          exact HFIN.out _ HGW5 o5

end Go.Proofs.Ytbomgaacahaofaa

namespace Go.Proofs.Ytbomgaacahaofaa
open Go Go.RowKit

/-- A byte's number. -/
def nb : Value → Nat
  | .int _ x => x.toNat
  | _ => 0
def byteAt (bs : List Value) (i : Nat) : Nat := nb (bs.getD i (.int .u8 0))
def rd2 (bs : List Value) (i : Nat) : Nat := byteAt bs i * 256 + byteAt bs (i + 1)
def rd4 (bs : List Value) (i : Nat) : Nat := ((byteAt bs i * 256 + byteAt bs (i + 1)) * 256 + byteAt bs (i + 2)) * 256 + byteAt bs (i + 3)
/-- A number of two bytes with its sign. -/
def s16 (x : Nat) : Int := if x < 32768 then (x : Int) else (x : Int) - 65536

theorem byteAt_lt {bs : List Value} (h : Bytes8 bs) (i : Nat) : byteAt bs i < 256 := by
  unfold byteAt
  rcases Nat.lt_or_ge i bs.length with hi | hi
  · obtain ⟨x, hx, he⟩ := h bs[i] (List.getElem_mem hi)
    rw [List.getD_eq_getElem?_getD, List.getElem?_eq_getElem hi, Option.getD_some, he]
    simp [nb]; exact hx
  · rw [List.getD_eq_getElem?_getD, List.getElem?_eq_none hi, Option.getD_none]
    simp [nb]
theorem byteAt_get {bs : List Value} (h : Bytes8 bs) {i : Nat} (hi : i < bs.length) : bs[i]? = some (.int .u8 (byteAt bs i : Nat)) := by
  obtain ⟨x, hx, he⟩ := h bs[i] (List.getElem_mem hi)
  rw [List.getElem?_eq_getElem hi, he]
  unfold byteAt
  rw [List.getD_eq_getElem?_getD, List.getElem?_eq_getElem hi, Option.getD_some, he]
  simp [nb]
theorem rd2_lt {bs : List Value} (h : Bytes8 bs) (i : Nat) : rd2 bs i < 65536 := by
  have := byteAt_lt h i; have := byteAt_lt h (i + 1); unfold rd2; omega
theorem rd4_lt {bs : List Value} (h : Bytes8 bs) (i : Nat) : rd4 bs i < 4294967296 := by
  have := byteAt_lt h i; have := byteAt_lt h (i + 1); have := byteAt_lt h (i + 2); have := byteAt_lt h (i + 3); unfold rd4; omega
theorem byteAt_append_left {a b : List Value} {i : Nat} (h : i < a.length) : byteAt (a ++ b) i = byteAt a i := by
  unfold byteAt; rw [List.getD_eq_getElem?_getD, List.getD_eq_getElem?_getD, List.getElem?_append_left h]
theorem byteAt_append_right {a b : List Value} (i : Nat) : byteAt (a ++ b) (a.length + i) = byteAt b i := by
  unfold byteAt; rw [List.getD_eq_getElem?_getD, List.getD_eq_getElem?_getD, List.getElem?_append_right (by omega)]; simp
theorem byteAt_take {a : List Value} {i n : Nat} (h : i < n) : byteAt (a.take n) i = byteAt a i := by
  unfold byteAt; rw [List.getD_eq_getElem?_getD, List.getD_eq_getElem?_getD, List.getElem?_take, if_pos h]
theorem rd2_take {a : List Value} {i n : Nat} (h : i + 1 < n) : rd2 (a.take n) i = rd2 a i := by
  unfold rd2; rw [byteAt_take (by omega), byteAt_take h]
theorem rd4_take {a : List Value} {i n : Nat} (h : i + 3 < n) : rd4 (a.take n) i = rd4 a i := by
  unfold rd4; rw [byteAt_take (by omega), byteAt_take (by omega), byteAt_take (by omega), byteAt_take h]
theorem rd2_right {a b : List Value} (i j : Nat) (h : j = a.length + i) : rd2 (a ++ b) j = rd2 b i := by
  subst h; unfold rd2; rw [byteAt_append_right, Nat.add_assoc, byteAt_append_right]
theorem rd4_right {a b : List Value} (i j : Nat) (h : j = a.length + i) : rd4 (a ++ b) j = rd4 b i := by
  subst h; unfold rd4; rw [byteAt_append_right, Nat.add_assoc, byteAt_append_right, Nat.add_assoc, byteAt_append_right, Nat.add_assoc, byteAt_append_right]
theorem rd2_be2 (x : Int) (b : List Value) : (rd2 (be2 x ++ b) 0 : Int) = x % 65536 := by
  have e : rd2 (be2 x ++ b) 0 = (x / 256 % 256).toNat * 256 + (x % 256).toNat := rfl
  rw [e]; omega
theorem rd4_be4 (x : Int) (b : List Value) : (rd4 (be4 x ++ b) 0 : Int) = x % 4294967296 := by
  have e : rd4 (be4 x ++ b) 0 = (((x / 16777216 % 256).toNat * 256 + (x / 65536 % 256).toNat) * 256 + (x / 256 % 256).toNat) * 256 + (x % 256).toNat := rfl
  rw [e]; omega
theorem s16_of (n : Nat) (x : Int) (h : (n : Int) = x % 65536) (h1 : -32768 ≤ x) (h2 : x ≤ 32767) : s16 n = x := by
  unfold s16; split <;> omega

/-- Where the numbers of glyph k begin, m glyphs having an advance. -/
def posM (m k : Nat) : Nat := 2 * min k m + 2 * k
def bearPos (m k : Nat) : Nat := posM m k + if k < m then 2 else 0
def advAt (bs : List Value) (m k : Nat) : Int := (rd2 bs (posM m k) : Nat)
def bearAt (bs : List Value) (m k : Nat) : Int := s16 (rd2 bs (bearPos m k))
/-- Glyph k's metric. -/
def metAt (bs : List Value) (m k : Nat) : Int × Int := (advAt bs m (min k (m - 1)), bearAt bs m k)
theorem posM_succ (m k : Nat) : posM m (k + 1) = bearPos m k + 2 := by unfold posM bearPos posM; split <;> omega

/-- The bytes of metrics. -/
def putM : List (Int × Int) → Nat → List Value
  | [], _ => []
  | (a, b) :: r, m + 1 => be2 a ++ be2 b ++ putM r m
  | (_, b) :: r, 0 => be2 b ++ putM r 0
theorem putM_snoc : ∀ (l : List (Int × Int)) (m : Nat) (a b : Int), putM (l ++ [(a, b)]) m = putM l m ++ (if l.length < m then be2 a ++ be2 b else be2 b)
  | [], 0, a, b => by simp [putM]
  | [], m + 1, a, b => by simp [putM]
  | (x, y) :: r, 0, a, b => by simp [putM, putM_snoc r 0 a b]
  | (x, y) :: r, m + 1, a, b => by simp [putM, putM_snoc r m a b]
theorem putM_len : ∀ (l : List (Int × Int)) (m : Nat), (putM l m).length = posM m l.length
  | [], _ => by simp [putM, posM]
  | (x, y) :: r, 0 => by simp [putM, putM_len r 0, be2, posM]; omega
  | (x, y) :: r, m + 1 => by simp [putM, putM_len r m, be2, posM]; omega
theorem putM_bytes : ∀ (l : List (Int × Int)) (m : Nat), Bytes8 (putM l m)
  | [], _ => fun _ h => (nomatch h)
  | (_, y) :: r, 0 => (be2_bytes y).append (putM_bytes r 0)
  | (x, y) :: r, m + 1 => ((be2_bytes x).append (be2_bytes y)).append (putM_bytes r m)

theorem putM_adv : ∀ (l : List (Int × Int)) (m k : Nat) (X : List Value) (a b : Int), l[k]? = some (a, b) → k < m → advAt (putM l m ++ X) m k = a % 65536
  | [], m, k, X, a, b, h, _ => by simp at h
  | (x, y) :: r, 0, k, X, a, b, h, hk => by omega
  | (x, y) :: r, m + 1, 0, X, a, b, h, _ => by
    simp at h
    obtain ⟨rfl, rfl⟩ := h
    unfold advAt
    rw [show posM (m + 1) 0 = 0 by simp [posM]]
    simp only [putM, List.append_assoc]
    exact rd2_be2 _ _
  | (x, y) :: r, m + 1, k + 1, X, a, b, h, hk => by
    have ih := putM_adv r m k X a b (by simpa using h) (by omega)
    unfold advAt at *
    simp only [putM, List.append_assoc]
    rw [← List.append_assoc, rd2_right (posM m k) _ (by simp [be2, posM]; omega)]
    exact ih
theorem putM_bear : ∀ (l : List (Int × Int)) (m k : Nat) (X : List Value) (a b : Int), l[k]? = some (a, b) → (rd2 (putM l m ++ X) (bearPos m k) : Int) = b % 65536
  | [], m, k, X, a, b, h => by simp at h
  | (x, y) :: r, 0, 0, X, a, b, h => by
    simp at h
    obtain ⟨rfl, rfl⟩ := h
    rw [show bearPos 0 0 = 0 by simp [bearPos, posM]]
    simp only [putM, List.append_assoc]
    exact rd2_be2 _ _
  | (x, y) :: r, m + 1, 0, X, a, b, h => by
    simp at h
    obtain ⟨rfl, rfl⟩ := h
    simp only [putM, List.append_assoc]
    rw [rd2_right 0 _ (by simp [bearPos, posM, be2])]
    exact rd2_be2 _ _
  | (x, y) :: r, 0, k + 1, X, a, b, h => by
    have ih := putM_bear r 0 k X a b (by simpa using h)
    simp only [putM, List.append_assoc]
    rw [rd2_right (bearPos 0 k) _ (by simp [be2, bearPos, posM]; omega)]
    exact ih
  | (x, y) :: r, m + 1, k + 1, X, a, b, h => by
    have ih := putM_bear r m k X a b (by simpa using h)
    simp only [putM, List.append_assoc]
    rw [← List.append_assoc, rd2_right (bearPos m k) _ (by simp only [be2, bearPos, posM, List.length_append, List.length_cons, List.length_nil]; split <;> split <;> omega)]
    exact ih

/-- Metrics that may be put: m have an advance of their own. -/
def okMet (q : Int × Int) : Bool := decide (0 ≤ q.1) && decide (q.1 ≤ 65535) && decide (-32768 ≤ q.2) && decide (q.2 ≤ 32767)
def lastAdv (l : List (Int × Int)) (m : Nat) : Int := (l.getD (m - 1) (0, 0)).1
def mayPut (l : List (Int × Int)) (m : Nat) : Bool := l.all okMet && (l.drop m).all fun q => q.1 == lastAdv l m
/-- What was put is read again. -/
theorem met_back (l : List (Int × Int)) (m k : Nat) (X : List Value) (q : Int × Int) (hm : 1 ≤ m) (hml : m ≤ l.length) (hp : mayPut l m = true) (hk : l[k]? = some q) : metAt (putM l m ++ X) m k = q := by
  obtain ⟨a, b⟩ := q
  unfold mayPut at hp
  rw [Bool.and_eq_true, List.all_eq_true, List.all_eq_true] at hp
  obtain ⟨h1, h2⟩ := hp
  have ok : ∀ j (p : Int × Int), l[j]? = some p → 0 ≤ p.1 ∧ p.1 ≤ 65535 ∧ -32768 ≤ p.2 ∧ p.2 ≤ 32767 := fun j p hj => by
    have := h1 p (List.mem_of_getElem? hj)
    simp only [okMet, Bool.and_eq_true, decide_eq_true_eq] at this
    omega
  have hb := ok k _ hk
  have e2 : bearAt (putM l m ++ X) m k = b := s16_of _ _ (putM_bear l m k X a b hk) hb.2.2.1 hb.2.2.2
  have e1 : advAt (putM l m ++ X) m (min k (m - 1)) = a := by
    rcases Nat.lt_or_ge k m with hkm | hkm
    · rw [show min k (m - 1) = k by omega, putM_adv l m k X a b hk hkm]
      simp only at hb; omega
    · rw [show min k (m - 1) = m - 1 by omega]
      obtain ⟨⟨a', b'⟩, hp'⟩ : ∃ p, l[m - 1]? = some p := ⟨l[m - 1]'(by omega), List.getElem?_eq_getElem _⟩
      rw [putM_adv l m (m - 1) X a' b' hp' (by omega)]
      have h3 := h2 (a, b) (List.mem_iff_getElem?.2 ⟨k - m, by rw [List.getElem?_drop, show m + (k - m) = k by omega]; exact hk⟩)
      unfold lastAdv at h3
      rw [List.getD_eq_getElem?_getD, hp', Option.getD_some] at h3
      have h3 : a = a' := by simpa using h3
      have := ok _ _ hp'
      simp only at this
      omega
  unfold metAt
  rw [e1, e2]

/-- Places as bytes. -/
def beP (long : Bool) (x : Int) : List Value := if long then be4 x else be2 (x / 2)
def putP (long : Bool) : List Int → List Value
  | [] => []
  | x :: r => beP long x ++ putP long r
def szP (long : Bool) : Nat := if long then 4 else 2
def offAt (long : Bool) (bs : List Value) (k : Nat) : Nat := if long then rd4 bs (k * 4) else 2 * rd2 bs (k * 2)
theorem beP_len (long : Bool) (x : Int) : (beP long x).length = szP long := by cases long <;> rfl
theorem beP_bytes (long : Bool) (x : Int) : Bytes8 (beP long x) := by
  cases long
  · exact be2_bytes _
  · exact be4_bytes _
theorem putP_snoc (long : Bool) (x : Int) : ∀ l, putP long (l ++ [x]) = putP long l ++ beP long x
  | [] => by simp [putP]
  | y :: r => by simp [putP, putP_snoc long x r]
theorem putP_len (long : Bool) : ∀ l, (putP long l).length = l.length * szP long
  | [] => by simp [putP]
  | y :: r => by simp only [putP, List.length_append, beP_len, putP_len long r, List.length_cons]; rw [Nat.succ_mul]; omega
theorem putP_bytes (long : Bool) : ∀ l, Bytes8 (putP long l)
  | [] => fun _ h => (nomatch h)
  | y :: r => (beP_bytes long y).append (putP_bytes long r)
def okOff (long : Bool) (x : Int) : Bool := long || (x % 2 == 0 && decide (x ≤ 131070))
/-- Offsets do not fall, are from last, and none above most. -/
def rises (most : Int) : Int → List Int → Bool
  | _, [] => true
  | last, x :: r => decide (last ≤ x) && decide (x ≤ most) && rises most x r
theorem rises_snoc (most : Int) : ∀ (last : Int) (l : List Int) (x : Int), rises most last (l ++ [x]) = (rises most last l && (decide (l.getLastD last ≤ x) && decide (x ≤ most)))
  | last, [], x => by simp [rises]
  | last, y :: r, x => by
    simp only [List.cons_append, rises, rises_snoc most y r x]
    rw [show (y :: r).getLastD last = r.getLastD y by cases r <;> simp [List.getLastD]]
    simp only [Bool.and_assoc]
theorem rises_ge (most : Int) : ∀ (l : List Int) (last : Int), rises most last l = true → ∀ x ∈ l, last ≤ x ∧ x ≤ most
  | [], _, _, x, hx => (nomatch hx)
  | y :: r, last, h, x, hx => by
    simp only [rises, Bool.and_eq_true, decide_eq_true_eq] at h
    rcases List.mem_cons.1 hx with rfl | hx
    · omega
    · have := rises_ge most r y h.2 x hx
      omega
theorem off_back (long : Bool) : ∀ (l : List Int) (k : Nat) (X : List Value) (x : Int), (∀ y ∈ l, 0 ≤ y ∧ y ≤ 1048576 ∧ okOff long y = true) → l[k]? = some x → (offAt long (putP long l ++ X) k : Int) = x
  | [], k, X, x, _, h => by simp at h
  | y :: r, 0, X, x, hl, h => by
    simp at h
    subst h
    have := hl y (by simp)
    cases long
    · simp only [offAt, putP, beP, List.append_assoc, okOff, Bool.false_or, Bool.and_eq_true, decide_eq_true_eq, beq_iff_eq] at *
      have e := rd2_be2 (y / 2) (putP false r ++ X)
      simp only [Bool.false_eq_true, if_false, Nat.zero_mul]
      omega
    · simp only [offAt, putP, beP, List.append_assoc] at *
      have e := rd4_be4 y (putP true r ++ X)
      simp only [if_true, Nat.zero_mul]
      omega
  | y :: r, k + 1, X, x, hl, h => by
    have ih := off_back long r k X x (fun z hz => hl z (by simp [hz])) (by simpa using h)
    rw [← ih]
    cases long
    · simp only [offAt, putP, List.append_assoc, Bool.false_eq_true, if_false]
      rw [rd2_right (k * 2) _ (by rw [beP_len]; simp only [szP, Bool.false_eq_true, if_false]; omega)]
    · simp only [offAt, putP, List.append_assoc, if_true]
      rw [rd4_right (k * 4) _ (by rw [beP_len]; simp only [szP, if_true]; omega)]

end Go.Proofs.Ytbomgaacahaofaa

namespace Go.Proofs.Ytbomgaacahaofaa
open Go Go.RowKit

/-- Blocks of other kinds than a writer's stay. -/
def Safe (w w' : World) : Prop := ∀ (q : Nat) (T : TypeId) (cs : Array Value), T ≠ 5 → T ≠ 110 → T ≠ 108 → Blk w q T cs → Blk w' q T cs
theorem wr_safe {w w' : World} {p R : Nat} {F : Bool} {L : List Value} {fp : List Nat} (h : Wr w p R F L fp) (o : Only w w' fp) : Safe w w' := by
  obtain ⟨D, G, dv, gv, hb, hd, hg, _, _, _, _, rfl⟩ := h
  intro q T cs n1 n2 n3 hq
  refine hq.only o fun hm => ?_
  rcases List.mem_cons.1 hm with rfl | hm
  · unfold Blk at hb hq
    rw [hb] at hq
    injection hq with hq
    injection hq with _ e
    exact n3 e.symm
  · rcases List.mem_append.1 hm with hm | hm
    · exact own_ne hd hq n1.symm hm
    · exact own_ne hg hq n2.symm hm

/-- A writer that was made since world w0. -/
def WS (w0 w : World) (p R : Nat) (L : List Value) : Prop := ∃ fp, Wr w p R false L fp ∧ Below w0.heap.size w0 w ∧ ∀ b ∈ fp, w0.heap.size ≤ b
theorem WS.below {w0 w w1 : World} {p R : Nat} {L : List Value} (h : WS w0 w p R L) (k : Below w.heap.size w w1) : WS w0 w1 p R L := by
  obtain ⟨fp, hW, b, hf⟩ := h
  exact ⟨fp, hW.only (Only.of_below k []) (fun _ _ h => (nomatch h)), b.trans (k.mono b.size), hf⟩
theorem WS.alloc {w0 w : World} {p R : Nat} {L : List Value} (h : WS w0 w p R L) (o : Obj) : WS w0 (w.alloc o) p R L := h.below ((Below.refl _ _).alloc (Nat.le_refl _) o)
theorem WS.old {w0 w : World} {p R : Nat} {L : List Value} (h : WS w0 w p R L) : Below w0.heap.size w0 w := h.elim fun _ h => h.2.1
def Wrote (w0 w : World) (p R : Nat) (L E : List Value) (e : Ending) (w' : World) : Prop := e = .returned (.pointer (some ⟨p, 0, none⟩)) ∧ WS w0 w' p R (L ++ E) ∧ Safe w w' ∧ w.heap.size ≤ w'.heap.size
theorem ws_put {w0 w : World} {p R : Nat} {L E : List Value} {f : FuncId} {args : Array Value} (h : WS w0 w p R L) (hx : L.length + E.length ≤ R)
    (hc : ∀ fp, Wr w p R false L fp → Calls Try.prog f args w fun e w' => e = .returned (.pointer (some ⟨p, 0, none⟩)) ∧ Put w w' p R false L fp E) :
    Calls Try.prog f args w (Wrote w0 w p R L E) := by
  obtain ⟨fp, hW, b, hf⟩ := h
  refine (hc fp hW).mono fun e w' ⟨he, fp', h1, h2, h3⟩ => ⟨he, ⟨fp', ?_, ?_, fun x hx => ?_⟩, wr_safe hW h2, h2.size⟩
  · have e1 : putF R false L E = false := by unfold putF; simp; exact hx
    rw [e1] at h1
    unfold putL at h1
    rw [e1, if_neg (by simp)] at h1
    exact h1
  · exact b.trans (h2.to_below b.size hf)
  · rcases h3 x hx with h | h
    · exact hf x h
    · have := b.size; omega
theorem wsU16 (w0 w : World) (p R : Nat) (L : List Value) (x : Int) (h : WS w0 w p R L) (hx : L.length + 2 ≤ R) (hR : R ≤ 1099511627776) :
    Calls Try.prog 55 #[.pointer (some ⟨p, 0, none⟩), .int .i64 x] w (Wrote w0 w p R L (be2 x)) := ws_put h hx fun fp hW => wU16_any p R false L fp x w hW hR
theorem wsI16 (w0 w : World) (p R : Nat) (L : List Value) (x : Int) (h : WS w0 w p R L) (hx : L.length + 2 ≤ R) (hR : R ≤ 1099511627776) :
    Calls Try.prog 56 #[.pointer (some ⟨p, 0, none⟩), .int .i64 x] w (Wrote w0 w p R L (be2 x)) := ws_put h hx fun fp hW => wI16_any p R false L fp x w hW hR
theorem wsU32 (w0 w : World) (p R : Nat) (L : List Value) (x : Int) (h : WS w0 w p R L) (hx : L.length + 4 ≤ R) (hR : R ≤ 1099511627776) :
    Calls Try.prog 57 #[.pointer (some ⟨p, 0, none⟩), .int .i64 x] w (Wrote w0 w p R L (be4 x)) := ws_put h hx fun fp hW => wU32_any p R false L fp x w hW hR
theorem own_base {w : World} {base base1 : Nat} {e : TypeId} {size n : Nat} {v : Value} {xs : List Value} (h : w.ownsRow base e size v n xs) (hb : base1 ≤ base) : w.ownsRow base1 e size v n xs :=
  ⟨h.1, h.2.imp id fun ⟨g, cap, cur, h1, h2, h3⟩ => ⟨g, cap, cur, h1, Nat.le_trans hb h2, h3⟩⟩
theorem wsDone (w0 w : World) (p R : Nat) (L : List Value) (h : WS w0 w p R L) (hR : R ≤ 2147483647) :
    Calls Try.prog 44 #[.pointer (some ⟨p, 0, none⟩)] w (Gave w0 L) := by
  obtain ⟨fp, hW, b, hf⟩ := h
  exact (wdone_any p R L fp w hW hR).mono fun e w' ⟨A, c, h1, h2, h3⟩ => ⟨A, c, h1, own_base h2 b.size, b.trans (h3.mono b.size)⟩
/-- A new writer was answered. -/
def MadeWS (w0 w : World) (R : Nat) (e : Ending) (w' : World) : Prop := ∃ p, e = .returned (.pointer (some ⟨p, 0, none⟩)) ∧ WS w0 w' p R [] ∧ Below w.heap.size w w'
theorem wsTo (w0 w : World) (R : Nat) (hb : Below w0.heap.size w0 w) : Calls Try.prog 41 #[.int .i64 (R : Nat)] w (MadeWS w0 w R) := by
  refine (to_any (R : Nat) w).mono fun e w' ⟨p, fp, h1, h2, h3, h4⟩ => ⟨p, h1, ⟨fp, h2, hb.trans (h3.mono hb.size), fun b hm => ?_⟩, h3⟩
  have := h4 b hm
  have := hb.size
  omega
theorem wsU8 (w0 w : World) (p R : Nat) (L : List Value) (x : Int) (h : WS w0 w p R L) (hx : L.length + 1 ≤ R) (hR : R ≤ 1099511627776) :
    Calls Try.prog 54 #[.pointer (some ⟨p, 0, none⟩), .int .i64 x] w (Wrote w0 w p R L (be1 x)) := ws_put h hx fun fp hW => wU8_any p R false L fp x w hW hR

end Go.Proofs.Ytbomgaacahaofaa

namespace Go.Proofs.Ytbomgaacahaofaa
open Go Go.RowKit

section
variable {P : Program} (w : World)

theorem run_append_src_wide (base : Nat) (t ty e : TypeId) (i : TypeInfo) (z : Value) (size bytes : Nat) (ht : P.underlying t = some (.slice e)) (hi : P.info? e = some i) (hz : i.zero = some z)
    (hsize : i.size = size) (hby : i.bytes = bytes) (hzs : z.cells.size = size) (hsz : 0 < size) (v : Value) (n : Nat) (xs : List Value) (hown : w.ownsRow base e size v n xs)
    (B : Nat) (A : Option Addr) (m c : Nat) (news : List Value) (hr : Lists w B A news) (hl : news.length = m * size) (h1 : ∀ u ∈ news, u.oneCell' = true)
    (h63 : n + m ≤ maxLen) (hbytes : ((n + m) + (n + m) / 4 + 192) * bytes ≤ 281474976710656) (hbase : base ≤ w.heap.size) :
    ∃ v' w', (Builtin.append_ #[t, t] ty #[v, .slice A m c]).run P w = .ok v' w' ∧ w'.ownsRow base e size v' (n + m) (xs ++ news) ∧ w.grownBy w' v.ownBlock := by
  cases A with
  | none =>
    have hn : news = [] := hr.nil rfl
    subst hn
    have hm : m = 0 := by
      have : m * size = 0 := by simpa using hl.symm
      rcases Nat.mul_eq_zero.1 this with h | h
      · exact h
      · omega
    subst hm
    refine ⟨v, w, ?_, by simpa using hown, World.grownBy.refl w _⟩
    rcases hown.2 with ⟨rfl, rfl⟩ | ⟨g, cap, cur, rfl, _, _, hc, _⟩
    · simp [Builtin.append_, run_underlying ht, sizeOf, typeInfo, hi, Builtin.lenOf, Builtin.firstCells]
    · simp [Builtin.append_, run_underlying ht, sizeOf, typeInfo, hi, Builtin.lenOf, Builtin.firstCells, hc, storeCells]
  | some ad =>
    obtain ⟨v', w', hrun, h2, h3, _⟩ := run_append_own_wide (P := P) w base t ty e i z size bytes ht hi hz hsize hby hzs hsz v n xs hown ad m c news hl (hr.cell ad rfl) h1 h63 hbytes hbase
    exact ⟨v', w', hrun, h2, h3⟩

theorem wp_append_src_wide {o : Oper} {a : Act} {K : Act → World → Prop} {Q : Exit → Act → World → Prop} (s x : Operand) (t : TypeId)
    (ho : o.op = .call { callee := .builtin .append, args := #[s, x], argTypes := #[t, t] })
    (base : Nat) (e : TypeId) (i : TypeInfo) (z : Value) (size bytes : Nat) (ht : P.underlying t = some (.slice e)) (hi : P.info? e = some i) (hz : i.zero = some z)
    (hsize : i.size = size) (hby : i.bytes = bytes) (hzs : z.cells.size = size) (hsz : 0 < size)
    (v : Value) (n : Nat) (xs : List Value) (hs : a.eval s = v) (hown : w.ownsRow base e size v n xs)
    (B : Nat) (A : Option Addr) (m c : Nat) (news : List Value) (hx : a.eval x = .slice A m c) (hr : Lists w B A news) (hl : news.length = m * size) (h1 : ∀ u ∈ news, u.oneCell' = true)
    (h63 : n + m ≤ maxLen) (hbytes : ((n + m) + (n + m) / 4 + 192) * bytes ≤ 281474976710656) (hbase : base ≤ w.heap.size)
    (h : ∀ v' w', w'.ownsRow base e size v' (n + m) (xs ++ news) → w.grownBy w' v.ownBlock → K (a.put o.dst v') w') : o.wp P a w K Q := by
  obtain ⟨v', w', hrun, h2, h3⟩ := run_append_src_wide (P := P) w base t o.type e i z size bytes ht hi hz hsize hby hzs hsz v n xs hown B A m c news hr hl h1 h63 hbytes hbase
  unfold Oper.wp execOp
  simp only [ho, resolve, invoke, builtin, Sem.run_bind, Sem.run_pure, Result.andThen_ok, List.map_toArray, List.map_cons, List.map_nil, hs, hx, hrun]
  exact h v' w' h2 h3

theorem wpList_append_src_wide {ops : Array Oper} {rest : List Oper} {o : Oper} {a : Act} {Q : Exit → Act → World → Prop} (hgd : o.guard = none) (s x : Operand) (t : TypeId)
    (ho : o.op = .call { callee := .builtin .append, args := #[s, x], argTypes := #[t, t] })
    (base : Nat) (e : TypeId) (i : TypeInfo) (z : Value) (size bytes : Nat) (ht : P.underlying t = some (.slice e)) (hi : P.info? e = some i) (hz : i.zero = some z)
    (hsize : i.size = size) (hby : i.bytes = bytes) (hzs : z.cells.size = size) (hsz : 0 < size)
    (v : Value) (n : Nat) (xs : List Value) (hs : a.eval s = v) (hown : w.ownsRow base e size v n xs)
    (B : Nat) (A : Option Addr) (m c : Nat) (news : List Value) (hx : a.eval x = .slice A m c) (hr : Lists w B A news) (hl : news.length = m * size) (h1 : ∀ u ∈ news, u.oneCell' = true)
    (h63 : n + m ≤ maxLen) (hbytes : ((n + m) + (n + m) / 4 + 192) * bytes ≤ 281474976710656) (hbase : base ≤ w.heap.size)
    (h : ∀ v' w', w'.ownsRow base e size v' (n + m) (xs ++ news) → w.grownBy w' v.ownBlock → wpList P ops Q rest (a.put o.dst v') w') : wpList P ops Q (o :: rest) a w :=
  wpList_plain hgd fun _ hK => wp_append_src_wide w s x t ho base e i z size bytes ht hi hz hsize hby hzs hsz v n xs hs hown B A m c news hx hr hl h1 h63 hbytes hbase fun v' w' h2 h3 => hK _ _ (h v' w' h2 h3)
end

end Go.Proofs.Ytbomgaacahaofaa

namespace Go.Proofs.Ytbomgaacahaofaa
open Go Go.RowKit

section
variable {P : Program} {ops : Array Oper} {I : World → Prop} {E : Act → World → Prop} {i : Nat} {r : List (Nat × Bool)} {o : Oper} {a : Act} {w : World}
theorem ChainL.appendW (hi : ops[i]? = some o) (hw : Region.wanted o (yielded ops a.tmps) = true) (s x : Operand) (t : TypeId)
    (ho : o.op = .call { callee := .builtin .append, args := #[s, x], argTypes := #[t, t] })
    (base : Nat) (e : TypeId) (info : TypeInfo) (z : Value) (size bytes : Nat) (ht : P.underlying t = some (.slice e)) (hi' : P.info? e = some info) (hz : info.zero = some z)
    (hsize : info.size = size) (hby : info.bytes = bytes) (hzs : z.cells.size = size) (hsz : 0 < size)
    (v : Value) (n : Nat) (xs : List Value) (hs : a.eval s = v) (hown : w.ownsRow base e size v n xs)
    (B : Nat) (A : Option Addr) (m c : Nat) (news : List Value) (hx : a.eval x = .slice A m c) (hr : Lists w B A news) (hl : news.length = m * size) (h1 : ∀ u ∈ news, u.oneCell' = true)
    (h63 : n + m ≤ maxLen) (hbytes : ((n + m) + (n + m) / 4 + 192) * bytes ≤ 281474976710656) (hbase : base ≤ w.heap.size)
    (h : ∀ v' w', w'.ownsRow base e size v' (n + m) (xs ++ news) → w.grownBy w' v.ownBlock → I w' ∧ ChainL P ops E I r (a.put o.dst v') w') : ChainL P ops E I ((i, true) :: r) a w := by
  obtain ⟨v', w', hrun, h2, h3⟩ := run_append_src_wide (P := P) w base t o.type e info z size bytes ht hi' hz hsize hby hzs hsz v n xs hown B A m c news hr hl h1 h63 hbytes hbase
  refine ⟨o, hi, hw, .inl ⟨v', w', ?_, h v' w' h2 h3⟩⟩
  unfold execOp
  simp only [ho, resolve, invoke, builtin, Sem.run_bind, Sem.run_pure, Result.andThen_ok, List.map_toArray, List.map_cons, List.map_nil, hs, hx, hrun]
end
theorem own_new (w : World) : (w.alloc (.cells #[] 5)).ownsRow w.heap.size 5 1 (.slice (some ⟨w.heap.size, 0, none⟩) 0 0) 0 [] := ⟨rfl, .inr ⟨w.heap.size, 0, #[], rfl, Nat.le_refl _, heap_alloc_new w _, Nat.le_refl _, Nat.zero_le _, rfl, rfl⟩⟩
theorem own_new_at (w : World) (k : Nat) (hk : k = w.heap.size) : (w.alloc (.cells #[] 5)).ownsRow k 5 1 (.slice (some ⟨k, 0, none⟩) 0 0) 0 [] := hk ▸ own_new w

end Go.Proofs.Ytbomgaacahaofaa
