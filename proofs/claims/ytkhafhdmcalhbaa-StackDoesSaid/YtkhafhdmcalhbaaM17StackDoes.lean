/- Part 18 of the proof: StT. -/
import Derived.Test.YtkhafhdmcalhbaaM16StackDoes

namespace Go.Proofs.Ytkhafhdmcalhbaa
open Go Go.RowKit
set_option linter.unusedVariables false
set_option linter.unusedSimpArgs false

/-- The Stack at q and the reference's at p have the same numbers, store and draws left; they share no row. -/
structure PS (W : World) (q p : Nat) (A0 : Option Addr) (c0 : Nat) (nv lv : Value) (L St D : List Int) (u : Nat) (wr : World) : Prop where
  s : Sk wr q nv L St (D.drop u)
  r : Rk wr p lv L St D u
  qp : q < p
  ap : ∀ b ∈ blk nv, p < b
  dj : ∀ b ∈ blk nv, b ∉ blk lv
  c33 : wr.cell? ⟨p, 33, none⟩ = some (.slice A0 D.length c0)
  bw : Below W.heap.size W wr
  wq : W.heap.size ≤ q
/-- The same, where the Stack was called and the reference was not yet. -/
structure PM (W : World) (q p : Nat) (A0 : Option Addr) (c0 : Nat) (nv lv : Value) (L St L2 St2 D ds2 : List Int) (u : Nat) (wr : World) : Prop where
  s : Sk wr q nv L2 St2 ds2
  r : Rk wr p lv L St D u
  qp : q < p
  ap : ∀ b ∈ blk nv, p < b
  dj : ∀ b ∈ blk nv, b ∉ blk lv
  c33 : wr.cell? ⟨p, 33, none⟩ = some (.slice A0 D.length c0)
  bw : Below W.heap.size W wr
  wq : W.heap.size ≤ q
theorem rk_A {wr : World} {p : Nat} {lv : Value} {L St D : List Int} {u : Nat} {A A0 : Option Addr} {c c0 : Nat} (h : Blk wr p 30 (rkCells lv St (.slice A D.length c) u)) (hst : St.length = 32) (c33 : wr.cell? ⟨p, 33, none⟩ = some (.slice A0 D.length c0)) : A = A0 := by
  have h1 := h.cell 33
  rw [rk_c33 _ _ _ _ hst, c33] at h1
  injection h1 with h1
  injection h1 with h1
  exact h1.symm
theorem PS.code {W : World} {q p : Nat} {A0 : Option Addr} {c0 : Nat} {nv lv : Value} {L St D : List Int} {u : Nat} {wr w1 : World} {nv2 : Value} {L2 St2 ds2 : List Int} (h : PS W q p A0 c0 nv lv L St D u wr) (hA : ∀ a, A0 = some a → intCells D ≠ [] → a.block < W.heap.size)
    (hs : Sk w1 q nv2 L2 St2 ds2) (hm : Mod wr w1 q nv nv2) : PM W q p A0 c0 nv2 lv L St L2 St2 D ds2 u w1 := by
  have hlow := own_lowS h.r.own
  have hp : p ∉ q :: blk nv := fun hm => by
    rcases List.mem_cons.1 hm with e | e
    · have := h.qp; omega
    · have := h.ap p e; omega
  refine ⟨hs, h.r.only hm.1 hp ?_ ?_, h.qp, ?_, ?_, ?_, ?_, h.wq⟩
  · intro b hb hl
    rcases List.mem_cons.1 hb with e | e
    · subst e; have := hlow b hl; have := h.qp; omega
    · exact h.dj b e hl
  · intro A c hk a ha hne hmem
    have e := rk_A (L := L) hk h.r.st h.c33
    have h1 := hA a (by rw [← e]; exact ha) hne
    have h2 := h.wq
    have h3 := h.qp
    rcases List.mem_cons.1 hmem with e | e
    · omega
    · have := h.ap _ e; omega
  · intro b hb
    rcases hm.2 b hb with h1 | h1
    · exact h.ap b h1
    · have := h.r.lt; omega
  · intro b hb hl
    rcases hm.2 b hb with h1 | h1
    · exact h.dj b h1 hl
    · have := blk_lt h.r.own b hl; omega
  · exact (World.cell?_of_block (w' := w1) (w := wr) (a := ⟨p, 33, none⟩) (hm.1.block p h.r.lt hp)).trans h.c33
  · exact h.bw.trans (hm.to_below h.s.own h.wq h.s.lt)
theorem PM.ref {W : World} {q p : Nat} {A0 : Option Addr} {c0 : Nat} {nv lv lv2 : Value} {L St L2 St2 D : List Int} {u u2 : Nat} {w1 w2 : World} (h : PM W q p A0 c0 nv lv L St L2 St2 D (D.drop u2) u w1)
    (hr : Rk w2 p lv2 L2 St2 D u2) (hm : RMod w1 w2 p lv lv2) : PS W q p A0 c0 nv lv2 L2 St2 D u2 w2 := by
  refine ⟨h.s.only hm.1 (fun b hb => by simp at hb; have := h.qp; omega) (fun b hb hn => by simp at hb; subst hb; have := h.ap b hn; omega), hr, h.qp, h.ap, ?_, (hm.kept h.r.lt).trans h.c33, ?_, h.wq⟩
  · intro b hb hl
    rcases hm.2 b hl with h1 | h1
    · exact h.dj b hb h1
    · have := blk_lt h.s.own b hb; omega
  · exact h.bw.trans (hm.1.to_below h.bw.size (fun b hb => by simp at hb; have := h.qp; have := h.wq; omega))
theorem PM.below {W : World} {q p : Nat} {A0 : Option Addr} {c0 : Nat} {nv lv : Value} {L St L2 St2 D ds2 : List Int} {u : Nat} {w1 w2 : World} (h : PM W q p A0 c0 nv lv L St L2 St2 D ds2 u w1) (b : Below w1.heap.size w1 w2) : PM W q p A0 c0 nv lv L St L2 St2 D ds2 u w2 :=
  ⟨h.s.below b, h.r.below b, h.qp, h.ap, h.dj, (b.cell (p := ⟨p, 33, none⟩) h.r.lt).trans h.c33, h.bw.trans (b.mono h.bw.size), h.wq⟩
theorem PS.below {W : World} {q p : Nat} {A0 : Option Addr} {c0 : Nat} {nv lv : Value} {L St D : List Int} {u : Nat} {w1 w2 : World} (h : PS W q p A0 c0 nv lv L St D u w1) (b : Below w1.heap.size w1 w2) : PS W q p A0 c0 nv lv L St D u w2 :=
  ⟨h.s.below b, h.r.below b, h.qp, h.ap, h.dj, (b.cell (p := ⟨p, 33, none⟩) h.r.lt).trans h.c33, h.bw.trans (b.mono h.bw.size), h.wq⟩
theorem PS.ok {W : World} {q p : Nat} {A0 : Option Addr} {c0 : Nat} {nv lv : Value} {L St D : List Int} {u : Nat} {w1 : World} (h : PS W q p A0 c0 nv lv L St D u w1) : OkS L St := ⟨h.s.len, h.s.may, h.s.st, h.s.mst⟩
theorem bRef (A : Option Addr) (n c : Nat) : Try.prog.built 30 [(2, .slice A n c)] = some (rkCells (.slice none 0 0) (List.replicate 32 0) (.slice A n c) 0) := by kernel_rfl
theorem rkInfo : (Try.prog.info? 30).map (·.size) = some 35 := by kernel_rfl
theorem wpList_build_toS {P : Program} {ops : Array Oper} {rest : List Oper} {o : Oper} {a : Act} {w : World} {Q : Exit → Act → World → Prop} (hg : o.guard = none) (t : TypeId) (parts : Array (Nat × Operand)) (ho : o.op = .build t parts)
    (l : List (Nat × Value)) (hl : (parts.map fun (i, x) => (i, a.eval x)).toList = l) (v : Array Value) (hf : P.built t l = some v) (h : wpList P ops Q rest (a.put o.dst (.agg v)) w) : wpList P ops Q (o :: rest) a w := by
  subst hl
  exact wpList_build hg t parts ho (by rw [hf]; rfl) (by rw [hf]; exact h)
/-- The reference's IsOp. -/
theorem risop_any (op : Int) (w : World) : Calls Try.prog 17 #[.int .i64 op] w fun e w' => e = .returned (.bool (isOpB op)) ∧ w = w' := by
  cases h : isOpB op
  · have C := fun W => need_none op h W
    go_enter Try.func17, Try.ntmps17
    go_wp2_with (first | (go_at_call 28; ((with_reducible refine (C _).mono ?_); rintro e w9 ⟨rfl, rfl⟩)))
    go_ret
    exact ⟨rfl, rfl⟩
  · have C : ∃ k : Nat, ∀ W, Calls Try.prog 28 #[.int .i64 op] W fun e w' => e = .returned (.int .i64 (k : Nat)) ∧ W = w' := by
      rcases op_some h with rfl | rfl | rfl | rfl | rfl | rfl | rfl | rfl | rfl | rfl | rfl | rfl | rfl | rfl | rfl | rfl | rfl | rfl | rfl | rfl
      · exact ⟨1, fun W => need_abs W⟩
      · exact ⟨1, fun W => need_neg W⟩
      · exact ⟨1, fun W => need_sqrt W⟩
      · exact ⟨1, fun W => need_not W⟩
      · exact ⟨2, fun W => need_add W⟩
      · exact ⟨2, fun W => need_sub W⟩
      · exact ⟨2, fun W => need_mul W⟩
      · exact ⟨2, fun W => need_div W⟩
      · exact ⟨2, fun W => need_and W⟩
      · exact ⟨2, fun W => need_or W⟩
      · exact ⟨2, fun W => need_eq W⟩
      · exact ⟨1, fun W => need_drop W⟩
      · exact ⟨1, fun W => need_dup W⟩
      · exact ⟨2, fun W => need_exch W⟩
      · exact ⟨4, fun W => need_ifelse W⟩
      · exact ⟨1, fun W => need_index W⟩
      · exact ⟨2, fun W => need_roll W⟩
      · exact ⟨2, fun W => need_put W⟩
      · exact ⟨1, fun W => need_get W⟩
      · exact ⟨0, fun W => need_random W⟩
    obtain ⟨k, C⟩ := C
    clear h
    have d1 : decide ((k : Int) ≥ 0) = true := by simp
    go_enter Try.func17, Try.ntmps17
    go_wp2_with (first | (go_at_call 28; ((with_reducible refine (C _).mono ?_); rintro e w9 ⟨rfl, rfl⟩)))
    go_ret
    exact ⟨rfl, rfl⟩
/-- The Stack's IsOp. -/
theorem isop_any (op : Int) (w : World) : Calls Try.prog 16 #[.int .i64 op] w fun e w' => e = .returned (.bool (isOpB op)) ∧ Below w.heap.size w w' := by
  cases h : isOpB op
  · exact isop_no op h w
  · rcases op_some h with rfl | rfl | rfl | rfl | rfl | rfl | rfl | rfl | rfl | rfl | rfl | rfl | rfl | rfl | rfl | rfl | rfl | rfl | rfl | rfl
    · exact isop_yes 9 _ (by kernel_rfl) find_abs w
    · exact isop_yes 14 _ (by kernel_rfl) find_neg w
    · exact isop_yes 26 _ (by kernel_rfl) find_sqrt w
    · exact isop_yes 5 _ (by kernel_rfl) find_not w
    · exact isop_yes 10 _ (by kernel_rfl) find_add w
    · exact isop_yes 11 _ (by kernel_rfl) find_sub w
    · exact isop_yes 24 _ (by kernel_rfl) find_mul w
    · exact isop_yes 12 _ (by kernel_rfl) find_div w
    · exact isop_yes 3 _ (by kernel_rfl) find_and w
    · exact isop_yes 4 _ (by kernel_rfl) find_or w
    · exact isop_yes 15 _ (by kernel_rfl) find_eq w
    · exact isop_yes 18 _ (by kernel_rfl) find_drop w
    · exact isop_yes 27 _ (by kernel_rfl) find_dup w
    · exact isop_yes 28 _ (by kernel_rfl) find_exch w
    · exact isop_yes 22 _ (by kernel_rfl) find_ifelse w
    · exact isop_yes 29 _ (by kernel_rfl) find_index w
    · exact isop_yes 30 _ (by kernel_rfl) find_roll w
    · exact isop_yes 20 _ (by kernel_rfl) find_put w
    · exact isop_yes 21 _ (by kernel_rfl) find_get w
    · exact isop_yes 23 _ (by kernel_rfl) find_random w
end Go.Proofs.Ytkhafhdmcalhbaa
