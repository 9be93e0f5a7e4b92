/- A writer's bytes, answered. -/
import Derived.Test.YtdbhfigdojkceaaWr4
import Derived.Test.YtdbhfigdojkceaaBytes2
import Derived.Test.YtdbhfigdojkceaaCopy
import Derived.Deep.RegionHeld3
import Derived.Outline
namespace Go.Proofs.Ytdbhfigdojkceaa
open Go Go.RowKit

theorem addr_add_add (a : Addr) (i j : Nat) : (a.add i).add j = a.add (i + j) := by
  unfold Addr.add
  by_cases hi : i = 0
  · subst hi; simp
  · by_cases hj : j = 0
    · subst hj; simp [hi]
    · simp [hi, hj, Nat.add_assoc]

theorem u8One : (Try.prog.info? 5).map (·.size) = some 1 := by kernel_rfl

theorem wdone_full (p R : Nat) (L : List Value) (fp : List Nat) (w : World) (hW : Wr w p R true L fp) :
    Calls Try.prog 33 #[.pointer (some ⟨p, 0, none⟩)] w fun e w' => e = .returned (.tuple #[.slice none 0 0, .int .i64 2]) ∧ Below w.heap.size w w' := by
  obtain ⟨D, G, dv, gv, hb, _⟩ := hW
  have F := hb.kb; simp only [KB, CellsAt, Nat.zero_add, Nat.reduceAdd, and_true] at F
  clear hb
  go_enter Try.func33, Try.ntmps33
  go_wp2
  go_ret2
  exact ⟨rfl, Below.refl _ _⟩

/-- What is answered: the bytes, in new memory. -/
def Gave (w : World) (L : List Value) (e : Ending) (w' : World) : Prop := ∃ A c, e = .returned (.tuple #[.slice A L.length c, .int .i64 0]) ∧ w'.ownsRow w.heap.size 5 1 (.slice A L.length c) L.length L ∧ Below w.heap.size w w'

set_option maxRecDepth 100000 in
set_option maxHeartbeats 4000000 in
theorem wdone_any (p R : Nat) (L : List Value) (fp : List Nat) (w : World) (hW : Wr w p R false L fp) (hR : R ≤ 2147483647) :
    Calls Try.prog 33 #[.pointer (some ⟨p, 0, none⟩)] w fun e w' => Gave w L e w' := by
  have C0 := fun w' (hb : Below w.heap.size w w') => wlen_any p R false L fp w' (hW.only (Only.of_below hb []) (fun _ _ h => (nomatch h))) (by omega)
  obtain ⟨D, G, dv, gv, hb, hD, hG, k1, k2, k3, k4, _⟩ := hW
  have hl := expand_len D G 0 k1
  have hN : L.length ≤ 2147483647 := by omega
  have hN1 : ¬ (2147483647 < (L.length : Int)) := by omega
  have hmk := run_make_row' (P := Try.prog) 23 5 (.int .u8 0) 1 Try.underlying23 u8Info rfl .i64 .i64 L.length (by omega) (by omega)
  have hmk : ∀ w : World, (Instr.makeSlice 23 (.int .i64 (L.length : Int)) (.int .i64 (L.length : Int))).run Try.prog w = .ok (.slice (some ⟨w.heap.size, 0, none⟩) L.length L.length) (w.alloc (.cells (List.replicate L.length zero8).toArray 5)) := fun w => by rw [hmk w, made_zeros]
  have hcnt := k1.count
  have hGn : G.length ≤ 2147483647 := by rw [k3] at hN; omega
  have hDn : D.length ≤ 2147483647 := by rw [k3] at hN; omega
  obtain ⟨A0, c0, rfl, lD, hc0⟩ := own_lists hD
  obtain ⟨Ag, cg, rfl, lG, _⟩ := own_lists hG
  have hcm : c0 ≤ maxLen := by
    rcases hD.2 with ⟨h, _⟩ | ⟨g, cap, cur, h, _, _, _, h7, _⟩
    · injection h with _ _ h; omega
    · injection h with _ _ h; omega
  unfold maxLen at hcm
  have H3 := Lib.hid k3
  have HK1 := Lib.hid k1
  have HLD := Lib.hid lD
  have HLG := Lib.hid lG
  have HK2 := Lib.hid k2
  have hN0 : (0 : Int) ≤ (L.length : Int) := by omega
  clear hl hcnt k3 k1 lD lG k2 hD hG
  have F := hb.kb; simp only [KB, CellsAt, Nat.zero_add, Nat.reduceAdd, and_true] at F
  obtain ⟨N, hNN⟩ : ∃ N, N = L.length := ⟨_, rfl⟩
  rw [← hNN] at C0 hN hN1 hmk hN0
  have HN := Lib.hid hNN
  clear hNN
  go_enter Try.func33, Try.ntmps33
  go_wp2_with (first | (go_at_call 49; ((with_reducible refine (C0 _ (Below.refl _ _)).mono ?_); rintro e w1 ⟨rfl, b1⟩; have F1 := (hb.below b1).kb; simp only [KB, CellsAt, Nat.zero_add, Nat.reduceAdd, and_true] at F1)) | (go_at_call 49; ((with_reducible refine (C0 _ b1).mono ?_); rintro e w2 ⟨rfl, b2⟩; have b2 := b1.trans (b2.mono b1.size); have F2 := (hb.below b2).kb; simp only [KB, CellsAt, Nat.zero_add, Nat.reduceAdd, and_true] at F2)))
  have hg0 : (w2.alloc (.cells (List.replicate N zero8).toArray 5)).heap[w2.heap.size]? = some (.cells (rowAt D G N 0).toArray 5 (0, 0)) := by
    rw [heap_alloc_new]
    rfl
  have HG0 := Lib.hid hg0
  have hgw := b2.size
  have bm : Below w.heap.size w (w2.alloc (.cells (List.replicate N zero8).toArray 5)) := b2.alloc b2.size _
  clear hg0 F F1
  generalize hgg : w2.heap.size = g at *
  clear hgg
  go_loopw [5, 6, 28] (fun fr to ix wr => ∃ k : Nat, k ≤ G.length ∧ ix = .int .i64 k ∧ ∃ f t : Nat, fr = .int .i64 f ∧ to = .int .i64 t ∧ Hid (f = lastA 0 (G.take k) ∧ t = (preE D 0 (G.take k)).length) ∧ Below w.heap.size w wr ∧ Hid (wr.heap[g]? = some (.cells (rowAt D G N k).toArray 5 (0, 0)))) (fun _ _ ix _ => G.length - (intOf ix).toNat)
  case atStart => exact ⟨0, Nat.zero_le _, rfl, 0, 0, rfl, rfl, Lib.hid ⟨rfl, rfl⟩, bm, HG0⟩
  case round =>
    obtain ⟨k, hk, rfl, f, t, rfl, rfl, HFT, hbw, HGW⟩ := hrel
    have F3 := (hb.below hbw).kb; simp only [KB, CellsAt, Nat.zero_add, Nat.reduceAdd, and_true] at F3
    clear F2 HG0
    by_cases hlt : k < G.length
    · obtain ⟨⟨a, z⟩, hgk⟩ : ∃ q, G[k]? = some q := ⟨G[k], List.getElem?_eq_getElem hlt⟩
      obtain ⟨bg, og, hAg, hbg, hcg⟩ := HLG.out.plain (by intro e; have := gapCells_len G; rw [e] at this; simp at this; omega)
      subst hAg
      have hga := gapCells_at G k a z hgk
      have ga := (hbw.cell (p := ⟨bg, og + k * 2, none⟩) hbg).trans (hcg (k * 2) _ hga.1)
      have gz := (hbw.cell (p := ⟨bg, og + (k * 2 + 1), none⟩) hbg).trans (hcg (k * 2 + 1) _ hga.2)
      rw [← Nat.add_assoc] at gz
      clear hga hcg
      obtain ⟨q1, q2, q3⟩ := gap_at G 0 D.length k a z HK1.out hgk
      have hpre := pre_len_le D G (k + 1)
      have hpl : (preE D 0 (G.take (k + 1))).length = t + ((a - f) + z) := by
        rw [take_snoc hgk, preE_snoc, HFT.out.1, HFT.out.2]
        simp only [List.length_append, List.length_replicate, List.length_take, List.length_drop]
        omega
      rw [hpl, ← H3.out, ← HN.out] at hpre
      rw [← HFT.out.1] at q1
      have HRN := Lib.hid (row_next D G N k a z hgk (by rw [hpl]; exact hpre))
      have HPL := Lib.hid hpl
      rw [← HFT.out.1, ← HFT.out.2] at HRN
      have hrl := rowAt_len D G N k (by rw [← HFT.out.2]; omega)
      clear hpl
      have hfa : (f : Int) ≤ (a : Int) := by omega
      have haD : (a : Int) ≤ (D.length : Int) := by omega
      have hDc : (D.length : Int) ≤ (c0 : Int) := by omega
      have htN : (t : Int) ≤ (N : Int) := by omega
      have hntN : ¬ N = t := by omega
      have hf0 : (0 : Int) ≤ (f : Int) := by omega
      have ha0 : (0 : Int) ≤ (a : Int) := by omega
      have hac : (a : Int) ≤ (c0 : Int) := by omega
      have hfc : (f : Int) ≤ (c0 : Int) := by omega
      have ht0 : (0 : Int) ≤ (t : Int) := by omega
      have hgb : g < wr.heap.size := (Array.getElem?_eq_some_iff.1 HGW.out).1
      have hcl : ((D.drop f).take (a - f)).length = a - f := by simp only [List.length_take, List.length_drop]; omega
      have hc1 : ∀ v ∈ (D.drop f).take (a - f), v.oneCell' = true := fun v hv => HK2.out.one v (List.mem_of_mem_drop (List.mem_of_mem_take hv))
      have hcc : ∀ (j : Nat) (v : Value), ((D.drop f).take (a - f))[j]? = some v → D[f + j]? = some v := fun j v hv => by
        have hj : j < a - f := by
          rcases Nat.lt_or_ge j (a - f) with h | h
          · exact h
          · rw [List.getElem?_eq_none (by omega)] at hv; cases hv
        simpa [hj] using hv
      have hcn : ((D.drop f).take (a - f)).length = Nat.min (a - f) (N - t) := by rw [hcl]; show _ = min _ _; omega
      have hfit : t + ((D.drop f).take (a - f)).length ≤ (rowAt D G N k).length := by rw [hcl, hrl]; omega
      have s1 : IntKind.i64.wrap (((a - f : Nat) : Int) + (z : Int)) = ((a - f : Nat) : Int) + (z : Int) := IntWalk.i64_in _ (by omega)
      have s2 : IntKind.i64.wrap ((t : Int) + (((a - f : Nat) : Int) + (z : Int))) = (t : Int) + (((a - f : Nat) : Int) + (z : Int)) := IntWalk.i64_in _ (by omega)
      have hgp : p ≠ g := fun e => by have := hb.lt; omega
      have hbox : Blk (wr.alloc (.cells #[.int .i64 (a : Nat), .int .i64 (z : Nat)] 88)).drew wr.heap.size 88 #[.int .i64 (a : Nat), .int .i64 (z : Nat)] := Blk.new wr _ _
      have bw1 : Below w.heap.size w (wr.alloc (.cells #[.int .i64 (a : Nat), .int .i64 (z : Nat)] 88)).drew := (hbw.alloc hbw.size _).drew
      have hbp := hb.below bw1
      have HG1 : (wr.alloc (.cells #[.int .i64 (a : Nat), .int .i64 (z : Nat)] 88)).drew.heap[g]? = some (.cells (rowAt D G N k).toArray 5 (0, 0)) := (Below.heap_alloc _ _ g hgb).trans HGW.out
      have HG1 := Lib.hid HG1
      have hnext : ∀ w5, Only (wr.alloc (.cells #[.int .i64 (a : Nat), .int .i64 (z : Nat)] 88)).drew w5 [g] → Below w.heap.size w w5 := fun w5 o5 => bw1.trans (o5.to_below bw1.size (fun b hm => by simp at hm; omega))
      have HNL := Lib.hid (p := a = lastA 0 (G.take (k + 1)) ∧ t + ((a - f) + z) = (preE D 0 (G.take (k + 1))).length) ⟨by rw [take_snoc hgk, lastA_snoc], HPL.out.symm⟩
      have hld : ∀ a0, A0 = some a0 → ∀ (j : Nat) (v : Value), ((D.drop f).take (a - f))[j]? = some v → (wr.alloc (.cells #[.int .i64 (a : Nat), .int .i64 (z : Nat)] 88)).drew.cell? ((a0.add f).add j) = some v := fun a0 h0 j v hv => by
        have h1 := HLD.out.cell a0 h0 (f + j) v (hcc j v hv)
        have h2 : D ≠ [] := by intro e; subst e; have := hcc j v hv; simp at this
        rw [addr_add_add]
        exact (bw1.cell (by rw [addr_add_block]; exact HLD.out.lt a0 h0 h2)).trans h1
      have hsome : 0 < ((D.drop f).take (a - f)).length → ∃ a0, A0 = some a0 := fun h => by
        cases hA : A0 with
        | some a0 => exact ⟨a0, rfl⟩
        | none =>
          have := HLD.out.nil hA
          subst this
          simp at h
      clear hcc
      generalize (D.drop f).take (a - f) = cs at *
      have HCF : ∀ (w5 : World), Only (wr.alloc (.cells #[.int .i64 (a : Nat), .int .i64 (z : Nat)] 88)).drew w5 [g] → KB w5 [(p, [.int .i64 (R : Nat), .bool false, .slice A0 D.length c0, .slice (some ⟨bg, og, none⟩) G.length cg, .int .i64 (gapSum G : Nat)])] ∧ KB w5 [(wr.heap.size, [.int .i64 (a : Nat), .int .i64 (z : Nat)])] := fun w5 o5 =>
        ⟨(hbp.only o5 (by simpa using hgp)).kb, (hbox.only o5 (by simp; omega)).kb⟩
      clear hfit hcn
      by_cases hcf : c0 = f
      · have HZ1 := Lib.hid (show cs.length = 0 by omega)
        have hz9 : cs = [] := List.eq_nil_of_length_eq_zero HZ1.out
        obtain rfl : a = f := by omega
        obtain rfl : a = c0 := by omega
        subst hz9
        have s3 : IntKind.i64.wrap (z : Int) = (z : Int) := IntWalk.i64_in _ (by omega)
        have s4 : IntKind.i64.wrap ((t : Int) + (z : Int)) = (t : Int) + (z : Int) := IntWalk.i64_in _ (by omega)
        clear s1 s2 hcl hld hsome hcf
        go_wp2
        go_region_held3 (fun w' => w'.cell? ⟨p, 2, none⟩ = some (.slice A0 D.length a) ∧ w'.cell? ⟨wr.heap.size, 0, none⟩ = some (.int .i64 (a : Nat)) ∧ w'.cell? ⟨wr.heap.size, 1, none⟩ = some (.int .i64 (z : Nat))) (first | (refine ⟨?_, ?_, ?_⟩ <;> go_simp)) (first | (refine step_copy_only rfl (.tmp 35) (.tmp 43) 23 23 rfl 5 Try.underlying23 u8One _ _ _ _ _ _ rfl rfl g t (rowAt D G N k) 5 HG1.out [] (by show 0 = min _ _; omega) (fun h => absurd h (by simp)) (by rw [hrl]; simp; omega) hc1 ?_; intro w5 HGW5 o5; have F5 := HCF w5 o5; simp only [KB, CellsAt, Nat.zero_add, Nat.reduceAdd, and_true] at F5))
        have bw5 := hnext _ o5
        clear HCF
        go_wp2
        go_roundw
        case rel => exact ⟨k + 1, by omega, by go_num, a, t + ((a - a) + z), rfl, by simp, HNL, bw5, by rw [← HRN.out]; exact HGW5⟩
        case measure => simp [intOf]; omega
      · go_wp2
        go_region_held3 (fun w' => w'.cell? ⟨p, 2, none⟩ = some (.slice A0 D.length c0) ∧ w'.cell? ⟨wr.heap.size, 0, none⟩ = some (.int .i64 (a : Nat)) ∧ w'.cell? ⟨wr.heap.size, 1, none⟩ = some (.int .i64 (z : Nat))) (first | (refine ⟨?_, ?_, ?_⟩ <;> go_simp)) (first | (refine step_copy_only rfl (.tmp 35) (.tmp 43) 23 23 rfl 5 Try.underlying23 u8One _ _ _ _ _ _ rfl rfl g t (rowAt D G N k) 5 HG1.out cs (hcl.trans (by show _ = min _ _; omega)) (fun h => ⟨rfl, by obtain ⟨a0, h0⟩ := hsome h; exact ⟨a0.add f, by rw [h0]; rfl, hld a0 h0⟩⟩) (by rw [hrl, hcl]; omega) hc1 ?_; intro w5 HGW5 o5; have F5 := HCF w5 o5; simp only [KB, CellsAt, Nat.zero_add, Nat.reduceAdd, and_true] at F5))
        have bw5 := hnext _ o5
        clear HCF
        go_wp2
        go_roundw
        case rel => exact ⟨k + 1, by omega, by go_num, a, t + ((a - f) + z), rfl, by go_num, HNL, bw5, by rw [← HRN.out]; exact HGW5⟩
        case measure => simp [intOf]; omega
    · obtain rfl : k = G.length := by omega
      have e1 : G.take G.length = G := List.take_length
      have hft := HFT.out
      rw [e1] at hft
      have hlen := expand_pre D G 0
      rw [← H3.out] at hlen
      have hfD := lastA_le G HK1.out
      have hNL := HN.out
      rw [hlen, List.length_append, List.length_drop, ← hft.1, ← hft.2] at hNL
      rw [← hft.1] at hfD
      have hrow := row_last D G
      rw [← H3.out, ← HN.out, ← hft.1, ← hft.2] at hrow
      have HROW := Lib.hid hrow
      have hrl := rowAt_len D G N G.length (by rw [e1, ← hft.2]; omega)
      have hfD0 : (f : Int) ≤ (D.length : Int) := by omega
      have hDc : (D.length : Int) ≤ (c0 : Int) := by omega
      have hfc : (f : Int) ≤ (c0 : Int) := by omega
      have htN : (t : Int) ≤ (N : Int) := by omega
      have hf0 : (0 : Int) ≤ (f : Int) := by omega
      have ht0 : (0 : Int) ≤ (t : Int) := by omega
      have hgb : g < wr.heap.size := (Array.getElem?_eq_some_iff.1 HGW.out).1
      have hgp : p ≠ g := fun e => by have := hb.lt; omega
      have HG1 : wr.drew.heap[g]? = some (.cells (rowAt D G N G.length).toArray 5 (0, 0)) := HGW.out
      have HG1 := Lib.hid HG1
      have hbp := hb.below hbw.drew
      have hc1 : ∀ v ∈ D.drop f, v.oneCell' = true := fun v hv => HK2.out.one v (List.mem_of_mem_drop hv)
      have hcl : (D.drop f).length = D.length - f := List.length_drop
      have hfin : ∀ w5, Hid (w5.heap[g]? = some (.cells (splice (rowAt D G N G.length) t (D.drop f)).toArray 5 (0, 0))) → Only wr.drew w5 [g] → Gave w L (.returned (.tuple #[.slice (some ⟨g, 0, none⟩) N N, .int .i64 0])) w5 := fun w5 H o5 => by
        have h1 := H.out
        rw [HROW.out] at h1
        have h2 := HN.out
        subst h2
        refine ⟨some ⟨g, 0, none⟩, L.length, rfl, ⟨by simp, .inr ⟨g, L.length, L.toArray, rfl, hgw, h1, Nat.le_refl _, by unfold maxLen; omega, by simp, by simp⟩⟩, hbw.drew.trans (o5.to_below hbw.size (fun b hm => by simp at hm; omega))⟩
      have hld : ∀ a0, A0 = some a0 → ∀ (j : Nat) (v : Value), (D.drop f)[j]? = some v → wr.drew.cell? ((a0.add f).add j) = some v := fun a0 h0 j v hv => by
        rw [List.getElem?_drop] at hv
        have h1 := HLD.out.cell a0 h0 (f + j) v hv
        have h2 : D ≠ [] := by intro e; subst e; simp at hv
        rw [addr_add_add]
        exact (hbw.drew.cell (by rw [addr_add_block]; exact HLD.out.lt a0 h0 h2)).trans h1
      have hsome : 0 < (D.drop f).length → ∃ a0, A0 = some a0 := fun h => by
        cases hA : A0 with
        | some a0 => exact ⟨a0, rfl⟩
        | none =>
          have := HLD.out.nil hA
          subst this
          simp at h
      have HFIN := Lib.hid hfin
      have HRL := Lib.hid hrl
      have HNL := Lib.hid hNL
      have HCL := Lib.hid hcl
      clear hfin hrow hlen hft HROW hrl hNL hcl e1
      generalize D.drop f = cs at *
      have HCF : ∀ (w5 : World), Only wr.drew w5 [g] → KB w5 [(p, [.int .i64 (R : Nat), .bool false, .slice A0 D.length c0, .slice Ag G.length cg, .int .i64 (gapSum G : Nat)])] := fun w5 o5 => (hbp.only o5 (by simpa using hgp)).kb
      by_cases hcf : c0 = f
      · have hcs : cs = [] := List.eq_nil_of_length_eq_zero (by have := HCL.out; omega)
        obtain rfl : c0 = f := hcf
        obtain rfl : t = N := by have := HNL.out; omega
        subst hcs
        clear hld hsome
        go_wp2
        go_region_held3 (fun w' => w'.cell? ⟨p, 2, none⟩ = some (.slice A0 D.length c0)) (first | go_simp) (first | (refine step_copy_only rfl (.tmp 54) (.tmp 60) 23 23 rfl 5 Try.underlying23 u8One _ _ _ _ _ _ rfl rfl g t (rowAt D G t G.length) 5 HG1.out [] (by show 0 = min _ _; omega) (fun h => absurd h (by simp)) (by rw [HRL.out]; simp) (fun v hv => (nomatch hv)) ?_; intro w5 HGW5 o5; have F5 := HCF w5 o5; simp only [KB, CellsAt, Nat.zero_add, Nat.reduceAdd, and_true] at F5))
        go_wp2
        go_ret2
        exact HFIN.out _ HGW5 o5
      · by_cases hNt : N = t
        · have hcs : cs = [] := List.eq_nil_of_length_eq_zero (by have := HCL.out; have := HNL.out; omega)
          obtain rfl : N = t := hNt
          subst hcs
          clear hld hsome
          go_wp2
          go_region_held3 (fun w' => w'.cell? ⟨p, 2, none⟩ = some (.slice A0 D.length c0)) (first | go_simp) (first | (refine step_copy_only rfl (.tmp 54) (.tmp 60) 23 23 rfl 5 Try.underlying23 u8One _ _ _ _ _ _ rfl rfl g N (rowAt D G N G.length) 5 HG1.out [] (by show 0 = min _ _; omega) (fun h => absurd h (by simp)) (by rw [HRL.out]; simp) (fun v hv => (nomatch hv)) ?_; intro w5 HGW5 o5; have F5 := HCF w5 o5; simp only [KB, CellsAt, Nat.zero_add, Nat.reduceAdd, and_true] at F5))
          go_wp2
          go_ret2
          exact HFIN.out _ HGW5 o5
        · go_wp2
          go_region_held3 (fun w' => w'.cell? ⟨p, 2, none⟩ = some (.slice A0 D.length c0)) (first | go_simp) (first | (refine step_copy_only rfl (.tmp 54) (.tmp 60) 23 23 rfl 5 Try.underlying23 u8One _ _ _ _ _ _ rfl rfl g t (rowAt D G N G.length) 5 HG1.out cs (HCL.out.trans (by have := HNL.out; show _ = min _ _; omega)) (fun h => ⟨rfl, by obtain ⟨a0, h0⟩ := hsome h; exact ⟨a0.add f, by rw [h0]; rfl, hld a0 h0⟩⟩) (by rw [HRL.out, HCL.out]; have := HNL.out; omega) hc1 ?_; intro w5 HGW5 o5; have F5 := HCF w5 o5; simp only [KB, CellsAt, Nat.zero_add, Nat.reduceAdd, and_true] at F5))
          go_wp2
          go_ret2
          exact HFIN.out _ HGW5 o5

end Go.Proofs.Ytdbhfigdojkceaa
