/- Part 5 of the proof: Wr5, Conv, Met1, SpD, SpE, OuM, OuR, OuP. -/
import Derived.Deep.RegionHeld3
import Derived.Outline
import Derived.Laws.IdiomStrings
import Derived.Laws.BytesArg
import Derived.Lib.Hide
import Derived.Shelf.Abstract
import Derived.Test.YtelhckckcilpaaaCSp3

namespace Go.Proofs.Ytelhckckcilpaaa
open Go Go.RowKit

theorem addr_add_add (a : Addr) (i j : Nat) : (a.add i).add j = a.add (i + j) := by
  unfold Addr.add
  by_cases hi : i = 0
  · subst hi; simp
  · by_cases hj : j = 0
    · subst hj; simp [hi]
    · simp [hi, hj, Nat.add_assoc]

theorem u8One : (Try.prog.info? 5).map (·.size) = some 1 := by kernel_rfl

theorem wdone_full (p R : Nat) (L : List Value) (fp : List Nat) (w : World) (hW : Wr w p R true L fp) :
    Calls Try.prog 48 #[.pointer (some ⟨p, 0, none⟩)] w fun e w' => e = .returned (.tuple #[.slice none 0 0, .int .i64 2]) ∧ Below w.heap.size w w' := by
  obtain ⟨D, G, dv, gv, hb, _⟩ := hW
  have F := hb.kb; simp only [KB, CellsAt, Nat.zero_add, Nat.reduceAdd, and_true] at F
  clear hb
  go_enter Try.func48, Try.ntmps48
  go_wp2
  go_ret2
  exact ⟨rfl, Below.refl _ _⟩

/-- What is answered: the bytes, in new memory. -/
def Gave (w : World) (L : List Value) (e : Ending) (w' : World) : Prop := ∃ A c, e = .returned (.tuple #[.slice A L.length c, .int .i64 0]) ∧ w'.ownsRow w.heap.size 5 1 (.slice A L.length c) L.length L ∧ Below w.heap.size w w'

set_option maxRecDepth 100000 in
set_option maxHeartbeats 4000000 in
theorem wdone_any (p R : Nat) (L : List Value) (fp : List Nat) (w : World) (hW : Wr w p R false L fp) (hR : R ≤ 2147483647) :
    Calls Try.prog 48 #[.pointer (some ⟨p, 0, none⟩)] w fun e w' => Gave w L e w' := by
  have C0 := fun w' (hb : Below w.heap.size w w') => wlen_any p R false L fp w' (hW.only (Only.of_below hb []) (fun _ _ h => (nomatch h))) (by omega)
  obtain ⟨D, G, dv, gv, hb, hD, hG, k1, k2, k3, k4, _⟩ := hW
  have hl := expand_len D G 0 k1
  have hN : L.length ≤ 2147483647 := by omega
  have hN1 : ¬ (2147483647 < (L.length : Int)) := by omega
  have hmk := run_make_row' (P := Try.prog) 22 5 (.int .u8 0) 1 Try.underlying22 u8Info rfl .i64 .i64 L.length (by omega) (by omega)
  have hmk : ∀ w : World, (Instr.makeSlice 22 (.int .i64 (L.length : Int)) (.int .i64 (L.length : Int))).run Try.prog w = .ok (.slice (some ⟨w.heap.size, 0, none⟩) L.length L.length) (w.alloc (.cells (List.replicate L.length zero8).toArray 5)) := fun w => by rw [hmk w, made_zeros]
  have hcnt := k1.count
  have hGn : G.length ≤ 2147483647 := by rw [k3] at hN; omega
  have hDn : D.length ≤ 2147483647 := by rw [k3] at hN; omega
  obtain ⟨A0, c0, rfl, lD, hc0⟩ := own_lists hD
  obtain ⟨Ag, cg, rfl, lG, _⟩ := own_lists hG
  have hcm : c0 ≤ maxLen := by
    rcases hD.2 with ⟨h, _⟩ | ⟨g, cap, cur, h, _, _, _, h7, _⟩
    · injection h with _ _ h; omega
    · injection h with _ _ h; omega
  unfold maxLen at hcm
  have H3 := Lib.hid k3
  have HK1 := Lib.hid k1
  have HLD := Lib.hid lD
  have HLG := Lib.hid lG
  have HK2 := Lib.hid k2
  have hN0 : (0 : Int) ≤ (L.length : Int) := by omega
  clear hl hcnt k3 k1 lD lG k2 hD hG
  have F := hb.kb; simp only [KB, CellsAt, Nat.zero_add, Nat.reduceAdd, and_true] at F
  obtain ⟨N, hNN⟩ : ∃ N, N = L.length := ⟨_, rfl⟩
  rw [← hNN] at C0 hN hN1 hmk hN0
  have HN := Lib.hid hNN
  clear hNN
  go_enter Try.func48, Try.ntmps48
  go_wp2_with (first | (go_at_call 78; ((with_reducible refine (C0 _ (Below.refl _ _)).mono ?_); rintro e w1 ⟨rfl, b1⟩; have F1 := (hb.below b1).kb; simp only [KB, CellsAt, Nat.zero_add, Nat.reduceAdd, and_true] at F1)) | (go_at_call 78; ((with_reducible refine (C0 _ b1).mono ?_); rintro e w2 ⟨rfl, b2⟩; have b2 := b1.trans (b2.mono b1.size); have F2 := (hb.below b2).kb; simp only [KB, CellsAt, Nat.zero_add, Nat.reduceAdd, and_true] at F2)))
  have hg0 : (w2.alloc (.cells (List.replicate N zero8).toArray 5)).heap[w2.heap.size]? = some (.cells (rowAt D G N 0).toArray 5 (0, 0)) := by
    rw [heap_alloc_new]
    rfl
  have HG0 := Lib.hid hg0
  have hgw := b2.size
  have bm : Below w.heap.size w (w2.alloc (.cells (List.replicate N zero8).toArray 5)) := b2.alloc b2.size _
  clear hg0 F F1
  generalize hgg : w2.heap.size = g at *
  clear hgg
  go_loopw [5, 6, 28] (fun fr to ix wr => ∃ k : Nat, k ≤ G.length ∧ ix = .int .i64 k ∧ ∃ f t : Nat, fr = .int .i64 f ∧ to = .int .i64 t ∧ Hid (f = lastA 0 (G.take k) ∧ t = (preE D 0 (G.take k)).length) ∧ Below w.heap.size w wr ∧ Hid (wr.heap[g]? = some (.cells (rowAt D G N k).toArray 5 (0, 0)))) (fun _ _ ix _ => G.length - (intOf ix).toNat)
  case atStart => exact ⟨0, Nat.zero_le _, rfl, 0, 0, rfl, rfl, Lib.hid ⟨rfl, rfl⟩, bm, HG0⟩
  case round =>
    obtain ⟨k, hk, rfl, f, t, rfl, rfl, HFT, hbw, HGW⟩ := hrel
    have F3 := (hb.below hbw).kb; simp only [KB, CellsAt, Nat.zero_add, Nat.reduceAdd, and_true] at F3
    clear F2 HG0
    by_cases hlt : k < G.length
    · obtain ⟨⟨a, z⟩, hgk⟩ : ∃ q, G[k]? = some q := ⟨G[k], List.getElem?_eq_getElem hlt⟩
      obtain ⟨bg, og, hAg, hbg, hcg⟩ := HLG.out.plain (by intro e; have := gapCells_len G; rw [e] at this; simp at this; omega)
      subst hAg
      have hga := gapCells_at G k a z hgk
      have ga := (hbw.cell (p := ⟨bg, og + k * 2, none⟩) hbg).trans (hcg (k * 2) _ hga.1)
      have gz := (hbw.cell (p := ⟨bg, og + (k * 2 + 1), none⟩) hbg).trans (hcg (k * 2 + 1) _ hga.2)
      rw [← Nat.add_assoc] at gz
      clear hga hcg
      obtain ⟨q1, q2, q3⟩ := gap_at G 0 D.length k a z HK1.out hgk
      have hpre := pre_len_le D G (k + 1)
      have hpl : (preE D 0 (G.take (k + 1))).length = t + ((a - f) + z) := by
        rw [take_snoc hgk, preE_snoc, HFT.out.1, HFT.out.2]
        simp only [List.length_append, List.length_replicate, List.length_take, List.length_drop]
        omega
      rw [hpl, ← H3.out, ← HN.out] at hpre
      rw [← HFT.out.1] at q1
      have HRN := Lib.hid (row_next D G N k a z hgk (by rw [hpl]; exact hpre))
      have HPL := Lib.hid hpl
      rw [← HFT.out.1, ← HFT.out.2] at HRN
      have hrl := rowAt_len D G N k (by rw [← HFT.out.2]; omega)
      clear hpl
      have hfa : (f : Int) ≤ (a : Int) := by omega
      have haD : (a : Int) ≤ (D.length : Int) := by omega
      have hDc : (D.length : Int) ≤ (c0 : Int) := by omega
      have htN : (t : Int) ≤ (N : Int) := by omega
      have hntN : ¬ N = t := by omega
      have hf0 : (0 : Int) ≤ (f : Int) := by omega
      have ha0 : (0 : Int) ≤ (a : Int) := by omega
      have hac : (a : Int) ≤ (c0 : Int) := by omega
      have hfc : (f : Int) ≤ (c0 : Int) := by omega
      have ht0 : (0 : Int) ≤ (t : Int) := by omega
      have hgb : g < wr.heap.size := (Array.getElem?_eq_some_iff.1 HGW.out).1
      have hcl : ((D.drop f).take (a - f)).length = a - f := by simp only [List.length_take, List.length_drop]; omega
      have hc1 : ∀ v ∈ (D.drop f).take (a - f), v.oneCell' = true := fun v hv => HK2.out.one v (List.mem_of_mem_drop (List.mem_of_mem_take hv))
      have hcc : ∀ (j : Nat) (v : Value), ((D.drop f).take (a - f))[j]? = some v → D[f + j]? = some v := fun j v hv => by
        have hj : j < a - f := by
          rcases Nat.lt_or_ge j (a - f) with h | h
          · exact h
          · rw [List.getElem?_eq_none (by omega)] at hv; cases hv
        simpa [hj] using hv
      have hcn : ((D.drop f).take (a - f)).length = Nat.min (a - f) (N - t) := by rw [hcl]; show _ = min _ _; omega
      have hfit : t + ((D.drop f).take (a - f)).length ≤ (rowAt D G N k).length := by rw [hcl, hrl]; omega
      have s1 : IntKind.i64.wrap (((a - f : Nat) : Int) + (z : Int)) = ((a - f : Nat) : Int) + (z : Int) := IntWalk.i64_in _ (by omega)
      have s2 : IntKind.i64.wrap ((t : Int) + (((a - f : Nat) : Int) + (z : Int))) = (t : Int) + (((a - f : Nat) : Int) + (z : Int)) := IntWalk.i64_in _ (by omega)
      have hgp : p ≠ g := fun e => by have := hb.lt; omega
      have hbox : Blk (wr.alloc (.cells #[.int .i64 (a : Nat), .int .i64 (z : Nat)] 111)).drew wr.heap.size 111 #[.int .i64 (a : Nat), .int .i64 (z : Nat)] := Blk.new wr _ _
      have bw1 : Below w.heap.size w (wr.alloc (.cells #[.int .i64 (a : Nat), .int .i64 (z : Nat)] 111)).drew := (hbw.alloc hbw.size _).drew
      have hbp := hb.below bw1
      have HG1 : (wr.alloc (.cells #[.int .i64 (a : Nat), .int .i64 (z : Nat)] 111)).drew.heap[g]? = some (.cells (rowAt D G N k).toArray 5 (0, 0)) := (Below.heap_alloc _ _ g hgb).trans HGW.out
      have HG1 := Lib.hid HG1
      have hnext : ∀ w5, Only (wr.alloc (.cells #[.int .i64 (a : Nat), .int .i64 (z : Nat)] 111)).drew w5 [g] → Below w.heap.size w w5 := fun w5 o5 => bw1.trans (o5.to_below bw1.size (fun b hm => by simp at hm; omega))
      have HNL := Lib.hid (p := a = lastA 0 (G.take (k + 1)) ∧ t + ((a - f) + z) = (preE D 0 (G.take (k + 1))).length) ⟨by rw [take_snoc hgk, lastA_snoc], HPL.out.symm⟩
      have hld : ∀ a0, A0 = some a0 → ∀ (j : Nat) (v : Value), ((D.drop f).take (a - f))[j]? = some v → (wr.alloc (.cells #[.int .i64 (a : Nat), .int .i64 (z : Nat)] 111)).drew.cell? ((a0.add f).add j) = some v := fun a0 h0 j v hv => by
        have h1 := HLD.out.cell a0 h0 (f + j) v (hcc j v hv)
        have h2 : D ≠ [] := by intro e; subst e; have := hcc j v hv; simp at this
        rw [addr_add_add]
        exact (bw1.cell (by rw [addr_add_block]; exact HLD.out.lt a0 h0 h2)).trans h1
      have hsome : 0 < ((D.drop f).take (a - f)).length → ∃ a0, A0 = some a0 := fun h => by
        cases hA : A0 with
        | some a0 => exact ⟨a0, rfl⟩
        | none =>
          have := HLD.out.nil hA
          subst this
          simp at h
      clear hcc
      generalize (D.drop f).take (a - f) = cs at *
      have HCF : ∀ (w5 : World), Only (wr.alloc (.cells #[.int .i64 (a : Nat), .int .i64 (z : Nat)] 111)).drew w5 [g] → KB w5 [(p, [.int .i64 (R : Nat), .bool false, .slice A0 D.length c0, .slice (some ⟨bg, og, none⟩) G.length cg, .int .i64 (gapSum G : Nat)])] ∧ KB w5 [(wr.heap.size, [.int .i64 (a : Nat), .int .i64 (z : Nat)])] := fun w5 o5 =>
        ⟨(hbp.only o5 (by simpa using hgp)).kb, (hbox.only o5 (by simp; omega)).kb⟩
      clear hfit hcn
      by_cases hcf : c0 = f
      · have HZ1 := Lib.hid (show cs.length = 0 by omega)
        have hz9 : cs = [] := List.eq_nil_of_length_eq_zero HZ1.out
        obtain rfl : a = f := by omega
        obtain rfl : a = c0 := by omega
        subst hz9
        have s3 : IntKind.i64.wrap (z : Int) = (z : Int) := IntWalk.i64_in _ (by omega)
        have s4 : IntKind.i64.wrap ((t : Int) + (z : Int)) = (t : Int) + (z : Int) := IntWalk.i64_in _ (by omega)
        clear s1 s2 hcl hld hsome hcf
        go_wp2
        go_region_held3 (fun w' => w'.cell? ⟨p, 2, none⟩ = some (.slice A0 D.length a) ∧ w'.cell? ⟨wr.heap.size, 0, none⟩ = some (.int .i64 (a : Nat)) ∧ w'.cell? ⟨wr.heap.size, 1, none⟩ = some (.int .i64 (z : Nat))) (first | (refine ⟨?_, ?_, ?_⟩ <;> go_simp)) (first | (refine step_copy_only rfl (.tmp 35) (.tmp 43) 22 22 rfl 5 Try.underlying22 u8One _ _ _ _ _ _ rfl rfl g t (rowAt D G N k) 5 HG1.out [] (by show 0 = min _ _; omega) (fun h => absurd h (by simp)) (by rw [hrl]; simp; omega) hc1 ?_; intro w5 HGW5 o5; have F5 := HCF w5 o5; simp only [KB, CellsAt, Nat.zero_add, Nat.reduceAdd, and_true] at F5))
        have bw5 := hnext _ o5
        clear HCF
        go_wp2
        go_roundw
        case rel => exact ⟨k + 1, by omega, by go_num, a, t + ((a - a) + z), rfl, by simp, HNL, bw5, by rw [← HRN.out]; exact HGW5⟩
        case measure => simp [intOf]; omega
      · go_wp2
        go_region_held3 (fun w' => w'.cell? ⟨p, 2, none⟩ = some (.slice A0 D.length c0) ∧ w'.cell? ⟨wr.heap.size, 0, none⟩ = some (.int .i64 (a : Nat)) ∧ w'.cell? ⟨wr.heap.size, 1, none⟩ = some (.int .i64 (z : Nat))) (first | (refine ⟨?_, ?_, ?_⟩ <;> go_simp)) (first | (refine step_copy_only rfl (.tmp 35) (.tmp 43) 22 22 rfl 5 Try.underlying22 u8One _ _ _ _ _ _ rfl rfl g t (rowAt D G N k) 5 HG1.out cs (hcl.trans (by show _ = min _ _; omega)) (fun h => ⟨rfl, by obtain ⟨a0, h0⟩ := hsome h; exact ⟨a0.add f, by rw [h0]; rfl, hld a0 h0⟩⟩) (by rw [hrl, hcl]; omega) hc1 ?_; intro w5 HGW5 o5; have F5 := HCF w5 o5; simp only [KB, CellsAt, Nat.zero_add, Nat.reduceAdd, and_true] at F5))
        have bw5 := hnext _ o5
        clear HCF
        go_wp2
        go_roundw
        case rel => exact ⟨k + 1, by omega, by go_num, a, t + ((a - f) + z), rfl, by go_num, HNL, bw5, by rw [← HRN.out]; exact HGW5⟩
        case measure => simp [intOf]; omega
    · obtain rfl : k = G.length := by omega
      have e1 : G.take G.length = G := List.take_length
      have hft := HFT.out
      rw [e1] at hft
      have hlen := expand_pre D G 0
      rw [← H3.out] at hlen
      have hfD := lastA_le G HK1.out
      have hNL := HN.out
      rw [hlen, List.length_append, List.length_drop, ← hft.1, ← hft.2] at hNL
      rw [← hft.1] at hfD
      have hrow := row_last D G
      rw [← H3.out, ← HN.out, ← hft.1, ← hft.2] at hrow
      have HROW := Lib.hid hrow
      have hrl := rowAt_len D G N G.length (by rw [e1, ← hft.2]; omega)
      have hfD0 : (f : Int) ≤ (D.length : Int) := by omega
      have hDc : (D.length : Int) ≤ (c0 : Int) := by omega
      have hfc : (f : Int) ≤ (c0 : Int) := by omega
      have htN : (t : Int) ≤ (N : Int) := by omega
      have hf0 : (0 : Int) ≤ (f : Int) := by omega
      have ht0 : (0 : Int) ≤ (t : Int) := by omega
      have hgb : g < wr.heap.size := (Array.getElem?_eq_some_iff.1 HGW.out).1
      have hgp : p ≠ g := fun e => by have := hb.lt; omega
      have HG1 : wr.drew.heap[g]? = some (.cells (rowAt D G N G.length).toArray 5 (0, 0)) := HGW.out
      have HG1 := Lib.hid HG1
      have hbp := hb.below hbw.drew
      have hc1 : ∀ v ∈ D.drop f, v.oneCell' = true := fun v hv => HK2.out.one v (List.mem_of_mem_drop hv)
      have hcl : (D.drop f).length = D.length - f := List.length_drop
      have hfin : ∀ w5, Hid (w5.heap[g]? = some (.cells (splice (rowAt D G N G.length) t (D.drop f)).toArray 5 (0, 0))) → Only wr.drew w5 [g] → Gave w L (.returned (.tuple #[.slice (some ⟨g, 0, none⟩) N N, .int .i64 0])) w5 := fun w5 H o5 => by
        have h1 := H.out
        rw [HROW.out] at h1
        have h2 := HN.out
        subst h2
        refine ⟨some ⟨g, 0, none⟩, L.length, rfl, ⟨by simp, .inr ⟨g, L.length, L.toArray, rfl, hgw, h1, Nat.le_refl _, by unfold maxLen; omega, by simp, by simp⟩⟩, hbw.drew.trans (o5.to_below hbw.size (fun b hm => by simp at hm; omega))⟩
      have hld : ∀ a0, A0 = some a0 → ∀ (j : Nat) (v : Value), (D.drop f)[j]? = some v → wr.drew.cell? ((a0.add f).add j) = some v := fun a0 h0 j v hv => by
        rw [List.getElem?_drop] at hv
        have h1 := HLD.out.cell a0 h0 (f + j) v hv
        have h2 : D ≠ [] := by intro e; subst e; simp at hv
        rw [addr_add_add]
        exact (hbw.drew.cell (by rw [addr_add_block]; exact HLD.out.lt a0 h0 h2)).trans h1
      have hsome : 0 < (D.drop f).length → ∃ a0, A0 = some a0 := fun h => by
        cases hA : A0 with
        | some a0 => exact ⟨a0, rfl⟩
        | none =>
          have := HLD.out.nil hA
          subst this
          simp at h
      have HFIN := Lib.hid hfin
      have HRL := Lib.hid hrl
      have HNL := Lib.hid hNL
      have HCL := Lib.hid hcl
      clear hfin hrow hlen hft HROW hrl hNL hcl e1
      generalize D.drop f = cs at *
      have HCF : ∀ (w5 : World), Only wr.drew w5 [g] → KB w5 [(p, [.int .i64 (R : Nat), .bool false, .slice A0 D.length c0, .slice Ag G.length cg, .int .i64 (gapSum G : Nat)])] := fun w5 o5 => (hbp.only o5 (by simpa using hgp)).kb
      by_cases hcf : c0 = f
      · have hcs : cs = [] := List.eq_nil_of_length_eq_zero (by have := HCL.out; omega)
        obtain rfl : c0 = f := hcf
        obtain rfl : t = N := by have := HNL.out; omega
        subst hcs
        clear hld hsome
        go_wp2
        go_region_held3 (fun w' => w'.cell? ⟨p, 2, none⟩ = some (.slice A0 D.length c0)) (first | go_simp) (first | (refine step_copy_only rfl (.tmp 54) (.tmp 60) 22 22 rfl 5 Try.underlying22 u8One _ _ _ _ _ _ rfl rfl g t (rowAt D G t G.length) 5 HG1.out [] (by show 0 = min _ _; omega) (fun h => absurd h (by simp)) (by rw [HRL.out]; simp) (fun v hv => (nomatch hv)) ?_; intro w5 HGW5 o5; have F5 := HCF w5 o5; simp only [KB, CellsAt, Nat.zero_add, Nat.reduceAdd, and_true] at F5))
        go_wp2
        go_ret2
        exact HFIN.out _ HGW5 o5
      · by_cases hNt : N = t
        · have hcs : cs = [] := List.eq_nil_of_length_eq_zero (by have := HCL.out; have := HNL.out; omega)
          obtain rfl : N = t := hNt
          subst hcs
          clear hld hsome
          go_wp2
          go_region_held3 (fun w' => w'.cell? ⟨p, 2, none⟩ = some (.slice A0 D.length c0)) (first | go_simp) (first | (refine step_copy_only rfl (.tmp 54) (.tmp 60) 22 22 rfl 5 Try.underlying22 u8One _ _ _ _ _ _ rfl rfl g N (rowAt D G N G.length) 5 HG1.out [] (by show 0 = min _ _; omega) (fun h => absurd h (by simp)) (by rw [HRL.out]; simp) (fun v hv => (nomatch hv)) ?_; intro w5 HGW5 o5; have F5 := HCF w5 o5; simp only [KB, CellsAt, Nat.zero_add, Nat.reduceAdd, and_true] at F5))
          go_wp2
          go_ret2
          exact HFIN.out _ HGW5 o5
        · go_wp2
          go_region_held3 (fun w' => w'.cell? ⟨p, 2, none⟩ = some (.slice A0 D.length c0)) (first | go_simp) (first | (refine step_copy_only rfl (.tmp 54) (.tmp 60) 22 22 rfl 5 Try.underlying22 u8One _ _ _ _ _ _ rfl rfl g t (rowAt D G N G.length) 5 HG1.out cs (HCL.out.trans (by have := HNL.out; show _ = min _ _; omega)) (fun h => ⟨rfl, by obtain ⟨a0, h0⟩ := hsome h; exact ⟨a0.add f, by rw [h0]; rfl, hld a0 h0⟩⟩) (by rw [HRL.out, HCL.out]; have := HNL.out; omega) hc1 ?_; intro w5 HGW5 o5; have F5 := HCF w5 o5; simp only [KB, CellsAt, Nat.zero_add, Nat.reduceAdd, and_true] at F5))
          go_wp2
          go_ret2
          exact HFIN.out _ HGW5 o5

end Go.Proofs.Ytelhckckcilpaaa

namespace Go.Proofs.Ytelhckckcilpaaa
open Go Go.RowKit

/-- A cell of a byte, as a byte. -/
def toU8 : Value → UInt8
  | .int _ n => UInt8.ofNat n.toNat
  | _ => 0
set_option maxRecDepth 100000 in
/-- string(b) -/
theorem conv_lists {w : World} {B n c : Nat} {A : Option Addr} {E : List Value} (hl : Lists w B A E) (hn : E.length = n) (h8 : Bytes8 E) :
    ∀ dst, Try.prog.underlying dst = some .string → (convert 22 dst (.slice A n c)).run Try.prog w = .ok (.string ⟨(E.map toU8).toArray⟩) w := by
  intro dst hd
  cases A with
  | none =>
    rw [hl.nil rfl]
    exact run_convert_bytes_nil w 22 5 Try.underlying22 Try.underlying5 n c dst hd
  | some a =>
    have := run_convert_bytes_back (P := Try.prog) w 22 dst 5 a c (E.map toU8) Try.underlying22 Try.underlying5 hd (fun j hj => by
      rw [List.length_map] at hj
      obtain ⟨x, hx, he⟩ := h8 E[j] (List.getElem_mem hj)
      rw [hl.cell a rfl j E[j] (List.getElem?_eq_getElem hj)]
      simp only [List.getElem_map, he, toU8]
      congr 2
      rw [Int.toNat_natCast, UInt8.toNat_ofNat']
      congr 1
      omega)
    rw [List.length_map, hn] at this
    exact this

end Go.Proofs.Ytelhckckcilpaaa

namespace Go.Proofs.Ytelhckckcilpaaa
open Go Go.RowKit

/-- Is x from a to b? -/
def inB (a b x : Int) : Bool := decide (a ≤ x) && decide (x ≤ b)
theorem inB_yes {a b x : Int} (h1 : a ≤ x) (h2 : x ≤ b) : inB a b x = true := by simp [inB, h1, h2]
theorem inB_true {a b x : Int} (h : inB a b x = true) : a ≤ x ∧ x ≤ b := by simpa [inB] using h
theorem inB_false {a b x : Int} (h : inB a b x = false) : x < a ∨ b < x := by
  by_cases h1 : a ≤ x <;> by_cases h2 : x ≤ b
  · rw [inB_yes h1 h2] at h; cases h
  all_goals omega

/-- What IndexFunc answers of a list in which a predicate holds of one, or of none. -/
def Found {α : Type} (w : World) (L : List α) (p : α → Bool) (e : Ending) (w' : World) : Prop := ∃ r : Int, e = .returned (.int .i64 r) ∧ decide (0 ≤ r) = L.any p ∧ Below w.heap.size w w'
theorem any_snoc {α : Type} {L : List α} {p : α → Bool} {k : Nat} {x : α} (hx : L[k]? = some x) (h : (L.take k).any p = false) (ht : p x = false) : (L.take (k + 1)).any p = false := by
  rw [List.take_add_one, hx]
  simp only [Option.toList_some, List.any_append, h, List.any_cons, ht, List.any_nil, Bool.or_self]
theorem any_yes {α : Type} {L : List α} {p : α → Bool} {k : Nat} {x : α} (hx : L[k]? = some x) (ht : p x = true) : L.any p = true := by
  rw [List.any_eq_true]
  exact ⟨x, List.mem_of_getElem? hx, ht⟩

set_option maxRecDepth 100000 in
theorem findInt_any (g : FuncId) (lb : Array Value) (p : Int → Bool) (B : Nat) (A : Option Addr) (c : Nat) (L : List Int) (w : World) (hB : B ≤ w.heap.size) (hL : Lists w B A (intCells L)) (hn : L.length ≤ 1099511627776)
    (eg : ∀ args w, (callFunc g args).run Try.prog w = .ok (.enter g args) w)
    (hp : ∀ (W : World) (x : Int), x ∈ L → Below w.heap.size w W → Calls Try.prog g (#[.int .i64 x] ++ lb) W fun e w' => e = .returned (.bool (p x)) ∧ Below W.heap.size W w') :
    Calls Try.prog 74 #[.slice A L.length c, .func (.func g) #[] lb] w fun e w' => Found w L p e w' := by
  have HL := Lib.hid hL
  have HP := Lib.hid hp
  clear hL hp
  obtain ⟨n, hnn⟩ : ∃ n, n = L.length := ⟨_, rfl⟩
  rw [← hnn] at hn ⊢
  have HN := Lib.hid hnn
  clear hnn
  go_enter Try.func74, Try.ntmps74
  go_wp2
  go_loopw [8] (fun i wr => ∃ k : Nat, k ≤ n ∧ i = .int .i64 k ∧ Hid ((L.take k).any p = false) ∧ Below w.heap.size w wr) (fun i _ => n - (intOf i).toNat)
  case atStart => exact ⟨0, Nat.zero_le _, rfl, Lib.hid rfl, Below.refl _ _⟩
  case round =>
    obtain ⟨k, hk, rfl, HK, hb⟩ := hrel
    by_cases hlt : k < n
    · have d1 : decide ((k : Int) < (n : Int)) = true := by simp; omega
      obtain ⟨x, hx⟩ : ∃ x, L[k]? = some x := ⟨L[k]'(by rw [← HN.out]; exact hlt), List.getElem?_eq_getElem _⟩
      have hx' : (intCells L)[k]? = some (.int .i64 x) := by unfold intCells; rw [List.getElem?_map, hx]; rfl
      obtain ⟨b, o, hA, hbl, hcl⟩ := HL.out.plain (by intro e; rw [e] at hx'; simp at hx')
      subst hA
      have g0 := (hb.cell (p := ⟨b, o + k, none⟩) (Nat.lt_of_lt_of_le hbl hB)).trans (hcl k _ hx')
      have C := HP.out wr x (List.mem_of_getElem? hx) hb
      have HX := Lib.hid hx
      clear hcl hx hx'
      cases ht : p x
      · rw [ht] at C
        have HT := Lib.hid (any_snoc HX.out HK.out ht)
        clear ht
        go_wp2_with (go_at_fn g; ((with_reducible refine (C).mono ?_); rintro e w1 ⟨rfl, b1⟩))
        go_roundw
        case rel => exact ⟨k + 1, by omega, by go_num, HT, hb.trans (b1.mono hb.size)⟩
        case measure => simp [intOf]; omega
      · rw [ht] at C
        have HT := Lib.hid (any_yes (L := L) (p := p) HX.out ht)
        clear ht
        go_wp2_with (go_at_fn g; ((with_reducible refine (C).mono ?_); rintro e w1 ⟨rfl, b1⟩))
        go_ret
        exact ⟨(k : Int), rfl, by rw [HT.out]; simp, hb.trans (b1.mono hb.size)⟩
    · have d1 : decide ((k : Int) < (n : Int)) = false := by simp; omega
      have HT := Lib.hid (show L.any p = false by have := HK.out; rwa [List.take_of_length_le (by have := HN.out; omega)] at this)
      go_wp2
      go_ret
      exact ⟨-1, rfl, by rw [HT.out]; rfl, hb⟩

theorem hasInt_any (g : FuncId) (lb : Array Value) (p : Int → Bool) (B : Nat) (A : Option Addr) (c : Nat) (L : List Int) (w : World) (hB : B ≤ w.heap.size) (hL : Lists w B A (intCells L)) (hn : L.length ≤ 1099511627776)
    (eg : ∀ args w, (callFunc g args).run Try.prog w = .ok (.enter g args) w)
    (hp : ∀ (W : World) (x : Int), x ∈ L → Below w.heap.size w W → Calls Try.prog g (#[.int .i64 x] ++ lb) W fun e w' => e = .returned (.bool (p x)) ∧ Below W.heap.size W w') :
    Calls Try.prog 86 #[.slice A L.length c, .func (.func g) #[] lb] w fun e w' => e = .returned (.bool (L.any p)) ∧ Below w.heap.size w w' := by
  have C := findInt_any g lb p B A c L w hB hL hn eg hp
  clear hL hp eg
  go_enter Try.func86, Try.ntmps86
  go_wp2_with (first | (go_at_call 74; ((with_reducible refine (C).mono ?_); rintro e w1 ⟨r, rfl, hr, b⟩)))
  go_ret
  refine ⟨?_, b⟩
  rw [← hr]
  rfl

end Go.Proofs.Ytelhckckcilpaaa

namespace Go.Proofs.Ytelhckckcilpaaa
open Go Go.RowKit
set_option linter.unusedVariables false
set_option linter.unusedSimpArgs false
variable {q : Nat → Prop}

def inS (x : Int) : Bool := decide (-32768 ≤ x) && decide (x ≤ 32767)
set_option maxRecDepth 100000 in
theorem fits1_any (x : Int) (w : World) : Calls Try.prog 87 #[.int .i64 x] w fun e w' => e = .returned (.bool (!inS x)) ∧ w' = w := by
  have HR := Lib.hid (show inS x = (decide (-32768 ≤ x) && decide (x ≤ 32767)) from rfl)
  by_cases h1 : x < -32768
  · have d1 : decide (x < -32768) = true := by simpa using h1
    have d2 : decide (-32768 ≤ x) = false := by simp; omega
    go_enter Try.func87, Try.ntmps87
    go_wp2
    go_ret
    exact ⟨by rw [HR.out, d2]; rfl, rfl⟩
  · have d1 : decide (x < -32768) = false := by simp; omega
    have d2 : decide (-32768 ≤ x) = true := by simp; omega
    by_cases h2 : x > 32767
    · have d3 : decide (x > 32767) = true := by simpa using h2
      have d4 : decide (x ≤ 32767) = false := by simp; omega
      go_enter Try.func87, Try.ntmps87
      go_wp2
      go_ret
      exact ⟨by rw [HR.out, d2, d4]; rfl, rfl⟩
    · have d3 : decide (x > 32767) = false := by simpa using h2
      have d4 : decide (x ≤ 32767) = true := by simp; omega
      go_enter Try.func87, Try.ntmps87
      go_wp2
      go_ret
      exact ⟨by rw [HR.out, d2, d4]; rfl, rfl⟩
set_option maxRecDepth 100000 in
theorem spfits_any (A : Option Addr) (c : Nat) (x y : Int) (w : World) (hL : Lists w w.heap.size A (intCells [x, y])) : Calls Try.prog 61 #[.slice A 2 c] w fun e w' => e = .returned (.bool (inS x && inS y)) ∧ Below w.heap.size w w' := by
  have C := hasInt_any 87 #[] (fun z => !inS z) w.heap.size A c [x, y] w (Nat.le_refl _) hL (by simp) (enters_of Try.func87 (by kernel_rfl) rfl) (fun W z _ _ => (fits1_any z W).mono fun e w' h => ⟨h.1, h.2 ▸ Below.refl _ _⟩)
  simp only [List.length_cons, List.length_nil, Nat.zero_add, Nat.reduceAdd, List.any_cons, List.any_nil, Bool.or_false] at C
  have e : (inS x && inS y) = !(!inS x || !inS y) := by cases inS x <;> cases inS y <;> rfl
  rw [e]
  generalize (!inS x || !inS y) = r at *
  clear hL e
  go_enter Try.func61, Try.ntmps61
  go_wp2_with (first | (go_at_call 86; ((with_reducible refine (C).mono ?_); rintro e w1 ⟨rfl, b1⟩)))
  go_ret
  exact ⟨rfl, b1⟩
set_option maxRecDepth 100000 in
theorem kind_any (f : Nat) (hf : f < 256) (w : World) : Calls Try.prog 62 #[.int .i64 (f : Nat)] w fun e w' => e = .returned (.int .i64 (if bt f 0 then 1 else 2)) ∧ w' = w := by
  have e1 : bits .and .i64 (f : Int) 1 = if bt f 0 then 1 else 0 := by
    rw [show (1 : Int) = ((1 : Nat) : Int) from rfl, and_nat _ 1 (by omega) (by omega), and_1]
    cases bt f 0 <;> rfl
  cases hb : bt f 0
  all_goals
    rw [hb] at e1
    simp only [if_true, if_false, Bool.false_eq_true] at e1
    go_enter Try.func62, Try.ntmps62
    go_wp2
    go_ret
    exact ⟨rfl, rfl⟩
/-- n zeros. -/
def zer (n : Nat) : List Int := List.replicate n 0
theorem made_zer (n : Nat) : madeCells #[.int .i64 0] n = ((zer n).map (Value.int .i64) ++ []).toArray := by
  unfold zer madeCells
  apply Array.ext
  · simp
  · intro i h1 h2
    simp [Nat.mod_one]
theorem make_zer (n : Nat) (hn : n ≤ 65536) (w : World) : (Instr.makeSlice 38 (.int .i64 (n : Nat)) (.int .i64 (n : Nat))).run Try.prog w = .ok (.slice (some ⟨w.heap.size, 0, none⟩) n n) (w.alloc (.cells ((zer n).map (Value.int .i64) ++ []).toArray 3)) := by
  obtain ⟨i0, hi, hz0, hz1, hz2⟩ := info_partsS intInfoS
  have h := run_makeSlice (P := Try.prog) (w := w) 38 3 i0 (.int .i64 0) Try.underlying38 hi hz0 .i64 .i64 (n : Nat) (n : Nat) (by omega) (Int.le_refl _) (by rw [hz1, Int.toNat_natCast]; omega) (by rw [hz2]; omega) (by omega)
  rw [Int.toNat_natCast, hz1, Nat.mul_one, show (Value.int .i64 0).cells = #[.int .i64 0] from rfl, made_zer] at h
  exact h
theorem and_2S (f : Nat) (hf : f < 256) : bits .and .i64 (f : Int) 2 = if bt f 1 then 2 else 0 := by
  rw [show (2 : Int) = ((2 : Nat) : Int) from rfl, and_nat _ 2 (by omega) (by omega), show (2 : Nat) = 2 ^ 1 from rfl, and_pow]
  cases bt f 1 <;> rfl
theorem and_4S (f : Nat) (hf : f < 256) : bits .and .i64 (f : Int) 4 = if bt f 2 then 4 else 0 := by
  rw [show (4 : Int) = ((4 : Nat) : Int) from rfl, and_nat _ 4 (by omega) (by omega), show (4 : Nat) = 2 ^ 2 from rfl, and_pow]
  cases bt f 2 <;> rfl
theorem and_16S (f : Nat) (hf : f < 256) : bits .and .i64 (f : Int) 16 = if bt f 4 then 16 else 0 := by
  rw [show (16 : Int) = ((16 : Nat) : Int) from rfl, and_nat _ 16 (by omega) (by omega), show (16 : Nat) = 2 ^ 4 from rfl, and_pow]
  cases bt f 4 <;> rfl
theorem and_32S (f : Nat) (hf : f < 256) : bits .and .i64 (f : Int) 32 = if bt f 5 then 32 else 0 := by
  rw [show (32 : Int) = ((32 : Nat) : Int) from rfl, and_nat _ 32 (by omega) (by omega), show (32 : Nat) = 2 ^ 5 from rfl, and_pow]
  cases bt f 5 <;> rfl
end Go.Proofs.Ytelhckckcilpaaa

namespace Go.Proofs.Ytelhckckcilpaaa
open Go Go.RowKit
set_option linter.unusedVariables false
set_option linter.unusedSimpArgs false
variable {q : Nat → Prop}

theorem carr_len {σ : Type} (f1 f2 : σ → Int → Int × σ) (j1 j2 : Nat) : ∀ (F : List Nat) (X : List Int) (s : σ), F.length = X.length → (carr f1 f2 j1 j2 F X s).1.length = X.length
  | [], [], s, _ => rfl
  | f :: F, x :: X, s, h => by
    simp only [carr, List.length_cons]
    rw [carr_len f1 f2 j1 j2 F X _ (by simpa using h)]
theorem carr_bnd {σ : Type} (f1 f2 : σ → Int → Int × σ) (h1 : ∀ s v, -100000 ≤ v → v ≤ 100000 → -100000 ≤ (f1 s v).1 ∧ (f1 s v).1 ≤ 100000) (h2 : ∀ s v, -100000 ≤ v → v ≤ 100000 → -100000 ≤ (f2 s v).1 ∧ (f2 s v).1 ≤ 100000) (j1 j2 : Nat) : ∀ (F : List Nat) (X : List Int) (s : σ), (∀ x ∈ X, -100000 ≤ x ∧ x ≤ 100000) → ∀ x ∈ (carr f1 f2 j1 j2 F X s).1, -100000 ≤ x ∧ x ≤ 100000
  | [], X, s, h => h
  | _ :: _, [], s, _ => fun x hx => by simp [carr] at hx
  | f :: F, x :: X, s, h => by
    intro y hy
    simp only [carr, List.mem_cons] at hy
    obtain ⟨hx1, hx2⟩ := h x (by simp)
    rcases hy with rfl | hy
    · unfold stepC
      split
      · split
        · exact h1 s x hx1 hx2
        · have := h1 s (-x) (by omega) (by omega)
          dsimp only
          omega
      · split
        · exact ⟨hx1, hx2⟩
        · exact h2 s x hx1 hx2
    · exact carr_bnd f1 f2 h1 h2 j1 j2 F X _ (fun z hz => h z (by simp [hz])) y hy
set_option maxRecDepth 100000 in
theorem csteps_any {σ : Type} (g1 g2 b1 b2 : Nat) (I : σ → World → Prop) (T : Nat → World → World → Prop) (ok : Nat → Prop) (f1 f2 : σ → Int → Int × σ) (A : Option Addr) (c n bx by_ cx cy : Nat) (F : List Nat) (X Y : List Int) (Sx Sy : List Value) (s0 : σ) (w : World)
    (H1 : Carrier g1 b1 I T ok f1) (H2 : Carrier g2 b2 I T ok f2) (HS : Shared I T ok A F)
    (hFn : F.length = n) (hXn : X.length = n) (hYn : Y.length = n) (hn : n ≤ 1000000) (hF : ∀ f ∈ F, f < 256) (hX : ∀ x ∈ X, -100000 ≤ x ∧ x ≤ 100000) (hY : ∀ x ∈ Y, -100000 ≤ x ∧ x ≤ 100000)
    (hx : Blk w bx 3 (X.map (Value.int .i64) ++ Sx).toArray) (hy : Blk w by_ 3 (Y.map (Value.int .i64) ++ Sy).toArray) (hI : I s0 w) (okx : ok bx) (oky : ok by_) (hne : bx ≠ by_) :
    Calls Try.prog 45 #[.slice A n c, .slice (some ⟨bx, 0, none⟩) n cx, .slice (some ⟨by_, 0, none⟩) n cy, .func (.func g1) #[] #[.pointer (some ⟨b1, 0, none⟩)], .func (.func g2) #[] #[.pointer (some ⟨b2, 0, none⟩)]] w fun e w' => e = .returned (.tuple #[]) ∧ Blk w' bx 3 ((carr f1 f2 1 4 F X s0).1.map (Value.int .i64) ++ Sx).toArray ∧ Blk w' by_ 3 ((carr f1 f2 2 5 F Y (carr f1 f2 1 4 F X s0).2).1.map (Value.int .i64) ++ Sy).toArray ∧ I (carr f1 f2 2 5 F Y (carr f1 f2 1 4 F X s0).2).2 w' ∧ ∃ w1, T bx w w1 ∧ T by_ w1 w' := by
  have C1 := carry_any g1 g2 b1 b2 1 4 2 16 I T ok f1 f2 A c n bx cx F X Sx s0 w H1 H2 HS and_2S and_16S (by decide) (by decide) hFn hXn hn hF hX hx hI okx
  have C2 := fun W (hyW : Blk W by_ 3 (Y.map (Value.int .i64) ++ Sy).toArray) (hIW : I (carr f1 f2 1 4 F X s0).2 W) => carry_any g1 g2 b1 b2 2 5 4 32 I T ok f1 f2 A c n by_ cy F Y Sy (carr f1 f2 1 4 F X s0).2 W H1 H2 HS and_4S and_32S (by decide) (by decide) hFn hYn hn hF hY hyW hIW oky
  generalize carr f1 f2 1 4 F X s0 = R1 at *
  have HSS := Lib.hid HS
  have hne2 : by_ ≠ bx := fun h => hne h.symm
  have HY := Lib.hid hy
  clear H1 H2 HS hFn hXn hYn hF hX hY hx hy hI
  generalize (carr f1 f2 2 5 F Y R1.2).1 = R2 at *
  generalize (carr f1 f2 2 5 F Y R1.2).2 = s2 at *
  go_enter Try.func45, Try.ntmps45
  go_wp2_with (first | (go_at_call 76; ((with_reducible refine (C1).mono ?_); rintro e w1 ⟨rfl, k1, i1, o1⟩)) | (go_at_call 76; ((with_reducible refine (C2 _ (HSS.out.keep _ _ _ _ _ o1 hne2 oky HY.out) i1).mono ?_); rintro e w2 ⟨rfl, k2, ib2, o2⟩)))
  go_end0
  exact ⟨rfl, HSS.out.keep _ _ _ _ _ o2 hne okx k1, k2, ib2, w1, o1, o2⟩
end Go.Proofs.Ytelhckckcilpaaa

namespace Go.Proofs.Ytelhckckcilpaaa
open Go Go.RowKit

abbrev Pt := Int × Int × Int
def ptV (p : Pt) : Value := .agg #[.int .i64 p.1, .int .i64 p.2.1, .int .i64 p.2.2]
def ptCells : List Pt → List Value
  | [] => []
  | p :: r => .int .i64 p.1 :: .int .i64 p.2.1 :: .int .i64 p.2.2 :: ptCells r
theorem ptCells_len : ∀ L : List Pt, (ptCells L).length = L.length * 3
  | [] => rfl
  | _ :: r => by simp only [ptCells, List.length_cons, ptCells_len r]; omega
theorem ptCells_append : ∀ L M : List Pt, ptCells (L ++ M) = ptCells L ++ ptCells M
  | [], _ => rfl
  | _ :: r, M => by simp only [List.cons_append, ptCells, ptCells_append r M]
theorem ptCells_at : ∀ (L : List Pt) (k : Nat) (p : Pt), L[k]? = some p → (ptCells L)[k * 3]? = some (.int .i64 p.1) ∧ (ptCells L)[k * 3 + 1]? = some (.int .i64 p.2.1) ∧ (ptCells L)[k * 3 + 2]? = some (.int .i64 p.2.2)
  | [], k, p, h => by simp at h
  | q :: r, 0, p, h => by
    simp at h; subst h
    exact ⟨rfl, rfl, rfl⟩
  | q :: r, k + 1, p, h => by
    have := ptCells_at r k p (by simpa using h)
    rw [show (k + 1) * 3 = k * 3 + 3 by omega]
    simpa only [ptCells, List.getElem?_cons_succ] using this
theorem ptCells_one : ∀ L : List Pt, ∀ u ∈ ptCells L, u.oneCell' = true
  | [], u, h => by simp [ptCells] at h
  | q :: r, u, h => by
    simp only [ptCells, List.mem_cons] at h
    rcases h with rfl | rfl | rfl | h
    · rfl
    · rfl
    · rfl
    · exact ptCells_one r u h
theorem lists_pt {w : World} {B : Nat} {A : Option Addr} {L : List Pt} (h : Lists w B A (ptCells L)) {k : Nat} {p : Pt} (hk : L[k]? = some p) :
    ∃ b o, A = some ⟨b, o, none⟩ ∧ b < B ∧ w.cell? ⟨b, o + k * 3, none⟩ = some (.int .i64 p.1) ∧ w.cell? ⟨b, o + k * 3 + 1, none⟩ = some (.int .i64 p.2.1) ∧ w.cell? ⟨b, o + k * 3 + 2, none⟩ = some (.int .i64 p.2.2) := by
  obtain ⟨h1, h2, h3⟩ := ptCells_at L k p hk
  obtain ⟨b, o, rfl, hb, hc⟩ := h.plain (by intro e; rw [e] at h1; simp at h1)
  exact ⟨b, o, rfl, hb, hc _ _ h1, hc _ _ h2, hc _ _ h3⟩
theorem at_some {α : Type} {L : List α} {k : Nat} (h : k < L.length) : ∃ x, L[k]? = some x := ⟨L[k]'h, List.getElem?_eq_getElem _⟩

/-- The point at a place of the ring. -/
def ringP (L : List Pt) (i : Int) : Pt := L.getD (i % L.length).toNat (0, 0, 0)
theorem ringP_at {L : List Pt} {i : Int} {m : Nat} {p : Pt} (h : i % L.length = m) (hp : L[m]? = some p) : ringP L i = p := by
  unfold ringP; rw [h]; simp [List.getD, hp]
theorem ringP_nat {L : List Pt} {k : Nat} {p : Pt} (hp : L[k]? = some p) : ringP L (k : Int) = p := by
  have hk : k < L.length := (List.getElem?_eq_some_iff.1 hp).1
  exact ringP_at (m := k) (by rw [Int.emod_eq_of_lt (by omega) (by omega)]) hp
theorem ringP_add (L : List Pt) (i : Int) : ringP L (i + L.length) = ringP L i := by unfold ringP; rw [Int.add_emod_right]
theorem ringP_sub (L : List Pt) (i : Int) : ringP L (i - L.length) = ringP L i := by unfold ringP; rw [Int.sub_emod_right]
theorem ring_some {L : List Pt} (h : 0 < L.length) (i : Int) : ∃ m : Nat, i % L.length = m ∧ m < L.length ∧ L[m]? = some (ringP L i) := by
  have h1 := Int.emod_nonneg i (show (L.length : Int) ≠ 0 by omega)
  have h2 := Int.emod_lt_of_pos i (show (0 : Int) < L.length by omega)
  refine ⟨(i % L.length).toNat, by omega, by omega, ?_⟩
  obtain ⟨x, hx⟩ := at_some (L := L) (k := (i % L.length).toNat) (by omega)
  rw [hx]; congr 1
  exact (ringP_at (by omega) hx).symm

end Go.Proofs.Ytelhckckcilpaaa

namespace Go.Proofs.Ytelhckckcilpaaa
open Go Go.RowKit

set_option maxRecDepth 100000 in
theorem ring_any (B : Nat) (A : Option Addr) (c : Nat) (L : List Pt) (a : Int) (w : World) (hB : B ≤ w.heap.size) (h : Lists w B A (ptCells L)) (h0 : 0 < L.length) (hn : L.length ≤ 10000000) (ha : -L.length ≤ a) (ha2 : a ≤ 100000000) :
    Calls Try.prog 100 #[.slice A L.length c, .int .i64 a] w fun e w' => e = .returned (ptV (ringP L a)) ∧ Below w.heap.size w w' := by
  obtain ⟨m, hm, hmn, hp⟩ := ring_some h0 a
  obtain ⟨b, o, rfl, hb, c0, c1, c2⟩ := lists_pt h hp
  have d0 : b < w.heap.size := by omega
  obtain ⟨n, hnn⟩ : ∃ n, n = L.length := ⟨_, rfl⟩
  rw [← hnn] at hm hmn h0 hn ha ⊢
  have e1 : (a + (n : Int)) % (n : Int) = m := by rw [Int.add_emod_right]; exact hm
  generalize ringP L a = p at *
  obtain ⟨x, y, z⟩ := p
  clear h hp hm hnn hB hb
  go_enter Try.func100, Try.ntmps100
  go_wp2
  exact bodyPost_ret (v := ptV (x, y, z)) (by simp [results, Try.results100, go_sem, ptV]) rfl ⟨rfl, (Below.refl _ _).alloc (Nat.le_refl _) _⟩

set_option maxRecDepth 100000 in
theorem rat_any (B : Nat) (A : Option Addr) (c : Nat) (L : List Pt) (a : Int) (w : World) (hB : B ≤ w.heap.size) (h : Lists w B A (ptCells L)) (h0 : 0 < L.length) (hn : L.length ≤ 10000000) (ha : -L.length ≤ a) (ha2 : a ≤ 100000000) :
    Calls Try.prog 102 #[.slice A L.length c, .int .i64 a] w fun e w' => e = .returned (ptV (ringP L a)) ∧ Below w.heap.size w w' := by
  obtain ⟨m, hm, hmn, hp⟩ := ring_some h0 a
  obtain ⟨b, o, rfl, hb, c0, c1, c2⟩ := lists_pt h hp
  have d0 : b < w.heap.size := by omega
  obtain ⟨n, hnn⟩ : ∃ n, n = L.length := ⟨_, rfl⟩
  rw [← hnn] at hm hmn h0 hn ha ⊢
  have e1 : (a + (n : Int)) % (n : Int) = m := by rw [Int.add_emod_right]; exact hm
  generalize ringP L a = p at *
  obtain ⟨x, y, z⟩ := p
  clear h hp hm hnn hB hb
  go_enter Try.func102, Try.ntmps102
  go_wp2
  exact bodyPost_ret (v := ptV (x, y, z)) (by simp [results, Try.results102, go_sem, ptV]) rfl ⟨rfl, (Below.refl _ _).alloc (Nat.le_refl _) _⟩

end Go.Proofs.Ytelhckckcilpaaa

namespace Go.Proofs.Ytelhckckcilpaaa
open Go Go.RowKit

theorem field2 (x y z : Int) (w : World) : (Instr.field 57 (.agg #[.int .i64 x, .int .i64 y, .int .i64 z]) 2).run Try.prog w = .ok (.int .i64 z) w := by kernel_rfl
/-- The kind of the point at a place of the ring. -/
def kd (L : List Pt) (i : Int) : Int := (ringP L i).2.2
def pairK (a b : Int) : Bool := (a == 1 && b == 3) || (a == 3 && b == 1)
def pairB (L : List Pt) (i : Int) : Bool := pairK (kd L (i - 1)) (kd L (i + 1))
def cubK (n : Nat) (a b p q : Int) : Bool := if n < 3 then false else if a == 1 && b == 3 then p == 1 else (a == 3 && b == 1 && q == 1)
def cubB (L : List Pt) (i : Int) : Bool := cubK L.length (kd L (i - 1)) (kd L (i + 1)) (kd L (i + 2)) (kd L (i - 2))

set_option maxRecDepth 100000 in
theorem pair_any (B : Nat) (A : Option Addr) (c : Nat) (L : List Pt) (k : Nat) (w : World) (hB : B ≤ w.heap.size) (h : Lists w B A (ptCells L)) (hk : k < L.length) (hn : L.length ≤ 10000000) (r : Bool) (hr : pairB L k = r) :
    Calls Try.prog 90 #[.slice A L.length c, .int .i64 k] w fun e w' => e = .returned (.bool r) ∧ Below w.heap.size w w' := by
  have C := fun (a : Int) (ha : -L.length ≤ a) (hb : a ≤ 100000000) (w1 : World) (b1 : Below w.heap.size w w1) => ring_any B A c L a w1 (Nat.le_trans hB b1.size) (h.below (b1.mono hB)) (by omega) hn ha hb
  have C1 := C (k - 1) (by omega) (by omega) w (Below.refl _ _)
  have C2 := C (k + 1) (by omega) (by omega)
  unfold pairB kd at hr
  generalize ringP L ((k : Int) - 1) = p at *
  generalize ringP L ((k : Int) + 1) = q at *
  obtain ⟨x, y, z⟩ := p
  obtain ⟨x2, y2, z2⟩ := q
  simp only [ptV] at C1 C2 hr
  clear h C
  obtain ⟨n, hnn⟩ : ∃ n, n = L.length := ⟨_, rfl⟩
  rw [← hnn] at hk hn C1 C2 ⊢
  clear hnn
  unfold pairK at hr
  cases h1 : (z == 1) <;> cases h2 : (z2 == 3) <;> cases h3 : (z == 3) <;> cases h4 : (z2 == 1)
  all_goals
    rw [h1, h2, h3, h4] at hr
    subst hr
    have hfl := field2
    go_enter Try.func90, Try.ntmps90
    go_wp2_with (first | (go_at_call 100; ((with_reducible refine (C1).mono ?_); rintro e w1 ⟨rfl, b1⟩)) | (go_at_call 100; ((with_reducible refine (C2 _ b1).mono ?_); rintro e w2 ⟨rfl, b2⟩)))
    go_ret
    exact ⟨rfl, b1.trans (b2.mono b1.size)⟩

set_option maxRecDepth 100000 in
set_option maxHeartbeats 8000000 in
theorem cub_any (B : Nat) (A : Option Addr) (c : Nat) (L : List Pt) (k : Nat) (w : World) (hB : B ≤ w.heap.size) (h : Lists w B A (ptCells L)) (hk : k < L.length) (hn : L.length ≤ 10000000) (r : Bool) (hr : cubB L k = r) :
    Calls Try.prog 97 #[.slice A L.length c, .int .i64 k] w fun e w' => e = .returned (.bool r) ∧ Below w.heap.size w w' := by
  have C := fun (a : Int) (ha : -L.length ≤ a) (hb : a ≤ 100000000) (w1 : World) (b1 : Below w.heap.size w w1) => rat_any B A c L a w1 (Nat.le_trans hB b1.size) (h.below (b1.mono hB)) (by omega) hn ha hb
  have C1 := C (k - 1) (by omega) (by omega) w (Below.refl _ _)
  have C2 := C (k + 1) (by omega) (by omega)
  have C3 := C (k + 2) (by omega) (by omega)
  have C4 := C (k - 2 + L.length) (by omega) (by omega)
  rw [ringP_add] at C4
  unfold cubB kd at hr
  generalize ringP L ((k : Int) - 1) = p at *
  generalize ringP L ((k : Int) + 1) = q at *
  generalize ringP L ((k : Int) + 2) = p2 at *
  generalize ringP L ((k : Int) - 2) = q2 at *
  obtain ⟨x, y, z⟩ := p
  obtain ⟨x2, y2, z2⟩ := q
  obtain ⟨x3, y3, z3⟩ := p2
  obtain ⟨x4, y4, z4⟩ := q2
  simp only [ptV] at C1 C2 C3 C4 hr
  clear h C
  obtain ⟨n, hnn⟩ : ∃ n, n = L.length := ⟨_, rfl⟩
  rw [← hnn] at hk hn C1 C2 C3 C4 hr ⊢
  clear hnn
  unfold cubK at hr
  by_cases h0 : n < 3
  · rw [if_pos h0] at hr
    subst hr
    have hfl := field2
    go_enter Try.func97, Try.ntmps97
    go_wp2_with (first | (go_at_call 102; ((with_reducible refine (C1).mono ?_); rintro e w1 ⟨rfl, b1⟩)) | (go_at_call 102; ((with_reducible refine (C2 _ b1).mono ?_); rintro e w2 ⟨rfl, b2⟩; have b3 := b1.trans (b2.mono b1.size))))
    go_ret
    exact ⟨rfl, b3⟩
  · rw [if_neg h0] at hr
    cases h1 : (z == 1) <;> cases h2 : (z2 == 3) <;> cases h3 : (z == 3) <;> cases h4 : (z2 == 1) <;> cases h5 : (z3 == 1) <;> cases h6 : (z4 == 1)
    all_goals
      rw [h1, h2, h3, h4, h5, h6] at hr
      subst hr
      have hfl := field2
      go_enter Try.func97, Try.ntmps97
      go_wp2_with (first | (go_at_call 102; ((with_reducible refine (C1).mono ?_); rintro e w1 ⟨rfl, b1⟩)) | (go_at_call 102; ((with_reducible refine (C2 _ b1).mono ?_); rintro e w2 ⟨rfl, b2⟩; have b3 := b1.trans (b2.mono b1.size))) | (go_at_call 102; ((with_reducible refine (C3 _ b3).mono ?_); rintro e w3 ⟨rfl, b4⟩; have b5 := b3.trans (b4.mono b3.size))) | (go_at_call 102; ((with_reducible refine (C4 _ b3).mono ?_); rintro e w3 ⟨rfl, b4⟩; have b5 := b3.trans (b4.mono b3.size))))
      go_ret
      exact ⟨rfl, by assumption⟩

end Go.Proofs.Ytelhckckcilpaaa
