/- Part 10 of the proof: PutG, Law, OpenInts, OpenNums, Conv, Met1, Met2, OpenMets, Law4, Hl, Hlives, Hopen. -/
import Derived.Test.YtbomgaacahaofaaRows
import Derived.ProofKit
import Derived.OpenShut
import Derived.Carry
import Derived.ChangeSlices
import Derived.Deep.Slices
import Derived.Deep.Fields
import Derived.SizedLaws
import Derived.Laws.IdiomStrings
import Derived.Laws.BytesArg
import Derived.Lib.Hide
import Derived.Shelf.Abstract
import Derived.Lib.SmallJoins
import Derived.Deep.WholeRow
import Derived.Test.YtbomgaacahaofaaCP8

namespace Go.Proofs.Ytbomgaacahaofaa
open Go Go.RowKit

set_option maxRecDepth 100000 in
set_option maxHeartbeats 16000000 in
theorem putG_any (a0 : Int) (b1 : Bool) (w : World) :
    Calls Try.prog 34 #[.agg #[.int .i64 a0, .bool b1], .int .i64 32, .func (.func 35) #[] #[]] w (GaveP w (wrRun dsG #[.int .i64 a0, .bool b1])) := by
  have hmark : True := trivial
  have b0 : Below w.heap.size w (w.alloc (.cells #[.int .i64 a0, .bool b1] 40)) := below_al (Below.refl _ _) _
  have hX0 : Blk (w.alloc (.cells #[.int .i64 a0, .bool b1] 40)) w.heap.size 40 #[.int .i64 a0, .bool b1] := Blk.at rfl
  have hz0 : (w.alloc (.cells #[.int .i64 a0, .bool b1] 40)).heap.size = w.heap.size + 1 := by simp
  obtain ⟨wa, hwa⟩ : ∃ wa, wa = w.alloc (.cells #[.int .i64 a0, .bool b1] 40) := ⟨_, rfl⟩
  rw [← hwa] at b0 hX0 hz0
  have C0 : Calls Try.prog 41 #[.int .i64 32] wa (MadeWS w wa 32) := wsTo w wa 32 b0
  have C := C0.mono (R' := fun e w3 => ∃ p, e = .returned (.pointer (some ⟨p, 0, none⟩)) ∧ Calls Try.prog 43 #[.pointer (some ⟨p, 0, none⟩)] w3 fun e w4 => ∃ r, e = .returned (.func (.func 53) #[] #[.pointer (some ⟨r, 0, none⟩)]) ∧ Calls Try.prog 35 #[.pointer (some ⟨w.heap.size, 0, none⟩)] w4 fun e w5 =>
      ∃ row cc : Nat, e = .returned (.slice (some ⟨row, 0, none⟩) dsG.length cc) ∧ Calls Try.prog 42 #[.func (.func 53) #[] #[.pointer (some ⟨r, 0, none⟩)], .slice (some ⟨row, 0, none⟩) dsG.length cc] w5 fun e w6 =>
        ∃ rb rl ra, wrRun dsG #[.int .i64 a0, .bool b1] = (rb, rl, ra) ∧ e = .returned (.bool rb) ∧ Below w.heap.size w w6 ∧
          Calls Try.prog 44 #[.pointer (some ⟨p, 0, none⟩)] w6 (Gave w rl)) ?_
  rotate_left
  · rintro e w3 ⟨p, rfl, hws, b3⟩
    refine ⟨p, rfl, (into_new p w3).mono ?_⟩
    rintro e w4 ⟨rfl, hw4⟩
    have b4 : Below w3.heap.size w3 w4 := by rw [hw4]; exact below_al (Below.refl _ _) _
    have hr4 : Blk w4 w3.heap.size 81 #[.pointer (some ⟨p, 0, none⟩)] := by rw [hw4]; exact Blk.at rfl
    refine ⟨w3.heap.size, rfl, (glyphsFields_any w.heap.size w4).mono ?_⟩
    rintro e w5 ⟨vs, fp, own, row, cc, rfl, hvl, hrow, hF, hlow, hown, hsep, hro, b5⟩
    have hvl2 : vs.length = dsG.length := hvl
    rw [hvl2]
    refine ⟨row, cc, rfl, ?_⟩
    have z3 := b3.size
    have z4 := b4.size
    have z5 := b5.size
    have hX5 := ((hX0.below b3).below b4).below b5
    have Kc := into_carr w w3.heap.size p 32 (by omega)
    have hI : IInto w w3.heap.size p 32 [] w5 := ⟨(hws.below b4).below b5, hr4.below b5⟩
    have hC := carryAll_any Kc [0] [1] (by decide) w.heap.size 40 ⟨by omega, by omega⟩ (by decide) (by decide) vs dsG fp own row cc #[.int .i64 a0, .bool b1] [] w5 hvl2 (by rw [hvl2]; decide) hrow
      (by unfold dsG; simp [fdOk]) hF (fun j hj => by have := (hlow j _ hj).1; omega) (fun j b hb => ⟨by have := (hlow j b (hown j b hb)).1; omega, by have := (hlow j b (hown j b hb)).1; rw [hw4, al_size] at this; omega⟩)
      hsep hro hI hX5 ⟨by intro o ho; simp at ho; first | (rcases ho with rfl <;> exact ⟨_, rfl⟩) | (subst ho; exact ⟨_, rfl⟩), by intro o ho; simp at ho; try (subst ho; exact ⟨_, rfl⟩)⟩ (by decide)
    rw [hvl2] at hC
    refine hC.mono ?_
    rintro e w6 ⟨rfl, ⟨hws6, _⟩, hX6, hk6⟩
    exact ⟨_, _, _, rfl, rfl, hws6.old, wsDone w w6 p 32 _ hws6 (by omega)⟩
  clear C0 b0 hX0 hz0
  subst hwa
  generalize hrr : wrRun dsG #[.int .i64 a0, .bool b1] = rr at *
  clear hrr
  obtain ⟨rb, rl, ra⟩ := rr
  have HC := Lib.hid C
  clear C
  unfold GaveP
  cases rb with
  | false =>
    clear hmark
    go_enter Try.func34, Try.ntmps34
    go_wp2_with (first | (go_at_call 41; ((with_reducible refine (HC.out).mono ?_); rintro e w3 ⟨p, rfl, C4⟩)) | (go_at_call 43; ((with_reducible refine C4.mono ?_); rintro e w4 ⟨r, rfl, C5⟩)) | (go_at_call 35; ((with_reducible refine C5.mono ?_); rintro e w5 ⟨row, cc, rfl, C6⟩)) | (go_at_call 42; ((with_reducible refine C6.mono ?_); rintro e w6 ⟨_, _, _, hq, rfl, b6, C7⟩; cases hq)))
    go_ret2
    exact ⟨fun h => (nomatch h), fun _ => ⟨rfl, b6⟩⟩
  | true =>
    clear hmark
    go_enter Try.func34, Try.ntmps34
    go_wp2_with (first | (go_at_call 41; ((with_reducible refine (HC.out).mono ?_); rintro e w3 ⟨p, rfl, C4⟩)) | (go_at_call 43; ((with_reducible refine C4.mono ?_); rintro e w4 ⟨r, rfl, C5⟩)) | (go_at_call 35; ((with_reducible refine C5.mono ?_); rintro e w5 ⟨row, cc, rfl, C6⟩)) | (go_at_call 42; ((with_reducible refine C6.mono ?_); rintro e w6 ⟨_, _, _, hq, rfl, b6, C7⟩; cases hq)) | (go_at_call 44; ((with_reducible refine C7.mono ?_); rintro e w7 ⟨A7, c7, rfl, ho7, b7⟩)))
    go_ret2
    exact ⟨fun _ => ⟨_, _, rfl, ho7, b7⟩, fun h => (nomatch h)⟩
set_option maxRecDepth 100000 in
set_option maxHeartbeats 4000000 in
theorem hPutGlyphs_any (a0 : Int) (b1 : Bool) (w : World) :
    Calls Try.prog 14 #[.agg #[.int .i64 a0, .bool b1]] w (GaveP w (wrRun dsG #[.int .i64 a0, .bool b1])) := by
  have C := putG_any a0 b1 (w.alloc (.cells #[.int .i64 a0, .bool b1] 40))
  have h0 : Blk (w.alloc (.cells #[.int .i64 a0, .bool b1] 40)) w.heap.size 40 #[.int .i64 a0, .bool b1] := Blk.at rfl
  have b0 : Below w.heap.size w (w.alloc (.cells #[.int .i64 a0, .bool b1] 40)) := below_al (Below.refl _ _) _
  have HB := Lib.hid b0
  have f0 : (w.alloc (.cells #[.int .i64 a0, .bool b1] 40)).cell? ⟨w.heap.size, 0, none⟩ = some (.int .i64 a0) := h0.cell 0; have f1 : (w.alloc (.cells #[.int .i64 a0, .bool b1] 40)).cell? ⟨w.heap.size, 1, none⟩ = some (.bool b1) := h0.cell 1
  generalize wrRun dsG #[.int .i64 a0, .bool b1] = rr at *
  obtain ⟨rb, rl, ra⟩ := rr
  unfold GaveP at C ⊢
  cases rb with
  | false =>
    go_enter Try.func14, Try.ntmps14
    go_wp2_with (first | (go_at_call 34; ((with_reducible refine C.mono ?_); rintro e w1 ⟨_, h2⟩; obtain ⟨rfl, b1⟩ := h2 rfl)))
    go_ret2
    exact ⟨fun h => (nomatch h), fun _ => ⟨rfl, HB.out.trans (b1.mono HB.out.size)⟩⟩
  | true =>
    go_enter Try.func14, Try.ntmps14
    go_wp2_with (first | (go_at_call 34; ((with_reducible refine C.mono ?_); rintro e w1 ⟨h2, _⟩; obtain ⟨A7, c7, rfl, ho7, b1⟩ := h2 rfl)))
    go_ret2
    exact ⟨fun _ => ⟨_, _, rfl, own_base ho7 HB.out.size, HB.out.trans (b1.mono HB.out.size)⟩, fun h => (nomatch h)⟩

end Go.Proofs.Ytbomgaacahaofaa

namespace Go.Proofs.Ytbomgaacahaofaa
open Go.ChangeShapes Go.WideShapes Go.ChangeAt Go.RowKit

section
variable {H : Type} {enc : TypeId × Value → H} {P : Program}

theorem args_stay (hl : laidOutB P = true) {W W' : World} (hb : Below W.heap.size W W') :
    ∀ {ts : List TypeId} {vs : List Value} {ds : List (DataW H)} {ps : List MemPlace}, (ts.all fun t => P.readableRec t && decide (t < P.types.size)) = true →
      DataW.TrodAll enc P W 0 (fun _ => true) true ts vs ds ps → (∀ x ∈ ps, x.block < W.heap.size) → DataW.TrodAll enc P W' 0 (fun b => decide (b < W.heap.size)) true ts vs ds ps
  | [], vs, ds, ps, _, h, _ => by
    obtain ⟨rfl, rfl, rfl⟩ := trodAll_nil h
    exact h
  | t :: ts, vs, ds, ps, hr, h, hp => by
    obtain ⟨v, vs', d, ds', p, q, rfl, rfl, rfl, h1, h2⟩ := trodAll_cons h
    rw [List.all_cons, Bool.and_eq_true, Bool.and_eq_true, decide_eq_true_eq] at hr
    exact trodAll_cons_mk (Below.trod hl hr.1.1 hr.1.2 h1 hb fun x hx => hp x (List.mem_append_left _ hx)) (args_stay hl hb hr.2 h2 fun x hx => hp x (List.mem_append_right _ hx))

theorem law_post {f : Func} {s : ChangeSpec} {T : TypeId} {W W' : World} {args : Array Value} {ds : List (DataW H)} {before : List MemPlace} (hl : laidOutB P = true)
    (hr : f.resultTypes = #[T]) (hT : P.underlying T = some .bool) (hrd : (f.params.toList.all fun t => P.readableRec t && decide (t < P.types.size)) = true) (hv : s.vars = [])
    (h1 : (s.fn H ds).results = [.lit (.bool true)]) (h2 : (s.fn H ds).args = ds) (h3 : (s.fn H ds).vars = [])
    (hW : DataW.Whole enc P f.params.toList s.vars false W args.toList ds [] before) (hb : Below W.heap.size W W') :
    s.post enc P f false true false false W args (.bool true) W' := by
  have hlt : ∀ p ∈ before, p.block < W.heap.size := fun p hp => hW.lt p hp
  obtain ⟨p, q, hA, hV, rfl, _, _⟩ := id hW
  rw [hv] at hV
  have hq : q = [] := by simpa [DataW.TrodVars] using hV
  subst hq
  rw [List.append_nil] at hlt
  refine ⟨ds, [], _, [], p, [], hW, ?_, ?_, ?_, ?_, fun h => nomatch h⟩
  · rw [hr, List.append_nil, h1]; exact trodAll_mk1 (shut_bool hT true)
  · rw [List.append_nil, h2]; exact args_stay hl hb hrd hA hlt
  · rw [List.append_nil, h3, hv]; rfl
  · exact World.keptBut_mono (fun x hx => ⟨by simpa using hx, .inr (.inl hx)⟩) (hb.frame (· ∈ p))
end

theorem Try.own : ownKnob Try.prog.godebug = none := by kernel_rfl
theorem Try.laidOut : laidOutB Try.prog = true := by kernel_rfl

end Go.Proofs.Ytbomgaacahaofaa

namespace Go.Proofs.Ytbomgaacahaofaa
open Go.ChangeShapes Go.WideShapes Go.ChangeAt Go.RowKit

section
variable {H : Type} {enc : TypeId × Value → H} {P : Program}
theorem open_list_int {w : World} {t e : TypeId} {base : Nat} {spare : Nat → Bool} {held : Bool} {r : Reach} {b0 : Nat} {v : Value} {d : DataW H} {p : List MemPlace}
    (hs : P.underlying t = some (.slice e)) (he : P.underlying e = some (.int .i64)) (hC : P.cellsOf e = 1)
    (hv : Value.okWide P w r b0 t v) (h : DataW.Trod enc P w base spare held t v d p) :
    ∃ (A : Option Addr) (n c : Nat) (zs : List Int), v = .slice A n c ∧ zs.length = n ∧ n ≤ c ∧ c ≤ maxLen ∧ Lists w w.heap.size A (intCells zs) ∧ ∀ z ∈ zs, (Lit.int .i64 z).wf = true := by
  obtain ⟨a0, len, cap, rfl⟩ := okWide_slice hs hv
  obtain ⟨fuel, hf⟩ := h
  rcases open_ints hs he hC hf with ⟨hcs, _⟩ | ⟨a, len', cap', zs, hcs, _, hl, hm, hz, _, hcell, hwf⟩
  · simp [Value.cells] at hcs
    obtain ⟨rfl, rfl, rfl⟩ := hcs
    exact ⟨none, 0, 0, [], rfl, rfl, Nat.le_refl _, Nat.zero_le _, Lists.empty _ _ _, fun z hz => by cases hz⟩
  · simp [Value.cells] at hcs
    obtain ⟨rfl, rfl, rfl⟩ := hcs
    have hlen : len ≤ zs.length := by split at hz <;> omega
    have hc : ∀ j u, (intCells (zs.take len))[j]? = some u → w.cell? (a.add j) = some u := fun j u hu => by
      have hj : j < (zs.take len).length := by
        rcases Nat.lt_or_ge j (zs.take len).length with h | h
        · exact h
        · rw [List.getElem?_eq_none (by rw [intCells_len]; exact h)] at hu; cases hu
      rw [intCells_get _ _ hj] at hu
      have hj2 : j < len := by simp at hj; omega
      have hh := hcell j (by omega)
      cases hu
      rw [hh]
      simp [List.getD, hj2]
    refine ⟨some a, len, cap, zs.take len, rfl, by simp; omega, hl, hm, ⟨fun ha => (nomatch ha), fun a' ha => ?_, fun a' ha hx => ?_⟩, fun z hz' => hwf z (List.mem_of_mem_take hz')⟩
    · cases ha; exact hc
    · cases ha
      have h0 : 0 < (intCells (zs.take len)).length := by
        rcases Nat.eq_zero_or_pos (intCells (zs.take len)).length with h | h
        · exact absurd (List.eq_nil_of_length_eq_zero h) hx
        · exact h
      have := hc 0 _ (List.getElem?_eq_getElem h0)
      rcases Nat.lt_or_ge a.block w.heap.size with h | h
      · exact h
      · have e0 : (a.add 0) = a := by simp [Addr.add]
        rw [e0] at this
        unfold World.cell? at this
        rw [Array.getElem?_eq_none h] at this
        cases this
end

end Go.Proofs.Ytbomgaacahaofaa

namespace Go.Proofs.Ytbomgaacahaofaa
open Go.ChangeShapes Go.WideShapes Go.ChangeAt Go.RowKit

section
variable {H : Type} {enc : TypeId × Value → H} {P : Program}
theorem weights_all {e : TypeId} {d : DataW H} {n : Nat} (hn : n ∈ d.weights P e) : ∀ {l : List (DataW H)}, d ∈ l → n ∈ DataW.weightsAll P e l
  | [], h => (nomatch h)
  | a :: r, h => by
    rw [DataW.weightsAll]
    rcases List.mem_cons.1 h with h | h
    · subst h; exact List.mem_append_left _ hn
    · exact List.mem_append_right _ (weights_all hn h)

theorem cell_lt {w : World} {a : Addr} {v : Value} (h : w.cell? a = some v) : a.block < w.heap.size := by
  rcases Nat.lt_or_ge a.block w.heap.size with h1 | h1
  · exact h1
  · unfold World.cell? at h
    rw [Array.getElem?_eq_none h1] at h
    cases h

/-- A slice of numbers, at the value that a cell holds. -/
theorem open_nums {w : World} {t e : TypeId} {k : IntKind} {base fuel : Nat} {spare : Nat → Bool} {held : Bool} {v : Value} {x : DataW H × List MemPlace}
    (hs : P.underlying t = some (.slice e)) (he : P.underlying e = some (.int k)) (hC : P.cellsOf e = 1) (h : DataW.trod enc P w base spare held fuel t [v] = some x) :
    ∃ (A : Option Addr) (n c : Nat) (zs : List Int), v = .slice A n c ∧ zs.length = n ∧ n ≤ c ∧ c ≤ maxLen ∧ Lists w w.heap.size A (zs.map (Value.int k)) ∧ (∀ z ∈ zs, (Lit.int k z).wf = true) ∧
      ∀ b, (∀ m ∈ x.1.weights P t, m ≤ b) → n * P.bytesOf e ≤ b := by
  rcases open_ints hs he hC h with ⟨hcs, hx⟩ | ⟨a, len, cap, zs, hcs, _, hl, hm, hz, hx, hcell, hwf⟩
  · simp only [List.cons.injEq, and_true] at hcs
    exact ⟨none, 0, 0, [], hcs, rfl, Nat.le_refl _, Nat.zero_le _, Lists.empty _ _ _, (fun z hz => (nomatch hz)), fun b _ => by omega⟩
  · simp only [List.cons.injEq, and_true] at hcs
    have hlen : len ≤ zs.length := by split at hz <;> omega
    have hc : ∀ j u, ((zs.take len).map (Value.int k))[j]? = some u → w.cell? (a.add j) = some u := fun j u hu => by
      rw [List.getElem?_map, Option.map_eq_some_iff] at hu
      obtain ⟨z, hz1, rfl⟩ := hu
      have hj : j < (zs.take len).length := (List.getElem?_eq_some_iff.1 hz1).1
      have hj2 : j < zs.length := by simp at hj; omega
      rw [hcell j hj2]
      simp only [List.getElem?_take, List.length_take] at hz1 hj
      rw [if_pos (by omega)] at hz1
      simp [List.getD, hz1]
    refine ⟨some a, len, cap, zs.take len, hcs, by simp; omega, hl, hm, ⟨fun ha => (nomatch ha), fun a' ha => ?_, fun a' ha hne => ?_⟩, fun z hz' => hwf z (List.mem_of_mem_take hz'), fun b hb => ?_⟩
    · cases ha; exact hc
    · cases ha
      have h0 : 0 < ((zs.take len).map (Value.int k)).length := by
        rcases Nat.eq_zero_or_pos ((zs.take len).map (Value.int k)).length with h | h
        · exact absurd (List.eq_nil_of_length_eq_zero h) hne
        · exact h
      have := cell_lt (hc 0 _ (List.getElem?_eq_getElem h0))
      rwa [addr_add_block] at this
    · subst hx
      have := hb (((lits k (zs.take len) : List (DataW H)).length + (lits k (zs.drop len) : List (DataW H)).length) * P.bytesOf e) (by simp [DataW.weights, hs])
      refine Nat.le_trans (Nat.mul_le_mul_right _ ?_) this
      simp [lits]
      omega

theorem bytes_of_wf {zs : List Int} (h : ∀ z ∈ zs, (Lit.int .u8 z).wf = true) : Bytes8 (zs.map (Value.int .u8)) := fun u hu => by
  obtain ⟨z, hz, rfl⟩ := List.mem_map.1 hu
  have := h z hz
  simp [Lit.wf, IntKind.min, IntKind.max, IntKind.signed, IntKind.bits] at this
  exact ⟨z.toNat, by omega, by congr 1; omega⟩

theorem one_of {w : World} {base fuel : Nat} {spare : Nat → Bool} {held : Bool} {fs : Array Field} {cs : List Value} {ys : List (DataW H × List MemPlace)} (hone : Deep.oneCellFields P fs = true)
    (hg : ∀ (i : Nat) (f : Field), fs[i]? = some f → DataW.trod enc P w base spare held fuel f.type ((cs.drop f.offset).take (P.cellsOf f.type)) = ys[i]?) {j : Nat} {f : Field} {c : Value} {y : DataW H × List MemPlace}
    (hf : fs[j]? = some f) (hc : cs[j]? = some c) (hy : ys[j]? = some y) : DataW.trod enc P w base spare held fuel f.type [c] = some y := by
  have h := hg j f hf
  obtain ⟨h1, h2⟩ := Deep.hone_of hone j f hf
  obtain ⟨hj, hcj⟩ := List.getElem?_eq_some_iff.1 hc
  rw [h1, h2, hy, List.drop_eq_getElem_cons hj, hcj] at h
  exact h
end

end Go.Proofs.Ytbomgaacahaofaa

namespace Go.Proofs.Ytbomgaacahaofaa
open Go Go.RowKit

/-- A cell of a byte, as a byte. -/
def toU8 : Value → UInt8
  | .int _ n => UInt8.ofNat n.toNat
  | _ => 0
set_option maxRecDepth 100000 in
/-- string(b) -/
theorem conv_lists {w : World} {B n c : Nat} {A : Option Addr} {E : List Value} (hl : Lists w B A E) (hn : E.length = n) (h8 : Bytes8 E) :
    ∀ dst, Try.prog.underlying dst = some .string → (convert 26 dst (.slice A n c)).run Try.prog w = .ok (.string ⟨(E.map toU8).toArray⟩) w := by
  intro dst hd
  cases A with
  | none =>
    rw [hl.nil rfl]
    exact run_convert_bytes_nil w 26 5 Try.underlying26 Try.underlying5 n c dst hd
  | some a =>
    have := run_convert_bytes_back (P := Try.prog) w 26 dst 5 a c (E.map toU8) Try.underlying26 Try.underlying5 hd (fun j hj => by
      rw [List.length_map] at hj
      obtain ⟨x, hx, he⟩ := h8 E[j] (List.getElem_mem hj)
      rw [hl.cell a rfl j E[j] (List.getElem?_eq_getElem hj)]
      simp only [List.getElem_map, he, toU8]
      congr 2
      rw [Int.toNat_natCast, UInt8.toNat_ofNat']
      congr 1
      omega)
    rw [List.length_map, hn] at this
    exact this

end Go.Proofs.Ytbomgaacahaofaa

namespace Go.Proofs.Ytbomgaacahaofaa
open Go Go.RowKit

/-- Is x from a to b? -/
def inB (a b x : Int) : Bool := decide (a ≤ x) && decide (x ≤ b)
theorem inB_yes {a b x : Int} (h1 : a ≤ x) (h2 : x ≤ b) : inB a b x = true := by simp [inB, h1, h2]
theorem inB_true {a b x : Int} (h : inB a b x = true) : a ≤ x ∧ x ≤ b := by simpa [inB] using h
theorem inB_false {a b x : Int} (h : inB a b x = false) : x < a ∨ b < x := by
  by_cases h1 : a ≤ x <;> by_cases h2 : x ≤ b
  · rw [inB_yes h1 h2] at h; cases h
  all_goals omega

/-- What IndexFunc answers of a list in which a predicate holds of one, or of none. -/
def Found {α : Type} (w : World) (L : List α) (p : α → Bool) (e : Ending) (w' : World) : Prop := ∃ r : Int, e = .returned (.int .i64 r) ∧ decide (0 ≤ r) = L.any p ∧ Below w.heap.size w w'
theorem any_snoc {α : Type} {L : List α} {p : α → Bool} {k : Nat} {x : α} (hx : L[k]? = some x) (h : (L.take k).any p = false) (ht : p x = false) : (L.take (k + 1)).any p = false := by
  rw [List.take_add_one, hx]
  simp only [Option.toList_some, List.any_append, h, List.any_cons, ht, List.any_nil, Bool.or_self]
theorem any_yes {α : Type} {L : List α} {p : α → Bool} {k : Nat} {x : α} (hx : L[k]? = some x) (ht : p x = true) : L.any p = true := by
  rw [List.any_eq_true]
  exact ⟨x, List.mem_of_getElem? hx, ht⟩

end Go.Proofs.Ytbomgaacahaofaa

namespace Go.Proofs.Ytbomgaacahaofaa
open Go Go.RowKit

/-- May n glyphs be, m of which have an advance of their own? -/
def cmB (n m : Int) : Bool := inB 1 65535 n && inB 1 n m
theorem cmB_true {n m : Int} (h : cmB n m = true) : 1 ≤ n ∧ n ≤ 65535 ∧ 1 ≤ m ∧ m ≤ n := by
  unfold cmB at h
  rw [Bool.and_eq_true] at h
  have := inB_true h.1
  have := inB_true h.2
  omega
theorem cmB_yes {n m : Int} (h1 : 1 ≤ n) (h2 : n ≤ 65535) (h3 : 1 ≤ m) (h4 : m ≤ n) : cmB n m = true := by
  unfold cmB; rw [inB_yes h1 h2, inB_yes h3 h4]; rfl

/-- Metrics as cells. -/
def metCells : List (Int × Int) → List Value
  | [] => []
  | (a, b) :: r => .int .i64 a :: .int .i64 b :: metCells r
theorem metCells_len : ∀ L : List (Int × Int), (metCells L).length = L.length * 2
  | [] => rfl
  | _ :: r => by simp only [metCells, List.length_cons, metCells_len r]; omega
theorem metCells_snoc (a b : Int) : ∀ L, metCells (L ++ [(a, b)]) = metCells L ++ [.int .i64 a, .int .i64 b]
  | [] => rfl
  | (_, _) :: r => by simp only [List.cons_append, metCells, metCells_snoc a b r]
theorem metCells_at : ∀ (L : List (Int × Int)) (k : Nat) (a b : Int), L[k]? = some (a, b) → (metCells L)[k * 2]? = some (.int .i64 a) ∧ (metCells L)[k * 2 + 1]? = some (.int .i64 b)
  | [], k, a, b, h => by simp at h
  | (x, y) :: r, 0, a, b, h => by
    simp only [List.getElem?_cons_zero, Option.some.injEq, Prod.mk.injEq] at h
    obtain ⟨rfl, rfl⟩ := h
    exact ⟨rfl, rfl⟩
  | (x, y) :: r, k + 1, a, b, h => by
    have := metCells_at r k a b (by simpa using h)
    rw [show (k + 1) * 2 = k * 2 + 1 + 1 by omega]
    exact this
theorem metCells_one : ∀ L : List (Int × Int), ∀ u ∈ metCells L, u.oneCell' = true
  | [], u, h => (nomatch h)
  | (x, y) :: r, u, h => by
    simp only [metCells, List.mem_cons] at h
    rcases h with rfl | rfl | h
    · rfl
    · rfl
    · exact metCells_one r u h

end Go.Proofs.Ytbomgaacahaofaa

namespace Go.Proofs.Ytbomgaacahaofaa
open Go.ChangeShapes Go.WideShapes Go.ChangeAt Go.RowKit

theorem choose_list {α : Type} {p : Nat → α → Prop} : ∀ {n : Nat}, (∀ i, i < n → ∃ x, p i x) → ∃ L : List α, L.length = n ∧ ∀ i x, L[i]? = some x → p i x
  | 0, _ => ⟨[], rfl, fun i x h => by simp at h⟩
  | n + 1, h => by
    obtain ⟨L, h1, h2⟩ := choose_list (n := n) fun i hi => h i (by omega)
    obtain ⟨x, hx⟩ := h n (by omega)
    refine ⟨L ++ [x], by simp [h1], fun i y hy => ?_⟩
    rcases Nat.lt_or_ge i n with hi | hi
    · rw [List.getElem?_append_left (by omega)] at hy
      exact h2 i y hy
    · rw [List.getElem?_append_right (by omega)] at hy
      have h3 : i - L.length = 0 := by
        rcases Nat.eq_zero_or_pos (i - L.length) with h | h
        · exact h
        · rw [List.getElem?_eq_none (by simp; omega)] at hy; cases hy
      rw [h3] at hy
      cases hy
      rw [show i = n by omega]
      exact hx

section
variable {H : Type} {enc : TypeId × Value → H} {P : Program}
theorem open_bytes {w : World} {t e : TypeId} {base : Nat} {spare : Nat → Bool} {held : Bool} {r : Reach} {b0 : Nat} {v : Value} {d : DataW H} {p : List MemPlace}
    (hs : P.underlying t = some (.slice e)) (he : P.underlying e = some (.int .u8)) (hC : P.cellsOf e = 1) (hb : P.bytesOf e = 1)
    (hv : Value.okWide P w r b0 t v) (h : DataW.Trod enc P w base spare held t v d p) (hz : ∀ m ∈ d.weights P t, m ≤ reachBytes) :
    ∃ (A : Option Addr) (c : Nat) (E : List Value), v = .slice A E.length c ∧ E.length ≤ c ∧ c ≤ 9223372036854775807 ∧ Lists w w.heap.size A E ∧ Bytes8 E ∧ E.length ≤ 140737488355328 := by
  obtain ⟨a0, len, cap, rfl⟩ := okWide_slice hs hv
  obtain ⟨fuel, hf⟩ := h
  rw [show (Value.slice a0 len cap).cells = #[.slice a0 len cap] from rfl] at hf
  obtain ⟨A, n, c, zs, hv1, hlen, hnc, hcm, hL, hwf, hw⟩ := open_nums hs he hC hf
  have h1 := hw reachBytes hz
  rw [hb] at h1
  have hr := reachBytes_lt
  unfold maxLen at hcm
  refine ⟨A, c, zs.map (Value.int .u8), by rw [List.length_map, hlen]; exact hv1, by rw [List.length_map]; omega, hcm, hL, bytes_of_wf hwf, by rw [List.length_map]; omega⟩

theorem open_mets {w : World} {t e : TypeId} {f0 f1 : Field} {base : Nat} {spare : Nat → Bool} {held : Bool} {r : Reach} {b0 : Nat} {v : Value} {d : DataW H} {p : List MemPlace}
    (ht : P.underlying t = some (.slice e)) (he : P.underlying e = some (.struct #[f0, f1])) (hone : Deep.oneCellFields P #[f0, f1] = true) (hC : P.cellsOf e = 2)
    (i0 : P.underlying f0.type = some (.int .i64)) (i1 : P.underlying f1.type = some (.int .i64))
    (hv : Value.okWide P w r b0 t v) (h : DataW.Trod enc P w base spare held t v d p) :
    ∃ (A : Option Addr) (c : Nat) (L : List (Int × Int)), v = .slice A L.length c ∧ L.length ≤ c ∧ c ≤ 9223372036854775807 ∧ Lists w w.heap.size A (metCells L) := by
  obtain ⟨a0, len, cap, rfl⟩ := okWide_slice ht hv
  obtain ⟨fuel, hf⟩ := h
  rcases Deep.open_slice ht hf with ⟨hcs, _⟩ | ⟨a, len', cap', m, n, D, Pl, hcs, hb, hl, hm, hmm, hx, hi⟩
  · simp [Value.cells] at hcs
    obtain ⟨rfl, rfl, rfl⟩ := hcs
    exact ⟨none, 0, [], rfl, Nat.le_refl _, Nat.zero_le _, Lists.empty _ _ _⟩
  · simp [Value.cells] at hcs
    obtain ⟨rfl, rfl, rfl⟩ := hcs
    unfold maxLen at hm
    have hlm : len ≤ m := by split at hmm <;> omega
    obtain ⟨L, hLl, hL⟩ := choose_list (n := len) (p := fun i (q : Int × Int) => w.cell? (a.add (i * 2)) = some (.int .i64 q.1) ∧ w.cell? (a.add (i * 2 + 1)) = some (.int .i64 q.2)) fun i hil => by
      obtain ⟨cs', hc, ht'⟩ := hi i (by omega)
      rw [hC] at hc
      obtain ⟨ys, n', _, hy, _, hyl, hg⟩ := DataW.trod_struct he ht'
      obtain ⟨_, hcl, hat⟩ := World.cells?_some hc
      match cs', hcl with
      | [c0, c1], _ =>
        match ys, hyl with
        | [y0, y1], _ =>
          have k0 := one_of hone hg (j := 0) rfl rfl rfl
          have k1 := one_of hone hg (j := 1) rfl rfl rfl
          obtain ⟨z0, e0, _, _⟩ := DataW.trod_int i0 k0
          obtain ⟨z1, e1, _, _⟩ := DataW.trod_int i1 k1
          simp only [List.cons.injEq, and_true] at e0 e1
          subst e0 e1
          have a0 : w.cell? (a.add (i * 2)) = some (.int .i64 z0) := by have := hat 0 (by omega); rw [Go.Deep.add_add] at this; exact this
          have a1 : w.cell? (a.add (i * 2 + 1)) = some (.int .i64 z1) := by have := hat 1 (by omega); rw [Go.Deep.add_add] at this; exact this
          exact ⟨(z0, z1), a0, a1⟩
    have hcell : ∀ j u, (metCells L)[j]? = some u → w.cell? (a.add j) = some u := fun j u hu => by
      have hj : j < L.length * 2 := by
        rcases Nat.lt_or_ge j (L.length * 2) with h | h
        · exact h
        · rw [List.getElem?_eq_none (by rw [metCells_len]; exact h)] at hu; cases hu
      obtain ⟨q, hq⟩ : ∃ q, L[j / 2]? = some q := ⟨L[j / 2]'(by omega), List.getElem?_eq_getElem _⟩
      obtain ⟨h1, h2⟩ := metCells_at L (j / 2) q.1 q.2 hq
      obtain ⟨h3, h4⟩ := hL _ _ hq
      rcases Nat.mod_two_eq_zero_or_one j with h | h
      · rw [show j / 2 * 2 = j by omega] at h1 h3
        rw [h1] at hu; cases hu; exact h3
      · rw [show j / 2 * 2 + 1 = j by omega] at h2 h4
        rw [h2] at hu; cases hu; exact h4
    refine ⟨some a, cap, L, by rw [hLl], by omega, hm, ⟨fun ha => (nomatch ha), fun a' ha => ?_, fun a' ha hne => ?_⟩⟩
    · cases ha; exact hcell
    · cases ha
      have h0 : 0 < (metCells L).length := by
        rcases Nat.eq_zero_or_pos (metCells L).length with h | h
        · exact absurd (List.eq_nil_of_length_eq_zero h) hne
        · exact h
      have := cell_lt (hcell 0 _ (List.getElem?_eq_getElem h0))
      rwa [addr_add_block] at this
end

end Go.Proofs.Ytbomgaacahaofaa

namespace Go.Proofs.Ytbomgaacahaofaa
open Go.ChangeShapes Go.WideShapes Go.ChangeAt Go.RowKit Go.Deep

section
variable {H : Type} {enc : TypeId × Value → H} {P : Program}
theorem open_four {w : World} {t : TypeId} {f0 f1 f2 f3 : Field} {base : Nat} {spare : Nat → Bool} {held : Bool} {r : Reach} {b0 : Nat} {v : Value} {d : DataW H} {p : List MemPlace}
    (hs : P.underlying t = some (.struct #[f0, f1, f2, f3])) (hone : oneCellFields P #[f0, f1, f2, f3] = true) (hC : P.cellsOf t = 4)
    (u0 : P.underlying f0.type = some (.int .i64)) (u1 : P.underlying f1.type = some (.int .i64)) (u2 : P.underlying f2.type = some (.int .i64)) (u3 : P.underlying f3.type = some (.int .i64))
    (hv : Value.okWide P w r b0 t v) (h : DataW.Trod enc P w base spare held t v d p) :
    ∃ a b c e : Int, v = .agg #[.int .i64 a, .int .i64 b, .int .i64 c, .int .i64 e] ∧ (Lit.int .i64 a).wf = true ∧ (Lit.int .i64 b).wf = true ∧ (Lit.int .i64 c).wf = true ∧ (Lit.int .i64 e).wf = true := by
  obtain ⟨v0, v1, v2, v3, y0, y1, y2, y3, n, rfl, _, _, h0, h1, h2, h3⟩ := Joins.open_agg4 hs hone hC hv h
  obtain ⟨a, e0, _, wa⟩ := DataW.trod_int u0 h0
  obtain ⟨b, e1, _, wb⟩ := DataW.trod_int u1 h1
  obtain ⟨c, e2, _, wc⟩ := DataW.trod_int u2 h2
  obtain ⟨e, e3, _, we⟩ := DataW.trod_int u3 h3
  simp at e0 e1 e2 e3
  subst e0 e1 e2 e3
  exact ⟨a, b, c, e, rfl, wa, wb, wc, we⟩
end

theorem Try.cellsB : Try.prog.cellsOf 23 = 4 := by kernel_rfl

end Go.Proofs.Ytbomgaacahaofaa

namespace Go.Proofs.Ytbomgaacahaofaa
open Go Go.RowKit

set_option linter.unusedVariables false
set_option linter.unusedSimpArgs false

theorem hPutLines_yes (a0 a1 a2 a3 : Int) (w : World) (h : mayL a0 a1 a2 a3 = true) : Calls Try.prog 19 #[.agg #[.int .i64 a0, .int .i64 a1, .int .i64 a2, .int .i64 a3]] w (Gave w (putLs a0 a1 a2 a3)) := by
  refine (hPutLines_any a0 a1 a2 a3 w).mono fun e w' k => ?_
  have r := wrL_run a0 a1 a2 a3
  rw [← r.2 h]
  exact k.1 (r.1.trans h)
theorem hPutLines_no (a0 a1 a2 a3 : Int) (w : World) (h : mayL a0 a1 a2 a3 = false) : Calls Try.prog 19 #[.agg #[.int .i64 a0, .int .i64 a1, .int .i64 a2, .int .i64 a3]] w fun e w' => e = .returned (.tuple #[.slice none 0 0, .int .i64 1]) ∧ Below w.heap.size w w' := by
  refine (hPutLines_any a0 a1 a2 a3 w).mono fun e w' k => ?_
  have r := wrL_run a0 a1 a2 a3
  exact k.2 (r.1.trans h)
theorem hLines_yes (A : Option Addr) (c : Nat) (E : List Value) (w : World) (hE : Lists w w.heap.size A E) (h8 : Bytes8 E) (hc : E.length ≤ c) (hc2 : c ≤ 9223372036854775807) (hm : E.length ≤ 140737488355328) (h : okL E = true) (v : Array Value) (hv : valL E = .agg v) : Calls Try.prog 21 #[.slice A E.length c] w fun e w' => e = .returned (.tuple #[.agg v, .int .i64 0]) ∧ Below w.heap.size w w' := by
  refine (hLines_any A c E w hE h8 hc hc2 hm).mono fun e w' k => ?_
  have r := rdL_eq E h8
  unfold GotR at k
  rw [r.1, h, if_pos rfl, if_pos rfl, r.2 h, hv] at k
  exact k
theorem hLines_no (A : Option Addr) (c : Nat) (E : List Value) (w : World) (hE : Lists w w.heap.size A E) (h8 : Bytes8 E) (hc : E.length ≤ c) (hc2 : c ≤ 9223372036854775807) (hm : E.length ≤ 140737488355328) (h : okL E = false) : Calls Try.prog 21 #[.slice A E.length c] w fun e w' => e = .returned (.tuple #[.agg zL, .int .i64 52]) ∧ Below w.heap.size w w' := by
  refine (hLines_any A c E w hE h8 hc hc2 hm).mono fun e w' k => ?_
  have r := rdL_eq E h8
  unfold GotR at k
  rw [r.1, h, if_neg (by simp), if_neg (by simp)] at k
  exact k
theorem eqL_same (a0 a1 a2 a3 : Int) (w : World) : (binOp .eql 50 (.agg #[.int .i64 a0, .int .i64 a1, .int .i64 a2, .int .i64 a3]) (.agg #[.int .i64 a0, .int .i64 a1, .int .i64 a2, .int .i64 a3])).run Try.prog w = .ok (.bool true) w := by
  have hS : Try.prog.underlying 50 = some (.struct (Try.prog.fieldsOf 50)) := by kernel_rfl
  have hp : Try.prog.stoodInHeld 50 = false := by kernel_rfl
  have u3 := Try.underlying3
  have a3 := Try.isAgg3
  have z3 := Try.sizeOf3
  have u4 := Try.underlying4
  have a4 := Try.isAgg4
  have z4 := Try.sizeOf4
  skip
  rw [run_eql_struct, show (10000 : Nat) = 9999 + 1 from rfl, run_equalIn_agg w 9999 50 _ _ hS hp]
  simp only [Program.fieldsOf, Try.underlying50]
  go_simp
theorem eqgL (a0 a1 a2 a3 : Int) (x y : Operand) (w : World) : (eqGuard .eql 50 x y (.agg #[.int .i64 a0, .int .i64 a1, .int .i64 a2, .int .i64 a3]) (.agg #[.int .i64 a0, .int .i64 a1, .int .i64 a2, .int .i64 a3])).run Try.prog w = .ok () w :=
  run_eqGuard_agg w .eql 50 x y _ _ (by kernel_rfl)

theorem hPutHead_yes (a0 a1 a2 a3 a4 a5 a6 a7 : Int) (b8 : Bool) (w : World) (h : mayH a0 a1 a2 a3 a4 a5 a6 a7 = true) : Calls Try.prog 8 #[.agg #[.int .i64 a0, .int .i64 a1, .int .i64 a2, .int .i64 a3, .int .i64 a4, .int .i64 a5, .int .i64 a6, .int .i64 a7, .bool b8]] w (Gave w (putHs a0 a1 a2 a3 a4 a5 a6 a7 b8)) := by
  refine (hPutHead_any a0 a1 a2 a3 a4 a5 a6 a7 b8 w).mono fun e w' k => ?_
  have r := wrH_run a0 a1 a2 a3 a4 a5 a6 a7 b8
  rw [← r.2 h]
  exact k.1 (r.1.trans h)
theorem hPutHead_no (a0 a1 a2 a3 a4 a5 a6 a7 : Int) (b8 : Bool) (w : World) (h : mayH a0 a1 a2 a3 a4 a5 a6 a7 = false) : Calls Try.prog 8 #[.agg #[.int .i64 a0, .int .i64 a1, .int .i64 a2, .int .i64 a3, .int .i64 a4, .int .i64 a5, .int .i64 a6, .int .i64 a7, .bool b8]] w fun e w' => e = .returned (.tuple #[.slice none 0 0, .int .i64 1]) ∧ Below w.heap.size w w' := by
  refine (hPutHead_any a0 a1 a2 a3 a4 a5 a6 a7 b8 w).mono fun e w' k => ?_
  have r := wrH_run a0 a1 a2 a3 a4 a5 a6 a7 b8
  exact k.2 (r.1.trans h)
theorem hHead_yes (A : Option Addr) (c : Nat) (E : List Value) (w : World) (hE : Lists w w.heap.size A E) (h8 : Bytes8 E) (hc : E.length ≤ c) (hc2 : c ≤ 9223372036854775807) (hm : E.length ≤ 140737488355328) (h : okH E = true) (v : Array Value) (hv : valH E = .agg v) : Calls Try.prog 11 #[.slice A E.length c] w fun e w' => e = .returned (.tuple #[.agg v, .int .i64 0]) ∧ Below w.heap.size w w' := by
  refine (hHead_any A c E w hE h8 hc hc2 hm).mono fun e w' k => ?_
  have r := rdH_eq E h8
  unfold GotR at k
  rw [r.1, h, if_pos rfl, if_pos rfl, r.2 h, hv] at k
  exact k
theorem hHead_no (A : Option Addr) (c : Nat) (E : List Value) (w : World) (hE : Lists w w.heap.size A E) (h8 : Bytes8 E) (hc : E.length ≤ c) (hc2 : c ≤ 9223372036854775807) (hm : E.length ≤ 140737488355328) (h : okH E = false) : Calls Try.prog 11 #[.slice A E.length c] w fun e w' => e = .returned (.tuple #[.agg zH, .int .i64 50]) ∧ Below w.heap.size w w' := by
  refine (hHead_any A c E w hE h8 hc hc2 hm).mono fun e w' k => ?_
  have r := rdH_eq E h8
  unfold GotR at k
  rw [r.1, h, if_neg (by simp), if_neg (by simp)] at k
  exact k
theorem eqH_same (a0 a1 a2 a3 a4 a5 a6 a7 : Int) (b8 : Bool) (w : World) : (binOp .eql 25 (.agg #[.int .i64 a0, .int .i64 a1, .int .i64 a2, .int .i64 a3, .int .i64 a4, .int .i64 a5, .int .i64 a6, .int .i64 a7, .bool b8]) (.agg #[.int .i64 a0, .int .i64 a1, .int .i64 a2, .int .i64 a3, .int .i64 a4, .int .i64 a5, .int .i64 a6, .int .i64 a7, .bool b8])).run Try.prog w = .ok (.bool true) w := by
  have hS : Try.prog.underlying 25 = some (.struct (Try.prog.fieldsOf 25)) := by kernel_rfl
  have hp : Try.prog.stoodInHeld 25 = false := by kernel_rfl
  have u3 := Try.underlying3
  have a3 := Try.isAgg3
  have z3 := Try.sizeOf3
  have u4 := Try.underlying4
  have a4 := Try.isAgg4
  have z4 := Try.sizeOf4
  have u5 := Try.underlying23; have a5 := Try.isAgg23; have z5 := Try.sizeOf23
  rw [run_eql_struct, show (10000 : Nat) = 9999 + 1 from rfl, run_equalIn_agg w 9999 25 _ _ hS hp]
  simp only [Program.fieldsOf, Try.underlying25]
  go_simp
theorem eqgH (a0 a1 a2 a3 a4 a5 a6 a7 : Int) (b8 : Bool) (x y : Operand) (w : World) : (eqGuard .eql 25 x y (.agg #[.int .i64 a0, .int .i64 a1, .int .i64 a2, .int .i64 a3, .int .i64 a4, .int .i64 a5, .int .i64 a6, .int .i64 a7, .bool b8]) (.agg #[.int .i64 a0, .int .i64 a1, .int .i64 a2, .int .i64 a3, .int .i64 a4, .int .i64 a5, .int .i64 a6, .int .i64 a7, .bool b8])).run Try.prog w = .ok () w :=
  run_eqGuard_agg w .eql 25 x y _ _ (by kernel_rfl)

theorem hPutGlyphs_yes (a0 : Int) (b1 : Bool) (w : World) (h : mayG a0 = true) : Calls Try.prog 14 #[.agg #[.int .i64 a0, .bool b1]] w (Gave w (putGs a0 b1)) := by
  refine (hPutGlyphs_any a0 b1 w).mono fun e w' k => ?_
  have r := wrG_run a0 b1
  rw [← r.2 h]
  exact k.1 (r.1.trans h)
theorem hPutGlyphs_no (a0 : Int) (b1 : Bool) (w : World) (h : mayG a0 = false) : Calls Try.prog 14 #[.agg #[.int .i64 a0, .bool b1]] w fun e w' => e = .returned (.tuple #[.slice none 0 0, .int .i64 1]) ∧ Below w.heap.size w w' := by
  refine (hPutGlyphs_any a0 b1 w).mono fun e w' k => ?_
  have r := wrG_run a0 b1
  exact k.2 (r.1.trans h)
theorem hGlyphs_yes (A : Option Addr) (c : Nat) (E : List Value) (w : World) (hE : Lists w w.heap.size A E) (h8 : Bytes8 E) (hc : E.length ≤ c) (hc2 : c ≤ 9223372036854775807) (hm : E.length ≤ 140737488355328) (h : okG E = true) (v : Array Value) (hv : valG E = .agg v) : Calls Try.prog 15 #[.slice A E.length c] w fun e w' => e = .returned (.tuple #[.agg v, .int .i64 0]) ∧ Below w.heap.size w w' := by
  refine (hGlyphs_any A c E w hE h8 hc hc2 hm).mono fun e w' k => ?_
  have r := rdG_eq E h8
  unfold GotR at k
  rw [r.1, h, if_pos rfl, if_pos rfl, r.2 h, hv] at k
  exact k
theorem hGlyphs_no (A : Option Addr) (c : Nat) (E : List Value) (w : World) (hE : Lists w w.heap.size A E) (h8 : Bytes8 E) (hc : E.length ≤ c) (hc2 : c ≤ 9223372036854775807) (hm : E.length ≤ 140737488355328) (h : okG E = false) : Calls Try.prog 15 #[.slice A E.length c] w fun e w' => e = .returned (.tuple #[.agg zG, .int .i64 51]) ∧ Below w.heap.size w w' := by
  refine (hGlyphs_any A c E w hE h8 hc hc2 hm).mono fun e w' k => ?_
  have r := rdG_eq E h8
  unfold GotR at k
  rw [r.1, h, if_neg (by simp), if_neg (by simp)] at k
  exact k
theorem eqG_same (a0 : Int) (b1 : Bool) (w : World) : (binOp .eql 40 (.agg #[.int .i64 a0, .bool b1]) (.agg #[.int .i64 a0, .bool b1])).run Try.prog w = .ok (.bool true) w := by
  have hS : Try.prog.underlying 40 = some (.struct (Try.prog.fieldsOf 40)) := by kernel_rfl
  have hp : Try.prog.stoodInHeld 40 = false := by kernel_rfl
  have u3 := Try.underlying3
  have a3 := Try.isAgg3
  have z3 := Try.sizeOf3
  have u4 := Try.underlying4
  have a4 := Try.isAgg4
  have z4 := Try.sizeOf4
  skip
  rw [run_eql_struct, show (10000 : Nat) = 9999 + 1 from rfl, run_equalIn_agg w 9999 40 _ _ hS hp]
  simp only [Program.fieldsOf, Try.underlying40]
  go_simp
theorem eqgG (a0 : Int) (b1 : Bool) (x y : Operand) (w : World) : (eqGuard .eql 40 x y (.agg #[.int .i64 a0, .bool b1]) (.agg #[.int .i64 a0, .bool b1])).run Try.prog w = .ok () w :=
  run_eqGuard_agg w .eql 40 x y _ _ (by kernel_rfl)

end Go.Proofs.Ytbomgaacahaofaa

namespace Go.Proofs.Ytbomgaacahaofaa
open Go Go.RowKit

set_option linter.unusedVariables false
set_option linter.unusedSimpArgs false

theorem own_cap {w : World} {base : Nat} {A : Option Addr} {n c : Nat} {xs : List Value} {T : TypeId} (h : w.ownsRow base T 1 (.slice A n c) n xs) : c ≤ 9223372036854775807 := by
  rcases h.2 with ⟨h, _⟩ | ⟨g, cap, cur, h, _, _, _, h7, _⟩
  · injection h with _ _ h; omega
  · injection h with _ _ h
    unfold maxLen at h7
    omega
/-- A table was put: its bytes, as they may be read. -/
def GaveL (w : World) (n : Nat) (L : List Value) (e : Ending) (w' : World) : Prop := ∃ A c, e = .returned (.tuple #[.slice A n c, .int .i64 0]) ∧ Lists w' w'.heap.size A L ∧ n ≤ c ∧ c ≤ 9223372036854775807 ∧ Below w.heap.size w w'
theorem Gave.l {w : World} {L : List Value} {e : Ending} {w' : World} (h : Gave w L e w') {n : Nat} (hn : L.length = n) : GaveL w n L e w' := by
  subst hn
  obtain ⟨A, c, he, ho, hb⟩ := h
  have hc := own_cap ho
  obtain ⟨A1, c1, hv, hl, hc1⟩ := own_lists ho
  injection hv with h1 _ h3
  subst h1 h3
  exact ⟨A, c, he, hl, hc1, hc, hb⟩
theorem hLines_at (A : Option Addr) (c n : Nat) (E : List Value) (w : World) (hn : E.length = n) (hE : Lists w w.heap.size A E) (h8 : Bytes8 E) (hc : n ≤ c) (hc2 : c ≤ 9223372036854775807) (hm : n ≤ 140737488355328) (h : okL E = true) (v : Array Value) (hv : valL E = .agg v) : Calls Try.prog 21 #[.slice A n c] w fun e w' => e = .returned (.tuple #[.agg v, .int .i64 0]) ∧ Below w.heap.size w w' := by
  subst hn
  exact hLines_yes A c E w hE h8 hc hc2 hm h v hv
theorem hHead_at (A : Option Addr) (c n : Nat) (E : List Value) (w : World) (hn : E.length = n) (hE : Lists w w.heap.size A E) (h8 : Bytes8 E) (hc : n ≤ c) (hc2 : c ≤ 9223372036854775807) (hm : n ≤ 140737488355328) (h : okH E = true) (v : Array Value) (hv : valH E = .agg v) : Calls Try.prog 11 #[.slice A n c] w fun e w' => e = .returned (.tuple #[.agg v, .int .i64 0]) ∧ Below w.heap.size w w' := by
  subst hn
  exact hHead_yes A c E w hE h8 hc hc2 hm h v hv
theorem hGlyphs_at (A : Option Addr) (c n : Nat) (E : List Value) (w : World) (hn : E.length = n) (hE : Lists w w.heap.size A E) (h8 : Bytes8 E) (hc : n ≤ c) (hc2 : c ≤ 9223372036854775807) (hm : n ≤ 140737488355328) (h : okG E = true) (v : Array Value) (hv : valG E = .agg v) : Calls Try.prog 15 #[.slice A n c] w fun e w' => e = .returned (.tuple #[.agg v, .int .i64 0]) ∧ Below w.heap.size w w' := by
  subst hn
  exact hGlyphs_yes A c E w hE h8 hc hc2 hm h v hv
theorem lPutH (w : World) : Calls Try.prog 8 #[.agg #[.int .i64 1000, .int .i64 0, .int .i64 0, .int .i64 0, .int .i64 0, .int .i64 0, .int .i64 0, .int .i64 0, .bool true]] w (GaveL w 54 (putHs 1000 0 0 0 0 0 0 0 true)) := (hPutHead_yes 1000 0 0 0 0 0 0 0 true w (by decide)).mono fun e w' h => h.l (by rfl)
theorem lGetH (A : Option Addr) (c : Nat) (w : World) (hE : Lists w w.heap.size A (putHs 1000 0 0 0 0 0 0 0 true)) (hc : 54 ≤ c) (hc2 : c ≤ 9223372036854775807) : Calls Try.prog 11 #[.slice A 54 c] w fun e w' => e = .returned (.tuple #[.agg #[.int .i64 1000, .int .i64 0, .int .i64 0, .int .i64 0, .int .i64 0, .int .i64 0, .int .i64 0, .int .i64 0, .bool true], .int .i64 0]) ∧ Below w.heap.size w w' := by
  have hb := backH 1000 0 0 0 0 0 0 0 true [] (by decide)
  rw [List.append_nil] at hb
  exact hHead_at A c 54 _ w (by rfl) hE (putHs_bytes 1000 0 0 0 0 0 0 0 true) hc hc2 (by omega) hb.1 _ hb.2
theorem lPutG (w : World) : Calls Try.prog 14 #[.agg #[.int .i64 3, .bool false]] w (GaveL w 6 (putGs 3 false)) := (hPutGlyphs_yes 3 false w (by decide)).mono fun e w' h => h.l (by rfl)
theorem lGetG (A : Option Addr) (c : Nat) (w : World) (hE : Lists w w.heap.size A (putGs 3 false)) (hc : 6 ≤ c) (hc2 : c ≤ 9223372036854775807) : Calls Try.prog 15 #[.slice A 6 c] w fun e w' => e = .returned (.tuple #[.agg #[.int .i64 3, .bool false], .int .i64 0]) ∧ Below w.heap.size w w' := by
  have hb := backG 3 false [] (by decide)
  rw [List.append_nil] at hb
  exact hGlyphs_at A c 6 _ w (by rfl) hE (putGs_bytes 3 false) hc hc2 (by omega) hb.1 _ hb.2
theorem lPutL (w : World) : Calls Try.prog 19 #[.agg #[.int .i64 800, .int .i64 (-200), .int .i64 0, .int .i64 2]] w (GaveL w 36 (putLs 800 (-200) 0 2)) := (hPutLines_yes 800 (-200) 0 2 w (by decide)).mono fun e w' h => h.l (by rfl)
theorem lGetL (A : Option Addr) (c : Nat) (w : World) (hE : Lists w w.heap.size A (putLs 800 (-200) 0 2)) (hc : 36 ≤ c) (hc2 : c ≤ 9223372036854775807) : Calls Try.prog 21 #[.slice A 36 c] w fun e w' => e = .returned (.tuple #[.agg #[.int .i64 800, .int .i64 (-200), .int .i64 0, .int .i64 2], .int .i64 0]) ∧ Below w.heap.size w w' := by
  have hb := backL 800 (-200) 0 2 [] (by decide)
  rw [List.append_nil] at hb
  exact hLines_at A c 36 _ w (by rfl) hE (putLs_bytes 800 (-200) 0 2) hc hc2 (by omega) hb.1 _ hb.2
theorem lNone (w : World) : Calls Try.prog 11 #[.slice none 0 0] w fun e w' => e = .returned (.tuple #[.agg #[.int .i64 0, .int .i64 0, .int .i64 0, .int .i64 0, .int .i64 0, .int .i64 0, .int .i64 0, .int .i64 0, .bool false], .int .i64 50]) ∧ Below w.heap.size w w' :=
  hHead_no none 0 [] w (Lists.empty _ _ _) (fun u hu => (by cases hu)) (Nat.le_refl _) (by omega) (by simp) (by rfl)

set_option maxRecDepth 100000 in
set_option maxHeartbeats 16000000 in
theorem lives5 (w : World) : Calls Try.prog 9 #[] w fun e w' => e = .returned (.bool true) ∧ Below w.heap.size w w' := by
  have B0 : Below w.heap.size w w := Below.refl _ _
  have q1 := eqH_same 1000 0 0 0 0 0 0 0 true
  have q2 := eqgH 1000 0 0 0 0 0 0 0 true
  go_enter Try.func9, Try.ntmps9
  go_wp2_with (first | (go_at_call 8; ((with_reducible refine (lPutH _).mono ?_); rintro e w1 ⟨A1, c1, rfl, l1, k1, m1, b1⟩; have B1 := Below.trans B0 (b1.mono (Below.size B0)))) | (go_at_call 11; ((with_reducible refine (lGetH A1 c1 _ l1 k1 m1).mono ?_); rintro e w2 ⟨rfl, b2⟩; have B2 := Below.trans B1 (b2.mono (Below.size B1)); have B2a := B2.alloc (Below.size B2) (.cells #[.int .i64 1000, .int .i64 0, .int .i64 0, .int .i64 0, .int .i64 0, .int .i64 0, .int .i64 0, .int .i64 0, .bool true] 25); have X2 : Blk (w2.alloc (.cells #[.int .i64 1000, .int .i64 0, .int .i64 0, .int .i64 0, .int .i64 0, .int .i64 0, .int .i64 0, .int .i64 0, .bool true] 25)) w2.heap.size 25 #[.int .i64 1000, .int .i64 0, .int .i64 0, .int .i64 0, .int .i64 0, .int .i64 0, .int .i64 0, .int .i64 0, .bool true] := Blk.new _ _ _; have a2 : Below w2.heap.size w2 (w2.alloc (.cells #[.int .i64 1000, .int .i64 0, .int .i64 0, .int .i64 0, .int .i64 0, .int .i64 0, .int .i64 0, .int .i64 0, .bool true] 25)) := (Below.refl _ _).alloc (Nat.le_refl _) _)) | (refine wpList_store_row rfl 25 (.tmp 3) (.tmp 23) (by with_reducible rfl) w2.heap.size #[.int .i64 1000, .int .i64 0, .int .i64 0, .int .i64 0, .int .i64 0, .int .i64 0, .int .i64 0, .int .i64 0, .bool true] (by rfl) (by rfl) 25 #[.int .i64 0, .int .i64 0, .int .i64 0, .int .i64 0, .int .i64 0, .int .i64 0, .int .i64 0, .int .i64 0, .bool false] (Blk.new _ _ _) sizH rfl (by simp [Value.oneCell']) ?_; rw [World.setRow_alloc_new]) | (go_at_call 14; ((with_reducible refine (lPutG _).mono ?_); rintro e w3 ⟨A3, c3, rfl, l3, k3, m3, b3⟩; have B3 := Below.trans B2a (b3.mono (Below.size B2a)))) | (go_at_call 15; ((with_reducible refine (lGetG A3 c3 _ l3 k3 m3).mono ?_); rintro e w4 ⟨rfl, b4⟩; have B4 := Below.trans B3 (b4.mono (Below.size B3)); have B4a := B4.alloc (Below.size B4) (.cells #[.int .i64 3, .bool false] 40); have X4 : Blk (w4.alloc (.cells #[.int .i64 3, .bool false] 40)) w4.heap.size 40 #[.int .i64 3, .bool false] := Blk.new _ _ _; have a4 : Below w4.heap.size w4 (w4.alloc (.cells #[.int .i64 3, .bool false] 40)) := (Below.refl _ _).alloc (Nat.le_refl _) _)) | (refine wpList_store_row rfl 40 (.tmp 7) (.tmp 33) (by with_reducible rfl) w4.heap.size #[.int .i64 3, .bool false] (by rfl) (by rfl) 40 #[.int .i64 0, .bool false] (Blk.new _ _ _) sizG rfl (by simp [Value.oneCell']) ?_; rw [World.setRow_alloc_new]) | (go_at_call 19; ((with_reducible refine (lPutL _).mono ?_); rintro e w5 ⟨A5, c5, rfl, l5, k5, m5, b5⟩; have B5 := Below.trans B4a (b5.mono (Below.size B4a)))) | (go_at_call 21; ((with_reducible refine (lGetL A5 c5 _ l5 k5 m5).mono ?_); rintro e w6 ⟨rfl, b6⟩; have B6 := Below.trans B5 (b6.mono (Below.size B5)); have B6a := B6.alloc (Below.size B6) (.cells #[.int .i64 800, .int .i64 (-200), .int .i64 0, .int .i64 2] 50); have X6 : Blk (w6.alloc (.cells #[.int .i64 800, .int .i64 (-200), .int .i64 0, .int .i64 2] 50)) w6.heap.size 50 #[.int .i64 800, .int .i64 (-200), .int .i64 0, .int .i64 2] := Blk.new _ _ _; have a6 : Below w6.heap.size w6 (w6.alloc (.cells #[.int .i64 800, .int .i64 (-200), .int .i64 0, .int .i64 2] 50)) := (Below.refl _ _).alloc (Nat.le_refl _) _)) | (refine wpList_store_row rfl 50 (.tmp 11) (.tmp 43) (by with_reducible rfl) w6.heap.size #[.int .i64 800, .int .i64 (-200), .int .i64 0, .int .i64 2] (by rfl) (by rfl) 50 #[.int .i64 0, .int .i64 0, .int .i64 0, .int .i64 0] (Blk.new _ _ _) sizL rfl (by simp [Value.oneCell']) ?_; rw [World.setRow_alloc_new]) | (go_at_call 11; ((with_reducible refine (lNone _).mono ?_); rintro e w7 ⟨rfl, b7⟩; have B7 := B6a.trans (b7.mono B6a.size); have B7a := B7.alloc B7.size (.cells #[.int .i64 0, .int .i64 0, .int .i64 0, .int .i64 0, .int .i64 0, .int .i64 0, .int .i64 0, .int .i64 0, .bool false] 25); have a7 : Below w7.heap.size w7 (w7.alloc (.cells #[.int .i64 0, .int .i64 0, .int .i64 0, .int .i64 0, .int .i64 0, .int .i64 0, .int .i64 0, .int .i64 0, .bool false] 25)) := (Below.refl _ _).alloc (Nat.le_refl _) _; have t67 := a6.trans ((b7.trans (a7.mono b7.size)).mono a6.size); have t57 := b6.trans (t67.mono b6.size); have t47 := a4.trans ((b5.trans (t57.mono b5.size)).mono a4.size); have t37 := b4.trans (t47.mono b4.size); have t27 := a2.trans ((b3.trans (t37.mono b3.size)).mono a2.size); have Y2 := X2.below ((b3.trans (t37.mono b3.size)).mono (by have := a2.size; exact Nat.le_refl _)); have Y4 := X4.below ((b5.trans (t57.mono b5.size)).mono (Nat.le_refl _)); have Y6 := X6.below ((b7.trans (a7.mono b7.size)).mono (Nat.le_refl _)); have g20 := Y2.cell 0; rw [show (#[.int .i64 1000, .int .i64 0, .int .i64 0, .int .i64 0, .int .i64 0, .int .i64 0, .int .i64 0, .int .i64 0, .bool true] : Array Value)[0]? = some (.int .i64 1000) from rfl] at g20; have g21 := Y2.cell 1; rw [show (#[.int .i64 1000, .int .i64 0, .int .i64 0, .int .i64 0, .int .i64 0, .int .i64 0, .int .i64 0, .int .i64 0, .bool true] : Array Value)[1]? = some (.int .i64 0) from rfl] at g21; have g22 := Y2.cell 2; rw [show (#[.int .i64 1000, .int .i64 0, .int .i64 0, .int .i64 0, .int .i64 0, .int .i64 0, .int .i64 0, .int .i64 0, .bool true] : Array Value)[2]? = some (.int .i64 0) from rfl] at g22; have g23 := Y2.cell 3; rw [show (#[.int .i64 1000, .int .i64 0, .int .i64 0, .int .i64 0, .int .i64 0, .int .i64 0, .int .i64 0, .int .i64 0, .bool true] : Array Value)[3]? = some (.int .i64 0) from rfl] at g23; have g24 := Y2.cell 4; rw [show (#[.int .i64 1000, .int .i64 0, .int .i64 0, .int .i64 0, .int .i64 0, .int .i64 0, .int .i64 0, .int .i64 0, .bool true] : Array Value)[4]? = some (.int .i64 0) from rfl] at g24; have g25 := Y2.cell 5; rw [show (#[.int .i64 1000, .int .i64 0, .int .i64 0, .int .i64 0, .int .i64 0, .int .i64 0, .int .i64 0, .int .i64 0, .bool true] : Array Value)[5]? = some (.int .i64 0) from rfl] at g25; have g26 := Y2.cell 6; rw [show (#[.int .i64 1000, .int .i64 0, .int .i64 0, .int .i64 0, .int .i64 0, .int .i64 0, .int .i64 0, .int .i64 0, .bool true] : Array Value)[6]? = some (.int .i64 0) from rfl] at g26; have g27 := Y2.cell 7; rw [show (#[.int .i64 1000, .int .i64 0, .int .i64 0, .int .i64 0, .int .i64 0, .int .i64 0, .int .i64 0, .int .i64 0, .bool true] : Array Value)[7]? = some (.int .i64 0) from rfl] at g27; have g28 := Y2.cell 8; rw [show (#[.int .i64 1000, .int .i64 0, .int .i64 0, .int .i64 0, .int .i64 0, .int .i64 0, .int .i64 0, .int .i64 0, .bool true] : Array Value)[8]? = some (.bool true) from rfl] at g28; have g4 : _ = some (Value.int .i64 3) := (Y4.cell 0).trans rfl; have g6 : _ = some (Value.int .i64 (-200)) := (Y6.cell 1).trans rfl; have cv : ∀ dst, Try.prog.underlying dst = some .string → (convert 26 dst (.slice A3 6 c3)).run Try.prog (w7.alloc (.cells #[.int .i64 0, .int .i64 0, .int .i64 0, .int .i64 0, .int .i64 0, .int .i64 0, .int .i64 0, .int .i64 0, .bool false] 25)) = .ok (.string ⟨#[0, 0, 80, 0, 0, 3]⟩) (w7.alloc (.cells #[.int .i64 0, .int .i64 0, .int .i64 0, .int .i64 0, .int .i64 0, .int .i64 0, .int .i64 0, .int .i64 0, .bool false] 25)) := conv_lists (l3.below t37) rfl (putGs_bytes 3 false))) | (refine wpList_store_row rfl 25 (.tmp 13) (.tmp 47) (by with_reducible rfl) w7.heap.size #[.int .i64 0, .int .i64 0, .int .i64 0, .int .i64 0, .int .i64 0, .int .i64 0, .int .i64 0, .int .i64 0, .bool false] (by rfl) (by rfl) 25 #[.int .i64 0, .int .i64 0, .int .i64 0, .int .i64 0, .int .i64 0, .int .i64 0, .int .i64 0, .int .i64 0, .bool false] (Blk.new _ _ _) sizH rfl (by simp [Value.oneCell']) ?_; rw [World.setRow_alloc_new]))
  go_ret
  exact ⟨rfl, B7a⟩

end Go.Proofs.Ytbomgaacahaofaa

namespace Go.Proofs.Ytbomgaacahaofaa
open Go.ChangeShapes Go.WideShapes Go.ChangeAt Go.RowKit Go.Deep

theorem array_9 {α : Type} {cs : Array α} (h : cs.size = 9) : ∃ c0 c1 c2 c3 c4 c5 c6 c7 c8, cs = #[c0, c1, c2, c3, c4, c5, c6, c7, c8] := by
  obtain ⟨l⟩ := cs
  match l, h with
  | [c0, c1, c2, c3, c4, c5, c6, c7, c8], _ => exact ⟨c0, c1, c2, c3, c4, c5, c6, c7, c8, rfl⟩
theorem array_2 {α : Type} {cs : Array α} (h : cs.size = 2) : ∃ c0 c1, cs = #[c0, c1] := by
  obtain ⟨l⟩ := cs
  match l, h with
  | [c0, c1], _ => exact ⟨c0, c1, rfl⟩

theorem cellsI : Try.prog.cellsOf 3 = 1 := by kernel_rfl
theorem cellsBo : Try.prog.cellsOf 4 = 1 := by kernel_rfl
theorem cellsBx : Try.prog.cellsOf 23 = 4 := by kernel_rfl
theorem cellsHd : Try.prog.cellsOf 25 = 9 := by kernel_rfl
theorem cellsLi : Try.prog.cellsOf 50 = 4 := by kernel_rfl
theorem cellsGl : Try.prog.cellsOf 40 = 2 := by kernel_rfl
section
variable {H : Type} {enc : TypeId × Value → H}
set_option maxRecDepth 100000 in
theorem open_lines {w : World} {base : Nat} {spare : Nat → Bool} {held : Bool} {r : Reach} {b0 : Nat} {v : Value} {d : DataW H} {p : List MemPlace}
    (hv : Value.okWide Try.prog w r b0 50 v) (h : DataW.Trod enc Try.prog w base spare held 50 v d p) :
    ∃ a0 a1 a2 a3 : Int, v = .agg #[.int .i64 a0, .int .i64 a1, .int .i64 a2, .int .i64 a3] := by
  obtain ⟨a, b, c, e, h, _⟩ := open_four Try.underlying50 (by kernel_rfl) cellsLi Try.underlying3 Try.underlying3 Try.underlying3 Try.underlying3 hv h
  exact ⟨a, b, c, e, h⟩
set_option maxRecDepth 100000 in
theorem open_glyphs {w : World} {base : Nat} {spare : Nat → Bool} {held : Bool} {r : Reach} {b0 : Nat} {v : Value} {d : DataW H} {p : List MemPlace}
    (hv : Value.okWide Try.prog w r b0 40 v) (h : DataW.Trod enc Try.prog w base spare held 40 v d p) :
    ∃ (a0 : Int) (b1 : Bool), v = .agg #[.int .i64 a0, .bool b1] := by
  obtain ⟨v0, v1, y0, y1, n, rfl, _, _, h0, h1⟩ := Joins.open_agg2 Try.underlying40 (by kernel_rfl) cellsGl hv h
  obtain ⟨a, e0, _⟩ := DataW.trod_int Try.underlying3 h0
  obtain ⟨b, e1, _⟩ := DataW.trod_bool Try.underlying4 h1
  simp at e0 e1
  subst e0 e1
  exact ⟨a, b, rfl⟩
set_option maxRecDepth 100000 in
theorem open_head {w : World} {base : Nat} {spare : Nat → Bool} {held : Bool} {r : Reach} {b0 : Nat} {v : Value} {d : DataW H} {p : List MemPlace}
    (hv : Value.okWide Try.prog w r b0 25 v) (h : DataW.Trod enc Try.prog w base spare held 25 v d p) :
    ∃ (a0 a1 a2 a3 a4 a5 a6 a7 : Int) (b8 : Bool), v = .agg #[.int .i64 a0, .int .i64 a1, .int .i64 a2, .int .i64 a3, .int .i64 a4, .int .i64 a5, .int .i64 a6, .int .i64 a7, .bool b8] := by
  obtain ⟨cs, rfl, hsz⟩ := okWide_struct Try.underlying25 hv
  obtain ⟨c0, c1, c2, c3, c4, c5, c6, c7, c8, rfl⟩ := array_9 (hsz.trans cellsHd)
  obtain ⟨fuel, hf⟩ := h
  obtain ⟨ys, n, _, _, _, hlen, hg⟩ := DataW.trod_struct Try.underlying25 hf
  match ys, hlen with
  | [y0, y1, y2, y3, y4, y5], _ =>
    have g0 := hg 0 _ rfl
    have g1 := hg 1 _ rfl
    have g2 := hg 2 _ rfl
    have g3 := hg 3 _ rfl
    have g4 := hg 4 _ rfl
    have g5 := hg 5 _ rfl
    simp [Value.cells, cellsI, cellsBo, cellsBx] at g0 g1 g2 g3 g4 g5
    obtain ⟨a0, e0, _⟩ := DataW.trod_int Try.underlying3 g0
    obtain ⟨a1, e1, _⟩ := DataW.trod_int Try.underlying3 g1
    obtain ⟨a6, e6, _⟩ := DataW.trod_int Try.underlying3 g3
    obtain ⟨a7, e7, _⟩ := DataW.trod_int Try.underlying3 g4
    obtain ⟨b8, e8, _⟩ := DataW.trod_bool Try.underlying4 g5
    obtain ⟨zs, m, _, _, _, hlen2, hb⟩ := DataW.trod_struct Try.underlying23 g2
    match zs, hlen2 with
    | [z0, z1, z2, z3], _ =>
      have k0 := hb 0 _ rfl
      have k1 := hb 1 _ rfl
      have k2 := hb 2 _ rfl
      have k3 := hb 3 _ rfl
      simp [cellsI] at k0 k1 k2 k3
      obtain ⟨a2, e2, _⟩ := DataW.trod_int Try.underlying3 k0
      obtain ⟨a3, e3, _⟩ := DataW.trod_int Try.underlying3 k1
      obtain ⟨a4, e4, _⟩ := DataW.trod_int Try.underlying3 k2
      obtain ⟨a5, e5, _⟩ := DataW.trod_int Try.underlying3 k3
      simp at e0 e1 e2 e3 e4 e5 e6 e7 e8
      subst e0 e1 e2 e3 e4 e5 e6 e7 e8
      exact ⟨a0, a1, a2, a3, a4, a5, a6, a7, b8, rfl⟩
/-- A []byte that came in, with room for what little is put ahead of it. -/
theorem open_bytes_less {P : Program} {w : World} {t e : TypeId} {base : Nat} {spare : Nat → Bool} {held : Bool} {r : Reach} {b0 : Nat} {v : Value} {d : DataW H} {p : List MemPlace}
    (hs : P.underlying t = some (.slice e)) (he : P.underlying e = some (.int .u8)) (hC : P.cellsOf e = 1) (hb : P.bytesOf e = 1)
    (hv : Value.okWide P w r b0 t v) (h : DataW.Trod enc P w base spare held t v d p) (hz : ∀ m ∈ d.weights P t, m ≤ reachBytes) :
    ∃ (A : Option Addr) (c : Nat) (E : List Value), v = .slice A E.length c ∧ E.length ≤ c ∧ c ≤ 9223372036854775807 ∧ Lists w w.heap.size A E ∧ Bytes8 E ∧ E.length ≤ 140737488351232 := by
  obtain ⟨a0, len, cap, rfl⟩ := okWide_slice hs hv
  obtain ⟨fuel, hf⟩ := h
  rw [show (Value.slice a0 len cap).cells = #[.slice a0 len cap] from rfl] at hf
  obtain ⟨A, n, c, zs, hv1, hlen, hnc, hcm, hL, hwf, hw⟩ := open_nums hs he hC hf
  have h1 := hw reachBytes hz
  rw [hb] at h1
  have hr : reachBytes ≤ 140737488351232 := by decide
  unfold maxLen at hcm
  refine ⟨A, c, zs.map (Value.int .u8), by rw [List.length_map, hlen]; exact hv1, by rw [List.length_map]; omega, hcm, hL, bytes_of_wf hwf, by rw [List.length_map]; omega⟩
end

end Go.Proofs.Ytbomgaacahaofaa
