/- A writer as what it has taken; Data. -/
import Derived.Test.YtdbhfigdojkceaaWr1
import Derived.Lib.Hide
namespace Go.Proofs.Ytdbhfigdojkceaa
open Go Go.RowKit

/-- A writer at block p: its room, whether it is full, the bytes that it has taken; fp: the blocks that it owns. -/
def Wr (w : World) (p R : Nat) (F : Bool) (L : List Value) (fp : List Nat) : Prop :=
  ∃ (D : List Value) (G : List (Nat × Nat)) (dv gv : Value), Blk w p 85 #[.int .i64 (R : Nat), .bool F, dv, gv, .int .i64 (gapSum G : Nat)] ∧ w.ownsRow 0 5 1 dv D.length D ∧ w.ownsRow 0 88 2 gv G.length (gapCells G) ∧
    GapsOk 0 G D.length ∧ Bytes8 D ∧ L = expand D 0 G ∧ L.length ≤ R ∧ fp = p :: (blk dv ++ blk gv)

/-- What becomes of a writer that is handed E. -/
def putF (R : Nat) (F : Bool) (L E : List Value) : Bool := F || decide (R < L.length + E.length)
def putL (R : Nat) (F : Bool) (L E : List Value) : List Value := if putF R F L E then L else L ++ E
def Put (w w' : World) (p R : Nat) (F : Bool) (L : List Value) (fp : List Nat) (E : List Value) : Prop :=
  ∃ fp', Wr w' p R (putF R F L E) (putL R F L E) fp' ∧ Only w w' fp ∧ ∀ b ∈ fp', b ∈ fp ∨ w.heap.size ≤ b

theorem u8Info : (Try.prog.info? 5).map (fun i => (i.zero, i.size, i.bytes)) = some (some (.int .u8 0), 1, 1) := by kernel_rfl
theorem gapInfo : (Try.prog.info? 88).map (fun i => (i.zero, i.size, i.bytes)) = some (some (.agg #[.int .i64 0, .int .i64 0]), 2, 16) := by kernel_rfl
theorem ret_ptr (p : Nat) : Ending.returned (.pointer (some ⟨p, 0, none⟩)) = Ending.returned (.pointer (some ⟨p, 0, none⟩)) := rfl

theorem Wr.lt {w : World} {p R : Nat} {F : Bool} {L : List Value} {fp : List Nat} (h : Wr w p R F L fp) : ∀ b ∈ fp, b < w.heap.size := by
  obtain ⟨D, G, dv, gv, hb, hd, hg, _, _, _, _, rfl⟩ := h
  intro b hm
  rcases List.mem_cons.1 hm with rfl | hm
  · exact hb.lt
  · rcases List.mem_append.1 hm with hm | hm
    · exact blk_lt hd b hm
    · exact blk_lt hg b hm

/-- A writer stays where other blocks are changed. -/
theorem Wr.only {w w1 : World} {p R : Nat} {F : Bool} {L : List Value} {fp fq : List Nat} (h : Wr w p R F L fp) (k : Only w w1 fq) (hn : ∀ b ∈ fp, b ∉ fq) : Wr w1 p R F L fp := by
  obtain ⟨D, G, dv, gv, hb, hd, hg, h1, h2, h3, h4, rfl⟩ := h
  exact ⟨D, G, dv, gv, hb.only k (hn p (by simp)), own_only hd k (fun b hm => hn b (by simp [hm])), own_only hg k (fun b hm => hn b (by simp [hm])), h1, h2, h3, h4, rfl⟩

theorem wlen_any (p R : Nat) (F : Bool) (L : List Value) (fp : List Nat) (w : World) (h : Wr w p R F L fp) (hR : R ≤ 1099511627776) :
    Calls Try.prog 49 #[.pointer (some ⟨p, 0, none⟩)] w fun e w' => e = .returned (.int .i64 (L.length : Nat)) ∧ Below w.heap.size w w' := by
  obtain ⟨D, G, dv, gv, hb, hd, hg, h1, h2, h3, h4, rfl⟩ := h
  have hl := expand_len D G 0 h1
  obtain ⟨A, c, rfl, _, _⟩ := own_lists hd
  refine (wlen_low p R F A D.length c (gapSum G) gv w hb (by rw [← h3] at hl; omega)).mono fun e w' ⟨h5, h6⟩ => ⟨?_, h6⟩
  rw [h5, h3, hl, Nat.sub_zero]

theorem put_full (w w' : World) (p R : Nat) (F : Bool) (L : List Value) (fp : List Nat) (E : List Value) (hf : putF R F L E = true) (hW : Wr w p R F L fp) (dv gv : Value) (D : List Value) (G : List (Nat × Nat))
    (hd : w.ownsRow 0 5 1 dv D.length D) (hg : w.ownsRow 0 88 2 gv G.length (gapCells G)) (h1 : GapsOk 0 G D.length) (h2 : Bytes8 D) (h3 : L = expand D 0 G) (h4 : L.length ≤ R) (h5 : fp = p :: (blk dv ++ blk gv))
    (hb : Blk w p 85 #[.int .i64 (R : Nat), .bool F, dv, gv, .int .i64 (gapSum G : Nat)]) (hb' : Blk w' p 85 #[.int .i64 (R : Nat), .bool true, dv, gv, .int .i64 (gapSum G : Nat)]) (ho : Only w w' [p]) : Put w w' p R F L fp E := by
  have n1 := own_ne hd hb (by decide)
  have n2 := own_ne hg hb (by decide)
  refine ⟨fp, ?_, ho.more (fun b hm => by simp at hm; subst hm; subst h5; simp), fun b hm => .inl hm⟩
  unfold putL
  rw [hf, if_pos rfl]
  exact ⟨D, G, dv, gv, hb', own_only hd ho (fun b hm e => by simp at e; subst e; exact n1 hm), own_only hg ho (fun b hm e => by simp at e; subst e; exact n2 hm), h1, h2, h3, h4, h5⟩

set_option maxRecDepth 100000 in
theorem data_any (p R : Nat) (F : Bool) (L : List Value) (fp : List Nat) (A : Option Addr) (m c B : Nat) (E : List Value) (w : World) (hW : Wr w p R F L fp) (hR : R ≤ 1099511627776) (hE : Lists w B A E) (hm : E.length = m) (hB : B ≤ w.heap.size) (h8 : Bytes8 E) (hfar : ∀ a, A = some a → E ≠ [] → a.block ≠ p) :
    Calls Try.prog 59 #[.pointer (some ⟨p, 0, none⟩), .slice A m c] w fun e w' => e = .returned (.pointer (some ⟨p, 0, none⟩)) ∧ Put w w' p R F L fp E := by
  obtain ⟨D, G, dv, gv, hb, hd, hg, h1, h2, h3, h4, h5⟩ := id hW
  have hl := expand_len D G 0 h1
  rw [← h3, Nat.sub_zero] at hl
  obtain ⟨A0, c0, rfl, hd0, hc0⟩ := own_lists hd
  cases hf : putF R F L E
  · -- it fits
    have hF : F = false := by unfold putF at hf; simp at hf; exact hf.1
    have hx : L.length + E.length ≤ R := by unfold putF at hf; simp at hf; exact hf.2
    subst hF
    have C := fits_yes p R A0 D.length c0 (gapSum G) gv (m : Int) w hb (by omega) (by omega) (by omega)
    obtain ⟨i0, hi, hz0, hz1, hz2⟩ := info_parts u8Info
    have n1 := own_ne hd hb (by decide)
    have n2 := own_ne hg hb (by decide)
    have n3 := own_own hd hg (by decide)
    have HM := Lib.hid hm
    have HL := Lib.hid hl
    have H3 := Lib.hid h3
    have H5 := Lib.hid h5
    have HF := Lib.hid hf
    have HW := Lib.hid hW
    have HFAR := Lib.hid hfar
    clear hm hl h3 h5 hf hW hfar
    go_enter Try.func59, Try.ntmps59
    go_wp2_with (first | (go_at_call 61; ((with_reducible refine (C).mono ?_); rintro e w1 ⟨rfl, hb1, ho1⟩; have F1 := hb1.kb; simp only [KB, CellsAt, Nat.zero_add, Nat.reduceAdd, and_true] at F1)) | (at_builtin; refine wpList_append_src _ rfl (.tmp 13) (.tmp 14) 23 rfl 0 5 i0 (.int .u8 0) 1 1 Try.underlying23 hi hz0 hz1 hz2 rfl (by decide) (.slice A0 D.length c0) D.length D rfl (own_only hd ho1 (fun b hm e => by simp at e; subst e; exact n1 hm)) B A m c E rfl (lists_only hE hB ho1 (fun a ha hx e => by simp at e; exact HFAR.out a ha hx e)) (by rw [HM.out, Nat.mul_one]) h8.one (by simp only [maxLen]; have := HM.out; have := HL.out; omega) (by have := HM.out; have := HL.out; omega) (Nat.zero_le _) ?_; intro v2 w2 hown hgr hat; obtain ⟨A2, k2, rfl, _, _⟩ := own_lists hown; have o2 : Only w1 w2 (blk (.slice A0 D.length c0)) := (Only.refl _ _).grown hgr (fun b hb => .inl (by simp [blk, hb])); have hb2 := hb1.only o2 n1; clear F1; have F2 := hb2.kb; simp only [KB, CellsAt, Nat.zero_add, Nat.reduceAdd, and_true] at F2))
    go_ret
    obtain ⟨v2, hv2⟩ : ∃ v, v = Value.slice A2 (D.length + m) k2 := ⟨_, rfl⟩
    rw [← hv2] at hown hat ⊢
    refine ⟨rfl, p :: (blk v2 ++ blk gv), ?_, ?_, ?_⟩
    · have n4 := own_ne hown hb2 (by decide)
      have o3 : Only w2 (w2.setCell ⟨p, 2, none⟩ v2) [p] := (Only.refl _ _).set (.inl (by simp)) _
      have g1 := own_only hg ho1 (fun b hm e => by simp at e; subst e; exact n2 hm)
      have g2 := own_only g1 o2 (fun b hm e => n3 b e hm)
      rw [HF.out]
      unfold putL
      rw [HF.out, if_neg (by simp)]
      refine ⟨D ++ E, G, v2, gv, hb2.set 2 v2, ?_, own_only g2 o3 (fun b hm e => by simp at e; subst e; exact n2 hm), h1.more (by simp), h2.append h8, ?_, ?_, rfl⟩
      · rw [show (D ++ E).length = D.length + m by rw [List.length_append, HM.out]]
        exact own_only hown o3 (fun b hm e => by simp at e; subst e; exact n4 hm)
      · rw [expand_data D E G 0 h1, ← H3.out]
      · rw [List.length_append]; exact hx
    · rw [H5.out]
      exact ((ho1.more (fun b hm => by simp at hm; subst hm; simp)).trans o2 (fun b hm => .inl (by simp [hm]))).set (.inl (by simp)) _
    · intro b hm
      rw [H5.out]
      rcases List.mem_cons.1 hm with rfl | hm
      · exact .inl (by simp)
      · rcases List.mem_append.1 hm with hm | hm
        · rcases hat with e | e
          · left
            have : b ∈ blk (.slice A0 D.length c0) := by unfold blk at hm ⊢; rw [← e]; exact hm
            simp [this]
          · right
            have : b = w1.heap.size := by unfold blk at hm; rw [e] at hm; simpa using hm
            have := ho1.size
            omega
        · exact .inl (by simp [hm])
  · -- it does not
    have hw : ∀ w1, Blk w1 p 85 #[.int .i64 (R : Nat), .bool true, .slice A0 D.length c0, gv, .int .i64 (gapSum G : Nat)] → Only w w1 [p] → Put w w1 p R F L fp E := fun w1 hb1 ho1 =>
      put_full w w1 p R F L fp E hf hW _ gv D G hd hg h1 h2 h3 h4 h5 hb hb1 ho1
    have C : Calls Try.prog 61 #[.pointer (some ⟨p, 0, none⟩), .int .i64 (m : Nat)] w (fun e w' => e = .returned (.bool false) ∧ Blk w' p 85 #[.int .i64 (R : Nat), .bool true, .slice A0 D.length c0, gv, .int .i64 (gapSum G : Nat)] ∧ Only w w' [p]) := by
      cases F
      · exact fits_no p R A0 D.length c0 (gapSum G) gv (m : Int) w hb (by omega) (by omega) (by unfold putF at hf; simp at hf; omega)
      · exact fits_full p R A0 D.length c0 (gapSum G) gv (m : Int) w hb
    have HW := Lib.hid hw
    clear hw h3 hl h5 hf hW hm
    go_enter Try.func59, Try.ntmps59
    go_wp2_with (first | (go_at_call 61; ((with_reducible refine (C).mono ?_); rintro e w1 ⟨rfl, hb1, ho1⟩)))
    go_ret
    exact ⟨rfl, HW.out _ hb1 ho1⟩

end Go.Proofs.Ytdbhfigdojkceaa
