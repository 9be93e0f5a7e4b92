/- MetricPlaces: the table of any places, loaded again whatever follows; no condition but what the row prints. -/
import Derived.Test.YtdbhfigdojkceaaOpenMets
import Derived.Test.YtdbhfigdojkceaaLaw4
import Derived.Test.YtdbhfigdojkceaaMet16
import Derived.Test.YtdbhfigdojkceaaChainW
namespace Go.Proofs.Ytdbhfigdojkceaa.metricPlaces
open Go.ChangeShapes Go.WideShapes Go.ChangeAt Go.RowKit

variable {W : World}
theorem rises_mono (most : Int) (L : List Int) (last : Int) (h : rises most last L = true) : ∀ (d i : Nat) (a b : Int), L[i]? = some a → L[i + d]? = some b → a ≤ b
  | 0, i, a, b, h1, h2 => by rw [Nat.add_zero, h1] at h2; cases h2; exact Int.le_refl _
  | d + 1, i, a, b, h1, h2 => by
    obtain ⟨x, hx⟩ : ∃ x, L[i + d]? = some x := ⟨L[i + d]'(by have := (List.getElem?_eq_some_iff.1 h2).1; omega), List.getElem?_eq_getElem _⟩
    have h3 := rises_mono most L last h d i a x h1 hx
    have h4 := rises_le most L last (i + d) x b h hx (by rw [← h2]; congr 1)
    omega
theorem rises_last (most : Int) (L : List Int) (n : Nat) (la : Int) (h : rises most 0 L = true) (hn : L.length = n + 1) (hla : L[n]? = some la) : rises la 0 L = true := by
  refine rises_of la L 0 (fun k y hk => ?_) (fun y hy => (rises_ge most L 0 h y (List.mem_of_getElem? hy)).1) (fun k a b ha hb => rises_le most L 0 k a b h ha hb)
  have := (List.getElem?_eq_some_iff.1 hk).1
  exact rises_mono most L 0 h (n - k) k y la hk (by rw [show k + (n - k) = n by omega]; exact hla)
theorem pput_yes (long : Bool) (A : Option Addr) (c : Nat) (L : List Int) (w : World) (hL : Lists w w.heap.size A (intCells L)) (hr : mayP long L = true) : Calls Try.prog 15 #[.slice A L.length c, .bool long] w (Gave w (putP long L)) := by
  obtain ⟨h1, h2, h3, h4⟩ := mayP_of_rises hr
  have h5 : inB 1 65535 ((L.length : Int) - 1) = true := inB_yes (by omega) (by omega)
  cases long
  · exact pput_false w.heap.size A c L w (Nat.le_refl _) hL h5 h3 (by rw [List.any_eq_false]; intro x hx; rw [h4 x hx]; decide)
  · exact pput_true w.heap.size A c L w (Nat.le_refl _) hL h5 h3
theorem pput_no (long : Bool) (A : Option Addr) (c : Nat) (L : List Int) (w : World) (hL : Lists w w.heap.size A (intCells L)) (hb : L.length ≤ 3000) (hr : mayP long L = false) : Calls Try.prog 15 #[.slice A L.length c, .bool long] w (Refused w 1) := by
  cases h5 : inB 1 65535 ((L.length : Int) - 1)
  · exact pput_len A L.length c long w h5 (by omega)
  · have h6 := inB_true h5
    cases h3 : rises 1048576 0 L
    · exact pput_fall w.heap.size A c L w (Nat.le_refl _) hL long h5 h3
    · have h7 : L.all (okOff long) = false := by
        unfold mayP at hr
        rw [decide_eq_true (by omega), decide_eq_true (by omega), h3] at hr
        simpa using hr
      cases long
      · exact pput_odd w.heap.size A c L w (Nat.le_refl _) hL h5 h3 (by rw [← List.not_all_eq_any_not, h7]; rfl)
      · exfalso
        have : L.all (okOff true) = true := by rw [List.all_eq_true]; intro x _; rfl
        rw [this] at h7; cases h7
theorem rput_yes (long : Bool) (B : Nat) (A : Option Addr) (c : Nat) (L : List Int) (w : World) (hB : B ≤ w.heap.size) (hL : Lists w B A (intCells L)) (hr : mayP long L = true) : Calls Try.prog 18 #[.slice A L.length c, .bool long] w (GaveB w (putP long L)) := by
  obtain ⟨h1, h2, h3, h4⟩ := mayP_of_rises hr
  cases long
  · exact rput_false B A c L w hB hL h2 (rises_ge 1048576 L 0 h3)
  · exact rput_true B A c L w hB hL h2 (rises_ge 1048576 L 0 h3)
theorem pload_yes (long : Bool) (A : Option Addr) (c : Nat) (L : List Int) (E2 : List Value) (n : Nat) (la : Int) (w : World) (hr : mayP long L = true) (hn : L.length = n + 1) (hla : L[n]? = some la) (hE : Lists w w.heap.size A (putP long L ++ E2)) (h8 : Bytes8 E2) (hcap : (putP long L ++ E2).length ≤ c) :
    Calls Try.prog 17 #[.slice A (putP long L ++ E2).length c, .int .i64 (n : Nat), .bool long, .int .i64 la] w (MadePl w L) := by
  obtain ⟨h1, h2, h3, h4⟩ := mayP_of_rises hr
  have hge := rises_ge 1048576 L 0 h3
  have hb := offs_back long L E2 fun y hy => ⟨(hge y hy).1, (hge y hy).2, h4 y hy⟩
  rw [hn] at hb
  have hs := hge la (List.mem_of_getElem? hla)
  have hlen : (n + 1) * szP long ≤ (putP long L ++ E2).length := by rw [List.length_append, putP_len, hn]; omega
  have h9 := rises_last 1048576 L n la h3 hn hla
  have fin : ∀ e w', PlPost w la (offsTo long ((putP long L ++ E2).take ((n + 1) * szP long)) (n + 1)) e w' → MadePl w L e w' := fun e w' k => by
    rw [hb] at k
    exact k.1 h9
  cases long
  · exact (pload_false A c _ n la w hE ((putP_bytes _ _).append h8) hcap (inB_yes (by omega) (by omega)) (inB_yes hs.1 hs.2) hlen).mono fin
  · exact (pload_true A c _ n la w hE ((putP_bytes _ _).append h8) hcap (inB_yes (by omega) (by omega)) (inB_yes hs.1 hs.2) hlen).mono fin

set_option maxRecDepth 100000 in
set_option maxHeartbeats 2000000 in
theorem walk_no (A0 : Option Addr) (c0 : Nat) (L : List Int) (hl : Lists W W.heap.size A0 (intCells L)) (long : Bool) (S : Value) (g : Int) (hr : mayP long L = false) (h3 : L.length ≤ 3000) : Calls Try.prog 5 #[.slice A0 L.length c0, .bool long, S, .int .i64 g] W fun e w' => e = .returned (.bool true) ∧ Below W.heap.size W w' := by
  have C1 := pput_no long A0 c0 L W hl h3 hr
  have C2 := fun V (hb : Below W.heap.size W V) => rmayp_any long W.heap.size A0 c0 L V hb.size (hl.below hb)
  rw [hr] at C2
  clear hl hr
  generalize L.length = n at *
  go_enter Try.func5, Try.ntmps5
  go_wp2_with (first | (go_at_call 15; ((with_reducible refine C1.mono ?_); rintro e w1 ⟨rfl, b1⟩)) | (go_at_call 8; ((with_reducible refine (lives6 _).mono ?_); rintro e w2 ⟨rfl, b2⟩; have b12 := b1.trans (b2.mono b1.size))) | (go_at_call 16; ((with_reducible refine (C2 _ b12).mono ?_); rintro e w3 ⟨rfl, b3⟩; have b13 := b12.trans (b3.mono b12.size))))
  go_ret
  exact ⟨rfl, b13⟩

set_option maxRecDepth 100000 in
set_option maxHeartbeats 4000000 in
theorem walk_yes (A0 : Option Addr) (c0 : Nat) (L : List Int) (hl : Lists W W.heap.size A0 (intCells L)) (long : Bool) (A2 : Option Addr) (c2 : Nat) (E2 : List Value) (l2 : Lists W W.heap.size A2 E2) (s2 : Bytes8 E2) (t2 : E2.length ≤ 140737488355328) (g : Int) (hr : mayP long L = true) (h3 : L.length ≤ 3000) :
    Calls Try.prog 5 #[.slice A0 L.length c0, .bool long, .slice A2 E2.length c2, .int .i64 g] W fun e w' => e = .returned (.bool true) ∧ Below W.heap.size W w' := by
  obtain ⟨hr1, hr2, hr3, hr4⟩ := mayP_of_rises hr
  obtain ⟨n, hn⟩ : ∃ n, L.length = n + 1 := ⟨L.length - 1, by omega⟩
  obtain ⟨la, hla⟩ : ∃ x, L[n]? = some x := ⟨L[n]'(by omega), List.getElem?_eq_getElem _⟩
  have C1 := (pput_yes long A0 c0 L W hl hr).mono fun e w' k => k.n rfl
  have C2 := fun V (hb : Below W.heap.size W V) => rmayp_any long W.heap.size A0 c0 L V hb.size (hl.below hb)
  have C3 := fun V (hb : Below W.heap.size W V) => rput_yes long W.heap.size A0 c0 L V hb.size (hl.below hb) hr
  have C4 := fun V A c (hE : Lists V V.heap.size A (putP long L ++ E2)) (hcap : (putP long L ++ E2).length ≤ c) => pload_yes long A c L E2 n la V hr hn hla hE s2 hcap
  have C5 := fun t V (hb : Below W.heap.size W V) (ht : PlAt V t L) => stands_any t L hr2 hr1 g W.heap.size A0 c0 V ht hb.size (hl.below hb)
  have hpl : (putP long L).length ≤ 12000 := by rw [putP_len]; have : szP long ≤ 4 := by cases long <;> decide
                                                exact Nat.le_trans (Nat.mul_le_mul h3 this) (by omega)
  have hpb := putP_bytes long L
  obtain ⟨b, o, rfl, hbl, hcl⟩ := hl.plain (by intro e; have := intCells_len L; rw [e] at this; simp at this; omega)
  have HF : ∀ V, Below W.heap.size W V → V.cell? ⟨b, o + n, none⟩ = some (.int .i64 la) := fun V hb => (hb.cell (p := ⟨b, o + n, none⟩) hbl).trans (hcl n _ (by unfold intCells; rw [List.getElem?_map, hla]; rfl))
  rw [hr] at C2
  rw [List.length_append] at C4
  rw [hn] at C1 C2 C3 C5 h3 ⊢
  obtain ⟨ps, hps⟩ : ∃ ps, ps = putP long L := ⟨_, rfl⟩
  rw [← hps] at C1 C3 C4 hpb hpl
  clear hr hr1 hr2 hr3 hr4 hla hps hl hcl hn
  have HPB := Lib.hid hpb
  have HS2 := Lib.hid s2
  have HL2 := Lib.hid l2
  clear hpb s2 l2
  obtain ⟨i0, hi, hz0, hz1, hz2⟩ := info_parts u8Info
  have e1 : (0 : Int) ≤ (n : Int) := by omega
  have e2 : (n : Int) < (n : Int) + 1 := by omega
  have s1 : IntKind.i64.wrap (n : Int) = (n : Int) := IntWalk.i64_in _ (by omega)
  go_enter Try.func5, Try.ntmps5
  go_wp2_with (first | (go_at_call 15; ((with_reducible refine C1.mono ?_); rintro e w1 ⟨A7, c7, rfl, l7, hc7, b1⟩)) | (go_at_call 8; ((with_reducible refine (lives6 _).mono ?_); rintro e w2 ⟨rfl, b2⟩; have b12 := b1.trans (b2.mono b1.size))) | (go_at_call 16; ((with_reducible refine (C2 _ b12).mono ?_); rintro e w3 ⟨rfl, b3⟩; have b23 := b2.trans (b3.mono b2.size); have l73 := (l7.below b23).more b23.size; have b13 := b1.trans (b23.mono b1.size))))
  have d13 := b13.drew
  refine wp_region_chain (fun V => Below W.heap.size W V) [(1, false), (3, false), (5, false), (6, false), (7, false), (8, false), (9, false), (10, false), (11, false), (12, false), (13, false), (14, false), (0, true), (2, true), (4, true), (15, true), (16, false), (17, false), (18, false), (19, false), (20, false)] (by kernel_rfl) (by kernel_rfl) d13 ?_
  have l37 : Lists w3.drew w3.drew.heap.size A7 ps := (l73.below (Below.refl _ _).drew).more (by simp)
  clear l73 b13 b23 b3 b12
  generalize w3.drew = v3 at *
  repeat (first
    | (refine ChainL.skip (o := ?_) ?_ ?_ ?_; rotate_left; (focus (first | (simp only [List.getElem?_toArray, List.getElem?_cons_succ, List.getElem?_cons_zero]; with_reducible rfl) | (simp only [List.getElem?_toArray, List.getElem?_cons_zero]; with_reducible rfl))); (focus rfl); simp only [Act.put, List.setIfInBounds_toArray, List.set_cons_zero, List.set_cons_succ])
    | (refine ChainL.val (o := ?_) (v := ?_) ?_ ?_ ?_ ?_ ?_; rotate_left 2; (focus (first | (simp only [List.getElem?_toArray, List.getElem?_cons_succ, List.getElem?_cons_zero]; with_reducible rfl) | (simp only [List.getElem?_toArray, List.getElem?_cons_zero]; with_reducible rfl))); (focus (intro _ _ h; cases h)); (focus rfl); (focus (intro w' hJ; have y1 := HF _ hJ; go_simp <;> with_reducible rfl)); simp only [Act.put, List.setIfInBounds_toArray, List.set_cons_zero, List.set_cons_succ]))
  refine ChainL.does (o := ?_) (v := ?_) (w1 := ?_) ?_ ?_ ?_ ?_ ?_
  rotate_left 3
  (focus (simp only [List.getElem?_toArray, List.getElem?_cons_zero]; with_reducible rfl))
  (focus rfl)
  (focus (go_simp; (constructor <;> with_reducible rfl)))
  exact d13.alloc d13.size _
  simp only [Act.put, List.setIfInBounds_toArray, List.set_cons_zero, List.set_cons_succ]
  refine ChainL.appendW (o := ?_) ?_ ?_ (.tmp 37) (.tmp 38) 23 ?_ v3.heap.size 5 i0 (.int .u8 0) 1 1 Try.underlying23 hi hz0 hz1 hz2 rfl (by decide) (.slice (some ⟨v3.heap.size, 0, none⟩) 0 0) 0 [] ?_ (own_new v3) _ A7 ps.length c7 ps ?_ (l37.alloc (Nat.le_refl _) _) (by simp) HPB.out.one (by simp only [maxLen]; omega) (by omega) (by simp) ?_
  rotate_left
  (focus (simp only [List.getElem?_toArray, List.getElem?_cons_succ, List.getElem?_cons_zero]; with_reducible rfl))
  (focus rfl)
  (focus rfl)
  (focus rfl)
  (focus rfl)
  intro v4 w4 own4 hg4
  rw [Nat.zero_add, List.nil_append] at own4
  have b34 : Below v3.heap.size v3 w4 := ((Below.refl _ _).alloc (Nat.le_refl _) _).grown hg4 (by simp) (fun b hb => by simp [Value.ownBlock] at hb; omega)
  have b14 := d13.trans (b34.mono d13.size)
  refine ⟨b14, ?_⟩
  simp only [Act.put, List.setIfInBounds_toArray, List.set_cons_zero, List.set_cons_succ]
  refine ChainL.appendW (o := ?_) ?_ ?_ (.tmp 39) (.tmp 40) 23 ?_ v3.heap.size 5 i0 (.int .u8 0) 1 1 Try.underlying23 hi hz0 hz1 hz2 rfl (by decide) v4 ps.length ps ?_ own4 _ A2 E2.length c2 E2 ?_ (HL2.out.below b14) (by simp) HS2.out.one (by simp only [maxLen]; omega) (by omega) b34.size ?_
  rotate_left
  (focus (simp only [List.getElem?_toArray, List.getElem?_cons_succ, List.getElem?_cons_zero]; with_reducible rfl))
  (focus rfl)
  (focus rfl)
  (focus rfl)
  (focus rfl)
  intro v5 w5 own5 hg5
  have b35 : Below v3.heap.size v3 w5 := b34.grown hg5 b34.size (fun b hb => own_low own4 b (by simp [blk, hb]))
  have b15 := d13.trans (b35.mono d13.size)
  obtain ⟨A9, c9, rfl, l9, hc9⟩ := own_lists own5
  have l75 := (l37.below b35).more b35.size
  refine ⟨b15, ?_⟩
  simp only [Act.put, List.setIfInBounds_toArray, List.set_cons_zero, List.set_cons_succ]
  refine ChainL.call (o := ?_) (f := ?_) (args := ?_) ?_ ?_ ?_ ?_
  rotate_left 3
  (focus (simp only [List.getElem?_toArray, List.getElem?_cons_succ, List.getElem?_cons_zero]; with_reducible rfl))
  (focus rfl)
  (focus (go_simp; (constructor <;> with_reducible rfl)))
  refine (C4 _ A9 c9 l9 hc9).mono ?_
  rintro e w6 ⟨t, rfl, ht, b6⟩
  have b16 := b15.trans (b6.mono b15.size)
  have l76 := (l75.below b6).more b6.size
  refine ⟨_, rfl, b16, ?_⟩
  simp only [Act.put, List.setIfInBounds_toArray, List.set_cons_zero, List.set_cons_succ]
  repeat (first
    | (refine ChainL.skip (o := ?_) ?_ ?_ ?_; rotate_left; (focus (first | (simp only [List.getElem?_toArray, List.getElem?_cons_succ, List.getElem?_cons_zero]; with_reducible rfl) | (simp only [List.getElem?_toArray, List.getElem?_cons_zero]; with_reducible rfl))); (focus rfl); simp only [Act.put, List.setIfInBounds_toArray, List.set_cons_zero, List.set_cons_succ])
    | (refine ChainL.val (o := ?_) (v := ?_) ?_ ?_ ?_ ?_ ?_; rotate_left 2; (focus (first | (simp only [List.getElem?_toArray, List.getElem?_cons_succ, List.getElem?_cons_zero]; with_reducible rfl) | (simp only [List.getElem?_toArray, List.getElem?_cons_zero]; with_reducible rfl))); (focus (intro _ _ h; cases h)); (focus rfl); (focus (intro w' hJ; skip; go_simp <;> with_reducible rfl)); simp only [Act.put, List.setIfInBounds_toArray, List.set_cons_zero, List.set_cons_succ]))
  refine ChainL.nil ?_
  go_wp2
  have hI : Below w6.heap.size w6 w6.drew := (Below.refl _ _).drew
  refine wp_region_chain (fun V => Below w6.heap.size w6 V) [(0, false), (1, false), (2, false), (3, false), (4, false), (5, false), (6, false), (7, true), (8, true), (9, false), (10, false), (11, false), (12, false), (13, false), (14, false), (15, false), (16, false), (17, false), (18, false), (19, false), (20, false), (21, false), (22, false), (23, true), (24, false), (25, false)] (by kernel_rfl) (by kernel_rfl) hI ?_
  repeat (first
    | (refine ChainL.skip (o := ?_) ?_ ?_ ?_; rotate_left; (focus (first | (simp only [List.getElem?_toArray, List.getElem?_cons_succ, List.getElem?_cons_zero]; with_reducible rfl) | (simp only [List.getElem?_toArray, List.getElem?_cons_zero]; with_reducible rfl))); (focus rfl); simp only [Act.put, List.setIfInBounds_toArray, List.set_cons_zero, List.set_cons_succ])
    | (refine ChainL.val (o := ?_) (v := ?_) ?_ ?_ ?_ ?_ ?_; rotate_left 2; (focus (first | (simp only [List.getElem?_toArray, List.getElem?_cons_succ, List.getElem?_cons_zero]; with_reducible rfl) | (simp only [List.getElem?_toArray, List.getElem?_cons_zero]; with_reducible rfl))); (focus (intro _ _ h; cases h)); (focus rfl); (focus (intro w' hJ; have q1 := conv_lists (c := c7) (l76.below hJ) rfl HPB.out; go_simp <;> with_reducible rfl)); simp only [Act.put, List.setIfInBounds_toArray, List.set_cons_zero, List.set_cons_succ]))
  refine ChainL.call (o := ?_) (f := ?_) (args := ?_) ?_ ?_ ?_ ?_
  rotate_left 3
  (focus (simp only [List.getElem?_toArray, List.getElem?_cons_succ, List.getElem?_cons_zero]; with_reducible rfl))
  (focus rfl)
  (focus (go_simp; (constructor <;> with_reducible rfl)))
  refine (C3 _ (b16.trans (hI.mono b16.size))).mono ?_
  rintro e w7 ⟨A8, c8, rfl, l8, hc8, b7⟩
  have b67 := hI.trans (b7.mono hI.size)
  refine ⟨_, rfl, b67, ?_⟩
  simp only [Act.put, List.setIfInBounds_toArray, List.set_cons_zero, List.set_cons_succ]
  have q2 := conv_lists (c := c8) l8 rfl HPB.out
  refine ChainL.does (o := ?_) (v := ?_) (w1 := ?_) ?_ ?_ ?_ ?_ ?_
  rotate_left 3
  (focus (simp only [List.getElem?_toArray, List.getElem?_cons_succ, List.getElem?_cons_zero]; with_reducible rfl))
  (focus rfl)
  (focus (go_simp; (constructor <;> with_reducible rfl)))
  exact b67
  simp only [Act.put, List.setIfInBounds_toArray, List.set_cons_zero, List.set_cons_succ]
  repeat (first
    | (refine ChainL.skip (o := ?_) ?_ ?_ ?_; rotate_left; (focus (first | (simp only [List.getElem?_toArray, List.getElem?_cons_succ, List.getElem?_cons_zero]; with_reducible rfl) | (simp only [List.getElem?_toArray, List.getElem?_cons_zero]; with_reducible rfl))); (focus rfl); simp only [Act.put, List.setIfInBounds_toArray, List.set_cons_zero, List.set_cons_succ])
    | (refine ChainL.val (o := ?_) (v := ?_) ?_ ?_ ?_ ?_ ?_; rotate_left 2; (focus (first | (simp only [List.getElem?_toArray, List.getElem?_cons_succ, List.getElem?_cons_zero]; with_reducible rfl) | (simp only [List.getElem?_toArray, List.getElem?_cons_zero]; with_reducible rfl))); (focus (intro _ _ h; cases h)); (focus rfl); (focus (intro w' hJ; skip; go_simp <;> with_reducible rfl)); simp only [Act.put, List.setIfInBounds_toArray, List.set_cons_zero, List.set_cons_succ]))
  refine ChainL.call (o := ?_) (f := ?_) (args := ?_) ?_ ?_ ?_ ?_
  rotate_left 3
  (focus (simp only [List.getElem?_toArray, List.getElem?_cons_succ, List.getElem?_cons_zero]; with_reducible rfl))
  (focus rfl)
  (focus (go_simp; (constructor <;> with_reducible rfl)))
  refine (C5 t w7 (b16.trans (b67.mono b16.size)) (ht.below b67)).mono ?_
  rintro e w8 ⟨rfl, b8⟩
  have b68 := b67.trans (b8.mono b67.size)
  refine ⟨_, rfl, b68, ?_⟩
  simp only [Act.put, List.setIfInBounds_toArray, List.set_cons_zero, List.set_cons_succ]
  repeat (first
    | (refine ChainL.skip (o := ?_) ?_ ?_ ?_; rotate_left; (focus (first | (simp only [List.getElem?_toArray, List.getElem?_cons_succ, List.getElem?_cons_zero]; with_reducible rfl) | (simp only [List.getElem?_toArray, List.getElem?_cons_zero]; with_reducible rfl))); (focus rfl); simp only [Act.put, List.setIfInBounds_toArray, List.set_cons_zero, List.set_cons_succ])
    | (refine ChainL.val (o := ?_) (v := ?_) ?_ ?_ ?_ ?_ ?_; rotate_left 2; (focus (first | (simp only [List.getElem?_toArray, List.getElem?_cons_succ, List.getElem?_cons_zero]; with_reducible rfl) | (simp only [List.getElem?_toArray, List.getElem?_cons_zero]; with_reducible rfl))); (focus (intro _ _ h; cases h)); (focus rfl); (focus (intro w' hJ; skip; go_simp <;> with_reducible rfl)); simp only [Act.put, List.setIfInBounds_toArray, List.set_cons_zero, List.set_cons_succ]))
  refine ChainL.nil ?_
  go_wp2
  go_ret
  exact ⟨rfl, b16.trans (b68.mono b16.size)⟩

set_option maxRecDepth 100000 in
theorem walk_big (A0 : Option Addr) (c0 n : Nat) (m S : Value) (g : Int) (h3 : 3000 < n) : Calls Try.prog 5 #[.slice A0 n c0, m, S, .int .i64 g] W fun e w' => e = .returned (.bool true) ∧ Below W.heap.size W w' := by
  go_enter Try.func5, Try.ntmps5
  go_wp2_with (first | (go_at_call 8; ((with_reducible refine (lives6 _).mono ?_); rintro e w2 ⟨rfl, b2⟩)))
  go_ret
  exact ⟨rfl, b2⟩

theorem walk (A0 : Option Addr) (c0 : Nat) (L : List Int) (_ : L.length ≤ c0) (_ : c0 ≤ maxLen) (hl : Lists W W.heap.size A0 (intCells L)) (long : Bool) (A2 : Option Addr) (c2 : Nat) (E2 : List Value) (_ : E2.length ≤ c2) (_ : c2 ≤ 9223372036854775807) (l2 : Lists W W.heap.size A2 E2) (s2 : Bytes8 E2) (t2 : E2.length ≤ 140737488355328) (g : Int) (_ : (Lit.int .i64 g).wf = true) :
    Calls Try.prog 5 #[.slice A0 L.length c0, .bool long, .slice A2 E2.length c2, .int .i64 g] W fun e w' => e = .returned (.bool true) ∧ Below W.heap.size W w' := by
  rcases Nat.lt_or_ge 3000 L.length with h | h
  · exact walk_big A0 c0 L.length _ _ g h
  · cases hr : mayP long L
    · exact walk_no A0 c0 L hl long _ g hr h
    · exact walk_yes A0 c0 L hl long A2 c2 E2 l2 s2 t2 g hr h

set_option linter.unusedVariables false in
set_option maxRecDepth 100000 in
theorem lifted (os : Os) (started : os.Started) (H : Type) (enc : TypeId × Value → H) :
    ReturnsInHanded {} Try.checked os 5 .any (Rows.metricPlacesSpec.pre6 enc Try.prog Try.f5 Rows.metricPlacesRow.domain false) (Rows.metricPlacesSpec.post enc Try.prog Try.f5 false true false false) := by
  refine returnsInHanded_of_change_sized (C := Try.checked) Try.own started (by kernel_rfl) Try.func5
    (ChangeSpec.witness6 (enc := enc) (C := Try.checked) false ⟨#[], #[.slice none 0 0, .bool false, .slice none 0 0, .int .i64 0], []⟩ 8 (by kernel_rfl) (by kernel_rfl) (by kernel_rfl) (by kernel_rfl)) ?_
  intro W base args ds gs before hval0 hW hcnd hsz0 _
  have hsz : (DataW.weightsEach Try.prog (Try.f5.params.toList ++ Rows.metricPlacesSpec.plain.varTypes Try.prog) (ds ++ gs)).all (· ≤ reachBytes) = true := hsz0
  have hval : ∀ (j : Nat) t v, Try.f5.params[j]? = some t → args[j]? = some v → Value.okWide Try.prog W .any base t v := hval0
  have hW' := hW
  obtain ⟨p, q, hA0, hV, rfl, hfz, hnd⟩ := hW
  have hA : DataW.TrodAll enc Try.prog W 0 (fun _ => true) true Try.f5.params.toList args.toList ds p := hA0
  rw [Try.params5] at hA hval hsz
  obtain ⟨v0, vs0, d0, ds0, p0, q0, hargs, rfl, rfl, h0, r0⟩ := trodAll_cons hA
  obtain ⟨v1, vs1, d1, ds1, p1, q1, rfl, rfl, rfl, h1, r1⟩ := trodAll_cons r0
  obtain ⟨v2, vs2, d2, ds2, p2, q2, rfl, rfl, rfl, h2, r2⟩ := trodAll_cons r1
  obtain ⟨v3, vs3, d3, ds3, p3, q3, rfl, rfl, rfl, h3, r3⟩ := trodAll_cons r2
  obtain ⟨rfl, rfl, rfl⟩ := trodAll_nil r3
  obtain rfl : args = #[v0, v1, v2, v3] := by cases args; simp_all
  obtain ⟨rfl, rfl⟩ := trodVars_none hV
  obtain ⟨A0, n0, c0, L0, rfl, rfl, k0, m0, l0, w0⟩ := open_list_int Try.underlying38 Try.underlying3 (by kernel_rfl) (hval 0 38 v0 rfl rfl) h0
  obtain ⟨a1, rfl, rfl, rfl⟩ := open_bool Try.underlying4 (hval 1 4 v1 rfl rfl) h1
  have hz2 : ∀ m ∈ d2.weights Try.prog 23, m ≤ reachBytes := fun m hm => of_decide_eq_true (List.all_eq_true.1 hsz m (DataW.weights_mem_each (j := 2) rfl rfl m hm))
  obtain ⟨A2, c2, E2, rfl, k2, m2, l2, s2, t2⟩ := open_bytes Try.underlying23 Try.underlying5 (by kernel_rfl) (by kernel_rfl) (hval 2 23 v2 rfl rfl) h2 hz2
  obtain ⟨a3, rfl, rfl, rfl, w3⟩ := open_int Try.underlying3 (hval 3 3 v3 rfl rfl) h3
  clear hA0 hval0
  simp only [List.append_nil] at hW'
  refine (walk (W := W) A0 c0 L0 k0 m0 l0 a1 A2 c2 E2 k2 m2 l2 s2 t2 a3 w3).mono fun e W' ⟨he, hg⟩ => ?_
  subst he
  exact ⟨_, rfl, law_post Try.laidOut rfl Try.underlying4 (by kernel_rfl) rfl rfl rfl rfl hW' hg⟩

theorem over : Rows.metricPlacesRow.holds Try.pinned (OpenSpec.ofChange Rows.metricPlacesSpec) :=
  OpenClaim.holds_of_wide 5 Try.f5 rfl rfl rfl rfl rfl rfl rfl ⟨rfl, rfl, rfl, rfl, rfl⟩ rfl rfl rfl rfl rfl (by kernel_rfl) Try.func5 (by kernel_rfl)
    (of_decide_eq_true (by kernel_rfl)) (by unfold Func.isWrapper; first | (rw [if_pos (by decide +kernel)]; kernel_rfl) | (rw [if_neg (by decide +kernel)]; exact ⟨rfl, rfl⟩))
    (fun os started H enc _ => lifted os started H enc)

theorem proved : Rows.MetricPlacesSaid :=
  over

end Go.Proofs.Ytdbhfigdojkceaa.metricPlaces
