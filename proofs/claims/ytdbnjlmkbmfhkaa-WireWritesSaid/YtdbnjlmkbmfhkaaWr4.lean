/- A writer's padding. -/
import Derived.Test.YtdbnjlmkbmfhkaaWr3
import Derived.Deep.RegionLaw
import Derived.Outline
namespace Go.Proofs.Ytdbnjlmkbmfhkaa
open Go Go.RowKit

theorem step_append_src {P : Program} {w : World} {ops : Array Oper} {o : Oper} {a : Act} {K : Act → World → Prop} {Q : Exit → Act → World → Prop} {X : Prop} (hgd : o.guard = none) (s x : Operand) (t : TypeId)
    (ho : o.op = .call { callee := .builtin .append, args := #[s, x], argTypes := #[t, t] })
    (base : Nat) (e : TypeId) (i : TypeInfo) (z : Value) (size bytes : Nat) (ht : P.underlying t = some (.slice e)) (hi : P.info? e = some i) (hz : i.zero = some z)
    (hsize : i.size = size) (hby : i.bytes = bytes) (hzs : z.cells.size = size) (hsz : 0 < size)
    (v : Value) (n : Nat) (xs : List Value) (hs : a.eval s = v) (hown : w.ownsRow base e size v n xs)
    (B : Nat) (A : Option Addr) (m c : Nat) (news : List Value) (hx : a.eval x = .slice A m c) (hr : Lists w B A news) (hl : news.length = m * size) (h1 : ∀ u ∈ news, u.oneCell' = true)
    (h63 : n + m ≤ maxLen) (hbytes : (n + m) * bytes ≤ 140737488355328) (hbase : base ≤ w.heap.size)
    (h : ∀ v' w', w'.ownsRow base e size v' (n + m) (xs ++ news) → w.grownBy w' v.ownBlock → (v'.ownBlock = v.ownBlock ∨ v'.ownBlock = some w.heap.size) → K (a.put o.dst v') w') :
    if Region.wanted o (yielded ops a.tmps) = true then Oper.wp P o a w K Q else X := by
  rw [if_pos (by simp [Region.wanted, hgd])]
  exact wp_append_src w s x t ho base e i z size bytes ht hi hz hsize hby hzs hsz v n xs hs hown B A m c news hx hr hl h1 h63 hbytes hbase h

/-- How many zeros a pad to n wants. -/
def padN (l : Nat) (n : Int) : Nat := if n < 1 then 0 else if (l : Int) % n = 0 then 0 else (n - (l : Int) % n).toNat

theorem Put.nothing {w w' : World} {p R : Nat} {F : Bool} {L : List Value} {fp : List Nat} (hW : Wr w p R F L fp) (hb : Below w.heap.size w w') : Put w w' p R F L fp [] := by
  have hL : L.length ≤ R := by
    obtain ⟨_, _, _, _, _, _, _, _, _, _, h, _⟩ := hW
    exact h
  have hf : putF R F L [] = F := by
    unfold putF
    rw [show decide (R < L.length + ([] : List Value).length) = false by simp; omega]
    simp
  refine ⟨fp, ?_, Only.of_below hb fp, fun b h => .inl h⟩
  unfold putL
  rw [hf]
  have := hW.only (Only.of_below hb []) (fun _ _ h => (nomatch h))
  cases F
  · rw [if_neg (by simp), List.append_nil]; exact this
  · rw [if_pos rfl]; exact this
theorem Put.before {w w1 w' : World} {p R : Nat} {F : Bool} {L E : List Value} {fp : List Nat} (hb : Below w.heap.size w w1) (h : Put w1 w' p R F L fp E) : Put w w' p R F L fp E := by
  obtain ⟨fp', h1, h2, h3⟩ := h
  exact ⟨fp', h1, (Only.of_below hb fp).trans h2 (fun b hb => .inl hb), fun b hm => (h3 b hm).imp id (fun h => Nat.le_trans hb.size h)⟩

set_option maxRecDepth 100000 in
theorem pad_none (p R : Nat) (F : Bool) (L : List Value) (fp : List Nat) (n : Int) (w : World) (hW : Wr w p R F L fp) (hR : R ≤ 1099511627776) (hn : n < 1 ∨ (L.length : Int) % n = 0) (h1 : -9223372036854775808 ≤ n) (h2 : n ≤ 9223372036854775807) :
    Calls Try.prog 67 #[.pointer (some ⟨p, 0, none⟩), .int .i64 n] w fun e w' => e = .returned (.pointer (some ⟨p, 0, none⟩)) ∧ Put w w' p R F L fp [] := by
  have hq := fun w' => Put.nothing (w' := w') hW
  by_cases hn1 : n < 1
  · have hq := hq w (Below.refl _ _)
    clear hn hW hR
    go_enter Try.func67, Try.ntmps67
    go_wp2
    go_ret
    exact ⟨rfl, hq⟩
  · have C := wlen_any p R F L fp w hW hR
    have hn2 : 1 ≤ n := by omega
    have hd : ((L.length : Int) % n == 0) = true := by simpa using hn.resolve_left hn1
    have hL : L.length ≤ 1099511627776 := by
      obtain ⟨_, _, _, _, _, _, _, _, _, _, h, _⟩ := hW
      omega
    clear hn hW hR
    generalize L.length = l at C hd hL
    go_enter Try.func67, Try.ntmps67
    go_wp2_with (first | (go_at_call 40; ((with_reducible refine (C).mono ?_); rintro e w1 ⟨rfl, b⟩)))
    go_ret
    exact ⟨rfl, hq _ b⟩

theorem pad_done {w w2 w3 w4 : World} {p R : Nat} {L D : List Value} {fp : List Nat} {G : List (Nat × Nat)} {dv gv v4 : Value} {z H : Nat} (hb : Blk w p 81 #[.int .i64 (R : Nat), .bool false, dv, gv, .int .i64 (gapSum G : Nat)]) (hD : w.ownsRow 0 5 1 dv D.length D) (hG : w.ownsRow 0 87 2 gv G.length (gapCells G))
    (k1 : GapsOk 0 G D.length) (k2 : Bytes8 D) (k3 : L = expand D 0 G) (k5 : fp = p :: (blk dv ++ blk gv)) (hf : putF R false L (List.replicate z zero8) = false) (hx : L.length + z ≤ R) (hz1 : 1 ≤ z)
    (b2 : Below w.heap.size w w2) (o3 : Only w2 w3 [p]) (o4 : Only w3 w4 (blk gv)) (hb4 : Blk w4 p 81 #[.int .i64 (R : Nat), .bool false, dv, gv, .int .i64 (gapSum G : Nat)])
    (hown : w4.ownsRow 0 87 2 v4 (G.length + 1) (gapCells G ++ [.int .i64 (D.length : Nat), .int .i64 (z : Nat)])) (hat : v4.ownBlock = gv.ownBlock ∨ v4.ownBlock = some H) (hH : w3.heap.size ≤ H) (s : Int) (hs : s = (gapSum G : Int) + z) :
    Put w ((w4.setCell ⟨p, 3, none⟩ v4).setCell ⟨p, 4, none⟩ (.int .i64 s)) p R false L fp (List.replicate z zero8) := by
  have n1 := own_ne hG hb (by decide)
  have n2 := own_ne hD hb (by decide)
  have n3 := own_own hD hG (by decide)
  have n4 := own_ne hown hb4 (by decide)
  have o1 : Only w w3 [p] := (Only.of_below b2 [p]).trans o3 (fun b hb => .inl hb)
  have o5 : Only w4 ((w4.setCell ⟨p, 3, none⟩ v4).setCell ⟨p, 4, none⟩ (.int .i64 s)) [p] := ((Only.refl _ _).set (.inl (by simp)) _).set (.inl (by simp)) _
  refine ⟨p :: (blk dv ++ blk v4), ?_, ?_, ?_⟩
  · unfold putL
    rw [hf, if_neg (by simp)]
    refine ⟨D, G ++ [(D.length, z)], dv, v4, ?_, own_only (own_only (own_only hD o1 (fun b hm e => by simp at e; subst e; exact n2 hm)) o4 (fun b hm e => n3 b hm e)) o5 (fun b hm e => by simp at e; subst e; exact n2 hm), ?_, k1.snoc hz1, k2, ?_, ?_, rfl⟩
    · have := (hb4.set 3 v4).set 4 (.int .i64 s)
      rw [show ((gapSum (G ++ [(D.length, z)]) : Nat) : Int) = s by rw [hs]; simp [gapSum]]
      exact this
    · rw [gapCells_snoc, show (G ++ [(D.length, z)]).length = G.length + 1 by simp]
      exact own_only hown o5 (fun b hm e => by simp at e; subst e; exact n4 hm)
    · rw [expand_gap D z G 0 k1, ← k3]
    · rw [List.length_append, List.length_replicate]; exact hx
  · subst k5
    exact ((o1.more (fun b hm => by simp at hm; subst hm; simp)).trans o4 (fun b hm => .inl (by simp [hm]))).trans o5 (fun b hm => by simp at hm; subst hm; simp)
  · intro b hm
    subst k5
    rcases List.mem_cons.1 hm with rfl | hm
    · exact .inl (by simp)
    · rcases List.mem_append.1 hm with hm | hm
      · exact .inl (by simp [hm])
      · rcases hat with e | e
        · left
          have : b ∈ blk gv := by unfold blk at hm ⊢; rw [← e]; exact hm
          simp [this]
        · right
          have : b = H := by unfold blk at hm; rw [e] at hm; simpa using hm
          have := o1.size
          omega

set_option maxRecDepth 100000 in
set_option maxHeartbeats 1000000 in
theorem pad_some (p R : Nat) (F : Bool) (L : List Value) (fp : List Nat) (n : Int) (z : Nat) (w : World) (hW : Wr w p R F L fp) (hR : R ≤ 1099511627776) (hn : 1 ≤ n) (h2 : n ≤ 9223372036854775807) (hd : ((L.length : Int) % n == 0) = false) (hz : n - (L.length : Int) % n = (z : Int)) (hz1 : 1 ≤ z) :
    Calls Try.prog 67 #[.pointer (some ⟨p, 0, none⟩), .int .i64 n] w fun e w' => e = .returned (.pointer (some ⟨p, 0, none⟩)) ∧ Put w w' p R F L fp (List.replicate z zero8) := by
  have hmod := Int.emod_nonneg (L.length : Int) (show n ≠ 0 by omega)
  have e1 : IntKind.i64.wrap (n - (L.length : Int) % n) = (z : Int) := by rw [IntWalk.i64_in _ (by omega), hz]
  have e2 : wrap64 (n - (L.length : Int) % n) = (z : Int) := by unfold wrap64; omega
  have hzz : (z : Int) ≤ 9223372036854775807 := by omega
  clear hmod
  obtain ⟨D, G, dv, gv, hb, hD, hG, k1, k2, k3, k4, k5⟩ := id hW
  have hl := expand_len D G 0 k1
  rw [← k3, Nat.sub_zero] at hl
  obtain ⟨A0, c0, rfl, hd0, hc0⟩ := own_lists hD
  have C1 := fun w => wlen_any p R F L fp w
  have C := fun w' (hb : Below w.heap.size w w') => C1 w' (hW.only (Only.of_below hb []) (fun _ _ h => (nomatch h))) hR
  clear C1
  have hL : L.length ≤ 1099511627776 := by omega
  cases hf : putF R F L (List.replicate z zero8)
  · have hF : F = false := by unfold putF at hf; simp at hf; exact hf.1
    have hx : L.length + z ≤ R := by unfold putF at hf; simp at hf; exact hf.2
    subst hF
    have C2 := fun w' (hb' : Below w.heap.size w w') => fits_yes p R A0 D.length c0 (gapSum G) gv (z : Int) w' (hb.below hb') (by omega) (by omega) (by omega)
    obtain ⟨i0, hi, hz0, hy1, hy2⟩ := info_parts gapInfo
    have HL := Lib.hid hl
    have H3 := Lib.hid k3
    have H5 := Lib.hid k5
    have HF := Lib.hid hf
    have HX := Lib.hid hx
    clear hl k3 k5 hf hx hz hW hd0
    generalize hll : L.length = l at C hd e1 e2 hL
    have HLL := Lib.hid hll
    clear hll
    go_enter Try.func67, Try.ntmps67
    go_wp2_with (first | (go_at_call 40; ((with_reducible refine (C _ (Below.refl _ _)).mono ?_); rintro e w1 ⟨rfl, b1⟩)) | (go_at_call 40; ((with_reducible refine (C _ b1).mono ?_); rintro e w2 ⟨rfl, b2⟩; have b2 := b1.trans (b2.mono b1.size))) | (go_at_call 81; ((with_reducible refine (C2 _ b2).mono ?_); rintro e w3 ⟨rfl, hb3, o3⟩; have F3 := hb3.kb; simp only [KB, CellsAt, Nat.zero_add, Nat.reduceAdd, and_true] at F3)))
    have n1 := own_ne hG hb (by decide)
    have hG3 := own_only (own_only hG (Only.of_below b2 []) (fun _ _ h => (nomatch h))) o3 (fun b hm e => by simp at e; subst e; exact n1 hm)
    have HX1 := HX.out
    have HL1 := HL.out
    have HC1 := k1.count
    go_region_law (first | (refine step_append_src rfl (.tmp 29) (.tmp 37) 79 rfl 0 87 i0 (.agg #[.int .i64 0, .int .i64 0]) 2 16 Try.underlying79 hi hz0 hy1 hy2 rfl (by decide) gv G.length (gapCells G) rfl (hG3.drew.alloc _) _ (some ⟨w3.heap.size, 0, none⟩) 1 1 [.int .i64 (D.length : Nat), .int .i64 (z : Nat)] rfl (lists_new w3.drew _ _ _ (fun j u hu => by simpa using hu)) rfl (fun u hu => by simp at hu; rcases hu with rfl | rfl <;> rfl) (by simp only [maxLen]; omega) (by omega) (Nat.zero_le _) ?_; intro v4 w4 hown hgr hat; obtain ⟨A4, k4', rfl, _, _⟩ := own_lists hown; have o4 : Only w3 w4 (blk gv) := (((Only.refl w3 (blk gv)).drew).alloc _).grown hgr (fun b hb => .inl (by simp [blk, hb])); have hb4 := hb3.only o4 n1; have F4 := hb4.kb; simp only [KB, CellsAt, Nat.zero_add, Nat.reduceAdd, and_true] at F4))
    all_goals
      clear F3
      have sm : IntKind.i64.wrap ((gapSum G : Int) + (z : Int)) = (gapSum G : Int) + (z : Int) := IntWalk.i64_in _ (by omega)
      have sm2 : wrap64 ((gapSum G : Int) + (z : Int)) = (gapSum G : Int) + (z : Int) := by unfold wrap64; omega
      go_wp2
      go_ret
      exact ⟨rfl, pad_done hb hD hG k1 k2 H3.out H5.out HF.out HX1 hz1 b2 o3 o4 hb4 hown hat (by simp) _ (by simp)⟩
  · have hw : ∀ w2 w1, Below w.heap.size w w2 → Blk w1 p 81 #[.int .i64 (R : Nat), .bool true, .slice A0 D.length c0, gv, .int .i64 (gapSum G : Nat)] → Only w2 w1 [p] → Put w w1 p R F L fp (List.replicate z zero8) := fun w2 w1 h0 hb1 ho1 =>
      put_full w w1 p R F L fp _ hf hW _ gv D G hD hG k1 k2 k3 k4 k5 hb hb1 ((Only.of_below h0 [p]).trans ho1 (fun b hb => .inl hb))
    have C2 : ∀ w', Below w.heap.size w w' → Calls Try.prog 81 #[.pointer (some ⟨p, 0, none⟩), .int .i64 (z : Nat)] w' (fun e w'' => e = .returned (.bool false) ∧ Blk w'' p 81 #[.int .i64 (R : Nat), .bool true, .slice A0 D.length c0, gv, .int .i64 (gapSum G : Nat)] ∧ Only w' w'' [p]) := fun w' hb' => by
      cases F
      · exact fits_no p R A0 D.length c0 (gapSum G) gv (z : Int) w' (hb.below hb') (by omega) (by omega) (by unfold putF at hf; simp at hf; omega)
      · exact fits_full p R A0 D.length c0 (gapSum G) gv (z : Int) w' (hb.below hb')
    have HW := Lib.hid hw
    clear hw hl k3 k5 hf hW hz hd0
    generalize hll : L.length = l at C hd e1 e2 hL
    have HLL := Lib.hid hll
    clear hll
    go_enter Try.func67, Try.ntmps67
    go_wp2_with (first | (go_at_call 40; ((with_reducible refine (C _ (Below.refl _ _)).mono ?_); rintro e w1 ⟨rfl, b1⟩)) | (go_at_call 40; ((with_reducible refine (C _ b1).mono ?_); rintro e w2 ⟨rfl, b2⟩; have b2 := b1.trans (b2.mono b1.size))) | (go_at_call 81; ((with_reducible refine (C2 _ b2).mono ?_); rintro e w3 ⟨rfl, hb3, o3⟩)))
    go_ret
    exact ⟨rfl, HW.out _ _ b2 hb3 o3⟩

end Go.Proofs.Ytdbnjlmkbmfhkaa
