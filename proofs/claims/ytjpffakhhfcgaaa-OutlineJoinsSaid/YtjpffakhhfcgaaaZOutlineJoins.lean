/- OutlineJoins: the contours of two outlines; any one the other way round, and that again; no condition but what the row prints. -/
import Derived.Test.YtjpffakhhfcgaaaCOut9

namespace Go.Proofs.Ytjpffakhhfcgaaa.outlineJoins
open Go.ChangeShapes Go.WideShapes Go.ChangeAt Go.RowKit

theorem wpList_append_want {P : Program} (w : World) {ops : Array Oper} {rest : List Oper} {o : Oper} {a : Act} {Q : Exit → Act → World → Prop} (hw : Region.wanted o (yielded ops a.tmps) = true) (s x : Operand) (t : TypeId)
    (ho : o.op = .call { callee := .builtin .append, args := #[s, x], argTypes := #[t, t] })
    (base : Nat) (e : TypeId) (i : TypeInfo) (z : Value) (size bytes : Nat) (ht : P.underlying t = some (.slice e)) (hi : P.info? e = some i) (hz : i.zero = some z)
    (hsize : i.size = size) (hby : i.bytes = bytes) (hzs : z.cells.size = size) (hsz : 0 < size)
    (v : Value) (n : Nat) (xs : List Value) (hs : a.eval s = v) (hown : w.ownsRow base e size v n xs)
    (B : Nat) (A : Option Addr) (m c : Nat) (news : List Value) (hx : a.eval x = .slice A m c) (hr : Lists w B A news) (hl : news.length = m * size) (h1 : ∀ u ∈ news, u.oneCell' = true)
    (h63 : n + m ≤ maxLen) (hbytes : (n + m) * bytes ≤ 140737488355328) (hbase : base ≤ w.heap.size)
    (h : ∀ v' w', w'.ownsRow base e size v' (n + m) (xs ++ news) → w.grownBy w' v.ownBlock → (v'.ownBlock = v.ownBlock ∨ v'.ownBlock = some w.heap.size) → wpList P ops Q rest (a.put o.dst v') w') : wpList P ops Q (o :: rest) a w :=
  wpList_step fun K hK => by
    rw [if_pos hw]
    exact wp_append_src w s x t ho base e i z size bytes ht hi hz hsize hby hzs hsz v n xs hs hown B A m c news hx hr hl h1 h63 hbytes hbase fun v' w' h2 h3 h4 => hK _ _ (h v' w' h2 h3 h4)
theorem cells_of {w : World} {Bd : Nat} {A : Option Addr} {b : List (List Pt)} {n : Nat} (h : OutAt w Bd A b) (hn : n = b.length) :
    ∃ cb : List Value, Lists w Bd A cb ∧ cb.length = n ∧ (∀ u ∈ cb, u.oneCell' = true) ∧ ∀ (i : Nat) (L : List Pt), b[i]? = some L → ∃ Ai ci, cb[i]? = some (.slice Ai L.length ci) ∧ Lists w Bd Ai (ptCells L) := by
  obtain ⟨cb, h1, h2⟩ := choose_listO (n := n) (p := fun i (v : Value) => ∃ L, b[i]? = some L ∧ ∃ (bb o : Nat) (Ai : Option Addr) (ci : Nat), A = some ⟨bb, o, none⟩ ∧ bb < Bd ∧ v = .slice Ai L.length ci ∧ w.cell? ⟨bb, o + i, none⟩ = some v ∧ Lists w Bd Ai (ptCells L)) fun i hi => by
    obtain ⟨L, hL⟩ := at_some (L := b) (k := i) (by omega)
    obtain ⟨bb, o, Ai, ci, e1, e2, e3, e4⟩ := h.at' i L hL
    exact ⟨_, L, hL, bb, o, Ai, ci, e1, e2, rfl, e3, e4⟩
  refine ⟨cb, ⟨fun ha => ?_, fun a ha j u hu => ?_, fun a ha hne => ?_⟩, h1, fun u hu => ?_, fun i L hL => ?_⟩
  · cases cb with
    | nil => rfl
    | cons v r =>
      obtain ⟨_, _, _, _, _, _, e1, _⟩ := h2 0 v rfl
      rw [ha] at e1; cases e1
  · obtain ⟨_, _, bb, o, _, _, e1, _, _, e3, _⟩ := h2 j u hu
    rw [ha] at e1; cases e1
    rw [addr_plain]; exact e3
  · cases cb with
    | nil => exact absurd rfl hne
    | cons v r =>
      obtain ⟨_, _, bb, o, _, _, e1, e2, _⟩ := h2 0 v rfl
      rw [ha] at e1; cases e1; exact e2
  · obtain ⟨i, hi⟩ := List.mem_iff_getElem?.1 hu
    obtain ⟨_, _, _, _, _, _, _, _, e3, _⟩ := h2 i u hi
    subst e3; rfl
  · have hi : i < cb.length := by rw [h1, hn]; exact (List.getElem?_eq_some_iff.1 hL).1
    obtain ⟨v, hv⟩ := at_some hi
    obtain ⟨L', hL', _, _, Ai, ci, _, _, e3, _, e5⟩ := h2 i v hv
    rw [hL] at hL'; cases hL'
    exact ⟨Ai, ci, by rw [hv, e3], e5⟩
theorem app_out {W w20 w21 w22 : World} {A2 : Option Addr} {a b : List (List Pt)} {n n2 : Nat} {v v2 : Value} {rows cb : List Value} (b21 : Below w20.heap.size w20 w21) (B20 : Below W.heap.size W w20) (hn : n = a.length) (_ : n2 = b.length)
    (ho : w21.ownsRow w20.heap.size 48 1 v n rows) (hi : Inner w21 w20.heap.size a rows) (hc : Lists W W.heap.size A2 cb ∧ cb.length = n2 ∧ (∀ u ∈ cb, u.oneCell' = true) ∧ ∀ (i : Nat) (L : List Pt), b[i]? = some L → ∃ Ai ci, cb[i]? = some (.slice Ai L.length ci) ∧ Lists W W.heap.size Ai (ptCells L))
    (own : w22.ownsRow w20.heap.size 48 1 v2 (n + n2) (rows ++ cb)) (hg : w21.grownBy w22 v.ownBlock) : ∃ A c, v2 = .slice A (n + n2) c ∧ OutAt w22 w22.heap.size A (a ++ b) ∧ Below w20.heap.size w20 w22 := by
  have o2 : Only w21 w22 (blk v) := (Only.refl _ _).grown hg (fun b hb => .inl (by simp [blk, hb]))
  have b22 : Below w20.heap.size w20 w22 := b21.grown hg b21.size (fun j hj => (ho.lt j hj).1)
  obtain ⟨A, c, rfl, hl, _⟩ := own_lists own
  have hrl : rows.length = n := by simpa using ho.1
  refine ⟨A, c, rfl, ⟨fun i L hL => ?_⟩, b22⟩
  have key : ∃ Ai ci, (rows ++ cb)[i]? = some (.slice Ai L.length ci) ∧ Lists w22 w22.heap.size Ai (ptCells L) := by
    rcases Nat.lt_or_ge i a.length with h | h
    · rw [List.getElem?_append_left h] at hL
      obtain ⟨r, h1, h2⟩ := hi.1 i L hL
      have h3 := own_only h2 o2 (fun b e1 e2 => own_own h2 ho (by decide) b e1 e2)
      obtain ⟨Ai, ci, rfl, hli, _⟩ := own_lists h3
      exact ⟨Ai, ci, by rw [List.getElem?_append_left (by omega)]; exact h1, hli⟩
    · rw [List.getElem?_append_right h] at hL
      obtain ⟨Ai, ci, h1, h2⟩ := hc.2.2.2 _ L hL
      have B22 := B20.trans (b22.mono B20.size)
      exact ⟨Ai, ci, by rw [List.getElem?_append_right (by omega), hrl, hn]; exact h1, (h2.below B22).more B22.size⟩
  obtain ⟨Ai, ci, h1, h2⟩ := key
  obtain ⟨bb, o, rfl, hb, hcell⟩ := hl.plain (by intro e; rw [e] at h1; simp at h1)
  exact ⟨bb, o, Ai, ci, rfl, hb, hcell i _ h1, h2⟩
def GaveR (n : Nat) (Ls : List (List Pt)) (w : World) (e : Ending) (w' : World) : Prop := ∃ A c rows, e = .returned (.slice A n c) ∧ w'.ownsRow w.heap.size 48 1 (.slice A n c) n rows ∧ Inner w' w.heap.size Ls rows ∧ Below w.heap.size w w'
theorem gaveR {n : Nat} {Ls : List (List Pt)} {w : World} {e : Ending} {w' : World} (hn : Ls.length = n) (h : MadeOut w Ls e w') : GaveR n Ls w e w' := by
  obtain ⟨v, h1, ⟨rows, h2, h3⟩, h4⟩ := h
  obtain ⟨A, c, rfl, _⟩ := own_lists h2
  subst hn
  exact ⟨A, c, rows, h1, h2, h3, h4⟩

variable {W : World}
set_option maxRecDepth 100000 in
theorem walk_large (A A2 : Option Addr) (c c2 : Nat) (a b : List (List Pt)) (ha : OutAt W W.heap.size A a) (hb : OutAt W W.heap.size A2 b) (ma : ∀ L ∈ a, L.length ≤ 17592186044416) (mb : ∀ L ∈ b, L.length ≤ 17592186044416) (na : a.length ≤ 9223372036854775807) (nb : b.length ≤ 9223372036854775807) (h : bigB a = true ∨ (bigB a = false ∧ bigB b = true)) :
    Calls Try.prog 6 #[.slice A a.length c, .slice A2 b.length c2] W fun e w' => e = .returned (.bool true) ∧ Below W.heap.size W w' := by
  rcases h with h | ⟨h, h'⟩
  · have CLa := fun w1 (b1 : Below W.heap.size W w1) => large_any W.heap.size A c a w1 b1.size (ha.below b1) ma na true h
    clear ha hb ma mb h
    generalize a.length = n at *
    generalize b.length = n2 at *
    go_enter Try.func6, Try.ntmps6
    go_wp2_with (first | (go_at_call 7; ((with_reducible refine (CLa _ (Below.refl _ _)).mono ?_); rintro e w1 ⟨rfl, B1⟩)) | (go_at_call 8; ((with_reducible refine (lives10 _).mono ?_); rintro e w2 ⟨rfl, b2⟩)))
    go_ret
    exact ⟨rfl, B1.trans (b2.mono B1.size)⟩
  · have CLa := fun w1 (b1 : Below W.heap.size W w1) => large_any W.heap.size A c a w1 b1.size (ha.below b1) ma na false h
    have CLb := fun w1 (b1 : Below W.heap.size W w1) => large_any W.heap.size A2 c2 b w1 b1.size (hb.below b1) mb nb true h'
    clear ha hb ma mb h h'
    generalize a.length = n at *
    generalize b.length = n2 at *
    go_enter Try.func6, Try.ntmps6
    go_wp2_with (first | (go_at_call 7; ((with_reducible refine (CLa _ (Below.refl _ _)).mono ?_); rintro e w1 ⟨rfl, B1⟩)) | (go_at_call 7; ((with_reducible refine (CLb _ B1).mono ?_); rintro e w2 ⟨rfl, b2⟩; have B2 := B1.trans (b2.mono B1.size))) | (go_at_call 8; ((with_reducible refine (lives10 _).mono ?_); rintro e w3 ⟨rfl, b3⟩)))
    go_ret
    exact ⟨rfl, B2.trans (b3.mono B2.size)⟩

set_option maxRecDepth 100000 in
set_option maxHeartbeats 8000000 in
theorem walk_small (A A2 : Option Addr) (c c2 : Nat) (a b : List (List Pt)) (ha : OutAt W W.heap.size A a) (hb : OutAt W W.heap.size A2 b) (ma : ∀ L ∈ a, L.length ≤ 17592186044416) (mb : ∀ L ∈ b, L.length ≤ 17592186044416) (na : a.length ≤ 9223372036854775807) (nb : b.length ≤ 9223372036854775807) (h1 : bigB a = false) (h2 : bigB b = false) :
    Calls Try.prog 6 #[.slice A a.length c, .slice A2 b.length c2] W fun e w' => e = .returned (.bool true) ∧ Below W.heap.size W w' := by
  have s2a := sm_of h1
  have s2b := sm_of h2
  have sa := s2a.sm
  have sb := s2b.sm
  have srv : Sm (a.map revL) := ⟨by rw [List.length_map]; exact sa.1, fun L hL => by
    obtain ⟨M, hM, rfl⟩ := List.mem_map.1 hL
    rw [revL_len]; exact sa.2 M hM⟩
  have CLa := fun w1 (b1 : Below W.heap.size W w1) => large_any W.heap.size A c a w1 b1.size (ha.below b1) ma na false h1
  have CLb := fun w1 (b1 : Below W.heap.size W w1) => large_any W.heap.size A2 c2 b w1 b1.size (hb.below b1) mb nb false h2
  have CCa := fun w1 (b1 : Below W.heap.size W w1) => (lcopied_any W.heap.size A c a w1 b1.size (ha.below b1) sa).mono fun _ _ k => gave (n := a.length) rfl k
  have CCb := fun w1 (b1 : Below W.heap.size W w1) => (lcopied_any W.heap.size A2 c2 b w1 b1.size (hb.below b1) sb).mono fun _ _ k => gave (n := b.length) rfl k
  have CCo := fun w1 (b1 : Below W.heap.size W w1) => (lcopied_any W.heap.size A c a w1 b1.size (ha.below b1) sa).mono fun _ _ k => gaveR (n := a.length) rfl k
  have CJ0 := fun (w1 : World) A c A2 c2 (o : OutAt w1 w1.heap.size A a) (o2 : OutAt w1 w1.heap.size A2 b) => ojoin_any w1.heap.size A A2 c c2 a b w1 (Nat.le_refl _) o o2 s2a s2b
  have CRa := fun (w1 : World) A c (o : OutAt w1 w1.heap.size A a) => (reverse_any w1.heap.size A c a w1 (Nat.le_refl _) o sa).mono fun _ _ k => gave (n := a.length) (List.length_map _) k
  have CRR := fun w1 (b1 : Below W.heap.size W w1) => (rreverse_any W.heap.size A c a w1 b1.size (ha.below b1) sa).mono fun _ _ k => gave (n := a.length) (List.length_map _) k
  have CS1 := fun (w1 : World) A c A2 c2 (o : OutAt w1 w1.heap.size A (a.map revL)) (o2 : OutAt w1 w1.heap.size A2 (a.map revL)) => rsame_any w1.heap.size A A2 c c2 (a.map revL) (a.map revL) w1 (Nat.le_refl _) o o2 srv srv true (by simp)
  have CC7 := fun (w1 : World) A c (o : OutAt w1 w1.heap.size A (a.map revL)) => (lcopied_any w1.heap.size A c (a.map revL) w1 (Nat.le_refl _) o srv).mono fun _ _ k => gave (n := a.length) (List.length_map _) k
  have CR7 := fun (w1 : World) A c (o : OutAt w1 w1.heap.size A (a.map revL)) => (reverse_any w1.heap.size A c (a.map revL) w1 (Nat.le_refl _) o srv).mono fun _ _ k => gave (n := a.length) (by rw [List.length_map, List.length_map]) k
  rw [rev_twice] at CR7
  have CS2 := fun (w1 : World) (b1 : Below W.heap.size W w1) A' c' (o : OutAt w1 w1.heap.size A' a) => rsame_any w1.heap.size A' A c' c a a w1 (Nat.le_refl _) o ((ha.below b1).more b1.size) sa sa true (by simp)
  obtain ⟨r, hr⟩ : ∃ r, decide (a = b) = r := ⟨_, rfl⟩
  have CS3 := fun (w1 : World) (b1 : Below W.heap.size W w1) => same_any W.heap.size A A2 c c2 a b w1 b1.size (ha.below b1) (hb.below b1) sa sb r hr
  have CS4 := fun (w1 : World) (b1 : Below W.heap.size W w1) => rsame_any W.heap.size A A2 c c2 a b w1 b1.size (ha.below b1) (hb.below b1) sa sb r hr
  have CS5 := fun (w1 : World) (b1 : Below W.heap.size W w1) => same_any W.heap.size A A c c a a w1 b1.size (ha.below b1) (ha.below b1) sa sa true (by simp)
  have CKa := fun w1 (b1 : Below W.heap.size W w1) => rcheck_any W.heap.size A c a w1 b1.size (ha.below b1) sa
  have CKb := fun w1 (b1 : Below W.heap.size W w1) => rcheck_any W.heap.size A2 c2 b w1 b1.size (hb.below b1) sb
  rw [chk_same] at CKa CKb
  have CNa := fun w1 (b1 : Below W.heap.size W w1) => rcount_any W.heap.size A c a w1 b1.size (ha.below b1) sa
  have CNb := fun w1 (b1 : Below W.heap.size W w1) => rcount_any W.heap.size A2 c2 b w1 b1.size (hb.below b1) sb
  have CS6 := fun (w1 : World) A c A2 c2 (o : OutAt w1 w1.heap.size A (a ++ b)) (o2 : OutAt w1 w1.heap.size A2 (a ++ b)) => rsame_any w1.heap.size A A2 c c2 (a ++ b) (a ++ b) w1 (Nat.le_refl _) o o2 (s2a.app s2b) (s2a.app s2b) true (by simp)
  rw [List.length_append] at CS6
  simp only [List.length_map] at CS1 CC7 CR7
  have hka : a.length ≤ 300 ∧ cntO a ≤ 5000 := big_no h1
  have hkb : b.length ≤ 300 ∧ cntO b ≤ 5000 := big_no h2
  have hjm := join_many (a := a) (b := b)
  have hJE : joinE a b = if chkE a = 0 then (if chkE b = 0 then joinE a b else chkE b) else chkE a := by
    unfold joinE
    by_cases e1 : chkE a = 0
    · rw [if_pos e1, if_pos e1]
      by_cases e2 : chkE b = 0
      · rw [if_pos e2, if_pos e2]
      · rw [if_neg e2, if_neg e2]
    · rw [if_neg e1, if_neg e1]
  obtain ⟨cb, hcb⟩ := cells_of hb rfl
  have HCB := Lib.hid hcb
  have CJN : joinE a b ≠ 0 → ∀ (w1 : World) A c A2 c2, OutAt w1 w1.heap.size A a → OutAt w1 w1.heap.size A2 b → Calls Try.prog 21 #[.slice A a.length c, .slice A2 b.length c2] w1 fun e w' => e = .returned (.tuple #[.slice none 0 0, .int .i64 (joinE a b)]) ∧ Below w1.heap.size w1 w' := fun hj w1 A c A2 c2 o o2 => (CJ0 w1 A c A2 c2 o o2).mono fun _ _ k => k.1 hj
  have CJY : joinE a b = 0 → ∀ (w1 : World) A c A2 c2, OutAt w1 w1.heap.size A a → OutAt w1 w1.heap.size A2 b → Calls Try.prog 21 #[.slice A a.length c, .slice A2 b.length c2] w1 fun e w' => ∃ A5 c5, e = .returned (.tuple #[.slice A5 (a.length + b.length) c5, .int .i64 0]) ∧ OutAt w' w'.heap.size A5 (a ++ b) ∧ Below w1.heap.size w1 w' := fun hj w1 A c A2 c2 o o2 => (CJ0 w1 A c A2 c2 o o2).mono fun _ _ k => by
    obtain ⟨v, k1, k2, k3⟩ := k.2 hj
    obtain ⟨A5, c5, rfl, o5⟩ := k2.out
    rw [List.length_append] at k1
    exact ⟨A5, c5, k1, o5, k3⟩
  obtain ⟨i1, hi1, hz1, hs1, hy1⟩ := info_parts1 ptInfo
  obtain ⟨i2, hi2, hz2, hs2, hy2⟩ := info_parts1 rowInfo
  have HI1 := Lib.hid hi1
  have HZ1 := Lib.hid hz1
  have HS1 := Lib.hid hs1
  have HY1 := Lib.hid hy1
  have HI2 := Lib.hid hi2
  have HZ2 := Lib.hid hz2
  have HS2 := Lib.hid hs2
  have HY2 := Lib.hid hy2
  clear hi1 hz1 hs1 hy1 hi2 hz2 hs2 hy2
  obtain ⟨n, hnn⟩ : ∃ n, n = a.length := ⟨_, rfl⟩
  obtain ⟨n2, hnn2⟩ : ∃ n, n = b.length := ⟨_, rfl⟩
  have HN := Lib.hid hnn
  have HN2 := Lib.hid hnn2
  rw [← hnn2] at HCB
  clear ha hb ma mb na nb h1 h2 s2a s2b sa sb srv CJ0 hr hcb
  generalize joinE a b = jj at *
  generalize chkE a = x at *
  generalize chkE b = y at *
  generalize cntO a = ka at *
  generalize cntO b = kb at *
  rw [← hnn, ← hnn2] at hjm CJN CJY CS6
  rw [← hnn] at CLa CCa CCo CRa CRR CS1 CC7 CR7 CS2 CS3 CS4 CS5 CKa CNa hka ⊢
  rw [← hnn2] at CLb CCb CS3 CS4 CKb CNb hkb ⊢
  clear hnn hnn2
  obtain ⟨ka1, ka2⟩ := hka
  obtain ⟨kb1, kb2⟩ := hkb
  have dd : (x == x) = true := by simp
  have ddy : (y == y) = true := by simp
  by_cases hx : x = 0
  · rw [if_pos hx] at hJE
    subst hx
    by_cases hy : y = 0
    · subst hy
      have hj2 := hjm rfl rfl
      clear hjm
      by_cases hm : 256 < n + n2
      · rw [if_pos (.inl hm)] at hj2
        subst hj2
        have CJ := CJN (by decide)
        have d1 : decide (256 < (n : Int) + (n2 : Int)) = true := by simp; omega
        clear CJN CJY hJE CCo CS6
        cases r
        all_goals
          go_enter Try.func6, Try.ntmps6
          go_wp2_with (first
              | (go_at_call 7; ((with_reducible refine (CLa _ (Below.refl _ _)).mono ?_); rintro e w1 ⟨rfl, B1⟩))
              | (go_at_call 7; ((with_reducible refine (CLb _ B1).mono ?_); rintro e w2 ⟨rfl, b2⟩; have B2 := B1.trans (b2.mono B1.size)))
              | (go_at_call 11; ((with_reducible refine (CCa _ B2).mono ?_); rintro e w3 ⟨A3, c3, rfl, o3, b3⟩; have B3 := B2.trans (b3.mono B2.size)))
              | (go_at_call 11; ((with_reducible refine (CCb _ B3).mono ?_); rintro e w4 ⟨A4, c4, rfl, o4, b4⟩; have B4 := B3.trans (b4.mono B3.size); have o3 := up o3 b4))
              | (go_at_call 21; ((with_reducible refine (CJ _ _ _ _ _ o3 o4).mono ?_); rintro e w5 ⟨rfl, b5⟩; have B5 := B4.trans (b5.mono B4.size)))
              | (go_at_call 11; ((with_reducible refine (CCa _ B5).mono ?_); rintro e w6 ⟨A6, c6, rfl, o6, b6⟩; have B6 := B5.trans (b6.mono B5.size)))
              | (go_at_call 22; ((with_reducible refine (CRa _ _ _ o6).mono ?_); rintro e w7 ⟨A7, c7, rfl, o7, b7⟩; have B7 := B6.trans (b7.mono B6.size)))
              | (go_at_call 8; ((with_reducible refine (lives10 _).mono ?_); rintro e w8 ⟨rfl, b8⟩; have B8 := B7.trans (b8.mono B7.size); have o7 := up o7 b8))
              | (go_at_call 23; ((with_reducible refine (CRR _ B8).mono ?_); rintro e w9 ⟨A9, c9, rfl, o9, b9⟩; have B9 := B8.trans (b9.mono B8.size); have o7 := up o7 b9))
              | (go_at_call 18; ((with_reducible refine (CS1 _ _ _ _ _ o7 o9).mono ?_); rintro e w10 ⟨rfl, b10⟩; have B10 := B9.trans (b10.mono B9.size); have o7 := up o7 b10))
              | (go_at_call 11; ((with_reducible refine (CC7 _ _ _ o7).mono ?_); rintro e w11 ⟨A11, c11, rfl, o11, b11⟩; have B11 := B10.trans (b11.mono B10.size)))
              | (go_at_call 22; ((with_reducible refine (CR7 _ _ _ o11).mono ?_); rintro e w12 ⟨A12, c12, rfl, o12, b12⟩; have B12 := B11.trans (b12.mono B11.size)))
              | (go_at_call 18; ((with_reducible refine (CS2 _ B12 _ _ o12).mono ?_); rintro e w13 ⟨rfl, b13⟩; have B13 := B12.trans (b13.mono B12.size)))
              | (go_at_call 24; ((with_reducible refine (CS3 _ B13).mono ?_); rintro e w14 ⟨rfl, b14⟩; have B14 := B13.trans (b14.mono B13.size)))
              | (go_at_call 18; ((with_reducible refine (CS4 _ B14).mono ?_); rintro e w15 ⟨rfl, b15⟩; have B15 := B14.trans (b15.mono B14.size)))
              | (go_at_call 24; ((with_reducible refine (CS5 _ B15).mono ?_); rintro e w16 ⟨rfl, b16⟩; have B16 := B15.trans (b16.mono B15.size)))
              | (go_at_call 9; ((with_reducible refine (CKa _ B16).mono ?_); rintro e w17 ⟨rfl, b17⟩; have B17 := B16.trans (b17.mono B16.size)))
              | (go_at_call 9; ((with_reducible refine (CKb _ B17).mono ?_); rintro e w18 ⟨rfl, b18⟩; have B18 := B17.trans (b18.mono B17.size))))
          go_ret
          exact ⟨rfl, B18⟩
      · by_cases hm2 : 4096 < ka + kb
        · rw [if_pos (.inr hm2)] at hj2
          subst hj2
          have CJ := CJN (by decide)
          have d1 : decide (256 < (n : Int) + (n2 : Int)) = false := by simp; omega
          have d2 : decide (4096 < (ka : Int) + (kb : Int)) = true := by simp; omega
          clear CJN CJY hJE CCo CS6
          cases r
          all_goals
            go_enter Try.func6, Try.ntmps6
            go_wp2_with (first
                | (go_at_call 7; ((with_reducible refine (CLa _ (Below.refl _ _)).mono ?_); rintro e w1 ⟨rfl, B1⟩))
                | (go_at_call 7; ((with_reducible refine (CLb _ B1).mono ?_); rintro e w2 ⟨rfl, b2⟩; have B2 := B1.trans (b2.mono B1.size)))
                | (go_at_call 11; ((with_reducible refine (CCa _ B2).mono ?_); rintro e w3 ⟨A3, c3, rfl, o3, b3⟩; have B3 := B2.trans (b3.mono B2.size)))
                | (go_at_call 11; ((with_reducible refine (CCb _ B3).mono ?_); rintro e w4 ⟨A4, c4, rfl, o4, b4⟩; have B4 := B3.trans (b4.mono B3.size); have o3 := up o3 b4))
                | (go_at_call 21; ((with_reducible refine (CJ _ _ _ _ _ o3 o4).mono ?_); rintro e w5 ⟨rfl, b5⟩; have B5 := B4.trans (b5.mono B4.size)))
                | (go_at_call 11; ((with_reducible refine (CCa _ B5).mono ?_); rintro e w6 ⟨A6, c6, rfl, o6, b6⟩; have B6 := B5.trans (b6.mono B5.size)))
                | (go_at_call 22; ((with_reducible refine (CRa _ _ _ o6).mono ?_); rintro e w7 ⟨A7, c7, rfl, o7, b7⟩; have B7 := B6.trans (b7.mono B6.size)))
                | (go_at_call 8; ((with_reducible refine (lives10 _).mono ?_); rintro e w8 ⟨rfl, b8⟩; have B8 := B7.trans (b8.mono B7.size); have o7 := up o7 b8))
                | (go_at_call 23; ((with_reducible refine (CRR _ B8).mono ?_); rintro e w9 ⟨A9, c9, rfl, o9, b9⟩; have B9 := B8.trans (b9.mono B8.size); have o7 := up o7 b9))
                | (go_at_call 18; ((with_reducible refine (CS1 _ _ _ _ _ o7 o9).mono ?_); rintro e w10 ⟨rfl, b10⟩; have B10 := B9.trans (b10.mono B9.size); have o7 := up o7 b10))
                | (go_at_call 11; ((with_reducible refine (CC7 _ _ _ o7).mono ?_); rintro e w11 ⟨A11, c11, rfl, o11, b11⟩; have B11 := B10.trans (b11.mono B10.size)))
                | (go_at_call 22; ((with_reducible refine (CR7 _ _ _ o11).mono ?_); rintro e w12 ⟨A12, c12, rfl, o12, b12⟩; have B12 := B11.trans (b12.mono B11.size)))
                | (go_at_call 18; ((with_reducible refine (CS2 _ B12 _ _ o12).mono ?_); rintro e w13 ⟨rfl, b13⟩; have B13 := B12.trans (b13.mono B12.size)))
                | (go_at_call 24; ((with_reducible refine (CS3 _ B13).mono ?_); rintro e w14 ⟨rfl, b14⟩; have B14 := B13.trans (b14.mono B13.size)))
                | (go_at_call 18; ((with_reducible refine (CS4 _ B14).mono ?_); rintro e w15 ⟨rfl, b15⟩; have B15 := B14.trans (b15.mono B14.size)))
                | (go_at_call 24; ((with_reducible refine (CS5 _ B15).mono ?_); rintro e w16 ⟨rfl, b16⟩; have B16 := B15.trans (b16.mono B15.size)))
                | (go_at_call 9; ((with_reducible refine (CKa _ B16).mono ?_); rintro e w17 ⟨rfl, b17⟩; have B17 := B16.trans (b17.mono B16.size)))
                | (go_at_call 9; ((with_reducible refine (CKb _ B17).mono ?_); rintro e w18 ⟨rfl, b18⟩; have B18 := B17.trans (b18.mono B17.size)))
                | (go_at_call 14; ((with_reducible refine (CNa _ B18).mono ?_); rintro e w19 ⟨rfl, b19⟩; have B19 := B18.trans (b19.mono B18.size)))
                | (go_at_call 14; ((with_reducible refine (CNb _ B19).mono ?_); rintro e w20 ⟨rfl, b20⟩; have B20 := B19.trans (b20.mono B19.size))))
            go_ret
            exact ⟨rfl, B20⟩
        · rw [if_neg (by omega)] at hj2
          subst hj2
          have CJ := CJY rfl
          have d1 : decide (256 < (n : Int) + (n2 : Int)) = false := by simp; omega
          have d2 : decide (4096 < (ka : Int) + (kb : Int)) = false := by simp; omega
          clear CJN CJY hJE
          cases r
          all_goals
            go_enter Try.func6, Try.ntmps6
            go_wp2_with (first
                | (go_at_call 7; ((with_reducible refine (CLa _ (Below.refl _ _)).mono ?_); rintro e w1 ⟨rfl, B1⟩))
                | (go_at_call 7; ((with_reducible refine (CLb _ B1).mono ?_); rintro e w2 ⟨rfl, b2⟩; have B2 := B1.trans (b2.mono B1.size)))
                | (go_at_call 11; ((with_reducible refine (CCa _ B2).mono ?_); rintro e w3 ⟨A3, c3, rfl, o3, b3⟩; have B3 := B2.trans (b3.mono B2.size)))
                | (go_at_call 11; ((with_reducible refine (CCb _ B3).mono ?_); rintro e w4 ⟨A4, c4, rfl, o4, b4⟩; have B4 := B3.trans (b4.mono B3.size); have o3 := up o3 b4))
                | (go_at_call 21; ((with_reducible refine (CJ _ _ _ _ _ o3 o4).mono ?_); rintro e w5 ⟨A5, c5, rfl, o5, b5⟩; have B5 := B4.trans (b5.mono B4.size)))
                | (go_at_call 11; ((with_reducible refine (CCa _ B5).mono ?_); rintro e w6 ⟨A6, c6, rfl, o6, b6⟩; have B6 := B5.trans (b6.mono B5.size); have o5 := up o5 b6))
                | (go_at_call 22; ((with_reducible refine (CRa _ _ _ o6).mono ?_); rintro e w7 ⟨A7, c7, rfl, o7, b7⟩; have B7 := B6.trans (b7.mono B6.size); have o5 := up o5 b7))
                | (go_at_call 8; ((with_reducible refine (lives10 _).mono ?_); rintro e w8 ⟨rfl, b8⟩; have B8 := B7.trans (b8.mono B7.size); have o7 := up o7 b8; have o5 := up o5 b8))
                | (go_at_call 23; ((with_reducible refine (CRR _ B8).mono ?_); rintro e w9 ⟨A9, c9, rfl, o9, b9⟩; have B9 := B8.trans (b9.mono B8.size); have o7 := up o7 b9; have o5 := up o5 b9))
                | (go_at_call 18; ((with_reducible refine (CS1 _ _ _ _ _ o7 o9).mono ?_); rintro e w10 ⟨rfl, b10⟩; have B10 := B9.trans (b10.mono B9.size); have o7 := up o7 b10; have o5 := up o5 b10))
                | (go_at_call 11; ((with_reducible refine (CC7 _ _ _ o7).mono ?_); rintro e w11 ⟨A11, c11, rfl, o11, b11⟩; have B11 := B10.trans (b11.mono B10.size); have o5 := up o5 b11))
                | (go_at_call 22; ((with_reducible refine (CR7 _ _ _ o11).mono ?_); rintro e w12 ⟨A12, c12, rfl, o12, b12⟩; have B12 := B11.trans (b12.mono B11.size); have o5 := up o5 b12))
                | (go_at_call 18; ((with_reducible refine (CS2 _ B12 _ _ o12).mono ?_); rintro e w13 ⟨rfl, b13⟩; have B13 := B12.trans (b13.mono B12.size); have o5 := up o5 b13))
                | (go_at_call 24; ((with_reducible refine (CS3 _ B13).mono ?_); rintro e w14 ⟨rfl, b14⟩; have B14 := B13.trans (b14.mono B13.size); have o5 := up o5 b14))
                | (go_at_call 18; ((with_reducible refine (CS4 _ B14).mono ?_); rintro e w15 ⟨rfl, b15⟩; have B15 := B14.trans (b15.mono B14.size); have o5 := up o5 b15))
                | (go_at_call 24; ((with_reducible refine (CS5 _ B15).mono ?_); rintro e w16 ⟨rfl, b16⟩; have B16 := B15.trans (b16.mono B15.size); have o5 := up o5 b16))
                | (go_at_call 9; ((with_reducible refine (CKa _ B16).mono ?_); rintro e w17 ⟨rfl, b17⟩; have B17 := B16.trans (b17.mono B16.size); have o5 := up o5 b17))
                | (go_at_call 9; ((with_reducible refine (CKb _ B17).mono ?_); rintro e w18 ⟨rfl, b18⟩; have B18 := B17.trans (b18.mono B17.size); have o5 := up o5 b18))
                | (go_at_call 14; ((with_reducible refine (CNa _ B18).mono ?_); rintro e w19 ⟨rfl, b19⟩; have B19 := B18.trans (b19.mono B18.size); have o5 := up o5 b19))
                | (go_at_call 14; ((with_reducible refine (CNb _ B19).mono ?_); rintro e w20 ⟨rfl, b20⟩; have B20 := B19.trans (b20.mono B19.size); have o5 := up o5 b20))
                | (go_at_call 11; ((with_reducible refine (CCo _ B20).mono ?_); rintro e w21 ⟨A21, c21, rows, rfl, HRo, HRi, b21⟩; have B21 := B20.trans (b21.mono B20.size)))
                | (at_builtin; refine wpList_append_want _ rfl (.tmp 110) (.tmp 111) 22 rfl w20.heap.size 48 i2 (.slice none 0 0) 1 24 Try.underlying22 HI2.out HZ2.out HS2.out HY2.out rfl (by decide) _ n rows rfl HRo W.heap.size _ n2 _ cb rfl (HCB.out.1.below B21) (by rw [HCB.out.2.1, Nat.mul_one]) HCB.out.2.2.1 (by simp only [maxLen]; omega) (by omega) b21.size ?_; intro v22 w22 own22 hg22 _; obtain ⟨A22, c22, rfl, o22, b22⟩ := app_out b21 B20 HN.out HN2.out HRo HRi HCB.out own22 hg22; have B22 := B20.trans (b22.mono B20.size); have oy := up o5 b22)
                | (go_at_call 18; ((with_reducible refine (CS6 _ _ _ _ _ oy o22).mono ?_); rintro e w23 ⟨rfl, b23⟩; have B23 := B22.trans (b23.mono B22.size))))
            go_ret
            exact ⟨rfl, B23⟩
    · rw [if_neg hy] at hJE
      subst hJE
      have CJ := CJN hy
      have d3 : (jj == 0) = false := by simpa using hy
      have d4 : (jj != 0) = true := by simpa using hy
      clear CJN CJY hjm CCo CS6 hy
      cases r
      all_goals
        go_enter Try.func6, Try.ntmps6
        go_wp2_with (first
            | (go_at_call 7; ((with_reducible refine (CLa _ (Below.refl _ _)).mono ?_); rintro e w1 ⟨rfl, B1⟩))
            | (go_at_call 7; ((with_reducible refine (CLb _ B1).mono ?_); rintro e w2 ⟨rfl, b2⟩; have B2 := B1.trans (b2.mono B1.size)))
            | (go_at_call 11; ((with_reducible refine (CCa _ B2).mono ?_); rintro e w3 ⟨A3, c3, rfl, o3, b3⟩; have B3 := B2.trans (b3.mono B2.size)))
            | (go_at_call 11; ((with_reducible refine (CCb _ B3).mono ?_); rintro e w4 ⟨A4, c4, rfl, o4, b4⟩; have B4 := B3.trans (b4.mono B3.size); have o3 := up o3 b4))
            | (go_at_call 21; ((with_reducible refine (CJ _ _ _ _ _ o3 o4).mono ?_); rintro e w5 ⟨rfl, b5⟩; have B5 := B4.trans (b5.mono B4.size)))
            | (go_at_call 11; ((with_reducible refine (CCa _ B5).mono ?_); rintro e w6 ⟨A6, c6, rfl, o6, b6⟩; have B6 := B5.trans (b6.mono B5.size)))
            | (go_at_call 22; ((with_reducible refine (CRa _ _ _ o6).mono ?_); rintro e w7 ⟨A7, c7, rfl, o7, b7⟩; have B7 := B6.trans (b7.mono B6.size)))
            | (go_at_call 8; ((with_reducible refine (lives10 _).mono ?_); rintro e w8 ⟨rfl, b8⟩; have B8 := B7.trans (b8.mono B7.size); have o7 := up o7 b8))
            | (go_at_call 23; ((with_reducible refine (CRR _ B8).mono ?_); rintro e w9 ⟨A9, c9, rfl, o9, b9⟩; have B9 := B8.trans (b9.mono B8.size); have o7 := up o7 b9))
            | (go_at_call 18; ((with_reducible refine (CS1 _ _ _ _ _ o7 o9).mono ?_); rintro e w10 ⟨rfl, b10⟩; have B10 := B9.trans (b10.mono B9.size); have o7 := up o7 b10))
            | (go_at_call 11; ((with_reducible refine (CC7 _ _ _ o7).mono ?_); rintro e w11 ⟨A11, c11, rfl, o11, b11⟩; have B11 := B10.trans (b11.mono B10.size)))
            | (go_at_call 22; ((with_reducible refine (CR7 _ _ _ o11).mono ?_); rintro e w12 ⟨A12, c12, rfl, o12, b12⟩; have B12 := B11.trans (b12.mono B11.size)))
            | (go_at_call 18; ((with_reducible refine (CS2 _ B12 _ _ o12).mono ?_); rintro e w13 ⟨rfl, b13⟩; have B13 := B12.trans (b13.mono B12.size)))
            | (go_at_call 24; ((with_reducible refine (CS3 _ B13).mono ?_); rintro e w14 ⟨rfl, b14⟩; have B14 := B13.trans (b14.mono B13.size)))
            | (go_at_call 18; ((with_reducible refine (CS4 _ B14).mono ?_); rintro e w15 ⟨rfl, b15⟩; have B15 := B14.trans (b15.mono B14.size)))
            | (go_at_call 24; ((with_reducible refine (CS5 _ B15).mono ?_); rintro e w16 ⟨rfl, b16⟩; have B16 := B15.trans (b16.mono B15.size)))
            | (go_at_call 9; ((with_reducible refine (CKa _ B16).mono ?_); rintro e w17 ⟨rfl, b17⟩; have B17 := B16.trans (b17.mono B16.size)))
            | (go_at_call 9; ((with_reducible refine (CKb _ B17).mono ?_); rintro e w18 ⟨rfl, b18⟩; have B18 := B17.trans (b18.mono B17.size))))
        go_ret
        exact ⟨rfl, B18⟩
  · rw [if_neg hx] at hJE
    subst hJE
    have CJ := CJN hx
    have d3 : (jj == 0) = false := by simpa using hx
    have d4 : (jj != 0) = true := by simpa using hx
    clear CJN CJY hjm CCo CS6 hx
    cases r
    all_goals
      go_enter Try.func6, Try.ntmps6
      go_wp2_with (first
          | (go_at_call 7; ((with_reducible refine (CLa _ (Below.refl _ _)).mono ?_); rintro e w1 ⟨rfl, B1⟩))
          | (go_at_call 7; ((with_reducible refine (CLb _ B1).mono ?_); rintro e w2 ⟨rfl, b2⟩; have B2 := B1.trans (b2.mono B1.size)))
          | (go_at_call 11; ((with_reducible refine (CCa _ B2).mono ?_); rintro e w3 ⟨A3, c3, rfl, o3, b3⟩; have B3 := B2.trans (b3.mono B2.size)))
          | (go_at_call 11; ((with_reducible refine (CCb _ B3).mono ?_); rintro e w4 ⟨A4, c4, rfl, o4, b4⟩; have B4 := B3.trans (b4.mono B3.size); have o3 := up o3 b4))
          | (go_at_call 21; ((with_reducible refine (CJ _ _ _ _ _ o3 o4).mono ?_); rintro e w5 ⟨rfl, b5⟩; have B5 := B4.trans (b5.mono B4.size)))
          | (go_at_call 11; ((with_reducible refine (CCa _ B5).mono ?_); rintro e w6 ⟨A6, c6, rfl, o6, b6⟩; have B6 := B5.trans (b6.mono B5.size)))
          | (go_at_call 22; ((with_reducible refine (CRa _ _ _ o6).mono ?_); rintro e w7 ⟨A7, c7, rfl, o7, b7⟩; have B7 := B6.trans (b7.mono B6.size)))
          | (go_at_call 8; ((with_reducible refine (lives10 _).mono ?_); rintro e w8 ⟨rfl, b8⟩; have B8 := B7.trans (b8.mono B7.size); have o7 := up o7 b8))
          | (go_at_call 23; ((with_reducible refine (CRR _ B8).mono ?_); rintro e w9 ⟨A9, c9, rfl, o9, b9⟩; have B9 := B8.trans (b9.mono B8.size); have o7 := up o7 b9))
          | (go_at_call 18; ((with_reducible refine (CS1 _ _ _ _ _ o7 o9).mono ?_); rintro e w10 ⟨rfl, b10⟩; have B10 := B9.trans (b10.mono B9.size); have o7 := up o7 b10))
          | (go_at_call 11; ((with_reducible refine (CC7 _ _ _ o7).mono ?_); rintro e w11 ⟨A11, c11, rfl, o11, b11⟩; have B11 := B10.trans (b11.mono B10.size)))
          | (go_at_call 22; ((with_reducible refine (CR7 _ _ _ o11).mono ?_); rintro e w12 ⟨A12, c12, rfl, o12, b12⟩; have B12 := B11.trans (b12.mono B11.size)))
          | (go_at_call 18; ((with_reducible refine (CS2 _ B12 _ _ o12).mono ?_); rintro e w13 ⟨rfl, b13⟩; have B13 := B12.trans (b13.mono B12.size)))
          | (go_at_call 24; ((with_reducible refine (CS3 _ B13).mono ?_); rintro e w14 ⟨rfl, b14⟩; have B14 := B13.trans (b14.mono B13.size)))
          | (go_at_call 18; ((with_reducible refine (CS4 _ B14).mono ?_); rintro e w15 ⟨rfl, b15⟩; have B15 := B14.trans (b15.mono B14.size)))
          | (go_at_call 24; ((with_reducible refine (CS5 _ B15).mono ?_); rintro e w16 ⟨rfl, b16⟩; have B16 := B15.trans (b16.mono B15.size)))
          | (go_at_call 9; ((with_reducible refine (CKa _ B16).mono ?_); rintro e w17 ⟨rfl, b17⟩; have B17 := B16.trans (b17.mono B16.size))))
      go_ret
      exact ⟨rfl, B17⟩

theorem walk (A : Option Addr) (c : Nat) (a : List (List Pt)) (ha : OutAt W W.heap.size A a) (ma : ∀ L ∈ a, L.length ≤ 17592186044416) (na : a.length ≤ 9223372036854775807) (A2 : Option Addr) (c2 : Nat) (b : List (List Pt)) (hb : OutAt W W.heap.size A2 b) (mb : ∀ L ∈ b, L.length ≤ 17592186044416) (nb : b.length ≤ 9223372036854775807) (W' : World) (hW : W' = W) :
    Calls Try.prog 6 #[.slice A a.length c, .slice A2 b.length c2] W' fun e w' => e = .returned (.bool true) ∧ Below W'.heap.size W' w' := by
  subst hW
  cases h1 : bigB a
  · cases h2 : bigB b
    · exact walk_small A A2 c c2 a b ha hb ma mb na nb h1 h2
    · exact walk_large A A2 c c2 a b ha hb ma mb na nb (.inr ⟨h1, h2⟩)
  · exact walk_large A A2 c c2 a b ha hb ma mb na nb (.inl h1)

set_option linter.unusedVariables false in
set_option maxRecDepth 100000 in
theorem lifted (os : Os) (started : os.Started) (H : Type) (enc : TypeId × Value → H) :
    ReturnsInHanded {} Try.checked os 6 .any (Rows.outlineJoinsSpec.pre6 enc Try.prog Try.f6 Rows.outlineJoinsRow.domain false) (Rows.outlineJoinsSpec.post enc Try.prog Try.f6 false true false false) := by
  refine returnsInHanded_of_change_sized (C := Try.checked) Try.own started (by kernel_rfl) Try.func6
    (ChangeSpec.witness6 (enc := enc) (C := Try.checked) false ⟨#[], #[.slice none 0 0, .slice none 0 0], []⟩ 8 (by kernel_rfl) (by kernel_rfl) (by kernel_rfl) (by kernel_rfl)) ?_
  intro W base args ds gs before hval0 hW hcnd hsz0 _
  have hsz : (DataW.weightsEach Try.prog (Try.f6.params.toList ++ Rows.outlineJoinsSpec.plain.varTypes Try.prog) (ds ++ gs)).all (· ≤ reachBytes) = true := hsz0
  have hval : ∀ (j : Nat) t v, Try.f6.params[j]? = some t → args[j]? = some v → Value.okWide Try.prog W .any base t v := hval0
  have hW' := hW
  obtain ⟨p, q, hA0, hV, rfl, hfz, hnd⟩ := hW
  have hA : DataW.TrodAll enc Try.prog W 0 (fun _ => true) true Try.f6.params.toList args.toList ds p := hA0
  rw [Try.params6] at hA hval hsz
  obtain ⟨v0, vs0, d0, ds0, p0, q0, hargs, rfl, rfl, h0, r0⟩ := trodAll_cons hA
  obtain ⟨v1, vs1, d1, ds1, p1, q1, rfl, rfl, rfl, h1, r1⟩ := trodAll_cons r0
  obtain ⟨rfl, rfl, rfl⟩ := trodAll_nil r1
  obtain rfl : args = #[v0, v1] := by cases args; simp_all
  obtain ⟨rfl, rfl⟩ := trodVars_none hV
  have hz0 : ∀ m ∈ d0.weights Try.prog 22, m ≤ reachBytes := fun m hm => of_decide_eq_true (List.all_eq_true.1 hsz m (DataW.weights_mem_each (j := 0) rfl rfl m hm))
  obtain ⟨A0, c0, L0, rfl, k0, m0, n0⟩ := open_outl Try.underlying22 Try.underlying48 (by kernel_rfl) Try.underlying43 (by kernel_rfl) (by kernel_rfl) (by kernel_rfl) Try.underlying3 Try.underlying3 Try.underlying3 (hval 0 22 v0 rfl rfl) h0 hz0
  have hz1 : ∀ m ∈ d1.weights Try.prog 22, m ≤ reachBytes := fun m hm => of_decide_eq_true (List.all_eq_true.1 hsz m (DataW.weights_mem_each (j := 1) rfl rfl m hm))
  obtain ⟨A1, c1, L1, rfl, k1, m1, n1⟩ := open_outl Try.underlying22 Try.underlying48 (by kernel_rfl) Try.underlying43 (by kernel_rfl) (by kernel_rfl) (by kernel_rfl) Try.underlying3 Try.underlying3 Try.underlying3 (hval 1 22 v1 rfl rfl) h1 hz1
  clear hA0 hval0
  simp only [List.append_nil] at hW'
  refine (walk A0 c0 L0 k0 m0 n0 A1 c1 L1 k1 m1 n1 W rfl).mono fun e W' ⟨he, hg⟩ => ?_
  subst he
  exact ⟨_, rfl, law_post Try.laidOut rfl Try.underlying4 (by kernel_rfl) rfl rfl rfl rfl hW' hg⟩

theorem over : Rows.outlineJoinsRow.holds Try.pinned (OpenSpec.ofChange Rows.outlineJoinsSpec) :=
  OpenClaim.holds_of_wide 6 Try.f6 rfl rfl rfl rfl rfl rfl rfl ⟨rfl, rfl, rfl, rfl, rfl⟩ rfl rfl rfl rfl rfl (by kernel_rfl) Try.func6 (by kernel_rfl)
    (of_decide_eq_true (by kernel_rfl)) (by unfold Func.isWrapper; first | (rw [if_pos (by decide +kernel)]; kernel_rfl) | (rw [if_neg (by decide +kernel)]; exact ⟨rfl, rfl⟩))
    (fun os started H enc _ => lifted os started H enc)

theorem proved : Rows.OutlineJoinsSaid :=
  over

end Go.Proofs.Ytjpffakhhfcgaaa.outlineJoins
