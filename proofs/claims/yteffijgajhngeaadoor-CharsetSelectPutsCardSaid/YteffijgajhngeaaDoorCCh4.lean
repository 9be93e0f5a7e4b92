/- Part 5 of the proof: ChA, Wide, ChainW, Met17, From, Rr, RuN, ChB. -/
import Derived.Deep.DeepAppendWide
import Derived.Test.YteffijgajhngeaaDoorCCh3

namespace Go.Proofs.YteffijgajhngeaaDoor
open Go Go.RowKit
set_option linter.unusedVariables false
set_option linter.unusedSimpArgs false

theorem cbeyond_any (a b x : Int) (p q : Nat) (w : World) (hp : w.cell? ⟨p, 0, none⟩ = some (.int .i64 a)) (hq : w.cell? ⟨q, 0, none⟩ = some (.int .i64 b)) :
    Calls Tryd.prog 50 #[.int .i64 x, .pointer (some ⟨p, 0, none⟩), .pointer (some ⟨q, 0, none⟩)] w fun e w' => e = .returned (.bool (!inB a b x)) ∧ w = w' := by
  by_cases h1 : x < a
  · have e : (!inB a b x) = true := by
      cases h : inB a b x
      · rfl
      · have := inB_true h; omega
    have E := Lib.hid e
    clear e
    go_enter Tryd.func50, Tryd.ntmps50
    go_wp2
    go_ret
    exact ⟨congrArg (fun r => Ending.returned (.bool r)) E.out.symm, rfl⟩
  · by_cases h2 : b < x
    · have e : (!inB a b x) = true := by
        cases h : inB a b x
        · rfl
        · have := inB_true h; omega
      have E := Lib.hid e
      clear e
      go_enter Tryd.func50, Tryd.ntmps50
      go_wp2
      go_ret
      exact ⟨congrArg (fun r => Ending.returned (.bool r)) E.out.symm, rfl⟩
    · have e : (!inB a b x) = false := by rw [inB_yes (by omega) (by omega)]; rfl
      have E := Lib.hid e
      clear e
      go_enter Tryd.func50, Tryd.ntmps50
      go_wp2
      go_ret
      exact ⟨congrArg (fun r => Ending.returned (.bool r)) E.out.symm, rfl⟩
/-- Are all within? -/
def allB (a b : Int) (L : List Int) : Bool := L.all (inB a b)
theorem any_not (a b : Int) (L : List Int) : (L.any fun x => !inB a b x) = !allB a b L := by
  unfold allB
  induction L with
  | nil => rfl
  | cons x L ih => simp only [List.any_cons, List.all_cons, ih, Bool.not_and]
set_option maxRecDepth 100000 in
theorem cwithin_any (a b : Int) (n : Nat) (B : Nat) (A : Option Addr) (c : Nat) (L : List Int) (w : World) (hB : B ≤ w.heap.size) (hL : Lists w B A (intCells L)) (hnn : L.length = n) (hn : n ≤ 1099511627776) (r : Bool) (hr : allB a b L = r) :
    Calls Tryd.prog 31 #[.int .i64 a, .int .i64 b, .slice A n c] w fun e w' => e = .returned (.bool r) ∧ Below w.heap.size w w' := by
  have ee : Enters Tryd.prog 50 := enters_of Tryd.func50 (by kernel_rfl) rfl
  have C : ∀ (W : World), Below w.heap.size w W → ∀ lb : Array Value, (∀ (W1 : World) (y : Int), Below W.heap.size W W1 → Calls Tryd.prog 50 (#[.int .i64 y] ++ lb) W1 fun e w' => e = .returned (.bool (!inB a b y)) ∧ Below W1.heap.size W1 w') →
      Calls Tryd.prog 51 #[.slice A n c, .func (.func 50) #[] lb] W fun e w' => e = .returned (.bool (!r)) ∧ Below W.heap.size W w' := by
    intro W b1 lb hp
    have h2 := hasInt_any 50 lb (fun x => !inB a b x) B A c L W (Nat.le_trans hB b1.size) (hL.below (b1.mono hB)) (by omega) ee (fun W1 y _ hb => hp W1 y hb)
    rw [any_not, hr, hnn] at h2
    exact h2
  clear hL ee hr hnn
  cases r
  all_goals
    go_enter Tryd.func31, Tryd.ntmps31
    go_wp2_with (first | (go_at_call 51; ((refine (C _ (((Below.refl _ _).alloc (Nat.le_refl _) _).alloc (by simp) _) #[.pointer (some ⟨w.heap.size, 0, none⟩), .pointer (some ⟨w.heap.size + 1, 0, none⟩)] (fun W1 y b1 => (cbeyond_any a b y w.heap.size (w.heap.size + 1) W1 ((b1.cell (p := ⟨w.heap.size, 0, none⟩) (by simp <;> omega)).trans (by simp)) ((b1.cell (p := ⟨w.heap.size + 1, 0, none⟩) (by simp)).trans (by simp))).mono (fun e w2 ⟨h1, h2⟩ => ⟨h1, h2 ▸ Below.refl _ _⟩))).mono ?_); rintro e w1 ⟨rfl, b⟩)))
    go_ret
    exact ⟨rfl, (((Below.refl _ _).alloc (Nat.le_refl _) _).alloc (by simp) _).trans (b.mono (by simp <;> omega))⟩
theorem cwithin_new (a b x : Int) (r : Bool) (hr : inB a b x = r) (W : World) (T : TypeId) (k : Nat) (hk : k = W.heap.size) :
    Calls Tryd.prog 31 #[.int .i64 a, .int .i64 b, .slice (some ⟨k, 0, none⟩) 1 1] (W.alloc (.cells #[.int .i64 x] T)) fun e w' => e = .returned (.bool r) ∧ Below W.heap.size W w' := by
  subst hk
  refine (cwithin_any a b 1 _ _ 1 [x] _ (Nat.le_refl _) (lists_new W #[.int .i64 x] T [.int .i64 x] (fun j u hu => by simpa using hu)) rfl (by decide) r (by unfold allB; simpa using hr)).mono fun e w' ⟨h1, h2⟩ => ⟨h1, ?_⟩
  exact ((Below.refl _ _).alloc (Nat.le_refl _) _).trans (h2.mono (by simp))

theorem ccount_any (x : Int) (r : Bool) (hr : inB 1 65535 x = r) (w : World) :
    Calls Tryd.prog 21 #[.int .i64 x] w fun e w' => e = .returned (.bool r) ∧ Below w.heap.size w w' := by
  have C := fun W T k hk => cwithin_new 1 65535 x r hr W T k hk
  go_enter Tryd.func21, Tryd.ntmps21
  go_wp2_with (first | (go_at_call 31; ((with_reducible refine (C _ _ _ (by simp)).mono ?_); rintro e w1 ⟨rfl, b⟩)))
  go_ret
  exact ⟨rfl, b⟩

theorem cformat_any (x : Int) (r : Bool) (hr : inB 0 2 x = r) (w : World) :
    Calls Tryd.prog 25 #[.int .i64 x] w fun e w' => e = .returned (.bool r) ∧ Below w.heap.size w w' := by
  have C := fun W T k hk => cwithin_new 0 2 x r hr W T k hk
  go_enter Tryd.func25, Tryd.ntmps25
  go_wp2_with (first | (go_at_call 31; ((with_reducible refine (C _ _ _ (by simp)).mono ?_); rintro e w1 ⟨rfl, b⟩)))
  go_ret
  exact ⟨rfl, b⟩

theorem cfonts_any (x : Int) (r : Bool) (hr : inB 1 256 x = r) (w : World) :
    Calls Tryd.prog 40 #[.int .i64 x] w fun e w' => e = .returned (.bool r) ∧ Below w.heap.size w w' := by
  have C := fun W T k hk => cwithin_new 1 256 x r hr W T k hk
  go_enter Tryd.func40, Tryd.ntmps40
  go_wp2_with (first | (go_at_call 31; ((with_reducible refine (C _ _ _ (by simp)).mono ?_); rintro e w1 ⟨rfl, b⟩)))
  go_ret
  exact ⟨rfl, b⟩
theorem clen_any (n : Nat) (hn : n ≤ 65536) (w : World) : Calls Tryd.prog 23 #[.int .i64 (n : Nat)] w fun e w' => e = .returned (.int .i64 ((1 + 4 * n : Nat) : Int)) ∧ w' = w := by
  go_enter Tryd.func23, Tryd.ntmps23
  go_wp2
  go_ret
  exact ⟨ret_int (by omega), rfl⟩
theorem cslen_any (n : Nat) (hn : n ≤ 65536) (w : World) : Calls Tryd.prog 41 #[.int .i64 (n : Nat)] w fun e w' => e = .returned (.int .i64 ((5 + 3 * n : Nat) : Int)) ∧ w' = w := by
  go_enter Tryd.func41, Tryd.ntmps41
  go_wp2
  go_ret
  exact ⟨ret_int (by omega), rfl⟩
/-- Where a number is first. -/
def idxG (L : List Int) (x : Int) : Nat := (L.takeWhile fun y => !(y == x)).length
theorem idxG_step {L : List Int} {x y : Int} {k : Nat} (hy : L[k]? = some y) (hk : k ≤ idxG L x) (hne : y ≠ x) : k + 1 ≤ idxG L x := by
  unfold idxG at *
  induction L generalizing k with
  | nil => simp at hy
  | cons z L ih =>
    cases k with
    | zero =>
      simp at hy; subst hy
      simp [hne]
    | succ k =>
      simp only [List.takeWhile_cons] at hk ⊢
      split at hk
      · rename_i h
        simp only [List.length_cons] at hk ⊢
        have := ih (k := k) (by simpa using hy) (by omega)
        rw [if_pos h] at *
        simp only [List.length_cons]
        omega
      · simp at hk
theorem idxG_at {L : List Int} {x : Int} {k : Nat} (hy : L[k]? = some x) (hk : k ≤ idxG L x) : k = idxG L x := by
  unfold idxG at *
  induction L generalizing k with
  | nil => simp at hy
  | cons z L ih =>
    cases k with
    | zero =>
      simp at hy; subst hy
      simp
    | succ k =>
      simp only [List.takeWhile_cons] at hk ⊢
      split at hk
      · rename_i h
        rw [if_pos h] at *
        simp only [List.length_cons] at hk ⊢
        have := ih (k := k) (by simpa using hy) (by omega)
        omega
      · simp at hk
theorem idxG_le (L : List Int) (x : Int) : idxG L x ≤ L.length := by
  unfold idxG
  exact (List.takeWhile_sublist _).length_le
/-- That place, or -1. -/
def idxI (L : List Int) (x : Int) : Int := if idxG L x < L.length then (idxG L x : Nat) else -1
set_option maxRecDepth 100000 in
theorem index_any (n B : Nat) (A : Option Addr) (c : Nat) (L : List Int) (x : Int) (w : World) (hL : Lists w B A (intCells L)) (hnn : L.length = n) (hn : n ≤ 1099511627776) :
    Calls Tryd.prog 30 #[.slice A n c, .int .i64 x] w fun e w' => e = .returned (.int .i64 (idxI L x)) ∧ w' = w := by
  have HL := Lib.hid hL
  have HN := Lib.hid hnn
  clear hL hnn
  go_enter Tryd.func30, Tryd.ntmps30
  go_wp2
  go_loopw [8] (fun i wr => ∃ k : Nat, k ≤ n ∧ i = .int .i64 k ∧ Hid (k ≤ idxG L x) ∧ wr = w) (fun i _ => n - (intOf i).toNat)
  case atStart => exact ⟨0, Nat.zero_le _, rfl, Lib.hid (Nat.zero_le _), rfl⟩
  case round =>
    obtain ⟨k, hk, rfl, hg, rfl⟩ := hrel
    by_cases hlt : k < n
    · have d1 : decide ((k : Int) < (n : Int)) = true := by simp; omega
      obtain ⟨y, hy⟩ : ∃ y, L[k]? = some y := ⟨L[k]'(by rw [HN.out]; exact hlt), List.getElem?_eq_getElem _⟩
      obtain ⟨b, o, rfl, hb, hc⟩ := HL.out.plain (by intro e; have h2 := congrArg List.length e; rw [intCells_len, HN.out] at h2; simp at h2; omega)
      have g0 := hc k (.int .i64 y) (by unfold intCells; rw [List.getElem?_map, hy]; rfl)
      clear hc
      by_cases hyx : y = x
      · subst hyx
        have hq := idxG_at hy hg.out
        have HQ := Lib.hid (show idxI L y = (k : Int) by unfold idxI; rw [← hq, if_pos (by rw [HN.out]; exact hlt)])
        clear hq hy
        go_wp2
        go_ret
        exact ⟨ret_int HQ.out.symm, rfl⟩
      · have hs := Lib.hid (idxG_step hy hg.out hyx)
        have d2 : (x == y) = false := by simp; exact fun h => hyx h.symm
        have d3 : ¬ x = y := fun h => hyx h.symm
        clear hy
        go_wp2
        go_roundw
        case rel => exact ⟨k + 1, by omega, by go_num, hs, by first | rfl | trivial⟩
        case measure => simp [intOf]; omega
    · obtain rfl : k = n := by omega
      have d1 : decide ((k : Int) < (k : Int)) = false := by simp
      have HQ := Lib.hid (show idxI L x = -1 by unfold idxI; rw [if_neg]; have := hg.out; rw [HN.out]; omega)
      go_wp2
      go_ret
      exact ⟨ret_int HQ.out.symm, rfl⟩
theorem cfind_any (n B : Nat) (A : Option Addr) (c : Nat) (L : List Int) (x : Int) (w : World) (hL : Lists w B A (intCells L)) (hnn : L.length = n) (hn : n ≤ 1099511627776) :
    Calls Tryd.prog 10 #[.slice A n c, .int .i64 x] w fun e w' => e = .returned (.tuple (if idxI L x < 0 then #[.int .i64 0, .int .i64 4] else #[.int .i64 (idxI L x), .int .i64 0])) ∧ w' = w := by
  have C := index_any n B A c L x w hL hnn hn
  generalize idxI L x = r at *
  clear hL hnn
  by_cases h : r < 0
  · rw [if_pos h]
    go_enter Tryd.func10, Tryd.ntmps10
    go_wp2_with (first | (go_at_call 30; ((with_reducible refine (C).mono ?_); rintro e w1 ⟨rfl, rfl⟩)))
    exact bodyPost_ret (v := .tuple #[.int .i64 0, .int .i64 4]) (by simp [results, Tryd.results10, go_sem]) rfl ⟨rfl, rfl⟩
  · rw [if_neg h]
    go_enter Tryd.func10, Tryd.ntmps10
    go_wp2_with (first | (go_at_call 30; ((with_reducible refine (C).mono ?_); rintro e w1 ⟨rfl, rfl⟩)))
    exact bodyPost_ret (v := .tuple #[.int .i64 r, .int .i64 0]) (by simp [results, Tryd.results10, go_sem]) rfl ⟨rfl, rfl⟩
/-- How a range tells how many more there are. -/
def moreF (f : Nat) (p : Nat) : Value := match f with
  | 1 => .func (.func 24) #[.pointer (some ⟨p, 0, none⟩)] #[]
  | 2 => .func (.func 27) #[.pointer (some ⟨p, 0, none⟩)] #[]
  | _ => .func (.func 47) #[] #[]
theorem creading_any (f : Nat) (hf : f ≤ 2) (p : Nat) (w : World) : Calls Tryd.prog 26 #[.pointer (some ⟨p, 0, none⟩), .int .i64 (f : Nat)] w fun e w' => e = .returned (moreF f p) ∧ w' = w := by
  match f, hf with
  | 0, _ =>
    go_enter Tryd.func26, Tryd.ntmps26
    go_wp2
    go_ret
    exact ⟨rfl, rfl⟩
  | 1, _ =>
    go_enter Tryd.func26, Tryd.ntmps26
    go_wp2
    go_ret
    exact ⟨rfl, rfl⟩
  | 2, _ =>
    go_enter Tryd.func26, Tryd.ntmps26
    go_wp2
    go_ret
    exact ⟨rfl, rfl⟩
theorem creading1_any (w : World) : Calls Tryd.prog 47 #[] w fun e w' => e = .returned (.int .i64 0) ∧ w' = w := by
  go_enter Tryd.func47, Tryd.ntmps47
  go_wp2
  go_ret
  exact ⟨rfl, rfl⟩
end Go.Proofs.YteffijgajhngeaaDoor

namespace Go.Proofs.YteffijgajhngeaaDoor
open Go Go.RowKit

section
variable {P : Program} (w : World)

theorem run_append_src_wide (base : Nat) (t ty e : TypeId) (i : TypeInfo) (z : Value) (size bytes : Nat) (ht : P.underlying t = some (.slice e)) (hi : P.info? e = some i) (hz : i.zero = some z)
    (hsize : i.size = size) (hby : i.bytes = bytes) (hzs : z.cells.size = size) (hsz : 0 < size) (v : Value) (n : Nat) (xs : List Value) (hown : w.ownsRow base e size v n xs)
    (B : Nat) (A : Option Addr) (m c : Nat) (news : List Value) (hr : Lists w B A news) (hl : news.length = m * size) (h1 : ∀ u ∈ news, u.oneCell' = true)
    (h63 : n + m ≤ maxLen) (hbytes : ((n + m) + (n + m) / 4 + 192) * bytes ≤ 281474976710656) (hbase : base ≤ w.heap.size) :
    ∃ v' w', (Builtin.append_ #[t, t] ty #[v, .slice A m c]).run P w = .ok v' w' ∧ w'.ownsRow base e size v' (n + m) (xs ++ news) ∧ w.grownBy w' v.ownBlock := by
  cases A with
  | none =>
    have hn : news = [] := hr.nil rfl
    subst hn
    have hm : m = 0 := by
      have : m * size = 0 := by simpa using hl.symm
      rcases Nat.mul_eq_zero.1 this with h | h
      · exact h
      · omega
    subst hm
    refine ⟨v, w, ?_, by simpa using hown, World.grownBy.refl w _⟩
    rcases hown.2 with ⟨rfl, rfl⟩ | ⟨g, cap, cur, rfl, _, _, hc, _⟩
    · simp [Builtin.append_, run_underlying ht, sizeOf, typeInfo, hi, Builtin.lenOf, Builtin.firstCells]
    · simp [Builtin.append_, run_underlying ht, sizeOf, typeInfo, hi, Builtin.lenOf, Builtin.firstCells, hc, storeCells]
  | some ad =>
    obtain ⟨v', w', hrun, h2, h3, _⟩ := run_append_own_wide (P := P) w base t ty e i z size bytes ht hi hz hsize hby hzs hsz v n xs hown ad m c news hl (hr.cell ad rfl) h1 h63 hbytes hbase
    exact ⟨v', w', hrun, h2, h3⟩

theorem wp_append_src_wide {o : Oper} {a : Act} {K : Act → World → Prop} {Q : Exit → Act → World → Prop} (s x : Operand) (t : TypeId)
    (ho : o.op = .call { callee := .builtin .append, args := #[s, x], argTypes := #[t, t] })
    (base : Nat) (e : TypeId) (i : TypeInfo) (z : Value) (size bytes : Nat) (ht : P.underlying t = some (.slice e)) (hi : P.info? e = some i) (hz : i.zero = some z)
    (hsize : i.size = size) (hby : i.bytes = bytes) (hzs : z.cells.size = size) (hsz : 0 < size)
    (v : Value) (n : Nat) (xs : List Value) (hs : a.eval s = v) (hown : w.ownsRow base e size v n xs)
    (B : Nat) (A : Option Addr) (m c : Nat) (news : List Value) (hx : a.eval x = .slice A m c) (hr : Lists w B A news) (hl : news.length = m * size) (h1 : ∀ u ∈ news, u.oneCell' = true)
    (h63 : n + m ≤ maxLen) (hbytes : ((n + m) + (n + m) / 4 + 192) * bytes ≤ 281474976710656) (hbase : base ≤ w.heap.size)
    (h : ∀ v' w', w'.ownsRow base e size v' (n + m) (xs ++ news) → w.grownBy w' v.ownBlock → K (a.put o.dst v') w') : o.wp P a w K Q := by
  obtain ⟨v', w', hrun, h2, h3⟩ := run_append_src_wide (P := P) w base t o.type e i z size bytes ht hi hz hsize hby hzs hsz v n xs hown B A m c news hr hl h1 h63 hbytes hbase
  unfold Oper.wp execOp
  simp only [ho, resolve, invoke, builtin, Sem.run_bind, Sem.run_pure, Result.andThen_ok, List.map_toArray, List.map_cons, List.map_nil, hs, hx, hrun]
  exact h v' w' h2 h3

theorem wpList_append_src_wide {ops : Array Oper} {rest : List Oper} {o : Oper} {a : Act} {Q : Exit → Act → World → Prop} (hgd : o.guard = none) (s x : Operand) (t : TypeId)
    (ho : o.op = .call { callee := .builtin .append, args := #[s, x], argTypes := #[t, t] })
    (base : Nat) (e : TypeId) (i : TypeInfo) (z : Value) (size bytes : Nat) (ht : P.underlying t = some (.slice e)) (hi : P.info? e = some i) (hz : i.zero = some z)
    (hsize : i.size = size) (hby : i.bytes = bytes) (hzs : z.cells.size = size) (hsz : 0 < size)
    (v : Value) (n : Nat) (xs : List Value) (hs : a.eval s = v) (hown : w.ownsRow base e size v n xs)
    (B : Nat) (A : Option Addr) (m c : Nat) (news : List Value) (hx : a.eval x = .slice A m c) (hr : Lists w B A news) (hl : news.length = m * size) (h1 : ∀ u ∈ news, u.oneCell' = true)
    (h63 : n + m ≤ maxLen) (hbytes : ((n + m) + (n + m) / 4 + 192) * bytes ≤ 281474976710656) (hbase : base ≤ w.heap.size)
    (h : ∀ v' w', w'.ownsRow base e size v' (n + m) (xs ++ news) → w.grownBy w' v.ownBlock → wpList P ops Q rest (a.put o.dst v') w') : wpList P ops Q (o :: rest) a w :=
  wpList_plain hgd fun _ hK => wp_append_src_wide w s x t ho base e i z size bytes ht hi hz hsize hby hzs hsz v n xs hs hown B A m c news hx hr hl h1 h63 hbytes hbase fun v' w' h2 h3 => hK _ _ (h v' w' h2 h3)
end

end Go.Proofs.YteffijgajhngeaaDoor

namespace Go.Proofs.YteffijgajhngeaaDoor
open Go Go.RowKit
set_option linter.unusedVariables false
set_option linter.unusedSimpArgs false

section
variable {P : Program} {ops : Array Oper} {I : World → Prop} {E : Act → World → Prop} {i : Nat} {r : List (Nat × Bool)} {o : Oper} {a : Act} {w : World}
theorem ChainL.appendW (hi : ops[i]? = some o) (hw : Region.wanted o (yielded ops a.tmps) = true) (s x : Operand) (t : TypeId)
    (ho : o.op = .call { callee := .builtin .append, args := #[s, x], argTypes := #[t, t] })
    (base : Nat) (e : TypeId) (info : TypeInfo) (z : Value) (size bytes : Nat) (ht : P.underlying t = some (.slice e)) (hi' : P.info? e = some info) (hz : info.zero = some z)
    (hsize : info.size = size) (hby : info.bytes = bytes) (hzs : z.cells.size = size) (hsz : 0 < size)
    (v : Value) (n : Nat) (xs : List Value) (hs : a.eval s = v) (hown : w.ownsRow base e size v n xs)
    (B : Nat) (A : Option Addr) (m c : Nat) (news : List Value) (hx : a.eval x = .slice A m c) (hr : Lists w B A news) (hl : news.length = m * size) (h1 : ∀ u ∈ news, u.oneCell' = true)
    (h63 : n + m ≤ maxLen) (hbytes : ((n + m) + (n + m) / 4 + 192) * bytes ≤ 281474976710656) (hbase : base ≤ w.heap.size)
    (h : ∀ v' w', w'.ownsRow base e size v' (n + m) (xs ++ news) → w.grownBy w' v.ownBlock → I w' ∧ ChainL P ops E I r (a.put o.dst v') w') : ChainL P ops E I ((i, true) :: r) a w := by
  obtain ⟨v', w', hrun, h2, h3⟩ := run_append_src_wide (P := P) w base t o.type e info z size bytes ht hi' hz hsize hby hzs hsz v n xs hown B A m c news hr hl h1 h63 hbytes hbase
  refine ⟨o, hi, hw, .inl ⟨v', w', ?_, h v' w' h2 h3⟩⟩
  unfold execOp
  simp only [ho, resolve, invoke, builtin, Sem.run_bind, Sem.run_pure, Result.andThen_ok, List.map_toArray, List.map_cons, List.map_nil, hs, hx, hrun]
end
theorem own_new (w : World) : (w.alloc (.cells #[] 5)).ownsRow w.heap.size 5 1 (.slice (some ⟨w.heap.size, 0, none⟩) 0 0) 0 [] := ⟨rfl, .inr ⟨w.heap.size, 0, #[], rfl, Nat.le_refl _, heap_alloc_new w _, Nat.le_refl _, Nat.zero_le _, rfl, rfl⟩⟩
theorem own_new_at (w : World) (k : Nat) (hk : k = w.heap.size) : (w.alloc (.cells #[] 5)).ownsRow k 5 1 (.slice (some ⟨k, 0, none⟩) 0 0) 0 [] := hk ▸ own_new w

end Go.Proofs.YteffijgajhngeaaDoor

namespace Go.Proofs.YteffijgajhngeaaDoor
open Go Go.RowKit

/-- The reference's reader at block p: its bytes (below block B), where it stands. -/
def RRd (w : World) (B p : Nat) (bs : List Value) (i : Nat) (bad : Bool) : Prop :=
  ∃ (A : Option Addr) (c : Nat), Blk w p 54 #[.slice A bs.length c, .int .i64 (i : Nat), .bool bad] ∧ Lists w B A bs ∧ Bytes8 bs ∧ i ≤ bs.length ∧ bs.length ≤ c ∧ c ≤ 9223372036854775807 ∧ bs.length ≤ 140737488355328 ∧ B ≤ p
theorem RRd.lt {w : World} {B p i : Nat} {bs : List Value} {bad : Bool} (h : RRd w B p bs i bad) : p < w.heap.size := by
  obtain ⟨_, _, hb, _⟩ := h
  exact hb.lt
theorem RRd.below {w w1 : World} {B p i : Nat} {bs : List Value} {bad : Bool} (h : RRd w B p bs i bad) (k : Below w.heap.size w w1) : RRd w1 B p bs i bad := by
  have hlt := h.lt
  obtain ⟨A, c, hb, hl, h8, h1, h2, h3, h4, h5⟩ := h
  exact ⟨A, c, hb.below k, hl.below (k.mono (by omega)), h8, h1, h2, h3, h4, h5⟩
/-- The next m bytes were answered. -/
def RTook (w : World) (B p : Nat) (bs : List Value) (i m : Nat) (e : Ending) (w' : World) : Prop := ∃ A c, e = .returned (.slice A m c) ∧ Lists w' w'.heap.size A ((bs.drop i).take m) ∧ RRd w' B p bs (i + m) false ∧ Only w w' [p]

set_option maxRecDepth 100000 in
set_option maxHeartbeats 2000000 in
theorem rtake_ok (B p : Nat) (bs : List Value) (i m : Nat) (w : World) (h : RRd w B p bs i false) (hm : 1 ≤ m) (him : i + m ≤ bs.length) :
    Calls Tryd.prog 49 #[.pointer (some ⟨p, 0, none⟩), .int .i64 (m : Nat)] w (RTook w B p bs i m) := by
  obtain ⟨A, c, hb, hl, h8, h1, h2, h3, h4, h5⟩ := id h
  obtain ⟨b, o, rfl, hbB, hcl⟩ := hl.plain (by intro e; rw [e] at him; simp at him; omega)
  have hlen : ((bs.drop i).take m).length = m := by simp only [List.length_take, List.length_drop]; omega
  have hpart : Lists w B (some ⟨b, o + i, none⟩) ((bs.drop i).take m) := by
    have := lists_part hl i m
    simpa [addr_plain] using this
  have h8p : Bytes8 ((bs.drop i).take m) := fun u hu => h8 u (List.mem_of_mem_drop (List.mem_of_mem_take hu))
  have hp := h.lt
  obtain ⟨E, hE⟩ : ∃ E, E = (bs.drop i).take m := ⟨_, rfl⟩
  rw [← hE] at hlen hpart h8p
  have HE := Lib.hid hE
  have HL := Lib.hid hl
  have H8 := Lib.hid h8
  have HP := Lib.hid h8p
  have HN := Lib.hid hlen
  clear hE hl h8 h8p hcl h hlen
  obtain ⟨n, hnn⟩ : ∃ n, n = bs.length := ⟨_, rfl⟩
  rw [← hnn] at hb h1 h2 h4 him
  have HB := Lib.hid hnn
  clear hnn
  have F0 := hb.kb; simp only [KB, CellsAt, Nat.zero_add, Nat.reduceAdd, and_true] at F0
  have e1 : decide ((m : Int) < 0) = false := by simp
  have e2 : (0 : Int) ≤ (m : Int) := by omega
  have s0 : IntKind.i64.wrap ((n : Int) - (i : Int)) = (n : Int) - (i : Int) := IntWalk.i64_in _ (by omega)
  have e3 : decide ((n : Int) - (i : Int) < (m : Int)) = false := by simp; omega
  have e3' : ¬ (n : Int) - (i : Int) < (m : Int) := by omega
  have s1 : IntKind.i64.wrap ((i : Int) + (m : Int)) = (i : Int) + (m : Int) := IntWalk.i64_in _ (by omega)
  have s2 : ((i : Int) + (m : Int)).toNat = i + m := by omega
  have e4 : (0 : Int) ≤ (i : Int) := by omega
  have e5 : (i : Int) + (m : Int) ≤ (c : Int) := by omega
  have e6 : (0 : Int) ≤ (i : Int) + (m : Int) := by omega
  have e7 : (i : Int) ≤ (i : Int) + (m : Int) := by omega
  have e8 : ¬ c = i := by omega
  have e9 : i + m - i = m := by omega
  have e10 : (i : Int) ≤ (c : Int) := by omega
  have e11 : i ≤ i + m := by omega
  have e12 : i + m ≤ c := by omega
  obtain ⟨i0, hi, hz0, hz1, hz2⟩ := info_parts u8Info
  go_enter Tryd.func49, Tryd.ntmps49
  go_wp2
  have hI : Below w.heap.size w w.drew := (Below.refl _ _).drew
  refine wp_region_chain (fun V => Below w.heap.size w V) [(0, false), (1, false), (2, false), (3, false), (4, false), (5, false), (6, false), (7, false), (8, false), (9, false), (10, false), (11, false), (12, false), (13, false), (14, false), (15, false), (16, false), (17, false), (18, false), (19, false), (20, false), (21, false)] (by kernel_rfl) (by kernel_rfl) hI ?_
  repeat (first
    | (refine ChainL.skip (o := ?_) ?_ ?_ ?_; rotate_left; (focus (first | (simp only [List.getElem?_toArray, List.getElem?_cons_succ, List.getElem?_cons_zero]; with_reducible rfl) | (simp only [List.getElem?_toArray, List.getElem?_cons_zero]; with_reducible rfl))); (focus rfl); simp only [Act.put, List.setIfInBounds_toArray, List.set_cons_zero, List.set_cons_succ])
    | (refine ChainL.val (o := ?_) (v := ?_) ?_ ?_ ?_ ?_ ?_; rotate_left 2; (focus (first | (simp only [List.getElem?_toArray, List.getElem?_cons_succ, List.getElem?_cons_zero]; with_reducible rfl) | (simp only [List.getElem?_toArray, List.getElem?_cons_zero]; with_reducible rfl))); (focus (intro _ _ h; cases h)); (focus rfl); (focus (intro w' hJ; have F := (hb.below hJ).kb; simp only [KB, CellsAt, Nat.zero_add, Nat.reduceAdd, and_true] at F; obtain ⟨_, _, y1, y2, y3⟩ := F; go_simp <;> with_reducible rfl)); simp only [Act.put, List.setIfInBounds_toArray, List.set_cons_zero, List.set_cons_succ]))
  refine ChainL.nil ?_
  go_wp2
  have hb1 := hb.below hI
  clear F0
  generalize w.drew = w1 at *
  have hI2 : Below w.heap.size w w1.drew := hI.drew
  refine wp_region_chain (fun V => Below w.heap.size w V) [(0, false), (1, false), (2, false), (3, false), (4, false), (5, false), (6, false), (7, false), (8, false), (9, false), (10, false), (11, false), (12, false), (13, false), (14, false), (15, false)] (by kernel_rfl) (by kernel_rfl) hI2 ?_
  repeat (first
    | (refine ChainL.skip (o := ?_) ?_ ?_ ?_; rotate_left; (focus (first | (simp only [List.getElem?_toArray, List.getElem?_cons_succ, List.getElem?_cons_zero]; with_reducible rfl) | (simp only [List.getElem?_toArray, List.getElem?_cons_zero]; with_reducible rfl))); (focus rfl); simp only [Act.put, List.setIfInBounds_toArray, List.set_cons_zero, List.set_cons_succ])
    | (refine ChainL.val (o := ?_) (v := ?_) ?_ ?_ ?_ ?_ ?_; rotate_left 2; (focus (first | (simp only [List.getElem?_toArray, List.getElem?_cons_succ, List.getElem?_cons_zero]; with_reducible rfl) | (simp only [List.getElem?_toArray, List.getElem?_cons_zero]; with_reducible rfl))); (focus (intro _ _ h; cases h)); (focus rfl); (focus (intro w' hJ; have F := (hb.below hJ).kb; simp only [KB, CellsAt, Nat.zero_add, Nat.reduceAdd, and_true] at F; obtain ⟨_, _, y1, y2, y3⟩ := F; go_simp <;> with_reducible rfl)); simp only [Act.put, List.setIfInBounds_toArray, List.set_cons_zero, List.set_cons_succ]))
  refine ChainL.nil ?_
  have hb2 := hb.below hI2
  have O2 : Only w (w1.drew.setCell ⟨p, 1, none⟩ (.int .i64 ((i : Int) + (m : Int)))) [p] := (Only.of_below hI2 [p]).set (.inl (by simp)) _
  have hp2 := (hpart.below (O2.to_below (by omega) (by simpa using h5)))
  have hb3 := hb2.set 1 (.int .i64 ((i : Int) + (m : Int)))
  have F := hb2.kb; simp only [KB, CellsAt, Nat.zero_add, Nat.reduceAdd, and_true] at F
  generalize w1.drew = w2 at *
  have HP2 := Lib.hid hp2
  have HB3 := Lib.hid hb3
  have HO2 := Lib.hid O2
  clear hp2 hb3 O2 hb hb1 hb2 hI hpart
  go_wp2_with (first | (at_builtin; refine wpList_append_src_wide _ rfl (.tmp 55) (.tmp 56) 22 rfl w2.heap.size 5 i0 (.int .u8 0) 1 1 Tryd.underlying22 hi hz0 hz1 hz2 rfl (by decide) (.slice (some ⟨w2.heap.size, 0, none⟩) 0 0) 0 [] rfl (own_new_at _ _ (by simp)) B (some ⟨b, o + i, none⟩) m _ E rfl (HP2.out.alloc (by have := HO2.out.size; simp at this ⊢; omega) _) (by rw [HN.out, Nat.mul_one]) HP.out.one (by simp only [maxLen]; omega) (by omega) (by simp) ?_; intro v4 w4 own4 hg4; rw [Nat.zero_add, List.nil_append] at own4))
  go_ret
  obtain ⟨A4, c4, rfl, l4, hc4⟩ := own_lists own4
  have b4 := ((Below.refl _ _).alloc (Nat.le_refl _) _).grown hg4 (by simp) (fun b hb => by simp [Value.ownBlock] at hb; subst hb; simp)
  have O4 := HO2.out.then_below b4
  exact ⟨A4, c4, rfl, HE.out ▸ l4, ⟨_, c, by rw [← HB.out, show ((i + m : Nat) : Int) = (i : Int) + (m : Int) by omega]; exact HB3.out.below b4, HL.out.below (O4.to_below (by omega) (by simpa using h5)), H8.out, by rw [← HB.out]; exact him, by rw [← HB.out]; exact h2, h3, by rw [← HB.out]; exact h4, h5⟩, O4⟩

/-- Too few bytes are left. -/
def RFell (w : World) (B p : Nat) (bs : List Value) (i : Nat) (e : Ending) (w' : World) : Prop := e = .returned (.slice none 0 0) ∧ RRd w' B p bs i true ∧ Only w w' [p]
set_option maxRecDepth 100000 in
theorem rtake_short (B p : Nat) (bs : List Value) (i m : Nat) (w : World) (h : RRd w B p bs i false) (him : bs.length - i < m) :
    Calls Tryd.prog 49 #[.pointer (some ⟨p, 0, none⟩), .int .i64 (m : Nat)] w (RFell w B p bs i) := by
  obtain ⟨A, c, hb, hl, h8, h1, h2, h3, h4, h5⟩ := id h
  have hp := h.lt
  have HL := Lib.hid hl
  have H8 := Lib.hid h8
  clear hl h8 h
  obtain ⟨n, hnn⟩ : ∃ n, n = bs.length := ⟨_, rfl⟩
  rw [← hnn] at hb h1 h2 h4 him
  have HB := Lib.hid hnn
  clear hnn
  have e1 : decide ((m : Int) < 0) = false := by simp
  have s0 : IntKind.i64.wrap ((n : Int) - (i : Int)) = (n : Int) - (i : Int) := IntWalk.i64_in _ (by omega)
  have e3 : decide ((n : Int) - (i : Int) < (m : Int)) = true := by simp; omega
  have e3' : (n : Int) - (i : Int) < (m : Int) := by omega
  go_enter Tryd.func49, Tryd.ntmps49
  go_wp2
  have hI : Below w.heap.size w w.drew := (Below.refl _ _).drew
  refine wp_region_chain (fun V => Below w.heap.size w V) [(0, false), (1, false), (2, false), (3, false), (4, false), (5, false), (6, false), (7, false), (8, false), (9, false), (10, false), (11, false), (12, false), (13, false), (14, false), (15, false), (16, false), (17, false), (18, false), (19, false), (20, false), (21, false)] (by kernel_rfl) (by kernel_rfl) hI ?_
  repeat (first
    | (refine ChainL.skip (o := ?_) ?_ ?_ ?_; rotate_left; (focus (first | (simp only [List.getElem?_toArray, List.getElem?_cons_succ, List.getElem?_cons_zero]; with_reducible rfl) | (simp only [List.getElem?_toArray, List.getElem?_cons_zero]; with_reducible rfl))); (focus rfl); simp only [Act.put, List.setIfInBounds_toArray, List.set_cons_zero, List.set_cons_succ])
    | (refine ChainL.val (o := ?_) (v := ?_) ?_ ?_ ?_ ?_ ?_; rotate_left 2; (focus (first | (simp only [List.getElem?_toArray, List.getElem?_cons_succ, List.getElem?_cons_zero]; with_reducible rfl) | (simp only [List.getElem?_toArray, List.getElem?_cons_zero]; with_reducible rfl))); (focus (intro _ _ h; cases h)); (focus rfl); (focus (intro w' hJ; have F := (hb.below hJ).kb; simp only [KB, CellsAt, Nat.zero_add, Nat.reduceAdd, and_true] at F; obtain ⟨_, _, y1, y2, y3⟩ := F; go_simp <;> with_reducible rfl)); simp only [Act.put, List.setIfInBounds_toArray, List.set_cons_zero, List.set_cons_succ]))
  refine ChainL.nil ?_
  have hb1 := hb.below hI
  have F := hb1.kb; simp only [KB, CellsAt, Nat.zero_add, Nat.reduceAdd, and_true] at F
  have hb2 := hb1.set 2 (.bool true)
  have O2 : Only w (w.drew.setCell ⟨p, 2, none⟩ (.bool true)) [p] := (Only.of_below hI [p]).set (.inl (by simp)) _
  generalize w.drew = w1 at *
  go_wp2
  go_ret
  exact ⟨rfl, ⟨A, c, by rw [← HB.out]; exact hb2, HL.out.below (O2.to_below (by omega) (by simpa using h5)), H8.out, by rw [← HB.out]; exact h1, by rw [← HB.out]; exact h2, h3, by rw [← HB.out]; exact h4, h5⟩, O2⟩

/-- A number was read. -/
def RRead (w : World) (B p : Nat) (bs : List Value) (i : Nat) (x : Int) (e : Ending) (w' : World) : Prop := e = .returned (.int .i64 x) ∧ RRd w' B p bs i false ∧ Only w w' [p]
set_option maxRecDepth 100000 in
theorem ru2_ok (B p : Nat) (bs : List Value) (i : Nat) (w : World) (h : RRd w B p bs i false) (him : i + 2 ≤ bs.length) :
    Calls Tryd.prog 29 #[.pointer (some ⟨p, 0, none⟩), .int .i64 2] w (RRead w B p bs (i + 2) (rd2 bs i : Nat)) := by
  have C : Calls Tryd.prog 49 #[.pointer (some ⟨p, 0, none⟩), .int .i64 2] w (RTook w B p bs i 2) := rtake_ok B p bs i 2 w h (by omega) him
  have h8 : Bytes8 bs := by obtain ⟨_, _, _, _, h8, _⟩ := h; exact h8
  have e : (bs.drop i).take 2 = [.int .u8 ((byteAt bs i) : Nat), .int .u8 ((byteAt bs (i + 1)) : Nat)] := by
    apply List.ext_getElem?
    intro j
    rw [List.getElem?_take, List.getElem?_drop]
    match j with
    | 0 => simpa using byteAt_get h8 (i := i) (by omega)
    | 1 => simpa using byteAt_get h8 (i := i + 1) (by omega)
    | j + 2 => simp <;> omega
  have l0 := byteAt_lt h8 i
  have l1 := byteAt_lt h8 (i + 1)
  unfold rd2
  clear h h8

  generalize byteAt bs (i + 1) = x1 at *
  generalize byteAt bs i = x0 at *
  have E := Lib.hid e
  clear e
  go_enter Tryd.func29, Tryd.ntmps29
  go_wp2_with (first | (go_at_call 49; ((refine C.mono ?_); rintro e w2 ⟨A2, k2, rfl, ll, hr, o2⟩; rw [E.out] at ll; obtain ⟨b, o, rfl, hb, hc⟩ := ll.plain (by simp); have c0 := hc 0 _ rfl; have c1 := hc 1 _ rfl; rw [Nat.add_zero] at c0; clear hc)))
  refine wp_loop_rounds 3 ?_
  rw [rounds_succ]
  go_wp2
  rw [rounds_succ]
  go_wp2
  rw [rounds_succ]
  go_wp2
  go_ret
  exact ⟨ret_int (by omega), hr, o2⟩
theorem ru2_short (B p : Nat) (bs : List Value) (i : Nat) (w : World) (h : RRd w B p bs i false) (him : bs.length - i < 2) :
    Calls Tryd.prog 29 #[.pointer (some ⟨p, 0, none⟩), .int .i64 2] w fun e w' => e = .returned (.int .i64 0) ∧ RRd w' B p bs i true ∧ Only w w' [p] := by
  have C : Calls Tryd.prog 49 #[.pointer (some ⟨p, 0, none⟩), .int .i64 2] w (RFell w B p bs i) := rtake_short B p bs i 2 w h him
  clear h him
  go_enter Tryd.func29, Tryd.ntmps29
  go_wp2_with (first | (go_at_call 49; ((refine C.mono ?_); rintro e w2 ⟨rfl, hr, o2⟩)))
  refine wp_loop_rounds 1 ?_
  rw [rounds_succ]
  go_wp2
  go_ret
  exact ⟨rfl, hr, o2⟩
set_option maxRecDepth 100000 in
theorem ru4_ok (B p : Nat) (bs : List Value) (i : Nat) (w : World) (h : RRd w B p bs i false) (him : i + 4 ≤ bs.length) :
    Calls Tryd.prog 29 #[.pointer (some ⟨p, 0, none⟩), .int .i64 4] w (RRead w B p bs (i + 4) (rd4 bs i : Nat)) := by
  have C : Calls Tryd.prog 49 #[.pointer (some ⟨p, 0, none⟩), .int .i64 4] w (RTook w B p bs i 4) := rtake_ok B p bs i 4 w h (by omega) him
  have h8 : Bytes8 bs := by obtain ⟨_, _, _, _, h8, _⟩ := h; exact h8
  have e : (bs.drop i).take 4 = [.int .u8 ((byteAt bs i) : Nat), .int .u8 ((byteAt bs (i + 1)) : Nat), .int .u8 ((byteAt bs (i + 2)) : Nat), .int .u8 ((byteAt bs (i + 3)) : Nat)] := by
    apply List.ext_getElem?
    intro j
    rw [List.getElem?_take, List.getElem?_drop]
    match j with
    | 0 => simpa using byteAt_get h8 (i := i) (by omega)
    | 1 => simpa using byteAt_get h8 (i := i + 1) (by omega)
    | 2 => simpa using byteAt_get h8 (i := i + 2) (by omega)
    | 3 => simpa using byteAt_get h8 (i := i + 3) (by omega)
    | j + 4 => simp <;> omega
  have l0 := byteAt_lt h8 i
  have l1 := byteAt_lt h8 (i + 1)
  have l2 := byteAt_lt h8 (i + 2)
  have l3 := byteAt_lt h8 (i + 3)
  unfold rd4
  clear h h8

  generalize byteAt bs (i + 1) = x1 at *
  generalize byteAt bs (i + 2) = x2 at *
  generalize byteAt bs (i + 3) = x3 at *
  generalize byteAt bs i = x0 at *
  have E := Lib.hid e
  clear e
  go_enter Tryd.func29, Tryd.ntmps29
  go_wp2_with (first | (go_at_call 49; ((refine C.mono ?_); rintro e w2 ⟨A2, k2, rfl, ll, hr, o2⟩; rw [E.out] at ll; obtain ⟨b, o, rfl, hb, hc⟩ := ll.plain (by simp); have c0 := hc 0 _ rfl; have c1 := hc 1 _ rfl; have c2 := hc 2 _ rfl; have c3 := hc 3 _ rfl; rw [Nat.add_zero] at c0; clear hc)))
  refine wp_loop_rounds 5 ?_
  rw [rounds_succ]
  go_wp2
  rw [rounds_succ]
  go_wp2
  rw [rounds_succ]
  go_wp2
  rw [rounds_succ]
  go_wp2
  rw [rounds_succ]
  go_wp2
  go_ret
  exact ⟨ret_int (by omega), hr, o2⟩
theorem ru4_short (B p : Nat) (bs : List Value) (i : Nat) (w : World) (h : RRd w B p bs i false) (him : bs.length - i < 4) :
    Calls Tryd.prog 29 #[.pointer (some ⟨p, 0, none⟩), .int .i64 4] w fun e w' => e = .returned (.int .i64 0) ∧ RRd w' B p bs i true ∧ Only w w' [p] := by
  have C : Calls Tryd.prog 49 #[.pointer (some ⟨p, 0, none⟩), .int .i64 4] w (RFell w B p bs i) := rtake_short B p bs i 4 w h him
  clear h him
  go_enter Tryd.func29, Tryd.ntmps29
  go_wp2_with (first | (go_at_call 49; ((refine C.mono ?_); rintro e w2 ⟨rfl, hr, o2⟩)))
  refine wp_loop_rounds 1 ?_
  rw [rounds_succ]
  go_wp2
  go_ret
  exact ⟨rfl, hr, o2⟩
end Go.Proofs.YteffijgajhngeaaDoor

namespace Go.Proofs.YteffijgajhngeaaDoor
open Go Go.RowKit

variable {q : Nat → Prop}
/-- How many bytes a number of a kind has. -/
def wid : Nat → Nat
  | 0 => 1
  | 3 => 4
  | _ => 2
/-- The number of a kind that is read at k. -/
def rdk (bs : List Value) (kd k : Nat) : Int :=
  match kd with
  | 0 => (rsn bs 1 k (byteAt bs k) : Nat)
  | 1 => (rsn bs 2 k (rd2 bs k) : Nat)
  | 2 => s16 (rsn bs 2 k (rd2 bs k))
  | _ => (rsn bs 4 k (rd4 bs k) : Nat)
/-- A place had a number brought. -/
def Came (q : Nat → Prop) (w : World) (p : Nat) (bs : List Value) (k b : Nat) (T : TypeId) (cs : Array Value) (o : Nat) (x : Int) (e : Ending) (w' : World) : Prop :=
  e = .returned (.tuple #[]) ∧ RS q w' p bs k ∧ Blk w' b T (cs.setIfInBounds o (.int .i64 x)) ∧ Only w w' [p, b]

end Go.Proofs.YteffijgajhngeaaDoor

namespace Go.Proofs.YteffijgajhngeaaDoor
open Go Go.RowKit

set_option maxRecDepth 100000 in
theorem rtake_bad (B p : Nat) (bs : List Value) (i m : Nat) (w : World) (h : RRd w B p bs i true) :
    Calls Tryd.prog 49 #[.pointer (some ⟨p, 0, none⟩), .int .i64 (m : Nat)] w (RFell w B p bs i) := by
  obtain ⟨A, c, hb, hl, h8, h1, h2, h3, h4, h5⟩ := id h
  have hp := h.lt
  have HL := Lib.hid hl
  have H8 := Lib.hid h8
  clear hl h8 h
  obtain ⟨n, hnn⟩ : ∃ n, n = bs.length := ⟨_, rfl⟩
  rw [← hnn] at hb h1 h2 h4
  have HB := Lib.hid hnn
  clear hnn
  go_enter Tryd.func49, Tryd.ntmps49
  go_wp2
  have hI : Below w.heap.size w w.drew := (Below.refl _ _).drew
  refine wp_region_chain (fun V => Below w.heap.size w V) [(0, false), (1, false), (2, false), (3, false), (4, false), (5, false), (6, false), (7, false), (8, false), (9, false), (10, false), (11, false), (12, false), (13, false), (14, false), (15, false), (16, false), (17, false), (18, false), (19, false), (20, false), (21, false)] (by kernel_rfl) (by kernel_rfl) hI ?_
  repeat (first
    | (refine ChainL.skip (o := ?_) ?_ ?_ ?_; rotate_left; (focus (first | (simp only [List.getElem?_toArray, List.getElem?_cons_succ, List.getElem?_cons_zero]; with_reducible rfl) | (simp only [List.getElem?_toArray, List.getElem?_cons_zero]; with_reducible rfl))); (focus rfl); simp only [Act.put, List.setIfInBounds_toArray, List.set_cons_zero, List.set_cons_succ])
    | (refine ChainL.val (o := ?_) (v := ?_) ?_ ?_ ?_ ?_ ?_; rotate_left 2; (focus (first | (simp only [List.getElem?_toArray, List.getElem?_cons_succ, List.getElem?_cons_zero]; with_reducible rfl) | (simp only [List.getElem?_toArray, List.getElem?_cons_zero]; with_reducible rfl))); (focus (intro _ _ h; cases h)); (focus rfl); (focus (intro w' hJ; have F := (hb.below hJ).kb; simp only [KB, CellsAt, Nat.zero_add, Nat.reduceAdd, and_true] at F; obtain ⟨_, _, y1, y2, y3⟩ := F; go_simp <;> with_reducible rfl)); simp only [Act.put, List.setIfInBounds_toArray, List.set_cons_zero, List.set_cons_succ]))
  refine ChainL.nil ?_
  have hb1 := hb.below hI
  have F := hb1.kb; simp only [KB, CellsAt, Nat.zero_add, Nat.reduceAdd, and_true] at F
  have hb2 := hb1.set 2 (.bool true)
  have O2 : Only w (w.drew.setCell ⟨p, 2, none⟩ (.bool true)) [p] := (Only.of_below hI [p]).set (.inl (by simp)) _
  generalize w.drew = w1 at *
  go_wp2
  go_ret
  exact ⟨rfl, ⟨A, c, by rw [← HB.out]; exact hb2, HL.out.below (O2.to_below (by omega) (by simpa using h5)), H8.out, by rw [← HB.out]; exact h1, by rw [← HB.out]; exact h2, h3, by rw [← HB.out]; exact h4, h5⟩, O2⟩


def RR (w : World) (B p : Nat) (bs : List Value) (k : Nat) : Prop := (k ≤ bs.length ∧ RRd w B p bs k false) ∨ (bs.length < k ∧ ∃ i, RRd w B p bs i true)
theorem RR.below {w w1 : World} {B p k : Nat} {bs : List Value} (h : RR w B p bs k) (b : Below w.heap.size w w1) : RR w1 B p bs k :=
  h.imp (fun ⟨h1, h2⟩ => ⟨h1, h2.below b⟩) (fun ⟨h1, i, h2⟩ => ⟨h1, i, h2.below b⟩)
theorem RR.bytes {w : World} {B p k : Nat} {bs : List Value} (h : RR w B p bs k) : Bytes8 bs := by
  rcases h with ⟨_, _, _, _, _, h8, _⟩ | ⟨_, _, _, _, _, _, h8, _⟩ <;> exact h8
theorem RR.low {w : World} {B p k : Nat} {bs : List Value} (h : RR w B p bs k) : B ≤ p ∧ p < w.heap.size := by
  rcases h with ⟨_, h⟩ | ⟨_, _, h⟩ <;> (have h1 := h.lt; obtain ⟨_, _, _, _, _, _, _, _, _, h5⟩ := h; exact ⟨h5, h1⟩)
theorem RRd.other {w w1 : World} {B p i : Nat} {bs : List Value} {bad : Bool} {fp : List Nat} (h : RRd w B p bs i bad) (o : Only w w1 fp) (hp : p ∉ fp) (hf : ∀ b ∈ fp, B ≤ b) : RRd w1 B p bs i bad := by
  have hlt := h.lt
  obtain ⟨A, c, hb, hl, h8, h1, h2, h3, h4, h5⟩ := h
  exact ⟨A, c, hb.only o hp, hl.below (o.to_below (by omega) hf), h8, h1, h2, h3, h4, h5⟩
theorem RR.other {w w1 : World} {B p k : Nat} {bs : List Value} {fp : List Nat} (h : RR w B p bs k) (o : Only w w1 fp) (hp : p ∉ fp) (hf : ∀ b ∈ fp, B ≤ b) : RR w1 B p bs k :=
  h.imp (fun ⟨h1, h2⟩ => ⟨h1, h2.other o hp hf⟩) (fun ⟨h1, i, h2⟩ => ⟨h1, i, h2.other o hp hf⟩)
/-- A number was read by a reader that may have come to its end. -/
def RReadS (w : World) (B p : Nat) (bs : List Value) (k : Nat) (x : Int) (e : Ending) (w' : World) : Prop := e = .returned (.int .i64 x) ∧ RR w' B p bs k ∧ Only w w' [p]
def RTookS (w : World) (B p : Nat) (bs : List Value) (k : Nat) (e : Ending) (w' : World) : Prop := ∃ v, e = .returned v ∧ RR w' B p bs k ∧ Only w w' [p]
theorem rr_take (B p : Nat) (bs : List Value) (k m : Nat) (w : World) (h : RR w B p bs k) (hm : 1 ≤ m) :
    Calls Tryd.prog 49 #[.pointer (some ⟨p, 0, none⟩), .int .i64 (m : Nat)] w (RTookS w B p bs (k + m)) := by
  rcases h with ⟨h1, h2⟩ | ⟨h1, i, h2⟩
  · by_cases hk : k + m ≤ bs.length
    · exact (rtake_ok B p bs k m w h2 hm hk).mono fun e w' ⟨A, c, a, _, b, o⟩ => ⟨_, a, .inl ⟨hk, b⟩, o⟩
    · exact (rtake_short B p bs k m w h2 (by omega)).mono fun e w' ⟨a, b, o⟩ => ⟨_, a, .inr ⟨by omega, k, b⟩, o⟩
  · exact (rtake_bad B p bs i m w h2).mono fun e w' ⟨a, b, o⟩ => ⟨_, a, .inr ⟨by omega, i, b⟩, o⟩
set_option maxRecDepth 100000 in
theorem ru2_bad (B p : Nat) (bs : List Value) (i : Nat) (w : World) (h : RRd w B p bs i true) :
    Calls Tryd.prog 29 #[.pointer (some ⟨p, 0, none⟩), .int .i64 2] w fun e w' => e = .returned (.int .i64 0) ∧ RRd w' B p bs i true ∧ Only w w' [p] := by
  have C : Calls Tryd.prog 49 #[.pointer (some ⟨p, 0, none⟩), .int .i64 2] w (RFell w B p bs i) := rtake_bad B p bs i 2 w h
  clear h
  go_enter Tryd.func29, Tryd.ntmps29
  go_wp2_with (first | (go_at_call 49; ((refine C.mono ?_); rintro e w2 ⟨rfl, hr, o2⟩)))
  refine wp_loop_rounds 1 ?_
  rw [rounds_succ]
  go_wp2
  go_ret
  exact ⟨rfl, hr, o2⟩
theorem rr_u2 (B p : Nat) (bs : List Value) (k : Nat) (w : World) (h : RR w B p bs k) :
    Calls Tryd.prog 29 #[.pointer (some ⟨p, 0, none⟩), .int .i64 2] w (RReadS w B p bs (k + 2) (rsn bs 2 k (rd2 bs k) : Nat)) := by
  unfold rsn
  rcases h with ⟨h1, h2⟩ | ⟨h1, i, h2⟩
  · by_cases hk : k + 2 ≤ bs.length
    · rw [if_pos hk]
      exact (ru2_ok B p bs k w h2 hk).mono fun e w' ⟨a, b, o⟩ => ⟨a, .inl ⟨hk, b⟩, o⟩
    · rw [if_neg hk]
      exact (ru2_short B p bs k w h2 (by omega)).mono fun e w' ⟨a, b, o⟩ => ⟨a, .inr ⟨by omega, k, b⟩, o⟩
  · rw [if_neg (by omega)]
    exact (ru2_bad B p bs i w h2).mono fun e w' ⟨a, b, o⟩ => ⟨a, .inr ⟨by omega, i, b⟩, o⟩
set_option maxRecDepth 100000 in
theorem ru4_bad (B p : Nat) (bs : List Value) (i : Nat) (w : World) (h : RRd w B p bs i true) :
    Calls Tryd.prog 29 #[.pointer (some ⟨p, 0, none⟩), .int .i64 4] w fun e w' => e = .returned (.int .i64 0) ∧ RRd w' B p bs i true ∧ Only w w' [p] := by
  have C : Calls Tryd.prog 49 #[.pointer (some ⟨p, 0, none⟩), .int .i64 4] w (RFell w B p bs i) := rtake_bad B p bs i 4 w h
  clear h
  go_enter Tryd.func29, Tryd.ntmps29
  go_wp2_with (first | (go_at_call 49; ((refine C.mono ?_); rintro e w2 ⟨rfl, hr, o2⟩)))
  refine wp_loop_rounds 1 ?_
  rw [rounds_succ]
  go_wp2
  go_ret
  exact ⟨rfl, hr, o2⟩
theorem rr_u4 (B p : Nat) (bs : List Value) (k : Nat) (w : World) (h : RR w B p bs k) :
    Calls Tryd.prog 29 #[.pointer (some ⟨p, 0, none⟩), .int .i64 4] w (RReadS w B p bs (k + 4) (rsn bs 4 k (rd4 bs k) : Nat)) := by
  unfold rsn
  rcases h with ⟨h1, h2⟩ | ⟨h1, i, h2⟩
  · by_cases hk : k + 4 ≤ bs.length
    · rw [if_pos hk]
      exact (ru4_ok B p bs k w h2 hk).mono fun e w' ⟨a, b, o⟩ => ⟨a, .inl ⟨hk, b⟩, o⟩
    · rw [if_neg hk]
      exact (ru4_short B p bs k w h2 (by omega)).mono fun e w' ⟨a, b, o⟩ => ⟨a, .inr ⟨by omega, k, b⟩, o⟩
  · rw [if_neg (by omega)]
    exact (ru4_bad B p bs i w h2).mono fun e w' ⟨a, b, o⟩ => ⟨a, .inr ⟨by omega, i, b⟩, o⟩
/-- The same, as the code reads them. -/
theorem rr_k1 (B p : Nat) (bs : List Value) (k : Nat) (w : World) (h : RR w B p bs k) : Calls Tryd.prog 29 #[.pointer (some ⟨p, 0, none⟩), .int .i64 2] w (RReadS w B p bs (k + 2) (rdk bs 1 k)) := rr_u2 B p bs k w h
theorem rr_k3 (B p : Nat) (bs : List Value) (k : Nat) (w : World) (h : RR w B p bs k) : Calls Tryd.prog 29 #[.pointer (some ⟨p, 0, none⟩), .int .i64 4] w (RReadS w B p bs (k + 4) (rdk bs 3 k)) := rr_u4 B p bs k w h
theorem RR.flag {w : World} {B p k : Nat} {bs : List Value} (h : RR w B p bs k) : w.cell? ⟨p, 2, none⟩ = some (.bool (decide (bs.length < k))) := by
  rcases h with ⟨h1, _, _, hb, _⟩ | ⟨h1, _, _, _, hb, _⟩
  · rw [decide_eq_false (by omega)]; exact hb.cell 2
  · rw [decide_eq_true h1]; exact hb.cell 2

end Go.Proofs.YteffijgajhngeaaDoor

namespace Go.Proofs.YteffijgajhngeaaDoor
open Go Go.RowKit
set_option linter.unusedVariables false
set_option linter.unusedSimpArgs false

/-- The number of n bytes at k. -/
def rdn (bs : List Value) : Nat → Nat → Nat
  | 0, _ => 0
  | n + 1, k => rdn bs n k * 256 + byteAt bs (k + n)
theorem rdn_lt {bs : List Value} (h : Bytes8 bs) : ∀ n k, n ≤ 4 → rdn bs n k < 4294967296
  | 0, k, _ => by simp [rdn]
  | 1, k, _ => by have := byteAt_lt h (k + 0); simp only [rdn]; omega
  | 2, k, _ => by have := byteAt_lt h (k + 0); have := byteAt_lt h (k + 1); simp only [rdn]; omega
  | 3, k, _ => by have := byteAt_lt h (k + 0); have := byteAt_lt h (k + 1); have := byteAt_lt h (k + 2); simp only [rdn]; omega
  | 4, k, _ => by have := byteAt_lt h (k + 0); have := byteAt_lt h (k + 1); have := byteAt_lt h (k + 2); have := byteAt_lt h (k + 3); simp only [rdn]; omega
theorem rdn_two (bs : List Value) (k : Nat) : rdn bs 2 k = rd2 bs k := by simp [rdn, rd2]
theorem rdn_one (bs : List Value) (k : Nat) : rdn bs 1 k = byteAt bs k := by simp [rdn]
set_option maxRecDepth 100000 in
set_option maxHeartbeats 1000000 in
theorem run_ok (B p : Nat) (bs : List Value) (i m : Nat) (w : World) (h : RRd w B p bs i false) (hm : 1 ≤ m) (hm4 : m ≤ 4) (him : i + m ≤ bs.length) :
    Calls Tryd.prog 29 #[.pointer (some ⟨p, 0, none⟩), .int .i64 (m : Nat)] w (RRead w B p bs (i + m) (rdn bs m i : Nat)) := by
  have C := rtake_ok B p bs i m w h hm him
  have h8 : Bytes8 bs := by obtain ⟨_, _, _, _, h8, _⟩ := h; exact h8
  have HB := Lib.hid (fun j => rdn_lt h8 j i)
  have HG : Hid (∀ j, j < m → ((bs.drop i).take m)[j]? = some (.int .u8 ((byteAt bs (i + j) : Nat) : Int)) ∧ byteAt bs (i + j) < 256) := Lib.hid fun j hj => ⟨by
    rw [List.getElem?_take, List.getElem?_drop, if_pos hj]
    exact byteAt_get h8 (by omega), byteAt_lt h8 _⟩
  have HM := Lib.hid hm
  clear h h8
  go_enter Tryd.func29, Tryd.ntmps29
  go_wp2_with (first | (go_at_call 49; ((refine C.mono ?_); rintro e w2 ⟨A2, k2, rfl, ll, hr, o2⟩)))
  obtain ⟨b, o, rfl, hb, hc⟩ := ll.plain (by intro e; have := (HG.out 0 HM.out).1; rw [e] at this; simp at this)
  have HC := Lib.hid hc
  clear hc ll C
  go_loopw [5, 7] (fun xv iv wr => ∃ j : Nat, j ≤ m ∧ iv = .int .i64 (j : Nat) ∧ xv = .int .i64 (rdn bs j i : Nat) ∧ wr = w2) (fun _ iv _ => m - (intOf iv).toNat)
  case atStart => exact ⟨0, Nat.zero_le _, rfl, rfl, rfl⟩
  case round =>
    obtain ⟨j, hj, rfl, rfl, rfl⟩ := hrel
    by_cases hlt : j < m
    · have d1 : decide ((j : Int) < (m : Int)) = true := by simp; omega
      have hg := HG.out j hlt
      have g0 := HC.out j _ hg.1
      have hx := hg.2
      have ha := HB.out j (by omega)
      have ha1 := HB.out (j + 1) (by omega)
      have HX := Lib.hid (show rdn bs (j + 1) i = rdn bs j i * 256 + byteAt bs (i + j) by rfl)
      rw [HX.out] at ha1
      generalize byteAt bs (i + j) = x at *
      generalize rdn bs j i = a at *
      have HA := Lib.hid ha
      clear hg ha
      go_wp2
      go_roundw
      case rel => exact ⟨j + 1, by omega, by go_num, by rw [HX.out]; go_num, by first | rfl | trivial⟩
      case measure => simp [intOf]; omega
    · obtain rfl : j = m := by omega
      have d1 : decide ((j : Int) < (j : Int)) = false := by simp
      go_wp2
      go_ret
      exact ⟨rfl, hr, o2⟩
set_option maxRecDepth 100000 in
theorem run_short (B p : Nat) (bs : List Value) (i m : Nat) (w : World) (h : RRd w B p bs i false) (him : bs.length - i < m) :
    Calls Tryd.prog 29 #[.pointer (some ⟨p, 0, none⟩), .int .i64 (m : Nat)] w fun e w' => e = .returned (.int .i64 0) ∧ RRd w' B p bs i true ∧ Only w w' [p] := by
  have C := rtake_short B p bs i m w h him
  clear h him
  go_enter Tryd.func29, Tryd.ntmps29
  go_wp2_with (first | (go_at_call 49; ((refine C.mono ?_); rintro e w2 ⟨rfl, hr, o2⟩)))
  refine wp_loop_rounds 1 ?_
  rw [rounds_succ]
  go_wp2
  go_ret
  exact ⟨rfl, hr, o2⟩
set_option maxRecDepth 100000 in
theorem run_bad (B p : Nat) (bs : List Value) (i m : Nat) (w : World) (h : RRd w B p bs i true) :
    Calls Tryd.prog 29 #[.pointer (some ⟨p, 0, none⟩), .int .i64 (m : Nat)] w fun e w' => e = .returned (.int .i64 0) ∧ RRd w' B p bs i true ∧ Only w w' [p] := by
  have C := rtake_bad B p bs i m w h
  clear h
  go_enter Tryd.func29, Tryd.ntmps29
  go_wp2_with (first | (go_at_call 49; ((refine C.mono ?_); rintro e w2 ⟨rfl, hr, o2⟩)))
  refine wp_loop_rounds 1 ?_
  rw [rounds_succ]
  go_wp2
  go_ret
  exact ⟨rfl, hr, o2⟩
theorem rr_un (B p : Nat) (bs : List Value) (k m : Nat) (w : World) (h : RR w B p bs k) (hm : 1 ≤ m) (hm4 : m ≤ 4) :
    Calls Tryd.prog 29 #[.pointer (some ⟨p, 0, none⟩), .int .i64 (m : Nat)] w (RReadS w B p bs (k + m) (rsn bs m k (rdn bs m k) : Nat)) := by
  unfold rsn
  rcases h with ⟨h1, h2⟩ | ⟨h1, i, h2⟩
  · by_cases hk : k + m ≤ bs.length
    · rw [if_pos hk]
      exact (run_ok B p bs k m w h2 hm hm4 hk).mono fun e w' ⟨a, b, o⟩ => ⟨a, .inl ⟨hk, b⟩, o⟩
    · rw [if_neg hk]
      exact (run_short B p bs k m w h2 (by omega)).mono fun e w' ⟨a, b, o⟩ => ⟨a, .inr ⟨by omega, k, b⟩, o⟩
  · rw [if_neg (by omega)]
    exact (run_bad B p bs i m w h2).mono fun e w' ⟨a, b, o⟩ => ⟨a, .inr ⟨by omega, i, b⟩, o⟩
end Go.Proofs.YteffijgajhngeaaDoor

namespace Go.Proofs.YteffijgajhngeaaDoor
open Go Go.RowKit
set_option linter.unusedVariables false
set_option linter.unusedSimpArgs false
variable {q : Nat → Prop}

theorem rs_doneH (p : Nat) (bs : List Value) (k : Nat) (w : World) (h : RS q w p bs k) (u : Bool) (hu : decide (k ≤ bs.length) = u) : Calls Tryd.prog 28 #[.pointer (some ⟨p, 0, none⟩)] w fun e w' => e = .returned (.int .i64 (if u then 0 else 30)) ∧ w = w' := by
  rcases h with ⟨h1, A, c, hb, _⟩ | ⟨h1, i, A, c, hb, _⟩
  · have : u = true := by rw [← hu]; exact decide_eq_true h1
    subst this
    exact rdone_low p bs.length c k A false w hb
  · have : u = false := by rw [← hu]; exact decide_eq_false (by omega)
    subst this
    exact rdone_low p bs.length c i A true w hb
/-- The numbers from a on. -/
def runC (a m : Nat) : List Int := (List.range m).map fun i => ((a + i : Nat) : Int)
theorem runC_len (a m : Nat) : (runC a m).length = m := by simp [runC]
theorem runC_snoc (a m : Nat) : runC a (m + 1) = runC a m ++ [((a + m : Nat) : Int)] := by unfold runC; rw [List.range_succ, List.map_append]; rfl
/-- A range's first number; how many more it has. -/
def firstC (E : List Value) (k : Nat) : Nat := rsn E 2 k (rd2 E k)
def moreC (E : List Value) (f k : Nat) : Nat := rsn E f (k + 2) (rdn E f (k + 2))
theorem firstC_lt {E : List Value} (h : Bytes8 E) (k : Nat) : firstC E k < 65536 := rsn_lt (rd2_lt h k)
theorem moreC_lt {E : List Value} (h : Bytes8 E) (f k : Nat) (hf : f ≤ 2) : moreC E f k < 65536 := by
  unfold moreC
  match f, hf with
  | 0, _ => exact rsn_lt (by simp [rdn])
  | 1, _ => exact rsn_lt (by rw [rdn_one]; have := byteAt_lt h (k + 2); omega)
  | 2, _ => exact rsn_lt (by rw [rdn_two]; exact rd2_lt h _)
/-- Ranges, till there are n numbers. -/
def goC (E : List Value) (f n : Nat) : Nat → Nat → List Int → Option (List Int × Nat)
  | 0, k, L => some (L, k)
  | m + 1, k, L => if n ≤ L.length then some (L, k) else if n - L.length ≤ moreC E f k ∨ 65535 < firstC E k + moreC E f k then none else goC E f n m (k + 2 + f) (L ++ runC (firstC E k) (moreC E f k + 1))
theorem goC_end {E : List Value} {f n m k : Nat} {L : List Int} (h : n ≤ L.length) : goC E f n m k L = some (L, k) := by
  cases m with
  | zero => rfl
  | succ m => unfold goC; rw [if_pos h]
theorem goC_bad {E : List Value} {f n m k : Nat} {L : List Int} (h : L.length < n) (hb : n - L.length ≤ moreC E f k ∨ 65535 < firstC E k + moreC E f k) : goC E f n (m + 1) k L = none := by
  unfold goC; rw [if_neg (by omega), if_pos hb]
theorem goC_more {E : List Value} {f n m k : Nat} {L : List Int} (h : L.length < n) (hb : ¬ (n - L.length ≤ moreC E f k ∨ 65535 < firstC E k + moreC E f k)) : goC E f n (m + 1) k L = goC E f n m (k + 2 + f) (L ++ runC (firstC E k) (moreC E f k + 1)) := by
  conv => lhs; unfold goC
  rw [if_neg (by omega), if_neg hb]
def finC (E : List Value) (r : Option (List Int × Nat)) : Option (List Int) := match r with
  | some (L, k) => if k ≤ E.length then some L else none
  | none => none
def ldC (E : List Value) (n : Nat) : Option (List Int) :=
  if 2 < rsn E 1 0 (byteAt E 0) then none else finC E (goC E (rsn E 1 0 (byteAt E 0)) n n 1 [0])
theorem rsn_take {E : List Value} {N m k v : Nat} (h : k + m ≤ N) : rsn (E.take N) m k v = rsn E m k v := by
  unfold rsn
  rw [List.length_take]
  by_cases hk : k + m ≤ E.length
  · rw [if_pos hk, if_pos (by omega)]
  · rw [if_neg hk, if_neg (by omega)]
theorem rdn_take {E : List Value} {N : Nat} : ∀ n k, k + n ≤ N → rdn (E.take N) n k = rdn E n k
  | 0, k, _ => rfl
  | n + 1, k, h => by
    show rdn _ n k * 256 + byteAt _ (k + n) = rdn E n k * 256 + byteAt E (k + n)
    rw [rdn_take n k (by omega), byteAt_take (by omega)]
theorem goC_take (E : List Value) (f n : Nat) (hf : f ≤ 2) : ∀ m k (L : List Int), 1 ≤ L.length → k ≤ 1 + 4 * (L.length - 1) → goC (E.take (1 + 4 * n)) f n m k L = goC E f n m k L
  | 0, k, L, _, _ => rfl
  | m + 1, k, L, h1, hk => by
    unfold goC
    by_cases hn : n ≤ L.length
    · rw [if_pos hn, if_pos hn]
    · have e1 : firstC (E.take (1 + 4 * n)) k = firstC E k := by unfold firstC; rw [rsn_take (by omega), rd2_take (by omega)]
      have e2 : moreC (E.take (1 + 4 * n)) f k = moreC E f k := by unfold moreC; rw [rsn_take (by omega), rdn_take _ _ (by omega)]
      rw [if_neg hn, if_neg hn, e1, e2]
      split
      · rfl
      · exact goC_take E f n hf m _ _ (by simp; omega) (by rw [List.length_append, runC_len]; omega)
theorem goC_res (E : List Value) (f n : Nat) (hf : f ≤ 2) : ∀ m k (L L' : List Int) (k' : Nat), 1 ≤ L.length → L.length ≤ n → k ≤ 1 + 4 * (L.length - 1) → n ≤ L.length + m → goC E f n m k L = some (L', k') → k' ≤ 1 + 4 * n ∧ L'.length = n ∧ k ≤ k'
  | 0, k, L, L', k', h1, h2, hk, hm, h => by
    injection h with h; injection h with h3 h4; subst h3 h4
    exact ⟨by omega, by omega, Nat.le_refl _⟩
  | m + 1, k, L, L', k', h1, h2, hk, hm, h => by
    unfold goC at h
    split at h
    · injection h with h; injection h with h3 h4; subst h3 h4
      exact ⟨by omega, by omega, Nat.le_refl _⟩
    · split at h
      · cases h
      · rename_i hb
        have := goC_res E f n hf m _ _ L' k' (by simp; omega) (by rw [List.length_append, runC_len]; omega) (by rw [List.length_append, runC_len]; omega) (by rw [List.length_append, runC_len]; omega) h
        exact ⟨this.1, this.2.1, by omega⟩
theorem ldC_take (E : List Value) (n : Nat) (hn : 1 ≤ n) : ldC (E.take (1 + 4 * n)) n = ldC E n := by
  unfold ldC
  rw [rsn_take (by omega), byteAt_take (by omega)]
  split
  · rfl
  · rename_i hf
    rw [goC_take E _ n (by omega) n 1 [0] (by decide) (by decide)]
    generalize hg : goC E (rsn E 1 0 (byteAt E 0)) n n 1 [0] = r
    match r, hg with
    | none, _ => rfl
    | some (L, k), hg =>
      have := goC_res E _ n (by omega) n 1 [0] L k (by decide) (by simpa using hn) (by decide) (by simp) hg
      show (if k ≤ (E.take (1 + 4 * n)).length then some L else none) = if k ≤ E.length then some L else none
      rw [List.length_take]
      by_cases hk : k ≤ E.length
      · rw [if_pos hk, if_pos (by omega)]
      · rw [if_neg hk, if_neg (by omega)]
theorem ldC_len {E : List Value} {n : Nat} {L : List Int} (hn : 1 ≤ n) (h : ldC E n = some L) : L.length = n := by
  unfold ldC at h
  split at h
  · cases h
  · rename_i hf
    generalize hg : goC E (rsn E 1 0 (byteAt E 0)) n n 1 [0] = r at h
    match r, hg, h with
    | none, _, h => cases h
    | some (L', k), hg, h =>
      have := goC_res E _ n (by omega) n 1 [0] L' k (by decide) (by simpa using hn) (by decide) (by simp) hg
      unfold finC at h
      simp only at h
      split at h
      · injection h with h; subst h; exact this.2.1
      · cases h
/-- What Load answers. -/
def LdC (w : World) (r : Option (List Int)) (e : Ending) (w' : World) : Prop := match r with
  | some L => ∃ A c, e = .returned (.tuple #[.slice A L.length c, .int .i64 0]) ∧ Hid (Lists w' w'.heap.size A (intCells L)) ∧ L.length ≤ c ∧ Below w.heap.size w w'
  | none => e = .returned (.tuple #[.slice none 0 0, .int .i64 160]) ∧ Below w.heap.size w w'
def sLenC : Value → Nat
  | .slice _ n _ => n
  | _ => 0
theorem ownC_one (w : World) (x : Int) (k : Nat) (hk : k = w.heap.size) : (w.alloc (.cells #[.int .i64 x] 3)).ownsRow k 3 1 (.slice (some ⟨k, 0, none⟩) 1 1) 1 [.int .i64 x] := by
  subst hk
  exact ⟨rfl, .inr ⟨w.heap.size, 1, #[.int .i64 x], rfl, Nat.le_refl _, heap_alloc_new w _, Nat.le_refl _, by unfold maxLen; omega, by simp, by simp⟩⟩
theorem ownC_low {w : World} {base : Nat} {e : TypeId} {size n : Nat} {v : Value} {xs : List Value} (h : w.ownsRow base e size v n xs) : ∀ b ∈ blk v, base ≤ b := by
  intro b hm
  rcases h.2 with ⟨rfl, _⟩ | ⟨g, cap, cur, rfl, h2, _⟩
  · simp [blk, Value.ownBlock] at hm
  · have : b = g := by simpa [blk, Value.ownBlock] using hm
    omega
theorem intInfoC : (Tryd.prog.info? 3).map (fun i => (i.zero, i.size, i.bytes)) = some (some (.int .i64 0), 1, 8) := by kernel_rfl
theorem intCells_snocC (l : List Int) (x : Int) : intCells (l ++ [x]) = intCells l ++ [.int .i64 x] := by simp [intCells]
end Go.Proofs.YteffijgajhngeaaDoor
