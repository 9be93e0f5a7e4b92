/- Part 5 of the proof: CmF, CmG, Wide, ChainW, CmH, CmI, Ws. -/
import Derived.Deep.DeepAppendWide
import Derived.Test.YtekailhghjideaaCCm3

namespace Go.Proofs.Ytekailhghjideaa
open Go Go.RowKit
set_option linter.unusedVariables false
set_option linter.unusedSimpArgs false

/-- The first place at which p holds, or -1. -/
def idxP {α : Type} (p : α → Bool) : List α → Int
  | [] => -1
  | x :: L => if p x then 0 else (if idxP p L < 0 then -1 else idxP p L + 1)
theorem take_any_no {α : Type} {L : List α} {p : α → Bool} {k : Nat} {x : α} (hx : L[k]? = some x) (h : (L.take k).any p = false) (ht : p x = false) : (L.take (k + 1)).any p = false := by
  rw [List.take_add_one, hx]
  simp only [Option.toList_some, List.any_append, h, List.any_cons, ht, List.any_nil, Bool.or_self]
theorem idxP_none {α : Type} {p : α → Bool} : ∀ {L : List α}, L.any p = false → idxP p L = -1
  | [], _ => rfl
  | x :: L, h => by
    simp only [List.any_cons, Bool.or_eq_false_iff] at h
    have e := idxP_none h.2
    unfold idxP
    rw [h.1, e]
    rfl
theorem idxP_at {α : Type} {p : α → Bool} : ∀ {L : List α} {k : Nat} {x : α}, L[k]? = some x → (L.take k).any p = false → p x = true → idxP p L = k
  | [], k, x, h, _, _ => by simp at h
  | y :: L, 0, x, h, _, ht => by
    obtain rfl : y = x := by simpa using h
    unfold idxP
    rw [ht]
    rfl
  | y :: L, k + 1, x, h, hk, ht => by
    rw [List.take_succ_cons, List.any_cons, Bool.or_eq_false_iff] at hk
    have e := idxP_at (p := p) (L := L) (by simpa using h) hk.2 ht
    unfold idxP
    rw [hk.1, e, if_neg (by simp), if_neg (by omega)]
    rfl
def fmL (x : Int × Int) : List Value := [.int .i64 x.1, .int .i64 x.2]
theorem fmLen (x : Int × Int) : (fmL x).length = 2 := rfl
set_option maxRecDepth 100000 in
set_option maxHeartbeats 1000000 in
theorem idxForm_any (g : FuncId) (lb : Array Value) (p : Int × Int → Bool) (B : Nat) (A : Option Addr) (c : Nat) (L : List (Int × Int)) (w : World) (hB : B ≤ w.heap.size) (hL : Lists w B A (L.flatMap fmL)) (hn : L.length ≤ 1099511627776)
    (eg : ∀ args w, (callFunc g args).run Try.prog w = .ok (.enter g args) w)
    (hp : ∀ (W : World) (x : Int × Int), x ∈ L → Below w.heap.size w W → Calls Try.prog g (#[.agg (fmL x).toArray] ++ lb) W fun e w' => e = .returned (.bool (p x)) ∧ Below W.heap.size W w') :
    Calls Try.prog 76 #[.slice A L.length c, .func (.func g) #[] lb] w fun e w' => e = .returned (.int .i64 (idxP p L)) ∧ Below w.heap.size w w' := by
  have HL := Lib.hid hL
  have HP := Lib.hid hp
  clear hL hp
  obtain ⟨n, hnn⟩ : ∃ n, n = L.length := ⟨_, rfl⟩
  rw [← hnn] at hn ⊢
  have HN := Lib.hid hnn
  clear hnn
  go_enter Try.func76, Try.ntmps76
  go_wp2
  go_loopw [8] (fun i wr => ∃ k : Nat, k ≤ n ∧ i = .int .i64 k ∧ Hid ((L.take k).any p = false) ∧ Below w.heap.size w wr) (fun i _ => n - (intOf i).toNat)
  case atStart => exact ⟨0, Nat.zero_le _, rfl, Lib.hid rfl, Below.refl _ _⟩
  case round =>
    obtain ⟨k, hk, rfl, HK, hb⟩ := hrel
    by_cases hlt : k < n
    · have d1 : decide ((k : Int) < (n : Int)) = true := by simp; omega
      obtain ⟨x, hx⟩ : ∃ x, L[k]? = some x := ⟨L[k]'(by rw [← HN.out]; exact hlt), List.getElem?_eq_getElem _⟩
      obtain ⟨b, o, hA, hbl, hcl⟩ := lists_flat fmLen (by decide) HL.out hx
      subst hA
      have g0 := Lib.hid (range_below hcl (Nat.lt_of_lt_of_le hbl hB) hb)
      have C := HP.out wr x (List.mem_of_getElem? hx) hb
      have HX := Lib.hid hx
      clear hcl hx
      cases ht : p x
      · rw [ht] at C
        have HT := Lib.hid (take_any_no HX.out HK.out ht)
        clear ht
        go_wp2_with (first | (refine wpList_load_mid rfl 75 _ (by with_reducible rfl) b (o + k * 2) (by rfl) (fmL x) _ g0.out Try.underlying75 rfl (by rw [fmLen]; kernel_rfl) ?_) | (go_at_fn g; ((with_reducible refine (C).mono ?_); rintro e w1 ⟨rfl, b1⟩)))
        go_roundw
        case rel => exact ⟨k + 1, by omega, by go_num, HT, hb.trans (b1.mono hb.size)⟩
        case measure => simp [intOf]; omega
      · rw [ht] at C
        have HT := Lib.hid (idxP_at HX.out HK.out ht)
        clear ht
        go_wp2_with (first | (refine wpList_load_mid rfl 75 _ (by with_reducible rfl) b (o + k * 2) (by rfl) (fmL x) _ g0.out Try.underlying75 rfl (by rw [fmLen]; kernel_rfl) ?_) | (go_at_fn g; ((with_reducible refine (C).mono ?_); rintro e w1 ⟨rfl, b1⟩)))
        go_ret
        exact ⟨by rw [HT.out]; rfl, hb.trans (b1.mono hb.size)⟩
    · have d1 : decide ((k : Int) < (n : Int)) = false := by simp; omega
      have HT := Lib.hid (idxP_none (p := p) (show L.any p = false by have := HK.out; rwa [List.take_of_length_le (by have := HN.out; omega)] at this))
      go_wp2
      go_ret
      exact ⟨by rw [HT.out]; rfl, hb⟩


def F4 : List (Int × Int) := [(0, 0), (8, 1), (64, 2), (128, 4)]
/-- The form that find answers. -/
def fnd (p : Int × Int → Bool) : (Int × Int) × Bool :=
  if p (0, 0) then ((0, 0), true) else if p (8, 1) then ((8, 1), true) else if p (64, 2) then ((64, 2), true) else if p (128, 4) then ((128, 4), true) else ((0, 0), false)
theorem fnd_idx (p : Int × Int → Bool) : (p (0, 0) = true ∧ idxP p F4 = 0 ∧ fnd p = ((0, 0), true)) ∨ (p (0, 0) = false ∧ p (8, 1) = true ∧ idxP p F4 = 1 ∧ fnd p = ((8, 1), true)) ∨ (p (0, 0) = false ∧ p (8, 1) = false ∧ p (64, 2) = true ∧ idxP p F4 = 2 ∧ fnd p = ((64, 2), true)) ∨ (p (0, 0) = false ∧ p (8, 1) = false ∧ p (64, 2) = false ∧ p (128, 4) = true ∧ idxP p F4 = 3 ∧ fnd p = ((128, 4), true)) ∨ (p (0, 0) = false ∧ p (8, 1) = false ∧ p (64, 2) = false ∧ p (128, 4) = false ∧ idxP p F4 = -1 ∧ fnd p = ((0, 0), false)) := by
  unfold fnd F4 idxP
  cases h0 : p (0, 0)
  · cases h1 : p (8, 1)
    · cases h2 : p (64, 2)
      · cases h3 : p (128, 4) <;> simp [idxP, h1, h2, h3]
      · simp [idxP, h1, h2]
    · simp [idxP, h1]
  · simp
set_option maxRecDepth 100000 in
set_option maxHeartbeats 1000000 in
theorem find_any (g : FuncId) (lb : Array Value) (p : Int × Int → Bool) (w : World)
    (eg : ∀ args w, (callFunc g args).run Try.prog w = .ok (.enter g args) w)
    (hp : ∀ (W : World) (x : Int × Int), x ∈ F4 → Below w.heap.size w W → Calls Try.prog g (#[.agg (fmL x).toArray] ++ lb) W fun e w' => e = .returned (.bool (p x)) ∧ Below W.heap.size W w') :
    Calls Try.prog 70 #[.func (.func g) #[] lb] w fun e w' => e = .returned (.tuple #[.agg (fmL (fnd p).1).toArray, .bool (fnd p).2]) ∧ Below w.heap.size w w' := by
  have B1 : Below w.heap.size w (w.alloc (.cells #[.int .i64 0, .int .i64 0] 75)) := (Below.refl _ _).alloc (Nat.le_refl _) _
  have B2 := B1.alloc B1.size (.cells #[.int .i64 0, .int .i64 0, .int .i64 8, .int .i64 1, .int .i64 64, .int .i64 2, .int .i64 128, .int .i64 4] 75)
  have HL : Lists ((w.alloc (.cells #[.int .i64 0, .int .i64 0] 75)).alloc (.cells #[.int .i64 0, .int .i64 0, .int .i64 8, .int .i64 1, .int .i64 64, .int .i64 2, .int .i64 128, .int .i64 4] 75)) (w.heap.size + 1 + 1) (some ⟨w.heap.size + 1, 0, none⟩) (F4.flatMap fmL) := by
    exact lists_row_at (w.alloc (.cells #[.int .i64 0, .int .i64 0] 75)) (F4.flatMap fmL) 75 (w.heap.size + 1) (by simp)
  have C := idxForm_any g lb p (w.heap.size + 1 + 1) (some ⟨w.heap.size + 1, 0, none⟩) 4 F4 _ (by simp) HL (by decide) eg (fun W x hx hb => hp W x hx (B2.trans (hb.mono B2.size)))
  rw [show F4.length = 4 from rfl] at C
  have K1 := Blk.new w 75 #[.int .i64 0, .int .i64 0]
  have K2 := Blk.new (w.alloc (.cells #[.int .i64 0, .int .i64 0] 75)) 75 #[.int .i64 0, .int .i64 0, .int .i64 8, .int .i64 1, .int .i64 64, .int .i64 2, .int .i64 128, .int .i64 4]
  rw [World.size_alloc] at K2
  have K1 := K1.below ((Below.refl _ _).alloc (Nat.le_refl _) (.cells #[.int .i64 0, .int .i64 0, .int .i64 8, .int .i64 1, .int .i64 64, .int .i64 2, .int .i64 128, .int .i64 4] 75))
  have ways := fnd_idx p
  clear hp HL B1
  rcases ways with ⟨h0, hi, hf⟩ | ⟨h0, h1, hi, hf⟩ | ⟨h0, h1, h2, hi, hf⟩ | ⟨h0, h1, h2, h3, hi, hf⟩ | ⟨h0, h1, h2, h3, hi, hf⟩
  all_goals
    rw [hi] at C
    rw [hf]
    clear hi hf
    go_enter Try.func70, Try.ntmps70
    go_wp2_with (go_at_call 76; ((with_reducible refine (C).mono ?_); rintro e w1 ⟨rfl, b1⟩; have B3 := B2.trans (b1.mono B2.size); have K1 := K1.below b1; have K2 := K2.below b1; have c0 := K1.cell 0; have c1 := K1.cell 1; have f0 := K1.frozen 0; have f1 := K1.frozen 1; have e0 := K2.cell 0; have e1 := K2.cell 1; have e2 := K2.cell 2; have e3 := K2.cell 3; have e4 := K2.cell 4; have e5 := K2.cell 5; have e6 := K2.cell 6; have e7 := K2.cell 7; simp only [List.getElem?_toArray, List.getElem?_cons_zero, List.getElem?_cons_succ] at c0 c1 e0 e1 e2 e3 e4 e5 e6 e7))
  · refine bodyPost_ret (results_row_tmp Try.results70 _ _ w.heap.size 75 (fmL (0, 0)).toArray (0, 0) _ (.bool true) (by rfl) (by rfl) (show Blk _ _ _ _ from (K1.set 0 (.int .i64 0)).set 1 (.int .i64 0)) Try.underlying75 rfl (by kernel_rfl)) rfl ⟨rfl, ?_⟩
    exact (B3.setCell (p := ⟨w.heap.size, 0, none⟩) (Nat.le_refl _) _).setCell (p := ⟨w.heap.size, 1, none⟩) (Nat.le_refl _) _
  · refine bodyPost_ret (results_row_tmp Try.results70 _ _ w.heap.size 75 (fmL (8, 1)).toArray (0, 0) _ (.bool true) (by rfl) (by rfl) (show Blk _ _ _ _ from (K1.set 0 (.int .i64 8)).set 1 (.int .i64 1)) Try.underlying75 rfl (by kernel_rfl)) rfl ⟨rfl, ?_⟩
    exact (B3.setCell (p := ⟨w.heap.size, 0, none⟩) (Nat.le_refl _) _).setCell (p := ⟨w.heap.size, 1, none⟩) (Nat.le_refl _) _
  · refine bodyPost_ret (results_row_tmp Try.results70 _ _ w.heap.size 75 (fmL (64, 2)).toArray (0, 0) _ (.bool true) (by rfl) (by rfl) (show Blk _ _ _ _ from (K1.set 0 (.int .i64 64)).set 1 (.int .i64 2)) Try.underlying75 rfl (by kernel_rfl)) rfl ⟨rfl, ?_⟩
    exact (B3.setCell (p := ⟨w.heap.size, 0, none⟩) (Nat.le_refl _) _).setCell (p := ⟨w.heap.size, 1, none⟩) (Nat.le_refl _) _
  · refine bodyPost_ret (results_row_tmp Try.results70 _ _ w.heap.size 75 (fmL (128, 4)).toArray (0, 0) _ (.bool true) (by rfl) (by rfl) (show Blk _ _ _ _ from (K1.set 0 (.int .i64 128)).set 1 (.int .i64 4)) Try.underlying75 rfl (by kernel_rfl)) rfl ⟨rfl, ?_⟩
    exact (B3.setCell (p := ⟨w.heap.size, 0, none⟩) (Nat.le_refl _) _).setCell (p := ⟨w.heap.size, 1, none⟩) (Nat.le_refl _) _
  · refine bodyPost_ret (results_row_tmp Try.results70 _ _ w.heap.size 75 (fmL (0, 0)).toArray (0, 0) _ (.bool false) (by rfl) (by rfl) (show Blk _ _ _ _ from (K1.set 0 (.int .i64 0)).set 1 (.int .i64 0)) Try.underlying75 rfl (by kernel_rfl)) rfl ⟨rfl, ?_⟩
    exact (B3.setCell (p := ⟨w.heap.size, 0, none⟩) (Nat.le_refl _) _).setCell (p := ⟨w.heap.size, 1, none⟩) (Nat.le_refl _) _
end Go.Proofs.Ytekailhghjideaa

namespace Go.Proofs.Ytekailhghjideaa
open Go Go.RowKit
set_option linter.unusedVariables false
set_option linter.unusedSimpArgs false
variable {q : Nat → Prop}

theorem bits_200 (f : Nat) (hf : f < 65536) : bits .and .i64 (f : Int) 200 = (b200 f : Nat) := by
  rw [show (200 : Int) = ((200 : Nat) : Int) from rfl, and_nat f 200 (by omega) (by omega), and_200]
theorem fnd_frm (f : Nat) : ∃ b : Int, fnd (fun x => x.1 == (b200 f : Int)) = ((b, ((matN f : Nat) : Int)), (frm f).isSome) := by
  unfold matN
  rcases frm_cases f with ⟨h, e⟩ | ⟨h, e⟩ | ⟨h, e⟩ | ⟨h, e⟩ | ⟨h0, h1, h2, h3, e⟩
  · exact ⟨0, by rw [e, h]; rfl⟩
  · exact ⟨8, by rw [e, h]; rfl⟩
  · exact ⟨64, by rw [e, h]; rfl⟩
  · exact ⟨128, by rw [e, h]; rfl⟩
  · refine ⟨0, ?_⟩
    rw [e]
    unfold fnd
    have n0 : ((0 : Int) == (b200 f : Int)) = false := by simp; omega
    have n1 : ((8 : Int) == (b200 f : Int)) = false := by simp; omega
    have n2 : ((64 : Int) == (b200 f : Int)) = false := by simp; omega
    have n3 : ((128 : Int) == (b200 f : Int)) = false := by simp; omega
    simp only [n0, n1, n2, n3]
    rfl
set_option maxRecDepth 100000 in
theorem formOf1_any (f : Nat) (hf : f < 65536) (x : Int × Int) (r : Bool) (hr : (x.1 == (b200 f : Int)) = r) (fb : Nat) (w : World) (h0 : w.cell? ⟨fb, 0, none⟩ = some (.int .i64 f)) (hl : fb < w.heap.size) :
    Calls Try.prog 71 (#[.agg (fmL x).toArray] ++ #[.pointer (some ⟨fb, 0, none⟩)]) w fun e w' => e = .returned (.bool r) ∧ Below w.heap.size w w' := by
  have e2 := bits_200 f hf
  obtain ⟨a, b⟩ := x
  simp only at hr
  show Calls _ _ #[.agg #[.int .i64 a, .int .i64 b], .pointer (some ⟨fb, 0, none⟩)] _ _
  have h0' : (w.alloc (.cells #[.int .i64 a, .int .i64 b] 75)).cell? ⟨fb, 0, none⟩ = some (.int .i64 f) := (World.cell?_alloc_old w _ ⟨fb, 0, none⟩ (by simp; omega)).trans h0
  generalize (b200 f : Int) = z at *
  go_enter Try.func71, Try.ntmps71
  go_wp2
  go_ret
  exact ⟨rfl, (Below.refl _ _).alloc (Nat.le_refl _) _⟩
set_option maxRecDepth 100000 in
set_option maxHeartbeats 1000000 in
theorem formOf_any (f : Nat) (hf : f < 65536) (w : World) :
    Calls Try.prog 45 #[.int .i64 f] w fun e w' => ∃ b : Int, e = .returned (.tuple #[.agg #[.int .i64 b, .int .i64 (matN f : Nat)], .bool (frm f).isSome]) ∧ Below w.heap.size w w' := by
  obtain ⟨b, hb⟩ := fnd_frm f
  have B1 : Below w.heap.size w (w.alloc (.cells #[.int .i64 f] 3)) := (Below.refl _ _).alloc (Nat.le_refl _) _
  have B2 := B1.alloc B1.size (.cells #[.int .i64 0, .int .i64 0] 75)
  have K0 := Blk.new w 3 #[.int .i64 f]
  have K0 := K0.below ((Below.refl _ _).alloc (Nat.le_refl _) (.cells #[.int .i64 0, .int .i64 0] 75))
  have K1 := Blk.new (w.alloc (.cells #[.int .i64 f] 3)) 75 #[.int .i64 0, .int .i64 0]
  rw [World.size_alloc] at K1
  have C := find_any 71 #[.pointer (some ⟨w.heap.size, 0, none⟩)] (fun x => x.1 == (b200 f : Int)) ((w.alloc (.cells #[.int .i64 f] 3)).alloc (.cells #[.int .i64 0, .int .i64 0] 75)) (fun _ _ => rfl) (fun W x _ hW => formOf1_any f hf x _ rfl w.heap.size W ((K0.below hW).cell 0) (K0.below hW).lt)
  rw [hb] at C
  clear hb B1 K0
  generalize ((matN f : Nat) : Int) = n at *
  generalize (frm f).isSome = ok at *
  go_enter Try.func45, Try.ntmps45
  go_wp2_with (go_at_call 70; ((with_reducible refine (C).mono ?_); rintro e w1 ⟨rfl, b1⟩; have B3 := B2.trans (b1.mono B2.size); have K1 := K1.below b1; have c0 := K1.cell 0; have c1 := K1.cell 1; have f0 := K1.frozen 0; have f1 := K1.frozen 1; simp only [List.getElem?_toArray, List.getElem?_cons_zero, List.getElem?_cons_succ, fmL] at c0 c1 ⊢))
  refine bodyPost_ret (results_row_tmp Try.results45 _ _ (w.heap.size + 1) 75 #[.int .i64 b, .int .i64 n] (0, 0) _ (.bool ok) (by rfl) (by rfl) (show Blk _ _ _ _ from (K1.set 0 (.int .i64 b)).set 1 (.int .i64 n)) Try.underlying75 rfl (by kernel_rfl)) rfl ⟨?_, ?_⟩
  · exact ⟨b, rfl⟩
  · exact (B3.setCell (p := ⟨w.heap.size + 1, 0, none⟩) (by simp) _).setCell (p := ⟨w.heap.size + 1, 1, none⟩) (by simp) _
set_option maxRecDepth 100000 in
theorem argument_3 (p f : Nat) (w : World) (h : bits .and .i64 (f : Int) 3 = 3) :
    Calls Try.prog 46 #[.pointer (some ⟨p, 0, none⟩), .int .i64 f] w fun e w' => e = .returned (.func (.func 18) #[.pointer (some ⟨p, 0, none⟩)] #[]) ∧ w' = w.alloc (.cells #[.pointer (some ⟨p, 0, none⟩)] 42) := by
  go_enter Try.func46, Try.ntmps46
  go_wp2
  go_ret
  exact ⟨rfl, rfl⟩
set_option maxRecDepth 100000 in
theorem argument_1 (p f : Nat) (w : World) (h : bits .and .i64 (f : Int) 3 = 1) :
    Calls Try.prog 46 #[.pointer (some ⟨p, 0, none⟩), .int .i64 f] w fun e w' => e = .returned (.func (.func 20) #[.pointer (some ⟨p, 0, none⟩)] #[]) ∧ w' = w.alloc (.cells #[.pointer (some ⟨p, 0, none⟩)] 42) := by
  go_enter Try.func46, Try.ntmps46
  go_wp2
  go_ret
  exact ⟨rfl, rfl⟩
set_option maxRecDepth 100000 in
theorem argument_2 (p f : Nat) (w : World) (h : bits .and .i64 (f : Int) 3 = 2) :
    Calls Try.prog 46 #[.pointer (some ⟨p, 0, none⟩), .int .i64 f] w fun e w' => e = .returned (.func (.func 72) #[] #[.pointer (some ⟨w.heap.size, 0, none⟩)]) ∧ w' = w.alloc (.cells #[.pointer (some ⟨p, 0, none⟩)] 42) := by
  go_enter Try.func46, Try.ntmps46
  go_wp2
  go_ret
  exact ⟨rfl, rfl⟩
set_option maxRecDepth 100000 in
theorem argument_0 (p f : Nat) (w : World) (h : bits .and .i64 (f : Int) 3 = 0) :
    Calls Try.prog 46 #[.pointer (some ⟨p, 0, none⟩), .int .i64 f] w fun e w' => e = .returned (.func (.func 73) #[.pointer (some ⟨p, 0, none⟩)] #[]) ∧ w' = w.alloc (.cells #[.pointer (some ⟨p, 0, none⟩)] 42) := by
  go_enter Try.func46, Try.ntmps46
  go_wp2
  go_ret
  exact ⟨rfl, rfl⟩

/-- Take: what it answers does not matter here. -/
def TookS (q : Nat → Prop) (w : World) (p : Nat) (bs : List Value) (k : Nat) (e : Ending) (w' : World) : Prop := ∃ v, e = .returned v ∧ RS q w' p bs k ∧ Only w w' [p]
set_option maxRecDepth 100000 in
theorem rs_take (p : Nat) (bs : List Value) (k m : Nat) (w : World) (h : RS q w p bs k) (hL : bs.length ≤ 140737488355328) (hm : 0 < m) :
    Calls Try.prog 19 #[.pointer (some ⟨p, 0, none⟩), .int .i64 m] w (TookS q w p bs (k + m)) := by
  have h8 := h.bytes
  have C : Calls Try.prog 44 #[.pointer (some ⟨p, 0, none⟩), .int .i64 m] w fun e w' => ∃ A E, e = .returned (.slice A E.length E.length) ∧ Lists w' w'.heap.size A E ∧ Bytes8 E ∧ E.length ≤ 140737488355328 ∧ RS q w' p bs (k + m) ∧ Only w w' [p] := by
    rcases h with ⟨h1, h2⟩ | ⟨h1, i, h2⟩
    · by_cases hk : k + m ≤ bs.length
      · refine (next_ok p bs k m w h2 (by omega) hk).mono fun e w' ⟨A, a, l, b, o⟩ => ⟨A, (bs.drop k).take m, ?_, l, fun u hu => h8 u (List.mem_of_mem_drop (List.mem_of_mem_take hu)), by rw [List.length_take, List.length_drop]; omega, .inl ⟨hk, b⟩, o⟩
        rw [List.length_take, List.length_drop, Nat.min_eq_left (by omega)]
        exact a
      · exact (next_short p bs k m w h2 (by omega) (.inr (by omega))).mono fun e w' ⟨a, b, o⟩ => ⟨none, [], a, Lists.empty _ _ _, fun u hu => (nomatch hu), by simp, .inr ⟨by omega, k, b⟩, o⟩
    · exact (next_bad p bs i m w h2).mono fun e w' ⟨a, b⟩ => ⟨none, [], a, Lists.empty _ _ _, fun u hu => (nomatch hu), by simp, .inr ⟨by omega, i, b ▸ h2⟩, b ▸ Only.refl _ _⟩
  clear h h8
  go_enter Try.func19, Try.ntmps19
  go_wp2_with (first | (go_at_call 44; ((with_reducible refine (C).mono ?_); rintro e w1 ⟨A1, E1, rfl, l1, h81, hm1, r1, o1⟩)) | (go_at_call 42; ((with_reducible refine (clone_any A1 E1.length E1.length E1 w1 l1 rfl h81 hm1).mono ?_); rintro e w2 ⟨A2, c2, rfl, l2, m2, n2, b2, _⟩)))
  go_ret
  exact ⟨_, rfl, r1.below b2, o1.then_below b2⟩
theorem rs_doneC (p : Nat) (bs : List Value) (k : Nat) (w : World) (h : RS q w p bs k) : Calls Try.prog 49 #[.pointer (some ⟨p, 0, none⟩)] w fun e w' => ∃ z : Int, e = .returned (.int .i64 z) ∧ (z == 0) = decide (k ≤ bs.length) ∧ w = w' := by
  rcases h with ⟨h1, A, c, hb, _⟩ | ⟨h1, i, A, c, hb, _⟩
  · exact (rdone_low p bs.length c k A false w hb).mono fun e w' ⟨a, b⟩ => ⟨0, a, by simpa using h1, b⟩
  · exact (rdone_low p bs.length c i A true w hb).mono fun e w' ⟨a, b⟩ => ⟨30, a, by simp; omega, b⟩
end Go.Proofs.Ytekailhghjideaa

namespace Go.Proofs.Ytekailhghjideaa
open Go Go.RowKit

section
variable {P : Program} (w : World)

theorem run_append_src_wide (base : Nat) (t ty e : TypeId) (i : TypeInfo) (z : Value) (size bytes : Nat) (ht : P.underlying t = some (.slice e)) (hi : P.info? e = some i) (hz : i.zero = some z)
    (hsize : i.size = size) (hby : i.bytes = bytes) (hzs : z.cells.size = size) (hsz : 0 < size) (v : Value) (n : Nat) (xs : List Value) (hown : w.ownsRow base e size v n xs)
    (B : Nat) (A : Option Addr) (m c : Nat) (news : List Value) (hr : Lists w B A news) (hl : news.length = m * size) (h1 : ∀ u ∈ news, u.oneCell' = true)
    (h63 : n + m ≤ maxLen) (hbytes : ((n + m) + (n + m) / 4 + 192) * bytes ≤ 281474976710656) (hbase : base ≤ w.heap.size) :
    ∃ v' w', (Builtin.append_ #[t, t] ty #[v, .slice A m c]).run P w = .ok v' w' ∧ w'.ownsRow base e size v' (n + m) (xs ++ news) ∧ w.grownBy w' v.ownBlock := by
  cases A with
  | none =>
    have hn : news = [] := hr.nil rfl
    subst hn
    have hm : m = 0 := by
      have : m * size = 0 := by simpa using hl.symm
      rcases Nat.mul_eq_zero.1 this with h | h
      · exact h
      · omega
    subst hm
    refine ⟨v, w, ?_, by simpa using hown, World.grownBy.refl w _⟩
    rcases hown.2 with ⟨rfl, rfl⟩ | ⟨g, cap, cur, rfl, _, _, hc, _⟩
    · simp [Builtin.append_, run_underlying ht, sizeOf, typeInfo, hi, Builtin.lenOf, Builtin.firstCells]
    · simp [Builtin.append_, run_underlying ht, sizeOf, typeInfo, hi, Builtin.lenOf, Builtin.firstCells, hc, storeCells]
  | some ad =>
    obtain ⟨v', w', hrun, h2, h3, _⟩ := run_append_own_wide (P := P) w base t ty e i z size bytes ht hi hz hsize hby hzs hsz v n xs hown ad m c news hl (hr.cell ad rfl) h1 h63 hbytes hbase
    exact ⟨v', w', hrun, h2, h3⟩

theorem wp_append_src_wide {o : Oper} {a : Act} {K : Act → World → Prop} {Q : Exit → Act → World → Prop} (s x : Operand) (t : TypeId)
    (ho : o.op = .call { callee := .builtin .append, args := #[s, x], argTypes := #[t, t] })
    (base : Nat) (e : TypeId) (i : TypeInfo) (z : Value) (size bytes : Nat) (ht : P.underlying t = some (.slice e)) (hi : P.info? e = some i) (hz : i.zero = some z)
    (hsize : i.size = size) (hby : i.bytes = bytes) (hzs : z.cells.size = size) (hsz : 0 < size)
    (v : Value) (n : Nat) (xs : List Value) (hs : a.eval s = v) (hown : w.ownsRow base e size v n xs)
    (B : Nat) (A : Option Addr) (m c : Nat) (news : List Value) (hx : a.eval x = .slice A m c) (hr : Lists w B A news) (hl : news.length = m * size) (h1 : ∀ u ∈ news, u.oneCell' = true)
    (h63 : n + m ≤ maxLen) (hbytes : ((n + m) + (n + m) / 4 + 192) * bytes ≤ 281474976710656) (hbase : base ≤ w.heap.size)
    (h : ∀ v' w', w'.ownsRow base e size v' (n + m) (xs ++ news) → w.grownBy w' v.ownBlock → K (a.put o.dst v') w') : o.wp P a w K Q := by
  obtain ⟨v', w', hrun, h2, h3⟩ := run_append_src_wide (P := P) w base t o.type e i z size bytes ht hi hz hsize hby hzs hsz v n xs hown B A m c news hr hl h1 h63 hbytes hbase
  unfold Oper.wp execOp
  simp only [ho, resolve, invoke, builtin, Sem.run_bind, Sem.run_pure, Result.andThen_ok, List.map_toArray, List.map_cons, List.map_nil, hs, hx, hrun]
  exact h v' w' h2 h3

theorem wpList_append_src_wide {ops : Array Oper} {rest : List Oper} {o : Oper} {a : Act} {Q : Exit → Act → World → Prop} (hgd : o.guard = none) (s x : Operand) (t : TypeId)
    (ho : o.op = .call { callee := .builtin .append, args := #[s, x], argTypes := #[t, t] })
    (base : Nat) (e : TypeId) (i : TypeInfo) (z : Value) (size bytes : Nat) (ht : P.underlying t = some (.slice e)) (hi : P.info? e = some i) (hz : i.zero = some z)
    (hsize : i.size = size) (hby : i.bytes = bytes) (hzs : z.cells.size = size) (hsz : 0 < size)
    (v : Value) (n : Nat) (xs : List Value) (hs : a.eval s = v) (hown : w.ownsRow base e size v n xs)
    (B : Nat) (A : Option Addr) (m c : Nat) (news : List Value) (hx : a.eval x = .slice A m c) (hr : Lists w B A news) (hl : news.length = m * size) (h1 : ∀ u ∈ news, u.oneCell' = true)
    (h63 : n + m ≤ maxLen) (hbytes : ((n + m) + (n + m) / 4 + 192) * bytes ≤ 281474976710656) (hbase : base ≤ w.heap.size)
    (h : ∀ v' w', w'.ownsRow base e size v' (n + m) (xs ++ news) → w.grownBy w' v.ownBlock → wpList P ops Q rest (a.put o.dst v') w') : wpList P ops Q (o :: rest) a w :=
  wpList_plain hgd fun _ hK => wp_append_src_wide w s x t ho base e i z size bytes ht hi hz hsize hby hzs hsz v n xs hs hown B A m c news hx hr hl h1 h63 hbytes hbase fun v' w' h2 h3 => hK _ _ (h v' w' h2 h3)
end

end Go.Proofs.Ytekailhghjideaa

namespace Go.Proofs.Ytekailhghjideaa
open Go Go.RowKit

section
variable {P : Program} {ops : Array Oper} {I : World → Prop} {E : Act → World → Prop} {i : Nat} {r : List (Nat × Bool)} {o : Oper} {a : Act} {w : World}
theorem ChainL.appendW (hi : ops[i]? = some o) (hw : Region.wanted o (yielded ops a.tmps) = true) (s x : Operand) (t : TypeId)
    (ho : o.op = .call { callee := .builtin .append, args := #[s, x], argTypes := #[t, t] })
    (base : Nat) (e : TypeId) (info : TypeInfo) (z : Value) (size bytes : Nat) (ht : P.underlying t = some (.slice e)) (hi' : P.info? e = some info) (hz : info.zero = some z)
    (hsize : info.size = size) (hby : info.bytes = bytes) (hzs : z.cells.size = size) (hsz : 0 < size)
    (v : Value) (n : Nat) (xs : List Value) (hs : a.eval s = v) (hown : w.ownsRow base e size v n xs)
    (B : Nat) (A : Option Addr) (m c : Nat) (news : List Value) (hx : a.eval x = .slice A m c) (hr : Lists w B A news) (hl : news.length = m * size) (h1 : ∀ u ∈ news, u.oneCell' = true)
    (h63 : n + m ≤ maxLen) (hbytes : ((n + m) + (n + m) / 4 + 192) * bytes ≤ 281474976710656) (hbase : base ≤ w.heap.size)
    (h : ∀ v' w', w'.ownsRow base e size v' (n + m) (xs ++ news) → w.grownBy w' v.ownBlock → I w' ∧ ChainL P ops E I r (a.put o.dst v') w') : ChainL P ops E I ((i, true) :: r) a w := by
  obtain ⟨v', w', hrun, h2, h3⟩ := run_append_src_wide (P := P) w base t o.type e info z size bytes ht hi' hz hsize hby hzs hsz v n xs hown B A m c news hr hl h1 h63 hbytes hbase
  refine ⟨o, hi, hw, .inl ⟨v', w', ?_, h v' w' h2 h3⟩⟩
  unfold execOp
  simp only [ho, resolve, invoke, builtin, Sem.run_bind, Sem.run_pure, Result.andThen_ok, List.map_toArray, List.map_cons, List.map_nil, hs, hx, hrun]
end
theorem own_new (w : World) : (w.alloc (.cells #[] 5)).ownsRow w.heap.size 5 1 (.slice (some ⟨w.heap.size, 0, none⟩) 0 0) 0 [] := ⟨rfl, .inr ⟨w.heap.size, 0, #[], rfl, Nat.le_refl _, heap_alloc_new w _, Nat.le_refl _, Nat.zero_le _, rfl, rfl⟩⟩
theorem own_new_at (w : World) (k : Nat) (hk : k = w.heap.size) : (w.alloc (.cells #[] 5)).ownsRow k 5 1 (.slice (some ⟨k, 0, none⟩) 0 0) 0 [] := hk ▸ own_new w

end Go.Proofs.Ytekailhghjideaa

namespace Go.Proofs.Ytekailhghjideaa
open Go Go.RowKit
set_option linter.unusedVariables false
set_option linter.unusedSimpArgs false
variable {q : Nat → Prop}

theorem intInfo : (Try.prog.info? 3).map (fun i => (i.zero, i.size, i.bytes)) = some (some (.int .i64 0), 1, 8) := by kernel_rfl
theorem own_lowc {w : World} {base : Nat} {e : TypeId} {size n : Nat} {v : Value} {xs : List Value} (h : w.ownsRow base e size v n xs) : ∀ b ∈ blk v, base ≤ b := by
  intro b hm
  rcases h.2 with ⟨rfl, _⟩ | ⟨g, cap, cur, rfl, h2, _⟩
  · simp [blk, Value.ownBlock] at hm
  · have : b = g := by simpa [blk, Value.ownBlock] using hm
    omega
def mtV (m : Mtx) : Value := .agg #[.int .i64 m.1, .int .i64 m.2.1, .int .i64 m.2.2.1, .int .i64 m.2.2.2]
set_option maxRecDepth 100000 in
theorem aone_any (w : World) : Calls Try.prog 41 #[] w fun e w' => e = .returned (mtV one14) ∧ Below w.heap.size w w' := by
  go_enter Try.func41, Try.ntmps41
  go_wp2
  refine bodyPost_ret (results_cell_row Try.results41 _ _ w.heap.size 34 #[.int .i64 16384, .int .i64 0, .int .i64 0, .int .i64 16384] (0, 0) _ (by rfl) (by first | exact Blk.new _ _ _ | exact ((((Blk.new w 34 #[.int .i64 0, .int .i64 0, .int .i64 0, .int .i64 0]).set 0 (.int .i64 16384)).set 1 (.int .i64 0)).set 2 (.int .i64 0)).set 3 (.int .i64 16384)) Try.underlying34 rfl (by kernel_rfl)) rfl ⟨rfl, ?_⟩
  first | exact (Below.refl _ _).alloc (Nat.le_refl _) _ | trace_state

set_option maxRecDepth 100000 in
theorem rone_any (w : World) : Calls Try.prog 16 #[] w fun e w' => e = .returned (mtV one14) ∧ Below w.heap.size w w' := by
  go_enter Try.func16, Try.ntmps16
  go_wp2
  refine bodyPost_ret (results_cell_row Try.results16 _ _ w.heap.size 34 #[.int .i64 16384, .int .i64 0, .int .i64 0, .int .i64 16384] (0, 0) _ (by rfl) (by first | exact Blk.new _ _ _ | exact ((((Blk.new w 34 #[.int .i64 0, .int .i64 0, .int .i64 0, .int .i64 0]).set 0 (.int .i64 16384)).set 1 (.int .i64 0)).set 2 (.int .i64 0)).set 3 (.int .i64 16384)) Try.underlying34 rfl (by kernel_rfl)) rfl ⟨rfl, ?_⟩
  first | exact (Below.refl _ _).alloc (Nat.le_refl _) _ | trace_state

set_option maxRecDepth 100000 in
set_option maxHeartbeats 1000000 in
theorem matrixOf_1 (A : Option Addr) (cc B : Nat) (a : Int) (w : World) (hB : B ≤ w.heap.size) (hL : Lists w B A (intCells [a])) :
    Calls Try.prog 47 #[.slice A 1 cc] w fun e w' => e = .returned (mtV (matL [a])) ∧ Below w.heap.size w w' := by
  obtain ⟨bb, o, rfl, hbl, hc0⟩ := hL.plain (by simp [intCells])
  have hc : ∀ (j : Nat) (u : Value), (intCells [a])[j]? = some u → (w.alloc (.cells #[.int .i64 0, .int .i64 0, .int .i64 0, .int .i64 0] 34)).cell? ⟨bb, o + j, none⟩ = some u := fun j u hu => (World.cell?_alloc_old w _ ⟨bb, o + j, none⟩ (by simp; omega)).trans (hc0 j u hu)
  have q0 := hc 0 _ rfl
  try simp only [Nat.add_zero] at q0
  have K0 := Blk.new w 34 #[.int .i64 0, .int .i64 0, .int .i64 0, .int .i64 0]
  have B0 : Below w.heap.size w (w.alloc (.cells #[.int .i64 0, .int .i64 0, .int .i64 0, .int .i64 0] 34)) := (Below.refl _ _).alloc (Nat.le_refl _) _
  obtain ⟨W1, hW1⟩ : ∃ W1, W1 = w.alloc (.cells #[.int .i64 0, .int .i64 0, .int .i64 0, .int .i64 0] 34) := ⟨_, rfl⟩
  have HW := Lib.hid hW1
  rw [← hW1] at K0 B0 q0
  clear hc hc0 hL hW1
  go_enter Try.func47, Try.ntmps47
  go_wp2
  rw [← HW.out]
  refine wp_region_chain_last (fun W => W = _) [(0, false), (1, false), (2, false), (3, false), (4, false), (5, false), (6, false)] _ _ (by rfl) (by rfl) (by kernel_rfl) (by kernel_rfl) rfl ?_
  repeat (first
    | (refine ChainL.skip (o := ?_) ?_ ?_ ?_; rotate_left; (focus (first | (simp only [List.getElem?_toArray, List.getElem?_cons_succ, List.getElem?_cons_zero]; with_reducible rfl) | (simp only [List.getElem?_toArray, List.getElem?_cons_zero]; with_reducible rfl))); (focus rfl); simp only [Act.put, List.setIfInBounds_toArray, List.set_cons_zero, List.set_cons_succ])
    | (refine ChainL.val (o := ?_) (v := ?_) ?_ ?_ ?_ ?_ ?_; rotate_left 2; (focus (first | (simp only [List.getElem?_toArray, List.getElem?_cons_succ, List.getElem?_cons_zero]; with_reducible rfl) | (simp only [List.getElem?_toArray, List.getElem?_cons_zero]; with_reducible rfl))); (focus (intro _ _ h; cases h)); (focus rfl); (focus (intro w' hI; subst hI; go_simp <;> with_reducible rfl)); simp only [Act.put, List.setIfInBounds_toArray, List.set_cons_zero, List.set_cons_succ]))
  refine ChainL.nil ?_
  refine wp_store_row 34 _ _ (by rfl) w.heap.size #[.int .i64 a, .int .i64 0, .int .i64 0, .int .i64 a] (by rfl) (by rfl) 34 #[.int .i64 0, .int .i64 0, .int .i64 0, .int .i64 0] (show Blk _ _ _ _ from K0) (by kernel_rfl) rfl (by simp [Value.oneCell']) ?_
  go_wp2
  refine bodyPost_ret (results_cell_row Try.results47 _ _ w.heap.size 34 #[.int .i64 a, .int .i64 0, .int .i64 0, .int .i64 a] (0, 0) _ (by rfl) (show Blk _ _ _ _ from blk_row (w := W1.drew) K0 _) Try.underlying34 rfl (by kernel_rfl)) rfl ⟨rfl, ?_⟩
  exact below_setRow B0.drew (Nat.le_refl _) _

set_option maxRecDepth 100000 in
set_option maxHeartbeats 1000000 in
theorem matrixOf_2 (A : Option Addr) (cc B : Nat) (a b : Int) (w : World) (hB : B ≤ w.heap.size) (hL : Lists w B A (intCells [a, b])) :
    Calls Try.prog 47 #[.slice A 2 cc] w fun e w' => e = .returned (mtV (matL [a, b])) ∧ Below w.heap.size w w' := by
  obtain ⟨bb, o, rfl, hbl, hc0⟩ := hL.plain (by simp [intCells])
  have hc : ∀ (j : Nat) (u : Value), (intCells [a, b])[j]? = some u → (w.alloc (.cells #[.int .i64 0, .int .i64 0, .int .i64 0, .int .i64 0] 34)).cell? ⟨bb, o + j, none⟩ = some u := fun j u hu => (World.cell?_alloc_old w _ ⟨bb, o + j, none⟩ (by simp; omega)).trans (hc0 j u hu)
  have q0 := hc 0 _ rfl; have q1 := hc 1 _ rfl
  try simp only [Nat.add_zero] at q0
  have K0 := Blk.new w 34 #[.int .i64 0, .int .i64 0, .int .i64 0, .int .i64 0]
  have B0 : Below w.heap.size w (w.alloc (.cells #[.int .i64 0, .int .i64 0, .int .i64 0, .int .i64 0] 34)) := (Below.refl _ _).alloc (Nat.le_refl _) _
  obtain ⟨W1, hW1⟩ : ∃ W1, W1 = w.alloc (.cells #[.int .i64 0, .int .i64 0, .int .i64 0, .int .i64 0] 34) := ⟨_, rfl⟩
  have HW := Lib.hid hW1
  rw [← hW1] at K0 B0 q0 q1
  clear hc hc0 hL hW1
  go_enter Try.func47, Try.ntmps47
  go_wp2
  rw [← HW.out]
  refine wp_region_chain_last (fun W => W = _) [(0, false), (1, false), (2, false), (3, false), (4, false), (5, false), (6, false)] _ _ (by rfl) (by rfl) (by kernel_rfl) (by kernel_rfl) rfl ?_
  repeat (first
    | (refine ChainL.skip (o := ?_) ?_ ?_ ?_; rotate_left; (focus (first | (simp only [List.getElem?_toArray, List.getElem?_cons_succ, List.getElem?_cons_zero]; with_reducible rfl) | (simp only [List.getElem?_toArray, List.getElem?_cons_zero]; with_reducible rfl))); (focus rfl); simp only [Act.put, List.setIfInBounds_toArray, List.set_cons_zero, List.set_cons_succ])
    | (refine ChainL.val (o := ?_) (v := ?_) ?_ ?_ ?_ ?_ ?_; rotate_left 2; (focus (first | (simp only [List.getElem?_toArray, List.getElem?_cons_succ, List.getElem?_cons_zero]; with_reducible rfl) | (simp only [List.getElem?_toArray, List.getElem?_cons_zero]; with_reducible rfl))); (focus (intro _ _ h; cases h)); (focus rfl); (focus (intro w' hI; subst hI; go_simp <;> with_reducible rfl)); simp only [Act.put, List.setIfInBounds_toArray, List.set_cons_zero, List.set_cons_succ]))
  refine ChainL.nil ?_
  refine wp_store_row 34 _ _ (by rfl) w.heap.size #[.int .i64 a, .int .i64 0, .int .i64 0, .int .i64 b] (by rfl) (by rfl) 34 #[.int .i64 0, .int .i64 0, .int .i64 0, .int .i64 0] (show Blk _ _ _ _ from K0) (by kernel_rfl) rfl (by simp [Value.oneCell']) ?_
  go_wp2
  refine bodyPost_ret (results_cell_row Try.results47 _ _ w.heap.size 34 #[.int .i64 a, .int .i64 0, .int .i64 0, .int .i64 b] (0, 0) _ (by rfl) (show Blk _ _ _ _ from blk_row (w := W1.drew) K0 _) Try.underlying34 rfl (by kernel_rfl)) rfl ⟨rfl, ?_⟩
  exact below_setRow B0.drew (Nat.le_refl _) _

set_option maxRecDepth 100000 in
set_option maxHeartbeats 1000000 in
theorem matrixOf_4 (A : Option Addr) (cc B : Nat) (a b c d : Int) (w : World) (hB : B ≤ w.heap.size) (hL : Lists w B A (intCells [a, b, c, d])) :
    Calls Try.prog 47 #[.slice A 4 cc] w fun e w' => e = .returned (mtV (matL [a, b, c, d])) ∧ Below w.heap.size w w' := by
  obtain ⟨bb, o, rfl, hbl, hc0⟩ := hL.plain (by simp [intCells])
  have hc : ∀ (j : Nat) (u : Value), (intCells [a, b, c, d])[j]? = some u → (w.alloc (.cells #[.int .i64 0, .int .i64 0, .int .i64 0, .int .i64 0] 34)).cell? ⟨bb, o + j, none⟩ = some u := fun j u hu => (World.cell?_alloc_old w _ ⟨bb, o + j, none⟩ (by simp; omega)).trans (hc0 j u hu)
  have q0 := hc 0 _ rfl; have q1 := hc 1 _ rfl; have q2 := hc 2 _ rfl; have q3 := hc 3 _ rfl
  try simp only [Nat.add_zero] at q0
  have K0 := Blk.new w 34 #[.int .i64 0, .int .i64 0, .int .i64 0, .int .i64 0]
  have B0 : Below w.heap.size w (w.alloc (.cells #[.int .i64 0, .int .i64 0, .int .i64 0, .int .i64 0] 34)) := (Below.refl _ _).alloc (Nat.le_refl _) _
  obtain ⟨W1, hW1⟩ : ∃ W1, W1 = w.alloc (.cells #[.int .i64 0, .int .i64 0, .int .i64 0, .int .i64 0] 34) := ⟨_, rfl⟩
  have HW := Lib.hid hW1
  rw [← hW1] at K0 B0 q0 q1 q2 q3
  clear hc hc0 hL hW1
  go_enter Try.func47, Try.ntmps47
  go_wp2
  rw [← HW.out]
  refine wp_region_chain_last (fun W => W = _) [(0, false), (1, false), (2, false), (3, false), (4, false), (5, false), (6, false), (7, false), (8, false), (9, false), (10, false), (11, false), (12, false)] _ _ (by rfl) (by rfl) (by kernel_rfl) (by kernel_rfl) rfl ?_
  repeat (first
    | (refine ChainL.skip (o := ?_) ?_ ?_ ?_; rotate_left; (focus (first | (simp only [List.getElem?_toArray, List.getElem?_cons_succ, List.getElem?_cons_zero]; with_reducible rfl) | (simp only [List.getElem?_toArray, List.getElem?_cons_zero]; with_reducible rfl))); (focus rfl); simp only [Act.put, List.setIfInBounds_toArray, List.set_cons_zero, List.set_cons_succ])
    | (refine ChainL.val (o := ?_) (v := ?_) ?_ ?_ ?_ ?_ ?_; rotate_left 2; (focus (first | (simp only [List.getElem?_toArray, List.getElem?_cons_succ, List.getElem?_cons_zero]; with_reducible rfl) | (simp only [List.getElem?_toArray, List.getElem?_cons_zero]; with_reducible rfl))); (focus (intro _ _ h; cases h)); (focus rfl); (focus (intro w' hI; subst hI; go_simp <;> with_reducible rfl)); simp only [Act.put, List.setIfInBounds_toArray, List.set_cons_zero, List.set_cons_succ]))
  refine ChainL.nil ?_
  refine wp_store_row 34 _ _ (by rfl) w.heap.size #[.int .i64 a, .int .i64 b, .int .i64 c, .int .i64 d] (by rfl) (by rfl) 34 #[.int .i64 0, .int .i64 0, .int .i64 0, .int .i64 0] (show Blk _ _ _ _ from K0) (by kernel_rfl) rfl (by simp [Value.oneCell']) ?_
  go_wp2
  refine bodyPost_ret (results_cell_row Try.results47 _ _ w.heap.size 34 #[.int .i64 a, .int .i64 b, .int .i64 c, .int .i64 d] (0, 0) _ (by rfl) (show Blk _ _ _ _ from blk_row (w := W1.drew) K0 _) Try.underlying34 rfl (by kernel_rfl)) rfl ⟨rfl, ?_⟩
  exact below_setRow B0.drew (Nat.le_refl _) _

set_option maxRecDepth 100000 in
theorem matrixOf_0 (A : Option Addr) (cc : Nat) (w : World) :
    Calls Try.prog 47 #[.slice A 0 cc] w fun e w' => e = .returned (mtV one14) ∧ Below w.heap.size w w' := by
  have K0 := Blk.new w 34 #[.int .i64 0, .int .i64 0, .int .i64 0, .int .i64 0]
  have B0 : Below w.heap.size w (w.alloc (.cells #[.int .i64 0, .int .i64 0, .int .i64 0, .int .i64 0] 34)) := (Below.refl _ _).alloc (Nat.le_refl _) _
  go_enter Try.func47, Try.ntmps47
  go_wp2_with (first | (go_at_call 41; ((with_reducible refine (aone_any _).mono ?_); rintro e w1 ⟨rfl, b1⟩; have K1 := K0.below b1; have B1 := B0.trans (b1.mono B0.size))) | (refine wpList_store_row rfl 34 (.tmp 2) (.tmp 38) (by with_reducible rfl) w.heap.size #[.int .i64 16384, .int .i64 0, .int .i64 0, .int .i64 16384] (by rfl) (by rfl) 34 #[.int .i64 0, .int .i64 0, .int .i64 0, .int .i64 0] (show Blk _ _ _ _ from K1) (by kernel_rfl) rfl (by simp [Value.oneCell']) ?_))
  refine bodyPost_ret (results_cell_row Try.results47 _ _ w.heap.size 34 #[.int .i64 16384, .int .i64 0, .int .i64 0, .int .i64 16384] (0, 0) _ (by rfl) (show Blk _ _ _ _ from blk_row K1 _) Try.underlying34 rfl (by kernel_rfl)) rfl ⟨rfl, ?_⟩
  exact below_setRow B1 (Nat.le_refl _) _
theorem matrixOf_any (L : List Int) (A : Option Addr) (cc B : Nat) (w : World) (hB : B ≤ w.heap.size) (hL : Lists w B A (intCells L)) (hn : L.length = 0 ∨ L.length = 1 ∨ L.length = 2 ∨ L.length = 4) :
    Calls Try.prog 47 #[.slice A L.length cc] w fun e w' => e = .returned (mtV (matL L)) ∧ Below w.heap.size w w' := by
  rcases hn with h | h | h | h
  · obtain rfl : L = [] := List.eq_nil_of_length_eq_zero h
    exact matrixOf_0 A cc w
  · match L, h with
    | [a], _ => exact matrixOf_1 A cc B a w hB hL
  · match L, h with
    | [a, b], _ => exact matrixOf_2 A cc B a b w hB hL
  · match L, h with
    | [a, b, c, d], _ => exact matrixOf_4 A cc B a b c d w hB hL
set_option maxRecDepth 100000 in
set_option maxHeartbeats 1000000 in
/-- The next n numbers of two bytes. -/
theorem take_any (p : Nat) (bs : List Value) (k n : Nat) (w : World) (h : RS q w p bs k) (hq : ∀ b, q b → b < w.heap.size) (hL : bs.length ≤ 4611686018427387904) (hn : n ≤ 4) (hp : p < w.heap.size) :
    Calls Try.prog 48 #[.int .i64 n, .func (.func 18) #[.pointer (some ⟨p, 0, none⟩)] #[]] w fun e w' =>
      ∃ v, e = .returned v ∧ w'.ownsRow w.heap.size 3 1 v n (intCells (nums2 bs k n)) ∧ RS q w' p bs (k + 2 * n) ∧ Only w w' [p] := by
  have HQ := Lib.hid hq
  have HLL := Lib.hid hL
  clear hq hL
  go_enter Try.func48, Try.ntmps48
  go_wp2
  go_loopw [5, 7] (fun v i wr => ∃ j : Nat, j ≤ n ∧ i = .int .i64 j ∧ wr.ownsRow w.heap.size 3 1 v j (intCells (nums2 bs k j)) ∧ RS q wr p bs (k + 2 * j) ∧ Only w wr [p]) (fun _ i _ => n - (intOf i).toNat)
  case atStart => exact ⟨0, Nat.zero_le _, rfl, World.ownsRow_nil _ _ _ _, h, Only.refl _ _⟩
  case round =>
    obtain ⟨j, hj, rfl, hown, hr, ho⟩ := hrel
    by_cases hlt : j < n
    · have d1 : decide ((j : Int) < (n : Int)) = true := by simp; omega
      have CI := rsI16 p bs (k + 2 * j) wr hr HLL.out
      obtain ⟨x, hx⟩ : ∃ x, x = rdk bs 2 (k + 2 * j) := ⟨_, rfl⟩
      rw [show s16 (rsn bs 2 (k + 2 * j) (rd2 bs (k + 2 * j))) = x from hx.symm] at CI
      have HN := Lib.hid (show intCells (nums2 bs k (j + 1)) = intCells (nums2 bs k j) ++ [.int .i64 x] by rw [hx]; unfold nums2 intCells; rw [List.range_succ, List.map_append, List.map_append]; rfl)
      clear hx
      generalize intCells (nums2 bs k j) = xs at *
      have hlow := own_lowc hown
      have hsz := ho.size
      obtain ⟨i0, hi, hz0, hz1, hz2⟩ := info_parts intInfo
      go_wp2_with (first | (go_at_call 18; ((with_reducible refine (CI).mono ?_); rintro e w1 ⟨rfl, hr1, o1⟩; have own1 := own_only hown o1 (fun b hb e => by have := hlow b hb; simp at e; omega); have own1 := own_only own1 ((Only.refl w1 []).alloc (.cells #[.int .i64 x] 3)) (fun _ _ h => (nomatch h)); have r1 := hr1.below ((Below.refl _ _).alloc (Nat.le_refl _) (.cells #[.int .i64 x] 3)); have ho1 := (ho.trans o1 (fun b hb => .inl hb)).alloc (.cells #[.int .i64 x] 3); have hs1 := ho1.size)) | (at_builtin; refine wpList_append_src _ rfl (.tmp 9) (.tmp 12) 80 rfl w.heap.size 3 i0 (.int .i64 0) 1 8 Try.underlying80 hi hz0 hz1 hz2 rfl (by decide) u5 j xs rfl own1 (w1.heap.size + 1) (some ⟨w1.heap.size, 0, none⟩) 1 1 [.int .i64 x] (by rfl) (lists_row w1 [.int .i64 x] 3) rfl (by simp [Value.oneCell']) (by simp only [maxLen]; omega) (by omega) hs1 ?_; intro v2 w2 own2 hg2 hat2; have hlow2 := own_lowc own2; have g3 : Only _ w2 (blk u5) := (Only.refl _ _).grown hg2 (fun b hb => .inl (by have hb' : u5.ownBlock = some b := hb; simp [blk, hb'])); have r2 := r1.only g3 (fun hm => by have := hlow p hm; omega) (fun b hb hqb => by have := hlow b hb; have := HQ.out b hqb; omega); have ho2 := ho1.trans g3 (fun b hb => .inr (hlow b hb))))
      go_roundw
      case rel => exact ⟨j + 1, by omega, by go_num, by rw [HN.out]; exact own2, r2, ho2⟩
      case measure => simp [intOf]; omega
    · obtain rfl : j = n := by omega
      have d1 : decide ((j : Int) < (j : Int)) = false := by simp
      go_wp2
      go_ret
      exact ⟨_, rfl, hown, hr, ho⟩
end Go.Proofs.Ytekailhghjideaa

namespace Go.Proofs.Ytekailhghjideaa
open Go Go.RowKit
set_option linter.unusedVariables false
set_option linter.unusedSimpArgs false
variable {q : Nat → Prop}

theorem s8_wrap (x : Nat) (h : x < 256) : wrap64 (IntKind.i8.wrap (x : Int)) = s8 x := by
  unfold s8
  by_cases hx : x < 128
  · rw [if_pos hx]
    have e1 : IntKind.i8.wrap (x : Int) = x := by unfold IntKind.wrap; simp [IntKind.bits, IntKind.signed]; omega
    rw [e1]; unfold wrap64; omega
  · rw [if_neg hx]
    have e1 : IntKind.i8.wrap (x : Int) = (x : Int) - 256 := by unfold IntKind.wrap; simp [IntKind.bits, IntKind.signed]; omega
    rw [e1]; unfold wrap64; omega
set_option maxRecDepth 100000 in
theorem argument1_any (p : Nat) (bs : List Value) (k ab : Nat) (w : World) (K : Blk w ab 42 #[.pointer (some ⟨p, 0, none⟩)]) (r : RS q w p bs k) (hL : bs.length ≤ 4611686018427387904) :
    Calls Try.prog 72 #[.pointer (some ⟨ab, 0, none⟩)] w (ReadS q w p bs (k + 1) (s8 (rsn bs 1 k (byteAt bs k)))) := by
  have C := rsU8 p bs k w r hL
  have hlt : rsn bs 1 k (byteAt bs k) < 256 := rsn_lt (byteAt_lt r.bytes k)
  have hs := s8_wrap _ hlt
  have c0 := K.cell 0
  simp only [List.getElem?_toArray, List.getElem?_cons_zero] at c0
  clear r hlt
  generalize rsn bs 1 k (byteAt bs k) = x at *
  go_enter Try.func72, Try.ntmps72
  go_wp2_with (first | (go_at_call 73; ((with_reducible refine (C).mono ?_); rintro e w1 ⟨rfl, r1, o1⟩)))
  go_ret
  exact ⟨ret_int hs, r1, o1⟩

theorem prSize : (Try.prog.info? 36).map (·.size) = some 11 := by kernel_rfl
theorem prBuilt (g : Int) : Try.prog.built 36 [(0, .int .i64 g)] = some #[.int .i64 g, .int .i64 0, .int .i64 0, .int .i64 0, .int .i64 0, .bool false, .int .i64 0, .int .i64 0, .bool false, .int .i64 0, .int .i64 0] := by kernel_rfl
theorem bits_2 (f : Nat) (hf : f < 65536) : bits .and .i64 (f : Int) 2 = if bt f 1 then 2 else 0 := by
  rw [show (2 : Int) = ((2 : Nat) : Int) from rfl, and_nat f 2 (by omega) (by omega), and_2]
  cases bt f 1 <;> rfl
theorem bits_3 (f : Nat) (hf : f < 65536) : bits .and .i64 (f : Int) 3 = if bt f 0 then (if bt f 1 then 3 else 1) else (if bt f 1 then 2 else 0) := by
  rw [show (3 : Int) = ((3 : Nat) : Int) from rfl, and_nat f 3 (by omega) (by omega), and_3]
  cases bt f 0 <;> cases bt f 1 <;> rfl
theorem bits_32 (f : Nat) (hf : f < 65536) : bits .and .i64 (f : Int) 32 = if bt f 5 then 32 else 0 := by
  rw [show (32 : Int) = ((32 : Nat) : Int) from rfl, and_nat f 32 (by omega) (by omega), and_32]
  cases bt f 5 <;> rfl
theorem bits_6144 (f : Nat) (hf : f < 65536) (t : Bool) (ht : t = (bt f 11 && !bt f 12)) : (bits .and .i64 (f : Int) 6144 == 2048) = t := by
  subst ht
  rw [show (6144 : Int) = ((6144 : Nat) : Int) from rfl, and_nat f 6144 (by omega) (by omega), and_6144]
  cases bt f 11 <;> cases bt f 12 <;> rfl
theorem matN_cases (f : Nat) : matN f = 0 ∨ matN f = 1 ∨ matN f = 2 ∨ matN f = 4 := by
  unfold matN
  rcases frm_cases f with ⟨_, e⟩ | ⟨_, e⟩ | ⟨_, e⟩ | ⟨_, e⟩ | ⟨_, _, _, _, e⟩ <;> rw [e] <;> simp
theorem wpList_build_to {P : Program} {ops : Array Oper} {rest : List Oper} {o : Oper} {a : Act} {w : World} {Q : Exit → Act → World → Prop} (hg : o.guard = none) (t : TypeId) (parts : Array (Nat × Operand)) (ho : o.op = .build t parts)
    (l : List (Nat × Value)) (hl : (parts.map fun (i, x) => (i, a.eval x)).toList = l) (v : Array Value) (hf : P.built t l = some v) (h : wpList P ops Q rest (a.put o.dst (.agg v)) w) : wpList P ops Q (o :: rest) a w := by
  subst hl
  exact wpList_build hg t parts ho (by rw [hf]; rfl) (by rw [hf]; exact h)

/-- What stands between two steps of readPart: the reader, the blocks of the result, of the form (and of the part). -/
structure RQ (q : Nat → Prop) (w : World) (p : Nat) (bs : List Value) (fb : Nat) (b n : Int) (k : Nat) (W : World) : Prop where
  rs : RS q W p bs k
  kr : Blk W w.heap.size 36 #[.int .i64 0, .int .i64 0, .int .i64 0, .int .i64 0, .int .i64 0, .bool false, .int .i64 0, .int .i64 0, .bool false, .int .i64 0, .int .i64 0]
  kf : Blk W fb 75 #[.int .i64 b, .int .i64 n]
  only : Only w W [p]
  lo : w.heap.size < fb
  low : ∀ b, q b → b < w.heap.size
structure RP (q : Nat → Prop) (w : World) (p : Nat) (bs : List Value) (fb : Nat) (b n : Int) (k pb : Nat) (cs : Array Value) (W : World) : Prop where
  rq : RQ q w p bs fb b n k W
  kp : Blk W pb 36 cs
  hi : fb < pb
section
variable {w W W2 : World} {p fb k k' pb : Nat} {bs : List Value} {b n : Int} {cs : Array Value}
theorem RQ.start (bb : Int) (nn : Nat) (h : RS q w p bs k) (hp : p < w.heap.size) (hq : ∀ b, q b → b < w.heap.size) (b1 : Below (w.alloc (.cells #[.int .i64 0, .int .i64 0, .int .i64 0, .int .i64 0, .int .i64 0, .bool false, .int .i64 0, .int .i64 0, .bool false, .int .i64 0, .int .i64 0] 36)).heap.size (w.alloc (.cells #[.int .i64 0, .int .i64 0, .int .i64 0, .int .i64 0, .int .i64 0, .bool false, .int .i64 0, .int .i64 0, .bool false, .int .i64 0, .int .i64 0] 36)) W) :
    RQ q w p bs W.heap.size bb nn k (W.alloc (.cells #[.int .i64 bb, .int .i64 nn] 75)) := by
  have B0 : Below w.heap.size w (w.alloc (.cells #[.int .i64 0, .int .i64 0, .int .i64 0, .int .i64 0, .int .i64 0, .bool false, .int .i64 0, .int .i64 0, .bool false, .int .i64 0, .int .i64 0] 36)) := (Below.refl _ _).alloc (Nat.le_refl _) _
  have s1 := b1.size
  simp only [World.size_alloc] at s1
  have al : Below W.heap.size W (W.alloc (.cells #[.int .i64 bb, .int .i64 nn] 75)) := (Below.refl _ _).alloc (Nat.le_refl _) _
  exact ⟨((h.below B0).below b1).below al, ((Blk.new w 36 #[.int .i64 0, .int .i64 0, .int .i64 0, .int .i64 0, .int .i64 0, .bool false, .int .i64 0, .int .i64 0, .bool false, .int .i64 0, .int .i64 0]).below b1).below al, Blk.new _ _ _, (Only.of_below (B0.trans (b1.mono (by simp))) _).alloc _, by omega, hq⟩
theorem RQ.read (h : RQ q w p bs fb b n k W) (hp : p < w.heap.size) (hr : RS q W2 p bs k') (o : Only W W2 [p]) : RQ q w p bs fb b n k' W2 :=
  ⟨hr, h.kr.only o (by simp; omega), h.kf.only o (by have := h.lo; simp; omega), h.only.trans o (fun b hb => .inl hb), h.lo, h.low⟩
theorem RQ.below (h : RQ q w p bs fb b n k W) (k1 : Below W.heap.size W W2) : RQ q w p bs fb b n k W2 :=
  ⟨h.rs.below k1, h.kr.below k1, h.kf.below k1, h.only.then_below k1, h.lo, h.low⟩
theorem RQ.size (h : RQ q w p bs fb b n k W) : w.heap.size ≤ W.heap.size := h.only.size
theorem RQ.part (h : RQ q w p bs fb b n k W) (cs : Array Value) : RP q w p bs fb b n k W.heap.size cs (W.alloc (.cells cs 36)) :=
  ⟨h.below ((Below.refl _ _).alloc (Nat.le_refl _) _), Blk.new _ _ _, h.kf.lt⟩
theorem RP.read (h : RP q w p bs fb b n k pb cs W) (hp : p < w.heap.size) (hr : RS q W2 p bs k') (o : Only W W2 [p]) : RP q w p bs fb b n k' pb cs W2 :=
  ⟨h.rq.read hp hr o, h.kp.only o (by have := h.hi; have := h.rq.lo; simp; omega), h.hi⟩
theorem RP.below (h : RP q w p bs fb b n k pb cs W) (k1 : Below W.heap.size W W2) : RP q w p bs fb b n k pb cs W2 := ⟨h.rq.below k1, h.kp.below k1, h.hi⟩
theorem RP.al (h : RP q w p bs fb b n k pb cs W) (o : Obj) : RP q w p bs fb b n k pb cs (W.alloc o) := h.below ((Below.refl _ _).alloc (Nat.le_refl _) _)
theorem RP.set (h : RP q w p bs fb b n k pb cs W) (hp : p < w.heap.size) (j : Nat) (v : Value) : RP q w p bs fb b n k pb (cs.setIfInBounds j v) (W.setCell ⟨pb, j, none⟩ v) := by
  have o : Only W (W.setCell ⟨pb, j, none⟩ v) [pb] := (Only.refl W [pb]).set (.inl (by simp)) v
  have h1 := h.hi
  have h2 := h.rq.lo
  exact ⟨⟨h.rq.rs.only o (by simp; omega) (fun b hb hq => by simp at hb; subst hb; have := h.rq.low _ hq; omega), h.rq.kr.other (by simp; omega) v, h.rq.kf.other (by simp; omega) v, h.rq.only.set (.inr (by show w.heap.size ≤ pb; omega)) v, h.rq.lo, h.rq.low⟩, h.kp.set j v, h.hi⟩
end
end Go.Proofs.Ytekailhghjideaa

namespace Go.Proofs.Ytekailhghjideaa
open Go Go.RowKit

/-- Blocks of other kinds than a writer's stay. -/
def Safe (w w' : World) : Prop := ∀ (q : Nat) (T : TypeId) (cs : Array Value), T ≠ 5 → T ≠ 94 → T ≠ 87 → Blk w q T cs → Blk w' q T cs
theorem wr_safe {w w' : World} {p R : Nat} {F : Bool} {L : List Value} {fp : List Nat} (h : Wr w p R F L fp) (o : Only w w' fp) : Safe w w' := by
  obtain ⟨D, G, dv, gv, hb, hd, hg, _, _, _, _, rfl⟩ := h
  intro q T cs n1 n2 n3 hq
  refine hq.only o fun hm => ?_
  rcases List.mem_cons.1 hm with rfl | hm
  · unfold Blk at hb hq
    rw [hb] at hq
    injection hq with hq
    injection hq with _ e
    exact n3 e.symm
  · rcases List.mem_append.1 hm with hm | hm
    · exact own_ne hd hq n1.symm hm
    · exact own_ne hg hq n2.symm hm

/-- A writer that was made since world w0. -/
def WS (w0 w : World) (p R : Nat) (L : List Value) : Prop := ∃ fp, Wr w p R false L fp ∧ Below w0.heap.size w0 w ∧ ∀ b ∈ fp, w0.heap.size ≤ b
theorem WS.below {w0 w w1 : World} {p R : Nat} {L : List Value} (h : WS w0 w p R L) (k : Below w.heap.size w w1) : WS w0 w1 p R L := by
  obtain ⟨fp, hW, b, hf⟩ := h
  exact ⟨fp, hW.only (Only.of_below k []) (fun _ _ h => (nomatch h)), b.trans (k.mono b.size), hf⟩
theorem WS.alloc {w0 w : World} {p R : Nat} {L : List Value} (h : WS w0 w p R L) (o : Obj) : WS w0 (w.alloc o) p R L := h.below ((Below.refl _ _).alloc (Nat.le_refl _) o)
theorem WS.old {w0 w : World} {p R : Nat} {L : List Value} (h : WS w0 w p R L) : Below w0.heap.size w0 w := h.elim fun _ h => h.2.1
def Wrote (w0 w : World) (p R : Nat) (L E : List Value) (e : Ending) (w' : World) : Prop := e = .returned (.pointer (some ⟨p, 0, none⟩)) ∧ WS w0 w' p R (L ++ E) ∧ Safe w w' ∧ w.heap.size ≤ w'.heap.size
theorem ws_put {w0 w : World} {p R : Nat} {L E : List Value} {f : FuncId} {args : Array Value} (h : WS w0 w p R L) (hx : L.length + E.length ≤ R)
    (hc : ∀ fp, Wr w p R false L fp → Calls Try.prog f args w fun e w' => e = .returned (.pointer (some ⟨p, 0, none⟩)) ∧ Put w w' p R false L fp E) :
    Calls Try.prog f args w (Wrote w0 w p R L E) := by
  obtain ⟨fp, hW, b, hf⟩ := h
  refine (hc fp hW).mono fun e w' ⟨he, fp', h1, h2, h3⟩ => ⟨he, ⟨fp', ?_, ?_, fun x hx => ?_⟩, wr_safe hW h2, h2.size⟩
  · have e1 : putF R false L E = false := by unfold putF; simp; exact hx
    rw [e1] at h1
    unfold putL at h1
    rw [e1, if_neg (by simp)] at h1
    exact h1
  · exact b.trans (h2.to_below b.size hf)
  · rcases h3 x hx with h | h
    · exact hf x h
    · have := b.size; omega
theorem wsU16 (w0 w : World) (p R : Nat) (L : List Value) (x : Int) (h : WS w0 w p R L) (hx : L.length + 2 ≤ R) (hR : R ≤ 1099511627776) :
    Calls Try.prog 55 #[.pointer (some ⟨p, 0, none⟩), .int .i64 x] w (Wrote w0 w p R L (be2 x)) := ws_put h hx fun fp hW => wU16_any p R false L fp x w hW hR
theorem wsI16 (w0 w : World) (p R : Nat) (L : List Value) (x : Int) (h : WS w0 w p R L) (hx : L.length + 2 ≤ R) (hR : R ≤ 1099511627776) :
    Calls Try.prog 28 #[.pointer (some ⟨p, 0, none⟩), .int .i64 x] w (Wrote w0 w p R L (be2 x)) := ws_put h hx fun fp hW => wI16_any p R false L fp x w hW hR
theorem own_base {w : World} {base base1 : Nat} {e : TypeId} {size n : Nat} {v : Value} {xs : List Value} (h : w.ownsRow base e size v n xs) (hb : base1 ≤ base) : w.ownsRow base1 e size v n xs :=
  ⟨h.1, h.2.imp id fun ⟨g, cap, cur, h1, h2, h3⟩ => ⟨g, cap, cur, h1, Nat.le_trans hb h2, h3⟩⟩
theorem wsDone (w0 w : World) (p R : Nat) (L : List Value) (h : WS w0 w p R L) (hR : R ≤ 2147483647) :
    Calls Try.prog 32 #[.pointer (some ⟨p, 0, none⟩)] w (Gave w0 L) := by
  obtain ⟨fp, hW, b, hf⟩ := h
  exact (wdone_any p R L fp w hW hR).mono fun e w' ⟨A, c, h1, h2, h3⟩ => ⟨A, c, h1, own_base h2 b.size, b.trans (h3.mono b.size)⟩
/-- A new writer was answered. -/
def MadeWS (w0 w : World) (R : Nat) (e : Ending) (w' : World) : Prop := ∃ p, e = .returned (.pointer (some ⟨p, 0, none⟩)) ∧ WS w0 w' p R [] ∧ Below w.heap.size w w'
theorem wsTo (w0 w : World) (R : Nat) (hb : Below w0.heap.size w0 w) : Calls Try.prog 27 #[.int .i64 (R : Nat)] w (MadeWS w0 w R) := by
  refine (to_any (R : Nat) w).mono fun e w' ⟨p, fp, h1, h2, h3, h4⟩ => ⟨p, h1, ⟨fp, h2, hb.trans (h3.mono hb.size), fun b hm => ?_⟩, h3⟩
  have := h4 b hm
  have := hb.size
  omega
theorem wsU8 (w0 w : World) (p R : Nat) (L : List Value) (x : Int) (h : WS w0 w p R L) (hx : L.length + 1 ≤ R) (hR : R ≤ 1099511627776) :
    Calls Try.prog 56 #[.pointer (some ⟨p, 0, none⟩), .int .i64 x] w (Wrote w0 w p R L (be1 x)) := ws_put h hx fun fp hW => wU8_any p R false L fp x w hW hR

end Go.Proofs.Ytekailhghjideaa
