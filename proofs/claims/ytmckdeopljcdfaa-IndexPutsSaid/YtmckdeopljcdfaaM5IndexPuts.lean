/- Part 6 of the proof: Met3, IxE, IxF, IxG, IxD. -/
import Derived.Deep.Cut
import Derived.Test.YtmckdeopljcdfaaM4IndexPuts

namespace Go.Proofs.Ytmckdeopljcdfaa
open Go Go.RowKit

theorem rises_prefix (most : Int) : ∀ (l r : List Int) (last : Int), rises most last (l ++ r) = true → rises most last l = true
  | [], _, _, _ => rfl
  | x :: l, r, last, h => by
    simp only [List.cons_append, rises, Bool.and_eq_true] at h ⊢
    exact ⟨h.1, rises_prefix most l r x h.2⟩
theorem rises_take_no {most : Int} {L : List Int} {k : Nat} (h : rises most 0 (L.take k) = false) : rises most 0 L = false := by
  cases hr : rises most 0 L
  · rfl
  · rw [← List.take_append_drop k L] at hr
    rw [rises_prefix most _ _ _ hr] at h
    cases h
theorem take_snoc0 {α : Type} {L : List α} {k : Nat} {x : α} (h : L[k]? = some x) : L.take (k + 1) = L.take k ++ [x] := by
  rw [List.take_add_one, h]; rfl

end Go.Proofs.Ytmckdeopljcdfaa

namespace Go.Proofs.Ytmckdeopljcdfaa
open Go Go.RowKit
set_option linter.unusedVariables false
set_option linter.unusedSimpArgs false
variable {q : Nat → Prop}

/-- The number of n bytes at k. -/
def rdB (bs : List Value) : Nat → Nat → Nat
  | 0, _ => 0
  | n + 1, k => rdB bs n k * 256 + byteAt bs (k + n)
theorem rdB_lt {bs : List Value} (h : Bytes8 bs) : ∀ n k, n ≤ 4 → rdB bs n k < 4294967296
  | 0, k, _ => by simp [rdB]
  | 1, k, _ => by have := byteAt_lt h (k + 0); simp only [rdB]; omega
  | 2, k, _ => by have := byteAt_lt h (k + 0); have := byteAt_lt h (k + 1); simp only [rdB]; omega
  | 3, k, _ => by have := byteAt_lt h (k + 0); have := byteAt_lt h (k + 1); have := byteAt_lt h (k + 2); simp only [rdB]; omega
  | 4, k, _ => by have := byteAt_lt h (k + 0); have := byteAt_lt h (k + 1); have := byteAt_lt h (k + 2); have := byteAt_lt h (k + 3); simp only [rdB]; omega
set_option maxRecDepth 100000 in
theorem reading_any (n p : Nat) (v : Value) (w : World) (hv : v = .func (.func 21) #[.pointer (some ⟨p, 0, none⟩)] #[]) : Calls Try.prog 23 #[.int .i64 (n : Nat), v] w fun e w' => ∃ tw to, e = .returned (.func (.func 35) #[] #[.pointer (some ⟨tw, 0, none⟩), .pointer (some ⟨to, 0, none⟩)]) ∧ Blk w' tw 3 #[.int .i64 (n : Nat)] ∧ Blk w' to 43 #[.func (.func 21) #[.pointer (some ⟨p, 0, none⟩)] #[]] ∧ Below w.heap.size w w' ∧ w.heap.size ≤ tw ∧ w.heap.size ≤ to := by
  subst hv
  have al : Below w.heap.size w (w.alloc (.cells #[.int .i64 (n : Nat)] 3)) := (Below.refl _ _).alloc (Nat.le_refl _) _
  have k1 := (Blk.new w 3 #[.int .i64 (n : Nat)]).below ((Below.refl _ _).alloc (Nat.le_refl _) (.cells #[.func (.func 21) #[.pointer (some ⟨p, 0, none⟩)] #[]] 43))
  have k2 := Blk.new (w.alloc (.cells #[.int .i64 (n : Nat)] 3)) 43 #[.func (.func 21) #[.pointer (some ⟨p, 0, none⟩)] #[]]
  have B2 := al.alloc al.size (.cells #[.func (.func 21) #[.pointer (some ⟨p, 0, none⟩)] #[]] 43)
  go_enter Try.func23, Try.ntmps23
  go_wp2
  go_ret
  exact ⟨_, _, rfl, k1, by simpa using k2, B2, Nat.le_refl _, by omega⟩
set_option maxRecDepth 100000 in
set_option maxHeartbeats 1000000 in
theorem reading1_any (p tw to k n : Nat) (bs : List Value) (w : World) (h : RS q w p bs k) (hL : bs.length ≤ 4611686018427387904) (hn : n ≤ 4) (hk : k + n ≤ bs.length) (K1 : Blk w tw 3 #[.int .i64 (n : Nat)]) (K2 : Blk w to 43 #[.func (.func 21) #[.pointer (some ⟨p, 0, none⟩)] #[]]) (n1 : tw ≠ p) (n2 : to ≠ p) :
    Calls Try.prog 35 #[.pointer (some ⟨tw, 0, none⟩), .pointer (some ⟨to, 0, none⟩)] w fun e w' => e = .returned (.int .i64 (rdB bs n k : Nat)) ∧ RS q w' p bs (k + n) ∧ Only w w' [p] := by
  have h8 := h.bytes
  have HB := Lib.hid (fun j => rdB_lt h8 j k)
  have H8 := Lib.hid h8
  clear h8
  have c1 := K1.cell 0
  have l1 := K1.lt
  simp only [List.getElem?_toArray, List.getElem?_cons_zero] at c1
  go_enter Try.func35, Try.ntmps35
  go_wp2
  go_loopw [3, 5] (fun xv iv wr => ∃ j : Nat, j ≤ n ∧ iv = .int .i64 (j : Nat) ∧ xv = .int .i64 (rdB bs j k : Nat) ∧ RS q wr p bs (k + j) ∧ Only w wr [p]) (fun _ iv _ => n - (intOf iv).toNat)
  case atStart => exact ⟨0, Nat.zero_le _, rfl, rfl, h, Only.refl _ _⟩
  case round =>
    obtain ⟨j, hj, rfl, rfl, hr, ho⟩ := hrel
    by_cases hlt : j < n
    · have d1 : decide ((j : Int) < (n : Int)) = true := by simp; omega
      have KF := K2.only ho (by simpa using n2)
      have c2 := KF.cell 0
      have l2 := KF.lt
      simp only [List.getElem?_toArray, List.getElem?_cons_zero] at c2
      have CU := rsU8 p bs (k + j) wr hr hL
      obtain ⟨x, hx⟩ : ∃ x : Nat, x = byteAt bs (k + j) := ⟨_, rfl⟩
      have hxl : x < 256 := hx ▸ byteAt_lt H8.out _
      rw [show rsn bs 1 (k + j) (byteAt bs (k + j)) = x by unfold rsn; rw [if_pos (by omega), hx]] at CU
      have ha := HB.out j (by omega)
      have HX := Lib.hid (show rdB bs (j + 1) k = rdB bs j k * 256 + x by rw [hx]; rfl)
      generalize rdB bs j k = a at *
      have s1 : bits .or .i64 (wrap64 ((a : Int) * 256)) (x : Int) = ((a * 256 + x : Nat) : Int) := or_next a x (by omega) hxl
      have HA := Lib.hid ha
      clear hx ha
      go_wp2_with (go_at_call 21; ((with_reducible refine (CU).mono ?_); rintro e w2 ⟨rfl, h2, o2⟩))
      go_roundw
      case rel => exact ⟨j + 1, by omega, by go_num, by rw [HX.out]; go_num, by rw [← Nat.add_assoc]; exact h2, ho.trans o2 (fun b hb => .inl hb)⟩
      case measure => simp [intOf]; omega
    · obtain rfl : j = n := by omega
      have d1 : decide ((j : Int) < (j : Int)) = false := by simp
      go_wp2
      go_ret
      exact ⟨rfl, hr, ho⟩
/-- The offset of number i, from 0 on. -/
def offI (bs : List Value) (wd i : Nat) : Int := (rdB bs wd (i * wd) : Nat) - 1
/-- What is ahead of it. -/
def lastO (bs : List Value) (wd : Nat) : Nat → Int
  | 0 => 0
  | i + 1 => offI bs wd i
/-- May it stand there? -/
def okO (bs : List Value) (wd j : Nat) : Bool := decide (¬ (offI bs wd j < lastO bs wd j ∨ (j = 0 ∧ offI bs wd j ≠ 0)))
def okOs (bs : List Value) (wd m : Nat) : Bool := (List.range m).all (okO bs wd)
def offsL (bs : List Value) (wd m : Nat) : List Int := (List.range m).map (offI bs wd)
set_option maxRecDepth 100000 in
set_option maxHeartbeats 2000000 in
theorem readOffsets_any (p tw to wd m : Nat) (bs : List Value) (w : World) (h : RS q w p bs 0) (hq : ∀ b, q b → b < w.heap.size) (hp : p < w.heap.size) (hL : bs.length ≤ 4611686018427387904) (hw4 : wd ≤ 4) (hm : m ≤ 65536) (hk : m * wd ≤ bs.length) (K1 : Blk w tw 3 #[.int .i64 (wd : Nat)]) (K2 : Blk w to 43 #[.func (.func 21) #[.pointer (some ⟨p, 0, none⟩)] #[]]) (n1 : tw ≠ p) (n2 : to ≠ p) :
    Calls Try.prog 22 #[.int .i64 (m : Nat), .func (.func 35) #[] #[.pointer (some ⟨tw, 0, none⟩), .pointer (some ⟨to, 0, none⟩)]] w fun e w' => (okOs bs wd m = true → ∃ v, e = .returned (.tuple #[v, .bool true]) ∧ w'.ownsRow w.heap.size 3 1 v m (intCells (offsL bs wd m))) ∧ (okOs bs wd m = false → e = .returned (.tuple #[.slice none 0 0, .bool false])) ∧ Only w w' [p] := by
  have h8 := h.bytes
  have HB := Lib.hid (fun k => rdB_lt h8 wd k hw4)
  have HQ := Lib.hid hq
  have HLL := Lib.hid hL
  clear hq hL h8
  obtain ⟨i0, hi, hz0, hz1, hz2⟩ := info_parts intInfoI
  go_enter Try.func22, Try.ntmps22
  go_wp2
  go_loopw [6, 7, 11] (fun rv lv iv wr => ∃ j : Nat, j ≤ m ∧ iv = .int .i64 (j : Nat) ∧ lv = .int .i64 (lastO bs wd j) ∧ Hid (okOs bs wd j = true) ∧ wr.ownsRow w.heap.size 3 1 rv j (intCells (offsL bs wd j)) ∧ RS q wr p bs (j * wd) ∧ Only w wr [p]) (fun _ _ iv _ => m - (intOf iv).toNat)
  case atStart => exact ⟨0, Nat.zero_le _, rfl, rfl, Lib.hid rfl, World.ownsRow_nil _ _ _ _, by simpa using h, Only.refl _ _⟩
  case round =>
    obtain ⟨j, hj, rfl, rfl, hok, hown, hr, ho⟩ := hrel
    by_cases hlt : j < m
    · have d1 : decide ((j : Int) < (m : Int)) = true := by simp; omega
      have hjw : j * wd + wd ≤ bs.length := by
        have : (j + 1) * wd ≤ m * wd := Nat.mul_le_mul_right _ hlt
        rw [Nat.add_mul, Nat.one_mul] at this
        omega
      have CR := reading1_any p tw to (j * wd) wd bs wr hr HLL.out hw4 hjw (K1.only ho (by simpa using n1)) (K2.only ho (by simpa using n2)) n1 n2
      have hrl := HB.out (j * wd)
      have h0 : -1 ≤ offI bs wd j := by unfold offI; omega
      obtain ⟨x, hx⟩ : ∃ x : Int, x = offI bs wd j := ⟨_, rfl⟩
      have s1 : wrap64 (((rdB bs wd (j * wd) : Nat) : Int) - 1) = x := by rw [hx]; unfold offI wrap64; omega
      have HN0 := Lib.hid (show intCells (offsL bs wd (j + 1)) = intCells (offsL bs wd j) ++ [.int .i64 x] by rw [hx]; unfold offsL intCells; rw [List.range_succ, List.map_append, List.map_append]; rfl)
      have HLa := Lib.hid (show lastO bs wd (j + 1) = x by rw [hx]; rfl)
      have HM := Lib.hid (show (j + 1) * wd = j * wd + wd by rw [Nat.add_mul, Nat.one_mul])
      have hdef : okO bs wd j = decide (¬ (x < lastO bs wd j ∨ (j = 0 ∧ x ≠ 0))) := by rw [hx]; rfl
      generalize lastO bs wd j = la at *
      obtain ⟨rv0, hrv⟩ : ∃ rv0, rdB bs wd (j * wd) = rv0 := ⟨_, rfl⟩
      rw [hrv] at CR hrl
      have hx2 : x = (rv0 : Int) - 1 := by rw [hx, ← hrv]; rfl
      clear hrv s1 hx
      subst hx2
      have HN := HN0
      clear HN0
      cases hoj : okO bs wd j
      · have HFail := Lib.hid (show okOs bs wd m = false by
          refine Bool.eq_false_iff.2 fun h => ?_
          have := List.all_eq_true.1 h j (List.mem_range.2 hlt)
          rw [hoj] at this
          cases this)
        rw [hoj] at hdef
        have ht2 : (rv0 : Int) - 1 < la ∨ (j = 0 ∧ (rv0 : Int) - 1 ≠ 0) := Decidable.of_not_not (of_decide_eq_false hdef.symm)
        clear hdef hoj
        rcases ht2 with h | ⟨rfl, h⟩
        · go_wp2_with (go_at_call 35; ((with_reducible refine (CR).mono ?_); rintro e w2 ⟨rfl, h2, o2⟩))
          exact bodyPost_ret (v := .tuple #[.slice none 0 0, .bool false]) (by simp [results, Try.results22, go_sem]) rfl ⟨(fun h => by rw [HFail.out] at h; cases h), fun _ => rfl, ho.trans o2 (fun b hb => .inl hb)⟩
        · have hb2 : (((rv0 : Int) - 1) != 0) = true := by simpa using h
          have hb3 : (((rv0 : Int) - 1) == 0) = false := by simpa using h
          by_cases hla : (rv0 : Int) - 1 < la
          all_goals
            go_wp2_with (go_at_call 35; ((with_reducible refine (CR).mono ?_); rintro e w2 ⟨rfl, h2, o2⟩))
            exact bodyPost_ret (v := .tuple #[.slice none 0 0, .bool false]) (by simp [results, Try.results22, go_sem]) rfl ⟨(fun h => by rw [HFail.out] at h; cases h), fun _ => rfl, ho.trans o2 (fun b hb => .inl hb)⟩
      · rw [hoj] at hdef
        have hno := of_decide_eq_true hdef.symm
        have hnl : ¬ (rv0 : Int) - 1 < la := fun h => hno (.inl h)
        have hz : j ≠ 0 ∨ (j = 0 ∧ rv0 = 1) := by omega
        have HOK := Lib.hid (show okOs bs wd (j + 1) = true by
          have := hok.out
          unfold okOs at this ⊢
          rw [List.range_succ, List.all_append, this]
          simp [hoj])
        clear hdef hno hoj
        generalize intCells (offsL bs wd j) = xs at *
        have hlow := own_lowI hown
        have hsz := ho.size
        rcases hz with hz | ⟨rfl, rfl⟩
        · go_wp2_with (first
            | (go_at_call 35; ((with_reducible refine (CR).mono ?_); rintro e w1 ⟨rfl, hr1, o1⟩; have own1 := own_only hown o1 (fun b hb e => by have := hlow b hb; simp at e; omega); have own1 := own_only own1 ((Only.refl w1 []).alloc (.cells #[.int .i64 ((rv0 : Int) - 1)] 3)) (fun _ _ h => (nomatch h)); have r1 := hr1.below ((Below.refl _ _).alloc (Nat.le_refl _) (.cells #[.int .i64 ((rv0 : Int) - 1)] 3)); have ho1 := (ho.trans o1 (fun b hb => .inl hb)).alloc (.cells #[.int .i64 ((rv0 : Int) - 1)] 3); have hs1 := ho1.size))
            | (at_builtin; refine wpList_append_src _ rfl (.tmp 28) (.tmp 30) 48 rfl w.heap.size 3 i0 (.int .i64 0) 1 8 Try.underlying48 hi hz0 hz1 hz2 rfl (by decide) u6 j xs rfl own1 (w1.heap.size + 1) (some ⟨w1.heap.size, 0, none⟩) 1 1 [.int .i64 ((rv0 : Int) - 1)] (by rfl) (lists_row w1 [.int .i64 ((rv0 : Int) - 1)] 3) rfl (by simp [Value.oneCell']) (by simp only [maxLen]; omega) (by omega) hs1 ?_; intro v2 w2 own2 hg2 hat2; have hlow2 := own_lowI own2; have g3 : Only _ w2 (blk u6) := (Only.refl _ _).grown hg2 (fun b hb => .inl (by have hb' : u6.ownBlock = some b := hb; simp [blk, hb'])); have r2 := r1.only g3 (fun hm => by have := hlow p hm; omega) (fun b hb hqb => by have := hlow b hb; have := HQ.out b hqb; omega); have ho2 := ho1.trans g3 (fun b hb => .inr (hlow b hb))))
          go_roundw
          case rel => exact ⟨j + 1, by omega, by go_num, by rw [HLa.out] <;> rfl, HOK, by rw [HN.out]; exact own2, by rw [HM.out]; exact r2, ho2⟩
          case measure => simp [intOf]; omega
        · have hnl2 : ¬ (0 : Int) < la := hnl
          clear hnl
          go_wp2_with (first
            | (go_at_call 35; ((with_reducible refine (CR).mono ?_); rintro e w1 ⟨rfl, hr1, o1⟩; have own1 := own_only hown o1 (fun b hb e => by have := hlow b hb; simp at e; omega); have own1 := own_only own1 ((Only.refl w1 []).alloc (.cells #[.int .i64 0] 3)) (fun _ _ h => (nomatch h)); have r1 := hr1.below ((Below.refl _ _).alloc (Nat.le_refl _) (.cells #[.int .i64 0] 3)); have ho1 := (ho.trans o1 (fun b hb => .inl hb)).alloc (.cells #[.int .i64 0] 3); have hs1 := ho1.size))
            | (at_builtin; refine wpList_append_src _ rfl (.tmp 28) (.tmp 30) 48 rfl w.heap.size 3 i0 (.int .i64 0) 1 8 Try.underlying48 hi hz0 hz1 hz2 rfl (by decide) u6 0 xs rfl own1 (w1.heap.size + 1) (some ⟨w1.heap.size, 0, none⟩) 1 1 [.int .i64 0] (by rfl) (lists_row w1 [.int .i64 0] 3) rfl (by simp [Value.oneCell']) (by simp only [maxLen]; omega) (by omega) hs1 ?_; intro v2 w2 own2 hg2 hat2; have hlow2 := own_lowI own2; have g3 : Only _ w2 (blk u6) := (Only.refl _ _).grown hg2 (fun b hb => .inl (by have hb' : u6.ownBlock = some b := hb; simp [blk, hb'])); have r2 := r1.only g3 (fun hm => by have := hlow p hm; omega) (fun b hb hqb => by have := hlow b hb; have := HQ.out b hqb; omega); have ho2 := ho1.trans g3 (fun b hb => .inr (hlow b hb))))
          go_roundw
          case rel => exact ⟨0 + 1, by omega, by go_num, (by rw [HLa.out]; rfl), HOK, by rw [HN.out]; exact own2, by rw [HM.out]; exact r2, ho2⟩
          case measure => simp [intOf]; omega
    · obtain rfl : j = m := by omega
      have d1 : decide ((j : Int) < (j : Int)) = false := by simp
      go_wp2
      exact bodyPost_ret (v := .tuple #[u6, .bool true]) (by simp [results, Try.results22, go_sem]) rfl ⟨fun _ => ⟨_, rfl, hown⟩, (fun h => by rw [hok.out] at h; cases h), ho⟩
end Go.Proofs.Ytmckdeopljcdfaa

namespace Go.Proofs.Ytmckdeopljcdfaa
open Go Go.RowKit
set_option linter.unusedVariables false
set_option linter.unusedSimpArgs false
variable {q : Nat → Prop}

theorem rs_doneI (p : Nat) (bs : List Value) (k : Nat) (w : World) (h : RS q w p bs k) : Calls Try.prog 20 #[.pointer (some ⟨p, 0, none⟩)] w fun e w' => e = .returned (.int .i64 (if k ≤ bs.length then 0 else 30)) ∧ w = w' := by
  rcases h with ⟨h1, A, c, hb, _⟩ | ⟨h1, i, A, c, hb, _⟩
  · rw [if_pos h1]
    exact rdone_low p bs.length c k A false w hb
  · rw [if_neg (by omega)]
    exact rdone_low p bs.length c i A true w hb
/-- Load refuses. -/
def NoIx (w : World) (e : Ending) (w' : World) : Prop := e = .returned (.tuple #[.pointer none, .int .i64 140]) ∧ Below w.heap.size w w'
/-- Load answers an Index. -/
def GotIx (w : World) (os : List Nat) (D : List Value) (size : Int) (e : Ending) (w' : World) : Prop := ∃ p, e = .returned (.tuple #[.pointer (some ⟨p, 0, none⟩), .int .i64 0]) ∧ IxAt w' p w'.heap.size os D size ∧ Below w.heap.size w w'
set_option maxRecDepth 100000 in
set_option maxHeartbeats 1000000 in
theorem load_zero_s (A : Option Addr) (c n : Nat) (E3 : List Value) (w : World) (hE : Lists w w.heap.size A E3) (h8 : Bytes8 E3) (hl : E3.length = n) (hmn : n ≤ 3) (hm : n ≤ 140737488355328) (hc : n ≤ c) (v : Nat) (hv : rsn E3 2 0 (rd2 E3 0) = v) (h2 : 2 ≤ E3.length) (hz : v = 0) : Calls Try.prog 8 #[.slice A n c] w (GotIx w [] [] 2) := by
  have CN := fun c' => new_any A n c' E3 w hE hl h8 (by omega)
  have hL : E3.length ≤ 4611686018427387904 := by omega
  have hc3 : n ≤ c := by omega
  have hmn2 : (n : Int) ≤ 3 := by omega
  subst hz
  have CI := fun W (hb : Below w.heap.size w W) => (show GotIx w [] [] 2 (.returned (.tuple #[.pointer (some ⟨W.heap.size, 0, none⟩), .int .i64 0])) (W.alloc (.cells #[.slice none 0 0, .slice none 0 0, .int .i64 2] 50)) from ⟨W.heap.size, rfl, ⟨by simp, none, 0, none, 0, Blk.new W _ _, Lists.empty _ _ _, Lists.empty _ _ _, Nat.le_refl _, fun u hu => by simp at hu, by simp⟩, hb.alloc hb.size _⟩)
  have HCI := Lib.hid CI
  have he : (if 2 ≤ E3.length then (0 : Int) else 30) = 0 := if_pos h2
  have H2 := Lib.hid h2
  clear hE CI hl h2
  go_enter Try.func8, Try.ntmps8
  go_wp2_with (first | (go_at_call 18; ((with_reducible refine (CN _).mono ?_); rintro e w1 ⟨p, rfl, r1, b1, hp1⟩; have CU := rsU16 p E3 0 w1 (.inl ⟨Nat.zero_le _, r1⟩) (by omega); rw [hv] at CU; have hp2 := r1.lt)) | (go_at_call 19; ((with_reducible refine (CU).mono ?_); rintro e w2 ⟨rfl, r2, o2⟩; have B2 := b1.trans (o2.to_below b1.size (by simp; omega)); have CD := rs_doneI p E3 2 w2 r2; rw [he] at CD)) | (go_at_call 20; ((with_reducible refine (CD).mono ?_); rintro e w3 ⟨rfl, rfl⟩)))
  exact bodyPost_ret (v := .tuple #[.pointer (some ⟨w2.heap.size, 0, none⟩), .int .i64 0]) (by simp [results, Try.results8, go_sem]) rfl (HCI.out w2 B2)
set_option maxRecDepth 100000 in
set_option maxHeartbeats 1000000 in
theorem load_zero_l (A : Option Addr) (c n : Nat) (E3 : List Value) (w : World) (hE : Lists w w.heap.size A E3) (h8 : Bytes8 E3) (hl : E3.length = 3) (hmn : 3 < n) (hm : n ≤ 140737488355328) (hc : n ≤ c) (v : Nat) (hv : rsn E3 2 0 (rd2 E3 0) = v) (h2 : 2 ≤ E3.length) (hz : v = 0) : Calls Try.prog 8 #[.slice A n c] w (GotIx w [] [] 2) := by
  have CN := fun c' => new_any A 3 c' E3 w hE hl h8 (by omega)
  have hL : E3.length ≤ 4611686018427387904 := by omega
  have hc3 : 3 ≤ c := by omega
  have hmn2 : (3 : Int) < (n : Int) := by omega
  subst hz
  have CI := fun W (hb : Below w.heap.size w W) => (show GotIx w [] [] 2 (.returned (.tuple #[.pointer (some ⟨W.heap.size, 0, none⟩), .int .i64 0])) (W.alloc (.cells #[.slice none 0 0, .slice none 0 0, .int .i64 2] 50)) from ⟨W.heap.size, rfl, ⟨by simp, none, 0, none, 0, Blk.new W _ _, Lists.empty _ _ _, Lists.empty _ _ _, Nat.le_refl _, fun u hu => by simp at hu, by simp⟩, hb.alloc hb.size _⟩)
  have HCI := Lib.hid CI
  have he : (if 2 ≤ E3.length then (0 : Int) else 30) = 0 := if_pos h2
  have H2 := Lib.hid h2
  clear hE CI hl h2
  go_enter Try.func8, Try.ntmps8
  go_wp2_with (first | (go_at_call 18; ((with_reducible refine (CN _).mono ?_); rintro e w1 ⟨p, rfl, r1, b1, hp1⟩; have CU := rsU16 p E3 0 w1 (.inl ⟨Nat.zero_le _, r1⟩) (by omega); rw [hv] at CU; have hp2 := r1.lt)) | (go_at_call 19; ((with_reducible refine (CU).mono ?_); rintro e w2 ⟨rfl, r2, o2⟩; have B2 := b1.trans (o2.to_below b1.size (by simp; omega)); have CD := rs_doneI p E3 2 w2 r2; rw [he] at CD)) | (go_at_call 20; ((with_reducible refine (CD).mono ?_); rintro e w3 ⟨rfl, rfl⟩)))
  exact bodyPost_ret (v := .tuple #[.pointer (some ⟨w2.heap.size, 0, none⟩), .int .i64 0]) (by simp [results, Try.results8, go_sem]) rfl (HCI.out w2 B2)
set_option maxRecDepth 100000 in
set_option maxHeartbeats 1000000 in
theorem load_bad_s (A : Option Addr) (c n : Nat) (E3 : List Value) (w : World) (hE : Lists w w.heap.size A E3) (h8 : Bytes8 E3) (hl : E3.length = n) (hmn : n ≤ 3) (hm : n ≤ 140737488355328) (hc : n ≤ c) (v : Nat) (hv : rsn E3 2 0 (rd2 E3 0) = v) (hz : ¬ (2 ≤ E3.length ∧ v = 0)) (hvb : v < 65536) : Calls Try.prog 8 #[.slice A n c] w (NoIx w) := by
  have CN := fun c' => new_any A n c' E3 w hE hl h8 (by omega)
  have hL : E3.length ≤ 4611686018427387904 := by omega
  have hc3 : n ≤ c := by omega
  have hmn2 : (n : Int) ≤ 3 := by omega
  obtain ⟨wd, hwd⟩ : ∃ wd, rsn E3 1 2 (byteAt E3 2) = wd := ⟨_, rfl⟩
  have hwb : wd < 256 := by rw [← hwd]; exact rsn_lt (byteAt_lt h8 2)
  have hcase : (v = 0 ∧ E3.length < 2 ∧ wd = 0) ∨ (v ≠ 0 ∧ 2 ≤ E3.length) := by
    rcases Nat.lt_or_ge E3.length 2 with h | h
    · left
      refine ⟨?_, h, ?_⟩
      · rw [← hv]; unfold rsn; rw [if_neg (by omega)]
      · rw [← hwd]; unfold rsn; rw [if_neg (by omega)]
    · exact .inr ⟨fun h0 => hz ⟨h, h0⟩, h⟩
  have CB : ∀ W p, RS (fun b => w.heap.size ≤ b ∧ b < W.heap.size) W p E3 2 → True := fun _ _ _ => trivial
  obtain ⟨mm, hmm⟩ : ∃ mm : Nat, (v + 1) * wd = mm := ⟨_, rfl⟩
  have hmb : mm ≤ 16711680 := by rw [← hmm]; exact Nat.le_trans (Nat.mul_le_mul (show v + 1 ≤ 65536 by omega) (show wd ≤ 255 by omega)) (by decide)
  have hmi : ((v : Int) + 1) * (wd : Int) = (mm : Int) := by rw [← hmm]; push_cast; rfl
  rcases hcase with ⟨h0, h2, hw0⟩ | ⟨h0, h2⟩
  · have he : (if 2 ≤ E3.length then (0 : Int) else 30) = 30 := if_neg (by omega)
    have hm0 : mm = 0 := by rw [← hmm, hw0, Nat.mul_zero]
    subst h0 hw0 hm0
    have H2 := Lib.hid h2
    clear hE hl h2 hz hmm
    go_enter Try.func8, Try.ntmps8
    go_wp2_with (first | (go_at_call 18; ((with_reducible refine (CN _).mono ?_); rintro e w1 ⟨p, rfl, r1, b1, hp1⟩; have CU := rsU16 p E3 0 w1 (.inl ⟨Nat.zero_le _, r1⟩) (by omega); rw [hv] at CU; have hp2 := r1.lt)) | (go_at_call 19; ((with_reducible refine (CU).mono ?_); rintro e w2 ⟨rfl, r2, o2⟩; have B2 := b1.trans (o2.to_below b1.size (by simp; omega)); have CD := rs_doneI p E3 2 w2 r2; rw [he] at CD; have CE := rsU8 p E3 2 w2 r2 (by omega); rw [hwd] at CE)) | (go_at_call 20; ((with_reducible refine (CD).mono ?_); rintro e w3 ⟨rfl, rfl⟩)) | (go_at_call 21; ((with_reducible refine (CE).mono ?_); rintro e w4 ⟨rfl, r4, o4⟩; have B4 := B2.trans (o4.to_below B2.size (by simp; omega)))))
    exact bodyPost_ret (v := .tuple #[.pointer none, .int .i64 140]) (by simp [results, Try.results8, go_sem]) rfl ⟨rfl, B4⟩
  · have hvz : ((v : Int) == 0) = false := by simp; omega
    have hc2 : wd < 1 ∨ 4 < wd ∨ (1 ≤ wd ∧ wd ≤ 4 ∧ n < 3 + mm) := by
      rcases Nat.lt_or_ge wd 1 with h | h
      · exact .inl h
      · rcases Nat.lt_or_ge 4 wd with h4 | h4
        · exact .inr (.inl h4)
        · refine .inr (.inr ⟨h, h4, ?_⟩)
          have : 1 * 1 ≤ (v + 1) * wd := Nat.mul_le_mul (by omega) h
          omega
    clear hE hl hz hmm h2
    rcases hc2 with h | h | ⟨ha, hb4, hc4⟩
    all_goals
      go_enter Try.func8, Try.ntmps8
      go_wp2_with (first | (go_at_call 18; ((with_reducible refine (CN _).mono ?_); rintro e w1 ⟨p, rfl, r1, b1, hp1⟩; have CU := rsU16 p E3 0 w1 (.inl ⟨Nat.zero_le _, r1⟩) (by omega); rw [hv] at CU; have hp2 := r1.lt)) | (go_at_call 19; ((with_reducible refine (CU).mono ?_); rintro e w2 ⟨rfl, r2, o2⟩; have B2 := b1.trans (o2.to_below b1.size (by simp; omega)); have CD := rs_doneI p E3 2 w2 r2; have CE := rsU8 p E3 2 w2 r2 (by omega); rw [hwd] at CE)) | (go_at_call 20; ((with_reducible refine (CD).mono ?_); rintro e w3 ⟨rfl, rfl⟩)) | (go_at_call 21; ((with_reducible refine (CE).mono ?_); rintro e w4 ⟨rfl, r4, o4⟩; have B4 := B2.trans (o4.to_below B2.size (by simp; omega)))))
      exact bodyPost_ret (v := .tuple #[.pointer none, .int .i64 140]) (by simp [results, Try.results8, go_sem]) rfl ⟨rfl, B4⟩
set_option maxRecDepth 100000 in
set_option maxHeartbeats 1000000 in
theorem load_bad_l (A : Option Addr) (c n : Nat) (E3 : List Value) (w : World) (hE : Lists w w.heap.size A E3) (h8 : Bytes8 E3) (hl : E3.length = 3) (hmn : 3 < n) (hm : n ≤ 140737488355328) (hc : n ≤ c) (v : Nat) (hv : rsn E3 2 0 (rd2 E3 0) = v) (hz : v ≠ 0) (hvb : v < 65536) (wd mm : Nat) (hwd : rsn E3 1 2 (byteAt E3 2) = wd) (hmm : (v + 1) * wd = mm) (hbad : wd < 1 ∨ 4 < wd ∨ (1 ≤ wd ∧ wd ≤ 4 ∧ n < 3 + mm)) : Calls Try.prog 8 #[.slice A n c] w (NoIx w) := by
  have CN := fun c' => new_any A 3 c' E3 w hE hl h8 (by omega)
  have hL : E3.length ≤ 4611686018427387904 := by omega
  have hc3 : 3 ≤ c := by omega
  have hmn2 : (3 : Int) < (n : Int) := by omega
  have hwb : wd < 256 := by rw [← hwd]; exact rsn_lt (byteAt_lt h8 2)
  have hmb : mm ≤ 16711680 := by rw [← hmm]; exact Nat.le_trans (Nat.mul_le_mul (show v + 1 ≤ 65536 by omega) (show wd ≤ 255 by omega)) (by decide)
  have hmi : ((v : Int) + 1) * (wd : Int) = (mm : Int) := by rw [← hmm]; push_cast; rfl
  have hvz : ((v : Int) == 0) = false := by simp; omega
  clear hE hl hmm
  rcases hbad with h | h | ⟨ha, hb4, hc4⟩
  all_goals
    go_enter Try.func8, Try.ntmps8
    go_wp2_with (first | (go_at_call 18; ((with_reducible refine (CN _).mono ?_); rintro e w1 ⟨p, rfl, r1, b1, hp1⟩; have CU := rsU16 p E3 0 w1 (.inl ⟨Nat.zero_le _, r1⟩) (by omega); rw [hv] at CU; have hp2 := r1.lt)) | (go_at_call 19; ((with_reducible refine (CU).mono ?_); rintro e w2 ⟨rfl, r2, o2⟩; have B2 := b1.trans (o2.to_below b1.size (by simp; omega)); have CD := rs_doneI p E3 2 w2 r2; have CE := rsU8 p E3 2 w2 r2 (by omega); rw [hwd] at CE)) | (go_at_call 20; ((with_reducible refine (CD).mono ?_); rintro e w3 ⟨rfl, rfl⟩)) | (go_at_call 21; ((with_reducible refine (CE).mono ?_); rintro e w4 ⟨rfl, r4, o4⟩; have B4 := B2.trans (o4.to_below B2.size (by simp; omega)))))
    exact bodyPost_ret (v := .tuple #[.pointer none, .int .i64 140]) (by simp [results, Try.results8, go_sem]) rfl ⟨rfl, B4⟩
end Go.Proofs.Ytmckdeopljcdfaa

namespace Go.Proofs.Ytmckdeopljcdfaa
open Go Go.RowKit
set_option linter.unusedVariables false
set_option linter.unusedSimpArgs false

theorem offs_ge (bs : List Value) (wd : Nat) : ∀ m, okOs bs wd m = true → ∀ j, j < m → 0 ≤ offI bs wd j ∧ (∀ i, i < j → offI bs wd i ≤ offI bs wd j)
  | 0, _, j, hj => by omega
  | m + 1, h, j, hj => by
    have h1 : okOs bs wd m = true ∧ okO bs wd m = true := by
      unfold okOs at h ⊢
      rw [List.range_succ, List.all_append, Bool.and_eq_true] at h
      exact ⟨h.1, by simpa using h.2⟩
    rcases Nat.lt_or_ge j m with hjm | hjm
    · exact offs_ge bs wd m h1.1 j hjm
    · obtain rfl : j = m := by omega
      have h2 := of_decide_eq_true h1.2
      cases j with
      | zero =>
        simp [lastO] at h2
        exact ⟨by omega, fun i hi => by omega⟩
      | succ j =>
        have h3 := offs_ge bs wd (j + 1) h1.1 j (by omega)
        have h4 : offI bs wd j ≤ offI bs wd (j + 1) := by
          simp [lastO] at h2
          omega
        refine ⟨by omega, fun i hi => ?_⟩
        rcases Nat.lt_or_ge i j with h5 | h5
        · have := h3.2 i h5
          omega
        · obtain rfl : i = j := by omega
          exact h4
theorem offs_zero (bs : List Value) (wd m : Nat) (h : okOs bs wd (m + 1) = true) : offI bs wd 0 = 0 := by
  have h1 := List.all_eq_true.1 h 0 (List.mem_range.2 (by omega))
  have h2 := of_decide_eq_true h1
  simp [lastO] at h2
  omega
/-- The offsets, as numbers. -/
def osN (bs : List Value) (wd m : Nat) : List Nat := (List.range m).map fun i => (offI bs wd i).toNat
theorem osN_cells (bs : List Value) (wd m : Nat) (h : okOs bs wd m = true) : intCells ((osN bs wd m).map Int.ofNat) = intCells (offsL bs wd m) := by
  unfold osN offsL intCells
  rw [List.map_map, List.map_map, List.map_map]
  refine List.map_congr_left fun i hi => ?_
  have := (offs_ge bs wd m h i (List.mem_range.1 hi)).1
  simp only [Function.comp]
  congr 1
  exact Int.toNat_of_nonneg this
set_option maxRecDepth 100000 in
set_option maxHeartbeats 2000000 in
theorem load_no (A : Option Addr) (c n : Nat) (Eb E3 E2 : List Value) (w : World) (hB : Lists w w.heap.size A Eb) (h8b : Bytes8 Eb) (hbl : Eb.length = n) (hE : Lists w w.heap.size A E3) (h8 : Bytes8 E3) (hl : E3.length = 3) (hmn : 3 < n) (hm : n ≤ 140737488355328) (hc : n ≤ c) (v : Nat) (hv : rsn E3 2 0 (rd2 E3 0) = v) (hz : v ≠ 0) (hvb : v < 65536) (wd mm : Nat) (hwd : rsn E3 1 2 (byteAt E3 2) = wd) (hmm : (v + 1) * wd = mm) (hw1 : 1 ≤ wd) (hw4 : wd ≤ 4) (hfit : 3 + mm ≤ n) (he2 : E2 = (Eb.drop 3).take mm) (hno : okOs E2 wd (v + 1) = false) : Calls Try.prog 8 #[.slice A n c] w (NoIx w) := by
  have CN := fun c' => new_any A 3 c' E3 w hE hl h8 (by omega)
  have hL : E3.length ≤ 4611686018427387904 := by omega
  have hc3 : 3 ≤ c := by omega
  have hmn2 : (3 : Int) < (n : Int) := by omega
  have hmb : mm ≤ 262144 := by rw [← hmm]; exact Nat.le_trans (Nat.mul_le_mul (show v + 1 ≤ 65536 by omega) hw4) (by decide)
  have hmi : ((v : Int) + 1) * (wd : Int) = (mm : Int) := by rw [← hmm]; push_cast; rfl
  have hvz : ((v : Int) == 0) = false := by simp; omega
  have h82 : Bytes8 E2 := fun u hu => h8b u (by rw [he2] at hu; exact List.mem_of_mem_drop (List.mem_of_mem_take hu))
  have hl2 : E2.length = mm := by rw [he2]; simp; omega
  have hcut := lists_cut hB 3 (3 + mm) c (by omega) (by omega)
  rw [show 3 + mm - 3 = mm by omega, ← he2] at hcut
  have SL1 : ∀ W, (Instr.sliceAt 22 (.slice A n c) (some (.int .i64 3)) (some (.int .i64 (3 + (mm : Int)))) none).run Try.prog W = .ok (.slice (if c = 3 then A else A.map (·.add 3)) mm (c - 3)) W := fun W => by
    have h := slice_ok A n c 3 (3 + mm) (by omega) (by omega) W
    rw [show 3 + mm - 3 = mm by omega] at h
    exact h
  generalize (if c = 3 then A else A.map (·.add 3)) = A3 at *
  have CN2 := fun W (hb : Below w.heap.size w W) c' => new_any A3 mm c' E2 W ((hcut.below hb).more hb.size) hl2 h82 (by omega)
  have CR : ∀ W p2 tw to (q : Nat → Prop), RS q W p2 E2 0 → (∀ b, q b → b < W.heap.size) → p2 < W.heap.size → Blk W tw 3 #[.int .i64 (wd : Nat)] → Blk W to 43 #[.func (.func 21) #[.pointer (some ⟨p2, 0, none⟩)] #[]] → tw ≠ p2 → to ≠ p2 →
      Calls Try.prog 22 #[.int .i64 ((v : Int) + 1), .func (.func 35) #[] #[.pointer (some ⟨tw, 0, none⟩), .pointer (some ⟨to, 0, none⟩)]] W fun e w' => (okOs E2 wd (v + 1) = true → ∃ v7, e = .returned (.tuple #[v7, .bool true]) ∧ w'.ownsRow W.heap.size 3 1 v7 (v + 1) (intCells (offsL E2 wd (v + 1)))) ∧ (okOs E2 wd (v + 1) = false → e = .returned (.tuple #[.slice none 0 0, .bool false])) ∧ Only W w' [p2] := fun W p2 tw to q h1 h2 h3 h4 h5 h6 h7 => by
    have h := readOffsets_any p2 tw to wd (v + 1) E2 W h1 h2 h3 (by omega) hw4 (by omega) (by rw [hmm, hl2]; exact Nat.le_refl _) h4 h5 h6 h7
    rw [show (((v + 1 : Nat)) : Int) = (v : Int) + 1 by omega] at h
    exact h

  have HNO := Lib.hid hno
  clear hno hE hl hB hmm hcut he2 hl2 h8 h8b h82 hbl
  go_enter Try.func8, Try.ntmps8
  go_wp2_with (first | (go_at_call 18; ((with_reducible refine (CN _).mono ?_); rintro e w1 ⟨p, rfl, r1, b1, hp1⟩; have CU := rsU16 p E3 0 w1 (.inl ⟨Nat.zero_le _, r1⟩) (by omega); rw [hv] at CU; have hp2 := r1.lt)) | (go_at_call 19; ((with_reducible refine (CU).mono ?_); rintro e w2 ⟨rfl, r2, o2⟩; have B2 := b1.trans (o2.to_below b1.size (by simp; omega)); have CD := rs_doneI p E3 2 w2 r2; have CE := rsU8 p E3 2 w2 r2 (by omega); rw [hwd] at CE)) | (go_at_call 20; ((with_reducible refine (CD).mono ?_); rintro e w3 ⟨rfl, rfl⟩)) | (go_at_call 21; ((with_reducible refine (CE).mono ?_); rintro e w4 ⟨rfl, r4, o4⟩; have B4 := B2.trans (o4.to_below B2.size (by simp; omega)))) | (go_at_call 18; ((with_reducible refine (CN2 w4 B4 _).mono ?_); rintro e w5 ⟨p2, rfl, r5, b5, hp5⟩; have B5 := B4.trans (b5.mono B4.size); have hp52 := r5.lt)) | (go_at_call 23; ((with_reducible refine (reading_any wd p2 _ w5 rfl).mono ?_); rintro e w6 ⟨tw, to, rfl, KW, KF, b6, htw, hto⟩; have B6 := B5.trans (b6.mono B5.size); have r6 := r5.below b6; have hz6 := b6.size; have CO := CR w6 p2 tw to (fun b => w4.heap.size ≤ b ∧ b < w5.heap.size) (.inl ⟨Nat.zero_le _, r6⟩) (fun b hb => by omega) (by omega) KW KF (by omega) (by omega))) | (go_at_call 22; ((with_reducible refine (CO).mono ?_); rintro e w7 ⟨_, k7, o7⟩; obtain rfl := k7 HNO.out; have B7 := B6.trans (o7.to_below B6.size (by have := B4.size; simp; omega)))))
  exact bodyPost_ret (v := .tuple #[.pointer none, .int .i64 140]) (by simp [results, Try.results8, go_sem]) rfl ⟨rfl, B7⟩
set_option maxRecDepth 100000 in
set_option maxHeartbeats 2000000 in
theorem load_far (A : Option Addr) (c n : Nat) (Eb E3 E2 : List Value) (w : World) (hB : Lists w w.heap.size A Eb) (h8b : Bytes8 Eb) (hbl : Eb.length = n) (hE : Lists w w.heap.size A E3) (h8 : Bytes8 E3) (hl : E3.length = 3) (hmn : 3 < n) (hm : n ≤ 140737488355328) (hc : n ≤ c) (v : Nat) (hv : rsn E3 2 0 (rd2 E3 0) = v) (hz : v ≠ 0) (hvb : v < 65536) (wd mm : Nat) (hwd : rsn E3 1 2 (byteAt E3 2) = wd) (hmm : (v + 1) * wd = mm) (hw1 : 1 ≤ wd) (hw4 : wd ≤ 4) (hfit : 3 + mm ≤ n) (he2 : E2 = (Eb.drop 3).take mm) (hok : okOs E2 wd (v + 1) = true) (ln : Nat) (hln : offI E2 wd v = ln) (hfar : n < 3 + mm + ln) (hlb : ln < 4294967296) : Calls Try.prog 8 #[.slice A n c] w (NoIx w) := by
  have CN := fun c' => new_any A 3 c' E3 w hE hl h8 (by omega)
  have hL : E3.length ≤ 4611686018427387904 := by omega
  have hc3 : 3 ≤ c := by omega
  have hmn2 : (3 : Int) < (n : Int) := by omega
  have hmb : mm ≤ 262144 := by rw [← hmm]; exact Nat.le_trans (Nat.mul_le_mul (show v + 1 ≤ 65536 by omega) hw4) (by decide)
  have hmi : ((v : Int) + 1) * (wd : Int) = (mm : Int) := by rw [← hmm]; push_cast; rfl
  have hvz : ((v : Int) == 0) = false := by simp; omega
  have h82 : Bytes8 E2 := fun u hu => h8b u (by rw [he2] at hu; exact List.mem_of_mem_drop (List.mem_of_mem_take hu))
  have hl2 : E2.length = mm := by rw [he2]; simp; omega
  have hcut := lists_cut hB 3 (3 + mm) c (by omega) (by omega)
  rw [show 3 + mm - 3 = mm by omega, ← he2] at hcut
  have SL1 : ∀ W, (Instr.sliceAt 22 (.slice A n c) (some (.int .i64 3)) (some (.int .i64 (3 + (mm : Int)))) none).run Try.prog W = .ok (.slice (if c = 3 then A else A.map (·.add 3)) mm (c - 3)) W := fun W => by
    have h := slice_ok A n c 3 (3 + mm) (by omega) (by omega) W
    rw [show 3 + mm - 3 = mm by omega] at h
    exact h
  generalize (if c = 3 then A else A.map (·.add 3)) = A3 at *
  have CN2 := fun W (hb : Below w.heap.size w W) c' => new_any A3 mm c' E2 W ((hcut.below hb).more hb.size) hl2 h82 (by omega)
  have CR : ∀ W p2 tw to (q : Nat → Prop), RS q W p2 E2 0 → (∀ b, q b → b < W.heap.size) → p2 < W.heap.size → Blk W tw 3 #[.int .i64 (wd : Nat)] → Blk W to 43 #[.func (.func 21) #[.pointer (some ⟨p2, 0, none⟩)] #[]] → tw ≠ p2 → to ≠ p2 →
      Calls Try.prog 22 #[.int .i64 ((v : Int) + 1), .func (.func 35) #[] #[.pointer (some ⟨tw, 0, none⟩), .pointer (some ⟨to, 0, none⟩)]] W fun e w' => (okOs E2 wd (v + 1) = true → ∃ v7, e = .returned (.tuple #[v7, .bool true]) ∧ w'.ownsRow W.heap.size 3 1 v7 (v + 1) (intCells (offsL E2 wd (v + 1)))) ∧ (okOs E2 wd (v + 1) = false → e = .returned (.tuple #[.slice none 0 0, .bool false])) ∧ Only W w' [p2] := fun W p2 tw to q h1 h2 h3 h4 h5 h6 h7 => by
    have h := readOffsets_any p2 tw to wd (v + 1) E2 W h1 h2 h3 (by omega) hw4 (by omega) (by rw [hmm, hl2]; exact Nat.le_refl _) h4 h5 h6 h7
    rw [show (((v + 1 : Nat)) : Int) = (v : Int) + 1 by omega] at h
    exact h

  have HOK := Lib.hid hok
  have HLN := Lib.hid (show (intCells (offsL E2 wd (v + 1)))[v]? = some (.int .i64 (ln : Int)) by simp [intCells, offsL, hln])
  have hd : decide ((ln : Int) > (n : Int) - (3 + (mm : Int))) = true := by simp; omega
  clear hok hln hE hl hB hmm hcut he2 hl2 h8 h8b h82 hbl
  go_enter Try.func8, Try.ntmps8
  go_wp2_with (first | (go_at_call 18; ((with_reducible refine (CN _).mono ?_); rintro e w1 ⟨p, rfl, r1, b1, hp1⟩; have CU := rsU16 p E3 0 w1 (.inl ⟨Nat.zero_le _, r1⟩) (by omega); rw [hv] at CU; have hp2 := r1.lt)) | (go_at_call 19; ((with_reducible refine (CU).mono ?_); rintro e w2 ⟨rfl, r2, o2⟩; have B2 := b1.trans (o2.to_below b1.size (by simp; omega)); have CD := rs_doneI p E3 2 w2 r2; have CE := rsU8 p E3 2 w2 r2 (by omega); rw [hwd] at CE)) | (go_at_call 20; ((with_reducible refine (CD).mono ?_); rintro e w3 ⟨rfl, rfl⟩)) | (go_at_call 21; ((with_reducible refine (CE).mono ?_); rintro e w4 ⟨rfl, r4, o4⟩; have B4 := B2.trans (o4.to_below B2.size (by simp; omega)))) | (go_at_call 18; ((with_reducible refine (CN2 w4 B4 _).mono ?_); rintro e w5 ⟨p2, rfl, r5, b5, hp5⟩; have B5 := B4.trans (b5.mono B4.size); have hp52 := r5.lt)) | (go_at_call 23; ((with_reducible refine (reading_any wd p2 _ w5 rfl).mono ?_); rintro e w6 ⟨tw, to, rfl, KW, KF, b6, htw, hto⟩; have B6 := B5.trans (b6.mono B5.size); have r6 := r5.below b6; have hz6 := b6.size; have CO := CR w6 p2 tw to (fun b => w4.heap.size ≤ b ∧ b < w5.heap.size) (.inl ⟨Nat.zero_le _, r6⟩) (fun b hb => by omega) (by omega) KW KF (by omega) (by omega))) | (go_at_call 22; ((with_reducible refine (CO).mono ?_); rintro e w7 ⟨k7, _, o7⟩; obtain ⟨v7, rfl, own7⟩ := k7 HOK.out; have B7 := B6.trans (o7.to_below B6.size (by have := B4.size; simp; omega)); obtain ⟨g, cap, cur, rfl, KO, hcur⟩ := own_blk own7; have g0 := (KO.cell v).trans (hcur v _ HLN.out); have gl := KO.lt; clear hcur k7)))
  exact bodyPost_ret (v := .tuple #[.pointer none, .int .i64 140]) (by simp [results, Try.results8, go_sem]) rfl ⟨rfl, B7⟩
set_option maxRecDepth 100000 in
set_option maxHeartbeats 2000000 in
theorem load_ok (A : Option Addr) (c n : Nat) (Eb E3 E2 : List Value) (w : World) (hB : Lists w w.heap.size A Eb) (h8b : Bytes8 Eb) (hbl : Eb.length = n) (hE : Lists w w.heap.size A E3) (h8 : Bytes8 E3) (hl : E3.length = 3) (hmn : 3 < n) (hm : n ≤ 140737488355328) (hc : n ≤ c) (v : Nat) (hv : rsn E3 2 0 (rd2 E3 0) = v) (hz : v ≠ 0) (hvb : v < 65536) (wd mm : Nat) (hwd : rsn E3 1 2 (byteAt E3 2) = wd) (hmm : (v + 1) * wd = mm) (hw1 : 1 ≤ wd) (hw4 : wd ≤ 4) (hfit : 3 + mm ≤ n) (he2 : E2 = (Eb.drop 3).take mm) (hok : okOs E2 wd (v + 1) = true) (ln : Nat) (hln : offI E2 wd v = ln) (hnear : 3 + mm + ln ≤ n) : Calls Try.prog 8 #[.slice A n c] w (GotIx w (osN E2 wd (v + 1)) ((Eb.drop (3 + mm)).take ln) ((3 + mm + ln : Nat) : Int)) := by
  have CN := fun c' => new_any A 3 c' E3 w hE hl h8 (by omega)
  have hL : E3.length ≤ 4611686018427387904 := by omega
  have hc3 : 3 ≤ c := by omega
  have hmn2 : (3 : Int) < (n : Int) := by omega
  have hmb : mm ≤ 262144 := by rw [← hmm]; exact Nat.le_trans (Nat.mul_le_mul (show v + 1 ≤ 65536 by omega) hw4) (by decide)
  have hmi : ((v : Int) + 1) * (wd : Int) = (mm : Int) := by rw [← hmm]; push_cast; rfl
  have hvz : ((v : Int) == 0) = false := by simp; omega
  have h82 : Bytes8 E2 := fun u hu => h8b u (by rw [he2] at hu; exact List.mem_of_mem_drop (List.mem_of_mem_take hu))
  have hl2 : E2.length = mm := by rw [he2]; simp; omega
  have hcut := lists_cut hB 3 (3 + mm) c (by omega) (by omega)
  rw [show 3 + mm - 3 = mm by omega, ← he2] at hcut
  have SL1 : ∀ W, (Instr.sliceAt 22 (.slice A n c) (some (.int .i64 3)) (some (.int .i64 (3 + (mm : Int)))) none).run Try.prog W = .ok (.slice (if c = 3 then A else A.map (·.add 3)) mm (c - 3)) W := fun W => by
    have h := slice_ok A n c 3 (3 + mm) (by omega) (by omega) W
    rw [show 3 + mm - 3 = mm by omega] at h
    exact h
  generalize (if c = 3 then A else A.map (·.add 3)) = A3 at *
  have CN2 := fun W (hb : Below w.heap.size w W) c' => new_any A3 mm c' E2 W ((hcut.below hb).more hb.size) hl2 h82 (by omega)
  have CR : ∀ W p2 tw to (q : Nat → Prop), RS q W p2 E2 0 → (∀ b, q b → b < W.heap.size) → p2 < W.heap.size → Blk W tw 3 #[.int .i64 (wd : Nat)] → Blk W to 43 #[.func (.func 21) #[.pointer (some ⟨p2, 0, none⟩)] #[]] → tw ≠ p2 → to ≠ p2 →
      Calls Try.prog 22 #[.int .i64 ((v : Int) + 1), .func (.func 35) #[] #[.pointer (some ⟨tw, 0, none⟩), .pointer (some ⟨to, 0, none⟩)]] W fun e w' => (okOs E2 wd (v + 1) = true → ∃ v7, e = .returned (.tuple #[v7, .bool true]) ∧ w'.ownsRow W.heap.size 3 1 v7 (v + 1) (intCells (offsL E2 wd (v + 1)))) ∧ (okOs E2 wd (v + 1) = false → e = .returned (.tuple #[.slice none 0 0, .bool false])) ∧ Only W w' [p2] := fun W p2 tw to q h1 h2 h3 h4 h5 h6 h7 => by
    have h := readOffsets_any p2 tw to wd (v + 1) E2 W h1 h2 h3 (by omega) hw4 (by omega) (by rw [hmm, hl2]; exact Nat.le_refl _) h4 h5 h6 h7
    rw [show (((v + 1 : Nat)) : Int) = (v : Int) + 1 by omega] at h
    exact h

  have HOK := Lib.hid hok
  have HLN := Lib.hid (show (intCells (offsL E2 wd (v + 1)))[v]? = some (.int .i64 (ln : Int)) by simp [intCells, offsL, hln])
  have hd : decide ((ln : Int) > (n : Int) - (3 + (mm : Int))) = false := by simp; omega
  have h8D : Bytes8 ((Eb.drop (3 + mm)).take ln) := fun u hu => h8b u (List.mem_of_mem_drop (List.mem_of_mem_take hu))
  have hlD : ((Eb.drop (3 + mm)).take ln).length = ln := by simp; omega
  have hcut2 := lists_cut hB (3 + mm) (3 + mm + ln) c (by omega) (by omega)
  rw [show 3 + mm + ln - (3 + mm) = ln by omega] at hcut2
  have SL2 : ∀ W, (Instr.sliceAt 22 (.slice A n c) (some (.int .i64 (3 + (mm : Int)))) (some (.int .i64 (3 + (mm : Int) + (ln : Int)))) none).run Try.prog W = .ok (.slice (if c = 3 + mm then A else A.map (·.add (3 + mm))) ln (c - (3 + mm))) W := fun W => by
    have h := slice_ok A n c (3 + mm) (3 + mm + ln) (by omega) (by omega) W
    rw [show 3 + mm + ln - (3 + mm) = ln by omega] at h
    exact h
  have HOS := Lib.hid (osN_cells E2 wd (v + 1) hok)
  have hol : (osN E2 wd (v + 1)).length = v + 1 := by simp [osN]
  have HOL := Lib.hid hol
  have H8D := Lib.hid h8D
  have HLD := Lib.hid hlD
  generalize (if c = 3 + mm then A else A.map (·.add (3 + mm))) = A4 at *
  generalize (Eb.drop (3 + mm)).take ln = D at *
  have CC := fun W (hb : Below w.heap.size w W) c' => clone_any A4 ln c' D W ((hcut2.below hb).more hb.size) hlD h8D (by omega)
  generalize osN E2 wd (v + 1) = os at *
  clear hok hln hE hl hB hmm hcut he2 hl2 h8 h8b h82 hbl hcut2 h8D hlD hol
  go_enter Try.func8, Try.ntmps8
  go_wp2_with (first | (go_at_call 18; ((with_reducible refine (CN _).mono ?_); rintro e w1 ⟨p, rfl, r1, b1, hp1⟩; have CU := rsU16 p E3 0 w1 (.inl ⟨Nat.zero_le _, r1⟩) (by omega); rw [hv] at CU; have hp2 := r1.lt)) | (go_at_call 19; ((with_reducible refine (CU).mono ?_); rintro e w2 ⟨rfl, r2, o2⟩; have B2 := b1.trans (o2.to_below b1.size (by simp; omega)); have CD := rs_doneI p E3 2 w2 r2; have CE := rsU8 p E3 2 w2 r2 (by omega); rw [hwd] at CE)) | (go_at_call 20; ((with_reducible refine (CD).mono ?_); rintro e w3 ⟨rfl, rfl⟩)) | (go_at_call 21; ((with_reducible refine (CE).mono ?_); rintro e w4 ⟨rfl, r4, o4⟩; have B4 := B2.trans (o4.to_below B2.size (by simp; omega)))) | (go_at_call 18; ((with_reducible refine (CN2 w4 B4 _).mono ?_); rintro e w5 ⟨p2, rfl, r5, b5, hp5⟩; have B5 := B4.trans (b5.mono B4.size); have hp52 := r5.lt)) | (go_at_call 23; ((with_reducible refine (reading_any wd p2 _ w5 rfl).mono ?_); rintro e w6 ⟨tw, to, rfl, KW, KF, b6, htw, hto⟩; have B6 := B5.trans (b6.mono B5.size); have r6 := r5.below b6; have hz6 := b6.size; have CO := CR w6 p2 tw to (fun b => w4.heap.size ≤ b ∧ b < w5.heap.size) (.inl ⟨Nat.zero_le _, r6⟩) (fun b hb => by omega) (by omega) KW KF (by omega) (by omega))) | (go_at_call 22; ((with_reducible refine (CO).mono ?_); rintro e w7 ⟨k7, _, o7⟩; obtain ⟨v7, rfl, own7⟩ := k7 HOK.out; have B7 := B6.trans (o7.to_below B6.size (by have := B4.size; simp; omega)); obtain ⟨A7, c7, hv7, hl7, _⟩ := own_lists own7; obtain ⟨g, cap, cur, rfl, KO, hcur⟩ := own_blk own7; have g0 := (KO.cell v).trans (hcur v _ HLN.out); have gl := KO.lt; have HL7 := Lib.hid hl7; have HV7 := Lib.hid hv7; clear hcur k7 hl7 hv7)) | (go_at_call 24; ((with_reducible refine (CC w7 B7 _).mono ?_); rintro e w8 ⟨A8, c8, rfl, l8, hc8, hm8, b8, hf8⟩; have B8 := B7.trans (b8.mono B7.size); have l7 := Lib.hid ((HL7.out.below b8).more b8.size))))
  have hal : Below w8.heap.size w8 (w8.alloc (.cells #[.slice (some ⟨g, 0, none⟩) (v + 1) cap, .slice A8 D.length c8, .int .i64 (3 + (mm : Int) + (ln : Int))] 50)) := (Below.refl _ _).alloc (Nat.le_refl _) _
  have hV := HV7.out
  have hfin : GotIx w os D ((3 + mm + ln : Nat) : Int) (.returned (.tuple #[.pointer (some ⟨w8.heap.size, 0, none⟩), .int .i64 0])) (w8.alloc (.cells #[.slice (some ⟨g, 0, none⟩) (v + 1) cap, .slice A8 D.length c8, .int .i64 (3 + (mm : Int) + (ln : Int))] 50)) := by
    refine ⟨w8.heap.size, rfl, ⟨by simp, some ⟨g, 0, none⟩, cap, A8, c8, ?_, ?_, ?_, ?_, H8D.out, by rw [HLD.out]; omega⟩, B8.trans (hal.mono B8.size)⟩
    · rw [HOL.out]
      exact Blk.new w8 50 _
    · rw [HOS.out]
      cases hV
      exact (l7.out.below hal).more hal.size
    · exact (l8.below hal).more hal.size
    · exact hc8
  exact bodyPost_ret (v := .tuple #[.pointer (some ⟨w8.heap.size, 0, none⟩), .int .i64 0]) (by simp [results, Try.results8, go_sem]) rfl hfin
end Go.Proofs.Ytmckdeopljcdfaa

namespace Go.Proofs.Ytmckdeopljcdfaa
open Go Go.RowKit
set_option linter.unusedVariables false
set_option linter.unusedSimpArgs false

/-- A writer that may be full, made since w0. -/
def WSF (w0 w : World) (p R : Nat) (F : Bool) (L : List Value) : Prop := ∃ fp, Wr w p R F L fp ∧ Below w0.heap.size w0 w ∧ ∀ b ∈ fp, w0.heap.size ≤ b
theorem WSF.old {w0 w : World} {p R : Nat} {F : Bool} {L : List Value} (h : WSF w0 w p R F L) : Below w0.heap.size w0 w := h.elim fun _ h => h.2.1
theorem WSF.ws {w0 w : World} {p R : Nat} {L : List Value} (h : WSF w0 w p R false L) : WS w0 w p R L := h
theorem WSF.full {w0 w : World} {p R : Nat} {L : List Value} (h : WSF w0 w p R true L) : Calls Try.prog 30 #[.pointer (some ⟨p, 0, none⟩)] w fun e w' => e = .returned (.tuple #[.slice none 0 0, .int .i64 2]) ∧ Below w.heap.size w w' := by
  obtain ⟨fp, h1, _⟩ := h
  exact wdone_full p R L fp w h1
theorem wsf_data (w0 w : World) (p R : Nat) (F : Bool) (L : List Value) (A : Option Addr) (m c : Nat) (X : List Value) (h : WSF w0 w p R F L) (hX : Lists w w0.heap.size A X) (hm : X.length = m) (h8 : Bytes8 X) (hR : R ≤ 1099511627776) :
    Calls Try.prog 29 #[.pointer (some ⟨p, 0, none⟩), .slice A m c] w fun e w' => e = .returned (.pointer (some ⟨p, 0, none⟩)) ∧ WSF w0 w' p R (putF R F L X) (putL R F L X) := by
  obtain ⟨fp, hW, b, hf⟩ := h
  have hp : p ∈ fp := by
    obtain ⟨D, G, dv, gv, _, _, _, _, _, _, _, rfl⟩ := hW
    exact List.mem_cons_self ..
  refine (data_any p R F L fp A m c w0.heap.size X w hW hR hX hm b.size h8 (fun a ha hne => ?_)).mono fun e w' ⟨he, fp', h1, h2, h3⟩ => ⟨he, fp', h1, b.trans (h2.to_below b.size hf), fun x hx => ?_⟩
  · have := hX.lt a ha hne
    have := hf p hp
    omega
  · rcases h3 x hx with h | h
    · exact hf x h
    · have := b.size; omega
/-- What Put puts ahead of the lists. -/
def hdE (Ls : List (List Value)) : List Value := if Ls.length = 0 then be2 0 else be2 (Ls.length : Nat) ++ offE Ls
def putIx (Ls : List (List Value)) : List Value := hdE Ls ++ Ls.flatten
def okIx (Ls : List (List Value)) : Bool := decide (Ls.length ≤ 65535) && decide ((putIx Ls).length ≤ 1048576)
theorem putIx_len (Ls : List (List Value)) : (putIx Ls).length = (hdE Ls).length + tot Ls := by
  unfold putIx
  rw [List.length_append, List.length_flatten]
  rfl
theorem wd_le {x : Nat} (h1 : 1 ≤ x) (h2 : x ≤ 16777215) : 1 ≤ wdN x ∧ wdN x ≤ 3 := by
  unfold wdN
  repeat' split
  all_goals omega
theorem hd_len (Ls : List (List Value)) (hn : Ls.length ≤ 65535) (ht : tot Ls ≤ 8388608) : (hdE Ls).length ≤ 262147 := by
  unfold hdE
  split
  · simp [be2]
  · obtain ⟨h1, h3⟩ := wd_le (x := 1 + tot Ls) (by omega) (by omega)
    unfold offE
    generalize wdN (1 + tot Ls) = wd at *
    have hlen : ∀ l : List Nat, (l.flatMap fun o => beN wd ((o : Nat) : Int)).length = l.length * wd := fun l => by
      induction l with
      | nil => simp
      | cons x l ih => rw [List.flatMap_cons, List.length_append, ih, beN_len h1 h3, List.length_cons, Nat.add_mul]; omega
    have h5 : (Ls.length + 1) * wd ≤ 65536 * 3 := Nat.mul_le_mul (by omega) h3
    rw [List.length_append, List.length_append, hlen, offT_len]
    simp [be2, be1]
    omega
/-- What Put answers. -/
def PutPost (w : World) (Ls : List (List Value)) (e : Ending) (w' : World) : Prop := (okIx Ls = true → Gave w (putIx Ls) e w') ∧ (okIx Ls = false → e = .returned (.tuple #[.slice none 0 0, .int .i64 3]) ∧ Below w.heap.size w w')
set_option maxRecDepth 100000 in
theorem put_many (A : Option Addr) (c n : Nat) (w : World) (hn : 65535 < n) (hn2 : n ≤ 4611686018427387904) : Calls Try.prog 12 #[.slice A n c] w fun e w' => e = .returned (.tuple #[.slice none 0 0, .int .i64 3]) ∧ Below w.heap.size w w' := by
  have d0 : decide ((n : Int) > 65535) = true := by simp; omega
  go_enter Try.func12, Try.ntmps12
  go_wp2
  exact bodyPost_ret (v := .tuple #[.slice none 0 0, .int .i64 3]) (by simp [results, Try.results12, go_sem]) rfl ⟨rfl, Below.refl _ _⟩
set_option maxRecDepth 100000 in
set_option maxHeartbeats 2000000 in
theorem put_few (A : Option Addr) (c n : Nat) (Ls : List (List Value)) (hd : List Value) (w : World) (hl : RowsAt w w.heap.size A Ls) (h8 : ∀ L ∈ Ls, Bytes8 L) (hnn : Ls.length = n) (hn : n ≤ 65535) (ht : tot Ls ≤ 8388608) (hhd : hdE Ls = hd) (Q : Ending → World → Prop)
    (hfin : (¬ 1048576 < hd.length + tot Ls → ∀ e w', Gave w (hd ++ Ls.flatten) e w' → Q e w') ∧ (1048576 < hd.length + tot Ls → ∀ w', Below w.heap.size w w' → Q (.returned (.tuple #[.slice none 0 0, .int .i64 3])) w')) :
    Calls Try.prog 12 #[.slice A n c] w Q := by
  have HL := Lib.hid hl
  have H8 := Lib.hid h8
  have HN := Lib.hid hnn
  have HFIN := Lib.hid hfin
  have hhl := hd_len Ls (by omega) ht
  rw [hhd] at hhl
  have d0 : decide ((n : Int) > 65535) = false := by simp; omega
  have CT : ∀ W, Below w.heap.size w W → Calls Try.prog 26 #[.int .i64 1048576] W (MadeWS w W 1048576) := fun W hb => wsTo w W 1048576 hb
  have hWS0 : ∀ w2 p, WS w w2 p 1048576 (be2 (n : Nat)) → n = 0 → WSF w w2 p 1048576 false hd := fun w2 p h h0 => by
    subst h0
    rw [← hhd]
    unfold hdE
    rw [hnn, if_pos rfl]
    exact h
  have HWS0 := Lib.hid hWS0
  have CP : ∀ w2 p, 0 < n → WS w w2 p 1048576 (be2 (n : Nat)) → Calls Try.prog 28 #[.pointer (some ⟨p, 0, none⟩), .slice A n c] w2 fun e w' => e = .returned (.tuple #[]) ∧ WSF w w' p 1048576 false hd := fun w2 p h0 h => by
    have h9 := putOffsets_any w w2 p 1048576 w.heap.size (be2 (n : Nat)) A c Ls h h.old.size (hl.below h.old) (by omega) ht (by simp [be2]) (by decide)
    rw [hnn] at h9
    refine h9.mono fun e w' ⟨h1, h2⟩ => ⟨h1, ?_⟩
    rw [← hhd]
    unfold hdE
    rw [hnn, if_neg (by omega)]
    exact h2
  clear hl h8 hnn hfin hhd hWS0
  go_enter Try.func12, Try.ntmps12
  go_upto_if 18 with (first
    | (go_at_call 26; ((with_reducible refine (CT _ (Below.refl _ _)).mono ?_); rintro e w1 ⟨p, rfl, h1, b1⟩))
    | (go_at_call 27; ((with_reducible refine (wsU16 w _ p 1048576 [] (n : Nat) h1 (by decide) (by decide)).mono ?_); rintro e w2 ⟨rfl, h2, s2, z2⟩)))
  go_cut [4] from 9 (fun pv wx => pv = .pointer (some ⟨p, 0, none⟩) ∧ WSF w wx p 1048576 false hd)
  case first =>
    by_cases h0 : 0 < n
    · have d2 : decide ((n : Int) > 0) = true := by simp; omega
      go_wp2_with (go_at_call 28; ((with_reducible refine (CP _ p h0 h2).mono ?_); rintro e w3 ⟨rfl, h3⟩))
      go_meet
      case rel => exact ⟨rfl, h3⟩
    · obtain rfl : n = 0 := by omega
      have d2 : decide (((0 : Nat) : Int) > 0) = false := by simp
      go_wp2
      go_meet
      case rel => exact ⟨rfl, HWS0.out _ _ h2 (by trivial)⟩
  case rest =>
  obtain ⟨rfl, hWS⟩ := hcut
  clear CP HWS0 h1 h2 s2
  go_wp2
  go_loopw [24] (fun iv wr => ∃ k : Nat, k ≤ n ∧ iv = .int .i64 (k : Nat) ∧ ∃ F L', WSF w wr p 1048576 F L' ∧ Hid (F = decide (1048576 < hd.length + tot (Ls.take k))) ∧ Hid (F = false → L' = hd ++ (Ls.take k).flatten)) (fun iv _ => n - (intOf iv).toNat)
  case atStart => exact ⟨0, Nat.zero_le _, rfl, false, hd, hWS, Lib.hid (by simp [tot]; omega), Lib.hid (fun _ => by simp)⟩
  case round =>
    obtain ⟨k, hk, rfl, F, L', HW, HF, HLL⟩ := hrel
    clear hWS
    by_cases hlt : k < n
    · have d1 : decide ((k : Int) < (n : Int)) = true := by simp; omega
      obtain ⟨M, hM⟩ : ∃ M, Ls[k]? = some M := ⟨Ls[k]'(by rw [HN.out]; exact hlt), List.getElem?_eq_getElem _⟩
      obtain ⟨b, o, Ai, ci, rfl, hbl, c0, hE⟩ := HL.out.at' k M hM
      have hbo := HW.old
      have g0 := (hbo.cell (p := ⟨b, o + k, none⟩) hbl).trans c0
      have hbr := Nat.lt_of_lt_of_le hbl hbo.size
      have CD := wsf_data w wr p 1048576 F L' Ai M.length ci M HW (hE.below hbo) rfl (H8.out M (List.mem_of_getElem? hM)) (by decide)
      have hT : Ls.take (k + 1) = Ls.take k ++ [M] := by rw [List.take_add_one, hM]; rfl
      have HF2 := Lib.hid (show putF 1048576 F L' M = decide (1048576 < hd.length + tot (Ls.take (k + 1))) by
        rw [hT, tot_snoc]
        unfold putF
        have h1 := HF.out
        cases F
        · rw [HLL.out rfl, List.length_append, List.length_flatten]
          have : (List.map List.length (Ls.take k)).sum = tot (Ls.take k) := rfl
          rw [this, Bool.false_or, Nat.add_assoc]
        · have h2 := of_decide_eq_true h1.symm
          simp
          omega)
      have HL2 := Lib.hid (show putF 1048576 F L' M = false → putL 1048576 F L' M = hd ++ (Ls.take (k + 1)).flatten from fun hf => by
        unfold putL
        rw [hf, if_neg (by simp)]
        have h1 : F = false := by
          unfold putF at hf
          simp at hf
          exact hf.1
        rw [HLL.out h1, hT, List.flatten_append]
        simp)
      obtain ⟨ml, hml⟩ : ∃ ml, M.length = ml := ⟨_, rfl⟩
      rw [hml] at c0 g0 CD
      generalize putF 1048576 F L' M = F2 at *
      generalize putL 1048576 F L' M = L2 at *
      clear hM c0 hE hml hT
      go_wp2_with (go_at_call 29; ((with_reducible refine (CD).mono ?_); rintro e w3 ⟨rfl, h3⟩))
      go_roundw
      case rel => exact ⟨k + 1, by omega, by go_num, F2, L2, h3, HF2, HL2⟩
      case measure => simp [intOf]; omega
    · obtain rfl : k = n := by omega
      have d1 : decide ((k : Int) < (k : Int)) = false := by simp
      have hTk : Ls.take k = Ls := List.take_of_length_le (by rw [HN.out]; exact Nat.le_refl _)
      rw [hTk] at HF HLL
      clear hTk
      cases F
      · have CX := wsDone w wr p 1048576 L' HW.ws (by decide)
        have HG := Lib.hid (show ∀ e w', Gave w L' e w' → _ from fun e w' hg => HFIN.out.1 (of_decide_eq_false HF.out.symm) e w' (by rw [← HLL.out rfl]; exact hg))
        go_wp2_with (go_at_call 30; ((with_reducible refine (CX).mono ?_); rintro e w4 ⟨A9, c9, rfl, ho9, b9⟩))
        exact HG.out _ _ ⟨A9, c9, rfl, ho9, b9⟩
      · have CX := HW.full
        have HG := HFIN.out.2 (of_decide_eq_true HF.out.symm)
        have HGG := Lib.hid HG
        clear HG
        go_wp2_with (go_at_call 30; ((with_reducible refine (CX).mono ?_); rintro e w4 ⟨rfl, b4⟩))
        exact HGG.out _ (HW.old.trans (b4.mono HW.old.size))
theorem put_any (A : Option Addr) (c : Nat) (Ls : List (List Value)) (w : World) (hl : RowsAt w w.heap.size A Ls) (h8 : ∀ L ∈ Ls, Bytes8 L) (hn : Ls.length ≤ 4611686018427387904) (ht : Ls.length ≤ 65535 → tot Ls ≤ 8388608) :
    Calls Try.prog 12 #[.slice A Ls.length c] w (PutPost w Ls) := by
  rcases Nat.lt_or_ge 65535 Ls.length with h | h
  · exact (put_many A c _ w h hn).mono fun e w' k => ⟨fun hk => absurd (of_decide_eq_true (Bool.and_eq_true_iff.1 hk).1) (by omega), fun _ => k⟩
  · have hl2 := putIx_len Ls
    refine put_few A c _ Ls (hdE Ls) w hl h8 rfl h (ht h) rfl _ ⟨fun hr e w' hg => ⟨fun _ => hg, fun hk => ?_⟩, fun hr w' hb => ⟨fun hk => ?_, fun _ => ⟨rfl, hb⟩⟩⟩
    · rw [show okIx Ls = true by unfold okIx; rw [decide_eq_true h, decide_eq_true (by omega)]; rfl] at hk
      cases hk
    · have := of_decide_eq_true (Bool.and_eq_true_iff.1 hk).2
      omega
end Go.Proofs.Ytmckdeopljcdfaa
