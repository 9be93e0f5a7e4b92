/- Part 10 of the proof: DcY, DcI, DcR, DcM, DcF, Rw1, Rw2, Wide. -/
import Derived.LoopTactic
import Derived.Outline
import Derived.Deep.DeepAppendWide
import Derived.Test.YthoocoaalbeopaaDoorCDc8

namespace Go.Proofs.YthoocoaalbeopaaDoor
open Go Go.RowKit
set_option linter.unusedVariables false
set_option linter.unusedSimpArgs false

def ParseP (w : World) (R : List Ent × List Int) (e : Ending) (w' : World) : Prop := ∃ v, e = .returned (.tuple #[v, .int .i64 (if R.2 = [] then 0 else 150)]) ∧ Own2E w' w.heap.size v (if R.2 = [] then R.1 else []) ∧ Below w.heap.size w w'
/-- Between two items. -/
structure PQ (w w1 : World) (p : Nat) (bs : List Value) (R : List Ent × List Int) (k : Nat) (L : List It) (lv av : Value) (Es : List Ent) (cur : List Int) (rs : List Value) (W : World) : Prop where
  rd : RS (fun b => w.heap.size ≤ b ∧ b < w1.heap.size) W p bs k
  le : k ≤ bs.length
  drop : bs.drop k = bytesI L
  ok : okI L cur
  run : runI L Es cur = R
  st : PSt w1.heap.size W lv av Es cur rs
  bel : Below w.heap.size w W
  size : w1.heap.size ≤ W.heap.size
  cnt : Es.length ≤ k
set_option maxRecDepth 100000 in
set_option maxHeartbeats 1000000 in
theorem dparse_any (A : Option Addr) (n c : Nat) (bs : List Value) (L : List It) (R : List Ent × List Int) (w : World) (hE : Lists w w.heap.size A bs) (hbl : bs.length = n) (h8 : Bytes8 bs) (hn : n ≤ 1000000000)
    (hby : bs = bytesI L) (hok : okI L []) (hR : runI L [] [] = R) (hG : GD w) :
    Calls Tryd.prog 9 #[.slice A n c] w (ParseP w R) := by
  have CN := new_any A n c bs w hE hbl h8 (by omega)
  have hL : bs.length ≤ 4611686018427387904 := by omega
  have hw0 := hG.lt
  have HN := Lib.hid hbl
  have HBY := Lib.hid hby
  clear hE hbl hby
  go_enter Tryd.func9, Tryd.ntmps9
  go_wp2_with (first | (go_at_call 21; ((with_reducible refine (CN).mono ?_); rintro e w1 ⟨p, rfl, r1, b1, hp1⟩)))
  have hp2 := r1.lt
  have s1 := b1.size
  have Q0 : PQ w w1 p bs R 0 L (.slice none 0 0) (.slice none 0 0) [] [] [] w1 := ⟨.inl ⟨Nat.zero_le _, r1⟩, Nat.zero_le _, by rw [List.drop_zero]; exact HBY.out, hok, hR, PSt.start _ _, b1, Nat.le_refl _, Nat.zero_le _⟩
  clear CN r1 b1 hok hR HBY
  go_loopw [5, 6] (fun lv av wr => ∃ k L Es cur rs, PQ w w1 p bs R k L lv av Es cur rs wr) (fun _ _ wr => n - posR wr p)
  case atStart => exact ⟨_, _, _, _, _, Q0⟩
  case round =>
    clear Q0
    obtain ⟨k, L, Es, cur, rs, Q⟩ := hrel
    have CL := dleft_any p bs k wr Q.rd Q.le hL
    have hpos := posR_rs Q.rd Q.le
    have hk := Q.le
    obtain ⟨Al, cl, rfl, ll, hcl⟩ := own_lists Q.st.list
    obtain ⟨Aa, ca, rfl, la, hca⟩ := own_lists Q.st.args
    match L, Q with
    | [], Q =>
      have hkl : k = bs.length := by
        have := congrArg List.length Q.drop
        simp [bytesI] at this; omega
      have hlf : ((bs.length - k : Nat) : Int) = 0 := by omega
      rw [hlf] at CL
      have hRR : R = (Es, cur) := Q.run.symm
      have HQ := Lib.hid Q
      have CD : ∀ W, Below wr.heap.size wr W → Calls Tryd.prog 26 #[.pointer (some ⟨p, 0, none⟩)] W fun e w' => e = .returned (.int .i64 0) ∧ W = w' := fun W b => ddone_any p bs k W (Q.rd.below b) Q.le
      clear Q
      subst hRR
      match cur, la, hca, HQ with
      | [], la, hca, HQ =>
        go_wp2_with (first | (go_at_call 22; ((with_reducible refine (CL).mono ?_); rintro e w2 ⟨rfl, b2⟩)) | (go_at_call 26; ((with_reducible refine (CD _ b2).mono ?_); rintro e w3 ⟨rfl, rfl⟩)))
        exact bodyPost_ret (results_tmp2 rfl _ _ _) rfl ⟨_, rfl, ((HQ.out.st.below b2).out).mono s1, HQ.out.bel.trans (b2.mono HQ.out.bel.size)⟩
      | x :: cur, la, hca, HQ =>
        have d1 : decide ((((x :: cur).length : Nat) : Int) > 0) = true := by simp
        have d2 : (((x :: cur).length : Nat) : Int) > 0 := by simp
        generalize (x :: cur).length = m at *
        go_wp2_with (first | (go_at_call 22; ((with_reducible refine (CL).mono ?_); rintro e w2 ⟨rfl, b2⟩)))
        exact bodyPost_ret (results_tmp2 rfl _ _ _) rfl ⟨_, rfl, Own2E.nil _ _, HQ.out.bel.trans (b2.mono HQ.out.bel.size)⟩
    | .arg f T x :: L, Q =>
      obtain ⟨ho, hc48, hok⟩ := Q.ok
      obtain ⟨hf1, hf2, _, hO⟩ := ho
      have hd : bs.drop k = .int .u8 f :: (T ++ bytesI L) := Q.drop
      obtain ⟨hk1, _, hd1⟩ := drop_first hd
      have CU : ∀ W, RS (fun b => w.heap.size ≤ b ∧ b < w1.heap.size) W p bs k → Calls Tryd.prog 23 #[.pointer (some ⟨p, 0, none⟩)] W (ReadS (fun b => w.heap.size ≤ b ∧ b < w1.heap.size) W p bs (k + 1) f) := fun W r => by
        have C := rsU8 p bs k W r hL
        unfold rsn at C
        rwa [if_pos (by omega), byte_first hd (by omega)] at C
      have hd2 : bs.drop (k + 1 + T.length) = bytesI L := by rw [← List.drop_drop, hd1]; simp
      have hk2 : k + 1 + T.length ≤ bs.length := by
        have := congrArg List.length hd1
        simp at this; omega
      have hlf : ((bs.length - k : Nat) : Int) > 0 := by omega
      have hpq : ∀ b, (w.heap.size ≤ b ∧ b < w1.heap.size) → b < w1.heap.size := fun b hb => hb.2
      have CO : ∀ W, RS (fun b => w.heap.size ≤ b ∧ b < w1.heap.size) W p bs (k + 1) → Below w.heap.size w W → w1.heap.size ≤ W.heap.size → Calls Tryd.prog 25 #[.pointer (some ⟨p, 0, none⟩), .int .i64 f] W (DNum (fun b => w.heap.size ≤ b ∧ b < w1.heap.size) W p bs (k + 1 + T.length) x) := fun W r b hs => hO _ p (k + 1) bs (bytesI L) W r hL hd1 (hG.below b) (by omega) (by omega) (fun b' hb => by have := hb.2; omega)
      have HQ := Lib.hid Q
      have hst := Q.st
      have hbel := Q.bel
      have hsz := Q.size
      have hcnt := Q.cnt
      have n1 : ¬ f ≤ 21 := by omega
      have n2 : ((cur.length : Int) == 48) = false := by simp; omega
      have hcl48 : cur.length ≤ 48 := by omega
      have HD2 := Lib.hid hd2
      have HR := Lib.hid (show runI L Es (cur ++ [x]) = R from Q.run)
      have HO := Lib.hid hok
      have hrd := Q.rd
      obtain ⟨i0, hi, hz0, hz1, hz2⟩ := info_partsX intInfo
      clear Q hd hd1 hd2 hO hok ll la
      generalize ((bs.length - k : Nat) : Int) = lf at *
      obtain ⟨m, hm⟩ : ∃ m, m = cur.length := ⟨_, rfl⟩
      have HM := Lib.hid hm
      have hst0 := Lib.hid hst
      rw [← hm] at n2 hc48 hcl48 hst hca ⊢
      clear hm
      go_wp2_with (first | (go_at_call 22; ((with_reducible refine (CL).mono ?_); rintro e w2 ⟨rfl, b2⟩; have B2 := hbel.trans (b2.mono hbel.size))) | (go_at_call 23; ((with_reducible refine (CU _ (hrd.below b2)).mono ?_); rintro e w3 ⟨rfl, r3, o3⟩; have B3 := B2.trans (o3.to_below B2.size (by simp; omega)); have s3 := o3.size; have s2 := b2.size)) | (go_at_call 25; ((with_reducible refine (CO _ r3 B3 (by omega)).mono ?_); rintro e w4 ⟨rfl, r4, o4⟩; have B4 := B3.trans (o4.to_below B3.size (by simp; omega)); have s4 := o4.size; have P4 := (((hst0.out.below b2).only o3 (by simp; omega)).only o4 (by simp; omega)).below ((Below.refl w4.heap.size w4).alloc (Nat.le_refl _) (.cells #[.int .i64 x] 3)))) | (at_builtin; refine wpList_append_src _ rfl (.tmp 40) (.tmp 42) 37 rfl w1.heap.size 3 i0 (.int .i64 0) 1 8 Tryd.underlying37 hi hz0 hz1 hz2 rfl (by decide) (Value.slice Aa m ca) m (cur.map (Value.int .i64)) rfl (by rw [HM.out]; have := P4.args; rw [← HM.out] at this ⊢; exact this) (w4.heap.size + 1) (some ⟨w4.heap.size, 0, none⟩) 1 1 [.int .i64 x] (by rfl) (lists_row w4 [.int .i64 x] 3) rfl (by simp [Value.oneCell']) (by simp only [maxLen]; omega) (by omega) (by simp; omega) ?_; intro v6 w6 own6 hg6 hat6))
      have hm := HM.out
      subst hm
      have P5 := P4.push_arg (by simp; omega) own6 hg6 hat6
      have o6 := P5.2
      have r5 := (r4.below ((Below.refl w4.heap.size w4).alloc (Nat.le_refl _) (.cells #[.int .i64 x] 3))).only o6 (fun hm => by have := ownE_low2 P4.args p hm; omega) (fun b hb hq => by have := ownE_low2 P4.args b hb; have := hq.2; omega)
      have B5 := B4.alloc (by omega) (.cells #[.int .i64 x] 3)
      have B6 := B5.trans (o6.to_below B5.size (fun b hb => by have := ownE_low2 P4.args b hb; omega))
      have s6 := o6.size
      have s7 : w1.heap.size ≤ w6.heap.size := by simp at s6; omega
      go_roundw
      case rel => exact ⟨k + 1 + T.length, L, Es, cur ++ [x], rs, ⟨r5, hk2, HD2.out, HO.out, HR.out, P5.1, B6, s7, by omega⟩⟩
      case measure => rw [posR_rs r5 hk2, hpos]; have := HN.out; omega
    | .op o :: L, Q =>
      obtain ⟨ho, hok⟩ := Q.ok
      obtain ⟨T, hT, hTl, hf1, hf2⟩ := opE_first o ho
      have hd : bs.drop k = .int .u8 (opF o) :: (T ++ bytesI L) := by rw [Q.drop]; show opE o ++ bytesI L = _; rw [hT]; rfl
      obtain ⟨hk1, _, hd1⟩ := drop_first hd
      have CU : ∀ W, RS (fun b => w.heap.size ≤ b ∧ b < w1.heap.size) W p bs k → Calls Tryd.prog 23 #[.pointer (some ⟨p, 0, none⟩)] W (ReadS (fun b => w.heap.size ≤ b ∧ b < w1.heap.size) W p bs (k + 1) (opF o)) := fun W r => by
        have C := rsU8 p bs k W r hL
        unfold rsn at C
        rwa [if_pos (by omega), byte_first hd (by omega)] at C
      have hd2 : bs.drop (k + 1 + T.length) = bytesI L := by rw [← List.drop_drop, hd1]; simp
      have hk2 : k + 1 + T.length ≤ bs.length := by
        have := congrArg List.length hd1
        simp at this; omega
      have hlf : ((bs.length - k : Nat) : Int) > 0 := by omega
      have CO : ∀ W, RS (fun b => w.heap.size ≤ b ∧ b < w1.heap.size) W p bs (k + 1) → Calls Tryd.prog 24 #[.pointer (some ⟨p, 0, none⟩), .int .i64 (opF o)] W fun e w' => e = .returned (.int .i64 o) ∧ RS (fun b => w.heap.size ≤ b ∧ b < w1.heap.size) w' p bs (k + 1 + T.length) ∧ Only W w' [p] := fun W r => drop_any p (k + 1) bs (bytesI L) T o W r hL ho hT hd1
      generalize opF o = f at *
      have HQ := Lib.hid Q
      have hbel := Q.bel
      have hsz := Q.size
      have hcnt := Q.cnt
      have HD2 := Lib.hid hd2
      have HR := Lib.hid (show runI L (Es ++ [(o, cur)]) [] = R from Q.run)
      have HO := Lib.hid hok
      have hrd := Q.rd
      obtain ⟨i0, hi, hz0, hz1, hz2⟩ := info_partsX entInfo
      clear Q hd hd1 hd2 hok ll la ho hT hTl
      generalize ((bs.length - k : Nat) : Int) = lf at *
      obtain ⟨m, hm⟩ : ∃ m, m = Es.length := ⟨_, rfl⟩
      have HM := Lib.hid hm
      have hst0 := Lib.hid HQ.out.st
      obtain ⟨ml, hml⟩ : ∃ ml, ml = cur.length := ⟨_, rfl⟩
      have HML := Lib.hid hml
      rw [← hm] at hcl hcnt ⊢
      rw [← hml] at hca ⊢
      clear hm hml
      have hn9 : n ≤ 1000000000 := hn
      have hmn : m ≤ 1000000000 := by have := HN.out; omega
      go_wp2_with (first | (go_at_call 22; ((with_reducible refine (CL).mono ?_); rintro e w2 ⟨rfl, b2⟩; have B2 := hbel.trans (b2.mono hbel.size))) | (go_at_call 23; ((with_reducible refine (CU _ (hrd.below b2)).mono ?_); rintro e w3 ⟨rfl, r3, o3⟩; have B3 := B2.trans (o3.to_below B2.size (by simp; omega)); have s3 := o3.size; have s2 := b2.size)) | (go_at_call 24; ((with_reducible refine (CO _ r3).mono ?_); rintro e w4 ⟨rfl, r4, o4⟩; have B4 := B3.trans (o4.to_below B3.size (by simp; omega)); have s4 := o4.size; have P4 := (((hst0.out.below b2).only o3 (by simp; omega)).only o4 (by simp; omega)).below ((Below.refl w4.heap.size w4).alloc (Nat.le_refl _) (.cells #[.int .i64 o, .slice Aa ml ca] 42)))) | (at_builtin; refine wpList_append_src _ rfl (.tmp 19) (.tmp 25) 24 rfl w1.heap.size 42 i0 (.agg #[.int .i64 0, .slice none 0 0]) 2 32 Tryd.underlying24 hi hz0 hz1 hz2 rfl (by decide) (Value.slice Al m cl) m (entC Es rs) rfl (by rw [HM.out]; have := P4.list; rw [← HM.out] at this ⊢; exact this) (w4.heap.size + 1) (some ⟨w4.heap.size, 0, none⟩) 1 1 [.int .i64 o, .slice Aa ml ca] (by rfl) (lists_row w4 [.int .i64 o, .slice Aa ml ca] 42) rfl (by simp [Value.oneCell']) (by simp only [maxLen]; omega) (by omega) (by simp; omega) ?_; intro v6 w6 own6 hg6 hat6))
      have hm := HM.out
      subst hm
      have hml := HML.out
      subst hml
      have P5 := P4.push_ent own6 hg6
      have o6 := P5.2
      have r5 := (r4.below ((Below.refl w4.heap.size w4).alloc (Nat.le_refl _) (.cells #[.int .i64 o, .slice Aa cur.length ca] 42))).only o6 (fun hm => by have := ownE_low2 P4.list p hm; omega) (fun b hb hq => by have := ownE_low2 P4.list b hb; have := hq.2; omega)
      have B5 := B4.alloc (by omega) (.cells #[.int .i64 o, .slice Aa cur.length ca] 42)
      have B6 := B5.trans (o6.to_below B5.size (fun b hb => by have := ownE_low2 P4.list b hb; omega))
      have s6 := o6.size
      have s7 : w1.heap.size ≤ w6.heap.size := by simp at s6; omega
      go_roundw
      case rel => exact ⟨k + 1 + T.length, L, Es ++ [(o, cur)], [], rs ++ [_], ⟨r5, hk2, HD2.out, HO.out, HR.out, P5.1, B6, s7, by simp; omega⟩⟩
      case measure => rw [posR_rs r5 hk2, hpos]; have := HN.out; omega
end Go.Proofs.YthoocoaalbeopaaDoor

namespace Go.Proofs.YthoocoaalbeopaaDoor
open Go Go.RowKit
set_option linter.unusedVariables false
set_option linter.unusedSimpArgs false

def cntD (Es : List Ent) : Nat := (Es.map fun q => q.2.length).sum
def bigD (Es : List Ent) : Bool := decide (200 < Es.length) || decide (3000 < cntD (Es.take 300))
theorem cntD_snoc {Es : List Ent} {k : Nat} {q : Ent} (h : Es[k]? = some q) : cntD (Es.take (k + 1)) = cntD (Es.take k) + q.2.length := by
  unfold cntD
  rw [List.take_add_one, h, List.map_append, List.sum_append]
  simp
theorem cntD_le {Es : List Ent} (h : ∀ q ∈ Es, q.2.length ≤ 17592186044416) : cntD Es ≤ 17592186044416 * Es.length := by
  unfold cntD
  induction Es with
  | nil => simp
  | cons q Es ih =>
    have := h q (List.mem_cons_self ..)
    have := ih fun x hx => h x (List.mem_cons_of_mem _ hx)
    rw [List.map_cons, List.sum_cons, List.length_cons]
    omega
theorem big_noD {Es : List Ent} (h : bigD Es = false) : Es.length ≤ 200 ∧ ∀ q ∈ Es, q.2.length ≤ 3000 := by
  unfold bigD at h
  simp only [Bool.or_eq_false_iff, decide_eq_false_iff_not, Nat.not_lt] at h
  refine ⟨h.1, fun q hq => ?_⟩
  have h2 := h.2
  rw [List.take_of_length_le (by omega)] at h2
  refine Nat.le_trans ?_ h2
  clear h h2
  unfold cntD
  induction Es with
  | nil => cases hq
  | cons p Es ih =>
    rw [List.map_cons, List.sum_cons]
    rcases List.mem_cons.1 hq with rfl | hq
    · omega
    · have := ih hq; omega
set_option maxRecDepth 100000 in
theorem large_any (A : Option Addr) (c n : Nat) (Es : List Ent) (w : World) (hE : EntAt w w.heap.size A Es) (hnn : Es.length = n) (hn : n ≤ 9223372036854775807) (hlen : ∀ q ∈ Es, q.2.length ≤ 17592186044416) :
    Calls Tryd.prog 13 #[.slice A n c] w fun e w' => e = .returned (.bool (bigD Es)) ∧ w' = w := by
  have HE := Lib.hid hE
  have HN := Lib.hid hnn
  have HLEN := Lib.hid hlen
  clear hE hnn hlen
  go_enter Tryd.func13, Tryd.ntmps13
  go_wp2
  go_loopw [3, 4] (fun sv iv wr => ∃ k : Nat, k ≤ n ∧ k ≤ 300 ∧ iv = .int .i64 (k : Nat) ∧ sv = .int .i64 (cntD (Es.take k) : Nat) ∧ wr = w) (fun _ iv _ => n - (intOf iv).toNat)
  case atStart => exact ⟨0, Nat.zero_le _, Nat.zero_le _, rfl, rfl, rfl⟩
  case round =>
    obtain ⟨k, hk, hk3, rfl, rfl, rfl⟩ := hrel
    have hcl := cntD_le (Es := Es.take k) fun q hq => HLEN.out q (List.mem_of_mem_take hq)
    rw [List.length_take] at hcl
    have hcb : cntD (Es.take k) ≤ 5277655813324800 := by omega
    by_cases hlt : k < n
    · have d1 : decide ((k : Int) < (n : Int)) = true := by simp; omega
      by_cases hl3 : k < 300
      · have d2 : decide ((k : Int) < 300) = true := by simp; omega
        obtain ⟨⟨o, L⟩, hq⟩ : ∃ q, Es[k]? = some q := ⟨Es[k]'(by rw [HN.out]; exact hlt), List.getElem?_eq_getElem _⟩
        obtain ⟨b, o0, Ai, ci, rfl, hbl, c0, c1, hci, hLi⟩ := HE.out.at' k _ hq
        simp only at c0 c1 hci hLi
        have hml : L.length ≤ 17592186044416 := HLEN.out _ (List.mem_of_getElem? hq)
        have HS := Lib.hid (show cntD (Es.take (k + 1)) = cntD (Es.take k) + L.length from cntD_snoc hq)
        generalize L.length = m at *
        generalize cntD (Es.take k) = s at *
        clear hLi hq
        go_wp2
        go_roundw
        case rel => exact ⟨k + 1, by omega, by omega, by go_num, congrArg (Value.int .i64) (by rw [HS.out]; omega), by first | rfl | trivial⟩
        case measure => simp [intOf]; omega
      · obtain rfl : k = 300 := by omega
        have HB := Lib.hid (show bigD Es = (decide (200 < n) || decide (3000 < cntD (Es.take 300))) by unfold bigD; rw [HN.out])
        generalize cntD (Es.take 300) = s at *
        have d3 : (n : Int) > 200 := by omega
        rw [show decide (200 < n) = true by simp; omega, Bool.true_or] at HB
        go_wp2
        go_ret
        exact ⟨by rw [HB.out]; rfl, rfl⟩
    · obtain rfl : n = k := by omega
      have d1 : decide ((n : Int) < (n : Int)) = false := by simp
      have HB := Lib.hid (show bigD Es = (decide (200 < n) || decide (3000 < cntD (Es.take n))) by unfold bigD; rw [HN.out, List.take_of_length_le (i := 300) (by rw [HN.out]; exact hk3), List.take_of_length_le (i := n) (by rw [HN.out]; exact Nat.le_refl _)])
      generalize cntD (Es.take n) = s at *
      by_cases h2 : 200 < n
      · have d3 : (n : Int) > 200 := by omega
        rw [show decide (200 < n) = true by simpa using h2, Bool.true_or] at HB
        go_wp2
        go_ret
        exact ⟨by rw [HB.out]; rfl, rfl⟩
      · have d3 : ¬ (n : Int) > 200 := by omega
        rw [show decide (200 < n) = false by simpa using h2, Bool.false_or] at HB
        by_cases h4 : 3000 < s
        · have d4 : (s : Int) > 3000 := by omega
          rw [show decide (3000 < s) = true by simpa using h4] at HB
          go_wp2
          go_ret
          exact ⟨by rw [HB.out]; rfl, rfl⟩
        · have d4 : ¬ (s : Int) > 3000 := by omega
          rw [show decide (3000 < s) = false by simpa using h4] at HB
          go_wp2
          go_ret
          exact ⟨by rw [HB.out]; rfl, rfl⟩
end Go.Proofs.YthoocoaalbeopaaDoor

namespace Go.Proofs.YthoocoaalbeopaaDoor
open Go Go.RowKit
set_option linter.unusedVariables false
set_option linter.unusedSimpArgs false
variable {q : Nat → Prop}

/-- The bytes of half bytes, and of the end behind them. -/
def realB : List Nat → List Value
  | [] => [.int .u8 255]
  | [a] => [.int .u8 (16 * a + 15 : Nat)]
  | a :: b :: H => .int .u8 (16 * a + b : Nat) :: realB H
theorem realB_len : ∀ H : List Nat, (realB H).length = H.length / 2 + 1
  | [] => rfl
  | [a] => by simp [realB]
  | a :: b :: H => by
    simp only [realB, List.length_cons, realB_len H]
    omega
theorem realB_bytes : ∀ (H : List Nat), (∀ h ∈ H, h < 15) → Bytes8 (realB H)
  | [], _ => fun v hv => by simp [realB] at hv; subst hv; exact ⟨255, by decide, rfl⟩
  | [a], h => fun v hv => by
    have := h a (by simp)
    simp only [realB, List.mem_singleton] at hv; subst hv; exact ⟨16 * a + 15, by omega, rfl⟩
  | a :: b :: H, h => fun v hv => by
    have h1 := h a (by simp)
    have h2 := h b (by simp)
    simp only [realB, List.mem_cons] at hv
    rcases hv with rfl | hv
    · exact ⟨16 * a + b, by omega, rfl⟩
    · exact realB_bytes H (fun x hx => h x (by simp [hx])) v hv
theorem half_next (v : Value) (l : List Value) (j : Nat) : half (v :: l) (j + 2) = half l j := by
  have e : ∀ i, byteAt (v :: l) (i + 1) = byteAt l i := fun i => by unfold byteAt; simp
  unfold half
  rw [show (j + 2) % 2 = j % 2 by omega, show (j + 2) / 2 = j / 2 + 1 by omega, e]
theorem byteAt_head (x : Nat) (l : List Value) : byteAt (.int .u8 (x : Nat) :: l) 0 = x := by simp [byteAt, nb]
theorem half_real : ∀ (H : List Nat) (tl : List Value), (∀ h ∈ H, h < 15) → (∀ j h, H[j]? = some h → half (realB H ++ tl) j = h) ∧ half (realB H ++ tl) H.length = 15
  | [], tl, _ => ⟨fun j h hj => by simp at hj, by simp [realB, half, byteAt, nb]⟩
  | [a], tl, hH => by
    have := hH a (by simp)
    refine ⟨fun j h hj => ?_, ?_⟩
    · match j, hj with
      | 0, hj =>
        simp at hj; subst hj
        show half (.int .u8 (16 * a + 15 : Nat) :: tl) 0 = a
        unfold half
        rw [if_pos rfl, byteAt_head]; omega
    · show half (.int .u8 (16 * a + 15 : Nat) :: tl) 1 = 15
      unfold half
      rw [if_neg (by decide), byteAt_head]; omega
  | a :: b :: H, tl, hH => by
    have h1 := hH a (by simp)
    have h2 := hH b (by simp)
    obtain ⟨i1, i2⟩ := half_real H tl (fun x hx => hH x (by simp [hx]))
    have e : realB (a :: b :: H) ++ tl = .int .u8 (16 * a + b : Nat) :: (realB H ++ tl) := rfl
    rw [e]
    refine ⟨fun j h hj => ?_, ?_⟩
    · match j, hj with
      | 0, hj =>
        simp at hj; subst hj
        unfold half
        rw [if_pos rfl, byteAt_head]; omega
      | 1, hj =>
        simp at hj; subst hj
        unfold half
        rw [if_neg (by decide), byteAt_head]; omega
      | j + 2, hj => rw [half_next]; exact i1 j h (by simpa using hj)
    · rw [show (a :: b :: H).length = H.length + 2 from rfl, half_next]; exact i2
theorem half_drop (bs : List Value) (k j : Nat) : half bs (2 * k + j) = half (bs.drop k) j := by
  unfold half
  rw [show (2 * k + j) % 2 = j % 2 by omega, show (2 * k + j) / 2 = k + j / 2 by omega, byteAt_dropD]
theorem hv_of {bs tl : List Value} {k : Nat} {H : List Nat} (hd : bs.drop k = realB H ++ tl) (hH : ∀ h ∈ H, h < 15) (ht : (spT H).size ≤ 21) : Hv bs k H := by
  obtain ⟨i1, i2⟩ := half_real H tl hH
  refine ⟨fun j h hj => ⟨hH h (List.mem_of_getElem? hj), by rw [half_drop, hd]; exact i1 j h hj⟩, by rw [half_drop, hd]; exact i2, ?_, ht⟩
  have h1 := congrArg List.length hd
  have h2 := realB_len H
  simp at h1
  omega
set_option maxRecDepth 100000 in
theorem opd_real (H : List Nat) (s : ByteArray) (m : Bool) (v : Int) (hH : ∀ h ∈ H, h < 15) (ht : (spT H).size ≤ 21) (hm : Lib.hasPrefix (spT H).data.toList [45] = m) (hs : (⟨(Lib.trimPrefix (spT H).data.toList [45]).toArray⟩ : ByteArray) = s) (hv : valT s v)
    (v1 : -9223372036854775807 ≤ v) (v2 : v ≤ 9223372036854775807) : Opd 30 (realB H) (if m then -v else v) := by
  refine ⟨by decide, by decide, realB_bytes H hH, fun q p k bs tl w h hL hd hG hp0 hpw hq => ?_⟩
  have C := dreal_any p k bs H s m v w h hL (hv_of hd hH ht) hG hp0 hpw hq hm hs hv v1 v2
  rw [realB_len, ← Nat.add_assoc]
  generalize (if m then -v else v) = x at *
  clear hd hv hs hm ht hH
  go_enter Tryd.func25, Tryd.ntmps25
  go_wp2_with (first | (go_at_call 43; ((with_reducible refine (C).mono ?_); rintro e w2 ⟨rfl, hr2, o2⟩)))
  exact bodyPost_ret (results_tmp2 rfl _ _ _) rfl ⟨rfl, hr2, o2⟩
end Go.Proofs.YthoocoaalbeopaaDoor

namespace Go.Proofs.YthoocoaalbeopaaDoor
open Go Go.RowKit
set_option linter.unusedVariables false
set_option linter.unusedSimpArgs false

def H15 : List Nat := [14, 2, 10, 2, 5]
theorem opd15 : Opd 30 (realB H15) (-147456) := opd_real H15 ⟨#[50, 46, 50, 53]⟩ true 147456 (by decide) (by decide) (by decide) (by decide) (fun w => dval_225 w) (by decide) (by decide)
set_option maxRecDepth 100000 in
theorem parse15 (w : World) (hG : GD w) : Calls Tryd.prog 9 #[.slice (some ⟨w.heap.size, 0, none⟩) 5 5] (w.alloc (.cells #[.int .u8 30, .int .u8 226, .int .u8 162, .int .u8 95, .int .u8 5] 5)) fun e w' => ∃ A c, e = .returned (.tuple #[.slice A 1 c, .int .i64 0]) ∧ Hid (EntAt w' w'.heap.size A [(5, [-147456])]) ∧ Below w.heap.size w w' := by
  have b0 := below_a1 w (.cells #[.int .u8 30, .int .u8 226, .int .u8 162, .int .u8 95, .int .u8 5] 5)
  refine (dparse_any (some ⟨w.heap.size, 0, none⟩) 5 5 [.int .u8 30, .int .u8 226, .int .u8 162, .int .u8 95, .int .u8 5] [.arg 30 (realB H15) (-147456), .op 5] ([(5, [-147456])], []) _ ((lists_row w [.int .u8 30, .int .u8 226, .int .u8 162, .int .u8 95, .int .u8 5] 5).more (by simp)) rfl ?_ (by decide) (by rfl) ⟨opd15, by decide, by decide, trivial⟩ rfl (hG.below b0)).mono ?_
  · intro v hv
    simp only [List.mem_cons, List.not_mem_nil, or_false] at hv
    rcases hv with rfl | rfl | rfl | rfl | rfl
    · exact ⟨30, by decide, rfl⟩
    · exact ⟨226, by decide, rfl⟩
    · exact ⟨162, by decide, rfl⟩
    · exact ⟨95, by decide, rfl⟩
    · exact ⟨5, by decide, rfl⟩
  · rintro e w' ⟨v, rfl, ho, hb⟩
    obtain ⟨A, c, rfl, hc, hE⟩ := ho.out
    exact ⟨A, c, rfl, Lib.hid hE, b0.trans (hb.mono b0.size)⟩
set_option maxRecDepth 100000 in
theorem bad15 (w : World) (hG : GD w) : Calls Tryd.prog 9 #[.slice (some ⟨w.heap.size, 0, none⟩) 1 1] (w.alloc (.cells #[.int .u8 139] 5)) fun e w' => ∃ v, e = .returned (.tuple #[v, .int .i64 150]) ∧ Below w.heap.size w w' := by
  have b0 := below_a1 w (.cells #[.int .u8 139] 5)
  refine (dparse_any (some ⟨w.heap.size, 0, none⟩) 1 1 [.int .u8 139] [.arg 139 [] 0] ([], [0]) _ ((lists_row w [.int .u8 139] 5).more (by simp)) rfl ?_ (by decide) (by rfl) ⟨opd_num 0 (by decide) (by decide), by decide, trivial⟩ rfl (hG.below b0)).mono ?_
  · intro v hv
    simp only [List.mem_cons, List.not_mem_nil, or_false] at hv
    subst hv
    exact ⟨139, by decide, rfl⟩
  · rintro e w' ⟨v, rfl, ho, hb⟩
    exact ⟨v, rfl, b0.trans (hb.mono b0.size)⟩
theorem ent17 (w : World) : EntAt ((w.alloc (.cells #[.int .i64 19660800] 3)).alloc (.cells #[.int .i64 17, .slice (some ⟨w.heap.size, 0, none⟩) 1 1] 42)) (w.heap.size + 1 + 1) (some ⟨w.heap.size + 1, 0, none⟩) [(17, [19660800])] := by
  have K := Blk.new (w.alloc (.cells #[.int .i64 19660800] 3)) 42 #[.int .i64 17, .slice (some ⟨w.heap.size, 0, none⟩) 1 1]
  rw [World.size_alloc] at K
  have b1 := below_a1 (w.alloc (.cells #[.int .i64 19660800] 3)) (.cells #[.int .i64 17, .slice (some ⟨w.heap.size, 0, none⟩) 1 1] 42)
  rw [World.size_alloc] at b1
  have L2 := ((lists_row w [.int .i64 19660800] 3).below b1).more (show w.heap.size + 1 ≤ w.heap.size + 1 + 1 by omega)
  refine ⟨fun i q hq => ?_⟩
  match i, hq with
  | 0, hq =>
    simp at hq
    subst hq
    exact ⟨w.heap.size + 1, 0, some ⟨w.heap.size, 0, none⟩, 1, rfl, by omega, K.cell 0, K.cell 1, by simp, L2⟩
  | i + 1, hq => simp at hq
theorem may17 : ([(17, [19660800])] : List Ent).all mayQ = true := by kernel_rfl
theorem put17 : putE [(17, [19660800])] = [.int .u8 247, .int .u8 192, .int .u8 17] := by kernel_rfl
theorem num17 : numP [(17, [19660800])] 17 0 = (300, 0) := by kernel_rfl
theorem below17 (w : World) : Below w.heap.size w ((w.alloc (.cells #[.int .i64 19660800] 3)).alloc (.cells #[.int .i64 17, .slice (some ⟨w.heap.size, 0, none⟩) 1 1] 42)) := below_a2 _ _ _
set_option maxRecDepth 100000 in
theorem put15 (w : World) : Calls Tryd.prog 14 #[.slice (some ⟨w.heap.size + 1, 0, none⟩) 1 1] ((w.alloc (.cells #[.int .i64 19660800] 3)).alloc (.cells #[.int .i64 17, .slice (some ⟨w.heap.size, 0, none⟩) 1 1] 42)) fun e w' => ∃ A c, e = .returned (.tuple #[.slice A 3 c, .int .i64 0]) ∧ Hid (Lists w' w'.heap.size A [.int .u8 247, .int .u8 192, .int .u8 17]) ∧ Below w.heap.size w w' := by
  refine (dput_ok _ 1 1 [(17, [19660800])] _ ((ent17 w).more (by simp)) rfl (by decide) (by simp) may17).mono ?_
  rintro e w' ⟨A, c, rfl, ho, hb⟩
  obtain ⟨A', c', he, hl, _⟩ := own_lists ho
  cases he
  rw [put17] at hl ⊢
  exact ⟨A, c, rfl, Lib.hid hl, (below17 w).trans (hb.mono (below17 w).size)⟩
set_option maxRecDepth 100000 in
theorem num15 (w : World) : Calls Tryd.prog 20 #[.slice (some ⟨w.heap.size + 1, 0, none⟩) 1 1, .int .i64 17, .int .i64 0] ((w.alloc (.cells #[.int .i64 19660800] 3)).alloc (.cells #[.int .i64 17, .slice (some ⟨w.heap.size, 0, none⟩) 1 1] 42)) fun e w' => e = .returned (.tuple #[.int .i64 300, .int .i64 0]) ∧ Below w.heap.size w w' := by
  refine (dnumber_any _ 1 1 [(17, [19660800])] 17 0 _ ((ent17 w).more (by simp)) rfl (by decide)).mono ?_
  rintro e w' ⟨rfl, hb⟩
  rw [num17]
  exact ⟨rfl, (below17 w).trans (hb.mono (below17 w).size)⟩
theorem num9 (w : World) : Calls Tryd.prog 20 #[.slice none 0 0, .int .i64 17, .int .i64 9] w fun e w' => e = .returned (.tuple #[.int .i64 9, .int .i64 0]) ∧ Below w.heap.size w w' := by
  refine (dnumber_any none 0 0 [] 17 9 w ⟨fun i q h => by simp at h⟩ rfl (by decide)).mono ?_
  rintro e w' ⟨rfl, hb⟩
  exact ⟨rfl, hb⟩
theorem get5 (A : Option Addr) (c : Nat) (w : World) (hE : Hid (EntAt w w.heap.size A [(5, [-147456])])) : Calls Tryd.prog 19 #[.slice A 1 c, .int .i64 5] w fun e w' => ∃ Ai ci, e = .returned (.tuple #[.slice Ai 1 ci, .bool true]) ∧ Below w.heap.size w w' := by
  refine (dget_any A 1 c _ 5 w hE.out rfl (by decide) (by simp)).mono ?_
  rintro e w' ⟨⟨Ai, ci, rfl, _, _⟩, hb⟩
  exact ⟨Ai, ci, rfl, hb⟩
theorem hent_up {w w1 : World} {A : Option Addr} {Es : List Ent} (h : Hid (EntAt w w.heap.size A Es)) (b : Below w.heap.size w w1) : Hid (EntAt w1 w1.heap.size A Es) := Lib.hid ((h.out.below b).more b.size)
theorem hlst_up {w w1 : World} {A : Option Addr} {E : List Value} (h : Hid (Lists w w.heap.size A E)) (b : Below w.heap.size w w1) : Hid (Lists w1 w1.heap.size A E) := Lib.hid ((h.out.below b).more b.size)
theorem s15_bytes : Bytes8 ([.int .u8 247, .int .u8 192, .int .u8 17] : List Value) := fun v hv => by
  simp only [List.mem_cons, List.not_mem_nil, or_false] at hv
  rcases hv with rfl | rfl | rfl
  · exact ⟨247, by decide, rfl⟩
  · exact ⟨192, by decide, rfl⟩
  · exact ⟨17, by decide, rfl⟩
theorem s15_str : (⟨(([.int .u8 247, .int .u8 192, .int .u8 17] : List Value).map toU8).toArray⟩ : ByteArray) = ⟨#[247, 192, 17]⟩ := by decide
theorem cells5 {w : World} {A : Option Addr} (h : Hid (EntAt w w.heap.size A [(5, [-147456])])) : ∃ (x1 o1 x4 o4 ci : Nat) (z : Int), (z == -147456) = true ∧ A = some ⟨x1, o1, none⟩ ∧ x1 < w.heap.size ∧ w.cell? ⟨x1, o1, none⟩ = some (.int .i64 5) ∧ w.cell? ⟨x1, o1 + 1, none⟩ = some (.slice (some ⟨x4, o4, none⟩) 1 ci) ∧ x4 < w.heap.size ∧ w.cell? ⟨x4, o4, none⟩ = some (.int .i64 z) := by
  obtain ⟨x1, o1, Ai, ci, rfl, h0, h1, h2, _, h4⟩ := h.out.at' 0 _ rfl
  obtain ⟨x4, o4, rfl, h5, h6⟩ := h4.plain (by simp)
  exact ⟨x1, o1, x4, o4, ci, -147456, by simp, rfl, h0, h1, h2, h5, h6 0 _ rfl⟩
set_option maxRecDepth 100000 in
set_option maxHeartbeats 4000000 in
theorem lives15 (w : World) (hG : GD w) : Calls Tryd.prog 8 #[] w fun e w' => e = .returned (.bool true) ∧ Below w.heap.size w w' := by
  have CP := parse15 w hG
  go_enter Tryd.func8, Tryd.ntmps8
  go_wp2_with (first
    | (go_at_call 9; ((with_reducible refine (CP).mono ?_); rintro e w1 ⟨A1, c1, rfl, l1, b1⟩))
    | (go_at_call 14; ((with_reducible refine (put15 w1).mono ?_); rintro e w2 ⟨A2, c2, rfl, l2, b2⟩; have B2 := b1.trans (b2.mono b1.size); have l1b := hent_up l1 b2))
    | (go_at_call 9; ((with_reducible refine (bad15 w2 (hG.below B2)).mono ?_); rintro e w3 ⟨v3, rfl, b3⟩; have B3 := B2.trans (b3.mono B2.size); have l1c := hent_up l1b b3; have l2c := hlst_up l2 b3))
    | (go_at_call 19; ((with_reducible refine (get5 A1 c1 w3 l1c).mono ?_); rintro e w4 ⟨A4, c4, rfl, b4⟩; have B4 := B3.trans (b4.mono B3.size); have l1d := hent_up l1c b4; have l2d := hlst_up l2c b4))
    | (go_at_call 20; ((with_reducible refine (num15 w4).mono ?_); rintro e w5 ⟨rfl, b5⟩; have B5 := B4.trans (b5.mono B4.size); have l1e := hent_up l1d b5; have l2e := hlst_up l2d b5))
    | (go_at_call 20; ((with_reducible refine (num9 w5).mono ?_); rintro e w6 ⟨rfl, b6⟩; have B6 := B5.trans (b6.mono B5.size); have l1f := hent_up l1e b6; have l2f := hlst_up l2e b6; have q1 := conv_lists (n := 3) (c := c2) l2f.out rfl s15_bytes; rw [s15_str] at q1; obtain ⟨x1, o1, x4, o4, ci, z, hz, rfl, h0, h1, h2, h5, h7⟩ := cells5 l1f)))
  go_ret
  exact ⟨rfl, B6⟩
end Go.Proofs.YthoocoaalbeopaaDoor

namespace Go.Proofs.YthoocoaalbeopaaDoor
open Go Go.RowKit
set_option linter.unusedVariables false
set_option linter.unusedSimpArgs false

set_option maxRecDepth 100000 in
theorem rwhole_any (x : Int) (w : World) : Calls Tryd.prog 35 #[.int .i64 x] w fun e w' => e = .returned (.bool (wholeB x)) ∧ w' = w := by
  have p2 : wrap64 (x.tdiv 65536) = q16 x := rfl
  have HR := Lib.hid (show wholeB x = ((x.tmod 65536 == 0) && inB (-2147483648) 2147483647 (q16 x)) from rfl)
  generalize q16 x = y at *
  by_cases hz : x.tmod 65536 = 0
  · rw [hz] at HR
    by_cases h1 : y ≥ -2147483648
    · by_cases h2 : y < 2147483648
      · rw [inB_yes (by omega) (by omega)] at HR
        go_enter Tryd.func35, Tryd.ntmps35
        go_wp2
        go_ret
        exact ⟨by rw [HR.out]; rfl, rfl⟩
      · rw [show inB (-2147483648) 2147483647 y = false by simp [inB]; omega] at HR
        go_enter Tryd.func35, Tryd.ntmps35
        go_wp2
        go_ret
        exact ⟨by rw [HR.out]; rfl, rfl⟩
    · rw [show inB (-2147483648) 2147483647 y = false by simp [inB]; omega] at HR
      go_enter Tryd.func35, Tryd.ntmps35
      go_wp2
      go_ret
      exact ⟨by rw [HR.out]; rfl, rfl⟩
  · have d2 : (x.tmod 65536 == 0) = false := by simpa using hz
    rw [d2, Bool.false_and] at HR
    go_enter Tryd.func35, Tryd.ntmps35
    go_wp2
    go_ret
    exact ⟨by rw [HR.out]; rfl, rfl⟩
set_option maxRecDepth 100000 in
set_option maxHeartbeats 4000000 in
theorem rmay15 (A : Option Addr) (c n : Nat) (Es : List Ent) (w : World) (hE : EntAt w w.heap.size A Es) (hnn : Es.length = n) (hn : n ≤ 1000000) (hlen : ∀ q ∈ Es, q.2.length ≤ 1099511627776) :
    Calls Tryd.prog 15 #[.slice A n c] w fun e w' => e = .returned (.bool (Es.all mayQ)) ∧ w' = w := by
  have HE := Lib.hid hE
  have HN := Lib.hid hnn
  have HLEN := Lib.hid hlen
  clear hE hnn hlen
  go_enter Tryd.func15, Tryd.ntmps15
  go_wp2
  go_loopw [3] (fun iv wr => ∃ k : Nat, k ≤ n ∧ iv = .int .i64 (k : Nat) ∧ Hid ((Es.take k).all mayQ = true) ∧ wr = w) (fun iv _ => n - (intOf iv).toNat)
  case atStart => exact ⟨0, Nat.zero_le _, rfl, Lib.hid rfl, rfl⟩
  case round =>
    obtain ⟨k, hk, rfl, hall, rfl⟩ := hrel
    by_cases hlt : k < n
    · have d1 : decide ((k : Int) < (n : Int)) = true := by simp; omega
      obtain ⟨⟨o, L⟩, hq⟩ : ∃ q, Es[k]? = some q := ⟨Es[k]'(by rw [HN.out]; exact hlt), List.getElem?_eq_getElem _⟩
      obtain ⟨b, o0, Ai, ci, rfl, hbl, c0, c1, hci, hLi⟩ := HE.out.at' k _ hq
      simp only at c0 c1 hci hLi
      have hml : L.length ≤ 1099511627776 := HLEN.out _ (List.mem_of_getElem? hq)
      obtain ⟨m, hm⟩ : ∃ m, L.length = m := ⟨_, rfl⟩
      rw [hm] at c1 hci hml
      have HMQ := Lib.hid (show mayE o L = false → Es.all mayQ = false from fun h => by
        cases hh : Es.all mayQ
        · rfl
        · have := List.all_eq_true.1 hh _ (List.mem_of_getElem? hq)
          unfold mayQ at this
          simp only [h] at this
          cases this)
      have HMY := Lib.hid (show mayE o L = true → (Es.take (k + 1)).all mayQ = true from fun h => by rw [List.take_add_one, hq, List.all_append, hall.out]; simpa [mayQ] using h)
      have HM := Lib.hid hm
      have HLI := Lib.hid hLi
      clear hq hm hLi
      rcases (show (o < 0) ∨ (0 ≤ o ∧ o ≤ 21 ∧ o ≠ 12) ∨ (o = 12) ∨ (21 < o ∧ o < 3072) ∨ (3072 ≤ o ∧ o ≤ 3327) ∨ (3327 < o) by omega) with hc | hc | hc | hc | hc | hc
      · have g1 : ¬ o ≥ 0 := by omega
        have g2 : ¬ o ≥ 3072 := by omega
        have HBAD := Lib.hid (HMQ.out (by unfold mayE; rw [show opB o = false by unfold opB; simp [inB]; omega]; rfl))
        clear HMQ
        go_wp2
        go_ret
        exact ⟨by rw [HBAD.out]; rfl, rfl⟩
      · have g1 : o ≥ 0 := by omega
        have g2 : o ≤ 21 := by omega
        have g3 : (o != 12) = true := by simpa using hc.2.2
        have hop : opB o = true := by unfold opB; simp [inB]; omega
        by_cases h48 : m ≤ 48
        · have d3 : ¬ (m : Int) > 48 := by omega
          have HNO := Lib.hid (show L.all wholeB = false → Es.all mayQ = false from fun h => HMQ.out (by unfold mayE; rw [h, Bool.and_false]))
          have HYES := Lib.hid (show L.all wholeB = true → (Es.take (k + 1)).all mayQ = true from fun h => HMY.out (by unfold mayE; rw [h, hop, HM.out, decide_eq_true h48]; rfl))
          clear HMQ HMY hop
          go_wp2
          go_loopw [5] (fun jv wx => ∃ j : Nat, j ≤ m ∧ jv = .int .i64 (j : Nat) ∧ Hid ((L.take j).all wholeB = true) ∧ wx = wr) (fun jv _ => m - (intOf jv).toNat)
          case atStart => exact ⟨0, Nat.zero_le _, rfl, Lib.hid rfl, rfl⟩
          case round =>
            obtain ⟨j, hj, rfl, hwh, rfl⟩ := hrel
            by_cases hjt : j < m
            · have d2 : decide ((j : Int) < (m : Int)) = true := by simp; omega
              obtain ⟨x, hx⟩ : ∃ x, L[j]? = some x := ⟨L[j]'(by rw [HM.out]; exact hjt), List.getElem?_eq_getElem _⟩
              obtain ⟨b2, o2, rfl, hbl2, hcl2⟩ := HLI.out.plain (by intro e; have h2 := congrArg List.length e; rw [List.length_map, HM.out] at h2; simp at h2; omega)
              have gx := hcl2 j (.int .i64 x) (by rw [List.getElem?_map, hx]; rfl)
              have HAS := Lib.hid (show (L.take (j + 1)).all wholeB = wholeB x by rw [List.take_add_one, hx, List.all_append, hwh.out]; simp)
              have CW := fun W => rwhole_any x W
              have HXB := Lib.hid (show wholeB x = false → Es.all mayQ = false from fun h => HNO.out (by
                cases hh : L.all wholeB
                · rfl
                · have := List.all_eq_true.1 hh x (List.mem_of_getElem? hx)
                  rw [h] at this; cases this))
              generalize wholeB x = u at *
              clear hcl2 hx
              cases u
              · have HBAD := Lib.hid (HXB.out rfl)
                go_wp2_with (first | (go_at_call 35; ((with_reducible refine (CW _).mono ?_); rintro e w1 ⟨rfl, rfl⟩)))
                go_ret
                exact ⟨by rw [HBAD.out]; rfl, rfl⟩
              · go_wp2_with (first | (go_at_call 35; ((with_reducible refine (CW _).mono ?_); rintro e w1 ⟨rfl, rfl⟩)))
                go_roundw
                case rel => exact ⟨j + 1, by omega, by go_num, HAS, by first | rfl | trivial⟩
                case measure => simp [intOf]; omega
            · obtain rfl : j = m := by omega
              have d2 : decide ((j : Int) < (j : Int)) = false := by simp
              have HLA := Lib.hid (show L.all wholeB = true by have h := hwh.out; rwa [List.take_of_length_le (by rw [HM.out]; exact Nat.le_refl _)] at h)
              go_wp2
              go_roundw
              case rel => exact ⟨k + 1, by omega, by go_num, Lib.hid (HYES.out HLA.out), by first | rfl | trivial⟩
              case measure => simp [intOf]; omega
        · have d3 : (m : Int) > 48 := by omega
          have HBAD := Lib.hid (HMQ.out (by unfold mayE; rw [HM.out, decide_eq_false h48, Bool.and_false, Bool.false_and]))
          clear HMQ HMY hop
          go_wp2
          go_ret
          exact ⟨by rw [HBAD.out]; rfl, rfl⟩
      · subst hc
        have HBAD := Lib.hid (HMQ.out (by unfold mayE; rw [show opB 12 = false by kernel_rfl]; rfl))
        clear HMQ
        go_wp2
        go_ret
        exact ⟨by rw [HBAD.out]; rfl, rfl⟩
      · have g1 : o ≥ 0 := by omega
        have g2 : ¬ o ≤ 21 := by omega
        have g3 : ¬ o ≥ 3072 := by omega
        have HBAD := Lib.hid (HMQ.out (by unfold mayE; rw [show opB o = false by unfold opB; simp [inB]; omega]; rfl))
        clear HMQ
        go_wp2
        go_ret
        exact ⟨by rw [HBAD.out]; rfl, rfl⟩
      · have g1 : o ≥ 0 := by omega
        have g2 : ¬ o ≤ 21 := by omega
        have g3 : o ≥ 3072 := by omega
        have g4 : o ≤ 3327 := by omega
        have hop : opB o = true := by unfold opB; simp [inB]; omega
        by_cases h48 : m ≤ 48
        · have d3 : ¬ (m : Int) > 48 := by omega
          have HNO := Lib.hid (show L.all wholeB = false → Es.all mayQ = false from fun h => HMQ.out (by unfold mayE; rw [h, Bool.and_false]))
          have HYES := Lib.hid (show L.all wholeB = true → (Es.take (k + 1)).all mayQ = true from fun h => HMY.out (by unfold mayE; rw [h, hop, HM.out, decide_eq_true h48]; rfl))
          clear HMQ HMY hop
          go_wp2
          go_loopw [5] (fun jv wx => ∃ j : Nat, j ≤ m ∧ jv = .int .i64 (j : Nat) ∧ Hid ((L.take j).all wholeB = true) ∧ wx = wr) (fun jv _ => m - (intOf jv).toNat)
          case atStart => exact ⟨0, Nat.zero_le _, rfl, Lib.hid rfl, rfl⟩
          case round =>
            obtain ⟨j, hj, rfl, hwh, rfl⟩ := hrel
            by_cases hjt : j < m
            · have d2 : decide ((j : Int) < (m : Int)) = true := by simp; omega
              obtain ⟨x, hx⟩ : ∃ x, L[j]? = some x := ⟨L[j]'(by rw [HM.out]; exact hjt), List.getElem?_eq_getElem _⟩
              obtain ⟨b2, o2, rfl, hbl2, hcl2⟩ := HLI.out.plain (by intro e; have h2 := congrArg List.length e; rw [List.length_map, HM.out] at h2; simp at h2; omega)
              have gx := hcl2 j (.int .i64 x) (by rw [List.getElem?_map, hx]; rfl)
              have HAS := Lib.hid (show (L.take (j + 1)).all wholeB = wholeB x by rw [List.take_add_one, hx, List.all_append, hwh.out]; simp)
              have CW := fun W => rwhole_any x W
              have HXB := Lib.hid (show wholeB x = false → Es.all mayQ = false from fun h => HNO.out (by
                cases hh : L.all wholeB
                · rfl
                · have := List.all_eq_true.1 hh x (List.mem_of_getElem? hx)
                  rw [h] at this; cases this))
              generalize wholeB x = u at *
              clear hcl2 hx
              cases u
              · have HBAD := Lib.hid (HXB.out rfl)
                go_wp2_with (first | (go_at_call 35; ((with_reducible refine (CW _).mono ?_); rintro e w1 ⟨rfl, rfl⟩)))
                go_ret
                exact ⟨by rw [HBAD.out]; rfl, rfl⟩
              · go_wp2_with (first | (go_at_call 35; ((with_reducible refine (CW _).mono ?_); rintro e w1 ⟨rfl, rfl⟩)))
                go_roundw
                case rel => exact ⟨j + 1, by omega, by go_num, HAS, by first | rfl | trivial⟩
                case measure => simp [intOf]; omega
            · obtain rfl : j = m := by omega
              have d2 : decide ((j : Int) < (j : Int)) = false := by simp
              have HLA := Lib.hid (show L.all wholeB = true by have h := hwh.out; rwa [List.take_of_length_le (by rw [HM.out]; exact Nat.le_refl _)] at h)
              go_wp2
              go_roundw
              case rel => exact ⟨k + 1, by omega, by go_num, Lib.hid (HYES.out HLA.out), by first | rfl | trivial⟩
              case measure => simp [intOf]; omega
        · have d3 : (m : Int) > 48 := by omega
          have HBAD := Lib.hid (HMQ.out (by unfold mayE; rw [HM.out, decide_eq_false h48, Bool.and_false, Bool.false_and]))
          clear HMQ HMY hop
          go_wp2
          go_ret
          exact ⟨by rw [HBAD.out]; rfl, rfl⟩
      · have g1 : o ≥ 0 := by omega
        have g2 : ¬ o ≤ 21 := by omega
        have g3 : o ≥ 3072 := by omega
        have g4 : ¬ o ≤ 3327 := by omega
        have HBAD := Lib.hid (HMQ.out (by unfold mayE; rw [show opB o = false by unfold opB; simp [inB]; omega]; rfl))
        clear HMQ
        go_wp2
        go_ret
        exact ⟨by rw [HBAD.out]; rfl, rfl⟩
    · obtain rfl : n = k := by omega
      have d1 : decide ((n : Int) < (n : Int)) = false := by simp
      have HT := Lib.hid (show Es.all mayQ = true by have h := hall.out; rwa [List.take_of_length_le (by rw [HN.out]; exact Nat.le_refl _)] at h)
      go_wp2
      go_ret
      exact ⟨by rw [HT.out]; rfl, rfl⟩
end Go.Proofs.YthoocoaalbeopaaDoor

namespace Go.Proofs.YthoocoaalbeopaaDoor
open Go Go.RowKit

theorem own_mono {w : World} {base : Nat} {e : TypeId} {size n : Nat} {v : Value} {xs : List Value} (h : w.ownsRow base e size v n xs) : w.ownsRow 0 e size v n xs :=
  ⟨h.1, h.2.imp id fun ⟨g, cap, cur, h1, _, h3⟩ => ⟨g, cap, cur, h1, Nat.zero_le _, h3⟩⟩

end Go.Proofs.YthoocoaalbeopaaDoor

namespace Go.Proofs.YthoocoaalbeopaaDoor
open Go Go.RowKit

theorem rbytes1_any (x : Int) (w : World) :
    Calls Tryd.prog 57 #[.int .i64 1, .int .i64 x] w fun e w' => e = .returned (.slice (some ⟨w.heap.size, 0, none⟩) 1 1) ∧ w' = w.alloc (.cells #[.int .u8 (x % 256)] 5) := by
  have hmk : ∀ w : World, (Instr.makeSlice 22 (.int .i64 1) (.int .i64 1)).run Tryd.prog w = .ok (.slice (some ⟨w.heap.size, 0, none⟩) 1 1) (w.alloc (.cells #[.int .u8 0] 5)) := fun w => by
    have h := run_make_row' (P := Tryd.prog) 22 5 (.int .u8 0) 1 Tryd.underlying22 u8Info rfl .i64 .i64 1 (by omega) (by omega) w
    rw [made_zeros] at h
    exact h
  go_enter Tryd.func57, Tryd.ntmps57
  go_wp2
  refine wp_loop_rounds 2 ?_
  rw [rounds_succ]
  go_wp2
  rw [rounds_succ]
  go_wp2
  go_ret
  exact ⟨rfl, rfl⟩
set_option maxRecDepth 100000 in
theorem rbytes2_any (x : Int) (w : World) :
    Calls Tryd.prog 57 #[.int .i64 2, .int .i64 x] w fun e w' => e = .returned (.slice (some ⟨w.heap.size, 0, none⟩) 2 2) ∧ w' = w.alloc (.cells #[.int .u8 (x / 256 % 256), .int .u8 (x % 256)] 5) := by
  have hmk : ∀ w : World, (Instr.makeSlice 22 (.int .i64 2) (.int .i64 2)).run Tryd.prog w = .ok (.slice (some ⟨w.heap.size, 0, none⟩) 2 2) (w.alloc (.cells #[.int .u8 0, .int .u8 0] 5)) := fun w => by
    have h := run_make_row' (P := Tryd.prog) 22 5 (.int .u8 0) 1 Tryd.underlying22 u8Info rfl .i64 .i64 2 (by omega) (by omega) w
    rw [made_zeros] at h
    exact h
  go_enter Tryd.func57, Tryd.ntmps57
  go_wp2
  refine wp_loop_rounds 3 ?_
  rw [rounds_succ]
  go_wp2
  rw [rounds_succ]
  go_wp2
  rw [rounds_succ]
  go_wp2
  go_ret
  exact ⟨rfl, rfl⟩
set_option maxRecDepth 100000 in
theorem rbytes4_any (x : Int) (w : World) :
    Calls Tryd.prog 57 #[.int .i64 4, .int .i64 x] w fun e w' => e = .returned (.slice (some ⟨w.heap.size, 0, none⟩) 4 4) ∧ w' = w.alloc (.cells #[.int .u8 (x / 16777216 % 256), .int .u8 (x / 65536 % 256), .int .u8 (x / 256 % 256), .int .u8 (x % 256)] 5) := by
  have hmk : ∀ w : World, (Instr.makeSlice 22 (.int .i64 4) (.int .i64 4)).run Tryd.prog w = .ok (.slice (some ⟨w.heap.size, 0, none⟩) 4 4) (w.alloc (.cells #[.int .u8 0, .int .u8 0, .int .u8 0, .int .u8 0] 5)) := fun w => by
    have h := run_make_row' (P := Tryd.prog) 22 5 (.int .u8 0) 1 Tryd.underlying22 u8Info rfl .i64 .i64 4 (by omega) (by omega) w
    rw [made_zeros] at h
    exact h
  go_enter Tryd.func57, Tryd.ntmps57
  go_wp2
  refine wp_loop_rounds 5 ?_
  rw [rounds_succ]
  go_wp2
  rw [rounds_succ]
  go_wp2
  rw [rounds_succ]
  go_wp2
  rw [rounds_succ]
  go_wp2
  rw [rounds_succ]
  go_wp2
  go_ret
  exact ⟨rfl, rfl⟩
end Go.Proofs.YthoocoaalbeopaaDoor

namespace Go.Proofs.YthoocoaalbeopaaDoor
open Go Go.RowKit

section
variable {P : Program} (w : World)

theorem run_append_src_wide (base : Nat) (t ty e : TypeId) (i : TypeInfo) (z : Value) (size bytes : Nat) (ht : P.underlying t = some (.slice e)) (hi : P.info? e = some i) (hz : i.zero = some z)
    (hsize : i.size = size) (hby : i.bytes = bytes) (hzs : z.cells.size = size) (hsz : 0 < size) (v : Value) (n : Nat) (xs : List Value) (hown : w.ownsRow base e size v n xs)
    (B : Nat) (A : Option Addr) (m c : Nat) (news : List Value) (hr : Lists w B A news) (hl : news.length = m * size) (h1 : ∀ u ∈ news, u.oneCell' = true)
    (h63 : n + m ≤ maxLen) (hbytes : ((n + m) + (n + m) / 4 + 192) * bytes ≤ 281474976710656) (hbase : base ≤ w.heap.size) :
    ∃ v' w', (Builtin.append_ #[t, t] ty #[v, .slice A m c]).run P w = .ok v' w' ∧ w'.ownsRow base e size v' (n + m) (xs ++ news) ∧ w.grownBy w' v.ownBlock := by
  cases A with
  | none =>
    have hn : news = [] := hr.nil rfl
    subst hn
    have hm : m = 0 := by
      have : m * size = 0 := by simpa using hl.symm
      rcases Nat.mul_eq_zero.1 this with h | h
      · exact h
      · omega
    subst hm
    refine ⟨v, w, ?_, by simpa using hown, World.grownBy.refl w _⟩
    rcases hown.2 with ⟨rfl, rfl⟩ | ⟨g, cap, cur, rfl, _, _, hc, _⟩
    · simp [Builtin.append_, run_underlying ht, sizeOf, typeInfo, hi, Builtin.lenOf, Builtin.firstCells]
    · simp [Builtin.append_, run_underlying ht, sizeOf, typeInfo, hi, Builtin.lenOf, Builtin.firstCells, hc, storeCells]
  | some ad =>
    obtain ⟨v', w', hrun, h2, h3, _⟩ := run_append_own_wide (P := P) w base t ty e i z size bytes ht hi hz hsize hby hzs hsz v n xs hown ad m c news hl (hr.cell ad rfl) h1 h63 hbytes hbase
    exact ⟨v', w', hrun, h2, h3⟩

theorem wp_append_src_wide {o : Oper} {a : Act} {K : Act → World → Prop} {Q : Exit → Act → World → Prop} (s x : Operand) (t : TypeId)
    (ho : o.op = .call { callee := .builtin .append, args := #[s, x], argTypes := #[t, t] })
    (base : Nat) (e : TypeId) (i : TypeInfo) (z : Value) (size bytes : Nat) (ht : P.underlying t = some (.slice e)) (hi : P.info? e = some i) (hz : i.zero = some z)
    (hsize : i.size = size) (hby : i.bytes = bytes) (hzs : z.cells.size = size) (hsz : 0 < size)
    (v : Value) (n : Nat) (xs : List Value) (hs : a.eval s = v) (hown : w.ownsRow base e size v n xs)
    (B : Nat) (A : Option Addr) (m c : Nat) (news : List Value) (hx : a.eval x = .slice A m c) (hr : Lists w B A news) (hl : news.length = m * size) (h1 : ∀ u ∈ news, u.oneCell' = true)
    (h63 : n + m ≤ maxLen) (hbytes : ((n + m) + (n + m) / 4 + 192) * bytes ≤ 281474976710656) (hbase : base ≤ w.heap.size)
    (h : ∀ v' w', w'.ownsRow base e size v' (n + m) (xs ++ news) → w.grownBy w' v.ownBlock → K (a.put o.dst v') w') : o.wp P a w K Q := by
  obtain ⟨v', w', hrun, h2, h3⟩ := run_append_src_wide (P := P) w base t o.type e i z size bytes ht hi hz hsize hby hzs hsz v n xs hown B A m c news hr hl h1 h63 hbytes hbase
  unfold Oper.wp execOp
  simp only [ho, resolve, invoke, builtin, Sem.run_bind, Sem.run_pure, Result.andThen_ok, List.map_toArray, List.map_cons, List.map_nil, hs, hx, hrun]
  exact h v' w' h2 h3

theorem wpList_append_src_wide {ops : Array Oper} {rest : List Oper} {o : Oper} {a : Act} {Q : Exit → Act → World → Prop} (hgd : o.guard = none) (s x : Operand) (t : TypeId)
    (ho : o.op = .call { callee := .builtin .append, args := #[s, x], argTypes := #[t, t] })
    (base : Nat) (e : TypeId) (i : TypeInfo) (z : Value) (size bytes : Nat) (ht : P.underlying t = some (.slice e)) (hi : P.info? e = some i) (hz : i.zero = some z)
    (hsize : i.size = size) (hby : i.bytes = bytes) (hzs : z.cells.size = size) (hsz : 0 < size)
    (v : Value) (n : Nat) (xs : List Value) (hs : a.eval s = v) (hown : w.ownsRow base e size v n xs)
    (B : Nat) (A : Option Addr) (m c : Nat) (news : List Value) (hx : a.eval x = .slice A m c) (hr : Lists w B A news) (hl : news.length = m * size) (h1 : ∀ u ∈ news, u.oneCell' = true)
    (h63 : n + m ≤ maxLen) (hbytes : ((n + m) + (n + m) / 4 + 192) * bytes ≤ 281474976710656) (hbase : base ≤ w.heap.size)
    (h : ∀ v' w', w'.ownsRow base e size v' (n + m) (xs ++ news) → w.grownBy w' v.ownBlock → wpList P ops Q rest (a.put o.dst v') w') : wpList P ops Q (o :: rest) a w :=
  wpList_plain hgd fun _ hK => wp_append_src_wide w s x t ho base e i z size bytes ht hi hz hsize hby hzs hsz v n xs hs hown B A m c news hx hr hl h1 h63 hbytes hbase fun v' w' h2 h3 => hK _ _ (h v' w' h2 h3)
end

end Go.Proofs.YthoocoaalbeopaaDoor
