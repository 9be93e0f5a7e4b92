/- Part 9 of the proof: DcE, DcV, DcW, Flat, DcX, DcGt. -/
import Derived.Deep.MidRow
import Derived.Laws.ResultCell
import Derived.Laws.Rows
import Derived.Laws.Tables
import Derived.Laws.CopyOwn
import Derived.Test.YthoocoaalbeopaaDoorCDc7

namespace Go.Proofs.YthoocoaalbeopaaDoor
open Go Go.RowKit
set_option linter.unusedVariables false
set_option linter.unusedSimpArgs false

theorem may_arg {o : Int} {L : List Int} (h : mayE o L = true) {x : Int} (hx : x ∈ L) : -2147483648 ≤ q16 x ∧ q16 x ≤ 2147483647 := by
  unfold mayE at h
  simp only [Bool.and_eq_true, List.all_eq_true] at h
  have := h.2 x hx
  unfold wholeB at this
  simp only [Bool.and_eq_true] at this
  exact inB_true this.2
theorem argsE_snoc {L : List Int} {j : Nat} {x : Int} (h : L[j]? = some x) : argsE (L.take (j + 1)) = argsE (L.take j) ++ numE (q16 x) := by
  unfold argsE
  rw [List.take_add_one, h, List.flatMap_append]
  simp

set_option maxRecDepth 100000 in
set_option maxHeartbeats 4000000 in
theorem dput_ok (A : Option Addr) (c n : Nat) (Es : List Ent) (w : World) (hE : EntAt w w.heap.size A Es) (hnn : Es.length = n) (hn : n ≤ 1000000) (hlen : ∀ q ∈ Es, q.2.length ≤ 1099511627776) (hmay : Es.all mayQ = true) :
    Calls Tryd.prog 14 #[.slice A n c] w (Gave w (putE Es)) := by
  have HE := Lib.hid hE
  have HN := Lib.hid hnn
  have HLEN := Lib.hid hlen
  have HALL := Lib.hid (show ∀ j, (Es.take j).all mayQ = true from fun j => List.all_eq_true.2 fun q hq => List.all_eq_true.1 hmay q (List.mem_of_mem_take hq))
  have hR := roomE_le Es hmay
  have hPL := putE_le Es
  obtain ⟨R, hRR⟩ : ∃ R, roomE Es = R := ⟨_, rfl⟩
  have HRT := Lib.hid (show ∀ j, roomE (Es.take j) ≤ R from fun j => by rw [← hRR]; exact roomE_take Es j)
  have HRR := Lib.hid hRR
  rw [hRR, hnn] at hR
  rw [hRR] at hPL
  have HPL := Lib.hid hPL
  clear hE hnn hlen hmay hRR hPL
  go_enter Tryd.func14, Tryd.ntmps14
  go_wp2
  go_loopw [4, 14] (fun rv iv wr => ∃ k : Nat, k ≤ n ∧ iv = .int .i64 (k : Nat) ∧ rv = .int .i64 (roomE (Es.take k) : Nat) ∧ Hid ((Es.take k).all mayQ = true) ∧ Below w.heap.size w wr) (fun _ iv _ => n - (intOf iv).toNat)
  case atStart => exact ⟨0, Nat.zero_le _, rfl, rfl, Lib.hid rfl, Below.refl _ _⟩
  case round =>
    obtain ⟨k, hk, rfl, rfl, hall, hb⟩ := hrel
    by_cases hlt : k < n
    · have d1 : decide ((k : Int) < (n : Int)) = true := by simp; omega
      obtain ⟨⟨o, L⟩, hq⟩ : ∃ q, Es[k]? = some q := ⟨Es[k]'(by rw [HN.out]; exact hlt), List.getElem?_eq_getElem _⟩
      obtain ⟨b, o0, Ai, ci, rfl, hbl, c0, c1, hci, hLi⟩ := HE.out.at' k _ hq
      simp only at c0 c1 hci hLi
      obtain ⟨m, hm⟩ : ∃ m, L.length = m := ⟨_, rfl⟩
      have hml : L.length ≤ 1099511627776 := HLEN.out _ (List.mem_of_getElem? hq)
      rw [hm] at c1 hci hml
      have g0 := Lib.hid (mid_ent ((hb.cell (p := ⟨b, o0 + k * 2, none⟩) hbl).trans c0) ((hb.cell (p := ⟨b, o0 + k * 2 + 1, none⟩) hbl).trans c1))
      have hr1 := roomE_le (Es.take k) hall.out
      rw [List.length_take] at hr1
      have HS := Lib.hid (show roomE (Es.take (k + 1)) = roomE (Es.take k) + (5 * m + 2) by rw [← hm]; exact roomE_snoc hq)
      obtain ⟨r, hr⟩ : ∃ r, mayE o L = r := ⟨_, rfl⟩
      have CM := fun W (hW : Below w.heap.size w W) => dmay_any o m w.heap.size Ai ci L W hW.size (hLi.below hW) hm (by omega) r hr
      have HA := Lib.hid (show (Es.take (k + 1)).all mayQ = r by rw [List.take_add_one, hq, List.all_append, hall.out]; simpa [mayQ] using hr)
      have hmr : r = true → m ≤ 48 := fun h => by rw [h] at hr; rw [← hm]; exact mayE_len hr
      generalize roomE (Es.take k) = rm at *
      have KP := Blk.new wr 42 #[.int .i64 o, .slice Ai m ci]
      have BA := hb.trans (((Below.refl wr.heap.size wr).alloc (Nat.le_refl _) (.cells #[.int .i64 o, .slice Ai m ci] 42)).mono hb.size)
      clear c0 c1 hci hLi hr hq hm
      cases r
      · exact absurd (HALL.out (k + 1)) (by rw [HA.out]; simp)
      · have hm48 := hmr rfl
        have e1 : IntKind.i64.wrap (5 * (m : Int)) = 5 * (m : Int) := IntWalk.i64_in _ (by omega)
        have e2 : IntKind.i64.wrap (5 * (m : Int) + 2) = 5 * (m : Int) + 2 := IntWalk.i64_in _ (by omega)
        have e3 : IntKind.i64.wrap ((rm : Int) + (5 * (m : Int) + 2)) = (rm : Int) + (5 * (m : Int) + 2) := IntWalk.i64_in _ (by omega)
        go_wp2_with (first | (refine wpList_load_mid rfl 42 _ (by with_reducible rfl) b (o0 + k * 2) (by rfl) #[.int .i64 o, .slice Ai m ci].toList _ g0.out Tryd.underlying42 rfl (by kernel_rfl) ?_) | (refine wpList_store_row rfl 42 (.tmp 6) (.tmp 17) (by with_reducible rfl) wr.heap.size #[.int .i64 o, .slice Ai m ci] (by rfl) (by rfl) 42 #[.int .i64 0, .slice none 0 0] (by exact Blk.new _ _ _) entSize rfl (by simp [Value.oneCell']) ?_; rw [World.setRow_alloc_new]) | (refine wpList_load_row rfl 42 (.tmp 6) (by with_reducible rfl) wr.heap.size (by rfl) 42 #[.int .i64 o, .slice Ai m ci] (0, 0) _ (by exact KP) Tryd.underlying42 rfl entSize ?_) | (go_at_call 30; ((with_reducible refine (CM _ BA).mono ?_); rintro e w1 ⟨rfl, b1⟩; have K1 := KP.below b1; have y0 := K1.cell 0; have y1 := K1.cell 1; have y2 := K1.lt; simp only [List.getElem?_toArray, List.getElem?_cons_zero, List.getElem?_cons_succ] at y0 y1)))
        go_roundw
        case rel => exact ⟨k + 1, by omega, by go_num, congrArg (Value.int .i64) (by rw [HS.out]; push_cast; omega), HA, BA.trans (b1.mono BA.size)⟩
        case measure => simp [intOf]; omega
    · obtain rfl : n = k := by omega
      have d1 : decide ((n : Int) < (n : Int)) = false := by simp
      have HT := Lib.hid (show Es.take n = Es by rw [← HN.out]; exact List.take_length)
      rw [HT.out, HRR.out]
      go_wp2_with (first | (go_at_call 31; ((with_reducible refine (wsTo w _ R hb).mono ?_); rintro e w4 ⟨p, rfl, h4, b4⟩)))
      have HW4 := Lib.hid h4
      clear h4 b4 hb hall
      go_loopw [33] (fun iv wr => ∃ k : Nat, k ≤ n ∧ iv = .int .i64 (k : Nat) ∧ WS w wr p R (putE (Es.take k))) (fun iv _ => n - (intOf iv).toNat)
      case atStart => exact ⟨0, Nat.zero_le _, rfl, HW4.out⟩
      case round =>
        obtain ⟨k, hk, rfl, hW⟩ := hrel
        clear HT HW4
        have hB := hW.old
        by_cases hlt : k < n
        · have d1 : decide ((k : Int) < (n : Int)) = true := by simp; omega
          obtain ⟨⟨o, L⟩, hq⟩ : ∃ q, Es[k]? = some q := ⟨Es[k]'(by rw [HN.out]; exact hlt), List.getElem?_eq_getElem _⟩
          obtain ⟨b, o0, Ai, ci, rfl, hbl, c0, c1, hci, hLi⟩ := HE.out.at' k _ hq
          simp only at c0 c1 hci hLi
          obtain ⟨m, hm⟩ : ∃ m, L.length = m := ⟨_, rfl⟩
          have hml : L.length ≤ 1099511627776 := HLEN.out _ (List.mem_of_getElem? hq)
          rw [hm] at c1 hci hml
          have g0 := Lib.hid (mid_ent ((hB.cell (p := ⟨b, o0 + k * 2, none⟩) hbl).trans c0) ((hB.cell (p := ⟨b, o0 + k * 2 + 1, none⟩) hbl).trans c1))
          have hmy : mayE o L = true := by
            have h1 := HALL.out (k + 1)
            rw [List.take_add_one, hq, List.all_append] at h1
            simp only [Option.toList_some, List.all_cons, List.all_nil, Bool.and_true, Bool.and_eq_true] at h1
            exact h1.2
          have HMY := Lib.hid (show ∀ x ∈ L, -2147483648 ≤ q16 x ∧ q16 x ≤ 2147483647 from fun x hx => may_arg hmy hx)
          have hs := roomE_snoc hq
          have hs2 := HRT.out (k + 1)
          rw [hs] at hs2
          simp only [hm] at hs2
          have hpl := putE_le (Es.take k)
          have HDL := Lib.hid (show (putE (Es.take k)).length + (5 * m + 2) ≤ R by omega)
          have HS := Lib.hid (show putE (Es.take (k + 1)) = putE (Es.take k) ++ (argsE L ++ opE o) from putE_snoc hq)
          generalize putE (Es.take k) = D at *
          have KP := Blk.new wr 42 #[.int .i64 o, .slice Ai m ci]
          have HM := Lib.hid hm
          have HLI := Lib.hid hLi
          have WA := hW.alloc (.cells #[.int .i64 o, .slice Ai m ci] 42)
          obtain ⟨xb, hxb⟩ : ∃ xb, wr.heap.size = xb := ⟨_, rfl⟩
          have y0 := KP.cell 0
          have y1 := KP.cell 1
          have y2 := KP.lt
          simp only [List.getElem?_toArray, List.getElem?_cons_zero, List.getElem?_cons_succ] at y0 y1
          clear c0 c1 hci hLi hq hm hmy hs hs2 hpl hxb
          go_wp2_with (first | (refine wpList_load_mid rfl 42 _ (by with_reducible rfl) b (o0 + k * 2) (by rfl) #[.int .i64 o, .slice Ai m ci].toList _ g0.out Tryd.underlying42 rfl (by kernel_rfl) ?_) | (refine wpList_store_row rfl 42 (.tmp 9) (.tmp 36) (by with_reducible rfl) wr.heap.size #[.int .i64 o, .slice Ai m ci] (by rfl) (by rfl) 42 #[.int .i64 0, .slice none 0 0] (by exact Blk.new _ _ _) entSize rfl (by simp [Value.oneCell']) ?_; rw [World.setRow_alloc_new]))
          go_loopw [40] (fun jv wx => ∃ j : Nat, j ≤ m ∧ jv = .int .i64 (j : Nat) ∧ WS w wx p R (D ++ argsE (L.take j)) ∧ Blk wx wr.heap.size 42 #[.int .i64 o, .slice Ai m ci]) (fun jv _ => m - (intOf jv).toNat)
          case atStart => exact ⟨0, Nat.zero_le _, rfl, by rw [show argsE (L.take 0) = [] from rfl, List.append_nil]; exact WA, KP⟩
          case round =>
            obtain ⟨j, hj, rfl, hX, KX⟩ := hrel
            clear WA y0 y1 y2 KP
            have hBX := hX.old
            by_cases hjt : j < m
            · have d2 : decide ((j : Int) < (m : Int)) = true := by simp; omega
              obtain ⟨x, hx⟩ : ∃ x, L[j]? = some x := ⟨L[j]'(by rw [HM.out]; exact hjt), List.getElem?_eq_getElem _⟩
              obtain ⟨b2, o2, rfl, hbl2, hcl2⟩ := HLI.out.plain (by intro e; have h2 := congrArg List.length e; rw [List.length_map, HM.out] at h2; simp at h2; omega)
              have gx := (hBX.cell (p := ⟨b2, o2 + j, none⟩) hbl2).trans (hcl2 j (.int .i64 x) (by rw [List.getElem?_map, hx]; rfl))
              have hxr := HMY.out x (List.mem_of_getElem? hx)
              have p2 : wrap64 (x.tdiv 65536) = q16 x := rfl
              have HAS := Lib.hid (show argsE (L.take (j + 1)) = argsE (L.take j) ++ numE (q16 x) from argsE_snoc hx)
              have HAL := Lib.hid (show (D ++ argsE (L.take j)).length + 5 ≤ R by
                have h1 := argsE_len (L.take j)
                have h2 := HDL.out
                rw [List.length_take] at h1
                rw [List.length_append]
                omega)
              generalize argsE (L.take j) = aj at *
              generalize q16 x = y at *
              have hb2 := Nat.lt_of_lt_of_le hbl2 hBX.size
              clear hcl2 hx
              go_wp2_with (first | (go_at_call 32; ((with_reducible refine (dnum_any w _ p R _ y hX HAL.out (by omega) hxr.1 hxr.2).mono ?_); rintro e w5 ⟨rfl, h5, s5, z5⟩)))
              go_roundw
              case rel => exact ⟨j + 1, by omega, by go_num, by rw [HAS.out, ← List.append_assoc]; exact h5, s5 _ _ _ (by decide) (by decide) (by decide) KX⟩
              case measure => simp [intOf]; omega
            · obtain rfl : j = m := by omega
              have d2 : decide ((j : Int) < (j : Int)) = false := by simp
              have HAL := Lib.hid (show (D ++ argsE L).length + 2 ≤ R by
                have h1 := argsE_len L
                have h2 := HDL.out
                rw [HM.out] at h1
                rw [List.length_append]
                omega)
              rw [show L.take j = L from List.take_of_length_le (by rw [HM.out]; exact Nat.le_refl _)] at hX
              generalize argsE L = aj at *
              have x0 := KX.cell 0
              have x2 := KX.lt
              simp only [List.getElem?_toArray, List.getElem?_cons_zero] at x0
              by_cases ho : 3072 ≤ o
              · have HO := Lib.hid (show opE o = be1 12 ++ be1 o by unfold opE; rw [if_pos ho])
                have d3 : decide (o ≥ 3072) = true := by simpa using ho
                go_wp2_with (first | (go_at_call 33; ((with_reducible refine (wsU8 w _ p R _ 12 hX (by have := HAL.out; omega) (by omega)).mono ?_); rintro e w5 ⟨rfl, h5, s5, z5⟩; have K5 := s5 _ _ _ (by decide) (by decide) (by decide) KX; have y5 := K5.cell 0; have y6 := K5.lt; simp only [List.getElem?_toArray, List.getElem?_cons_zero] at y5)) | (go_at_call 33; ((with_reducible refine (wsU8 w _ p R _ o h5 (by have := HAL.out; rw [List.length_append]; simp [be1] at *; omega) (by omega)).mono ?_); rintro e w6 ⟨rfl, h6, s6, z6⟩)))
                go_roundw
                case rel => exact ⟨k + 1, by omega, by go_num, by rw [HS.out, HO.out, ← List.append_assoc, ← List.append_assoc]; exact h6⟩
                case measure => simp [intOf]; omega
              · have HO := Lib.hid (show opE o = be1 o by unfold opE; rw [if_neg ho])
                have d3 : decide (o ≥ 3072) = false := by simpa using ho
                go_wp2_with (first | (go_at_call 33; ((with_reducible refine (wsU8 w _ p R _ o hX (by have := HAL.out; omega) (by omega)).mono ?_); rintro e w6 ⟨rfl, h6, s6, z6⟩)))
                go_roundw
                case rel => exact ⟨k + 1, by omega, by go_num, by rw [HS.out, HO.out, ← List.append_assoc]; exact h6⟩
                case measure => simp [intOf]; omega
        · obtain rfl : k = n := by omega
          have d1 : decide ((k : Int) < (k : Int)) = false := by simp
          rw [show Es.take k = Es from List.take_of_length_le (by rw [HN.out]; exact Nat.le_refl _)] at hW
          have CD := wsDone w wr p R _ hW (by omega)
          have HPE := Lib.hid (rfl : putE Es = putE Es)
          generalize putE Es = PE at *
          go_wp2_with (first | (go_at_call 34; ((with_reducible refine (CD).mono ?_); rintro e w8 ⟨A8, c8, rfl, own8, b8⟩)))
          exact bodyPost_ret (v := .tuple #[.slice A8 _ c8, .int .i64 0]) (by simp [results, Tryd.results14, go_sem]) rfl ⟨A8, c8, rfl, own8, b8⟩
end Go.Proofs.YthoocoaalbeopaaDoor

namespace Go.Proofs.YthoocoaalbeopaaDoor
open Go Go.RowKit
set_option linter.unusedVariables false
set_option linter.unusedSimpArgs false

theorem ownE_low2 {w : World} {base : Nat} {e : TypeId} {size n : Nat} {v : Value} {xs : List Value} (h : w.ownsRow base e size v n xs) : ∀ b ∈ blk v, base ≤ b := by
  intro b hm
  rcases h.2 with ⟨rfl, _⟩ | ⟨g, cap, cur, rfl, h2, _⟩
  · simp [blk, Value.ownBlock] at hm
  · have : b = g := by simpa [blk, Value.ownBlock] using hm
    omega
theorem ownE_stay {w w1 : World} {base : Nat} {e : TypeId} {size n : Nat} {v : Value} {xs : List Value} (h : w.ownsRow base e size v n xs) (b : Below w.heap.size w w1) : w1.ownsRow base e size v n xs :=
  own_only h (Only.of_below b []) fun _ _ h => (nomatch h)
theorem ownE_slice {w : World} {base : Nat} {e : TypeId} {size n : Nat} {v : Value} {xs : List Value} (h : w.ownsRow base e size v n xs) : v.oneCell' = true := by
  obtain ⟨A, c, rfl, _⟩ := own_lists h
  rfl

theorem ownE_mono {w : World} {base base1 : Nat} {e : TypeId} {size n : Nat} {v : Value} {xs : List Value} (h : w.ownsRow base e size v n xs) (hb : base1 ≤ base) : w.ownsRow base1 e size v n xs := by
  refine ⟨h.1, ?_⟩
  rcases h.2 with h1 | ⟨g, cap, cur, h1, h2, h3⟩
  · exact .inl h1
  · exact .inr ⟨g, cap, cur, h1, Nat.le_trans hb h2, h3⟩
/-- The cells of a list of entries whose operands lie in these rows. -/
def entC : List Ent → List Value → List Value
  | q :: Es, r :: rs => .int .i64 q.1 :: r :: entC Es rs
  | _, _ => []
theorem entC_len : ∀ (Es : List Ent) (rs : List Value), rs.length = Es.length → (entC Es rs).length = Es.length * 2
  | [], [], _ => rfl
  | q :: Es, r :: rs, h => by
    simp only [entC, List.length_cons]
    rw [entC_len Es rs (by simpa using h)]
    omega
theorem entC_snoc : ∀ (Es : List Ent) (rs : List Value) (q : Ent) (r : Value), rs.length = Es.length → entC (Es ++ [q]) (rs ++ [r]) = entC Es rs ++ [.int .i64 q.1, r]
  | [], [], _, _, _ => rfl
  | p :: Es, s :: rs, q, r, h => by
    simp only [List.cons_append, entC]
    rw [entC_snoc Es rs q r (by simpa using h)]
theorem entC_at : ∀ (Es : List Ent) (rs : List Value) (i : Nat) (q : Ent) (r : Value), Es[i]? = some q → rs[i]? = some r → (entC Es rs)[i * 2]? = some (.int .i64 q.1) ∧ (entC Es rs)[i * 2 + 1]? = some r
  | [], _, i, q, r, h, _ => by simp at h
  | _ :: _, [], i, q, r, _, h => by simp at h
  | p :: Es, s :: rs, 0, q, r, h1, h2 => by
    simp only [List.getElem?_cons_zero, Option.some.injEq] at h1 h2
    subst h1 h2
    exact ⟨rfl, rfl⟩
  | p :: Es, s :: rs, i + 1, q, r, h1, h2 => by
    have := entC_at Es rs i q r (by simpa using h1) (by simpa using h2)
    rw [show (i + 1) * 2 = i * 2 + 1 + 1 by omega]
    exact this
def InnerE (w : World) (base : Nat) (Es : List Ent) (rs : List Value) : Prop :=
  (∀ (i : Nat) (q : Ent), Es[i]? = some q → ∃ r, rs[i]? = some r ∧ w.ownsRow base 3 1 r q.2.length (q.2.map (Value.int .i64))) ∧
  ∀ (i j : Nat) (r s : Value), i ≠ j → rs[i]? = some r → rs[j]? = some s → ∀ b ∈ blk r, b ∉ blk s
/-- Entries that the call owns: the list, and each entry's operands in memory of their own. -/
def Own2E (w : World) (base : Nat) (v : Value) (Es : List Ent) : Prop :=
  ∃ rs : List Value, rs.length = Es.length ∧ w.ownsRow base 42 2 v Es.length (entC Es rs) ∧ InnerE w base Es rs
theorem Own2E.nil (w : World) (base : Nat) : Own2E w base (.slice none 0 0) [] := ⟨[], rfl, World.ownsRow_nil _ _ _ _, fun i L h => by simp at h, fun i j r s _ h => by simp at h⟩
theorem InnerE.below {w w1 : World} {base : Nat} {Es : List Ent} {rs : List Value} (h : InnerE w base Es rs) (b : Below w.heap.size w w1) : InnerE w1 base Es rs :=
  ⟨fun i L hL => by
    obtain ⟨r, h1, h2⟩ := h.1 i L hL
    exact ⟨r, h1, ownE_stay h2 b⟩, h.2⟩
theorem Own2E.below {w w1 : World} {base : Nat} {v : Value} {Es : List Ent} (h : Own2E w base v Es) (b : Below w.heap.size w w1) : Own2E w1 base v Es := by
  obtain ⟨rs, h0, h1, h2⟩ := h
  exact ⟨rs, h0, ownE_stay h1 b, h2.below b⟩
theorem Own2E.mono {w : World} {base base1 : Nat} {v : Value} {Es : List Ent} (h : Own2E w base v Es) (hb : base1 ≤ base) : Own2E w base1 v Es := by
  obtain ⟨rs, h0, h1, h2, h3⟩ := h
  refine ⟨rs, h0, ownE_mono h1 hb, fun i L hL => ?_, h3⟩
  obtain ⟨r, h4, h5⟩ := h2 i L hL
  exact ⟨r, h4, ownE_mono h5 hb⟩
theorem own2E_push {w w1 W w2 : World} {base : Nat} {v v2 r : Value} {Es : List Ent} {q : Ent} {rs : List Value} (hb : base ≤ w.heap.size) (hlen : rs.length = Es.length) (ho : w.ownsRow base 42 2 v Es.length (entC Es rs)) (hi : InnerE w base Es rs)
    (b1 : Below w.heap.size w w1) (hr : w1.ownsRow w.heap.size 3 1 r q.2.length (q.2.map (Value.int .i64))) (b2 : Below w1.heap.size w1 W) (own2 : w2.ownsRow base 42 2 v2 (Es.length + 1) (entC Es rs ++ [.int .i64 q.1, r])) (hg : W.grownBy w2 v.ownBlock) : Own2E w2 base v2 (Es ++ [q]) := by
  have o2 : Only W w2 (blk v) := (Only.refl _ _).grown hg (fun b hb => .inl (by simp [blk, hb]))
  have hoW := ownE_stay (ownE_stay ho b1) b2
  have stay : ∀ {x : Value} {m : Nat} {cs : List Value}, W.ownsRow base 3 1 x m cs → w2.ownsRow base 3 1 x m cs := fun hq => own_only hq o2 (fun b h1 h2 => own_own hq hoW (by decide) b h1 h2)
  refine ⟨rs ++ [r], by simp [hlen], by rw [entC_snoc _ _ _ _ hlen]; simpa using own2, fun i M hM => ?_, fun i j p s hne hp hs b hbp hbs => ?_⟩
  · rcases Nat.lt_or_ge i Es.length with h | h
    · rw [List.getElem?_append_left h] at hM
      obtain ⟨x, h1, h2⟩ := hi.1 i M hM
      exact ⟨x, by rw [List.getElem?_append_left (by omega)]; exact h1, stay (ownE_stay (ownE_stay h2 b1) b2)⟩
    · have h0 : i = Es.length := by
        have := (List.getElem?_eq_some_iff.1 hM).1
        simp at this; omega
      subst h0
      simp at hM
      subst hM
      refine ⟨r, by rw [← hlen]; simp, stay (ownE_mono (ownE_stay hr b2) hb)⟩
  · have hlast : ∀ (k : Nat) (x : Value), (rs ++ [r])[k]? = some x → (k < rs.length ∧ rs[k]? = some x) ∨ (k = rs.length ∧ x = r) := fun k x hx => by
      rcases Nat.lt_or_ge k rs.length with h | h
      · rw [List.getElem?_append_left h] at hx
        exact .inl ⟨h, hx⟩
      · have h0 : k = rs.length := by
          have := (List.getElem?_eq_some_iff.1 hx).1
          simp at this; omega
        subst h0
        simp at hx
        exact .inr ⟨rfl, hx.symm⟩
    have old : ∀ (k : Nat) (x : Value), k < rs.length → rs[k]? = some x → ∀ b ∈ blk x, b < w.heap.size := fun k x hk hx b hm => by
      have hk2 : k < Es.length := by omega
      obtain ⟨y, h1, h2⟩ := hi.1 k _ (List.getElem?_eq_getElem hk2)
      rw [hx] at h1; cases h1
      exact blk_lt h2 b hm
    have new : ∀ b ∈ blk r, w.heap.size ≤ b := ownE_low2 hr
    rcases hlast i p hp with ⟨h1, h2⟩ | ⟨h1, rfl⟩
    · rcases hlast j s hs with ⟨h3, h4⟩ | ⟨h3, rfl⟩
      · exact hi.2 i j p s hne h2 h4 b hbp hbs
      · have := old i p h1 h2 b hbp
        have := new b hbs
        omega
    · rcases hlast j s hs with ⟨h3, h4⟩ | ⟨h3, rfl⟩
      · have := old j s h3 h4 b hbs
        have := new b hbp
        omega
      · omega
theorem Own2E.out {w : World} {base : Nat} {v : Value} {Es : List Ent} (h : Own2E w base v Es) : ∃ A c, v = .slice A Es.length c ∧ Es.length ≤ c ∧ EntAt w w.heap.size A Es := by
  obtain ⟨rs, h0, h1, h2, _⟩ := h
  obtain ⟨A, c, rfl, hl, hc⟩ := own_lists h1
  refine ⟨A, c, rfl, hc, ⟨fun i q hq => ?_⟩⟩
  obtain ⟨r, hr, hro⟩ := h2 i q hq
  obtain ⟨Ai, ci, rfl, hli, hci⟩ := own_lists hro
  obtain ⟨e1, e2⟩ := entC_at Es rs i q _ hq hr
  obtain ⟨b, o, rfl, hb, hcell⟩ := hl.plain (by intro e; rw [e] at e1; simp at e1)
  exact ⟨b, o, Ai, ci, rfl, hb, hcell _ _ e1, by rw [Nat.add_assoc]; exact hcell _ _ e2, hci, hli⟩

end Go.Proofs.YthoocoaalbeopaaDoor

namespace Go.Proofs.YthoocoaalbeopaaDoor
open Go Go.RowKit
set_option linter.unusedVariables false
set_option linter.unusedSimpArgs false
variable {q : Nat → Prop}

/-- What readOperand says of that first byte and those behind it, wherever they lie. -/
def Opd (f : Int) (T : List Value) (x : Int) : Prop := 22 ≤ f ∧ f ≤ 255 ∧ Bytes8 T ∧ ∀ (q : Nat → Prop) (p k : Nat) (bs tl : List Value) (w : World), RS q w p bs k → bs.length ≤ 4611686018427387904 → bs.drop k = T ++ tl → GD w → p ≠ 0 → p < w.heap.size → (∀ b, q b → b < w.heap.size) →
  Calls Tryd.prog 25 #[.pointer (some ⟨p, 0, none⟩), .int .i64 f] w (DNum q w p bs (k + T.length) x)
theorem numT_bytes (x : Int) : Bytes8 (numT x) := fun v hv => numE_bytes x v (by rw [numE_eq]; simp [hv])
theorem opd_num (x : Int) (hx1 : -2147483648 ≤ x) (hx2 : x ≤ 2147483647) : Opd (numH x) (numT x) (x * 65536) := by
  have h := numH_in x
  exact ⟨by omega, by omega, numT_bytes x, fun q p k bs tl w h1 h2 h3 _ _ _ _ => dro_any p k bs tl x w h1 h2 h3 hx1 hx2⟩
inductive It where
  | arg (f : Int) (T : List Value) (x : Int)
  | op (o : Int)
def It.bytes : It → List Value
  | .arg f T _ => .int .u8 f :: T
  | .op o => opE o
def bytesI (L : List It) : List Value := L.flatMap It.bytes
def okI : List It → List Int → Prop
  | [], _ => True
  | .arg f T x :: L, cur => Opd f T x ∧ cur.length < 48 ∧ okI L (cur ++ [x])
  | .op o :: L, _ => opB o = true ∧ okI L []
def runI : List It → List Ent → List Int → List Ent × List Int
  | [], Es, cur => (Es, cur)
  | .arg _ _ x :: L, Es, cur => runI L Es (cur ++ [x])
  | .op o :: L, Es, cur => runI L (Es ++ [(o, cur)]) []

structure PSt (base : Nat) (W : World) (lv av : Value) (Es : List Ent) (cur : List Int) (rs : List Value) : Prop where
  len : rs.length = Es.length
  list : W.ownsRow base 42 2 lv Es.length (entC Es rs)
  inner : InnerE W base Es rs
  args : W.ownsRow base 3 1 av cur.length (cur.map (Value.int .i64))
  sep : ∀ (i : Nat) (r : Value), rs[i]? = some r → ∀ b ∈ blk r, b ∉ blk av
theorem PSt.start (base : Nat) (W : World) : PSt base W (.slice none 0 0) (.slice none 0 0) [] [] [] :=
  ⟨rfl, World.ownsRow_nil _ _ _ _, ⟨fun i L h => by simp at h, fun i j r s _ h => by simp at h⟩, World.ownsRow_nil _ _ _ _, fun i r h => by simp at h⟩
theorem PSt.low {base : Nat} {W : World} {lv av : Value} {Es : List Ent} {cur : List Int} {rs : List Value} (h : PSt base W lv av Es cur rs) {i : Nat} {r : Value} (hr : rs[i]? = some r) : (∀ b ∈ blk r, base ≤ b) ∧ (∀ b ∈ blk r, b < W.heap.size) ∧ (∀ b ∈ blk r, b ∉ blk lv) := by
  have hi : i < Es.length := by rw [← h.len]; exact (List.getElem?_eq_some_iff.1 hr).1
  obtain ⟨y, h1, h2⟩ := h.inner.1 i _ (List.getElem?_eq_getElem hi)
  rw [hr] at h1; cases h1
  exact ⟨ownE_low2 h2, blk_lt h2, own_own h2 h.list (by decide)⟩
theorem PSt.only {base : Nat} {W W1 : World} {lv av : Value} {Es : List Ent} {cur : List Int} {rs : List Value} {fp : List Nat} (h : PSt base W lv av Es cur rs) (o : Only W W1 fp) (hf : ∀ b ∈ fp, b < base) : PSt base W1 lv av Es cur rs where
  len := h.len
  list := own_only h.list o fun b hb hm => by have := ownE_low2 h.list b hb; have := hf b hm; omega
  inner := ⟨fun i q hq => by
    obtain ⟨r, h1, h2⟩ := h.inner.1 i q hq
    exact ⟨r, h1, own_only h2 o fun b hb hm => by have := ownE_low2 h2 b hb; have := hf b hm; omega⟩, h.inner.2⟩
  args := own_only h.args o fun b hb hm => by have := ownE_low2 h.args b hb; have := hf b hm; omega
  sep := h.sep
theorem PSt.below {base : Nat} {W W1 : World} {lv av : Value} {Es : List Ent} {cur : List Int} {rs : List Value} (h : PSt base W lv av Es cur rs) (b : Below W.heap.size W W1) : PSt base W1 lv av Es cur rs :=
  h.only (Only.of_below b []) fun _ hb => (nomatch hb)
theorem PSt.push_arg {base : Nat} {W w2 : World} {lv av av2 : Value} {Es : List Ent} {cur : List Int} {rs : List Value} {x : Int} (h : PSt base W lv av Es cur rs) (hbase : base ≤ W.heap.size)
    (own : w2.ownsRow base 3 1 av2 (cur.length + 1) (cur.map (Value.int .i64) ++ [.int .i64 x])) (hg : W.grownBy w2 av.ownBlock) (hat : av2.ownBlock = av.ownBlock ∨ av2.ownBlock = some W.heap.size) : PSt base w2 lv av2 Es (cur ++ [x]) rs ∧ Only W w2 (blk av) := by
  have o2 : Only W w2 (blk av) := (Only.refl _ _).grown hg (fun b hb => .inl (by simp [blk, hb]))
  refine ⟨⟨h.len, own_only h.list o2 fun b hb => own_own h.list h.args (by decide) b hb, ⟨fun i q hq => ?_, h.inner.2⟩, ?_, fun i r hr b hb hm => ?_⟩, o2⟩
  · obtain ⟨r, h1, h2⟩ := h.inner.1 i q hq
    exact ⟨r, h1, own_only h2 o2 fun b hb => h.sep i r h1 b hb⟩
  · rw [List.length_append, List.map_append]; exact own
  · rcases hat with he | he
    · exact h.sep i r hr b hb (by unfold blk at hm ⊢; rw [← he]; exact hm)
    · have := (h.low hr).2.1 b hb
      unfold blk at hm; rw [he] at hm
      simp at hm; omega
theorem PSt.push_ent {base : Nat} {W w2 : World} {lv lv2 av : Value} {Es : List Ent} {cur : List Int} {rs : List Value} {o : Int} (h : PSt base W lv av Es cur rs)
    (own : w2.ownsRow base 42 2 lv2 (Es.length + 1) (entC Es rs ++ [.int .i64 o, av])) (hg : W.grownBy w2 lv.ownBlock) : PSt base w2 lv2 (.slice none 0 0) (Es ++ [(o, cur)]) [] (rs ++ [av]) ∧ Only W w2 (blk lv) := by
  have o2 : Only W w2 (blk lv) := (Only.refl _ _).grown hg (fun b hb => .inl (by simp [blk, hb]))
  have hlast : ∀ (k : Nat) (x : Value), (rs ++ [av])[k]? = some x → (k < rs.length ∧ rs[k]? = some x) ∨ (k = rs.length ∧ x = av) := fun k x hx => by
    rcases Nat.lt_or_ge k rs.length with h | h
    · rw [List.getElem?_append_left h] at hx
      exact .inl ⟨h, hx⟩
    · have h0 : k = rs.length := by
        have := (List.getElem?_eq_some_iff.1 hx).1
        simp at this; omega
      subst h0
      simp at hx
      exact .inr ⟨rfl, hx.symm⟩
  refine ⟨⟨by simp [h.len], by rw [entC_snoc _ _ _ _ h.len]; simpa using own, ⟨fun i q hq => ?_, fun i j r s hne hr hs b hb hm => ?_⟩, World.ownsRow_nil _ _ _ _, fun i r hr b hb hm => by simp [blk, Value.ownBlock] at hm⟩, o2⟩
  · rcases Nat.lt_or_ge i Es.length with hi | hi
    · rw [List.getElem?_append_left hi] at hq
      obtain ⟨r, h1, h2⟩ := h.inner.1 i q hq
      exact ⟨r, by rw [List.getElem?_append_left (by rw [h.len]; exact hi)]; exact h1, own_only h2 o2 fun b hb => (h.low h1).2.2 b hb⟩
    · have h0 : i = Es.length := by
        have := (List.getElem?_eq_some_iff.1 hq).1
        simp at this; omega
      subst h0
      simp at hq
      subst hq
      exact ⟨av, by rw [← h.len]; simp, own_only h.args o2 fun b hb => own_own h.args h.list (by decide) b hb⟩
  · rcases hlast i r hr with ⟨h1, h2⟩ | ⟨h1, rfl⟩
    · rcases hlast j s hs with ⟨h3, h4⟩ | ⟨h3, rfl⟩
      · exact h.inner.2 i j r s hne h2 h4 b hb hm
      · exact h.sep i r h2 b hb hm
    · rcases hlast j s hs with ⟨h3, h4⟩ | ⟨h3, rfl⟩
      · exact h.sep j s h4 b hm hb
      · omega
theorem PSt.out {base : Nat} {W : World} {lv av : Value} {Es : List Ent} {cur : List Int} {rs : List Value} (h : PSt base W lv av Es cur rs) : Own2E W base lv Es := ⟨rs, h.len, h.list, h.inner⟩
theorem ddone_any (p : Nat) (bs : List Value) (k : Nat) (w : World) (h : RS q w p bs k) (hk : k ≤ bs.length) :
    Calls Tryd.prog 26 #[.pointer (some ⟨p, 0, none⟩)] w fun e w' => e = .returned (.int .i64 0) ∧ w = w' := by
  rcases h with ⟨_, A, c, hb, _⟩ | ⟨h1, _⟩
  · exact rdone_low p bs.length c k A false w hb
  · omega
end Go.Proofs.YthoocoaalbeopaaDoor

namespace Go.Proofs.YthoocoaalbeopaaDoor
open Go Go.RowKit
set_option linter.unusedVariables false
set_option linter.unusedSimpArgs false

theorem flat_at {α : Type} {f : α → List Value} {sz : Nat} (hf : ∀ x, (f x).length = sz) : ∀ (L : List α) (k : Nat) (x : α), L[k]? = some x → ∀ j v, (f x)[j]? = some v → (L.flatMap f)[k * sz + j]? = some v
  | [], k, x, h, j, v, hv => by simp at h
  | y :: L, 0, x, h, j, v, hv => by
    obtain rfl : y = x := by simpa using h
    have hj := (List.getElem?_eq_some_iff.1 hv).1
    rw [List.flatMap_cons, Nat.zero_mul, Nat.zero_add, List.getElem?_append_left hj]
    exact hv
  | y :: L, k + 1, x, h, j, v, hv => by
    have := flat_at hf L k x (by simpa using h) j v hv
    rw [List.flatMap_cons, List.getElem?_append_right (by rw [hf, Nat.add_mul]; omega), hf, show (k + 1) * sz + j - sz = k * sz + j by rw [Nat.add_mul]; omega]
    exact this
theorem flat_len {α : Type} {f : α → List Value} {sz : Nat} (hf : ∀ x, (f x).length = sz) : ∀ L : List α, (L.flatMap f).length = L.length * sz
  | [] => by simp
  | x :: L => by rw [List.flatMap_cons, List.length_append, hf, flat_len hf L, List.length_cons, Nat.add_mul, Nat.one_mul, Nat.add_comm]
theorem lists_flat {α : Type} {f : α → List Value} {sz : Nat} (hf : ∀ x, (f x).length = sz) (hs : 0 < sz) {w : World} {B : Nat} {A : Option Addr} {L : List α} (h : Lists w B A (L.flatMap f)) {k : Nat} {x : α} (hk : L[k]? = some x) :
    ∃ b o, A = some ⟨b, o, none⟩ ∧ b < B ∧ w.rangeAt b (o + k * sz) (f x) := by
  have h0 : (f x)[0]? = some ((f x)[0]'(by rw [hf]; exact hs)) := List.getElem?_eq_getElem _
  have h1 := flat_at hf L k x hk 0 _ h0
  obtain ⟨b, o, rfl, hb, hc⟩ := h.plain (by intro e; rw [e] at h1; simp at h1)
  exact ⟨b, o, rfl, hb, fun j v hv => by rw [Nat.add_assoc]; exact hc _ _ (flat_at hf L k x hk j v hv)⟩
theorem flat_snoc {α : Type} (f : α → List Value) (L : List α) (x : α) : (L ++ [x]).flatMap f = L.flatMap f ++ f x := by simp
theorem range_below {w w1 : World} {B b o : Nat} {cs : List Value} (h : w.rangeAt b o cs) (hb : b < B) (k : Below B w w1) : w1.rangeAt b o cs := fun j v hv => (k.cell (p := ⟨b, o + j, none⟩) hb).trans (h j v hv)
theorem range_blk {w : World} {p : Nat} {T : TypeId} {cs : List Value} (h : Blk w p T cs.toArray) : w.rangeAt p 0 cs := fun j v hv => by rw [Nat.zero_add, h.cell j, List.getElem?_toArray]; exact hv
theorem blk_row {w : World} {p : Nat} {T : TypeId} {cs : Array Value} (h : Blk w p T cs) (cs1 : Array Value) : Blk (w.setRow p cs1) p T cs1 := setRow_heap w p cs cs1 T (0, 0) h
theorem exec_store_row {P : Program} {ρ : Operand → Value} {o : Oper} {w : World} (ty : TypeId) (x y : Operand) (ho : o.op = .store ty x y)
    (g : Nat) (cells : Array Value) (hx : ρ x = .pointer (some ⟨g, 0, none⟩)) (hy : ρ y = .agg cells)
    (t : TypeId) (old : Array Value) (hg : Blk w g t old) (hi : (P.info? ty).map (·.size) = some cells.size)
    (hold : old.size = cells.size) (h1 : cells.all (·.oneCell') = true) : (execOp ρ o).run P w = .ok .skip (w.setRow g cells) := by
  unfold execOp
  simp only [ho, hx, hy, Instr.storeAt, Instr.sureAddr, Sem.run_bind, Sem.run_pure, Result.andThen_ok, run_storeVar_row w g t ty old cells hg hi hold h1]
theorem exec_load {P : Program} {ρ : Operand → Value} {o : Oper} {w : World} {ty : TypeId} {x : Operand} {p v : Value} (h : (Instr.loadAt ty p).run P w = .ok v w) (ho : o.op = .load ty x) (hx : ρ x = p) : (execOp ρ o).run P w = .ok (.value v) w := by
  unfold execOp
  simp only [ho, hx, Sem.run_bind, h, Result.andThen_ok, Sem.run_pure]
theorem load_blk {P : Program} {w : World} {p : Nat} {T ty : TypeId} {cs : Array Value} {d : TypeDesc} (h : Blk w p T cs) (hu : P.underlying ty = some d) (hd : d.isRow = true) (hi : (P.info? ty).map (·.size) = some cs.size) : (Instr.loadAt ty (.pointer (some ⟨p, 0, none⟩))).run P w = .ok (.agg cs) w := by
  have h1 : w.rangeAt p 0 cs.toList := fun j v hv => by rw [Nat.zero_add, h.cell j]; simpa using hv
  have := run_loadAt_mid (P := P) w p 0 ty cs.toList d h1 hu hd (by simpa using hi)
  simpa using this
theorem only_row {w a : World} {fp : List Nat} (h : Only w a fp) {g : Nat} (hg : g ∈ fp ∨ w.heap.size ≤ g) (cs : Array Value) : Only w (a.setRow g cs) fp :=
  ⟨h.os, h.tape, h.output, by rw [size_setRow]; exact h.size, fun b hb hf => (setRow_other a g b cs (fun e => by subst e; rcases hg with hg | hg; exact hf hg; omega)).trans (h.block b hb hf)⟩
theorem lists_takeF {w : World} {B : Nat} {A : Option Addr} {xs : List Value} (h : Lists w B A xs) (k : Nat) : Lists w B A (xs.take k) :=
  ⟨fun ha => by rw [h.nil ha]; simp, fun a ha j u hu => h.cell a ha j u (by
    rw [List.getElem?_take] at hu
    split at hu
    · exact hu
    · cases hu), fun a ha hx => h.lt a ha (fun e => hx (by rw [e]; simp))⟩
theorem lists_row (w : World) (cs : List Value) (T : TypeId) : Lists (w.alloc (.cells cs.toArray T)) (w.heap.size + 1) (some ⟨w.heap.size, 0, none⟩) cs :=
  ⟨fun ha => (nomatch ha), fun a ha j u hu => by
    cases ha
    rw [addr_plain, World.cell?_alloc_new, Nat.zero_add, ← hu]
    rw [List.getElem?_toArray], fun a ha _ => by cases ha; simp⟩
theorem lists_row_at (w : World) (cs : List Value) (T : TypeId) (k : Nat) (hk : k = w.heap.size) : Lists (w.alloc (.cells cs.toArray T)) (k + 1) (some ⟨k, 0, none⟩) cs := hk ▸ lists_row w cs T
theorem results_row_tmp {P : Program} {fn : Func} {p u : Tmp} {ty : TypeId} (h : fn.results = #[.cell p ty, .tmp u]) (tmps : Array Value) (w : World) (g : Nat) (t : TypeId) (cs : Array Value) (fr : Nat × Nat) (d : TypeDesc) (v : Value)
    (hp : tmps.getD p undef = .pointer (some ⟨g, 0, none⟩)) (hv : tmps.getD u undef = v) (hg : w.heap[g]? = some (.cells cs t fr))
    (hu : P.underlying ty = some d) (hd : (match d with | .struct _ | .array _ _ => true | _ => false) = true) (hi : (P.info? ty).map (·.size) = some cs.size) :
    (results fn tmps).run P w = .ok (.tuple #[.agg cs, v]) w := by
  rw [results_cell_tmp h, hp, hv]
  simp [asAddr, Result.andThen, run_loadVar_row w g t ty cs fr d hg hu hd hi]
theorem results_row_tmp2 {P : Program} {fn : Func} {p u u2 : Tmp} {ty : TypeId} (h : fn.results = #[.cell p ty, .tmp u, .tmp u2]) (tmps : Array Value) (w : World) (g : Nat) (t : TypeId) (cs : Array Value) (fr : Nat × Nat) (d : TypeDesc) (v v2 : Value)
    (hp : tmps.getD p undef = .pointer (some ⟨g, 0, none⟩)) (hv : tmps.getD u undef = v) (hv2 : tmps.getD u2 undef = v2) (hg : w.heap[g]? = some (.cells cs t fr))
    (hu : P.underlying ty = some d) (hd : (match d with | .struct _ | .array _ _ => true | _ => false) = true) (hi : (P.info? ty).map (·.size) = some cs.size) :
    (results fn tmps).run P w = .ok (.tuple #[.agg cs, v, v2]) w := by
  have hp' : tmps[p]?.getD undef = .pointer (some ⟨g, 0, none⟩) := by simpa using hp
  have hv' : tmps[u]?.getD undef = v := by simpa using hv
  have hv2' : tmps[u2]?.getD undef = v2 := by simpa using hv2
  simp [results, h, hp', hv', hv2', Sem.run_bind, asAddr, Result.andThen, run_loadVar_row w g t ty cs fr d hg hu hd hi]
end Go.Proofs.YthoocoaalbeopaaDoor

namespace Go.Proofs.YthoocoaalbeopaaDoor
open Go Go.RowKit
set_option linter.unusedVariables false
set_option linter.unusedSimpArgs false
variable {q : Nat → Prop}

theorem entInfo : (Tryd.prog.info? 42).map (fun i => (i.zero, i.size, i.bytes)) = some (some (.agg #[.int .i64 0, .slice none 0 0]), 2, 32) := by kernel_rfl
theorem intInfo : (Tryd.prog.info? 3).map (fun i => (i.zero, i.size, i.bytes)) = some (some (.int .i64 0), 1, 8) := by kernel_rfl
theorem info_partsX {o : Option TypeInfo} {z : Option Value} {n b : Nat} (h : o.map (fun i => (i.zero, i.size, i.bytes)) = some (z, n, b)) : ∃ i, o = some i ∧ i.zero = z ∧ i.size = n ∧ i.bytes = b := by
  cases o with
  | none => simp at h
  | some i => simp at h; exact ⟨i, rfl, h.1, h.2.1, h.2.2⟩
/-- The operator of its first byte. -/
def opF (o : Int) : Int := if 3072 ≤ o then 12 else o
theorem drop_first {bs : List Value} {k : Nat} {v : Value} {tl : List Value} (h : bs.drop k = v :: tl) : k < bs.length ∧ bs[k]? = some v ∧ bs.drop (k + 1) = tl := by
  have h1 : k < bs.length := by
    rcases Nat.lt_or_ge k bs.length with h1 | h1
    · exact h1
    · rw [List.drop_eq_nil_of_le h1] at h; cases h
  refine ⟨h1, ?_, ?_⟩
  · have := congrArg (fun l => l[0]?) h
    simpa using this
  · rw [← List.drop_drop, h]; rfl
theorem byte_first {bs : List Value} {k : Nat} {x : Int} {tl : List Value} (h : bs.drop k = .int .u8 x :: tl) (h0 : 0 ≤ x) : (byteAt bs k : Int) = x := by
  have h1 := (drop_first h).2.1
  unfold byteAt
  rw [List.getD_eq_getElem?_getD, h1]
  simp [nb]
  omega
theorem opE_first (o : Int) (ho : opB o = true) : ∃ T, opE o = .int .u8 (opF o) :: T ∧ T.length = (if 3072 ≤ o then 1 else 0) ∧ 0 ≤ opF o ∧ opF o ≤ 21 := by
  unfold opB inB at ho
  simp at ho
  unfold opE opF
  by_cases h : 3072 ≤ o
  · rw [if_pos h, if_pos h, if_pos h]
    exact ⟨be1 o, rfl, rfl, by omega, by omega⟩
  · rw [if_neg h, if_neg h, if_neg h]
    refine ⟨[], ?_, rfl, by omega, by omega⟩
    have : o % 256 = o := by omega
    simp [be1, this]
set_option maxRecDepth 100000 in
theorem drop_any (p k : Nat) (bs tl T : List Value) (o : Int) (w : World) (h : RS q w p bs k) (hL : bs.length ≤ 4611686018427387904) (ho : opB o = true) (hT : opE o = .int .u8 (opF o) :: T) (hd : bs.drop k = T ++ tl) :
    Calls Tryd.prog 24 #[.pointer (some ⟨p, 0, none⟩), .int .i64 (opF o)] w fun e w' => e = .returned (.int .i64 o) ∧ RS q w' p bs (k + T.length) ∧ Only w w' [p] := by
  unfold opB inB at ho
  simp at ho
  unfold opE opF at hT
  unfold opF
  by_cases h3 : 3072 ≤ o
  · rw [if_pos h3] at hT ⊢
    have e : T = be1 o := by rw [if_pos h3] at hT; injection hT.symm
    subst e
    have hk := (drop_first hd).1
    have C := rsU8 p bs k w h hL
    unfold rsn at C
    rw [if_pos (by omega), byte_first hd (by omega)] at C
    have q1 : wrap64 (3072 + o % 256) = o := by simp [wrap64]; omega
    go_enter Tryd.func24, Tryd.ntmps24
    go_wp2_with (first | (go_at_call 23; ((with_reducible refine (C).mono ?_); rintro e w2 ⟨rfl, r2, o2⟩)))
    go_ret
    have q2 : 3072 + o % 256 = o := by omega
    exact ⟨by simp [q2], r2, o2⟩
  · rw [if_neg h3] at hT ⊢
    have e : T = [] := by rw [if_neg h3] at hT; simp [be1] at hT; exact hT.2
    subst e
    have n1 : ¬ o = 12 := by omega
    go_enter Tryd.func24, Tryd.ntmps24
    go_wp2
    go_ret
    exact ⟨rfl, h, Only.refl _ _⟩
end Go.Proofs.YthoocoaalbeopaaDoor

namespace Go.Proofs.YthoocoaalbeopaaDoor
open Go Go.RowKit
set_option linter.unusedVariables false
set_option linter.unusedSimpArgs false

set_option maxRecDepth 100000 in
theorem dclone_any (A : Option Addr) (n c : Nat) (E : List Value) (w : World) (hE : Lists w w.heap.size A E) (hn : E.length = n) (h1 : ∀ u ∈ E, u.oneCell' = true) (hm : n ≤ 10000000000) :
    Calls Tryd.prog 39 #[.slice A n c] w fun e w' => GaveClone w E e w' := by
  have q1 := fun w => Lib.run_eql_slice_nil (P := Tryd.prog) w 37 3 A n c 0 0 Tryd.underlying37
  cases A with
  | none =>
    obtain rfl : E = [] := hE.nil rfl
    obtain rfl : n = 0 := hn.symm
    have hq : GaveClone w [] (.returned (.slice none 0 0)) w := ⟨none, 0, rfl, Lists.empty _ _ _, Nat.le_refl _, by omega, Below.refl _ _, fun a h => (nomatch h)⟩
    go_enter Tryd.func39, Tryd.ntmps39
    go_wp2
    all_goals go_ret
    all_goals exact hq
  | some a =>
    obtain ⟨i0, hi, hz0, hz1, hz2⟩ := info_partsX intInfo
    have HN := Lib.hid hn
    clear hn
    go_enter Tryd.func39, Tryd.ntmps39
    go_wp2_with (first | (at_builtin; refine wpList_append_src _ rfl (.tmp 5) (.tmp 6) 37 rfl w.heap.size 3 i0 (.int .i64 0) 1 8 Tryd.underlying37 hi hz0 hz1 hz2 rfl (by decide) (.slice (some ⟨w.heap.size, 0, none⟩) 0 0) 0 [] rfl ⟨rfl, .inr ⟨w.heap.size, 0, #[], rfl, Nat.le_refl _, heap_alloc_new w _, Nat.le_refl _, Nat.zero_le _, rfl, rfl⟩⟩ w.heap.size (some a) n c E rfl (hE.alloc (Nat.le_refl _) _) (by rw [HN.out, Nat.mul_one]) h1 (by simp only [maxLen]; omega) (by omega) (by simp) ?_; intro v1 w1 hown hg hat; rw [Nat.zero_add, List.nil_append] at hown))
    go_ret
    have hb : Below w.heap.size w w1 := ((Below.refl _ _).alloc (Nat.le_refl _) _).grown hg (by simp) (fun j hj => by cases hj; exact Nat.le_refl _)
    obtain ⟨A2, c2, hv, hl, hc2⟩ := own_lists hown
    have hcm : c2 ≤ maxLen := by
      rcases hown.2 with ⟨h, _⟩ | ⟨g, cap, cur, h, _, _, _, h7, _⟩
      · rw [hv] at h; injection h with _ _ h; omega
      · rw [hv] at h; injection h with _ _ h; omega
    have hlow : ∀ a, A2 = some a → w.heap.size ≤ a.block := by
      rcases hown.2 with ⟨h, _⟩ | ⟨g, cap, cur, h, h1, _⟩
      · rw [hv] at h; injection h with h; intro a ha; rw [h] at ha; cases ha
      · rw [hv] at h; injection h with h; intro a ha; rw [h] at ha; cases ha; exact h1
    unfold maxLen at hcm
    exact ⟨A2, c2, by rw [HN.out]; exact congrArg _ hv, hl, by rw [HN.out]; exact hc2, by omega, hb, hlow⟩

/-- A new reader was answered. -/
theorem one_ints (L : List Int) : ∀ u ∈ L.map (Value.int .i64), u.oneCell' = true := fun u hu => by
  obtain ⟨x, _, rfl⟩ := List.mem_map.1 hu
  rfl
theorem lastE_mem {op : Int} : ∀ {Es : List Ent} {L : List Int}, lastE Es op = some L → ∃ q ∈ Es, q.2 = L
  | [], L, h => by cases h
  | q :: Es, L, h => by
    unfold lastE at h
    cases h1 : lastE Es op with
    | some M =>
      rw [h1] at h
      cases h
      obtain ⟨p, hp, he⟩ := lastE_mem h1
      exact ⟨p, by simp [hp], he⟩
    | none =>
      rw [h1] at h
      simp at h
      exact ⟨q, by simp, h.2⟩
def GetP (w : World) (Es : List Ent) (op : Int) (e : Ending) (w' : World) : Prop :=
  (∃ Ai ci, e = .returned (.tuple #[.slice Ai ((lastE Es op).getD []).length ci, .bool (lastE Es op).isSome]) ∧ ((lastE Es op).getD []).length ≤ ci ∧ Lists w' w'.heap.size Ai (((lastE Es op).getD []).map (Value.int .i64))) ∧ Below w.heap.size w w'
set_option maxRecDepth 100000 in
theorem dget_any (A : Option Addr) (N c : Nat) (Es : List Ent) (op : Int) (w : World) (hE : EntAt w w.heap.size A Es) (hN : Es.length = N) (hn : N ≤ 1000000000000) (hl : ∀ q ∈ Es, q.2.length ≤ 10000000000) :
    Calls Tryd.prog 19 #[.slice A N c, .int .i64 op] w (GetP w Es op) := by
  have CL := dlast_any A N c Es op w hE hN hn
  unfold LastP at CL
  unfold GetP
  cases h : lastE Es op with
  | none =>
    rw [h] at CL
    have CC := fun W => dclone_any none 0 0 [] W (Lists.empty _ _ _) rfl (fun u hu => (nomatch hu)) (by decide)
    go_enter Tryd.func19, Tryd.ntmps19
    go_wp2_with (first | (go_at_call 38; ((with_reducible refine (CL).mono ?_); rintro e w1 ⟨rfl, b1⟩)) | (go_at_call 39; ((with_reducible refine (CC _).mono ?_); rintro e w2 ⟨A2, c2, rfl, l2, hc2, _, b2, _⟩)))
    exact bodyPost_ret (results_tmp2 rfl _ _ _) rfl ⟨⟨A2, c2, rfl, hc2, l2⟩, b1.trans (b2.mono b1.size)⟩
  | some L =>
    rw [h] at CL
    have hL : L.length ≤ 10000000000 := by
      obtain ⟨q, hq, e⟩ := lastE_mem h
      rw [← e]; exact hl q hq
    have HL := Lib.hid hL
    have CC := fun A' c' W (hW : Lists W W.heap.size A' (L.map (Value.int .i64))) => dclone_any A' L.length c' (L.map (Value.int .i64)) W hW (by simp) (one_ints L) hL
    clear hL h
    go_enter Tryd.func19, Tryd.ntmps19
    go_wp2_with (first | (go_at_call 38; ((with_reducible refine (CL).mono ?_); rintro e w1 ⟨⟨A1, c1, rfl, hc1, l1⟩, b1⟩)) | (go_at_call 39; ((with_reducible refine (CC _ _ _ ((l1.below b1).more b1.size)).mono ?_); rintro e w2 ⟨A2, c2, rfl, l2, hc2, _, b2, _⟩)))
    simp only [List.length_map] at *
    exact bodyPost_ret (results_tmp2 rfl _ _ _) rfl ⟨⟨A2, c2, rfl, hc2, l2⟩, b1.trans (b2.mono b1.size)⟩
/-- An operator's number: it, and the error. -/
def numP (Es : List Ent) (op other : Int) : Int × Int :=
  match lastE Es op with
  | none => (other, 0)
  | some L => if L.length = 1 ∧ (L.getD 0 0).tmod 65536 = 0 then (q16 (L.getD 0 0), 0) else (0, 150)
set_option maxRecDepth 100000 in
theorem dnumber_any (A : Option Addr) (N c : Nat) (Es : List Ent) (op other : Int) (w : World) (hE : EntAt w w.heap.size A Es) (hN : Es.length = N) (hn : N ≤ 1000000000000) :
    Calls Tryd.prog 20 #[.slice A N c, .int .i64 op, .int .i64 other] w fun e w' => e = .returned (.tuple #[.int .i64 (numP Es op other).1, .int .i64 (numP Es op other).2]) ∧ Below w.heap.size w w' := by
  have CL := dlast_any A N c Es op w hE hN hn
  unfold LastP at CL
  unfold numP
  cases h : lastE Es op with
  | none =>
    rw [h] at CL
    go_enter Tryd.func20, Tryd.ntmps20
    go_wp2_with (first | (go_at_call 38; ((with_reducible refine (CL).mono ?_); rintro e w1 ⟨rfl, b1⟩)))
    exact bodyPost_ret (results_tmp2 rfl _ _ _) rfl ⟨rfl, b1⟩
  | some L =>
    rw [h] at CL
    clear h
    match L, CL with
    | [], CL =>
      go_enter Tryd.func20, Tryd.ntmps20
      go_wp2_with (first | (go_at_call 38; ((with_reducible refine (CL).mono ?_); rintro e w1 ⟨⟨A1, c1, rfl, hc1, l1⟩, b1⟩)))
      exact bodyPost_ret (results_tmp2 rfl _ _ _) rfl ⟨by simp, b1⟩
    | [x], CL =>
      have p2 : wrap64 (x.tdiv 65536) = q16 x := rfl
      simp only [List.length_cons, List.length_nil, Nat.zero_add, Nat.reduceAdd, List.map_cons, List.map_nil, List.getD_cons_zero, true_and] at CL ⊢
      by_cases hz : x.tmod 65536 = 0
      · rw [if_pos hz]
        have d1 : (x.tmod 65536 != 0) = false := by simpa using hz
        have d2 : (x.tmod 65536 == 0) = true := by simpa using hz
        go_enter Tryd.func20, Tryd.ntmps20
        go_wp2_with (first | (go_at_call 38; ((with_reducible refine (CL).mono ?_); rintro e w1 ⟨⟨A1, c1, rfl, hc1, l1⟩, b1⟩; obtain ⟨b, o, rfl, hb, hcell⟩ := (l1.below b1).plain (by simp); have z0 := hcell 0 _ rfl; have zl : b < w1.heap.size := Nat.lt_of_lt_of_le hb b1.size; simp only [Nat.add_zero] at z0)))
        exact bodyPost_ret (results_tmp2 rfl _ _ _) rfl ⟨by first | rfl | simp [p2], b1⟩
      · rw [if_neg hz]
        have d1 : (x.tmod 65536 != 0) = true := by simpa using hz
        have d2 : (x.tmod 65536 == 0) = false := by simpa using hz
        go_enter Tryd.func20, Tryd.ntmps20
        go_wp2_with (first | (go_at_call 38; ((with_reducible refine (CL).mono ?_); rintro e w1 ⟨⟨A1, c1, rfl, hc1, l1⟩, b1⟩; obtain ⟨b, o, rfl, hb, hcell⟩ := (l1.below b1).plain (by simp); have z0 := hcell 0 _ rfl; have zl : b < w1.heap.size := Nat.lt_of_lt_of_le hb b1.size; simp only [Nat.add_zero] at z0)))
        exact bodyPost_ret (results_tmp2 rfl _ _ _) rfl ⟨rfl, b1⟩
    | x :: y :: M, CL =>
      have d1 : ¬ (((x :: y :: M).length : Nat) : Int) = 1 := by simp; omega
      have d2 : ((((x :: y :: M).length : Nat) : Int) == 1) = false := by simp; omega
      have d3 : ¬ ((x :: y :: M).length = 1 ∧ ((x :: y :: M).getD 0 0).tmod 65536 = 0) := by simp
      dsimp only at CL ⊢
      rw [if_neg d3]
      generalize (x :: y :: M).length = m at *
      go_enter Tryd.func20, Tryd.ntmps20
      go_wp2_with (first | (go_at_call 38; ((with_reducible refine (CL).mono ?_); rintro e w1 ⟨⟨A1, c1, rfl, hc1, l1⟩, b1⟩)))
      exact bodyPost_ret (results_tmp2 rfl _ _ _) rfl ⟨rfl, b1⟩
end Go.Proofs.YthoocoaalbeopaaDoor
