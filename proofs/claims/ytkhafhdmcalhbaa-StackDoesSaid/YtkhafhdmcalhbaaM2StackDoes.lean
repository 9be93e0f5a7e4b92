/- Part 3 of the proof: StF, May, StC, Idx, StD, StG, Fix2, Fix3, Fix4, Fix5. -/
import Derived.Lib.Hide
import Derived.Shelf.Abstract
import Derived.Test.YtkhafhdmcalhbaaM1StackDoes

namespace Go.Proofs.Ytkhafhdmcalhbaa
open Go Go.RowKit
set_option linter.unusedVariables false
set_option linter.unusedSimpArgs false

set_option maxRecDepth 100000 in
set_option maxHeartbeats 1000000 in
theorem cloneI_any (B : Nat) (A : Option Addr) (c : Nat) (L : List Int) (w : World) (hB : B ≤ w.heap.size) (h : Lists w B A (intCells L)) (hn : L.length ≤ 17592186044416) :
    Calls Try.prog 24 #[.slice A L.length c] w fun e w' => ∃ v, e = .returned v ∧ w'.ownsRow w.heap.size 3 1 v L.length (intCells L) ∧ Below w.heap.size w w' := by
  obtain ⟨i1, hi1, hz1, hs1, hy1⟩ := info_partsS infoS
  cases A with
  | none =>
    have hp := h.nil rfl
    have h0 : L = [] := by
      cases L with
      | nil => rfl
      | cons p r => simp [intCells] at hp
    subst h0
    clear h hp
    have hq : ∀ (w : World) (n c : Nat), (binOp .eql 22 (.slice none n c) (.slice none 0 0)).run Try.prog w = .ok (.bool true) w := fun w n c => Lib.run_eql_slice_nil w _ _ _ _ _ _ _ Try.underlying22
    go_enter Try.func24, Try.ntmps24
    go_wp2
    go_ret
    exact ⟨_, rfl, World.ownsRow_nil _ _ _ _, Below.refl _ _⟩
  | some a =>
    have HE := Lib.hid h
    clear h
    have hq : ∀ (w : World) (n c : Nat), (binOp .eql 22 (.slice (some a) n c) (.slice none 0 0)).run Try.prog w = .ok (.bool false) w := fun w n c => Lib.run_eql_slice_nil w _ _ _ _ _ _ _ Try.underlying22
    go_enter Try.func24, Try.ntmps24
    go_wp2_with (first
      | (at_builtin; refine wpList_append_src _ rfl (.tmp 5) (.tmp 6) 22 rfl w.heap.size 3 i1 (.int .i64 0) 1 8 Try.underlying22 hi1 hz1 hs1 hy1 rfl (by decide) (.slice (some ⟨w.heap.size, 0, none⟩) 0 0) 0 [] rfl (own_newS w) B (some a) L.length c (intCells L) rfl (HE.out.below ((Below.refl _ _).alloc hB _)) (by rw [intCells_len, Nat.mul_one]) (intCells_oneS L) (by simp only [maxLen]; omega) (by omega) (by simp) ?_; intro v1 w1 own1 hg1 hat1; rw [Nat.zero_add, List.nil_append] at own1; have b1 : Below w.heap.size w w1 := ((Below.refl _ _).alloc (Nat.le_refl _) _).grown hg1 (by simp) (fun j hj => by cases hj; exact Nat.le_refl _)))
    go_ret
    exact ⟨v1, rfl, own1, b1⟩

set_option maxRecDepth 100000 in
set_option maxHeartbeats 1000000 in
theorem pop_nil (q : Nat) (nv : Value) (St ds : List Int) (w : World) (h : Sk w q nv [] St ds) :
    Calls Try.prog 12 #[.pointer (some ⟨q, 0, none⟩)] w fun e w' => e = .returned (.tuple #[.int .i64 0, .int .i64 170]) ∧ w = w' := by
  obtain ⟨A, c, hb, hls, hcc⟩ := h.blk
  have c0 := hb.cell 0
  rw [sk_c0] at c0
  have f0 := hb.frozen 0
  obtain ⟨A0, n0, rfl, hl0, hn0⟩ := own_lists h.own
  clear hb hls h hl0
  go_enter Try.func12, Try.ntmps12
  go_wp2
  go_ret2
  exact ⟨rfl, rfl⟩
set_option maxRecDepth 100000 in
set_option maxHeartbeats 1000000 in
theorem pop_any (q : Nat) (nv : Value) (L St ds : List Int) (x : Int) (w : World) (h : Sk w q nv (L ++ [x]) St ds) :
    Calls Try.prog 12 #[.pointer (some ⟨q, 0, none⟩)] w fun e w' => e = .returned (.tuple #[.int .i64 x, .int .i64 0]) ∧ ∃ nv', Sk w' q nv' L St ds ∧ Mod w w' q nv nv' := by
  obtain ⟨A, c, hb, hls, hcc⟩ := h.blk
  have c0 := hb.cell 0
  rw [sk_c0] at c0
  have f0 := hb.frozen 0
  have hown := h.own
  obtain ⟨A0, n0, rfl, hl0, hn0⟩ := own_lists hown
  have HS := Lib.hid h
  obtain ⟨n, hn⟩ : ∃ n, n = L.length := ⟨_, rfl⟩
  have hlen : (L ++ [x]).length = n + 1 := by rw [List.length_append, ← hn]; rfl
  rw [hlen] at c0 hn0
  have hn48 : n + 1 ≤ 48 := by rw [← hlen]; exact h.len
  obtain ⟨b, o, rfl, hbl, hce⟩ := hl0.plain (by simp [intCells])
  have ce := hce n (.int .i64 x) (by rw [intCells_app, List.getElem?_append_right (by rw [intCells_len]; omega), intCells_len, hn, Nat.sub_self]; rfl)
  have e1 : wrap64 ((n : Int) + 1 - 1) = (n : Int) := by simp [wrap64]; omega
  have d1 : decide ((n : Int) < 0) = false := by simp
  have HN := Lib.hid hn
  have HO := Lib.hid hown
  clear hls hl0 h hce hn hlen
  go_enter Try.func12, Try.ntmps12
  go_wp2
  go_ret2
  have hx : intCells ((L ++ [x]).take n) = intCells L := by rw [HN.out, List.take_left']; rfl
  have own2 := own_cutS (n := n + 1) (L := L ++ [x]) (by have := HO.out; rwa [show (L ++ [x]).length = n + 1 by rw [List.length_append, ← HN.out]; rfl] at this) n (by omega)
  rw [hx] at own2
  have P := HS.out.put (L2 := L) (Only.refl _ _) (by rw [← HN.out]; exact own2) (fun b hb => .inl (by simpa [blk, Value.ownBlock] using hb)) (by have := HN.out; omega) (fun y hy => HS.out.may y (by simp [hy]))
  exact ⟨rfl, _, P⟩
set_option maxRecDepth 100000 in
set_option maxHeartbeats 1000000 in
theorem len_any (q : Nat) (nv : Value) (L St ds : List Int) (w : World) (h : Sk w q nv L St ds) :
    Calls Try.prog 21 #[.pointer (some ⟨q, 0, none⟩)] w fun e w' => e = .returned (.int .i64 (L.length : Nat)) ∧ w = w' := by
  obtain ⟨A, c, hb, hls, hcc⟩ := h.blk
  have c0 := hb.cell 0
  rw [sk_c0] at c0
  have f0 := hb.frozen 0
  obtain ⟨A0, n0, rfl, hl0, hn0⟩ := own_lists h.own
  clear hb hls h hl0
  go_enter Try.func21, Try.ntmps21
  go_wp2
  go_ret
  exact ⟨rfl, rfl⟩
set_option maxRecDepth 100000 in
set_option maxHeartbeats 1000000 in
theorem all_any (q : Nat) (nv : Value) (L St ds : List Int) (w : World) (h : Sk w q nv L St ds) :
    Calls Try.prog 20 #[.pointer (some ⟨q, 0, none⟩)] w fun e w' => ∃ v, e = .returned v ∧ w'.ownsRow w.heap.size 3 1 v L.length (intCells L) ∧ Below w.heap.size w w' := by
  obtain ⟨A, c, hb, hls, hcc⟩ := h.blk
  have c0 := hb.cell 0
  rw [sk_c0] at c0
  have f0 := hb.frozen 0
  obtain ⟨A0, n0, rfl, hl0, hn0⟩ := own_lists h.own
  have C := cloneI_any w.heap.size A0 n0 L w (Nat.le_refl _) hl0 (by have := h.len; omega)
  clear hb hls h hl0
  go_enter Try.func20, Try.ntmps20
  go_wp2_with (go_at_call 24; ((with_reducible refine (C).mono ?_); rintro e w1 ⟨v, rfl, own1, b1⟩))
  go_ret
  exact ⟨_, rfl, own1, b1⟩
set_option maxRecDepth 100000 in
set_option maxHeartbeats 1000000 in
theorem take_any (q : Nat) (nv : Value) (L St ds : List Int) (w : World) (h : Sk w q nv L St ds) :
    Calls Try.prog 19 #[.pointer (some ⟨q, 0, none⟩)] w fun e w' => e = .returned nv ∧ Sk w' q (.slice none 0 0) [] St ds ∧ Mod w w' q nv (.slice none 0 0) ∧ w'.ownsRow q 3 1 nv L.length (intCells L) := by
  obtain ⟨A, c, hb, hls, hcc⟩ := h.blk
  have c0 := hb.cell 0
  rw [sk_c0] at c0
  have f0 := hb.frozen 0
  have hown := h.own
  obtain ⟨A0, n0, rfl, hl0, hn0⟩ := own_lists h.own
  have P := h.put (L2 := []) (Only.refl _ _) (World.ownsRow_nil _ _ _ _) (fun b hb => by simp [blk, Value.ownBlock] at hb) (by simp) (fun y hy => (nomatch hy))
  have own2 := own_only hown (Only.set (p := ⟨q, 0, none⟩) (Only.refl w [q]) (.inl (by simp)) (.slice none 0 0)) (fun b hbm e => by simp at e; subst e; exact h.ne hbm)
  clear hb hls h hl0
  go_enter Try.func19, Try.ntmps19
  go_wp2
  go_ret
  exact ⟨rfl, P.1, P.2, own2⟩
theorem zeros32 : ∀ x ∈ List.replicate 32 (0 : Int), mayB x = true := fun x hx => by rw [(List.mem_replicate.1 hx).2]; rfl
set_option maxRecDepth 100000 in
set_option maxHeartbeats 1000000 in
theorem new_any (B : Nat) (A : Option Addr) (c : Nat) (ds : List Int) (w : World) (hB : B ≤ w.heap.size) (h : Lists w B A (intCells ds)) (hn : ds.length ≤ 17592186044416) :
    Calls Try.prog 8 #[.slice A ds.length c] w fun e w' => ∃ q, e = .returned (.pointer (some ⟨q, 0, none⟩)) ∧ Sk w' q (.slice none 0 0) [] (List.replicate 32 0) ds ∧ Below w.heap.size w w' ∧ w.heap.size ≤ q := by
  have C := cloneI_any B A c ds w hB h hn
  clear h
  go_enter Try.func8, Try.ntmps8
  go_wp2_with (go_at_call 24; ((with_reducible refine (C).mono ?_); rintro e w1 ⟨v, rfl, own1, b1⟩); obtain ⟨A1, c1, rfl, hl1, hc1⟩ := own_lists own1)
  go_ret
  refine ⟨_, rfl, ⟨⟨A1, c1, Blk.new w1 _ _, hl1.below ((Below.refl _ _).alloc (Nat.le_refl _) _), hc1⟩, World.ownsRow_nil _ _ _ _, rfl, by simp, fun y hy => (nomatch hy), zeros32⟩, b1.alloc b1.size _, b1.size⟩
set_option maxRecDepth 100000 in
set_option maxHeartbeats 1000000 in
theorem push_nobody (x : Int) (w : World) : Calls Try.prog 10 #[.pointer none, .int .i64 x] w fun e w' => e = .returned (.int .i64 6) ∧ w = w' := by
  go_enter Try.func10, Try.ntmps10
  go_wp2
  go_ret
  exact ⟨rfl, rfl⟩
set_option maxRecDepth 100000 in
set_option maxHeartbeats 1000000 in
theorem pop_nobody (w : World) : Calls Try.prog 12 #[.pointer none] w fun e w' => e = .returned (.tuple #[.int .i64 0, .int .i64 6]) ∧ w = w' := by
  go_enter Try.func12, Try.ntmps12
  go_wp2
  go_ret2
  exact ⟨rfl, rfl⟩
set_option maxRecDepth 100000 in
set_option maxHeartbeats 1000000 in
theorem len_nobody (w : World) : Calls Try.prog 21 #[.pointer none] w fun e w' => e = .returned (.int .i64 0) ∧ w = w' := by
  go_enter Try.func21, Try.ntmps21
  go_wp2
  go_ret
  exact ⟨rfl, rfl⟩
set_option maxRecDepth 100000 in
set_option maxHeartbeats 1000000 in
theorem all_nobody (w : World) : Calls Try.prog 20 #[.pointer none] w fun e w' => e = .returned (.slice none 0 0) ∧ w = w' := by
  go_enter Try.func20, Try.ntmps20
  go_wp2
  go_ret
  exact ⟨rfl, rfl⟩
set_option maxRecDepth 100000 in
set_option maxHeartbeats 1000000 in
theorem take_nobody (w : World) : Calls Try.prog 19 #[.pointer none] w fun e w' => e = .returned (.slice none 0 0) ∧ w = w' := by
  go_enter Try.func19, Try.ntmps19
  go_wp2
  go_ret
  exact ⟨rfl, rfl⟩
set_option maxRecDepth 100000 in
set_option maxHeartbeats 1000000 in
theorem do_nobody (x : Int) (w : World) : Calls Try.prog 14 #[.pointer none, .int .i64 x] w fun e w' => e = .returned (.int .i64 6) ∧ w = w' := by
  go_enter Try.func14, Try.ntmps14
  go_wp2
  go_ret
  exact ⟨rfl, rfl⟩
end Go.Proofs.Ytkhafhdmcalhbaa

namespace Go.Proofs.Ytkhafhdmcalhbaa
open Go.RowKit

theorem all_take_snoc (f : Int → Bool) (zs : List Int) (k : Nat) (h : k < zs.length) : (zs.take (k + 1)).all f = ((zs.take k).all f && f (zs.getD k 0)) := by
  rw [List.take_succ_eq_append_getElem h, List.all_append]; simp [List.getD, h]

theorem all_false_of_take (f : Int → Bool) (zs : List Int) (k : Nat) (h : (zs.take k).all f = false) : zs.all f = false := by
  have e := List.take_append_drop k zs
  rw [← e, List.all_append, h, Bool.false_and]

theorem allMay_fixed (b off len cap : Nat) (zs : List Int) (w : World) (hl : len = zs.length) (hm : len ≤ 9223372036854775807)
    (hc : ∀ j, j < zs.length → w.cell? ⟨b, off + j, none⟩ = some (.int .i64 (zs.getD j 0))) :
    Calls Try.prog 74 #[.slice (some ⟨b, off, none⟩) len cap] w fun e w' => e = .returned (.bool (zs.all mayB)) ∧ w = w' := by
  have HL : Hid (len = zs.length) := hl
  have HC : Hid (∀ j, j < zs.length → w.cell? ⟨b, off + j, none⟩ = some (.int .i64 (zs.getD j 0))) := hc
  clear hl hc
  go_enter Try.func74, Try.ntmps74
  go_wp2
  go_loop [4, 7] (fun _ i => ∃ k : Nat, k ≤ len ∧ i = .int .i64 k ∧ (zs.take k).all mayB = true) (fun _ i => len - (intOf i).toNat)
  case atStart => exact ⟨0, Nat.zero_le _, rfl, rfl⟩
  case round =>
    obtain ⟨k, hk, rfl, hall⟩ := hrel
    have HA : Hid ((zs.take k).all mayB = true) := hall
    clear hall
    by_cases hlt : k < len
    · have hcell : w.cell? ⟨b, off + k, none⟩ = some (.int .i64 (zs.getD k 0)) := HC.out k (by have := HL.out; omega)
      have hts := Hid.out (p := _) (all_take_snoc mayB zs k (by have := HL.out; omega))
      generalize hz : zs.getD k 0 = z at hcell hts
      have HT : Hid ((zs.take (k + 1)).all mayB = ((zs.take k).all mayB && mayB z)) := hts
      clear hts hz
      by_cases hmz : mayB z = true
      · go_wp2_with (go_at_call 25; refine (may_any z _).mono ?_; rintro e w' ⟨rfl, rfl⟩)
        go_round
        case rel => exact ⟨k + 1, by omega, by go_num, by rw [HT.out, HA.out, hmz]; rfl⟩
        case measure => simp [intOf]; omega
      · have hmf : mayB z = false := by simpa using hmz
        clear hmz
        go_wp2_with (go_at_call 25; refine (may_any z _).mono ?_; rintro e w' ⟨rfl, rfl⟩)
        go_ret
        refine ⟨?_, rfl⟩
        have := all_false_of_take mayB zs (k + 1) (by rw [HT.out, hmf, Bool.and_false])
        rw [this]; rfl
    · go_wp2
      go_ret
      refine ⟨?_, rfl⟩
      have : zs.all mayB = true := by rw [← HA.out, List.take_of_length_le (by have := HL.out; omega)]
      rw [this]; rfl

theorem allMay_nil_fixed (cap : Nat) (a : Option Addr) (w : World) :
    Calls Try.prog 74 #[.slice a 0 cap] w fun e w' => e = .returned (.bool true) ∧ w = w' := by
  go_enter Try.func74, Try.ntmps74
  go_wp2
  refine wp_loop_rounds 1 ?_
  rw [rounds_succ]
  go_wp2
  go_ret
  exact ⟨rfl, rfl⟩

end Go.Proofs.Ytkhafhdmcalhbaa

namespace Go.Proofs.Ytkhafhdmcalhbaa
open Go Go.RowKit

/-- An operator: its number, how many it takes, whether it grows, its three functions. -/
structure OpR where
  op : Int
  takes : Nat
  grows : Bool
  one : Value
  two : Value
  any : Value
def opL (r : OpR) : List Value := [.int .i64 r.op, .int .i64 (r.takes : Int), .bool r.grows, r.one, r.two, r.any]
theorem opLen (r : OpR) : (opL r).length = 6 := rfl
abbrev fv (g : Nat) : Value := .func (.func g) #[] #[]
def OPS : List OpR := [⟨9, 1, false, fv 41, .nilFunc, .nilFunc⟩, ⟨14, 1, false, fv 42, .nilFunc, .nilFunc⟩, ⟨26, 1, false, fv 43, .nilFunc, .nilFunc⟩, ⟨5, 1, false, fv 44, .nilFunc, .nilFunc⟩,
  ⟨10, 2, false, .nilFunc, fv 45, .nilFunc⟩, ⟨11, 2, false, .nilFunc, fv 46, .nilFunc⟩, ⟨24, 2, false, .nilFunc, fv 47, .nilFunc⟩, ⟨12, 2, false, .nilFunc, fv 48, .nilFunc⟩,
  ⟨3, 2, false, .nilFunc, fv 49, .nilFunc⟩, ⟨4, 2, false, .nilFunc, fv 50, .nilFunc⟩, ⟨15, 2, false, .nilFunc, fv 51, .nilFunc⟩,
  ⟨18, 1, false, .nilFunc, .nilFunc, fv 52⟩, ⟨27, 1, true, .nilFunc, .nilFunc, fv 53⟩, ⟨28, 2, false, .nilFunc, .nilFunc, fv 54⟩, ⟨22, 4, false, .nilFunc, .nilFunc, fv 55⟩,
  ⟨29, 1, false, .nilFunc, .nilFunc, fv 56⟩, ⟨30, 2, false, .nilFunc, .nilFunc, fv 57⟩, ⟨20, 2, false, .nilFunc, .nilFunc, fv 58⟩, ⟨21, 1, false, .nilFunc, .nilFunc, fv 59⟩, ⟨23, 0, true, .nilFunc, .nilFunc, fv 60⟩]
set_option maxRecDepth 100000 in
set_option maxHeartbeats 4000000 in
theorem operators_any (w : World) : Calls Try.prog 32 #[] w fun e w' => e = .returned (.agg (OPS.flatMap opL).toArray) ∧ Below w.heap.size w w' := by
  go_enter Try.func32, Try.ntmps32
  go_wp2_with (refine wpList_store_row rfl 62 (.tmp 0) (.tmp 21) (by rfl) w.heap.size (OPS.flatMap opL).toArray (by rfl) (by rfl) _ _ (Blk.new w _ _) (by kernel_rfl) (by kernel_rfl) (by kernel_rfl) ?_)
  refine bodyPost_ret (results_cell_row Try.results32 _ _ w.heap.size _ (OPS.flatMap opL).toArray (0, 0) _ (by rfl) (blk_row (Blk.new w _ _) _) Try.underlying62 rfl (by kernel_rfl)) rfl ⟨rfl, ?_⟩
  exact below_setRow ((Below.refl _ _).alloc (Nat.le_refl _) _) (Nat.le_refl _) _
end Go.Proofs.Ytkhafhdmcalhbaa

namespace Go.Proofs.Ytkhafhdmcalhbaa
open Go Go.RowKit
/-- The first place at which p holds, or -1. -/
def idxP {α : Type} (p : α → Bool) : List α → Int
  | [] => -1
  | x :: L => if p x then 0 else (if idxP p L < 0 then -1 else idxP p L + 1)
theorem take_any_no {α : Type} {L : List α} {p : α → Bool} {k : Nat} {x : α} (hx : L[k]? = some x) (h : (L.take k).any p = false) (ht : p x = false) : (L.take (k + 1)).any p = false := by
  rw [List.take_add_one, hx]
  simp only [Option.toList_some, List.any_append, h, List.any_cons, ht, List.any_nil, Bool.or_self]
theorem idxP_none {α : Type} {p : α → Bool} : ∀ {L : List α}, L.any p = false → idxP p L = -1
  | [], _ => rfl
  | x :: L, h => by
    simp only [List.any_cons, Bool.or_eq_false_iff] at h
    have e := idxP_none h.2
    unfold idxP
    rw [h.1, e]
    rfl
theorem idxP_at {α : Type} {p : α → Bool} : ∀ {L : List α} {k : Nat} {x : α}, L[k]? = some x → (L.take k).any p = false → p x = true → idxP p L = k
  | [], k, x, h, _, _ => by simp at h
  | y :: L, 0, x, h, _, ht => by
    obtain rfl : y = x := by simpa using h
    unfold idxP
    rw [ht]
    rfl
  | y :: L, k + 1, x, h, hk, ht => by
    rw [List.take_succ_cons, List.any_cons, Bool.or_eq_false_iff] at hk
    have e := idxP_at (p := p) (L := L) (by simpa using h) hk.2 ht
    unfold idxP
    rw [hk.1, e, if_neg (by simp), if_neg (by omega)]
    rfl
end Go.Proofs.Ytkhafhdmcalhbaa

namespace Go.Proofs.Ytkhafhdmcalhbaa
open Go Go.RowKit
set_option linter.unusedVariables false
set_option linter.unusedSimpArgs false

theorem lists_blk {w : World} {p : Nat} {T : TypeId} {cs : List Value} (h : Blk w p T cs.toArray) : Lists w (p + 1) (some ⟨p, 0, none⟩) cs :=
  ⟨(fun hA => by cases hA), (fun a ha j u hu => by
    cases ha
    rw [addr_plain, Nat.zero_add, h.cell j, List.getElem?_toArray]
    exact hu), (fun a ha _ => by cases ha; exact Nat.lt_succ_self _)⟩
theorem wpList_store_fresh {P : Program} {ops : Array Oper} {rest : List Oper} {o : Oper} {a : Act} {w : World} {Q : Exit → Act → World → Prop} (hgd : o.guard = none) (ty : TypeId) (x y : Operand) (ho : o.op = .store ty x y)
    (cells old : Array Value) (t : TypeId) (hx : a.eval x = .pointer (some ⟨w.heap.size, 0, none⟩)) (hy : a.eval y = .agg cells) (hi : (P.info? ty).map (·.size) = some cells.size)
    (hold : old.size = cells.size) (h1 : cells.all (·.oneCell') = true)
    (h : ∀ W2, Blk W2 w.heap.size t cells → Below w.heap.size w W2 → W2.heap.size = w.heap.size + 1 → wpList P ops Q rest (a.put o.dst undef) W2) : wpList P ops Q (o :: rest) a (w.alloc (.cells old t)) := by
  have hb := blk_row (Blk.new w t old) cells
  have hbl := below_setRow ((Below.refl w.heap.size w).alloc (Nat.le_refl _) (.cells old t)) (Nat.le_refl _) cells (g := w.heap.size)
  have hs : (World.setRow (w.alloc (.cells old t)) w.heap.size cells).heap.size = w.heap.size + 1 := by simp [World.setRow]
  exact wpList_store_row hgd ty x y ho w.heap.size cells hx hy t old (Blk.new w t old) hi hold h1 (h _ hb hbl hs)
set_option maxRecDepth 100000 in
set_option maxHeartbeats 1000000 in
theorem idxOp_any (g : FuncId) (lb : Array Value) (p : OpR → Bool) (B : Nat) (A : Option Addr) (c : Nat) (L : List (OpR)) (w : World) (hB : B ≤ w.heap.size) (hL : Lists w B A (L.flatMap opL)) (hn : L.length ≤ 1099511627776)
    (eg : ∀ args w, (callFunc g args).run Try.prog w = .ok (.enter g args) w)
    (hp : ∀ (W : World) (x : OpR), x ∈ L → Below w.heap.size w W → Calls Try.prog g (#[.agg (opL x).toArray] ++ lb) W fun e w' => e = .returned (.bool (p x)) ∧ Below W.heap.size W w') :
    Calls Try.prog 33 #[.slice A L.length c, .func (.func g) #[] lb] w fun e w' => e = .returned (.int .i64 (idxP p L)) ∧ Below w.heap.size w w' := by
  have HL := Lib.hid hL
  have HP := Lib.hid hp
  clear hL hp
  obtain ⟨n, hnn⟩ : ∃ n, n = L.length := ⟨_, rfl⟩
  rw [← hnn] at hn ⊢
  have HN := Lib.hid hnn
  clear hnn
  go_enter Try.func33, Try.ntmps33
  go_wp2
  go_loopw [8] (fun i wr => ∃ k : Nat, k ≤ n ∧ i = .int .i64 k ∧ Hid ((L.take k).any p = false) ∧ Below w.heap.size w wr) (fun i _ => n - (intOf i).toNat)
  case atStart => exact ⟨0, Nat.zero_le _, rfl, Lib.hid rfl, Below.refl _ _⟩
  case round =>
    obtain ⟨k, hk, rfl, HK, hb⟩ := hrel
    by_cases hlt : k < n
    · have d1 : decide ((k : Int) < (n : Int)) = true := by simp; omega
      obtain ⟨x, hx⟩ : ∃ x, L[k]? = some x := ⟨L[k]'(by rw [← HN.out]; exact hlt), List.getElem?_eq_getElem _⟩
      obtain ⟨b, o, hA, hbl, hcl⟩ := lists_flat opLen (by decide) HL.out hx
      subst hA
      have g0 := Lib.hid (range_below hcl (Nat.lt_of_lt_of_le hbl hB) hb)
      have C := HP.out wr x (List.mem_of_getElem? hx) hb
      have HX := Lib.hid hx
      clear hcl hx
      cases ht : p x
      · rw [ht] at C
        have HT := Lib.hid (take_any_no HX.out HK.out ht)
        clear ht
        go_wp2_with (first | (refine wpList_load_mid rfl 53 _ (by with_reducible rfl) b (o + k * 6) (by rfl) (opL x) _ g0.out Try.underlying53 rfl (by rw [opLen]; kernel_rfl) ?_) | (go_at_fn g; ((with_reducible refine (C).mono ?_); rintro e w1 ⟨rfl, b1⟩)))
        go_roundw
        case rel => exact ⟨k + 1, by omega, by go_num, HT, hb.trans (b1.mono hb.size)⟩
        case measure => simp [intOf]; omega
      · rw [ht] at C
        have HT := Lib.hid (idxP_at HX.out HK.out ht)
        clear ht
        go_wp2_with (first | (refine wpList_load_mid rfl 53 _ (by with_reducible rfl) b (o + k * 6) (by rfl) (opL x) _ g0.out Try.underlying53 rfl (by rw [opLen]; kernel_rfl) ?_) | (go_at_fn g; ((with_reducible refine (C).mono ?_); rintro e w1 ⟨rfl, b1⟩)))
        go_ret
        exact ⟨by rw [HT.out]; rfl, hb.trans (b1.mono hb.size)⟩
    · have d1 : decide ((k : Int) < (n : Int)) = false := by simp; omega
      have HT := Lib.hid (idxP_none (p := p) (show L.any p = false by have := HK.out; rwa [List.take_of_length_le (by have := HN.out; omega)] at this))
      go_wp2
      go_ret
      exact ⟨by rw [HT.out]; rfl, hb⟩

set_option maxRecDepth 100000 in
theorem isOp_any (r : OpR) (op : Int) (g : Nat) (W : World) (hc : W.cell? ⟨g, 0, none⟩ = some (.int .i64 op)) :
    Calls Try.prog 34 (#[.agg (opL r).toArray] ++ #[.pointer (some ⟨g, 0, none⟩)]) W fun e w' => e = .returned (.bool (r.op == op)) ∧ Below W.heap.size W w' := by
  obtain ⟨o1, tk, gr, v1, v2, v3⟩ := r
  have hc1 : ∀ X, (W.alloc X).cell? ⟨g, 0, none⟩ = some (.int .i64 op) := fun X => (World.cell?_alloc_old W X _ (Nat.ne_of_lt (World.block_lt_of_cell? W _ hc))).trans hc
  show Calls Try.prog 34 #[.agg #[.int .i64 o1, .int .i64 (tk : Int), .bool gr, v1, v2, v3], .pointer (some ⟨g, 0, none⟩)] W _
  cases hb : (o1 == op)
  all_goals
    have he : decide (o1 = op) = (o1 == op) := rfl
    rw [hb] at he
    show Calls Try.prog 34 #[.agg #[.int .i64 o1, .int .i64 (tk : Int), .bool gr, v1, v2, v3], .pointer (some ⟨g, 0, none⟩)] W _
    go_enter Try.func34, Try.ntmps34
    go_wp2
    go_ret
    exact ⟨by first | rfl | simp_all, (Below.refl _ _).alloc (Nat.le_refl _) _⟩
theorem ops_one (r : OpR) (h : r ∈ OPS) : (opL r).toArray.all (·.oneCell') = true := by
  have h0 : OPS.all (fun r => (opL r).toArray.all (·.oneCell')) = true := by kernel_rfl
  exact (List.all_eq_true.1 h0) r h
def zOp : OpR := ⟨0, 0, false, .nilFunc, .nilFunc, .nilFunc⟩
set_option maxRecDepth 100000 in
set_option maxHeartbeats 4000000 in
theorem find_yes (op : Int) (i : Nat) (r : OpR) (hr : OPS[i]? = some r) (hi : idxP (fun r => r.op == op) OPS = (i : Int)) (w : World) :
    Calls Try.prog 26 #[.int .i64 op] w fun e w' => e = .returned (.tuple #[.agg (opL r).toArray, .bool true]) ∧ Below w.heap.size w w' := by
  have hlt : i < 20 := by
    have := (List.getElem?_eq_some_iff.1 hr).1
    simpa [OPS] using this
  have B2 : Below w.heap.size w ((w.alloc (.cells #[.int .i64 op] 3)).alloc (.cells #[.int .i64 0, .int .i64 0, .bool false, .nilFunc, .nilFunc, .nilFunc] 53)) := ((Below.refl _ _).alloc (Nat.le_refl _) _).alloc (by simp) _
  have K1 : Blk ((w.alloc (.cells #[.int .i64 op] 3)).alloc (.cells #[.int .i64 0, .int .i64 0, .bool false, .nilFunc, .nilFunc, .nilFunc] 53)) (w.heap.size + 1) 53 #[.int .i64 0, .int .i64 0, .bool false, .nilFunc, .nilFunc, .nilFunc] := by
    have := Blk.new (w.alloc (.cells #[.int .i64 op] 3)) 53 #[.int .i64 0, .int .i64 0, .bool false, .nilFunc, .nilFunc, .nilFunc]
    rwa [World.size_alloc] at this
  have K0 : Blk ((w.alloc (.cells #[.int .i64 op] 3)).alloc (.cells #[.int .i64 0, .int .i64 0, .bool false, .nilFunc, .nilFunc, .nilFunc] 53)) w.heap.size 3 #[.int .i64 op] := (Blk.new w _ _).below ((Below.refl _ _).alloc (Nat.le_refl _) _)
  have s0 : ((w.alloc (.cells #[.int .i64 op] 3)).alloc (.cells #[.int .i64 0, .int .i64 0, .bool false, .nilFunc, .nilFunc, .nilFunc] 53)).heap.size = w.heap.size + 1 + 1 := by simp
  have HI := Lib.hid hi
  have HR := Lib.hid hr
  clear hi hr
  go_enter Try.func26, Try.ntmps26
  go_wp2_with (first
    | (go_at_call 32; ((with_reducible refine (operators_any _).mono ?_); rintro e w1 ⟨rfl, b1⟩; have K1 := K1.below b1; have K0 := K0.below b1; have B3 := B2.trans (b1.mono B2.size); have s1 := b1.size; rw [s0] at s1))
    | (refine wpList_store_fresh rfl 62 (.tmp 4) (.tmp 6) (by rfl) (OPS.flatMap opL).toArray _ _ (by rfl) (by rfl) (by kernel_rfl) (by kernel_rfl) (by kernel_rfl) ?_; intro W2 k2 b2 z2; have K1 := K1.below b2; have K0 := K0.below b2; have B4 := B3.trans (b2.mono B3.size); have c0 := K0.cell 0; simp only [List.getElem?_toArray, List.getElem?_cons_zero] at c0)
    | (go_at_call 33; (refine (idxOp_any 34 #[.pointer (some ⟨w.heap.size, 0, none⟩)] (fun r => r.op == op) (w1.heap.size + 1) (some ⟨w1.heap.size, 0, none⟩) 20 OPS W2 (by omega) (lists_blk k2) (by decide) (fun _ _ => rfl) (fun W x _ hb => isOp_any x op w.heap.size W (by first | exact (hb.cell (by omega)).trans c0 | exact (hb.cell (by simp; omega)).trans c0))).mono ?_); rw [HI.out]; rintro e w3 ⟨rfl, b3⟩; have K1 := K1.below b3; have k2 := k2.below b3; have B5 := B4.trans (b3.mono B4.size); have d1 : decide ((i : Int) < 0) = false := by simp)
    | (refine wpList_load_mid rfl 53 _ (by with_reducible rfl) w1.heap.size (i * 6) (by rfl) (opL r) _ (fun j v hv => by have h0 := range_blk k2 (i * 6 + j) v (flat_at opLen OPS i r HR.out j v hv); rwa [Nat.zero_add] at h0) Try.underlying53 rfl (by kernel_rfl) ?_)
    | (refine wpList_store_row rfl 53 (.tmp 2) (.tmp 15) (by rfl) (w.heap.size + 1) (opL r).toArray (by rfl) (by rfl) _ _ K1 (by kernel_rfl) (by kernel_rfl) (ops_one r (List.mem_of_getElem? HR.out)) ?_))
  refine bodyPost_ret (results_row_tmp Try.results26 _ _ (w.heap.size + 1) _ (opL r).toArray (0, 0) _ (.bool true) (by rfl) (by rfl) (blk_row K1 _) Try.underlying53 rfl (by kernel_rfl)) rfl ⟨rfl, ?_⟩
  exact below_setRow B5 (by omega) _
set_option maxRecDepth 100000 in
set_option maxHeartbeats 4000000 in
theorem find_no (op : Int) (hi : idxP (fun r => r.op == op) OPS = -1) (w : World) :
    Calls Try.prog 26 #[.int .i64 op] w fun e w' => e = .returned (.tuple #[.agg (opL zOp).toArray, .bool false]) ∧ Below w.heap.size w w' := by
  have _h := hi
  have B2 : Below w.heap.size w ((w.alloc (.cells #[.int .i64 op] 3)).alloc (.cells #[.int .i64 0, .int .i64 0, .bool false, .nilFunc, .nilFunc, .nilFunc] 53)) := ((Below.refl _ _).alloc (Nat.le_refl _) _).alloc (by simp) _
  have K1 : Blk ((w.alloc (.cells #[.int .i64 op] 3)).alloc (.cells #[.int .i64 0, .int .i64 0, .bool false, .nilFunc, .nilFunc, .nilFunc] 53)) (w.heap.size + 1) 53 #[.int .i64 0, .int .i64 0, .bool false, .nilFunc, .nilFunc, .nilFunc] := by
    have := Blk.new (w.alloc (.cells #[.int .i64 op] 3)) 53 #[.int .i64 0, .int .i64 0, .bool false, .nilFunc, .nilFunc, .nilFunc]
    rwa [World.size_alloc] at this
  have K0 : Blk ((w.alloc (.cells #[.int .i64 op] 3)).alloc (.cells #[.int .i64 0, .int .i64 0, .bool false, .nilFunc, .nilFunc, .nilFunc] 53)) w.heap.size 3 #[.int .i64 op] := (Blk.new w _ _).below ((Below.refl _ _).alloc (Nat.le_refl _) _)
  have s0 : ((w.alloc (.cells #[.int .i64 op] 3)).alloc (.cells #[.int .i64 0, .int .i64 0, .bool false, .nilFunc, .nilFunc, .nilFunc] 53)).heap.size = w.heap.size + 1 + 1 := by simp
  have HI := Lib.hid hi
  
  clear hi
  go_enter Try.func26, Try.ntmps26
  go_wp2_with (first
    | (go_at_call 32; ((with_reducible refine (operators_any _).mono ?_); rintro e w1 ⟨rfl, b1⟩; have K1 := K1.below b1; have K0 := K0.below b1; have B3 := B2.trans (b1.mono B2.size); have s1 := b1.size; rw [s0] at s1))
    | (refine wpList_store_fresh rfl 62 (.tmp 4) (.tmp 6) (by rfl) (OPS.flatMap opL).toArray _ _ (by rfl) (by rfl) (by kernel_rfl) (by kernel_rfl) (by kernel_rfl) ?_; intro W2 k2 b2 z2; have K1 := K1.below b2; have K0 := K0.below b2; have B4 := B3.trans (b2.mono B3.size); have c0 := K0.cell 0; simp only [List.getElem?_toArray, List.getElem?_cons_zero] at c0)
    | (go_at_call 33; (refine (idxOp_any 34 #[.pointer (some ⟨w.heap.size, 0, none⟩)] (fun r => r.op == op) (w1.heap.size + 1) (some ⟨w1.heap.size, 0, none⟩) 20 OPS W2 (by omega) (lists_blk k2) (by decide) (fun _ _ => rfl) (fun W x _ hb => isOp_any x op w.heap.size W (by first | exact (hb.cell (by omega)).trans c0 | exact (hb.cell (by simp; omega)).trans c0))).mono ?_); rw [HI.out]; rintro e w3 ⟨rfl, b3⟩; have K1 := K1.below b3; have k2 := k2.below b3; have B5 := B4.trans (b3.mono B4.size))
    | (refine wpList_store_row rfl 53 (.tmp 2) (.tmp 12) (by rfl) (w.heap.size + 1) (opL zOp).toArray (by rfl) (by rfl) _ _ K1 (by kernel_rfl) (by kernel_rfl) (by kernel_rfl) ?_))
  refine bodyPost_ret (results_row_tmp Try.results26 _ _ (w.heap.size + 1) _ (opL zOp).toArray (0, 0) _ (.bool false) (by rfl) (by rfl) (blk_row K1 _) Try.underlying53 rfl (by kernel_rfl)) rfl ⟨rfl, ?_⟩
  exact below_setRow B5 (by omega) _
end Go.Proofs.Ytkhafhdmcalhbaa

namespace Go.Proofs.Ytkhafhdmcalhbaa
open Go Go.RowKit
set_option linter.unusedVariables false
set_option linter.unusedSimpArgs false

/-- What a function of the stack leaves: its numbers, a code; the Stack as it is behind it (its numbers still where they were). -/
def Res (q : Nat) (nv : Value) (w : World) (code : Int) (out L St ds : List Int) (e : Ending) (w' : World) : Prop :=
  ∃ A c, e = .returned (.tuple #[.slice A out.length c, .int .i64 code]) ∧ Lists w' w'.heap.size A (intCells out) ∧ Sk w' q nv L St ds ∧ Mod w w' q nv nv
theorem Res.after {q : Nat} {nv : Value} {w w1 : World} {code : Int} {out L St ds : List Int} {e : Ending} {w' : World} (h : Res q nv w1 code out L St ds e w') (b : Below w.heap.size w w1) : Res q nv w code out L St ds e w' := by
  obtain ⟨A, c, h1, h2, h3, h4⟩ := h
  exact ⟨A, c, h1, h2, h3, (Mod.below b).trans h4⟩
theorem lists_in {w : World} {B : Nat} {A : Option Addr} {xs : List Value} (h : Lists w B A xs) (hB : B ≤ w.heap.size) : Lists w w.heap.size A xs := h.more hB
set_option maxRecDepth 100000 in
set_option maxHeartbeats 1000000 in
theorem whole_any (x : Int) (w : World) (h1 : -9223372036854775808 ≤ x) (h2 : x ≤ 9223372036854775807) : Calls Try.prog 71 #[.int .i64 x] w fun e w' => e = .returned (.int .i64 (x / 65536)) ∧ w = w' := by
  go_enter Try.func71, Try.ntmps71
  go_wp2
  go_ret
  exact ⟨rfl, rfl⟩
theorem whole_may (x : Int) (w : World) (h : mayB x = true) : Calls Try.prog 71 #[.int .i64 x] w fun e w' => e = .returned (.int .i64 (x / 65536)) ∧ w = w' := by
  unfold mayB at h
  simp only [Bool.and_eq_true, decide_eq_true_eq] at h
  exact whole_any x w (by omega) (by omega)
set_option maxRecDepth 100000 in
set_option maxHeartbeats 1000000 in
theorem modulo_any (x n : Int) (w : World) (hn : 0 < n) (hn2 : n ≤ 1099511627776) : Calls Try.prog 72 #[.int .i64 x, .int .i64 n] w fun e w' => e = .returned (.int .i64 (x % n)) ∧ w = w' := by
  have h := go_mod x n hn
  have h0 := Int.emod_nonneg x (show n ≠ 0 by omega)
  have h1 := Int.emod_lt_of_pos x hn
  have hx : -n < x.tmod n ∧ x.tmod n < n := by
    rcases Int.lt_or_le x 0 with hx | hx
    · obtain ⟨m, rfl⟩ : ∃ m, x = -m := ⟨-x, by omega⟩
      rw [Int.neg_tmod, Int.tmod_eq_emod_of_nonneg (by omega)]
      have := Int.emod_lt_of_pos m hn
      have := Int.emod_nonneg m (show n ≠ 0 by omega)
      omega
    · rw [Int.tmod_eq_emod_of_nonneg hx]
      omega
  have hne : n ≠ 0 := by omega
  have q1 : wrap64 (x.tmod n) = x.tmod n := by simp [wrap64]; omega
  have q2 : wrap64 (x.tmod n + n) = x.tmod n + n := by simp [wrap64]; omega
  have q3 : wrap64 ((x.tmod n + n).tmod n) = x % n := by rw [h]; simp [wrap64]; omega
  have p1 : ∀ w, (binOp .rem 3 (.int .i64 x) (.int .i64 n)).run Try.prog w = .ok (.int .i64 (x.tmod n)) w := fun w => by go_simp
  have p2 : ∀ w, (binOp .rem 3 (.int .i64 (x.tmod n + n)) (.int .i64 n)).run Try.prog w = .ok (.int .i64 (x % n)) w := fun w => by go_simp
  generalize hy : x.tmod n = y at *
  go_enter Try.func72, Try.ntmps72
  go_wp2
  go_ret
  exact ⟨rfl, rfl⟩
set_option maxRecDepth 100000 in
set_option maxHeartbeats 1000000 in
theorem isPlace_any (x : Int) (w : World) : Calls Try.prog 73 #[.int .i64 x] w fun e w' => e = .returned (.bool (decide (0 ≤ x ∧ x < 32))) ∧ w = w' := by
  by_cases h1 : 0 ≤ x
  · have d1 : decide (0 ≤ x) = true := by simpa using h1
    have e1 : decide (0 ≤ x ∧ x < 32) = decide (x < 32) := by simp [h1]
    rw [e1]
    go_enter Try.func73, Try.ntmps73
    go_wp2
    go_ret
    exact ⟨rfl, rfl⟩
  · have d1 : decide (0 ≤ x) = false := by simpa using h1
    have e1 : decide (0 ≤ x ∧ x < 32) = false := by simp; omega
    rw [e1]
    go_enter Try.func73, Try.ntmps73
    go_wp2
    go_ret
    exact ⟨rfl, rfl⟩
theorem slice_up (A : Option Addr) (n c b : Nat) (h2 : b ≤ c) (w : World) : (Instr.sliceAt 22 (.slice A n c) none (some (.int .i64 (b : Nat))) none).run Try.prog w = .ok (.slice A b c) w := by
  have hu := Try.underlying22
  have hz := Try.sizeOf3
  have i2 : (b : Int) ≤ (c : Int) := by omega
  have i1 : (0 : Int) ≤ (b : Int) := by omega
  cases A <;> simp [Instr.sliceAt, Instr.slice, Instr.sliceBounds, Instr.sliceBound, run_underlying hu, Sem.run_bind, Sem.run_pure, Result.andThen, asIntOf, hz, i1, i2, h2, Addr.add]
set_option maxRecDepth 100000 in
set_option maxHeartbeats 1000000 in
theorem below_any (q : Nat) (A0 : Option Addr) (n k n0 : Nat) (L St ds : List Int) (At : Option Addr) (ct : Nat) (w : World) (h : Sk w q (.slice A0 n n0) L St ds) (hn : n = L.length) (hk : k ≤ n) :
    Calls Try.prog 70 #[.pointer (some ⟨q, 0, none⟩), .slice At k ct] w fun e w' => e = .returned (.slice A0 (n - k) n0) ∧ Below w.heap.size w w' := by
  obtain ⟨A, c, hb, hls, hcc⟩ := h.blk
  have c0 := hb.cell 0
  rw [sk_c0] at c0
  have f0 := hb.frozen 0
  have hn0 : n ≤ n0 := by obtain ⟨A1, n1, he, _, h1⟩ := own_lists h.own; cases he; omega
  have hn48 : n ≤ 48 := by have := h.len; omega
  obtain ⟨r, rfl⟩ : ∃ r, n = r + k := ⟨n - k, by omega⟩
  rw [show r + k - k = r by omega]
  have SU := fun W => slice_up A0 (r + k) n0 r (by omega) W
  have e1 : IntKind.i64.wrap (((r + k : Nat) : Int) - (k : Int)) = (r : Int) := by simp [IntKind.wrap, IntKind.bits, IntKind.signed]; omega
  have b0 : Below w.heap.size w w.drew := (Below.refl _ _).drew
  have C0 : ∀ W, Below w.heap.size w W → W.cell? ⟨q, 0, none⟩ = some (.slice A0 (r + k) n0) := fun W hb' => (hb'.cell (p := ⟨q, 0, none⟩) h.lt).trans c0
  clear hb hls h hn hk hn48 hn0
  generalize hm : r + k = m at *
  clear hm
  go_enter Try.func70, Try.ntmps70
  go_wp2
  have hI : Below w.heap.size w w.drew := b0
  refine wp_region_chain (fun V => Below w.heap.size w V) [(0, false), (1, false), (2, false), (3, false), (4, false), (5, false), (6, false), (7, false), (8, false), (9, false), (10, false), (11, false), (12, false), (13, false)] (by kernel_rfl) (by kernel_rfl) hI ?_
  repeat (first
    | (refine ChainL.skip (o := ?_) ?_ ?_ ?_; rotate_left; (focus (first | (simp only [List.getElem?_toArray, List.getElem?_cons_succ, List.getElem?_cons_zero]; with_reducible rfl) | (simp only [List.getElem?_toArray, List.getElem?_cons_zero]; with_reducible rfl))); (focus rfl); simp only [Act.put, List.setIfInBounds_toArray, List.set_cons_zero, List.set_cons_succ])
    | (refine ChainL.val (o := ?_) (v := ?_) ?_ ?_ ?_ ?_ ?_; rotate_left 2; (focus (first | (simp only [List.getElem?_toArray, List.getElem?_cons_succ, List.getElem?_cons_zero]; with_reducible rfl) | (simp only [List.getElem?_toArray, List.getElem?_cons_zero]; with_reducible rfl))); (focus (intro _ _ h; cases h)); (focus rfl); (focus (intro w' hJ; have y0 := C0 _ hJ; go_simp <;> with_reducible rfl)); simp only [Act.put, List.setIfInBounds_toArray, List.set_cons_zero, List.set_cons_succ]))
  refine ChainL.nil ?_
  go_wp2
  go_ret
  exact ⟨rfl, hI⟩
end Go.Proofs.Ytkhafhdmcalhbaa

namespace Go.Proofs.Ytkhafhdmcalhbaa
open Go.RowKit

theorem ret_iiv {k l : IntKind} {a b a' b' : Int} {v : Value} (h : a = a') (g : b = b') : Ending.returned (.tuple #[.int k a, .int l b, v]) = .returned (.tuple #[.int k a', .int l b', v]) := by rw [h, g]

theorem split_same (a b n d : Int) (w : World) (ha : -4611686018427387904 ≤ a) (hb : -4611686018427387904 ≤ b) (ha2 : a ≤ 4611686018427387904) (hb2 : b ≤ 4611686018427387904)
    (hn : max a (-a) = n) (hdd : max b (-b) = d) (hd : (!decide (a < 0) == decide (b < 0)) = false) :
    Calls Try.prog 77 #[.int .i64 a, .int .i64 b] w fun e w' => e = .returned (.tuple #[.int .i64 n, .int .i64 d, .func (.func 78) #[] #[]]) ∧ w = w' := by
  go_enter Try.func77, Try.ntmps77
  go_wp2
  all_goals go_ret3
  all_goals exact ⟨ret_iiv (by omega) (by omega), rfl⟩

theorem split_diff (a b n d : Int) (w : World) (ha : -4611686018427387904 ≤ a) (hb : -4611686018427387904 ≤ b) (ha2 : a ≤ 4611686018427387904) (hb2 : b ≤ 4611686018427387904)
    (hn : max a (-a) = n) (hdd : max b (-b) = d) (hd : (!decide (a < 0) == decide (b < 0)) = true) :
    Calls Try.prog 77 #[.int .i64 a, .int .i64 b] w fun e w' => e = .returned (.tuple #[.int .i64 n, .int .i64 d, .func (.func 79) #[] #[]]) ∧ w = w' := by
  go_enter Try.func77, Try.ntmps77
  go_wp2
  all_goals go_ret3
  all_goals exact ⟨ret_iiv (by omega) (by omega), rfl⟩

theorem nearest_same (a b n d : Int) (w : World) (ha : -4611686018427387904 ≤ a) (hb : -4611686018427387904 ≤ b) (ha2 : a ≤ 4611686018427387904) (hb2 : b ≤ 4611686018427387904)
    (hn : max a (-a) = n) (hdd : max b (-b) = d) (h0 : 0 < d) (hd : (!decide (a < 0) == decide (b < 0)) = false) :
    Calls Try.prog 76 #[.int .i64 a, .int .i64 b] w fun e w' => e = .returned (.int .i64 (near a b)) ∧ ∃ k, w' = w.drewN k := by
  have C := split_same a b n d w ha hb ha2 hb2 hn hdd hd
  have Hq := near_same hn hdd h0 hd
  generalize near a b = q at Hq ⊢
  have n0 : 0 ≤ n := by omega
  have n1 : n ≤ 4611686018427387904 := by omega
  have d1 : d ≤ 4611686018427387904 := by omega
  have r0 : 0 ≤ n % d := Int.emod_nonneg n (by omega)
  have r1 : n % d < d := Int.emod_lt_of_pos n h0
  have q0 : 0 ≤ n / d := Int.ediv_nonneg n0 (by omega)
  have q1 : n / d ≤ n := Int.ediv_le_self d n0
  clear hn hdd hd
  rcases (by omega : d < 2 * (n % d) ∨ 2 * (n % d) = d ∨ 2 * (n % d) < d) with h | h | h
  · have HE : Hid (q = (n / d + 1)) := (by rw [Hq, if_pos (by omega)] : q = (n / d + 1))
    clear Hq
    go_enter Try.func76, Try.ntmps76
    go_wp2_with (go_at_call 77; refine C.mono ?_; rintro e w' ⟨rfl, rfl⟩)
    go_quiet (fail)
    go_wp2
    go_ret
    exact ⟨ret_int HE.out.symm, _, rfl⟩
  · have HE : Hid (q = n / d + 1) := (by rw [Hq, if_pos (by omega)] : q = n / d + 1)
    have hb : (2 * (n % d) == d) = true := by simp [h]
    have hl : ¬ d < 2 * (n % d) := by omega
    clear h Hq
    go_enter Try.func76, Try.ntmps76
    go_wp2_with (go_at_call 77; refine C.mono ?_; rintro e w' ⟨rfl, rfl⟩)
    go_quiet (fail)
    go_wp2
    go_ret
    exact ⟨ret_int HE.out.symm, _, rfl⟩
  · have HE : Hid (q = (n / d)) := (by rw [Hq, if_neg (by omega)]; simp : q = (n / d))
    have hb : (2 * (n % d) == d) = false := by rw [Bool.eq_false_iff]; intro c; have := eq_of_beq c; omega
    have hl : ¬ d < 2 * (n % d) := by omega
    clear Hq
    go_enter Try.func76, Try.ntmps76
    go_wp2_with (go_at_call 77; refine C.mono ?_; rintro e w' ⟨rfl, rfl⟩)
    go_quiet (fail)
    go_wp2
    go_ret
    exact ⟨ret_int HE.out.symm, _, rfl⟩

theorem nearest_diff (a b n d : Int) (w : World) (ha : -4611686018427387904 ≤ a) (hb : -4611686018427387904 ≤ b) (ha2 : a ≤ 4611686018427387904) (hb2 : b ≤ 4611686018427387904)
    (hn : max a (-a) = n) (hdd : max b (-b) = d) (h0 : 0 < d) (hd : (!decide (a < 0) == decide (b < 0)) = true) :
    Calls Try.prog 76 #[.int .i64 a, .int .i64 b] w fun e w' => e = .returned (.int .i64 (near a b)) ∧ ∃ k, w' = w.drewN k := by
  have C := split_diff a b n d w ha hb ha2 hb2 hn hdd hd
  have Hq := near_diff hn hdd h0 hd
  generalize near a b = q at Hq ⊢
  have n0 : 0 ≤ n := by omega
  have n1 : n ≤ 4611686018427387904 := by omega
  have d1 : d ≤ 4611686018427387904 := by omega
  have r0 : 0 ≤ n % d := Int.emod_nonneg n (by omega)
  have r1 : n % d < d := Int.emod_lt_of_pos n h0
  have q0 : 0 ≤ n / d := Int.ediv_nonneg n0 (by omega)
  have q1 : n / d ≤ n := Int.ediv_le_self d n0
  clear hn hdd hd
  rcases (by omega : d < 2 * (n % d) ∨ 2 * (n % d) = d ∨ 2 * (n % d) < d) with h | h | h
  · have HE : Hid (q = -(n / d + 1)) := (by rw [Hq, if_pos (by omega)] : q = -(n / d + 1))
    clear Hq
    go_enter Try.func76, Try.ntmps76
    go_wp2_with (go_at_call 77; refine C.mono ?_; rintro e w' ⟨rfl, rfl⟩)
    go_quiet (fail)
    go_wp2
    go_ret
    exact ⟨ret_int HE.out.symm, _, rfl⟩
  · have HE : Hid (q = -(n / d)) := (by rw [Hq, if_neg (by omega)]; simp : q = -(n / d))
    have hb : (2 * (n % d) == d) = true := by simp [h]
    have hl : ¬ d < 2 * (n % d) := by omega
    clear h Hq
    go_enter Try.func76, Try.ntmps76
    go_wp2_with (go_at_call 77; refine C.mono ?_; rintro e w' ⟨rfl, rfl⟩)
    go_quiet (fail)
    go_wp2
    go_ret
    exact ⟨ret_int HE.out.symm, _, rfl⟩
  · have HE : Hid (q = -(n / d)) := (by rw [Hq, if_neg (by omega)]; simp : q = -(n / d))
    have hb : (2 * (n % d) == d) = false := by rw [Bool.eq_false_iff]; intro c; have := eq_of_beq c; omega
    have hl : ¬ d < 2 * (n % d) := by omega
    clear Hq
    go_enter Try.func76, Try.ntmps76
    go_wp2_with (go_at_call 77; refine C.mono ?_; rintro e w' ⟨rfl, rfl⟩)
    go_quiet (fail)
    go_wp2
    go_ret
    exact ⟨ret_int HE.out.symm, _, rfl⟩

theorem nearest_any (a b : Int) (w : World) (ha : -4611686018427387904 ≤ a) (hb : -4611686018427387904 ≤ b) (ha2 : a ≤ 4611686018427387904) (hb2 : b ≤ 4611686018427387904) (h0 : b ≠ 0) :
    Calls Try.prog 76 #[.int .i64 a, .int .i64 b] w fun e w' => e = .returned (.int .i64 (near a b)) ∧ ∃ k, w' = w.drewN k := by
  by_cases h : (!decide (a < 0) == decide (b < 0)) = true
  · exact nearest_diff a b _ _ w ha hb ha2 hb2 rfl rfl (by omega) h
  · exact nearest_same a b _ _ w ha hb ha2 hb2 rfl rfl (by omega) (by simpa using h)

end Go.Proofs.Ytkhafhdmcalhbaa

namespace Go.Proofs.Ytkhafhdmcalhbaa
open Go.RowKit

theorem ret_ii {k l : IntKind} {a b a' b' : Int} (h : a = a') (g : b = b') : Ending.returned (.tuple #[.int k a, .int l b]) = .returned (.tuple #[.int k a', .int l b']) := by rw [h, g]

end Go.Proofs.Ytkhafhdmcalhbaa

namespace Go.Proofs.Ytkhafhdmcalhbaa
open Go.RowKit

theorem cells2 (w0 : World) (b : Nat) (hb : w0.heap.size = b) (x y : Int) (t : TypeId) (j : Nat) (hj : j < [x, y].length) :
    (w0.alloc (.cells #[.int .i64 x, .int .i64 y] t)).cell? ⟨b, 0 + j, none⟩ = some (.int .i64 ([x, y].getD j 0)) := by
  rw [World.cell?_alloc_at _ _ _ _ hb.symm]
  match j, hj with
  | 0, _ => rfl
  | 1, _ => rfl

theorem cells3 (w0 : World) (b : Nat) (hb : w0.heap.size = b) (x y z : Int) (t : TypeId) (j : Nat) (hj : j < [x, y, z].length) :
    (w0.alloc (.cells #[.int .i64 x, .int .i64 y, .int .i64 z] t)).cell? ⟨b, 0 + j, none⟩ = some (.int .i64 ([x, y, z].getD j 0)) := by
  rw [World.cell?_alloc_at _ _ _ _ hb.symm]
  match j, hj with
  | 0, _ => rfl
  | 1, _ => rfl
  | 2, _ => rfl

theorem all2 (x y : Int) : [x, y].all mayB = (mayB x && mayB y) := by simp
theorem all3 (x y z : Int) : [x, y, z].all mayB = (mayB x && mayB y && mayB z) := by simp [Bool.and_assoc]

/-- a result, if it may be -/
def outR (x : Int) : Int := if mayB x then x else 0
def outE (x : Int) : Int := if mayB x then 0 else 10

theorem mayB_lo {x : Int} (h : mayB x = true) : -2147483648 ≤ x := by unfold mayB at h; simp at h; exact h.1
theorem mayB_hi {x : Int} (h : mayB x = true) : x ≤ 2147483648 := by unfold mayB at h; simp at h; exact h.2

theorem below_next {w w1 w2 : World} (h : Below w.heap.size w w1) (g : Below w1.heap.size w1 w2) : Below w.heap.size w w2 := h.trans (g.mono h.size)
theorem below_a1 (w : World) (o : Obj) : Below w.heap.size w (w.alloc o) := (Below.refl _ _).alloc (Nat.le_refl _) o
theorem below_a2 (w : World) (o p : Obj) : Below w.heap.size w ((w.alloc o).alloc p) := (below_a1 w o).alloc (by simp) p
theorem below_a3 (w : World) (o p q : Obj) : Below w.heap.size w (((w.alloc o).alloc p).alloc q) := (below_a2 w o p).alloc (by simp; omega) q
theorem below_a4 (w : World) (o p q r : Obj) : Below w.heap.size w ((((w.alloc o).alloc p).alloc q).alloc r) := (below_a3 w o p q).alloc (by simp; omega) r
theorem below_a5 (w : World) (o p q r s : Obj) : Below w.heap.size w (((((w.alloc o).alloc p).alloc q).alloc r).alloc s) := (below_a4 w o p q r).alloc (by simp; omega) s

theorem add_no (a b : Int) (w : World) (h : (mayB a && mayB b) = false) :
    Calls Try.prog 45 #[.int .i64 a, .int .i64 b] w fun e w' => e = .returned (.tuple #[.int .i64 0, .int .i64 10]) ∧ Below w.heap.size w w' := by
  have hmf : ∀ (fn : Fn) (first cap : Array Value) (w : World), (Instr.makeFunc fn first cap).run Try.prog w = .ok (.func fn first cap) w := fun _ _ _ _ => rfl
  have C := allMay_fixed (w.heap.size + 1 + 1) 0 2 2 [a, b] (((w.alloc (.cells #[.int .i64 a] 3)).alloc (.cells #[.int .i64 b] 3)).alloc (.cells #[.int .i64 a, .int .i64 b] 3)) rfl (by decide) (fun j hj => cells2 _ _ (by simp) a b _ j hj)
  rw [all2, h] at C
  go_enter Try.func45, Try.ntmps45
  go_wp2_with (first | (go_at_call 74; refine C.mono ?_; rintro e w' ⟨rfl, rfl⟩) | go_in)
  go_ret2
  exact ⟨rfl, below_a3 _ _ _ _⟩

theorem add_yes (a b : Int) (w : World) (h : (mayB a && mayB b) = true) :
    Calls Try.prog 45 #[.int .i64 a, .int .i64 b] w fun e w' => e = .returned (.tuple #[.int .i64 (outR (a + b)), .int .i64 (outE (a + b))]) ∧ Below w.heap.size w w' := by
  have hmf : ∀ (fn : Fn) (first cap : Array Value) (w : World), (Instr.makeFunc fn first cap).run Try.prog w = .ok (.func fn first cap) w := fun _ _ _ _ => rfl
  have C := allMay_fixed (w.heap.size + 1 + 1) 0 2 2 [a, b] (((w.alloc (.cells #[.int .i64 a] 3)).alloc (.cells #[.int .i64 b] 3)).alloc (.cells #[.int .i64 a, .int .i64 b] 3)) rfl (by decide) (fun j hj => cells2 _ _ (by simp) a b _ j hj)
  rw [all2, h] at C
  rw [Bool.and_eq_true] at h
  have a1 := mayB_lo h.1
  have a2 := mayB_hi h.1
  have b1 := mayB_lo h.2
  have b2 := mayB_hi h.2
  clear h
  by_cases hr : mayB (a + b) = true
  · have D : ∀ w, Calls Try.prog 25 #[.int .i64 (a + b)] w fun e w' => e = .returned (.bool true) ∧ w = w' := fun w => by have := may_any (a + b) w; rwa [hr] at this
    rw [show outR (a + b) = a + b by simp [outR, hr], show outE (a + b) = 0 by simp [outE, hr]]
    clear hr
    go_enter Try.func45, Try.ntmps45
    go_wp2_with (first | (go_at_call 74; refine C.mono ?_; rintro e w' ⟨rfl, rfl⟩) | (go_at_call 25; refine (D _).mono ?_; rintro e w' ⟨rfl, rfl⟩) | go_in)
    go_ret2
    exact ⟨rfl, below_a3 _ _ _ _⟩
  · have hr : mayB (a + b) = false := by simpa using hr
    have D : ∀ w, Calls Try.prog 25 #[.int .i64 (a + b)] w fun e w' => e = .returned (.bool false) ∧ w = w' := fun w => by have := may_any (a + b) w; rwa [hr] at this
    rw [show outR (a + b) = 0 by simp [outR, hr], show outE (a + b) = 10 by simp [outE, hr]]
    clear hr
    go_enter Try.func45, Try.ntmps45
    go_wp2_with (first | (go_at_call 74; refine C.mono ?_; rintro e w' ⟨rfl, rfl⟩) | (go_at_call 25; refine (D _).mono ?_; rintro e w' ⟨rfl, rfl⟩) | go_in)
    go_ret2
    exact ⟨rfl, below_a3 _ _ _ _⟩

theorem sub_no (a b : Int) (w : World) (h : (mayB a && mayB b) = false) :
    Calls Try.prog 46 #[.int .i64 a, .int .i64 b] w fun e w' => e = .returned (.tuple #[.int .i64 0, .int .i64 10]) ∧ Below w.heap.size w w' := by
  have hmf : ∀ (fn : Fn) (first cap : Array Value) (w : World), (Instr.makeFunc fn first cap).run Try.prog w = .ok (.func fn first cap) w := fun _ _ _ _ => rfl
  have C := allMay_fixed (w.heap.size + 1 + 1) 0 2 2 [a, b] (((w.alloc (.cells #[.int .i64 a] 3)).alloc (.cells #[.int .i64 b] 3)).alloc (.cells #[.int .i64 a, .int .i64 b] 3)) rfl (by decide) (fun j hj => cells2 _ _ (by simp) a b _ j hj)
  rw [all2, h] at C
  go_enter Try.func46, Try.ntmps46
  go_wp2_with (first | (go_at_call 74; refine C.mono ?_; rintro e w' ⟨rfl, rfl⟩) | go_in)
  go_ret2
  exact ⟨rfl, below_a3 _ _ _ _⟩

theorem sub_yes (a b : Int) (w : World) (h : (mayB a && mayB b) = true) :
    Calls Try.prog 46 #[.int .i64 a, .int .i64 b] w fun e w' => e = .returned (.tuple #[.int .i64 (outR (a - b)), .int .i64 (outE (a - b))]) ∧ Below w.heap.size w w' := by
  have hmf : ∀ (fn : Fn) (first cap : Array Value) (w : World), (Instr.makeFunc fn first cap).run Try.prog w = .ok (.func fn first cap) w := fun _ _ _ _ => rfl
  have C := allMay_fixed (w.heap.size + 1 + 1) 0 2 2 [a, b] (((w.alloc (.cells #[.int .i64 a] 3)).alloc (.cells #[.int .i64 b] 3)).alloc (.cells #[.int .i64 a, .int .i64 b] 3)) rfl (by decide) (fun j hj => cells2 _ _ (by simp) a b _ j hj)
  rw [all2, h] at C
  rw [Bool.and_eq_true] at h
  have a1 := mayB_lo h.1
  have a2 := mayB_hi h.1
  have b1 := mayB_lo h.2
  have b2 := mayB_hi h.2
  clear h
  by_cases hr : mayB (a - b) = true
  · have D : ∀ w, Calls Try.prog 25 #[.int .i64 (a - b)] w fun e w' => e = .returned (.bool true) ∧ w = w' := fun w => by have := may_any (a - b) w; rwa [hr] at this
    rw [show outR (a - b) = a - b by simp [outR, hr], show outE (a - b) = 0 by simp [outE, hr]]
    clear hr
    go_enter Try.func46, Try.ntmps46
    go_wp2_with (first | (go_at_call 74; refine C.mono ?_; rintro e w' ⟨rfl, rfl⟩) | (go_at_call 25; refine (D _).mono ?_; rintro e w' ⟨rfl, rfl⟩) | go_in)
    go_ret2
    exact ⟨rfl, below_a3 _ _ _ _⟩
  · have hr : mayB (a - b) = false := by simpa using hr
    have D : ∀ w, Calls Try.prog 25 #[.int .i64 (a - b)] w fun e w' => e = .returned (.bool false) ∧ w = w' := fun w => by have := may_any (a - b) w; rwa [hr] at this
    rw [show outR (a - b) = 0 by simp [outR, hr], show outE (a - b) = 10 by simp [outE, hr]]
    clear hr
    go_enter Try.func46, Try.ntmps46
    go_wp2_with (first | (go_at_call 74; refine C.mono ?_; rintro e w' ⟨rfl, rfl⟩) | (go_at_call 25; refine (D _).mono ?_; rintro e w' ⟨rfl, rfl⟩) | go_in)
    go_ret2
    exact ⟨rfl, below_a3 _ _ _ _⟩

end Go.Proofs.Ytkhafhdmcalhbaa

namespace Go.Proofs.Ytkhafhdmcalhbaa
open Go.RowKit

theorem muldiv_arg (a b : Int) (w : World) (h : (mayB a && mayB b) = true) :
    Calls Try.prog 69 #[.int .i64 a, .int .i64 b, .int .i64 0] w fun e w' => e = .returned (.tuple #[.int .i64 0, .int .i64 1]) ∧ Below w.heap.size w w' := by
  have hmf : ∀ (fn : Fn) (first cap : Array Value) (w : World), (Instr.makeFunc fn first cap).run Try.prog w = .ok (.func fn first cap) w := fun _ _ _ _ => rfl
  have C := allMay_fixed (w.heap.size + 1 + 1 + 1) 0 2 2 [a, b] ((((w.alloc (.cells #[.int .i64 a] 3)).alloc (.cells #[.int .i64 b] 3)).alloc (.cells #[.int .i64 0] 3)).alloc (.cells #[.int .i64 a, .int .i64 b] 3)) rfl (by decide) (fun j hj => cells2 _ _ (by simp) a b _ j hj)
  rw [all2, h] at C
  go_enter Try.func69, Try.ntmps69
  go_wp2_with (first | (go_at_call 74; refine C.mono ?_; rintro e w' ⟨rfl, rfl⟩) | go_in)
  go_ret2
  exact ⟨rfl, below_a4 _ _ _ _ _⟩

theorem muldiv_zero (a b : Int) (w : World) (h : (mayB a && mayB b) = false) :
    Calls Try.prog 69 #[.int .i64 a, .int .i64 b, .int .i64 0] w fun e w' => e = .returned (.tuple #[.int .i64 0, .int .i64 10]) ∧ Below w.heap.size w w' := by
  have hmf : ∀ (fn : Fn) (first cap : Array Value) (w : World), (Instr.makeFunc fn first cap).run Try.prog w = .ok (.func fn first cap) w := fun _ _ _ _ => rfl
  have C := allMay_fixed (w.heap.size + 1 + 1 + 1) 0 2 2 [a, b] ((((w.alloc (.cells #[.int .i64 a] 3)).alloc (.cells #[.int .i64 b] 3)).alloc (.cells #[.int .i64 0] 3)).alloc (.cells #[.int .i64 a, .int .i64 b] 3)) rfl (by decide) (fun j hj => cells2 _ _ (by simp) a b _ j hj)
  have D := allMay_fixed (w.heap.size + 1 + 1 + 1 + 1) 0 3 3 [a, b, 0] (((((w.alloc (.cells #[.int .i64 a] 3)).alloc (.cells #[.int .i64 b] 3)).alloc (.cells #[.int .i64 0] 3)).alloc (.cells #[.int .i64 a, .int .i64 b] 3)).alloc (.cells #[.int .i64 a, .int .i64 b, .int .i64 0] 3)) rfl (by decide) (fun j hj => cells3 _ _ (by simp) a b 0 _ j hj)
  rw [all2, h] at C
  rw [all3, h, Bool.false_and] at D
  go_enter Try.func69, Try.ntmps69
  go_wp2_with (first | (go_at_call 74; ((with_reducible refine C.mono ?_); rintro e w' ⟨rfl, rfl⟩)) | (go_at_call 74; ((with_reducible refine D.mono ?_); rintro e w' ⟨rfl, rfl⟩)) | go_in)
  go_ret2
  exact ⟨rfl, below_a5 _ _ _ _ _ _⟩

theorem muldiv_no (a b c : Int) (w : World) (hc : c ≠ 0) (h : (mayB a && mayB b && mayB c) = false) :
    Calls Try.prog 69 #[.int .i64 a, .int .i64 b, .int .i64 c] w fun e w' => e = .returned (.tuple #[.int .i64 0, .int .i64 10]) ∧ Below w.heap.size w w' := by
  have hmf : ∀ (fn : Fn) (first cap : Array Value) (w : World), (Instr.makeFunc fn first cap).run Try.prog w = .ok (.func fn first cap) w := fun _ _ _ _ => rfl
  have h0 : (c == 0) = false := by simpa using hc
  have D := allMay_fixed (w.heap.size + 1 + 1 + 1) 0 3 3 [a, b, c] ((((w.alloc (.cells #[.int .i64 a] 3)).alloc (.cells #[.int .i64 b] 3)).alloc (.cells #[.int .i64 c] 3)).alloc (.cells #[.int .i64 a, .int .i64 b, .int .i64 c] 3)) rfl (by decide) (fun j hj => cells3 _ _ (by simp) a b c _ j hj)
  rw [all3, h] at D
  go_enter Try.func69, Try.ntmps69
  go_wp2_with (first | (go_at_call 74; refine D.mono ?_; rintro e w' ⟨rfl, rfl⟩) | go_in)
  go_ret2
  exact ⟨rfl, below_a4 _ _ _ _ _⟩

theorem muldiv_yes (a b c : Int) (w : World) (hc : c ≠ 0) (h : (mayB a && mayB b && mayB c) = true) :
    Calls Try.prog 69 #[.int .i64 a, .int .i64 b, .int .i64 c] w fun e w' => e = .returned (.tuple #[.int .i64 (outR (near (a * b) c)), .int .i64 (outE (near (a * b) c))]) ∧ Below w.heap.size w w' := by
  have hmf : ∀ (fn : Fn) (first cap : Array Value) (w : World), (Instr.makeFunc fn first cap).run Try.prog w = .ok (.func fn first cap) w := fun _ _ _ _ => rfl
  have h0 : (c == 0) = false := by simpa using hc
  have C := allMay_fixed (w.heap.size + 1 + 1 + 1) 0 3 3 [a, b, c] ((((w.alloc (.cells #[.int .i64 a] 3)).alloc (.cells #[.int .i64 b] 3)).alloc (.cells #[.int .i64 c] 3)).alloc (.cells #[.int .i64 a, .int .i64 b, .int .i64 c] 3)) rfl (by decide) (fun j hj => cells3 _ _ (by simp) a b c _ j hj)
  rw [all3, h] at C
  rw [Bool.and_eq_true, Bool.and_eq_true] at h
  have a1 := mayB_lo h.1.1
  have a2 := mayB_hi h.1.1
  have b1 := mayB_lo h.1.2
  have b2 := mayB_hi h.1.2
  have c1 := mayB_lo h.2
  have c2 := mayB_hi h.2
  obtain ⟨p1, p2⟩ := mul_bound 2147483648 2147483648 a1 a2 b1 b2
  simp only [show ((2147483648 * 2147483648 : Nat) : Int) = 4611686018427387904 from rfl] at p1 p2
  have N := fun w => nearest_any (a * b) c w p1 (by omega) p2 (by omega) hc
  clear h a1 a2 b1 b2 hc
  generalize near (a * b) c = q at N ⊢
  by_cases hr : mayB q = true
  · have D : ∀ w, Calls Try.prog 25 #[.int .i64 q] w fun e w' => e = .returned (.bool true) ∧ w = w' := fun w => by have := may_any q w; rwa [hr] at this
    rw [show outR q = q by simp [outR, hr], show outE q = 0 by simp [outE, hr]]
    clear hr
    go_enter Try.func69, Try.ntmps69
    go_wp2_with (first | (go_at_call 74; refine C.mono ?_; rintro e w' ⟨rfl, rfl⟩) | (go_at_call 25; refine (D _).mono ?_; rintro e w' ⟨rfl, rfl⟩) | (go_at_call 76; refine (N _).mono ?_; rintro e w' ⟨rfl, k, rfl⟩) | go_in)
    go_ret2
    exact ⟨rfl, below_drewN (below_a4 _ _ _ _ _) _⟩
  · have hr : mayB q = false := by simpa using hr
    have D : ∀ w, Calls Try.prog 25 #[.int .i64 q] w fun e w' => e = .returned (.bool false) ∧ w = w' := fun w => by have := may_any q w; rwa [hr] at this
    rw [show outR q = 0 by simp [outR, hr], show outE q = 10 by simp [outE, hr]]
    clear hr
    go_enter Try.func69, Try.ntmps69
    go_wp2_with (first | (go_at_call 74; refine C.mono ?_; rintro e w' ⟨rfl, rfl⟩) | (go_at_call 25; refine (D _).mono ?_; rintro e w' ⟨rfl, rfl⟩) | (go_at_call 76; refine (N _).mono ?_; rintro e w' ⟨rfl, k, rfl⟩) | go_in)
    go_ret2
    exact ⟨rfl, below_drewN (below_a4 _ _ _ _ _) _⟩

/-- what MulDiv answers -/
def mdR (a b c : Int) : Int := if mayB a && mayB b && mayB c then (if c = 0 then 0 else outR (near (a * b) c)) else 0
def mdE (a b c : Int) : Int := if mayB a && mayB b && mayB c then (if c = 0 then 1 else outE (near (a * b) c)) else 10

theorem muldiv_any (a b c : Int) (w : World) :
    Calls Try.prog 69 #[.int .i64 a, .int .i64 b, .int .i64 c] w fun e w' => e = .returned (.tuple #[.int .i64 (mdR a b c), .int .i64 (mdE a b c)]) ∧ Below w.heap.size w w' := by
  unfold mdR mdE
  by_cases hc : c = 0
  · subst hc
    have hz : mayB 0 = true := by decide
    rw [hz, Bool.and_true]
    by_cases h : (mayB a && mayB b) = true
    · rw [if_pos h, if_pos rfl, if_pos h, if_pos rfl]; exact muldiv_arg a b w h
    · rw [if_neg h, if_neg h]; exact muldiv_zero a b w (by simpa using h)
  · by_cases h : (mayB a && mayB b && mayB c) = true
    · rw [if_pos h, if_neg hc, if_pos h, if_neg hc]; exact muldiv_yes a b c w hc h
    · rw [if_neg h, if_neg h]; exact muldiv_no a b c w hc (by simpa using h)

theorem mul_any (a b : Int) (w : World) :
    Calls Try.prog 47 #[.int .i64 a, .int .i64 b] w fun e w' => e = .returned (.tuple #[.int .i64 (mdR a b 65536), .int .i64 (mdE a b 65536)]) ∧ Below w.heap.size w w' := by
  go_enter Try.func47, Try.ntmps47
  go_wp2_with (go_at_call 69; refine (muldiv_any a b 65536 _).mono ?_; rintro e w' ⟨rfl, hb⟩)
  go_ret2
  exact ⟨rfl, hb⟩

theorem div_any (a b : Int) (w : World) :
    Calls Try.prog 48 #[.int .i64 a, .int .i64 b] w fun e w' => e = .returned (.tuple #[.int .i64 (mdR 65536 a b), .int .i64 (mdE 65536 a b)]) ∧ Below w.heap.size w w' := by
  go_enter Try.func48, Try.ntmps48
  go_wp2_with (go_at_call 69; refine (muldiv_any 65536 a b _).mono ?_; rintro e w' ⟨rfl, hb⟩)
  go_ret2
  exact ⟨rfl, hb⟩

end Go.Proofs.Ytkhafhdmcalhbaa
