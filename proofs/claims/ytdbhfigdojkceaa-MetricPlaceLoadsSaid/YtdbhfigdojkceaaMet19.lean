/- The reference's LoadPlaces. -/
import Derived.Test.YtdbhfigdojkceaaMet18
import Derived.Test.YtdbhfigdojkceaaMet16
namespace Go.Proofs.Ytdbhfigdojkceaa
open Go Go.RowKit

def rplB (long : Bool) (bs : List Value) (n : Nat) (size : Int) : Bool := decide ((n + 1) * szP long ≤ bs.length) && rises size 0 (offsTo long bs (n + 1))
def OffOk (long : Bool) (bs : List Value) (size : Int) (k : Nat) : Prop := (∀ j, j < k → (offAt long bs j : Int) ≤ size) ∧ ∀ j, j + 1 < k → (offAt long bs j : Int) ≤ (offAt long bs (j + 1) : Int)
theorem OffOk.next {long : Bool} {bs : List Value} {size : Int} {k : Nat} (h : OffOk long bs size k) (h1 : (offAt long bs k : Int) ≤ size) (h2 : ∀ j, j + 1 = k → (offAt long bs j : Int) ≤ (offAt long bs (j + 1) : Int)) : OffOk long bs size (k + 1) :=
  ⟨fun j hj => by
    rcases Nat.lt_or_ge j k with h3 | h3
    · exact h.1 j h3
    · obtain rfl : j = k := by omega
      exact h1, fun j hj => by
    rcases Nat.lt_or_ge (j + 1) k with h3 | h3
    · exact h.2 j h3
    · exact h2 j (by omega)⟩
theorem offs_get (long : Bool) (bs : List Value) (n j : Nat) (h : j < n) : (offsTo long bs n)[j]? = some (offAt long bs j : Int) := by unfold offsTo; rw [List.getElem?_map, List.getElem?_range h]; rfl
theorem offs_inv {long : Bool} {bs : List Value} {n j : Nat} {y : Int} (h : (offsTo long bs n)[j]? = some y) : j < n ∧ y = (offAt long bs j : Int) := by
  have h1 : j < n := by have := (List.getElem?_eq_some_iff.1 h).1; rwa [offsTo_len] at this
  rw [offs_get long bs n j h1] at h
  exact ⟨h1, (Option.some.inj h).symm⟩
theorem rplB_yes {long : Bool} {bs : List Value} {n : Nat} {size : Int} (h1 : (n + 1) * szP long ≤ bs.length) (h : OffOk long bs size (n + 1)) : rplB long bs n size = true := by
  unfold rplB
  rw [decide_eq_true h1, Bool.true_and]
  refine rises_of size _ 0 (fun k y hk => ?_) (fun y hy => ?_) (fun k a b ha hb => ?_)
  · obtain ⟨h2, rfl⟩ := offs_inv hk
    exact h.1 k h2
  · obtain ⟨_, rfl⟩ := offs_inv hy
    omega
  · obtain ⟨_, rfl⟩ := offs_inv ha
    obtain ⟨h2, rfl⟩ := offs_inv hb
    exact h.2 k h2
theorem rplB_short {long : Bool} {bs : List Value} {n : Nat} {size : Int} (h : bs.length < (n + 1) * szP long) : rplB long bs n size = false := by
  unfold rplB
  rw [decide_eq_false (by omega), Bool.false_and]
theorem rplB_no {long : Bool} {bs : List Value} {n k : Nat} {size : Int} (hk : k < n + 1) (h : size < (offAt long bs k : Int) ∨ ∃ j, j + 1 = k ∧ (offAt long bs k : Int) < (offAt long bs j : Int)) : rplB long bs n size = false := by
  cases hr : rplB long bs n size
  · rfl
  · unfold rplB at hr
    rw [Bool.and_eq_true] at hr
    have h1 := offs_get long bs (n + 1) k hk
    rcases h with h | ⟨j, rfl, h⟩
    · have := rises_ge size _ 0 hr.2 _ (List.mem_of_getElem? h1)
      omega
    · have := rises_le size _ 0 j _ _ hr.2 (offs_get long bs (n + 1) j (by omega)) h1
      omega
def RPl (w : World) (r : Bool) (n : Nat) (L : List Int) (e : Ending) (w' : World) : Prop :=
  (r = true → ∃ A c, e = .returned (.tuple #[.slice A n c, .bool true]) ∧ Lists w' w'.heap.size A (intCells L) ∧ Below w.heap.size w w') ∧ (r = false → e = .returned (.tuple #[.slice none 0 0, .bool false]) ∧ Below w.heap.size w w')

set_option maxRecDepth 100000 in
set_option maxHeartbeats 4000000 in
theorem rpl_true (n : Nat) (A : Option Addr) (c : Nat) (bs : List Value) (size : Int) (w : World) (hn : n ≤ 3000) (_ : 0 ≤ size) (_ : size ≤ 1048576) (hL : Lists w w.heap.size A bs) (h8 : Bytes8 bs) (hcap : bs.length ≤ c) (hc2 : c ≤ 9223372036854775807) (hl2 : bs.length ≤ 140737488355328) :
    Calls Try.prog 20 #[.slice A bs.length c, .int .i64 (n : Nat), .bool true, .int .i64 size] w (RPl w (rplB true bs n size) (n + 1) (offsTo true bs (n + 1))) := by
  have hr0 : RRd (w.alloc (.cells #[.slice A bs.length c, .int .i64 0, .bool false] 72)) w.heap.size w.heap.size bs 0 false := ⟨A, c, Blk.new w _ _, hL.below ((Below.refl _ _).alloc (Nat.le_refl _) _), h8, Nat.zero_le _, hcap, hc2, hl2, Nat.le_refl _⟩
  obtain ⟨i0, hi, hz0, hz1, hz2⟩ := info_parts intInfo
  have HB8 := Lib.hid h8
  clear hL h8
  obtain ⟨bl, hbl⟩ : ∃ bl, bl = bs.length := ⟨_, rfl⟩
  rw [← hbl] at hr0 hcap hl2 ⊢
  have HBL := Lib.hid hbl
  clear hbl
  go_enter Try.func20, Try.ntmps20
  go_wp2
  have bw := (Below.refl w.heap.size w).alloc (Nat.le_refl _) (.cells #[.slice A bl c, .int .i64 0, .bool false] 72)
  generalize (w.alloc (.cells #[.slice A bl c, .int .i64 0, .bool false] 72)) = w0 at *
  go_loopw [11, 12] (fun s i wr => ∃ k : Nat, k ≤ n + 1 ∧ i = .int .i64 k ∧ Below w.heap.size w wr ∧ RRd wr w.heap.size w.heap.size bs (k * 4) false ∧ wr.ownsRow w.heap.size 3 1 s k (intCells (offsTo true bs k)) ∧ Hid (OffOk true bs size k)) (fun _ i _ => n + 1 - (intOf i).toNat)
  case atStart => exact ⟨0, Nat.zero_le _, rfl, bw, hr0, ⟨rfl, .inl ⟨rfl, rfl⟩⟩, Lib.hid ⟨fun j h => by omega, fun j h => by omega⟩⟩
  case round =>
    obtain ⟨k, hk, rfl, hb, hr, hown, HK0⟩ := hrel
    clear bw hr0
    by_cases hlt : k < n + 1
    · have e1 : decide ((k : Int) ≤ (n : Int)) = true := by simp; omega
      rcases Nat.lt_or_ge (bl - k * 4) 4 with hsh | hsh
      · have HN2 := Lib.hid (rplB_short (long := true) (bs := bs) (n := n) (size := size) (by have := HBL.out; simp only [szP, if_true]; omega))
        have C1 := ru4_short w.heap.size w.heap.size bs (k * 4) wr hr (by have := HBL.out; omega)
        go_wp2_with (first | (go_at_call 38; ((with_reducible refine C1.mono ?_); rintro e w2 ⟨rfl, hr2, o2⟩; have hB2 := hb.trans (o2.to_below hb.size (by simp)); obtain ⟨A2, k2, hb2, hR2⟩ := id hr2; have F2 := hb2.kb; simp [KB, CellsAt] at F2)))
        go_ret2
        exact ⟨fun h => by (have := HN2.out; rw [h] at this; cases this), fun _ => ⟨rfl, hB2⟩⟩
      · have hsh2 : k * 4 + 4 ≤ bl := by
          have : k * 4 ≤ bl := by obtain ⟨_, _, _, _, _, h, _⟩ := hr; have := HBL.out; omega
          omega
        obtain ⟨A5, c5, rfl, l5, hc5⟩ := own_lists hown
        cases k with
        | zero =>
          have C1 := ru4_ok w.heap.size w.heap.size bs (0 * 4) wr hr (by have := HBL.out; omega)
          have hxb := rd4_lt HB8.out (0 * 4)
          have hxv : (offAt true bs 0 : Int) = ((rd4 bs (0 * 4) : Nat) : Int) := by unfold offAt; simp
          have hx0 : (0 : Int) ≤ ((rd4 bs (0 * 4) : Nat) : Int) := by omega
          have hx1 : ((rd4 bs (0 * 4) : Nat) : Int) ≤ 4294967295 := by omega
          clear hxb
          generalize ((rd4 bs (0 * 4) : Nat) : Int) = xr at *
          have HXV := Lib.hid hxv
          obtain ⟨ls, hls⟩ : ∃ ls, ls = offsTo true bs 0 := ⟨_, rfl⟩
          rw [← hls] at hown
          have HLS := Lib.hid hls.symm
          clear hxv hls l5
          by_cases a1 : size < xr
          · have HN2 := Lib.hid (rplB_no (long := true) (bs := bs) (n := n) (k := 0) (size := size) (by omega) (.inl (by rw [HXV.out]; exact a1)))
            go_wp2_with (first | (go_at_call 38; ((with_reducible refine C1.mono ?_); rintro e w2 ⟨rfl, hr2, o2⟩; have own2 := own_only hown o2 (fun b hm e => by simp at e; subst e; obtain ⟨cs, hp⟩ := hr.blk; exact own_ne hown hp (by decide) hm); have hB2 := hb.trans (o2.to_below hb.size (by simp)); obtain ⟨A2, k2, hb2, hR2⟩ := id hr2; have F2 := hb2.kb; simp [KB, CellsAt] at F2)))
            go_ret2
            exact ⟨fun h => by (have := HN2.out; rw [h] at this; cases this), fun _ => ⟨rfl, hB2⟩⟩
          · have b1 : xr ≤ size := by omega
            have HJ := Lib.hid (HK0.out.next (by rw [HXV.out]; exact b1) (fun j h => by omega))
            go_wp2_with (first | (go_at_call 38; ((with_reducible refine C1.mono ?_); rintro e w2 ⟨rfl, hr2, o2⟩; have own2 := own_only hown o2 (fun b hm e => by simp at e; subst e; obtain ⟨cs, hp⟩ := hr.blk; exact own_ne hown hp (by decide) hm); have hB2 := hb.trans (o2.to_below hb.size (by simp)); obtain ⟨A2, k2, hb2, hR2⟩ := id hr2; have F2 := hb2.kb; simp [KB, CellsAt] at F2)) | (at_builtin; refine wpList_append_src _ rfl (.tmp 50) (.tmp 52) 38 rfl w.heap.size 3 i0 (.int .i64 0) 1 8 Try.underlying38 hi hz0 hz1 hz2 rfl (by decide) (.slice A5 0 c5) 0 (intCells ls) rfl (own_alloc own2 _) _ _ 1 1 [.int .i64 xr] rfl (lists_new_at _ _ _ [.int .i64 xr] _ (by simp) (fun j u hu => by simpa using hu)) rfl (by simp [Value.oneCell']) (by simp only [maxLen]; omega) (by omega) (by have := hB2.size; simp <;> omega) ?_; intro v5 w5 own5 hg5 hat5; have b35 := (hB2.alloc hB2.size (.cells #[.int .i64 xr] 3)).grown hg5 (by have := hB2.size; simp <;> omega) (fun b hb => own_low own2 b (by simp [blk, hb]))))
            have hr5 : RRd w5 w.heap.size w.heap.size bs (0 * 4 + 4) false := by
              refine (hr2.below ((Below.refl _ _).alloc (Nat.le_refl _) _)).only ((Only.refl _ (blk (.slice A5 0 c5))).grown hg5 (fun b hb => .inl (by simp [blk, hb]))) (fun hm => ?_) (own_low own2)
              obtain ⟨cs, hp⟩ := hr2.blk
              exact own_ne own2 hp (by decide) hm
            go_roundw
            case rel => exact ⟨0 + 1, by omega, by go_num, b35, by rw [Nat.succ_mul]; exact hr5, by rw [offsTo_succ, intCells_snoc, HXV.out, HLS.out]; exact own5, HJ⟩
            case measure => simp [intOf] <;> omega
        | succ k0 =>
          have C1 := ru4_ok w.heap.size w.heap.size bs ((k0 + 1) * 4) wr hr (by have := HBL.out; omega)
          have hxb := rd4_lt HB8.out ((k0 + 1) * 4)
          have hxv : (offAt true bs (k0 + 1) : Int) = ((rd4 bs ((k0 + 1) * 4) : Nat) : Int) := by unfold offAt; simp
          have hx0 : (0 : Int) ≤ ((rd4 bs ((k0 + 1) * 4) : Nat) : Int) := by omega
          have hx1 : ((rd4 bs ((k0 + 1) * 4) : Nat) : Int) ≤ 4294967295 := by omega
          clear hxb
          generalize ((rd4 bs ((k0 + 1) * 4) : Nat) : Int) = xr at *
          have HXV := Lib.hid hxv
          have hyv := offs_get true bs (k0 + 1) k0 (by omega)
          have hyc : (intCells (offsTo true bs (k0 + 1)))[k0]? = some (.int .i64 (offAt true bs k0 : Nat)) := by unfold intCells; rw [List.getElem?_map, hyv]; rfl
          obtain ⟨g, og, rfl, hgl, hgc⟩ := l5.plain (by intro e; rw [e] at hyc; simp at hyc)
          have y0 := hgc k0 _ hyc
          have hgne : g ≠ w.heap.size := fun e => by
            obtain ⟨cs, hp⟩ := hr.blk
            exact own_ne hown hp (by decide) (by simp [blk, Value.ownBlock, e])
          obtain ⟨yv, hyy⟩ : ∃ yv : Int, yv = (offAt true bs k0 : Nat) := ⟨_, rfl⟩
          rw [← hyy] at y0
          have HYV := Lib.hid hyy.symm
          clear hyv hyc hgc hyy
          have e3 : (0 : Int) < (k0 : Int) + 1 := by omega
          have e4 : (0 : Int) ≤ (k0 : Int) := by omega
          have e5 : (k0 : Int) < (k0 : Int) + 1 := by omega
          obtain ⟨ls, hls⟩ : ∃ ls, ls = offsTo true bs (k0 + 1) := ⟨_, rfl⟩
          rw [← hls] at hown
          have HLS := Lib.hid hls.symm
          clear hxv hls l5
          by_cases a1 : size < xr
          · have HN2 := Lib.hid (rplB_no (long := true) (bs := bs) (n := n) (k := (k0 + 1)) (size := size) (by omega) (.inl (by rw [HXV.out]; exact a1)))
            go_wp2_with (first | (go_at_call 38; ((with_reducible refine C1.mono ?_); rintro e w2 ⟨rfl, hr2, o2⟩; have own2 := own_only hown o2 (fun b hm e => by simp at e; subst e; obtain ⟨cs, hp⟩ := hr.blk; exact own_ne hown hp (by decide) hm); have hB2 := hb.trans (o2.to_below hb.size (by simp)); obtain ⟨A2, k2, hb2, hR2⟩ := id hr2; have F2 := hb2.kb; simp [KB, CellsAt] at F2; have y2 : w2.cell? ⟨g, og + k0, none⟩ = some (.int .i64 yv) := (World.cell?_of_block (o2.block g hgl (by simp; exact hgne))).trans y0)))
            go_ret2
            exact ⟨fun h => by (have := HN2.out; rw [h] at this; cases this), fun _ => ⟨rfl, hB2⟩⟩
          · have b1 : xr ≤ size := by omega
            by_cases a2 : xr < yv
            · have HN2 := Lib.hid (rplB_no (long := true) (bs := bs) (n := n) (k := (k0 + 1)) (size := size) (by omega) (.inr ⟨k0, rfl, by rw [HXV.out, HYV.out]; exact a2⟩))
              go_wp2_with (first | (go_at_call 38; ((with_reducible refine C1.mono ?_); rintro e w2 ⟨rfl, hr2, o2⟩; have own2 := own_only hown o2 (fun b hm e => by simp at e; subst e; obtain ⟨cs, hp⟩ := hr.blk; exact own_ne hown hp (by decide) hm); have hB2 := hb.trans (o2.to_below hb.size (by simp)); obtain ⟨A2, k2, hb2, hR2⟩ := id hr2; have F2 := hb2.kb; simp [KB, CellsAt] at F2; have y2 : w2.cell? ⟨g, og + k0, none⟩ = some (.int .i64 yv) := (World.cell?_of_block (o2.block g hgl (by simp; exact hgne))).trans y0)))
              go_ret2
              exact ⟨fun h => by (have := HN2.out; rw [h] at this; cases this), fun _ => ⟨rfl, hB2⟩⟩
            · have b2 : yv ≤ xr := by omega
              have HJ := Lib.hid (HK0.out.next (by rw [HXV.out]; exact b1) (fun j h => by rw [show j = k0 by omega, HXV.out, HYV.out]; exact b2))
              go_wp2_with (first | (go_at_call 38; ((with_reducible refine C1.mono ?_); rintro e w2 ⟨rfl, hr2, o2⟩; have own2 := own_only hown o2 (fun b hm e => by simp at e; subst e; obtain ⟨cs, hp⟩ := hr.blk; exact own_ne hown hp (by decide) hm); have hB2 := hb.trans (o2.to_below hb.size (by simp)); obtain ⟨A2, k2, hb2, hR2⟩ := id hr2; have F2 := hb2.kb; simp [KB, CellsAt] at F2; have y2 : w2.cell? ⟨g, og + k0, none⟩ = some (.int .i64 yv) := (World.cell?_of_block (o2.block g hgl (by simp; exact hgne))).trans y0)) | (at_builtin; refine wpList_append_src _ rfl (.tmp 50) (.tmp 52) 38 rfl w.heap.size 3 i0 (.int .i64 0) 1 8 Try.underlying38 hi hz0 hz1 hz2 rfl (by decide) (.slice (some ⟨g, og, none⟩) (k0 + 1) c5) (k0 + 1) (intCells ls) rfl (own_alloc own2 _) _ _ 1 1 [.int .i64 xr] rfl (lists_new_at _ _ _ [.int .i64 xr] _ (by simp) (fun j u hu => by simpa using hu)) rfl (by simp [Value.oneCell']) (by simp only [maxLen]; omega) (by omega) (by have := hB2.size; simp <;> omega) ?_; intro v5 w5 own5 hg5 hat5; have b35 := (hB2.alloc hB2.size (.cells #[.int .i64 xr] 3)).grown hg5 (by have := hB2.size; simp <;> omega) (fun b hb => own_low own2 b (by simp [blk, hb]))))
              have hr5 : RRd w5 w.heap.size w.heap.size bs ((k0 + 1) * 4 + 4) false := by
                refine (hr2.below ((Below.refl _ _).alloc (Nat.le_refl _) _)).only ((Only.refl _ (blk (.slice (some ⟨g, og, none⟩) (k0 + 1) c5))).grown hg5 (fun b hb => .inl (by simp [blk, hb]))) (fun hm => ?_) (own_low own2)
                obtain ⟨cs, hp⟩ := hr2.blk
                exact own_ne own2 hp (by decide) hm
              go_roundw
              case rel => exact ⟨(k0 + 1) + 1, by omega, by go_num, b35, by rw [Nat.succ_mul]; exact hr5, by rw [offsTo_succ, intCells_snoc, HXV.out, HLS.out]; exact own5, HJ⟩
              case measure => simp [intOf] <;> omega
    · have e1 : decide ((k : Int) ≤ (n : Int)) = false := by simp; omega
      obtain rfl : k = n + 1 := by omega
      obtain ⟨A5, c5, rfl, l5, hc5⟩ := own_lists hown
      have HT := Lib.hid (rplB_yes (long := true) (bs := bs) (size := size) (by obtain ⟨_, _, _, _, _, h, _⟩ := hr; simp only [szP, if_true]; exact h) HK0.out)
      go_wp2
      go_ret2
      exact ⟨fun _ => ⟨A5, c5, rfl, l5, hb⟩, fun h => by (have := HT.out; rw [h] at this; cases this)⟩

set_option maxRecDepth 100000 in
set_option maxHeartbeats 4000000 in
theorem rpl_false (n : Nat) (A : Option Addr) (c : Nat) (bs : List Value) (size : Int) (w : World) (hn : n ≤ 3000) (_ : 0 ≤ size) (_ : size ≤ 1048576) (hL : Lists w w.heap.size A bs) (h8 : Bytes8 bs) (hcap : bs.length ≤ c) (hc2 : c ≤ 9223372036854775807) (hl2 : bs.length ≤ 140737488355328) :
    Calls Try.prog 20 #[.slice A bs.length c, .int .i64 (n : Nat), .bool false, .int .i64 size] w (RPl w (rplB false bs n size) (n + 1) (offsTo false bs (n + 1))) := by
  have hr0 : RRd (w.alloc (.cells #[.slice A bs.length c, .int .i64 0, .bool false] 72)) w.heap.size w.heap.size bs 0 false := ⟨A, c, Blk.new w _ _, hL.below ((Below.refl _ _).alloc (Nat.le_refl _) _), h8, Nat.zero_le _, hcap, hc2, hl2, Nat.le_refl _⟩
  obtain ⟨i0, hi, hz0, hz1, hz2⟩ := info_parts intInfo
  have HB8 := Lib.hid h8
  clear hL h8
  obtain ⟨bl, hbl⟩ : ∃ bl, bl = bs.length := ⟨_, rfl⟩
  rw [← hbl] at hr0 hcap hl2 ⊢
  have HBL := Lib.hid hbl
  clear hbl
  go_enter Try.func20, Try.ntmps20
  go_wp2
  have bw := (Below.refl w.heap.size w).alloc (Nat.le_refl _) (.cells #[.slice A bl c, .int .i64 0, .bool false] 72)
  generalize (w.alloc (.cells #[.slice A bl c, .int .i64 0, .bool false] 72)) = w0 at *
  go_loopw [11, 12] (fun s i wr => ∃ k : Nat, k ≤ n + 1 ∧ i = .int .i64 k ∧ Below w.heap.size w wr ∧ RRd wr w.heap.size w.heap.size bs (k * 2) false ∧ wr.ownsRow w.heap.size 3 1 s k (intCells (offsTo false bs k)) ∧ Hid (OffOk false bs size k)) (fun _ i _ => n + 1 - (intOf i).toNat)
  case atStart => exact ⟨0, Nat.zero_le _, rfl, bw, hr0, ⟨rfl, .inl ⟨rfl, rfl⟩⟩, Lib.hid ⟨fun j h => by omega, fun j h => by omega⟩⟩
  case round =>
    obtain ⟨k, hk, rfl, hb, hr, hown, HK0⟩ := hrel
    clear bw hr0
    by_cases hlt : k < n + 1
    · have e1 : decide ((k : Int) ≤ (n : Int)) = true := by simp; omega
      rcases Nat.lt_or_ge (bl - k * 2) 2 with hsh | hsh
      · have HN2 := Lib.hid (rplB_short (long := false) (bs := bs) (n := n) (size := size) (by have := HBL.out; simp only [szP, Bool.false_eq_true, if_false]; omega))
        have C1 := ru2_short w.heap.size w.heap.size bs (k * 2) wr hr (by have := HBL.out; omega)
        go_wp2_with (first | (go_at_call 38; ((with_reducible refine C1.mono ?_); rintro e w2 ⟨rfl, hr2, o2⟩; have hB2 := hb.trans (o2.to_below hb.size (by simp)); obtain ⟨A2, k2, hb2, hR2⟩ := id hr2; have F2 := hb2.kb; simp [KB, CellsAt] at F2)))
        go_ret2
        exact ⟨fun h => by (have := HN2.out; rw [h] at this; cases this), fun _ => ⟨rfl, hB2⟩⟩
      · have hsh2 : k * 2 + 2 ≤ bl := by
          have : k * 2 ≤ bl := by obtain ⟨_, _, _, _, _, h, _⟩ := hr; have := HBL.out; omega
          omega
        obtain ⟨A5, c5, rfl, l5, hc5⟩ := own_lists hown
        cases k with
        | zero =>
          have C1 := ru2_ok w.heap.size w.heap.size bs (0 * 2) wr hr (by have := HBL.out; omega)
          have hxb := rd2_lt HB8.out (0 * 2)
          have hxv : (offAt false bs 0 : Int) = 2 * ((rd2 bs (0 * 2) : Nat) : Int) := by unfold offAt; simp
          have hx0 : (0 : Int) ≤ ((rd2 bs (0 * 2) : Nat) : Int) := by omega
          have hx1 : ((rd2 bs (0 * 2) : Nat) : Int) ≤ 65535 := by omega
          clear hxb
          generalize ((rd2 bs (0 * 2) : Nat) : Int) = xr at *
          have HXV := Lib.hid hxv
          obtain ⟨ls, hls⟩ : ∃ ls, ls = offsTo false bs 0 := ⟨_, rfl⟩
          rw [← hls] at hown
          have HLS := Lib.hid hls.symm
          clear hxv hls l5
          by_cases a1 : size < 2 * xr
          · have HN2 := Lib.hid (rplB_no (long := false) (bs := bs) (n := n) (k := 0) (size := size) (by omega) (.inl (by rw [HXV.out]; exact a1)))
            go_wp2_with (first | (go_at_call 38; ((with_reducible refine C1.mono ?_); rintro e w2 ⟨rfl, hr2, o2⟩; have own2 := own_only hown o2 (fun b hm e => by simp at e; subst e; obtain ⟨cs, hp⟩ := hr.blk; exact own_ne hown hp (by decide) hm); have hB2 := hb.trans (o2.to_below hb.size (by simp)); obtain ⟨A2, k2, hb2, hR2⟩ := id hr2; have F2 := hb2.kb; simp [KB, CellsAt] at F2)))
            go_ret2
            exact ⟨fun h => by (have := HN2.out; rw [h] at this; cases this), fun _ => ⟨rfl, hB2⟩⟩
          · have b1 : 2 * xr ≤ size := by omega
            have HJ := Lib.hid (HK0.out.next (by rw [HXV.out]; exact b1) (fun j h => by omega))
            go_wp2_with (first | (go_at_call 38; ((with_reducible refine C1.mono ?_); rintro e w2 ⟨rfl, hr2, o2⟩; have own2 := own_only hown o2 (fun b hm e => by simp at e; subst e; obtain ⟨cs, hp⟩ := hr.blk; exact own_ne hown hp (by decide) hm); have hB2 := hb.trans (o2.to_below hb.size (by simp)); obtain ⟨A2, k2, hb2, hR2⟩ := id hr2; have F2 := hb2.kb; simp [KB, CellsAt] at F2)) | (at_builtin; refine wpList_append_src _ rfl (.tmp 50) (.tmp 52) 38 rfl w.heap.size 3 i0 (.int .i64 0) 1 8 Try.underlying38 hi hz0 hz1 hz2 rfl (by decide) (.slice A5 0 c5) 0 (intCells ls) rfl (own_alloc own2 _) _ _ 1 1 [.int .i64 (2 * xr)] rfl (lists_new_at _ _ _ [.int .i64 (2 * xr)] _ (by simp) (fun j u hu => by simpa using hu)) rfl (by simp [Value.oneCell']) (by simp only [maxLen]; omega) (by omega) (by have := hB2.size; simp <;> omega) ?_; intro v5 w5 own5 hg5 hat5; have b35 := (hB2.alloc hB2.size (.cells #[.int .i64 (2 * xr)] 3)).grown hg5 (by have := hB2.size; simp <;> omega) (fun b hb => own_low own2 b (by simp [blk, hb]))))
            have hr5 : RRd w5 w.heap.size w.heap.size bs (0 * 2 + 2) false := by
              refine (hr2.below ((Below.refl _ _).alloc (Nat.le_refl _) _)).only ((Only.refl _ (blk (.slice A5 0 c5))).grown hg5 (fun b hb => .inl (by simp [blk, hb]))) (fun hm => ?_) (own_low own2)
              obtain ⟨cs, hp⟩ := hr2.blk
              exact own_ne own2 hp (by decide) hm
            go_roundw
            case rel => exact ⟨0 + 1, by omega, by go_num, b35, by rw [Nat.succ_mul]; exact hr5, by rw [offsTo_succ, intCells_snoc, HXV.out, HLS.out]; exact own5, HJ⟩
            case measure => simp [intOf] <;> omega
        | succ k0 =>
          have C1 := ru2_ok w.heap.size w.heap.size bs ((k0 + 1) * 2) wr hr (by have := HBL.out; omega)
          have hxb := rd2_lt HB8.out ((k0 + 1) * 2)
          have hxv : (offAt false bs (k0 + 1) : Int) = 2 * ((rd2 bs ((k0 + 1) * 2) : Nat) : Int) := by unfold offAt; simp
          have hx0 : (0 : Int) ≤ ((rd2 bs ((k0 + 1) * 2) : Nat) : Int) := by omega
          have hx1 : ((rd2 bs ((k0 + 1) * 2) : Nat) : Int) ≤ 65535 := by omega
          clear hxb
          generalize ((rd2 bs ((k0 + 1) * 2) : Nat) : Int) = xr at *
          have HXV := Lib.hid hxv
          have hyv := offs_get false bs (k0 + 1) k0 (by omega)
          have hyc : (intCells (offsTo false bs (k0 + 1)))[k0]? = some (.int .i64 (offAt false bs k0 : Nat)) := by unfold intCells; rw [List.getElem?_map, hyv]; rfl
          obtain ⟨g, og, rfl, hgl, hgc⟩ := l5.plain (by intro e; rw [e] at hyc; simp at hyc)
          have y0 := hgc k0 _ hyc
          have hgne : g ≠ w.heap.size := fun e => by
            obtain ⟨cs, hp⟩ := hr.blk
            exact own_ne hown hp (by decide) (by simp [blk, Value.ownBlock, e])
          obtain ⟨yv, hyy⟩ : ∃ yv : Int, yv = (offAt false bs k0 : Nat) := ⟨_, rfl⟩
          rw [← hyy] at y0
          have HYV := Lib.hid hyy.symm
          clear hyv hyc hgc hyy
          have e3 : (0 : Int) < (k0 : Int) + 1 := by omega
          have e4 : (0 : Int) ≤ (k0 : Int) := by omega
          have e5 : (k0 : Int) < (k0 : Int) + 1 := by omega
          obtain ⟨ls, hls⟩ : ∃ ls, ls = offsTo false bs (k0 + 1) := ⟨_, rfl⟩
          rw [← hls] at hown
          have HLS := Lib.hid hls.symm
          clear hxv hls l5
          by_cases a1 : size < 2 * xr
          · have HN2 := Lib.hid (rplB_no (long := false) (bs := bs) (n := n) (k := (k0 + 1)) (size := size) (by omega) (.inl (by rw [HXV.out]; exact a1)))
            go_wp2_with (first | (go_at_call 38; ((with_reducible refine C1.mono ?_); rintro e w2 ⟨rfl, hr2, o2⟩; have own2 := own_only hown o2 (fun b hm e => by simp at e; subst e; obtain ⟨cs, hp⟩ := hr.blk; exact own_ne hown hp (by decide) hm); have hB2 := hb.trans (o2.to_below hb.size (by simp)); obtain ⟨A2, k2, hb2, hR2⟩ := id hr2; have F2 := hb2.kb; simp [KB, CellsAt] at F2; have y2 : w2.cell? ⟨g, og + k0, none⟩ = some (.int .i64 yv) := (World.cell?_of_block (o2.block g hgl (by simp; exact hgne))).trans y0)))
            go_ret2
            exact ⟨fun h => by (have := HN2.out; rw [h] at this; cases this), fun _ => ⟨rfl, hB2⟩⟩
          · have b1 : 2 * xr ≤ size := by omega
            by_cases a2 : 2 * xr < yv
            · have HN2 := Lib.hid (rplB_no (long := false) (bs := bs) (n := n) (k := (k0 + 1)) (size := size) (by omega) (.inr ⟨k0, rfl, by rw [HXV.out, HYV.out]; exact a2⟩))
              go_wp2_with (first | (go_at_call 38; ((with_reducible refine C1.mono ?_); rintro e w2 ⟨rfl, hr2, o2⟩; have own2 := own_only hown o2 (fun b hm e => by simp at e; subst e; obtain ⟨cs, hp⟩ := hr.blk; exact own_ne hown hp (by decide) hm); have hB2 := hb.trans (o2.to_below hb.size (by simp)); obtain ⟨A2, k2, hb2, hR2⟩ := id hr2; have F2 := hb2.kb; simp [KB, CellsAt] at F2; have y2 : w2.cell? ⟨g, og + k0, none⟩ = some (.int .i64 yv) := (World.cell?_of_block (o2.block g hgl (by simp; exact hgne))).trans y0)))
              go_ret2
              exact ⟨fun h => by (have := HN2.out; rw [h] at this; cases this), fun _ => ⟨rfl, hB2⟩⟩
            · have b2 : yv ≤ 2 * xr := by omega
              have HJ := Lib.hid (HK0.out.next (by rw [HXV.out]; exact b1) (fun j h => by rw [show j = k0 by omega, HXV.out, HYV.out]; exact b2))
              go_wp2_with (first | (go_at_call 38; ((with_reducible refine C1.mono ?_); rintro e w2 ⟨rfl, hr2, o2⟩; have own2 := own_only hown o2 (fun b hm e => by simp at e; subst e; obtain ⟨cs, hp⟩ := hr.blk; exact own_ne hown hp (by decide) hm); have hB2 := hb.trans (o2.to_below hb.size (by simp)); obtain ⟨A2, k2, hb2, hR2⟩ := id hr2; have F2 := hb2.kb; simp [KB, CellsAt] at F2; have y2 : w2.cell? ⟨g, og + k0, none⟩ = some (.int .i64 yv) := (World.cell?_of_block (o2.block g hgl (by simp; exact hgne))).trans y0)) | (at_builtin; refine wpList_append_src _ rfl (.tmp 50) (.tmp 52) 38 rfl w.heap.size 3 i0 (.int .i64 0) 1 8 Try.underlying38 hi hz0 hz1 hz2 rfl (by decide) (.slice (some ⟨g, og, none⟩) (k0 + 1) c5) (k0 + 1) (intCells ls) rfl (own_alloc own2 _) _ _ 1 1 [.int .i64 (2 * xr)] rfl (lists_new_at _ _ _ [.int .i64 (2 * xr)] _ (by simp) (fun j u hu => by simpa using hu)) rfl (by simp [Value.oneCell']) (by simp only [maxLen]; omega) (by omega) (by have := hB2.size; simp <;> omega) ?_; intro v5 w5 own5 hg5 hat5; have b35 := (hB2.alloc hB2.size (.cells #[.int .i64 (2 * xr)] 3)).grown hg5 (by have := hB2.size; simp <;> omega) (fun b hb => own_low own2 b (by simp [blk, hb]))))
              have hr5 : RRd w5 w.heap.size w.heap.size bs ((k0 + 1) * 2 + 2) false := by
                refine (hr2.below ((Below.refl _ _).alloc (Nat.le_refl _) _)).only ((Only.refl _ (blk (.slice (some ⟨g, og, none⟩) (k0 + 1) c5))).grown hg5 (fun b hb => .inl (by simp [blk, hb]))) (fun hm => ?_) (own_low own2)
                obtain ⟨cs, hp⟩ := hr2.blk
                exact own_ne own2 hp (by decide) hm
              go_roundw
              case rel => exact ⟨(k0 + 1) + 1, by omega, by go_num, b35, by rw [Nat.succ_mul]; exact hr5, by rw [offsTo_succ, intCells_snoc, HXV.out, HLS.out]; exact own5, HJ⟩
              case measure => simp [intOf] <;> omega
    · have e1 : decide ((k : Int) ≤ (n : Int)) = false := by simp; omega
      obtain rfl : k = n + 1 := by omega
      obtain ⟨A5, c5, rfl, l5, hc5⟩ := own_lists hown
      have HT := Lib.hid (rplB_yes (long := false) (bs := bs) (size := size) (by obtain ⟨_, _, _, _, _, h, _⟩ := hr; simp only [szP, Bool.false_eq_true, if_false]; exact h) HK0.out)
      go_wp2
      go_ret2
      exact ⟨fun _ => ⟨A5, c5, rfl, l5, hb⟩, fun h => by (have := HT.out; rw [h] at this; cases this)⟩

end Go.Proofs.Ytdbhfigdojkceaa
