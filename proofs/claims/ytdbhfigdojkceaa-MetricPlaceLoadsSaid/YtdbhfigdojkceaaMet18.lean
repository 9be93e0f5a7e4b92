/- The reference's Load. -/
import Derived.Test.YtdbhfigdojkceaaMet15
import Derived.Test.YtdbhfigdojkceaaMet17
namespace Go.Proofs.Ytdbhfigdojkceaa
open Go Go.RowKit

theorem metInfo : (Try.prog.info? 51).map (fun i => (i.zero, i.size, i.bytes)) = some (some (.agg #[.int .i64 0, .int .i64 0]), 2, 16) := by kernel_rfl
theorem RRd.only {w w1 : World} {B p i : Nat} {bs : List Value} {bad : Bool} {fp : List Nat} (h : RRd w B p bs i bad) (k : Only w w1 fp) (hp : p ∉ fp) (hq : ∀ b ∈ fp, B ≤ b) : RRd w1 B p bs i bad := by
  have hlt := h.lt
  obtain ⟨A, c, hb, hl, h8, h1, h2, h3, h4, h5⟩ := h
  exact ⟨A, c, hb.only k hp, hl.below (k.to_below (by omega) hq), h8, h1, h2, h3, h4, h5⟩
theorem RRd.blk {w : World} {B p i : Nat} {bs : List Value} {bad : Bool} (h : RRd w B p bs i bad) : ∃ cs, Blk w p 72 cs := by
  obtain ⟨_, _, hb, _⟩ := h
  exact ⟨_, hb⟩
theorem lists_new_at (w : World) (cs : Array Value) (T : TypeId) (E : List Value) (k : Nat) (hk : k = w.heap.size) (h : ∀ (j : Nat) (u : Value), E[j]? = some u → cs[j]? = some u) : Lists (w.alloc (.cells cs T)) (w.alloc (.cells cs T)).heap.size (some ⟨k, 0, none⟩) E := hk ▸ lists_new w cs T E h
def metsTo (bs : List Value) (m k : Nat) : List (Int × Int) := (List.range k).map (metAt bs m)
theorem metsTo_succ (bs : List Value) (m k : Nat) : metsTo bs m (k + 1) = metsTo bs m k ++ [metAt bs m k] := by simp [metsTo, List.range_succ]
theorem metsTo_len (bs : List Value) (m k : Nat) : (metsTo bs m k).length = k := by simp [metsTo]
theorem metsTo_get (bs : List Value) (m k j : Nat) (h : j < k) : (metsTo bs m k)[j]? = some (metAt bs m j) := by unfold metsTo; rw [List.getElem?_map, List.getElem?_range h]; rfl

def RMade (w : World) (L : List (Int × Int)) (e : Ending) (w' : World) : Prop := ∃ A c, e = .returned (.tuple #[.slice A L.length c, .bool true]) ∧ Lists w' w'.heap.size A (metCells L) ∧ L.length ≤ c ∧ Below w.heap.size w w'
theorem rload_short (n m : Nat) (A : Option Addr) (l c : Nat) (w : World) (hm : m ≤ n) (hn : n ≤ 3000) (hl : l < posM m n) :
    Calls Try.prog 14 #[.slice A l c, .int .i64 (n : Nat), .int .i64 (m : Nat)] w fun e w' => e = .returned (.tuple #[.slice none 0 0, .bool false]) ∧ Below w.heap.size w w' := by
  have d : decide ((l : Int) < 4 * (m : Int) + 2 * ((n : Int) - (m : Int))) = true := by unfold posM at hl; simp; omega
  have d' : (l : Int) < 4 * (m : Int) + 2 * ((n : Int) - (m : Int)) := by simpa using d
  clear hl
  go_enter Try.func14, Try.ntmps14
  go_wp2
  go_ret2
  exact ⟨rfl, (Below.refl _ _).alloc (Nat.le_refl _) _⟩

set_option maxRecDepth 100000 in
set_option maxHeartbeats 4000000 in
theorem rload_ok (n m0 : Nat) (A : Option Addr) (c : Nat) (bs : List Value) (w : World) (hm : m0 + 1 ≤ n) (hn : n ≤ 3000) (hl : posM (m0 + 1) n ≤ bs.length) (hL : Lists w w.heap.size A bs) (h8 : Bytes8 bs) (hcap : bs.length ≤ c) (hc2 : c ≤ 9223372036854775807) (hl2 : bs.length ≤ 140737488355328) :
    Calls Try.prog 14 #[.slice A bs.length c, .int .i64 (n : Nat), .int .i64 ((m0 : Int) + 1)] w (RMade w (metsTo bs (m0 + 1) n)) := by
  have d : decide ((bs.length : Int) < 4 * ((m0 : Int) + 1) + 2 * ((n : Int) - ((m0 : Int) + 1))) = false := by unfold posM at hl; simp; omega
  have d' : ¬ (bs.length : Int) < 4 * ((m0 : Int) + 1) + 2 * ((n : Int) - ((m0 : Int) + 1)) := by simpa using d
  have hr0 : RRd (w.alloc (.cells #[.slice A bs.length c, .int .i64 0, .bool false] 72)) w.heap.size w.heap.size bs 0 false := ⟨A, c, Blk.new w _ _, hL.below ((Below.refl _ _).alloc (Nat.le_refl _) _), h8, Nat.zero_le _, hcap, hc2, hl2, Nat.le_refl _⟩
  obtain ⟨i0, hi, hz0, hz1, hz2⟩ := info_parts metInfo
  have HL := Lib.hid hl
  clear hL h8 hl
  obtain ⟨bl, hbl⟩ : ∃ bl, bl = bs.length := ⟨_, rfl⟩
  rw [← hbl] at d d' hr0 hcap hl2 ⊢
  have HBL := Lib.hid hbl
  clear hbl
  go_enter Try.func14, Try.ntmps14
  go_wp2
  have bw := (Below.refl w.heap.size w).alloc (Nat.le_refl _) (.cells #[.slice A bl c, .int .i64 0, .bool false] 72)
  generalize (w.alloc (.cells #[.slice A bl c, .int .i64 0, .bool false] 72)) = w0 at *
  go_loopw [9, 10] (fun s i wr => ∃ k : Nat, k ≤ n ∧ i = .int .i64 k ∧ Below w.heap.size w wr ∧ RRd wr w.heap.size w.heap.size bs (posM (m0 + 1) k) false ∧ wr.ownsRow w.heap.size 51 2 s k (metCells (metsTo bs (m0 + 1) k))) (fun _ i _ => n - (intOf i).toNat)
  case atStart => exact ⟨0, Nat.zero_le _, rfl, bw, by rw [show posM (m0 + 1) 0 = 0 by simp [posM]]; exact hr0, ⟨rfl, .inl ⟨rfl, rfl⟩⟩⟩
  case round =>
    obtain ⟨k, hk, rfl, hb, hr, hown⟩ := hrel
    clear bw hr0
    by_cases hlt : k < n
    · have e1 : decide ((k : Int) < (n : Int)) = true := by simp; omega
      obtain ⟨A5, c5, rfl, l5, hc5⟩ := own_lists hown
      have hpq : w.heap.size < wr.heap.size := hr.lt
      have ba := (Below.refl wr.heap.size wr).alloc (Nat.le_refl _) (.cells #[.int .i64 0, .int .i64 0] 51)
      have hra := hr.below ba
      have owna := own_alloc hown (.cells #[.int .i64 0, .int .i64 0] 51)
      have blka := Blk.new wr 51 #[.int .i64 0, .int .i64 0]
      have hpos := posM_mono (m0 + 1) (k + 1) n hlt
      rw [posM_succ] at hpos
      have hB1 := hb.trans (ba.mono hb.size)
      have hqr : wr.heap.size ∉ blk (.slice A5 k c5) := fun h => by have := blk_lt hown _ h; omega
      by_cases hkm : k < m0 + 1
      · have e2 : decide ((k : Int) < (m0 : Int) + 1) = true := by simp; omega
        unfold bearPos at hpos
        rw [if_pos hkm] at hpos
        have C1 := ru2_ok w.heap.size w.heap.size bs (posM (m0 + 1) k) _ hra (by have := HL.out; omega)
        have hxa : advAt bs (m0 + 1) k = (rd2 bs (posM (m0 + 1) k) : Nat) := rfl
        have hxb : bearAt bs (m0 + 1) k = s16 (rd2 bs (posM (m0 + 1) k + 2)) := by unfold bearAt bearPos; rw [if_pos hkm]
        have HM := Lib.hid (show metsTo bs (m0 + 1) (k + 1) = metsTo bs (m0 + 1) k ++ [(((rd2 bs (posM (m0 + 1) k) : Nat) : Int), s16 (rd2 bs (posM (m0 + 1) k + 2)))] by
          rw [metsTo_succ]; unfold metAt; rw [show min k (m0 + 1 - 1) = k by omega, hxa, hxb])
        have HPS := Lib.hid (show posM (m0 + 1) (k + 1) = posM (m0 + 1) k + 2 + 2 by rw [posM_succ]; unfold bearPos; rw [if_pos hkm])
        clear hxa hxb l5
        generalize metsTo bs (m0 + 1) k = ls at *
        have C2 := fun V (hv : RRd V w.heap.size w.heap.size bs (posM (m0 + 1) k + 2) false) => rI16_ok w.heap.size w.heap.size bs (posM (m0 + 1) k + 2) V hv (by have := HL.out; omega)
        generalize ((rd2 bs (posM (m0 + 1) k) : Nat) : Int) = xa at *
        generalize s16 (rd2 bs (posM (m0 + 1) k + 2)) = xb at *
        generalize posM (m0 + 1) k = z at *
        go_wp2_with (first | (go_at_call 38; ((with_reducible refine C1.mono ?_); rintro e w2 ⟨rfl, hr2, o2⟩; have blk2 := blka.only o2 (by simp; omega); have own2 := own_only owna o2 (fun b hm e => by simp at e; subst e; obtain ⟨cs, hp⟩ := hra.blk; exact own_ne owna hp (by decide) hm); have hB2 := hB1.trans (o2.to_below hB1.size (by simp)); have F2 := blk2.kb; simp only [KB, CellsAt, Nat.zero_add, and_true] at F2; have o2' : Only w2 (w2.setCell ⟨wr.heap.size, 0, none⟩ (.int .i64 xa)) [wr.heap.size] := (Only.refl _ _).set (.inl (by simp)) _; have hr2' := hr2.only o2' (by simp; omega) (by simp; omega); have blk2' := blk2.set 0 (.int .i64 xa); have own2' := own_only own2 o2' (fun b hm e => by simp at e; subst e; exact hqr hm); have hB2' := hB2.trans (o2'.to_below hB2.size (by simp; omega)))) | (go_at_call 39; ((with_reducible refine (C2 _ hr2').mono ?_); rintro e w3 ⟨rfl, hr3, o3⟩; have blk3 := blk2'.only o3 (by simp; omega); have own3p := own_only own2' o3 (fun b hm e => by simp at e; subst e; obtain ⟨cs, hp⟩ := hr2'.blk; exact own_ne own2' hp (by decide) hm); have hB3 := hB2'.trans (o3.to_below hB2'.size (by simp)); have F3 := blk3.kb; simp [KB, CellsAt] at F3; have o3' : Only w3 (w3.setCell ⟨wr.heap.size, 1, none⟩ (.int .i64 xb)) [wr.heap.size] := (Only.refl _ _).set (.inl (by simp)) _; have hr3' := hr3.only o3' (by simp; omega) (by simp; omega); have own3 := own_only own3p o3' (fun b hm e => by simp at e; subst e; exact hqr hm); have b3 := hB3.trans (o3'.to_below hB3.size (by simp; omega)); have b3W := b3.alloc b3.size (.cells #[.int .i64 xa, .int .i64 xb] 51))) | (at_builtin; refine wpList_append_src _ rfl (.tmp 47) (.tmp 49) 22 rfl w.heap.size 51 i0 (.agg #[.int .i64 0, .int .i64 0]) 2 16 Try.underlying22 hi hz0 hz1 hz2 rfl (by decide) (.slice A5 k c5) k (metCells ls) rfl (own_alloc own3 _) _ _ 1 1 [.int .i64 xa, .int .i64 xb] rfl (lists_new_at _ _ _ [.int .i64 xa, .int .i64 xb] _ (by simp) (fun j u hu => by simpa using hu)) rfl (by simp [Value.oneCell']) (by simp only [maxLen]; omega) (by omega) (by have := b3.size; simp at this ⊢; omega) ?_; intro v5 w5 own5 hg5 hat5; have b35 := b3W.grown hg5 b3W.size (fun b hb => own_low own3 b (by simp [blk, hb]))))
        have hr5 : RRd w5 w.heap.size w.heap.size bs (z + 2 + 2) false := by
          refine (hr3'.below ((Below.refl _ _).alloc (Nat.le_refl _) _)).only ((Only.refl _ (blk (.slice A5 k c5))).grown hg5 (fun b hb => .inl (by simp [blk, hb]))) (fun hm => ?_) (own_low own3)
          obtain ⟨cs, hp⟩ := hr3'.blk
          exact own_ne own3 hp (by decide) hm
        go_roundw
        case rel => exact ⟨k + 1, by omega, by go_num, b35, by rw [HPS.out]; exact hr5, by rw [HM.out, metCells_snoc]; exact own5⟩
        case measure => simp [intOf]; omega
      · have e2 : decide ((k : Int) < (m0 : Int) + 1) = false := by simp; omega
        unfold bearPos at hpos
        rw [if_neg hkm] at hpos
        have hxb : bearAt bs (m0 + 1) k = s16 (rd2 bs (posM (m0 + 1) k)) := by unfold bearAt bearPos; rw [if_neg hkm, Nat.add_zero]
        have HM := Lib.hid (show metsTo bs (m0 + 1) (k + 1) = metsTo bs (m0 + 1) k ++ [(advAt bs (m0 + 1) m0, s16 (rd2 bs (posM (m0 + 1) k)))] by
          rw [metsTo_succ]; unfold metAt; rw [show min k (m0 + 1 - 1) = m0 by omega, hxb])
        have HPS := Lib.hid (show posM (m0 + 1) (k + 1) = posM (m0 + 1) k + 2 by rw [posM_succ]; unfold bearPos; rw [if_neg hkm, Nat.add_zero])
        have hget := metsTo_get bs (m0 + 1) k m0 (by omega)
        have hadv : metAt bs (m0 + 1) m0 = (advAt bs (m0 + 1) m0, bearAt bs (m0 + 1) m0) := by unfold metAt; rw [show min m0 (m0 + 1 - 1) = m0 by omega]
        rw [hadv] at hget
        have hcellA := (metCells_at _ _ _ _ hget).1
        obtain ⟨g, og, rfl, hgl, hgc⟩ := l5.plain (by intro e; rw [e] at hcellA; simp at hcellA)
        have y0 := hgc (m0 * 2) _ hcellA
        have y1 := (ba.cell (p := ⟨g, og + m0 * 2, none⟩) hgl).trans y0
        clear hxb hget hadv hcellA hgc
        have C2 := fun V (hv : RRd V w.heap.size w.heap.size bs (posM (m0 + 1) k) false) => rI16_ok w.heap.size w.heap.size bs (posM (m0 + 1) k) V hv (by have := HL.out; omega)
        generalize metsTo bs (m0 + 1) k = ls at *
        generalize advAt bs (m0 + 1) m0 = xa at *
        generalize s16 (rd2 bs (posM (m0 + 1) k)) = xb at *
        generalize posM (m0 + 1) k = z at *
        have e3 : (0 : Int) ≤ (m0 : Int) := by omega
        have e4 : (m0 : Int) < (k : Int) := by omega
        have bx := (Below.refl wr.heap.size wr).alloc (Nat.le_refl _) (.cells #[.int .i64 xa, .int .i64 0] 51)
        have hrx := hr.below bx
        have ownx := own_alloc hown (.cells #[.int .i64 xa, .int .i64 0] 51)
        have blkx := Blk.new wr 51 #[.int .i64 xa, .int .i64 0]
        have hBx := hb.trans (bx.mono hb.size)
        clear ba hra owna blka hB1
        go_wp2_with (first | (go_at_call 39; ((with_reducible refine (C2 _ hrx).mono ?_); rintro e w3 ⟨rfl, hr3, o3⟩; have blk3 := blkx.only o3 (by simp; omega); have own3p := own_only ownx o3 (fun b hm e => by simp at e; subst e; obtain ⟨cs, hp⟩ := hrx.blk; exact own_ne ownx hp (by decide) hm); have hB3 := hBx.trans (o3.to_below hBx.size (by simp)); have F3 := blk3.kb; simp [KB, CellsAt] at F3; have o3' : Only w3 (w3.setCell ⟨wr.heap.size, 1, none⟩ (.int .i64 xb)) [wr.heap.size] := (Only.refl _ _).set (.inl (by simp)) _; have hr3' := hr3.only o3' (by simp; omega) (by simp; omega); have own3 := own_only own3p o3' (fun b hm e => by simp at e; subst e; exact hqr hm); have b3 := hB3.trans (o3'.to_below hB3.size (by simp; omega)); have b3W := b3.alloc b3.size (.cells #[.int .i64 xa, .int .i64 xb] 51))) | (at_builtin; refine wpList_append_src _ rfl (.tmp 47) (.tmp 49) 22 rfl w.heap.size 51 i0 (.agg #[.int .i64 0, .int .i64 0]) 2 16 Try.underlying22 hi hz0 hz1 hz2 rfl (by decide) (.slice (some ⟨g, og, none⟩) k c5) k (metCells ls) rfl (own_alloc own3 _) _ _ 1 1 [.int .i64 xa, .int .i64 xb] rfl (lists_new_at _ _ _ [.int .i64 xa, .int .i64 xb] _ (by simp) (fun j u hu => by simpa using hu)) rfl (by simp [Value.oneCell']) (by simp only [maxLen]; omega) (by omega) (by have := b3.size; simp at this ⊢; omega) ?_; intro v5 w5 own5 hg5 hat5; have b35 := b3W.grown hg5 b3W.size (fun b hb => own_low own3 b (by simp [blk, hb]))))
        have hr5 : RRd w5 w.heap.size w.heap.size bs (z + 2) false := by
          refine (hr3'.below ((Below.refl _ _).alloc (Nat.le_refl _) _)).only ((Only.refl _ (blk (.slice (some ⟨g, og, none⟩) k c5))).grown hg5 (fun b hb => .inl (by simp [blk, hb]))) (fun hm => ?_) (own_low own3)
          obtain ⟨cs, hp⟩ := hr3'.blk
          exact own_ne own3 hp (by decide) hm
        go_roundw
        case rel => exact ⟨k + 1, by omega, by go_num, b35, by rw [HPS.out]; exact hr5, by rw [HM.out, metCells_snoc]; exact own5⟩
        case measure => simp [intOf]; omega
    · have e1 : decide ((k : Int) < (n : Int)) = false := by simp; omega
      obtain rfl : k = n := by omega
      have hlen := metsTo_len bs (m0 + 1) k
      obtain ⟨A5, c5, rfl, l5, hc5⟩ := own_lists hown
      have HQ : ∀ e w', e = .returned (.tuple #[.slice A5 k c5, .bool true]) → Below w.heap.size w w' → Lists w' w'.heap.size A5 (metCells (metsTo bs (m0 + 1) k)) → RMade w (metsTo bs (m0 + 1) k) e w' := fun e w' h1 h2 h3 => ⟨A5, c5, by rw [hlen]; exact h1, h3, by rw [hlen]; exact hc5, h2⟩
      have HQ2 := Lib.hid HQ
      clear HQ hlen
      go_wp2
      go_ret2
      exact HQ2.out _ _ rfl hb l5

end Go.Proofs.Ytdbhfigdojkceaa
