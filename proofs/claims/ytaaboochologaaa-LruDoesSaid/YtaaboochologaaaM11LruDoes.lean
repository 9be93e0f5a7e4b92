/- Part 12 of the proof: LrAd, LrZ, LrAe. -/
import Derived.Test.YtaaboochologaaaM10LruDoes

namespace Go.Proofs.Ytaaboochologaaa
open Go Go.RowKit
set_option linter.unusedVariables false
set_option linter.unusedSimpArgs false

set_option maxRecDepth 100000 in
set_option maxHeartbeats 2000000 in
theorem rget_miss (W0 W : World) (B q : Nat) (bud : Int) (E : List RE) (lv : Value) (k : Ky) (h : RfS W0 W B q bud E lv) (hs : sumE (E.map ren) ≤ 16777216) (hd : (E.map RE.k).Nodup) (hno : ∀ x ∈ E, x.k ≠ k) : Calls Try.prog 25 #[.pointer (some ⟨q, 0, none⟩), .agg #[.int .i64 k.1, .int .i64 k.2.1, .int .i64 k.2.2.1, .int .i64 k.2.2.2]] W fun e w' => ∃ lv' E', e = .returned (.tuple #[.agg #[.int .i64 0, .int .i64 0, .int .i64 0, .int .i64 0, .slice none 0 0], .bool false]) ∧ RfS W0 w' B q bud E' lv' ∧ E'.map ren = E.map ren ∧ Only W w' [q] := by
  obtain ⟨wa, hwa⟩ : ∃ wa, wa = (W.alloc (.cells #[.int .i64 k.1, .int .i64 k.2.1, .int .i64 k.2.2.1, .int .i64 k.2.2.2] 39)).alloc (.cells #[.int .i64 0, .int .i64 0, .int .i64 0, .int .i64 0, .slice none 0 0] 37) := ⟨_, rfl⟩
  have Ba : Below W.heap.size W wa := hwa ▸ below_a2 _ _ _
  have Ka : Blk wa W.heap.size 39 #[.int .i64 k.1, .int .i64 k.2.1, .int .i64 k.2.2.1, .int .i64 k.2.2.2] := hwa ▸ (Blk.new W 39 #[.int .i64 k.1, .int .i64 k.2.1, .int .i64 k.2.2.1, .int .i64 k.2.2.2]).below (below_a1 _ (.cells #[.int .i64 0, .int .i64 0, .int .i64 0, .int .i64 0, .slice none 0 0] 37))
  have Ra : Blk wa (W.heap.size + 1) 37 #[.int .i64 0, .int .i64 0, .int .i64 0, .int .i64 0, .slice none 0 0] := by
    have := Blk.new (W.alloc (.cells #[.int .i64 k.1, .int .i64 k.2.1, .int .i64 k.2.2.1, .int .i64 k.2.2.2] 39)) 37 #[.int .i64 0, .int .i64 0, .int .i64 0, .int .i64 0, .slice none 0 0]
    rw [World.size_alloc] at this
    exact hwa ▸ this
  have hsl := sumE_len (E.map ren)
  rw [List.length_map] at hsl
  have ha := h.below Ba
  have CD0 := rdropS W0 wa B q bud E lv k ha (by omega) hd
  have CD : Calls Try.prog 27 #[.pointer (some ⟨q, 0, none⟩), .agg #[.int .i64 k.1, .int .i64 k.2.1, .int .i64 k.2.2.1, .int .i64 k.2.2.2]] wa fun e w' => ∃ lv' E', e = .returned (.tuple #[.agg #[.int .i64 0, .int .i64 0, .int .i64 0, .int .i64 0, .slice none 0 0], .bool false]) ∧ RfS W0 w' B q bud E' lv' ∧ E'.map ren = E.map ren ∧ Only wa w' [q] := by
    refine CD0.mono ?_
    rintro e w' ⟨lv', E', r, e1, u, o, (⟨rfl, _⟩ | ⟨x, hx, hk, _⟩)⟩
    · refine ⟨lv', E', rfl, r, ?_, o⟩
      rw [e1]
      exact dropE_no fun e he hke => by obtain ⟨y, hy, rfl⟩ := List.mem_map.1 he; exact hno y hy hke
    · exact absurd hk (hno x hx)
  have HA := Lib.hid (And.intro ha (And.intro Ka (And.intro Ra Ba)))
  have HQo := Lib.hid h.blk.lt
  have HSM := Lib.hid hs
  obtain ⟨i0, hi, hz0, hz1, hz2⟩ := info_parts enInfo3
  have k0 := Ka.cell 0; have k1 := Ka.cell 1; have k2 := Ka.cell 2; have k3 := Ka.cell 3; have kl := Ka.lt; simp only [List.getElem?_toArray, List.getElem?_cons_succ, List.getElem?_cons_zero] at k0 k1 k2 k3
  have HWA := Lib.hid hwa
  have hlw := h.low
  clear h ha Ka Ra Ba hwa hs hd hsl CD0
  go_enter Try.func25, Try.ntmps25
  go_upto_region 1 with fail
  rw [← HWA.out]
  go_upto_region 2 with (first
    | (go_at_call 27; refine (CD).mono ?_; rintro e w2 ⟨lv2, E2, rfl, r2, e2, o2⟩; have HR2 := Lib.hid (And.intro r2 (And.intro e2 o2)); have HR6 := Lib.hid (Blk.new w2 37 #[.int .i64 0, .int .i64 0, .int .i64 0, .int .i64 0, .slice none 0 0]); have HR4 := Lib.hid (HA.out.2.2.1.only o2 (by simp; have := HQo.out; omega)))
    | (refine wpList_store_row rfl 37 (.tmp 6) (.tmp 12) (by with_reducible rfl) w2.heap.size #[.int .i64 0, .int .i64 0, .int .i64 0, .int .i64 0, .slice none 0 0] (by rfl) (by rfl) 37 #[.int .i64 0, .int .i64 0, .int .i64 0, .int .i64 0, .slice none 0 0] (by exact HR6.out) mkInfoL rfl (by simp [Value.oneCell']) ?_))
  obtain ⟨w3, hw3⟩ : ∃ w3, w3 = (w2.alloc (.cells #[.int .i64 0, .int .i64 0, .int .i64 0, .int .i64 0, .slice none 0 0] 37)).setRow w2.heap.size #[.int .i64 0, .int .i64 0, .int .i64 0, .int .i64 0, .slice none 0 0] := ⟨_, rfl⟩
  rw [← hw3]
  have B3 : Below w2.heap.size w2 w3 := hw3 ▸ below_setRow (g := w2.heap.size) (below_a1 _ _) (Nat.le_refl _) _
  have K6 : Blk w3 w2.heap.size 37 #[.int .i64 0, .int .i64 0, .int .i64 0, .int .i64 0, .slice none 0 0] := by rw [hw3]; exact blk_row HR6.out _
  have HK4 := Lib.hid (HR4.out.below B3)
  have HB3 := Lib.hid B3
  have m0 := K6.cell 0; have m1 := K6.cell 1; have m2 := K6.cell 2; have m3 := K6.cell 3; have m4 := K6.cell 4; have ml := K6.lt; simp only [List.getElem?_toArray, List.getElem?_cons_succ, List.getElem?_cons_zero] at m0 m1 m2 m3 m4
  clear r2 e2 o2 hw3 B3 K6 CD
  go_wp2_with (refine wpList_store_row rfl 37 (.tmp 4) (.tmp 27) (by with_reducible rfl) (W.heap.size + 1) #[.int .i64 0, .int .i64 0, .int .i64 0, .int .i64 0, .slice none 0 0] (by rfl) (by rfl) 37 #[.int .i64 0, .int .i64 0, .int .i64 0, .int .i64 0, .slice none 0 0] (by exact HK4.out) mkInfoL rfl (by simp [Value.oneCell']) ?_)
  have o9 : Only w3 (w3.setRow (W.heap.size + 1) #[.int .i64 0, .int .i64 0, .int .i64 0, .int .i64 0, .slice none 0 0]) [W.heap.size + 1] := only_row (Only.refl _ _) (.inl (by simp)) _
  have hq0 := HQo.out
  have r3 := HR2.out.1.below HB3.out
  refine bodyPost_ret (results_row_tmp Try.results25 _ _ (W.heap.size + 1) 37 #[.int .i64 0, .int .i64 0, .int .i64 0, .int .i64 0, .slice none 0 0] (0, 0) _ (.bool false) (by rfl) (by rfl) (show Blk _ _ _ _ from blk_row HK4.out _) Try.underlying37 rfl mkInfoL) rfl ⟨lv2, E2, rfl, ?_, HR2.out.2.1, ?_⟩
  · exact r3.only o9 (by simp; omega) (fun b hb hm => by simp at hm; subst hm; exact own_ne r3.own HK4.out (by decide) hb) (by simp; omega)
  · exact (((Only.of_below HA.out.2.2.2 [q]).trans HR2.out.2.2 (fun b hb => .inl hb)).trans (Only.of_below HB3.out []) (fun b hb => (nomatch hb))).trans o9 (fun b hb => .inr (by simp at hb; omega))
set_option maxRecDepth 100000 in
set_option maxHeartbeats 2000000 in
theorem rget_hit (W0 W : World) (B q : Nat) (bud : Int) (E : List RE) (lv : Value) (k : Ky) (h : RfS W0 W B q bud E lv) (hs : sumE (E.map ren) ≤ 16777216) (hd : (E.map RE.k).Nodup) (hyes : ∃ x ∈ E, x.k = k) : Calls Try.prog 25 #[.pointer (some ⟨q, 0, none⟩), .agg #[.int .i64 k.1, .int .i64 k.2.1, .int .i64 k.2.2.1, .int .i64 k.2.2.2]] W fun e w' => ∃ lv' E' x, x ∈ E ∧ x.k = k ∧ e = .returned (.tuple #[.agg #[.int .i64 x.bx.x0, .int .i64 x.bx.y0, .int .i64 x.bx.x1, .int .i64 x.bx.y1, x.rv], .bool true]) ∧ RfS W0 w' B q bud E' lv' ∧ E'.map ren = ren x :: dropE k (E.map ren) ∧ Only W w' [q] := by
  obtain ⟨wa, hwa⟩ : ∃ wa, wa = (W.alloc (.cells #[.int .i64 k.1, .int .i64 k.2.1, .int .i64 k.2.2.1, .int .i64 k.2.2.2] 39)).alloc (.cells #[.int .i64 0, .int .i64 0, .int .i64 0, .int .i64 0, .slice none 0 0] 37) := ⟨_, rfl⟩
  have Ba : Below W.heap.size W wa := hwa ▸ below_a2 _ _ _
  have Ka : Blk wa W.heap.size 39 #[.int .i64 k.1, .int .i64 k.2.1, .int .i64 k.2.2.1, .int .i64 k.2.2.2] := hwa ▸ (Blk.new W 39 #[.int .i64 k.1, .int .i64 k.2.1, .int .i64 k.2.2.1, .int .i64 k.2.2.2]).below (below_a1 _ (.cells #[.int .i64 0, .int .i64 0, .int .i64 0, .int .i64 0, .slice none 0 0] 37))
  have Ra : Blk wa (W.heap.size + 1) 37 #[.int .i64 0, .int .i64 0, .int .i64 0, .int .i64 0, .slice none 0 0] := by
    have := Blk.new (W.alloc (.cells #[.int .i64 k.1, .int .i64 k.2.1, .int .i64 k.2.2.1, .int .i64 k.2.2.2] 39)) 37 #[.int .i64 0, .int .i64 0, .int .i64 0, .int .i64 0, .slice none 0 0]
    rw [World.size_alloc] at this
    exact hwa ▸ this
  have hsl := sumE_len (E.map ren)
  rw [List.length_map] at hsl
  have ha := h.below Ba
  have CD0 := rdropS W0 wa B q bud E lv k ha (by omega) hd
  have CD : Calls Try.prog 27 #[.pointer (some ⟨q, 0, none⟩), .agg #[.int .i64 k.1, .int .i64 k.2.1, .int .i64 k.2.2.1, .int .i64 k.2.2.2]] wa fun e w' => ∃ lv' E' x Ar cr m, x ∈ E ∧ x.k = k ∧ x.rv = .slice Ar m cr ∧ e = .returned (.tuple #[.agg #[.int .i64 x.bx.x0, .int .i64 x.bx.y0, .int .i64 x.bx.x1, .int .i64 x.bx.y1, .slice Ar m cr], .bool true]) ∧ RfS W0 w' B q bud E' lv' ∧ E'.map ren = dropE k (E.map ren) ∧ (∀ y ∈ E', y ∈ E) ∧ Only wa w' [q] := by
    refine CD0.mono ?_
    rintro e w' ⟨lv', E', r, e1, u, o, (⟨_, hno⟩ | ⟨x, hx, hk, rfl⟩)⟩
    · obtain ⟨x, hx, hk⟩ := hyes
      exact absurd hk (hno x hx)
    · obtain ⟨Ar, cr, hrv, _⟩ := h.ok x hx
      exact ⟨lv', E', x, Ar, cr, x.bs.length, hx, hk, hrv, by rw [hrv], r, e1, u, o⟩
  have HOK := Lib.hid h.ok
  have HA := Lib.hid (And.intro ha (And.intro Ka (And.intro Ra Ba)))
  have HQo := Lib.hid h.blk.lt
  have HSM := Lib.hid hs
  obtain ⟨i0, hi, hz0, hz1, hz2⟩ := info_parts enInfo3
  have k0 := Ka.cell 0; have k1 := Ka.cell 1; have k2 := Ka.cell 2; have k3 := Ka.cell 3; have kl := Ka.lt; simp only [List.getElem?_toArray, List.getElem?_cons_succ, List.getElem?_cons_zero] at k0 k1 k2 k3
  have HWA := Lib.hid hwa
  have hlw := h.low
  clear h ha Ka Ra Ba hwa hs hd hsl CD0
  go_enter Try.func25, Try.ntmps25
  go_upto_region 1 with fail
  rw [← HWA.out]
  go_upto_region 2 with (first
    | (go_at_call 27; refine (CD).mono ?_; rintro e w2 ⟨lv2, E2, x, Ar, cr, m, hxE, hxk, hxr, rfl, r2, e2, u2, o2⟩; have HR2 := Lib.hid (And.intro r2 (And.intro e2 (And.intro u2 o2))); have HXX := Lib.hid (And.intro hxE (And.intro hxk hxr)); have HR6 := Lib.hid (Blk.new w2 37 #[.int .i64 0, .int .i64 0, .int .i64 0, .int .i64 0, .slice none 0 0]); have HR4 := Lib.hid (HA.out.2.2.1.only o2 (by simp; have := HQo.out; omega)); have HKy := Lib.hid (HA.out.2.1.only o2 (by simp; have := HQo.out; omega)))
    | (refine wpList_store_row rfl 37 (.tmp 6) (.tmp 12) (by with_reducible rfl) w2.heap.size #[.int .i64 x.bx.x0, .int .i64 x.bx.y0, .int .i64 x.bx.x1, .int .i64 x.bx.y1, .slice Ar m cr] (by rfl) (by rfl) 37 #[.int .i64 0, .int .i64 0, .int .i64 0, .int .i64 0, .slice none 0 0] (by exact HR6.out) mkInfoL rfl (by simp [Value.oneCell']) ?_))
  obtain ⟨w3, hw3⟩ : ∃ w3, w3 = (w2.alloc (.cells #[.int .i64 0, .int .i64 0, .int .i64 0, .int .i64 0, .slice none 0 0] 37)).setRow w2.heap.size #[.int .i64 x.bx.x0, .int .i64 x.bx.y0, .int .i64 x.bx.x1, .int .i64 x.bx.y1, .slice Ar m cr] := ⟨_, rfl⟩
  rw [← hw3]
  have B3 : Below w2.heap.size w2 w3 := hw3 ▸ below_setRow (g := w2.heap.size) (below_a1 _ _) (Nat.le_refl _) _
  obtain ⟨q6, hq6⟩ : ∃ q6, q6 = w2.heap.size := ⟨_, rfl⟩
  rw [← hq6]
  have K6 : Blk w3 q6 37 #[.int .i64 x.bx.x0, .int .i64 x.bx.y0, .int .i64 x.bx.x1, .int .i64 x.bx.y1, .slice Ar m cr] := by rw [hw3, hq6]; exact blk_row HR6.out _
  have Ky3 := HKy.out.below B3
  have HK4 := Lib.hid (HR4.out.below B3)
  have HB3 := Lib.hid B3
  have HQ6 := Lib.hid hq6
  have hr3 := HR2.out.1.below B3
  have hown := hr3.own
  obtain ⟨A1, cc1, hlv, hls0, hcc⟩ := own_lists hown
  obtain ⟨K, hK⟩ : ∃ K, K = E2.length := ⟨_, rfl⟩
  rw [← hK] at hlv hcc
  subst hlv
  have c1 := hr3.blk.cell 1
  simp only [List.getElem?_toArray, List.getElem?_cons_succ, List.getElem?_cons_zero] at c1
  have hI : Below w3.heap.size w3 w3.drew := (Below.refl _ _).drew
  have BA : Below w3.heap.size w3 (w3.drew.alloc (.cells #[.int .i64 k.1, .int .i64 k.2.1, .int .i64 k.2.2.1, .int .i64 k.2.2.2, .int .i64 x.bx.x0, .int .i64 x.bx.y0, .int .i64 x.bx.x1, .int .i64 x.bx.y1, .slice Ar m cr] 47)) := hI.alloc (Nat.le_refl _) _
  have hq3 := hr3.blk.lt
  have hBc : B ≤ w3.heap.size := by omega
  have own1 : (w3.drew.alloc (.cells #[.int .i64 k.1, .int .i64 k.2.1, .int .i64 k.2.2.1, .int .i64 k.2.2.2, .int .i64 x.bx.x0, .int .i64 x.bx.y0, .int .i64 x.bx.x1, .int .i64 x.bx.y1, .slice Ar m cr] 47)).ownsRow B 47 9 (.slice (some ⟨w3.heap.size, 0, none⟩) 1 1) 1 #[.int .i64 k.1, .int .i64 k.2.1, .int .i64 k.2.2.1, .int .i64 k.2.2.2, .int .i64 x.bx.x0, .int .i64 x.bx.y0, .int .i64 x.bx.x1, .int .i64 x.bx.y1, .slice Ar m cr].toList := World.ownsRow_lit w3.drew #[.int .i64 k.1, .int .i64 k.2.1, .int .i64 k.2.2.1, .int .i64 k.2.2.2, .int .i64 x.bx.x0, .int .i64 x.bx.y0, .int .i64 x.bx.x1, .int .i64 x.bx.y1, .slice Ar m cr] 1 hBc (by decide) rfl
  obtain ⟨L9, hL9⟩ : ∃ L9 : List Value, L9 = #[.int .i64 k.1, .int .i64 k.2.1, .int .i64 k.2.2.1, .int .i64 k.2.2.2, .int .i64 x.bx.x0, .int .i64 x.bx.y0, .int .i64 x.bx.x1, .int .i64 x.bx.y1, .slice Ar m cr].toList := ⟨_, rfl⟩
  rw [← hL9] at own1
  have own1 : (w3.alloc (.cells #[.int .i64 k.1, .int .i64 k.2.1, .int .i64 k.2.2.1, .int .i64 k.2.2.2, .int .i64 x.bx.x0, .int .i64 x.bx.y0, .int .i64 x.bx.x1, .int .i64 x.bx.y1, .slice Ar m cr] 47)).drew.ownsRow B 47 9 (.slice (some ⟨w3.heap.size, 0, none⟩) 1 1) 1 L9 := own1
  have HL9 := Lib.hid hL9
  clear hL9
  have hls : Lists (w3.drew.alloc (.cells #[.int .i64 k.1, .int .i64 k.2.1, .int .i64 k.2.2.1, .int .i64 k.2.2.2, .int .i64 x.bx.x0, .int .i64 x.bx.y0, .int .i64 x.bx.x1, .int .i64 x.bx.y1, .slice Ar m cr] 47)) (w3.drew.alloc (.cells #[.int .i64 k.1, .int .i64 k.2.1, .int .i64 k.2.2.1, .int .i64 k.2.2.2, .int .i64 x.bx.x0, .int .i64 x.bx.y0, .int .i64 x.bx.x1, .int .i64 x.bx.y1, .slice Ar m cr] 47)).heap.size A1 (E2.flatMap reL) := listsB hls0 BA
  have hl9 : (E2.flatMap reL).length = K * 9 := by rw [flat_len reLen, hK]
  have h1c := reL_one E2 (fun y hy => by obtain ⟨A, c, h, _⟩ := hr3.ok y hy; exact ⟨A, c, h⟩)
  have k0 := Ky3.cell 0; have k1 := Ky3.cell 1; have k2 := Ky3.cell 2; have k3 := Ky3.cell 3; have kl := Ky3.lt; simp only [List.getElem?_toArray, List.getElem?_cons_succ, List.getElem?_cons_zero] at k0 k1 k2 k3
  have m0 := K6.cell 0; have m1 := K6.cell 1; have m2 := K6.cell 2; have m3 := K6.cell 3; have m4 := K6.cell 4; have ml := K6.lt; simp only [List.getElem?_toArray, List.getElem?_cons_succ, List.getElem?_cons_zero] at m0 m1 m2 m3 m4
  have HD3 := Lib.hid (fun (V : World) (hV : Below w3.heap.size w3 V) => And.intro ((hV.cell (p := ⟨q, 1, none⟩) hq3).trans c1) (And.intro (Nat.lt_of_lt_of_le hq3 hV.size) (And.intro ((hV.cell (p := ⟨W.heap.size, 0, none⟩) kl).trans k0) (And.intro ((hV.cell (p := ⟨W.heap.size, 1, none⟩) kl).trans k1) (And.intro ((hV.cell (p := ⟨W.heap.size, 2, none⟩) kl).trans k2) (And.intro ((hV.cell (p := ⟨W.heap.size, 3, none⟩) kl).trans k3) (And.intro (Nat.lt_of_lt_of_le kl hV.size) (And.intro ((hV.cell (p := ⟨q6, 0, none⟩) ml).trans m0) (And.intro ((hV.cell (p := ⟨q6, 1, none⟩) ml).trans m1) (And.intro ((hV.cell (p := ⟨q6, 2, none⟩) ml).trans m2) (And.intro ((hV.cell (p := ⟨q6, 3, none⟩) ml).trans m3) (And.intro ((hV.cell (p := ⟨q6, 4, none⟩) ml).trans m4) (Nat.lt_of_lt_of_le ml hV.size)))))))))))))
  have hKb : K ≤ 262144 := by
    have h1 := sumE_len (E2.map ren)
    have h2 : sumE (dropE k (E.map ren)) ≤ sumE (E.map ren) := dropE_sum k _
    have h3 := HSM.out
    rw [List.length_map, HR2.out.2.1] at h1
    omega
  have HR3 := Lib.hid (And.intro hr3 hK)
  have HBA := Lib.hid BA
  have HK6 := Lib.hid K6
  clear hr3 hown hls0 hcc hK BA r2 e2 u2 o2 hw3 B3 hq6 K6 Ky3 CD k0 k1 k2 k3 m0 m1 m2 m3 m4 c1 hxE hxk hxr
  go_upto_region 3 with fail
  refine wp_region_chain_last (fun V => Below w3.heap.size w3 V) [(0, false), (1, false), (2, false), (3, false), (5, false), (6, false), (7, false), (8, false), (4, true), (9, true), (10, false), (11, false)] _ _ (by rfl) (by rfl) (by kernel_rfl) (by kernel_rfl) hI ?_
  repeat (first
    | (refine ChainL.skip (o := ?_) ?_ ?_ ?_; rotate_left; (focus (first | (simp only [List.getElem?_toArray, List.getElem?_cons_succ, List.getElem?_cons_zero]; with_reducible rfl) | (simp only [List.getElem?_toArray, List.getElem?_cons_zero]; with_reducible rfl))); (focus rfl); simp only [Act.put, List.setIfInBounds_toArray, List.set_cons_zero, List.set_cons_succ])
    | (refine ChainL.val (o := ?_) (v := ?_) ?_ ?_ ?_ ?_ ?_; rotate_left 2; (focus (first | (simp only [List.getElem?_toArray, List.getElem?_cons_succ, List.getElem?_cons_zero]; with_reducible rfl) | (simp only [List.getElem?_toArray, List.getElem?_cons_zero]; with_reducible rfl))); (focus (intro _ _ h; cases h)); (focus rfl); (focus (intro w' hI; obtain ⟨c1, lq, k0, k1, k2, k3, lk, m0, m1, m2, m3, m4, lm⟩ := HD3.out _ hI; go_simp <;> with_reducible rfl)); simp only [Act.put, List.setIfInBounds_toArray, List.set_cons_zero, List.set_cons_succ]))
  refine ChainL.does (o := ?_) (v := ?_) (w1 := ?_) ?_ ?_ ?_ ?_ ?_
  rotate_left 3
  (focus (first | (simp only [List.getElem?_toArray, List.getElem?_cons_succ, List.getElem?_cons_zero]; with_reducible rfl) | (simp only [List.getElem?_toArray, List.getElem?_cons_zero]; with_reducible rfl)))
  (focus rfl)
  (focus (go_simp; (constructor <;> with_reducible rfl)))
  (focus (exact HBA.out))
  simp only [Act.put, List.setIfInBounds_toArray, List.set_cons_zero, List.set_cons_succ]
  refine ChainL.append (o := ?_) ?_ ?_ (.tmp 19) (.tmp 23) 30 ?_ B 47 i0 (.agg #[.int .i64 0, .int .i64 0, .int .i64 0, .int .i64 0, .int .i64 0, .int .i64 0, .int .i64 0, .int .i64 0, .slice none 0 0]) 9 88 Try.underlying30 hi hz0 hz1 hz2 rfl (by decide) (.slice (some ⟨w3.heap.size, 0, none⟩) 1 1) 1 L9 ?_ own1 _ A1 K cc1 (E2.flatMap reL) ?_ hls hl9 h1c ?_ ?_ ?_ ?_
  rotate_left 1
  (focus (first | (simp only [List.getElem?_toArray, List.getElem?_cons_succ, List.getElem?_cons_zero]; with_reducible rfl) | (simp only [List.getElem?_toArray, List.getElem?_cons_zero]; with_reducible rfl)))
  (focus rfl)
  (focus rfl)
  (focus rfl)
  (focus rfl)
  (focus (simp only [maxLen]; omega))
  (focus omega)
  (focus (exact Nat.le_trans hBc HBA.out.size))
  intro v' w' own' hg' hat'
  have o1 : Only w3 w' [] := (Only.of_below HBA.out []).trans ((Only.refl _ [w3.heap.size]).grown hg' (fun b hb => .inl (by simp [Value.ownBlock] at hb; simp [hb]))) (fun b hb => .inr (by simp at hb; omega))
  refine ⟨o1.nil_below, ?_⟩
  simp only [Act.put, List.setIfInBounds_toArray, List.set_cons_zero, List.set_cons_succ]
  repeat (first
    | (refine ChainL.skip (o := ?_) ?_ ?_ ?_; rotate_left; (focus (first | (simp only [List.getElem?_toArray, List.getElem?_cons_succ, List.getElem?_cons_zero]; with_reducible rfl) | (simp only [List.getElem?_toArray, List.getElem?_cons_zero]; with_reducible rfl))); (focus rfl); simp only [Act.put, List.setIfInBounds_toArray, List.set_cons_zero, List.set_cons_succ])
    | (refine ChainL.val (o := ?_) (v := ?_) ?_ ?_ ?_ ?_ ?_; rotate_left 2; (focus (first | (simp only [List.getElem?_toArray, List.getElem?_cons_succ, List.getElem?_cons_zero]; with_reducible rfl) | (simp only [List.getElem?_toArray, List.getElem?_cons_zero]; with_reducible rfl))); (focus (intro _ _ h; cases h)); (focus rfl); (focus (intro w' hI; obtain ⟨c1, lq, k0, k1, k2, k3, lk, m0, m1, m2, m3, m4, lm⟩ := HD3.out _ hI; go_simp <;> with_reducible rfl)); simp only [Act.put, List.setIfInBounds_toArray, List.set_cons_zero, List.set_cons_succ]))
  refine ChainL.nil ?_
  obtain ⟨A2, n2c, hv2, _, _⟩ := own_lists own'
  subst hv2
  have hRS := HR3.out.1.set (V := w') (E' := x :: E2) (lv' := .slice A2 (1 + K) n2c) o1 (by
    rw [List.length_cons, ← HR3.out.2, Nat.add_comm K 1, List.flatMap_cons]
    rw [HL9.out] at own'
    have e : reL x = #[.int .i64 k.1, .int .i64 k.2.1, .int .i64 k.2.2.1, .int .i64 k.2.2.2, .int .i64 x.bx.x0, .int .i64 x.bx.y0, .int .i64 x.bx.x1, .int .i64 x.bx.y1, .slice Ar m cr].toList := by unfold reL; rw [HXX.out.2.2, HXX.out.2.1]
    rw [e]
    exact own') (fun e he => by
    rcases List.mem_cons.1 he with rfl | he
    · exact HOK.out _ HXX.out.1
    · exact HR3.out.1.ok e he)
  have b1' := (HR3.out.1.blk.only o1 (by simp)).cell 1
  have f1' := (HR3.out.1.blk.only o1 (by simp)).frozen 1
  have l1' := (HR3.out.1.blk.only o1 (by simp)).lt
  simp only [List.getElem?_toArray, List.getElem?_cons_succ, List.getElem?_cons_zero] at b1'
  have hq0 := HQo.out
  have hqq6 : q < q6 := by have h1 := HQ6.out; have h2 := HR2.out.2.2.2.size; have h3 := HA.out.2.2.2.size; omega
  have o3 := (Only.of_below o1.nil_below [q]).trans ((Only.refl w' [q]).set (p := ⟨q, 1, none⟩) (.inl (by simp)) (.slice A2 (1 + K) n2c)) (fun b hb => .inl hb)
  have K7 := HK6.out.only o3 (by simp; omega)
  have R7 := HK4.out.only o3 (by simp; omega)
  obtain ⟨w4, hw4⟩ : ∃ w4, w4 = w'.setCell ⟨q, 1, none⟩ (.slice A2 (1 + K) n2c) := ⟨_, rfl⟩
  rw [← hw4] at hRS K7 R7
  have HRS := Lib.hid hRS
  have HR7 := Lib.hid R7
  have HW4 := Lib.hid hw4
  have m0 := K7.cell 0; have m1 := K7.cell 1; have m2 := K7.cell 2; have m3 := K7.cell 3; have m4 := K7.cell 4; have ml := K7.lt; simp only [List.getElem?_toArray, List.getElem?_cons_succ, List.getElem?_cons_zero] at m0 m1 m2 m3 m4
  clear own' hg' hat' o1 hls hl9 h1c own1 hRS hw4 K7 R7 o3
  go_upto_region 4 with fail
  rw [← HW4.out]
  go_wp2_with (refine wpList_store_row rfl 37 (.tmp 4) (.tmp 27) (by with_reducible rfl) (W.heap.size + 1) #[.int .i64 x.bx.x0, .int .i64 x.bx.y0, .int .i64 x.bx.x1, .int .i64 x.bx.y1, .slice Ar m cr] (by rfl) (by rfl) 37 #[.int .i64 0, .int .i64 0, .int .i64 0, .int .i64 0, .slice none 0 0] (by exact HR7.out) mkInfoL rfl (by simp [Value.oneCell']) ?_)
  have o9 : Only w4 (w4.setRow (W.heap.size + 1) #[.int .i64 x.bx.x0, .int .i64 x.bx.y0, .int .i64 x.bx.x1, .int .i64 x.bx.y1, .slice Ar m cr]) [W.heap.size + 1] := only_row (Only.refl _ _) (.inl (by simp)) _
  refine bodyPost_ret (results_row_tmp Try.results25 _ _ (W.heap.size + 1) 37 #[.int .i64 x.bx.x0, .int .i64 x.bx.y0, .int .i64 x.bx.x1, .int .i64 x.bx.y1, .slice Ar m cr] (0, 0) _ (.bool true) (by rfl) (by rfl) (show Blk _ _ _ _ from blk_row HR7.out _) Try.underlying37 rfl mkInfoL) rfl ⟨_, x :: E2, x, HXX.out.1, HXX.out.2.1, by rw [HXX.out.2.2], HRS.out.1.only o9 (by simp; omega) (fun b hb hm => by simp at hm; subst hm; exact own_ne HRS.out.1.own HR7.out (by decide) hb) (by simp; omega), by rw [List.map_cons, HR2.out.2.1], ?_⟩
  exact ((((Only.of_below HA.out.2.2.2 [q]).trans HR2.out.2.2.2 (fun b hb => .inl hb)).trans (Only.of_below HB3.out []) (fun b hb => (nomatch hb))).trans HRS.out.2 (fun b hb => .inl hb)).trans o9 (fun b hb => .inr (by simp at hb; omega))
end Go.Proofs.Ytaaboochologaaa

namespace Go.Proofs.Ytaaboochologaaa
open Go Go.RowKit
set_option linter.unusedVariables false
set_option linter.unusedSimpArgs false
variable {W : World}
theorem ctInfoZ : (Try.prog.info? 41).map (·.size) = some 11 := by kernel_rfl
theorem lr_up {w V : World} {r : LRec} (h : LrOk w w.heap.size r) (b : Below w.heap.size w V) : LrOk V V.heap.size r := ⟨listsB h.1 b, h.2⟩
theorem StC.other {N p : Nat} {w0 w V : World} {bud : Int} {L : List En} {C : Cs} {q : Nat} {cs : Array Value} (h : StC N w0 w p bud L C) (hq : Blk w q 37 cs) (hN : N ≤ q) (o : Only w V [q]) : StC N w0 V p bud L C := by
  obtain ⟨⟨ord, h1, h2, h3⟩, h4, h5, h6⟩ := h
  have hn := h1.v.other hq (by decide) (by decide) (by decide)
  refine ⟨⟨ord, ⟨h1.v.only o (fun b hb hm => by simp at hm; subst hm; exact hn hb), h1.i, fun i hi => (h1.rows i hi).mono o (fun g cs hb hm => by simp at hm; exact blk_neL hb hq (by decide) hm)⟩, h2, h3⟩, h4.trans (o.to_below h6 (by simp; exact hN)), h5, Nat.le_trans h6 o.size⟩
set_option maxRecDepth 100000 in
set_option maxHeartbeats 8000000 in
theorem lrlast_main (bud : Int) (hb : inZ 0 16777216 bud = true) (A : Option Addr) (c : Nat) (L : List LRec) (hc : L.length ≤ c) (hm : c ≤ 9223372036854775807) (hl : Lists W W.heap.size A (L.flatMap lrL)) (hs : ∀ r ∈ L, LrOk W W.heap.size r) (y : Ky) (hy : kyW y) : Calls Try.prog 4 #[.int .i64 bud, .slice A L.length c, .agg #[.int .i64 y.1, .int .i64 y.2.1, .int .i64 y.2.2.1, .int .i64 y.2.2.2]] W fun e w' => e = .returned (.bool true) ∧ Below W.heap.size W w' := by
  obtain ⟨N0, hN0⟩ : ∃ N0, N0 = W.heap.size := ⟨_, rfl⟩
  obtain ⟨W1, hW1⟩ : ∃ W1, W1 = W.alloc (.cells #[.int .i64 y.1, .int .i64 y.2.1, .int .i64 y.2.2.1, .int .i64 y.2.2.2] 39) := ⟨_, rfl⟩
  have BW : Below W.heap.size W W1 := hW1 ▸ below_a1 _ _
  have Y1 : Blk W1 N0 39 #[.int .i64 y.1, .int .i64 y.2.1, .int .i64 y.2.2.1, .int .i64 y.2.2.2] := by rw [hW1, hN0]; exact Blk.new _ _ _
  obtain ⟨N, hN⟩ : ∃ N, N = W1.heap.size := ⟨_, rfl⟩
  have CN := stnew_any bud hb N W1 W1 (Below.refl _ _) (by omega)
  have CL := fun W => lives25_any W
  have HL := Lib.hid (And.intro (listsB hl BW) (fun r hr => lr_up (hs r hr) BW))
  have HN := Lib.hid hN
  have HN0 := Lib.hid hN0
  have HY := Lib.hid hy
  have HYB := Lib.hid Y1
  have HBW := Lib.hid BW
  obtain ⟨n, hn⟩ : ∃ n, n = L.length := ⟨_, rfl⟩
  have hnc : n ≤ 9223372036854775807 := by omega
  rw [← hn]
  have HNL := Lib.hid hn
  have HW1 := Lib.hid hW1
  clear hl hs hN hn BW hW1 hy hN0 Y1
  go_enter Try.func4, Try.ntmps4
  go_upto_region 1 with fail
  rw [← HN0.out, ← HW1.out]
  go_upto_region 2 with (go_at_call 8; refine (CN).mono ?_; rintro e w1 ⟨p, C0, rfl, s0⟩)
  have HS00 := Lib.hid s0
  clear s0 CN
  go_upto_region 4 with (go_at_call 9; refine (CL _).mono ?_; rintro e w2 ⟨rfl, b2⟩)
  have HR9 := Lib.hid (Blk.new w2 37 #[.int .i64 0, .int .i64 0, .int .i64 0, .int .i64 0, .slice none 0 0])
  go_wp2_with (refine wpList_store_row rfl 37 (.tmp 9) (.tmp 38) (by with_reducible rfl) w2.heap.size #[.int .i64 0, .int .i64 0, .int .i64 0, .int .i64 0, .slice none 0 0] (by rfl) (by rfl) 37 #[.int .i64 0, .int .i64 0, .int .i64 0, .int .i64 0, .slice none 0 0] (by exact HR9.out) mkInfoL rfl (by simp [Value.oneCell']) ?_)
  obtain ⟨w3, hw3⟩ : ∃ w3, w3 = (w2.alloc (.cells #[.int .i64 0, .int .i64 0, .int .i64 0, .int .i64 0, .slice none 0 0] 37)).setRow w2.heap.size #[.int .i64 0, .int .i64 0, .int .i64 0, .int .i64 0, .slice none 0 0] := ⟨_, rfl⟩
  rw [← hw3]
  have B3 : Below w2.heap.size w2 w3 := hw3 ▸ below_setRow (g := w2.heap.size) (below_a1 _ _) (Nat.le_refl _) _
  obtain ⟨q, hq⟩ : ∃ q, q = w2.heap.size := ⟨_, rfl⟩
  rw [← hq]
  have K9 : Blk w3 q 37 #[.int .i64 0, .int .i64 0, .int .i64 0, .int .i64 0, .slice none 0 0] := by rw [hw3, hq]; exact blk_row HR9.out _
  have hNq : N ≤ q := by have := HS00.out.2.2.2; have := b2.size; omega
  have HNQ := Lib.hid hNq
  have HST := Lib.hid (And.intro ((HS00.out.below b2).below B3) K9)
  clear hw3 B3 hq K9 b2 hb hNq
  go_loopw [10, 11, 12, 13, 14] (fun pt i _ _ _ wr => ∃ (j : Nat) (C : Cs) (Lk : List En) (put : Bool) (al : Q) (aml : Option Addr) (mcl ml : Nat) (Ml : List Value), j ≤ n ∧ i = .int .i64 (j : Nat) ∧ pt = .bool put ∧ StC N W1 wr p bud Lk C ∧ Blk wr q 37 #[.int .i64 al.x0, .int .i64 al.y0, .int .i64 al.x1, .int .i64 al.y1, .slice aml ml mcl] ∧ Ml.length = ml ∧ Lists W1 N aml Ml ∧ Bytes8 Ml ∧ (∀ en, Lk.find? (isK y) = some en → put = true ∧ en.2 = (al, Ml))) (fun _ i _ _ _ _ => n - (intOf i).toNat)
  case atStart => exact ⟨0, C0, [], false, ⟨0, 0, 0, 0⟩, none, 0, 0, [], Nat.zero_le _, rfl, rfl, HST.out.1, HST.out.2, rfl, ⟨fun _ => rfl, fun _ h => (nomatch h), fun _ h => (nomatch h)⟩, (by intro u hu; simp at hu), (by intro en h; simp at h)⟩
  case round =>
    obtain ⟨j, C, Lk, put, al, aml, mcl, ml, Ml, hj, rfl, rfl, hst, hq9, hinv⟩ := hrel
    have HS := Lib.hid hst
    have HQ9 := Lib.hid hq9
    have HI := Lib.hid hinv
    clear hst hq9 hinv
    by_cases hrun : j < n ∧ j < 100
    · obtain ⟨hlt, h100⟩ := hrun
      have e100 : decide ((j : Int) < 100) = true := by simp; omega
      have hjL : j < L.length := by rw [← HNL.out]; exact hlt
      have hjl : j < L.length := by omega
      obtain ⟨r, hr0⟩ : ∃ r, r = L[j]'hjl := ⟨_, rfl⟩
      have hrj : L[j]? = some r := by rw [hr0]; exact List.getElem?_eq_getElem _
      have hok := HL.out.2 r (by rw [hr0]; exact List.getElem_mem hjl)
      obtain ⟨b, o, rfl, hb, hrg⟩ := lrL_range HL.out.1 hrj
      obtain ⟨m, hmm⟩ : ∃ m, m = r.m.length := ⟨_, rfl⟩
      rw [← hmm] at hrg
      have hr : wr.rangeAt b (o + j * 11) #[.int .i64 r.kd, .int .i64 r.k.1, .int .i64 r.k.2.1, .int .i64 r.k.2.2.1, .int .i64 r.k.2.2.2, .int .i64 r.a.x0, .int .i64 r.a.y0, .int .i64 r.a.x1, .int .i64 r.a.y1, .slice r.am m r.mc, .int .i64 r.n].toList := fun jj v hv => (HS.out.2.1.cell (p := ⟨b, o + j * 11 + jj, none⟩) (by rw [HN.out]; exact hb)).trans (hrg jj v hv)
      have HR0 := Lib.hid (Blk.new wr 41 #[.int .i64 0, .int .i64 0, .int .i64 0, .int .i64 0, .int .i64 0, .int .i64 0, .int .i64 0, .int .i64 0, .int .i64 0, .slice none 0 0, .int .i64 0])
      have HOK := Lib.hid (And.intro hok hmm)
      clear hr0 hrj hok hrg hmm hjl
      go_upto_region 9 with (first
        | (refine wpList_load_mid rfl 41 (.tmp 51) (by with_reducible rfl) b (o + j * 11) (by rfl) #[.int .i64 r.kd, .int .i64 r.k.1, .int .i64 r.k.2.1, .int .i64 r.k.2.2.1, .int .i64 r.k.2.2.2, .int .i64 r.a.x0, .int .i64 r.a.y0, .int .i64 r.a.x1, .int .i64 r.a.y1, .slice r.am m r.mc, .int .i64 r.n].toList _ hr Try.underlying41 rfl ctInfoZ ?_)
        | (refine wpList_store_row rfl 41 (.tmp 12) (.tmp 52) (by with_reducible rfl) wr.heap.size #[.int .i64 r.kd, .int .i64 r.k.1, .int .i64 r.k.2.1, .int .i64 r.k.2.2.1, .int .i64 r.k.2.2.2, .int .i64 r.a.x0, .int .i64 r.a.y0, .int .i64 r.a.x1, .int .i64 r.a.y1, .slice r.am m r.mc, .int .i64 r.n] (by rfl) (by rfl) 41 #[.int .i64 0, .int .i64 0, .int .i64 0, .int .i64 0, .int .i64 0, .int .i64 0, .int .i64 0, .int .i64 0, .int .i64 0, .slice none 0 0, .int .i64 0] (by exact HR0.out) ctInfoZ rfl (by simp [Value.oneCell']) ?_))
      obtain ⟨w1, hw1⟩ : ∃ w1, w1 = (wr.alloc (.cells #[.int .i64 0, .int .i64 0, .int .i64 0, .int .i64 0, .int .i64 0, .int .i64 0, .int .i64 0, .int .i64 0, .int .i64 0, .slice none 0 0, .int .i64 0] 41)).setRow wr.heap.size #[.int .i64 r.kd, .int .i64 r.k.1, .int .i64 r.k.2.1, .int .i64 r.k.2.2.1, .int .i64 r.k.2.2.2, .int .i64 r.a.x0, .int .i64 r.a.y0, .int .i64 r.a.x1, .int .i64 r.a.y1, .slice r.am m r.mc, .int .i64 r.n] := ⟨_, rfl⟩
      rw [← hw1]
      have B1 : Below wr.heap.size wr w1 := hw1 ▸ below_setRow (g := wr.heap.size) (below_a1 _ _) (Nat.le_refl _) _
      obtain ⟨q1, hq⟩ : ∃ q1, q1 = wr.heap.size := ⟨_, rfl⟩
      rw [← hq]
      have K : Blk w1 q1 41 #[.int .i64 r.kd, .int .i64 r.k.1, .int .i64 r.k.2.1, .int .i64 r.k.2.2.1, .int .i64 r.k.2.2.2, .int .i64 r.a.x0, .int .i64 r.a.y0, .int .i64 r.a.x1, .int .i64 r.a.y1, .slice r.am m r.mc, .int .i64 r.n] := by rw [hw1, hq]; exact blk_row HR0.out _
      have HK := Lib.hid K
      have HB1 := Lib.hid B1
      have HQq := Lib.hid hq
      clear hw1 B1 hr hq
      have t0 := K.cell 0; have t1 := K.cell 1; have t2 := K.cell 2; have t3 := K.cell 3; have t4 := K.cell 4; have t5 := K.cell 5; have t6 := K.cell 6; have t7 := K.cell 7; have t8 := K.cell 8; have t9 := K.cell 9; have t10 := K.cell 10; have tl := K.lt; simp only [List.getElem?_toArray, List.getElem?_cons_succ, List.getElem?_cons_zero] at t0 t1 t2 t3 t4 t5 t6 t7 t8 t9 t10
      obtain ⟨kd, hkd⟩ : ∃ kd, kd = r.kd := ⟨_, rfl⟩
      rw [← hkd] at t0
      have HKD := Lib.hid hkd
      clear hkd K
      by_cases hbig : 16384 < m
      · go_wp2
        go_roundw
        case rel => exact ⟨j + 1, C, Lk, put, al, aml, mcl, ml, Ml, by omega, by go_num, rfl, HS.out.below HB1.out, HQ9.out.below HB1.out, HI.out⟩
        case measure => simp [intOf]; omega
      · by_cases hk2 : kd = 2
        · subst hk2
          have CK := fun W => rckmask_any r.a r.am m r.mc W
          cases hck : chkB r.a m with
          | false =>
            rw [show chkC r.a m = 220 by unfold chkC; rw [hck]; rfl] at CK
            go_upto_region 16 with (go_at_call 15; refine (CK _).mono ?_; rintro e w3 ⟨rfl, b3⟩)
            have K3 := HK.out.below b3
            have BB := HB1.out.trans (b3.mono HB1.out.size)
            clear t0 t1 t2 t3 t4 t5 t6 t7 t8 t9 t10 tl
            have t0 := K3.cell 0; have t1 := K3.cell 1; have t2 := K3.cell 2; have t3 := K3.cell 3; have t4 := K3.cell 4; have t5 := K3.cell 5; have t6 := K3.cell 6; have t7 := K3.cell 7; have t8 := K3.cell 8; have t9 := K3.cell 9; have t10 := K3.cell 10; have tl := K3.lt; simp only [List.getElem?_toArray, List.getElem?_cons_succ, List.getElem?_cons_zero] at t0 t1 t2 t3 t4 t5 t6 t7 t8 t9 t10
            rw [← HKD.out] at t0
            go_wp2
            go_roundw
            case rel => exact ⟨j + 1, C, Lk, put, al, aml, mcl, ml, Ml, by omega, by go_num, rfl, HS.out.below BB, HQ9.out.below BB, HI.out⟩
            case measure => simp [intOf]; omega
          | true =>
            rw [show chkC r.a m = 0 by unfold chkC; rw [hck]; rfl] at CK
            have PP := stput_low N p W1 _ bud Lk C r (by rw [HN.out]; exact HOK.out.1) HN.out (HS.out.below HB1.out)
            obtain ⟨isp, hisp⟩ : ∃ isp, isp = lputB bud r.a m := ⟨_, rfl⟩
            have HPP := Lib.hid (fun (W : World) (hW : Below w1.heap.size w1 W) => stput_low N p W1 W bud Lk C r (by rw [HN.out]; exact HOK.out.1) HN.out ((HS.out.below HB1.out).below hW))
            rw [← HOK.out.2, ← hisp, show chkC r.a m = 0 by unfold chkC; rw [hck]; rfl] at HPP
            have HIS := Lib.hid hisp
            have HCK := Lib.hid hck
            clear PP hisp hck
            go_upto_region 12 with (first
              | (go_at_call 15; refine (CK _).mono ?_; rintro e w3 ⟨rfl, b3⟩; have HB3 := Lib.hid b3; have K3 := HK.out.below b3; have t0 := K3.cell 0; have t1 := K3.cell 1; have t2 := K3.cell 2; have t3 := K3.cell 3; have t4 := K3.cell 4; have t5 := K3.cell 5; have t6 := K3.cell 6; have t7 := K3.cell 7; have t8 := K3.cell 8; have t9 := K3.cell 9; have t10 := K3.cell 10; have tl := K3.lt; simp only [List.getElem?_toArray, List.getElem?_cons_succ, List.getElem?_cons_zero] at t0 t1 t2 t3 t4 t5 t6 t7 t8 t9 t10; rw [← HKD.out] at t0)
              | (go_at_call 16; refine (HPP.out _ HB3.out).mono ?_; rintro e w4 ⟨C1, rfl, s4, m4⟩))
            have v3 := ((HS.out.below HB1.out).below HB3.out).1.v
            have K4 := (HK.out.below HB3.out).only m4.1 (v3.other (HK.out.below HB3.out) (by decide) (by decide) (by decide))
            have Q4 := ((HQ9.out.below HB1.out).below HB3.out).only m4.1 (v3.other ((HQ9.out.below HB1.out).below HB3.out) (by decide) (by decide) (by decide))
            have HK4 := Lib.hid K4
            have HQ4 := Lib.hid Q4
            have HS4 := Lib.hid s4
            have Yr := HYB.out
            have Y4 : Blk w4 N0 39 #[.int .i64 y.1, .int .i64 y.2.1, .int .i64 y.2.2.1, .int .i64 y.2.2.2] := (s4.2.1.block N0 (by have := Yr.lt; rw [HN.out]; exact this)).trans Yr
            have HY4 := Lib.hid Y4
            clear t0 t1 t2 t3 t4 t5 t6 t7 t8 t9 t10 tl K3 s4 m4 b3 v3 K4 Q4 Yr Y4
            have hfit : isp = true → 64 + (m : Int) ≤ bud := fun h => by
              have h2 := HIS.out
              rw [h] at h2
              unfold lputB at h2
              simp at h2
              omega
            have HFT := Lib.hid hfit
            have CC := fun W => rlcost_any r.a r.am m r.mc (by omega) W
            clear hfit
            obtain ⟨w5, h45, hcut⟩ : ∃ w5, Below w4.heap.size w4 w5 ∧ w5 = w5 := ⟨w4, Below.refl _ _, rfl⟩
            clear h45 hcut w5
            cases isp
            all_goals
              try (have dfit : decide (bud < 64 + (m : Int)) = false := by have := HFT.out rfl; simp; omega)
              have K5 := HK4.out
              have t0 := K5.cell 0; have t1 := K5.cell 1; have t2 := K5.cell 2; have t3 := K5.cell 3; have t4 := K5.cell 4; have t5 := K5.cell 5; have t6 := K5.cell 6; have t7 := K5.cell 7; have t8 := K5.cell 8; have t9 := K5.cell 9; have t10 := K5.cell 10; have tl := K5.lt; simp only [List.getElem?_toArray, List.getElem?_cons_succ, List.getElem?_cons_zero] at t0 t1 t2 t3 t4 t5 t6 t7 t8 t9 t10
              rw [← HKD.out] at t0
              go_upto_region 14 with (go_at_call 17; refine (CC _).mono ?_; rintro e wc ⟨rfl, bc⟩)
            · have s5 := HS4.out.below (Below.refl _ _)
              have K6 := HK4.out.below (Below.refl _ _)
              have Q6 := HQ4.out.below (Below.refl _ _)
              have Y6 := HY4.out.below (Below.refl _ _)
              have HS5 := Lib.hid s5
              have HQ6 := Lib.hid Q6
              clear t0 t1 t2 t3 t4 t5 t6 t7 t8 t9 t10 tl K5
              have t0 := K6.cell 0; have t1 := K6.cell 1; have t2 := K6.cell 2; have t3 := K6.cell 3; have t4 := K6.cell 4; have t5 := K6.cell 5; have t6 := K6.cell 6; have t7 := K6.cell 7; have t8 := K6.cell 8; have t9 := K6.cell 9; have t10 := K6.cell 10; have tl := K6.lt; simp only [List.getElem?_toArray, List.getElem?_cons_succ, List.getElem?_cons_zero] at t0 t1 t2 t3 t4 t5 t6 t7 t8 t9 t10
              rw [← HKD.out] at t0
              have y0 := Y6.cell 0; have y1 := Y6.cell 1; have y2 := Y6.cell 2; have y3 := Y6.cell 3; have yl := Y6.lt
              simp only [List.getElem?_toArray, List.getElem?_cons_succ, List.getElem?_cons_zero] at y0 y1 y2 y3
              have ke := fun W => keyEq_run r.k y W
              have kg := fun x z W => keyEq_guard r.k y x z W
              clear s5 Q6 Y6 K6
              by_cases hky : r.k = y
              · rw [show decide (r.k = y) = true by simp [hky]] at ke
                have HKY := Lib.hid hky
                clear hky
                go_wp2_with (refine wpList_store_row rfl 37 (.tmp 9) (.tmp 103) (by with_reducible rfl) q #[.int .i64 r.a.x0, .int .i64 r.a.y0, .int .i64 r.a.x1, .int .i64 r.a.y1, .slice r.am m r.mc] (by rfl) (by rfl) 37 #[.int .i64 al.x0, .int .i64 al.y0, .int .i64 al.x1, .int .i64 al.y1, .slice aml ml mcl] (by exact HQ6.out) mkInfoL rfl (by simp [Value.oneCell']) ?_)
                have o9 : Only w4 (w4.setRow q #[.int .i64 r.a.x0, .int .i64 r.a.y0, .int .i64 r.a.x1, .int .i64 r.a.y1, .slice r.am m r.mc]) [q] := only_row (Only.refl _ _) (.inl (by simp)) _
                have s6 := StC.other HS5.out HQ6.out HNQ.out o9
                go_roundw
                case rel =>
                  refine ⟨j + 1, C1, _, false, r.a, r.am, r.mc, m, r.m, by omega, by go_num, rfl, s6, blk_row HQ6.out _, HOK.out.2.symm, by rw [HN.out]; exact HOK.out.1.1, HOK.out.1.2.1, fun en h => ?_⟩
                  have h2 := HIS.out
                  rw [← HKY.out] at h
                  have := last_same HCK.out en h
                  rw [← h2] at this
                  exact this
                case measure => simp [intOf]; omega
              · rw [show decide (r.k = y) = false by simp [hky]] at ke
                have HKY := Lib.hid hky
                clear hky
                go_wp2
                go_roundw
                case rel => exact ⟨j + 1, C1, _, put, al, aml, mcl, ml, Ml, by omega, by go_num, rfl, HS5.out, HQ6.out, HI.out.1, HI.out.2.1, HI.out.2.2.1, fun en h => HI.out.2.2.2 en (last_other (fun e => HKY.out e.symm) en h)⟩
                case measure => simp [intOf]; omega
            · have s5 := HS4.out.below bc
              have K6 := HK4.out.below bc
              have Q6 := HQ4.out.below bc
              have Y6 := HY4.out.below bc
              have HS5 := Lib.hid s5
              have HQ6 := Lib.hid Q6
              clear t0 t1 t2 t3 t4 t5 t6 t7 t8 t9 t10 tl K5
              have t0 := K6.cell 0; have t1 := K6.cell 1; have t2 := K6.cell 2; have t3 := K6.cell 3; have t4 := K6.cell 4; have t5 := K6.cell 5; have t6 := K6.cell 6; have t7 := K6.cell 7; have t8 := K6.cell 8; have t9 := K6.cell 9; have t10 := K6.cell 10; have tl := K6.lt; simp only [List.getElem?_toArray, List.getElem?_cons_succ, List.getElem?_cons_zero] at t0 t1 t2 t3 t4 t5 t6 t7 t8 t9 t10
              rw [← HKD.out] at t0
              have y0 := Y6.cell 0; have y1 := Y6.cell 1; have y2 := Y6.cell 2; have y3 := Y6.cell 3; have yl := Y6.lt
              simp only [List.getElem?_toArray, List.getElem?_cons_succ, List.getElem?_cons_zero] at y0 y1 y2 y3
              have ke := fun W => keyEq_run r.k y W
              have kg := fun x z W => keyEq_guard r.k y x z W
              clear s5 Q6 Y6 K6
              by_cases hky : r.k = y
              · rw [show decide (r.k = y) = true by simp [hky]] at ke
                have HKY := Lib.hid hky
                clear hky
                go_wp2_with (refine wpList_store_row rfl 37 (.tmp 9) (.tmp 103) (by with_reducible rfl) q #[.int .i64 r.a.x0, .int .i64 r.a.y0, .int .i64 r.a.x1, .int .i64 r.a.y1, .slice r.am m r.mc] (by rfl) (by rfl) 37 #[.int .i64 al.x0, .int .i64 al.y0, .int .i64 al.x1, .int .i64 al.y1, .slice aml ml mcl] (by exact HQ6.out) mkInfoL rfl (by simp [Value.oneCell']) ?_)
                have o9 : Only wc (wc.setRow q #[.int .i64 r.a.x0, .int .i64 r.a.y0, .int .i64 r.a.x1, .int .i64 r.a.y1, .slice r.am m r.mc]) [q] := only_row (Only.refl _ _) (.inl (by simp)) _
                have s6 := StC.other HS5.out HQ6.out HNQ.out o9
                go_roundw
                case rel =>
                  refine ⟨j + 1, C1, _, true, r.a, r.am, r.mc, m, r.m, by omega, by go_num, rfl, s6, blk_row HQ6.out _, HOK.out.2.symm, by rw [HN.out]; exact HOK.out.1.1, HOK.out.1.2.1, fun en h => ?_⟩
                  have h2 := HIS.out
                  rw [← HKY.out] at h
                  have := last_same HCK.out en h
                  rw [← h2] at this
                  exact this
                case measure => simp [intOf]; omega
              · rw [show decide (r.k = y) = false by simp [hky]] at ke
                have HKY := Lib.hid hky
                clear hky
                go_wp2
                go_roundw
                case rel => exact ⟨j + 1, C1, _, put, al, aml, mcl, ml, Ml, by omega, by go_num, rfl, HS5.out, HQ6.out, HI.out.1, HI.out.2.1, HI.out.2.2.1, fun en h => HI.out.2.2.2 en (last_other (fun e => HKY.out e.symm) en h)⟩
                case measure => simp [intOf]; omega
        · by_cases hk1 : kd = 1
          · subst hk1
            cases hf : Lk.find? (isK r.k) with
            | none =>
              have GM := stget_miss N p W1 w1 bud Lk C r.k HOK.out.1.2.2.2.2 (HS.out.below HB1.out) hf
              clear hf
              go_wp2_with (go_at_call 13; refine (GM).mono ?_; rintro e w3 ⟨rfl, s3, b3⟩)
              have BB := HB1.out.trans (b3.mono HB1.out.size)
              go_roundw
              case rel => exact ⟨j + 1, C, Lk, put, al, aml, mcl, ml, Ml, by omega, by go_num, rfl, HS.out.below BB, HQ9.out.below BB, HI.out⟩
              case measure => simp [intOf]; omega
            | some en =>
              have GG := stget_hit N p W1 w1 bud Lk C r.k HOK.out.1.2.2.2.2 en (HS.out.below HB1.out) hf
              have HF := Lib.hid hf
              clear hf
              go_wp2_with (go_at_call 13; refine (GG).mono ?_; rintro e w3 ⟨g3, C3, rfl, gb3, gs3, s3, m3⟩)
              have Q3 := (HQ9.out.below HB1.out).only m3.1 ((HS.out.below HB1.out).1.v.other (HQ9.out.below HB1.out) (by decide) (by decide) (by decide))
              go_roundw
              case rel => exact ⟨j + 1, C3, _, put, al, aml, mcl, ml, Ml, by omega, by go_num, rfl, s3, Q3, HI.out.1, HI.out.2.1, HI.out.2.2.1, fun en' h' => HI.out.2.2.2 en' (last_get HF.out en' h')⟩
              case measure => simp [intOf]; omega
          · have dk1 : (kd != 1) = true := by simpa using hk1
            have dk2 : (kd != 2) = true := by simpa using hk2
            go_wp2
            go_roundw
            case rel => exact ⟨j + 1, C, Lk, put, al, aml, mcl, ml, Ml, by omega, by go_num, rfl, HS.out.below HB1.out, HQ9.out.below HB1.out, HI.out⟩
            case measure => simp [intOf]; omega
    · rcases Nat.lt_or_ge j n with hlt | hge
      · have e100 : decide ((j : Int) < 100) = false := by simp; omega
        have Yr := HYB.out
        have Y4 : Blk wr N0 39 #[.int .i64 y.1, .int .i64 y.2.1, .int .i64 y.2.2.1, .int .i64 y.2.2.2] := (HS.out.2.1.block N0 (by have := Yr.lt; rw [HN.out]; exact this)).trans Yr
        have y0 := Y4.cell 0; have y1 := Y4.cell 1; have y2 := Y4.cell 2; have y3 := Y4.cell 3; have yl := Y4.lt
        simp only [List.getElem?_toArray, List.getElem?_cons_succ, List.getElem?_cons_zero] at y0 y1 y2 y3
        clear Yr Y4
        cases hf : Lk.find? (isK y) with
        | none =>
          have GM := stget_miss N p W1 wr bud Lk C y HY.out HS.out hf
          clear hf
          go_wp2_with (first
            | (go_at_call 13; refine (GM).mono ?_; rintro e w4 ⟨rfl, s4, b4⟩; have HR4 := Lib.hid (Blk.new w4 37 #[.int .i64 0, .int .i64 0, .int .i64 0, .int .i64 0, .slice none 0 0]))
            | (refine wpList_store_row rfl 37 (.tmp 15) (.tmp 116) (by with_reducible rfl) w4.heap.size #[.int .i64 0, .int .i64 0, .int .i64 0, .int .i64 0, .slice none 0 0] (by rfl) (by rfl) 37 #[.int .i64 0, .int .i64 0, .int .i64 0, .int .i64 0, .slice none 0 0] (by exact HR4.out) mkInfoL rfl (by simp [Value.oneCell']) ?_))
          go_ret
          have B5 : Below w4.heap.size w4 ((w4.alloc (.cells #[.int .i64 0, .int .i64 0, .int .i64 0, .int .i64 0, .slice none 0 0] 37)).setRow w4.heap.size #[.int .i64 0, .int .i64 0, .int .i64 0, .int .i64 0, .slice none 0 0]) := below_setRow (g := w4.heap.size) (below_a1 _ _) (Nat.le_refl _) _
          have hbb := (s4.below B5).2.1
          exact ⟨rfl, HBW.out.trans (hbb.mono (by rw [HN.out]; exact HBW.out.size))⟩
        | some en =>
          obtain ⟨hput, hen⟩ := HI.out.2.2.2 en hf
          subst hput
          obtain ⟨ek, eA, eM⟩ := en
          simp only [Prod.mk.injEq] at hen
          obtain ⟨rfl, rfl⟩ := hen
          have GG := stget_hit N p W1 wr bud Lk C y HY.out _ HS.out hf
          dsimp only at GG
          rw [HI.out.1] at GG
          clear hf
          go_upto_region 19 with (first
            | (go_at_call 13; refine (GG).mono ?_; rintro e w4 ⟨g4, C4, rfl, gb4, gs4, s4, m4⟩; have HR4 := Lib.hid (Blk.new w4 37 #[.int .i64 0, .int .i64 0, .int .i64 0, .int .i64 0, .slice none 0 0]))
            | (refine wpList_store_row rfl 37 (.tmp 15) (.tmp 116) (by with_reducible rfl) w4.heap.size #[.int .i64 eA.x0, .int .i64 eA.y0, .int .i64 eA.x1, .int .i64 eA.y1, .slice (some ⟨g4, 0, none⟩) ml ml] (by rfl) (by rfl) 37 #[.int .i64 0, .int .i64 0, .int .i64 0, .int .i64 0, .slice none 0 0] (by exact HR4.out) mkInfoL rfl (by simp [Value.oneCell']) ?_))
          obtain ⟨w5, hw5⟩ : ∃ w5, w5 = (w4.alloc (.cells #[.int .i64 0, .int .i64 0, .int .i64 0, .int .i64 0, .slice none 0 0] 37)).setRow w4.heap.size #[.int .i64 eA.x0, .int .i64 eA.y0, .int .i64 eA.x1, .int .i64 eA.y1, .slice (some ⟨g4, 0, none⟩) ml ml] := ⟨_, rfl⟩
          rw [← hw5]
          have B5 : Below w4.heap.size w4 w5 := hw5 ▸ below_setRow (g := w4.heap.size) (below_a1 _ _) (Nat.le_refl _) _
          have K5 : Blk w5 w4.heap.size 37 #[.int .i64 eA.x0, .int .i64 eA.y0, .int .i64 eA.x1, .int .i64 eA.y1, .slice (some ⟨g4, 0, none⟩) ml ml] := by rw [hw5]; exact blk_row HR4.out _
          have Q5 := (HQ9.out.only m4.1 (HS.out.1.v.other HQ9.out (by decide) (by decide) (by decide))).below B5
          have k0 := K5.cell 0; have k1 := K5.cell 1; have k2 := K5.cell 2; have k3 := K5.cell 3; have k4 := K5.cell 4; have kl := K5.lt; simp only [List.getElem?_toArray, List.getElem?_cons_succ, List.getElem?_cons_zero] at k0 k1 k2 k3 k4
          have u0 := Q5.cell 0; have u1 := Q5.cell 1; have u2 := Q5.cell 2; have u3 := Q5.cell 3; have u4 := Q5.cell 4; have ul := Q5.lt; simp only [List.getElem?_toArray, List.getElem?_cons_succ, List.getElem?_cons_zero] at u0 u1 u2 u3 u4
          have s5 := s4.below B5
          have hl5 : Lists w5 w5.heap.size aml eM := listsB (by have := HI.out.2.1; rw [HN.out] at this; exact this) (by have := s5.2.1; rw [HN.out] at this; exact this)
          have SS := rsame_yes eA (some ⟨g4, 0, none⟩) aml ml ml mcl eM w5 (lists_blkL (gb4.below B5)) hl5 HI.out.1 HI.out.2.2.1
          have HS5 := Lib.hid s5
          clear hw5 B5 K5 Q5 s4 m4 s5 hl5 gb4 gs4 GG
          go_wp2_with (go_at_call 14; refine (SS).mono ?_; rintro e w6 ⟨rfl, b6⟩)
          go_ret
          have hbb := (HS5.out.below b6).2.1
          exact ⟨rfl, HBW.out.trans (hbb.mono (by rw [HN.out]; exact HBW.out.size))⟩
      · have Yr := HYB.out
        have Y4 : Blk wr N0 39 #[.int .i64 y.1, .int .i64 y.2.1, .int .i64 y.2.2.1, .int .i64 y.2.2.2] := (HS.out.2.1.block N0 (by have := Yr.lt; rw [HN.out]; exact this)).trans Yr
        have y0 := Y4.cell 0; have y1 := Y4.cell 1; have y2 := Y4.cell 2; have y3 := Y4.cell 3; have yl := Y4.lt
        simp only [List.getElem?_toArray, List.getElem?_cons_succ, List.getElem?_cons_zero] at y0 y1 y2 y3
        clear Yr Y4
        cases hf : Lk.find? (isK y) with
        | none =>
          have GM := stget_miss N p W1 wr bud Lk C y HY.out HS.out hf
          clear hf
          go_wp2_with (first
            | (go_at_call 13; refine (GM).mono ?_; rintro e w4 ⟨rfl, s4, b4⟩; have HR4 := Lib.hid (Blk.new w4 37 #[.int .i64 0, .int .i64 0, .int .i64 0, .int .i64 0, .slice none 0 0]))
            | (refine wpList_store_row rfl 37 (.tmp 15) (.tmp 116) (by with_reducible rfl) w4.heap.size #[.int .i64 0, .int .i64 0, .int .i64 0, .int .i64 0, .slice none 0 0] (by rfl) (by rfl) 37 #[.int .i64 0, .int .i64 0, .int .i64 0, .int .i64 0, .slice none 0 0] (by exact HR4.out) mkInfoL rfl (by simp [Value.oneCell']) ?_))
          go_ret
          have B5 : Below w4.heap.size w4 ((w4.alloc (.cells #[.int .i64 0, .int .i64 0, .int .i64 0, .int .i64 0, .slice none 0 0] 37)).setRow w4.heap.size #[.int .i64 0, .int .i64 0, .int .i64 0, .int .i64 0, .slice none 0 0]) := below_setRow (g := w4.heap.size) (below_a1 _ _) (Nat.le_refl _) _
          have hbb := (s4.below B5).2.1
          exact ⟨rfl, HBW.out.trans (hbb.mono (by rw [HN.out]; exact HBW.out.size))⟩
        | some en =>
          obtain ⟨hput, hen⟩ := HI.out.2.2.2 en hf
          subst hput
          obtain ⟨ek, eA, eM⟩ := en
          simp only [Prod.mk.injEq] at hen
          obtain ⟨rfl, rfl⟩ := hen
          have GG := stget_hit N p W1 wr bud Lk C y HY.out _ HS.out hf
          dsimp only at GG
          rw [HI.out.1] at GG
          clear hf
          go_upto_region 19 with (first
            | (go_at_call 13; refine (GG).mono ?_; rintro e w4 ⟨g4, C4, rfl, gb4, gs4, s4, m4⟩; have HR4 := Lib.hid (Blk.new w4 37 #[.int .i64 0, .int .i64 0, .int .i64 0, .int .i64 0, .slice none 0 0]))
            | (refine wpList_store_row rfl 37 (.tmp 15) (.tmp 116) (by with_reducible rfl) w4.heap.size #[.int .i64 eA.x0, .int .i64 eA.y0, .int .i64 eA.x1, .int .i64 eA.y1, .slice (some ⟨g4, 0, none⟩) ml ml] (by rfl) (by rfl) 37 #[.int .i64 0, .int .i64 0, .int .i64 0, .int .i64 0, .slice none 0 0] (by exact HR4.out) mkInfoL rfl (by simp [Value.oneCell']) ?_))
          obtain ⟨w5, hw5⟩ : ∃ w5, w5 = (w4.alloc (.cells #[.int .i64 0, .int .i64 0, .int .i64 0, .int .i64 0, .slice none 0 0] 37)).setRow w4.heap.size #[.int .i64 eA.x0, .int .i64 eA.y0, .int .i64 eA.x1, .int .i64 eA.y1, .slice (some ⟨g4, 0, none⟩) ml ml] := ⟨_, rfl⟩
          rw [← hw5]
          have B5 : Below w4.heap.size w4 w5 := hw5 ▸ below_setRow (g := w4.heap.size) (below_a1 _ _) (Nat.le_refl _) _
          have K5 : Blk w5 w4.heap.size 37 #[.int .i64 eA.x0, .int .i64 eA.y0, .int .i64 eA.x1, .int .i64 eA.y1, .slice (some ⟨g4, 0, none⟩) ml ml] := by rw [hw5]; exact blk_row HR4.out _
          have Q5 := (HQ9.out.only m4.1 (HS.out.1.v.other HQ9.out (by decide) (by decide) (by decide))).below B5
          have k0 := K5.cell 0; have k1 := K5.cell 1; have k2 := K5.cell 2; have k3 := K5.cell 3; have k4 := K5.cell 4; have kl := K5.lt; simp only [List.getElem?_toArray, List.getElem?_cons_succ, List.getElem?_cons_zero] at k0 k1 k2 k3 k4
          have u0 := Q5.cell 0; have u1 := Q5.cell 1; have u2 := Q5.cell 2; have u3 := Q5.cell 3; have u4 := Q5.cell 4; have ul := Q5.lt; simp only [List.getElem?_toArray, List.getElem?_cons_succ, List.getElem?_cons_zero] at u0 u1 u2 u3 u4
          have s5 := s4.below B5
          have hl5 : Lists w5 w5.heap.size aml eM := listsB (by have := HI.out.2.1; rw [HN.out] at this; exact this) (by have := s5.2.1; rw [HN.out] at this; exact this)
          have SS := rsame_yes eA (some ⟨g4, 0, none⟩) aml ml ml mcl eM w5 (lists_blkL (gb4.below B5)) hl5 HI.out.1 HI.out.2.2.1
          have HS5 := Lib.hid s5
          clear hw5 B5 K5 Q5 s4 m4 s5 hl5 gb4 gs4 GG
          go_wp2_with (go_at_call 14; refine (SS).mono ?_; rintro e w6 ⟨rfl, b6⟩)
          go_ret
          have hbb := (HS5.out.below b6).2.1
          exact ⟨rfl, HBW.out.trans (hbb.mono (by rw [HN.out]; exact HBW.out.size))⟩
end Go.Proofs.Ytaaboochologaaa

namespace Go.Proofs.Ytaaboochologaaa
open Go Go.RowKit
set_option linter.unusedVariables false
set_option linter.unusedSimpArgs false

/-- No key stands twice. -/
theorem LrS.keys {W : World} {B p : Nat} {bud : Int} {L : List En} {C : Cs} (h : LrS W B p bud L C) : (L.map fun e => e.1).Nodup := by
  obtain ⟨ord, h1, rfl, _⟩ := h
  have nd0 := List.nodup_cons.1 h1.i.nd
  have ndo : ord.Nodup := (List.nodup_append.1 nd0.2).1
  rw [List.map_map]
  unfold List.Nodup at ndo ⊢
  rw [List.pairwise_map]
  refine ndo.imp_of_mem fun {a b} ha hb hne hk => hne ?_
  have f1 := (h1.i.f (atP C.PL a).k a).2 ⟨ha, rfl⟩
  have f2 := (h1.i.f (atP C.PL a).k b).2 ⟨hb, Eq.symm hk⟩
  rw [f1] at f2
  cases f2
  rfl
/-- What is put into both. -/
theorem shrE_put {bud : Int} {k : Ky} {A : Q} {M : List Value} {n : Nat} (hn : M.length = n) (h : 64 + (n : Int) ≤ bud) (L : List En) : shrE bud ((k, A, M) :: L) = (k, A, M) :: shrE (bud - (64 + (n : Int))) L := by
  have e : costE (k, A, M) = 64 + (n : Int) := by unfold costE; rw [← hn]
  rw [shrE, e, if_pos h]
/-- The document's cache, while the program's changes. -/
theorem RfS.mod {W0 W V : World} {B q p B' : Nat} {bud : Int} {E : List RE} {lv : Value} {C C' : Cs} (h : RfS W0 W B q bud E lv) (hv : CaV W B' p C) (o : ModC W V p C C') (hlow : ∀ b ∈ fpC p C, B ≤ b) : RfS W0 V B q bud E lv := by
  refine h.only o.1 (hv.other h.blk (by decide) (by decide) (by decide)) (fun b hb => ?_) hlow
  rcases h.own.2 with ⟨rfl, _⟩ | ⟨g, cap, cur, rfl, _, hh, _⟩
  · simp [Go.Proofs.Ytaaboochologaaa.blk, Value.ownBlock] at hb
  · have : b = g := by simpa [Go.Proofs.Ytaaboochologaaa.blk, Value.ownBlock] using hb
    subst this
    exact hv.other (show Blk W b _ cur from hh) (by decide) (by decide) (by decide)
/-- The program's cache, while the document's changes. -/
theorem StC.ref {N p : Nat} {w0 w V : World} {bud : Int} {L : List En} {C : Cs} {q : Nat} {cs : Array Value} (h : StC N w0 w p bud L C) (hq : Blk w q 32 cs) (hN : N ≤ q) (o : Only w V [q]) : StC N w0 V p bud L C := by
  obtain ⟨⟨ord, h1, h2, h3⟩, h4, h5, h6⟩ := h
  have hn := h1.v.other hq (by decide) (by decide) (by decide)
  refine ⟨⟨ord, ⟨h1.v.only o (fun b hb hm => by simp at hm; subst hm; exact hn hb), h1.i, fun i hi => (h1.rows i hi).mono o (fun g cs hb hm => by simp at hm; exact blk_neL hb hq (by decide) hm)⟩, h2, h3⟩, h4.trans (o.to_below h6 (by simp; exact hN)), h5, Nat.le_trans h6 o.size⟩
end Go.Proofs.Ytaaboochologaaa
