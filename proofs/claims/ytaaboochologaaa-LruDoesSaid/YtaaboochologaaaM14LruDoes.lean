/- Part 15 of the proof: LrAk. -/
import Derived.Test.YtaaboochologaaaM13LruDoes

namespace Go.Proofs.Ytaaboochologaaa
open Go Go.RowKit
set_option linter.unusedVariables false
set_option linter.unusedSimpArgs false

abbrev banL (l : List Nat) : Inhabited BanT := ⟨fun b => b ∈ l⟩
theorem Ca.re {i j : Inhabited BanT} {W V : World} {B p : Nat} {C : Cs} {ord : List Nat} (h : @Ca i W B p C ord) (hv : CaV V B p C) (hr : ∀ x, @RowP i W B x → @RowP j V B x) : @Ca j V B p C ord :=
  @Ca.mk j _ _ _ _ _ hv (@Ca.i i _ _ _ _ _ h) (fun k hk => hr _ (@Ca.rows i _ _ _ _ _ h k hk))
theorem StC.re {i j : Inhabited BanT} {N p : Nat} {w0 w V : World} {bud : Int} {L : List En} {C : Cs} (h : @StC i N w0 w p bud L C) (hv : CaV w N p C → CaV V N p C) (hr : ∀ x, @RowP i w N x → @RowP j V N x) (hb : Below N w0 w → Below N w0 V) (hz : w.heap.size ≤ V.heap.size) : @StC j N w0 V p bud L C := by
  obtain ⟨⟨ord, h1, h2, h3⟩, h4, h5, h6⟩ := h
  exact ⟨⟨ord, h1.re (hv (@Ca.v i _ _ _ _ _ h1)) hr, h2, h3⟩, hb h4, h5, Nat.le_trans h6 hz⟩
theorem StC.cv {i : Inhabited BanT} {N p : Nat} {w0 w : World} {bud : Int} {L : List En} {C : Cs} (h : @StC i N w0 w p bud L C) : CaV w N p C := by
  obtain ⟨⟨ord, h1, h2, h3⟩, h4, h5, h6⟩ := h
  exact @Ca.v i _ _ _ _ _ h1
theorem StC.bel {i : Inhabited BanT} {N p : Nat} {w0 w w' : World} {bud : Int} {L : List En} {C : Cs} (h : @StC i N w0 w p bud L C) (b : Below w.heap.size w w') : @StC i N w0 w' p bud L C := StC.below h b
theorem StC.toBan {N p : Nat} {w0 w : World} {bud : Int} {L : List En} {C : Cs} (h : StC N w0 w p bud L C) (l : List Nat) (hl : ∀ b ∈ l, w.heap.size ≤ b) : @StC (banL l) N w0 w p bud L C :=
  h.re (fun v => v) (fun x hx => by obtain ⟨g, e1, e2, e3, e4⟩ := hx; exact ⟨g, e1, e2, ⟨e3.1, fun hb => by have := hl g hb; have := e2.lt; omega⟩, e4⟩) (fun b => b) (Nat.le_refl _)
theorem StC.unBan {N p : Nat} {w0 w : World} {bud : Int} {L : List En} {C : Cs} {i : Inhabited BanT} (h : @StC i N w0 w p bud L C) : @StC noBan N w0 w p bud L C :=
  h.re (fun v => v) (fun x hx => by obtain ⟨g, e1, e2, e3, e4⟩ := hx; exact ⟨g, e1, e2, ⟨e3.1, fun hb => hb⟩, e4⟩) (fun b => b) (Nat.le_refl _)
theorem StC.onlyBan {N p : Nat} {w0 w V : World} {bud : Int} {L : List En} {C : Cs} {l : List Nat} (h : @StC (banL l) N w0 w p bud L C) (o : Only w V l) (hu : ∀ b ∈ l, ∃ cs, Blk w b 5 cs) (hN : ∀ b ∈ l, N ≤ b) : @StC (banL l) N w0 V p bud L C := by
  have h6 := h.2.2.2
  have hc := h.cv
  exact h.re (fun v => v.only o (fun b hb hm => by obtain ⟨cs, hcs⟩ := hu b hm; exact hc.u8 hcs hb)) (fun x hx => by obtain ⟨g, e1, e2, e3, e4⟩ := hx; exact ⟨g, e1, e2.only o (fun hg => e3.2 hg), e3, e4⟩) (fun b => b.trans (o.to_below h6 hN)) o.size
theorem shrE_le : ∀ (l : List En) (b : Int), 0 ≤ b → sumE (shrE b l) ≤ b
  | [], b, h => by simpa [shrE, sumE] using h
  | e :: l, b, h => by
    rw [shrE]
    split
    · have := shrE_le l (b - costE e) (by omega)
      simp only [sumE]; omega
    · simpa [sumE] using h
theorem sizeA1 (w : World) (o : Obj) : (w.alloc o).heap.size = w.heap.size + 1 := World.size_alloc _ _
theorem own_newU (w : World) (B k : Nat) (hB : B ≤ w.heap.size) (hk : k = w.heap.size) : (w.alloc (.cells #[] 5)).ownsRow B 5 1 (.slice (some ⟨k, 0, none⟩) 0 0) 0 [] := by
  subst hk
  exact ⟨rfl, .inr ⟨w.heap.size, 0, #[], rfl, hB, heap_alloc_new w _, Nat.le_refl _, Nat.zero_le _, rfl, rfl⟩⟩
theorem own_blkU {w : World} {base n : Nat} {v : Value} {X : List Value} (h : w.ownsRow base 5 1 v n X) : ∀ b ∈ blk v, ∃ cs, Blk w b 5 cs := by
  intro b hm
  rcases h.2 with ⟨rfl, _⟩ | ⟨g, cap, cur, rfl, _, h2, _⟩
  · simp [blk, Value.ownBlock] at hm
  · have : b = g := by simpa [blk, Value.ownBlock] using hm
    subst this
    exact ⟨cur, h2⟩
theorem own_ltL {w : World} {base n : Nat} {v : Value} {X : List Value} (h : w.ownsRow base 5 1 v n X) : ∀ b ∈ blk v, b < w.heap.size := fun b hb => by
  obtain ⟨cs, hc⟩ := own_blkU h b hb
  exact hc.lt
theorem Blk.grownL {w w' : World} {p : Nat} {T : TypeId} {cs : Array Value} {row : Option Nat} (h : Blk w p T cs) (hg : w.grownBy w' row) (hne : some p ≠ row) : Blk w' p T cs := by
  have := hg.block p h.lt hne
  unfold Blk at h ⊢
  rw [this]
  exact h
theorem wrapS (k : Nat) (h : k ≤ 100000) : wrap64 ((k : Int) + 1) = ((k + 1 : Nat) : Int) := by unfold wrap64; omega
theorem byteU {X : List Value} (h : Bytes8 X) {k : Nat} {d : Value} (hd : X[k]? = some d) : ∃ x : Nat, x < 256 ∧ d = .int .u8 (x : Int) := h d (List.mem_of_getElem? hd)
section
variable {P : Program} {ops : Array Oper} {E : Act → World → Prop} {I : World → Prop} {i : Nat} {t0 : Mx} {o : Oper} {a : Act} {w : World}
theorem MixL.append (hi : ops[i]? = some o) (hw : Region.wanted o (yielded ops a.tmps) = true) (s x : Operand) (t : TypeId)
    (ho : o.op = .call { callee := .builtin .append, args := #[s, x], argTypes := #[t, t] })
    (base : Nat) (e : TypeId) (info : TypeInfo) (z : Value) (size bytes : Nat) (ht : P.underlying t = some (.slice e)) (hi' : P.info? e = some info) (hz : info.zero = some z)
    (hsize : info.size = size) (hby : info.bytes = bytes) (hzs : z.cells.size = size) (hsz : 0 < size)
    (v : Value) (n : Nat) (xs : List Value) (hs : a.eval s = v) (hown : w.ownsRow base e size v n xs)
    (B : Nat) (A : Option Addr) (m c : Nat) (news : List Value) (hx : a.eval x = .slice A m c) (hr : Lists w B A news) (hl : news.length = m * size) (h1 : ∀ u ∈ news, u.oneCell' = true)
    (h63 : n + m ≤ maxLen) (hbytes : ((n + m) + (n + m) / 4 + 192) * bytes ≤ 281474976710656) (hbase : base ≤ w.heap.size)
    (h : ∀ v' w', w'.ownsRow base e size v' (n + m) (xs ++ news) → w.grownBy w' v.ownBlock → I w' ∧ MixL P ops E I t0 (a.put o.dst v') w') : MixL P ops E I (.one i t0) a w := by
  obtain ⟨v', w', hrun, h2, h3⟩ := run_append_src_wide (P := P) w base t o.type e info z size bytes ht hi' hz hsize hby hzs hsz v n xs hown B A m c news hr hl h1 h63 hbytes hbase
  refine ⟨o, hi, hw, .inl ⟨v', w', ?_, h v' w' h2 h3⟩⟩
  unfold execOp
  simp only [ho, resolve, invoke, builtin, Sem.run_bind, Sem.run_pure, Result.andThen_ok, List.map_toArray, List.map_cons, List.map_nil, hs, hx, hrun]
end
set_option maxRecDepth 100000 in
set_option maxHeartbeats 2000000 in
theorem do_put (N p q : Nat) (W1 w : World) (bud : Int) (L : List En) (r : LRec) (m : Nat) (h : BothC N W1 w p q bud L) (hk : kyW r.k) (h2 : r.kd = 2) (hl : Lists W1 N r.am r.m) (h8 : Bytes8 r.m) (hm : r.m.length = m) (hm2 : m ≤ 16384) : Calls Try.prog 11 #[.pointer (some ⟨p, 0, none⟩), .pointer (some ⟨q, 0, none⟩), .agg #[.int .i64 r.kd, .int .i64 r.k.1, .int .i64 r.k.2.1, .int .i64 r.k.2.2.1, .int .i64 r.k.2.2.2, .int .i64 r.a.x0, .int .i64 r.a.y0, .int .i64 r.a.x1, .int .i64 r.a.y1, .slice r.am m r.mc, .int .i64 r.n]] w fun e w' => ∃ bud' L', e = .returned (.bool true) ∧ BothC N W1 w' p q bud' L' := by
  have B1 : Below w.heap.size w (w.alloc (.cells #[.int .i64 r.kd, .int .i64 r.k.1, .int .i64 r.k.2.1, .int .i64 r.k.2.2.1, .int .i64 r.k.2.2.2, .int .i64 r.a.x0, .int .i64 r.a.y0, .int .i64 r.a.x1, .int .i64 r.a.y1, .slice r.am m r.mc, .int .i64 r.n] 41)) := below_a1 _ _
  have K := Blk.new w 41 #[.int .i64 r.kd, .int .i64 r.k.1, .int .i64 r.k.2.1, .int .i64 r.k.2.2.1, .int .i64 r.k.2.2.2, .int .i64 r.a.x0, .int .i64 r.a.y0, .int .i64 r.a.x1, .int .i64 r.a.y1, .slice r.am m r.mc, .int .i64 r.n]
  have t0 := K.cell 0; have t1 := K.cell 1; have t2 := K.cell 2; have t3 := K.cell 3; have t4 := K.cell 4; have t5 := K.cell 5; have t6 := K.cell 6; have t7 := K.cell 7; have t8 := K.cell 8; have t9 := K.cell 9; have t10 := K.cell 10; have tl := K.lt; simp only [List.getElem?_toArray, List.getElem?_cons_succ, List.getElem?_cons_zero] at t0 t1 t2 t3 t4 t5 t6 t7 t8 t9 t10
  obtain ⟨w1, hw1⟩ : ∃ w1, w1 = w.alloc (.cells #[.int .i64 r.kd, .int .i64 r.k.1, .int .i64 r.k.2.1, .int .i64 r.k.2.2.1, .int .i64 r.k.2.2.2, .int .i64 r.a.x0, .int .i64 r.a.y0, .int .i64 r.a.x1, .int .i64 r.a.y1, .slice r.am m r.mc, .int .i64 r.n] 41) := ⟨_, rfl⟩
  have hb := h.below B1
  rw [← hw1] at hb K t0 t1 t2 t3 t4 t5 t6 t7 t8 t9 t10 tl
  rw [h2] at t0
  have HK := Lib.hid K
  have HW1 := Lib.hid hw1
  obtain ⟨C, E, lv, s, rf, he, hle⟩ := hb
  obtain ⟨i0, hi, hz0, hz1, hz2⟩ := info_parts u8InfoL
  have HL := Lib.hid (And.intro (hl.below s.2.1) (And.intro h8 (And.intro hm hm2)))
  have HL0 := Lib.hid hl
  have HN := Lib.hid s.2.2.2
  have hkeys := s.1.keys
  have hd : (E.map RE.k).Nodup := by
    rw [← he, List.map_map] at hkeys
    exact hkeys
  have HS := Lib.hid (And.intro s (And.intro rf (And.intro he (And.intro hle hd))))
  have HD := Lib.hid (fun (V : World) (hV : Below w1.heap.size w1 V) => And.intro ((hV.cell (p := ⟨w.heap.size, 5, none⟩) tl).trans t5) (And.intro ((hV.cell (p := ⟨w.heap.size, 6, none⟩) tl).trans t6) (And.intro ((hV.cell (p := ⟨w.heap.size, 7, none⟩) tl).trans t7) (And.intro ((hV.cell (p := ⟨w.heap.size, 8, none⟩) tl).trans t8) (And.intro ((hV.cell (p := ⟨w.heap.size, 9, none⟩) tl).trans t9) (Nat.lt_of_lt_of_le tl hV.size))))))
  clear h B1 K hw1 h2 s rf he hle hd hkeys hl h8 hm hm2
  cases hc : chkB r.a m with
  | false =>
    have HE := Lib.hid (And.intro (show lputB bud r.a m = false by unfold lputB; rw [hc]; rfl) (And.intro (show chkC r.a m = 220 by unfold chkC; rw [hc]; rfl) (show lputL bud L r.k r.a m r.m = L by unfold lputL; rw [hc]; rfl)))
    clear hc
    go_enter Try.func11, Try.ntmps11
    go_upto_region 1 with fail
    rw [← HW1.out]
    go_upto_region 7 with fail
    clear t0 t1 t2 t3 t4 t5 t6 t7 t8 t9 t10 tl
    go_cut [11] from 47 (fun p wx => ∃ (ga : Nat) (Av : Option Addr) (cv : Nat), p = .pointer (some ⟨ga, 0, none⟩) ∧ Hid (Blk wx ga 37 #[.int .i64 r.a.x0, .int .i64 r.a.y0, .int .i64 r.a.x1, .int .i64 r.a.y1, .slice Av m cv] ∧ wx.ownsRow w1.heap.size 5 1 (.slice Av m cv) m r.m ∧ Below w1.heap.size w1 wx ∧ w1.heap.size ≤ ga))
    case first =>
      have hI : Below w1.heap.size w1 w1.drew := (Below.refl _ _).drew
      refine wp_region_mix (fun V => Below w1.heap.size w1 V) (Mx.qs [0, 1, 2, 4, 5, 6] (.two 3 9 (.two 7 9 (.q 8 (.one 9 (.one 10 .leaf))) (.one 7 (.q 8 (.one 10 .leaf)))) (.one 3 (.one 7 (.q 8 (.one 10 .leaf)))))) (by kernel_rfl) (by kernel_rfl) hI ?_
      simp only [Mx.qs]
      obtain ⟨wd, hwd⟩ : ∃ wd, wd = w1.drew := ⟨_, rfl⟩
      rw [← hwd] at hI ⊢
      clear hwd
      repeat (first
        | (refine MixL.skip (o := ?_) ?_ ?_ ?_; rotate_left; (focus (first | (simp only [List.getElem?_toArray, List.getElem?_cons_succ, List.getElem?_cons_zero]; with_reducible rfl) | (simp only [List.getElem?_toArray, List.getElem?_cons_zero]; with_reducible rfl))); (focus rfl); simp only [Act.put, List.setIfInBounds_toArray, List.set_cons_zero, List.set_cons_succ])
        | (refine MixL.val (o := ?_) (v := ?_) ?_ ?_ ?_ ?_ ?_; rotate_left 2; (focus (first | (simp only [List.getElem?_toArray, List.getElem?_cons_succ, List.getElem?_cons_zero]; with_reducible rfl) | (simp only [List.getElem?_toArray, List.getElem?_cons_zero]; with_reducible rfl))); (focus (intro _ _ h; cases h)); (focus rfl); (focus (intro w' hJ; obtain ⟨d5, d6, d7, d8, d9, dl⟩ := HD.out _ hJ; go_simp <;> with_reducible rfl)); simp only [Act.put, List.setIfInBounds_toArray, List.set_cons_zero, List.set_cons_succ]))
      refine MixL.both ?_ ?_
      · have hI3 := hI.alloc hI.size (.cells #[] 5)
        have own3 := own_newU wd w1.heap.size wd.heap.size hI.size rfl
        refine MixL.does (o := ?_) (v := ?_) (w1 := ?_) ?_ ?_ ?_ ?_ ?_
        rotate_left 3
        (focus (first | (simp only [List.getElem?_toArray, List.getElem?_cons_succ, List.getElem?_cons_zero]; with_reducible rfl) | (simp only [List.getElem?_toArray, List.getElem?_cons_zero]; with_reducible rfl)))
        (focus rfl)
        (focus (go_simp; (constructor <;> with_reducible rfl)))
        (focus (exact hI3))
        simp only [Act.put, List.setIfInBounds_toArray, List.set_cons_zero, List.set_cons_succ]
        refine MixL.both ?_ ?_
        · refine MixL.append (o := ?_) ?_ ?_ (.tmp 50) (.tmp 53) 35 ?_ w1.heap.size 5 i0 (.int .u8 0) 1 1 Try.underlying35 hi hz0 hz1 hz2 rfl (by decide) _ 0 [] ?_ own3 N r.am m r.mc r.m ?_ (HL.out.1.below (hI3.mono HN.out)) (by rw [HL.out.2.2.1, Nat.mul_one]) (fun u hu => by obtain ⟨x, _, hx⟩ := HL.out.2.1 u hu; subst hx; rfl) (by have := HL.out.2.2.2; simp only [maxLen]; omega) (by have := HL.out.2.2.2; omega) hI3.size ?_
          rotate_left 1
          (focus (first | (simp only [List.getElem?_toArray, List.getElem?_cons_succ, List.getElem?_cons_zero]; with_reducible rfl) | (simp only [List.getElem?_toArray, List.getElem?_cons_zero]; with_reducible rfl)))
          (focus rfl)
          (focus rfl)
          (focus rfl)
          (focus rfl)
          intro v w4 own4 hg4
          have hIs := hI.size
          have hI4 := hI3.grown hg4 hI3.size (fun b hb => by have : b = _ := (by simpa [Value.ownBlock] using hb.symm); omega)
          refine ⟨hI4, ?_⟩
          rw [Nat.zero_add, List.nil_append] at own4
          obtain ⟨Av, cv, rfl, _, _⟩ := own_lists own4
          simp only [Act.put, List.setIfInBounds_toArray, List.set_cons_zero, List.set_cons_succ]
          repeat (first
            | (refine MixL.skip (o := ?_) ?_ ?_ ?_; rotate_left; (focus (first | (simp only [List.getElem?_toArray, List.getElem?_cons_succ, List.getElem?_cons_zero]; with_reducible rfl) | (simp only [List.getElem?_toArray, List.getElem?_cons_zero]; with_reducible rfl))); (focus rfl); simp only [Act.put, List.setIfInBounds_toArray, List.set_cons_zero, List.set_cons_succ])
            | (refine MixL.val (o := ?_) (v := ?_) ?_ ?_ ?_ ?_ ?_; rotate_left 2; (focus (first | (simp only [List.getElem?_toArray, List.getElem?_cons_succ, List.getElem?_cons_zero]; with_reducible rfl) | (simp only [List.getElem?_toArray, List.getElem?_cons_zero]; with_reducible rfl))); (focus (intro _ _ h; cases h)); (focus rfl); (focus (intro w' hJ; obtain ⟨d5, d6, d7, d8, d9, dl⟩ := HD.out _ hJ; go_simp <;> with_reducible rfl)); simp only [Act.put, List.setIfInBounds_toArray, List.set_cons_zero, List.set_cons_succ]))
          have hI9 := hI4.alloc hI4.size (.cells #[.int .i64 0, .int .i64 0, .int .i64 0, .int .i64 0, .slice none 0 0] 37)
          refine MixL.does (o := ?_) (v := ?_) (w1 := ?_) ?_ ?_ ?_ ?_ ?_
          rotate_left 3
          (focus (first | (simp only [List.getElem?_toArray, List.getElem?_cons_succ, List.getElem?_cons_zero]; with_reducible rfl) | (simp only [List.getElem?_toArray, List.getElem?_cons_zero]; with_reducible rfl)))
          (focus rfl)
          (focus (go_simp; (constructor <;> with_reducible rfl)))
          (focus (exact hI9))
          simp only [Act.put, List.setIfInBounds_toArray, List.set_cons_zero, List.set_cons_succ]
          have own5 := own_only own4 (Only.of_below (below_a1 w4 (.cells #[.int .i64 0, .int .i64 0, .int .i64 0, .int .i64 0, .slice none 0 0] 37)) []) (fun _ _ h => (nomatch h))
          have K7 := Blk.new w4 37 #[.int .i64 0, .int .i64 0, .int .i64 0, .int .i64 0, .slice none 0 0]
          have hs := below_setRow hI9 hI4.size #[.int .i64 r.a.x0, .int .i64 r.a.y0, .int .i64 r.a.x1, .int .i64 r.a.y1, .slice Av m cv]
          refine MixL.store (o := ?_) (w1 := (w4.alloc (.cells #[.int .i64 0, .int .i64 0, .int .i64 0, .int .i64 0, .slice none 0 0] 37)).setRow w4.heap.size #[.int .i64 r.a.x0, .int .i64 r.a.y0, .int .i64 r.a.x1, .int .i64 r.a.y1, .slice Av m cv]) ?_ ?_ ?_ ?_ ?_
          rotate_left 1
          (focus (first | (simp only [List.getElem?_toArray, List.getElem?_cons_succ, List.getElem?_cons_zero]; with_reducible rfl) | (simp only [List.getElem?_toArray, List.getElem?_cons_zero]; with_reducible rfl)))
          (focus rfl)
          (focus (refine exec_store_row 37 _ _ (by rfl) w4.heap.size #[.int .i64 r.a.x0, .int .i64 r.a.y0, .int .i64 r.a.x1, .int .i64 r.a.y1, .slice Av m cv] (by rfl) (by rfl) 37 #[.int .i64 0, .int .i64 0, .int .i64 0, .int .i64 0, .slice none 0 0] K7 mkInfoL rfl (by simp [Value.oneCell'])))
          (focus (exact hs))
          simp only [Act.put, List.setIfInBounds_toArray, List.set_cons_zero, List.set_cons_succ]
          refine MixL.nil ?_
          go_wp2
          go_meet
          exact ⟨w4.heap.size, Av, cv, rfl, Lib.hid ⟨blk_row K7 _, own_only own5 (only_row (Only.refl _ _) (.inl (by simp)) _ : Only (w4.alloc (.cells #[.int .i64 0, .int .i64 0, .int .i64 0, .int .i64 0, .slice none 0 0] 37)) _ [w4.heap.size]) (fun b hb hm => by simp at hm; subst hm; exact own_ne own5 K7 (by decide) hb), hs, hI4.size⟩⟩
        · have hI9 := hI3.alloc hI3.size (.cells #[.int .i64 0, .int .i64 0, .int .i64 0, .int .i64 0, .slice none 0 0] 37)
          refine MixL.does (o := ?_) (v := ?_) (w1 := ?_) ?_ ?_ ?_ ?_ ?_
          rotate_left 3
          (focus (first | (simp only [List.getElem?_toArray, List.getElem?_cons_succ, List.getElem?_cons_zero]; with_reducible rfl) | (simp only [List.getElem?_toArray, List.getElem?_cons_zero]; with_reducible rfl)))
          (focus rfl)
          (focus (go_simp; (constructor <;> with_reducible rfl)))
          (focus (exact hI9))
          simp only [Act.put, List.setIfInBounds_toArray, List.set_cons_zero, List.set_cons_succ]
          have own9 := own_only own3 (Only.of_below (below_a1 _ (.cells #[.int .i64 0, .int .i64 0, .int .i64 0, .int .i64 0, .slice none 0 0] 37)) []) (fun _ _ h => (nomatch h))
          refine MixL.append (o := ?_) ?_ ?_ (.tmp 50) (.tmp 53) 35 ?_ w1.heap.size 5 i0 (.int .u8 0) 1 1 Try.underlying35 hi hz0 hz1 hz2 rfl (by decide) _ 0 [] ?_ own9 N r.am m r.mc r.m ?_ (HL.out.1.below (hI9.mono HN.out)) (by rw [HL.out.2.2.1, Nat.mul_one]) (fun u hu => by obtain ⟨x, _, hx⟩ := HL.out.2.1 u hu; subst hx; rfl) (by have := HL.out.2.2.2; simp only [maxLen]; omega) (by have := HL.out.2.2.2; omega) hI9.size ?_
          rotate_left 1
          (focus (first | (simp only [List.getElem?_toArray, List.getElem?_cons_succ, List.getElem?_cons_zero]; with_reducible rfl) | (simp only [List.getElem?_toArray, List.getElem?_cons_zero]; with_reducible rfl)))
          (focus rfl)
          (focus rfl)
          (focus rfl)
          (focus rfl)
          intro v w4 own4 hg4
          have hIs := hI.size
          have hI4 := hI9.grown hg4 hI9.size (fun b hb => by have : b = _ := (by simpa [Value.ownBlock] using hb.symm); omega)
          refine ⟨hI4, ?_⟩
          rw [Nat.zero_add, List.nil_append] at own4
          obtain ⟨Av, cv, rfl, _, _⟩ := own_lists own4
          simp only [Act.put, List.setIfInBounds_toArray, List.set_cons_zero, List.set_cons_succ]
          repeat (first
            | (refine MixL.skip (o := ?_) ?_ ?_ ?_; rotate_left; (focus (first | (simp only [List.getElem?_toArray, List.getElem?_cons_succ, List.getElem?_cons_zero]; with_reducible rfl) | (simp only [List.getElem?_toArray, List.getElem?_cons_zero]; with_reducible rfl))); (focus rfl); simp only [Act.put, List.setIfInBounds_toArray, List.set_cons_zero, List.set_cons_succ])
            | (refine MixL.val (o := ?_) (v := ?_) ?_ ?_ ?_ ?_ ?_; rotate_left 2; (focus (first | (simp only [List.getElem?_toArray, List.getElem?_cons_succ, List.getElem?_cons_zero]; with_reducible rfl) | (simp only [List.getElem?_toArray, List.getElem?_cons_zero]; with_reducible rfl))); (focus (intro _ _ h; cases h)); (focus rfl); (focus (intro w' hJ; obtain ⟨d5, d6, d7, d8, d9, dl⟩ := HD.out _ hJ; go_simp <;> with_reducible rfl)); simp only [Act.put, List.setIfInBounds_toArray, List.set_cons_zero, List.set_cons_succ]))
          have own5 := own4
          have hsz : (wd.alloc (.cells #[] 5)).heap.size = wd.heap.size + 1 := sizeA1 _ _
          have K7 := (Blk.new (wd.alloc (.cells #[] 5)) 37 #[.int .i64 0, .int .i64 0, .int .i64 0, .int .i64 0, .slice none 0 0]).grownL hg4 (by simp [Value.ownBlock, hsz])
          rw [hsz] at K7
          have hgs : w1.heap.size ≤ wd.heap.size + 1 := by omega
          have hs := below_setRow hI4 hgs #[.int .i64 r.a.x0, .int .i64 r.a.y0, .int .i64 r.a.x1, .int .i64 r.a.y1, .slice Av m cv]
          refine MixL.store (o := ?_) (w1 := w4.setRow (wd.heap.size + 1) #[.int .i64 r.a.x0, .int .i64 r.a.y0, .int .i64 r.a.x1, .int .i64 r.a.y1, .slice Av m cv]) ?_ ?_ ?_ ?_ ?_
          rotate_left 1
          (focus (first | (simp only [List.getElem?_toArray, List.getElem?_cons_succ, List.getElem?_cons_zero]; with_reducible rfl) | (simp only [List.getElem?_toArray, List.getElem?_cons_zero]; with_reducible rfl)))
          (focus rfl)
          (focus (refine exec_store_row 37 _ _ (by rfl) (wd.heap.size + 1) #[.int .i64 r.a.x0, .int .i64 r.a.y0, .int .i64 r.a.x1, .int .i64 r.a.y1, .slice Av m cv] (by rfl) (by rfl) 37 #[.int .i64 0, .int .i64 0, .int .i64 0, .int .i64 0, .slice none 0 0] K7 mkInfoL rfl (by simp [Value.oneCell'])))
          (focus (exact hs))
          simp only [Act.put, List.setIfInBounds_toArray, List.set_cons_zero, List.set_cons_succ]
          refine MixL.nil ?_
          go_wp2
          go_meet
          exact ⟨(wd.heap.size + 1), Av, cv, rfl, Lib.hid ⟨blk_row K7 _, own_only own5 (only_row (Only.refl _ _) (.inl (by simp)) _ : Only w4 _ [(wd.heap.size + 1)]) (fun b hb hm => by simp at hm; subst hm; exact own_ne own5 K7 (by decide) hb), hs, hgs⟩⟩
      · have hI9 := hI.alloc hI.size (.cells #[.int .i64 0, .int .i64 0, .int .i64 0, .int .i64 0, .slice none 0 0] 37)
        refine MixL.does (o := ?_) (v := ?_) (w1 := ?_) ?_ ?_ ?_ ?_ ?_
        rotate_left 3
        (focus (first | (simp only [List.getElem?_toArray, List.getElem?_cons_succ, List.getElem?_cons_zero]; with_reducible rfl) | (simp only [List.getElem?_toArray, List.getElem?_cons_zero]; with_reducible rfl)))
        (focus rfl)
        (focus (go_simp; (constructor <;> with_reducible rfl)))
        (focus (exact hI9))
        simp only [Act.put, List.setIfInBounds_toArray, List.set_cons_zero, List.set_cons_succ]
        have hI3 := hI9.alloc hI9.size (.cells #[] 5)
        have own3 := own_newU (wd.alloc (.cells #[.int .i64 0, .int .i64 0, .int .i64 0, .int .i64 0, .slice none 0 0] 37)) w1.heap.size (wd.heap.size + 1) hI9.size (sizeA1 _ _).symm
        refine MixL.does (o := ?_) (v := ?_) (w1 := ?_) ?_ ?_ ?_ ?_ ?_
        rotate_left 3
        (focus (first | (simp only [List.getElem?_toArray, List.getElem?_cons_succ, List.getElem?_cons_zero]; with_reducible rfl) | (simp only [List.getElem?_toArray, List.getElem?_cons_zero]; with_reducible rfl)))
        (focus rfl)
        (focus (go_simp; (constructor <;> with_reducible rfl)))
        (focus (exact hI3))
        simp only [Act.put, List.setIfInBounds_toArray, List.set_cons_zero, List.set_cons_succ]
        refine MixL.append (o := ?_) ?_ ?_ (.tmp 50) (.tmp 53) 35 ?_ w1.heap.size 5 i0 (.int .u8 0) 1 1 Try.underlying35 hi hz0 hz1 hz2 rfl (by decide) _ 0 [] ?_ own3 N r.am m r.mc r.m ?_ (HL.out.1.below (hI3.mono HN.out)) (by rw [HL.out.2.2.1, Nat.mul_one]) (fun u hu => by obtain ⟨x, _, hx⟩ := HL.out.2.1 u hu; subst hx; rfl) (by have := HL.out.2.2.2; simp only [maxLen]; omega) (by have := HL.out.2.2.2; omega) hI3.size ?_
        rotate_left 1
        (focus (first | (simp only [List.getElem?_toArray, List.getElem?_cons_succ, List.getElem?_cons_zero]; with_reducible rfl) | (simp only [List.getElem?_toArray, List.getElem?_cons_zero]; with_reducible rfl)))
        (focus rfl)
        (focus rfl)
        (focus rfl)
        (focus rfl)
        intro v w4 own4 hg4
        have hIs := hI.size
        have hI4 := hI3.grown hg4 hI3.size (fun b hb => by have : b = _ := (by simpa [Value.ownBlock] using hb.symm); omega)
        refine ⟨hI4, ?_⟩
        rw [Nat.zero_add, List.nil_append] at own4
        obtain ⟨Av, cv, rfl, _, _⟩ := own_lists own4
        simp only [Act.put, List.setIfInBounds_toArray, List.set_cons_zero, List.set_cons_succ]
        repeat (first
          | (refine MixL.skip (o := ?_) ?_ ?_ ?_; rotate_left; (focus (first | (simp only [List.getElem?_toArray, List.getElem?_cons_succ, List.getElem?_cons_zero]; with_reducible rfl) | (simp only [List.getElem?_toArray, List.getElem?_cons_zero]; with_reducible rfl))); (focus rfl); simp only [Act.put, List.setIfInBounds_toArray, List.set_cons_zero, List.set_cons_succ])
          | (refine MixL.val (o := ?_) (v := ?_) ?_ ?_ ?_ ?_ ?_; rotate_left 2; (focus (first | (simp only [List.getElem?_toArray, List.getElem?_cons_succ, List.getElem?_cons_zero]; with_reducible rfl) | (simp only [List.getElem?_toArray, List.getElem?_cons_zero]; with_reducible rfl))); (focus (intro _ _ h; cases h)); (focus rfl); (focus (intro w' hJ; obtain ⟨d5, d6, d7, d8, d9, dl⟩ := HD.out _ hJ; go_simp <;> with_reducible rfl)); simp only [Act.put, List.setIfInBounds_toArray, List.set_cons_zero, List.set_cons_succ]))
        have own5 := own4
        have K7 := ((Blk.new wd 37 #[.int .i64 0, .int .i64 0, .int .i64 0, .int .i64 0, .slice none 0 0]).below (below_a1 _ (.cells #[] 5))).grownL hg4 (by simp [Value.ownBlock])
        have hs := below_setRow hI4 hI.size #[.int .i64 r.a.x0, .int .i64 r.a.y0, .int .i64 r.a.x1, .int .i64 r.a.y1, .slice Av m cv]
        refine MixL.store (o := ?_) (w1 := w4.setRow wd.heap.size #[.int .i64 r.a.x0, .int .i64 r.a.y0, .int .i64 r.a.x1, .int .i64 r.a.y1, .slice Av m cv]) ?_ ?_ ?_ ?_ ?_
        rotate_left 1
        (focus (first | (simp only [List.getElem?_toArray, List.getElem?_cons_succ, List.getElem?_cons_zero]; with_reducible rfl) | (simp only [List.getElem?_toArray, List.getElem?_cons_zero]; with_reducible rfl)))
        (focus rfl)
        (focus (refine exec_store_row 37 _ _ (by rfl) wd.heap.size #[.int .i64 r.a.x0, .int .i64 r.a.y0, .int .i64 r.a.x1, .int .i64 r.a.y1, .slice Av m cv] (by rfl) (by rfl) 37 #[.int .i64 0, .int .i64 0, .int .i64 0, .int .i64 0, .slice none 0 0] K7 mkInfoL rfl (by simp [Value.oneCell'])))
        (focus (exact hs))
        simp only [Act.put, List.setIfInBounds_toArray, List.set_cons_zero, List.set_cons_succ]
        refine MixL.nil ?_
        go_wp2
        go_meet
        exact ⟨wd.heap.size, Av, cv, rfl, Lib.hid ⟨blk_row K7 _, own_only own5 (only_row (Only.refl _ _) (.inl (by simp)) _ : Only w4 _ [wd.heap.size]) (fun b hb hm => by simp at hm; subst hm; exact own_ne own5 K7 (by decide) hb), hs, hI.size⟩⟩
    case rest =>
      obtain ⟨ga, Av, cv, rfl, HF⟩ := hcut
      have hown := HF.out.2.1
      obtain ⟨Av', cv', hvv, hls, hmc⟩ := own_lists hown
      obtain ⟨rfl, rfl⟩ : Av = Av' ∧ cv = cv' := by simpa using hvv
      have hlo := own_lowL hown
      have hub := own_blkU hown
      have hlt := own_ltL hown
      have s3 := (HS.out.1.toBan (blk (.slice Av m cv)) hlo).bel HF.out.2.2.1
      obtain ⟨bl, hbl⟩ : ∃ bl, bl = blk (.slice Av m cv) := ⟨_, rfl⟩
      rw [← hbl] at hlo hub hlt s3
      have s31 := s3.1
      have PP := @lrput_any (banL bl) N p bud L C r.k hk r.a Av m cv r.m _ s31 HL.out.2.2.1 hls HL.out.2.1 (fun a ha _ => by subst ha; obtain ⟨cs, hcs⟩ := hub a.block (by rw [hbl]; simp [blk, Value.ownBlock]); exact s3.cv.u8 hcs) s3.2.2.2 (fun b hb hm => by have := hlt b hm; omega)
      rw [HE.out.1, HE.out.2.1, HE.out.2.2] at PP
      have K3 := HK.out.below HF.out.2.2.1
      have K7 := HF.out.1
      have t0 := K3.cell 0; have t1 := K3.cell 1; have t2 := K3.cell 2; have t3 := K3.cell 3; have t4 := K3.cell 4; have t5 := K3.cell 5; have t6 := K3.cell 6; have t7 := K3.cell 7; have t8 := K3.cell 8; have t9 := K3.cell 9; have t10 := K3.cell 10; have tl := K3.lt; simp only [List.getElem?_toArray, List.getElem?_cons_succ, List.getElem?_cons_zero] at t0 t1 t2 t3 t4 t5 t6 t7 t8 t9 t10
      have g0 := K7.cell 0; have g1 := K7.cell 1; have g2 := K7.cell 2; have g3 := K7.cell 3; have g4 := K7.cell 4; have gl := K7.lt; simp only [List.getElem?_toArray, List.getElem?_cons_succ, List.getElem?_cons_zero] at g0 g1 g2 g3 g4
      have HO3 := Lib.hid (And.intro hown (And.intro s3 (And.intro hlo (And.intro hub hlt))))
      have HBL := Lib.hid hbl
      clear hown hls hlo hub hlt s3 hvv hmc K3 K7
      go_upto_region 9 with (go_at_call 16; refine (PP).mono ?_; rintro e w4 ⟨C4, rfl, s4, m4⟩)
      have K4 := (HK.out.below HF.out.2.2.1).only m4.1 (HO3.out.2.1.cv.other (HK.out.below HF.out.2.2.1) (by decide) (by decide) (by decide))
      have M4 := HF.out.1.only m4.1 (HO3.out.2.1.cv.other HF.out.1 (by decide) (by decide) (by decide))
      have own4 := own_only HO3.out.1 m4.1 (fun b hb => by rw [← HBL.out] at hb; obtain ⟨cs, hcs⟩ := HO3.out.2.2.2.1 b hb; exact HO3.out.2.1.cv.u8 hcs)
      have rf4 := (HS.out.2.1.below HF.out.2.2.1).mod HO3.out.2.1.cv m4 HO3.out.2.1.2.2.1
      have st4 : @StC (banL bl) N W1 w4 p bud L C4 := ⟨s4, HO3.out.2.1.2.mod m4⟩
      have HX := Lib.hid (And.intro st4 (And.intro rf4 (And.intro K4 (And.intro M4 own4))))
      have n0 := M4.cell 0; have n1 := M4.cell 1; have n2 := M4.cell 2; have n3 := M4.cell 3; have n4 := M4.cell 4; have nl := M4.lt; simp only [List.getElem?_toArray, List.getElem?_cons_succ, List.getElem?_cons_zero] at n0 n1 n2 n3 n4
      clear s4 m4 K4 M4 own4 rf4 st4 t0 t1 t2 t3 t4 t5 t6 t7 t8 t9 t10 tl g0 g1 g2 g3 g4 gl PP
      go_upto_region 10 with fail
      go_loopw [14] (fun i wr => ∃ (k : Nat) (X : List Value), k ≤ m ∧ i = .int .i64 (k : Nat) ∧ wr.ownsRow w1.heap.size 5 1 (.slice Av m cv) m X ∧ Bytes8 X ∧ Only w4 wr bl) (fun i _ => m - (intOf i).toNat)
      case atStart => exact ⟨0, r.m, Nat.zero_le _, rfl, HX.out.2.2.2.2, HL.out.2.1, Only.refl _ _⟩
      case round =>
        obtain ⟨k, X, hk0, rfl, ho, h8, hon⟩ := hrel
        have HO := Lib.hid (And.intro ho (And.intro h8 hon))
        have M5 := HX.out.2.2.2.1.only hon (by rw [HBL.out]; exact own_ne HX.out.2.2.2.2 HX.out.2.2.2.1 (by decide))
        have n0 := M5.cell 0; have n1 := M5.cell 1; have n2 := M5.cell 2; have n3 := M5.cell 3; have n4 := M5.cell 4; have nl := M5.lt; simp only [List.getElem?_toArray, List.getElem?_cons_succ, List.getElem?_cons_zero] at n0 n1 n2 n3 n4
        by_cases hlt : k < m
        · obtain ⟨g, cap, cur, hv, hg1, hg2, hg3, hg4, hg5, hg6⟩ : ∃ g cap cur, Value.slice Av m cv = .slice (some ⟨g, 0, none⟩) m cap ∧ w1.heap.size ≤ g ∧ wr.heap[g]? = some (.cells cur 5 (0, 0)) ∧ m ≤ cap ∧ cap ≤ maxLen ∧ cur.size = cap * 1 ∧ cur.toList.take (m * 1) = X := by
            rcases ho.2 with h | h
            · omega
            · exact h
          obtain ⟨rfl, rfl⟩ : Av = some ⟨g, 0, none⟩ ∧ cv = cap := by simpa using hv
          have hb : Blk wr g 5 cur := hg2
          have hXl : X.length = m := by have := ho.1; omega
          obtain ⟨d, hd⟩ : ∃ d, X[k]? = some d := ⟨_, List.getElem?_eq_getElem (by omega)⟩
          obtain ⟨x, hx0, rfl⟩ := byteU h8 hd
          have hcell : wr.cell? ⟨g, k, none⟩ = some (.int .u8 x) := by
            rw [hb.cell, ← Array.getElem?_toList]
            rw [← hg6, List.getElem?_take] at hd
            rw [if_pos (by omega)] at hd
            exact hd
          have hfr := hb.frozen k
          have hgl := hb.lt
          clear ho h8 hon hg2 hg6 hb hd M5 hv
          have EW := Lib.hid (wrapS k (by have := HL.out.2.2.2; omega))
          go_wp2
          go_roundw
          case rel =>
            refine ⟨k + 1, X.set k (.int .u8 (((x : Int) + 1) % 256)), by omega, by rw [EW.out], (HO.out.1.stored k _).1, ?_, HO.out.2.2.set (.inl (by rw [HBL.out]; simp [blk, Value.ownBlock])) _⟩
            intro d hd
            rcases List.mem_or_eq_of_mem_set hd with h | rfl
            · exact HO.out.2.1 d h
            · exact ⟨((x + 1) % 256 : Nat), by omega, by simp⟩
          case measure => rw [EW.out]; simp only [intOf]; omega
        · have hu4 : ∀ b ∈ bl, ∃ cs, Blk w4 b 5 cs := fun b hb => own_blkU HX.out.2.2.2.2 b (by rw [← HBL.out]; exact hb)
          have hN4 : ∀ b ∈ bl, N ≤ b := fun b hb => Nat.le_trans HN.out (HO3.out.2.2.1 b hb)
          have s5 := (HX.out.1.onlyBan hon hu4 hN4).unBan
          have rf5 := HX.out.2.1.only hon (fun hb => by obtain ⟨cs, hc⟩ := hu4 _ hb; exact blk_neL hc HX.out.2.1.blk (by decide) rfl) (fun b hb hm => by
            obtain ⟨cs, hc⟩ := hu4 _ hm
            exact own_ne HX.out.2.1.own hc (by decide) hb) hN4
          have K5 := HX.out.2.2.1.only hon (by rw [HBL.out]; exact own_ne HX.out.2.2.2.2 HX.out.2.2.1 (by decide))
          have CKK := fun W => rckmask_any r.a r.am m r.mc W
          rw [HE.out.2.1] at CKK
          have HZ := Lib.hid (And.intro s5 (And.intro rf5 (And.intro K5 trivial)))
          have t0 := K5.cell 0; have t1 := K5.cell 1; have t2 := K5.cell 2; have t3 := K5.cell 3; have t4 := K5.cell 4; have t5 := K5.cell 5; have t6 := K5.cell 6; have t7 := K5.cell 7; have t8 := K5.cell 8; have t9 := K5.cell 9; have t10 := K5.cell 10; have tl := K5.lt; simp only [List.getElem?_toArray, List.getElem?_cons_succ, List.getElem?_cons_zero] at t0 t1 t2 t3 t4 t5 t6 t7 t8 t9 t10
          clear s5 rf5 K5 hu4 hN4 ho h8 hon
          go_wp2_with (go_at_call 15; refine (CKK _).mono ?_; rintro e w6 ⟨rfl, b6⟩)
          refine bodyPost_ret (results_tmp rfl _ _ _) rfl ⟨bud, L, rfl, C4, E, lv, HZ.out.1.below b6, HZ.out.2.1.below b6, HS.out.2.2.1, HS.out.2.2.2.1⟩

  | true =>
    by_cases hfit : 64 + (m : Int) ≤ bud
    · have HF0 := Lib.hid hfit
      have HE := Lib.hid (And.intro (show lputB bud r.a m = true by unfold lputB; rw [hc]; simpa using hfit) (And.intro (show chkC r.a m = 0 by unfold chkC; rw [hc]; rfl) (show lputL bud L r.k r.a m r.m = (r.k, r.a, r.m) :: shrE (bud - (64 + (m : Int))) (dropE r.k L) by unfold lputL; rw [hc, if_pos rfl, if_pos hfit])))
      clear hc hfit
      go_enter Try.func11, Try.ntmps11
      go_upto_region 1 with fail
      rw [← HW1.out]
      go_upto_region 7 with fail
      clear t0 t1 t2 t3 t4 t5 t6 t7 t8 t9 t10 tl
      go_cut [11] from 47 (fun p wx => ∃ (ga : Nat) (Av : Option Addr) (cv : Nat), p = .pointer (some ⟨ga, 0, none⟩) ∧ Hid (Blk wx ga 37 #[.int .i64 r.a.x0, .int .i64 r.a.y0, .int .i64 r.a.x1, .int .i64 r.a.y1, .slice Av m cv] ∧ wx.ownsRow w1.heap.size 5 1 (.slice Av m cv) m r.m ∧ Below w1.heap.size w1 wx ∧ w1.heap.size ≤ ga))
      case first =>
        have hI : Below w1.heap.size w1 w1.drew := (Below.refl _ _).drew
        refine wp_region_mix (fun V => Below w1.heap.size w1 V) (Mx.qs [0, 1, 2, 4, 5, 6] (.two 3 9 (.two 7 9 (.q 8 (.one 9 (.one 10 .leaf))) (.one 7 (.q 8 (.one 10 .leaf)))) (.one 3 (.one 7 (.q 8 (.one 10 .leaf)))))) (by kernel_rfl) (by kernel_rfl) hI ?_
        simp only [Mx.qs]
        obtain ⟨wd, hwd⟩ : ∃ wd, wd = w1.drew := ⟨_, rfl⟩
        rw [← hwd] at hI ⊢
        clear hwd
        repeat (first
          | (refine MixL.skip (o := ?_) ?_ ?_ ?_; rotate_left; (focus (first | (simp only [List.getElem?_toArray, List.getElem?_cons_succ, List.getElem?_cons_zero]; with_reducible rfl) | (simp only [List.getElem?_toArray, List.getElem?_cons_zero]; with_reducible rfl))); (focus rfl); simp only [Act.put, List.setIfInBounds_toArray, List.set_cons_zero, List.set_cons_succ])
          | (refine MixL.val (o := ?_) (v := ?_) ?_ ?_ ?_ ?_ ?_; rotate_left 2; (focus (first | (simp only [List.getElem?_toArray, List.getElem?_cons_succ, List.getElem?_cons_zero]; with_reducible rfl) | (simp only [List.getElem?_toArray, List.getElem?_cons_zero]; with_reducible rfl))); (focus (intro _ _ h; cases h)); (focus rfl); (focus (intro w' hJ; obtain ⟨d5, d6, d7, d8, d9, dl⟩ := HD.out _ hJ; go_simp <;> with_reducible rfl)); simp only [Act.put, List.setIfInBounds_toArray, List.set_cons_zero, List.set_cons_succ]))
        refine MixL.both ?_ ?_
        · have hI3 := hI.alloc hI.size (.cells #[] 5)
          have own3 := own_newU wd w1.heap.size wd.heap.size hI.size rfl
          refine MixL.does (o := ?_) (v := ?_) (w1 := ?_) ?_ ?_ ?_ ?_ ?_
          rotate_left 3
          (focus (first | (simp only [List.getElem?_toArray, List.getElem?_cons_succ, List.getElem?_cons_zero]; with_reducible rfl) | (simp only [List.getElem?_toArray, List.getElem?_cons_zero]; with_reducible rfl)))
          (focus rfl)
          (focus (go_simp; (constructor <;> with_reducible rfl)))
          (focus (exact hI3))
          simp only [Act.put, List.setIfInBounds_toArray, List.set_cons_zero, List.set_cons_succ]
          refine MixL.both ?_ ?_
          · refine MixL.append (o := ?_) ?_ ?_ (.tmp 50) (.tmp 53) 35 ?_ w1.heap.size 5 i0 (.int .u8 0) 1 1 Try.underlying35 hi hz0 hz1 hz2 rfl (by decide) _ 0 [] ?_ own3 N r.am m r.mc r.m ?_ (HL.out.1.below (hI3.mono HN.out)) (by rw [HL.out.2.2.1, Nat.mul_one]) (fun u hu => by obtain ⟨x, _, hx⟩ := HL.out.2.1 u hu; subst hx; rfl) (by have := HL.out.2.2.2; simp only [maxLen]; omega) (by have := HL.out.2.2.2; omega) hI3.size ?_
            rotate_left 1
            (focus (first | (simp only [List.getElem?_toArray, List.getElem?_cons_succ, List.getElem?_cons_zero]; with_reducible rfl) | (simp only [List.getElem?_toArray, List.getElem?_cons_zero]; with_reducible rfl)))
            (focus rfl)
            (focus rfl)
            (focus rfl)
            (focus rfl)
            intro v w4 own4 hg4
            have hIs := hI.size
            have hI4 := hI3.grown hg4 hI3.size (fun b hb => by have : b = _ := (by simpa [Value.ownBlock] using hb.symm); omega)
            refine ⟨hI4, ?_⟩
            rw [Nat.zero_add, List.nil_append] at own4
            obtain ⟨Av, cv, rfl, _, _⟩ := own_lists own4
            simp only [Act.put, List.setIfInBounds_toArray, List.set_cons_zero, List.set_cons_succ]
            repeat (first
              | (refine MixL.skip (o := ?_) ?_ ?_ ?_; rotate_left; (focus (first | (simp only [List.getElem?_toArray, List.getElem?_cons_succ, List.getElem?_cons_zero]; with_reducible rfl) | (simp only [List.getElem?_toArray, List.getElem?_cons_zero]; with_reducible rfl))); (focus rfl); simp only [Act.put, List.setIfInBounds_toArray, List.set_cons_zero, List.set_cons_succ])
              | (refine MixL.val (o := ?_) (v := ?_) ?_ ?_ ?_ ?_ ?_; rotate_left 2; (focus (first | (simp only [List.getElem?_toArray, List.getElem?_cons_succ, List.getElem?_cons_zero]; with_reducible rfl) | (simp only [List.getElem?_toArray, List.getElem?_cons_zero]; with_reducible rfl))); (focus (intro _ _ h; cases h)); (focus rfl); (focus (intro w' hJ; obtain ⟨d5, d6, d7, d8, d9, dl⟩ := HD.out _ hJ; go_simp <;> with_reducible rfl)); simp only [Act.put, List.setIfInBounds_toArray, List.set_cons_zero, List.set_cons_succ]))
            have hI9 := hI4.alloc hI4.size (.cells #[.int .i64 0, .int .i64 0, .int .i64 0, .int .i64 0, .slice none 0 0] 37)
            refine MixL.does (o := ?_) (v := ?_) (w1 := ?_) ?_ ?_ ?_ ?_ ?_
            rotate_left 3
            (focus (first | (simp only [List.getElem?_toArray, List.getElem?_cons_succ, List.getElem?_cons_zero]; with_reducible rfl) | (simp only [List.getElem?_toArray, List.getElem?_cons_zero]; with_reducible rfl)))
            (focus rfl)
            (focus (go_simp; (constructor <;> with_reducible rfl)))
            (focus (exact hI9))
            simp only [Act.put, List.setIfInBounds_toArray, List.set_cons_zero, List.set_cons_succ]
            have own5 := own_only own4 (Only.of_below (below_a1 w4 (.cells #[.int .i64 0, .int .i64 0, .int .i64 0, .int .i64 0, .slice none 0 0] 37)) []) (fun _ _ h => (nomatch h))
            have K7 := Blk.new w4 37 #[.int .i64 0, .int .i64 0, .int .i64 0, .int .i64 0, .slice none 0 0]
            have hs := below_setRow hI9 hI4.size #[.int .i64 r.a.x0, .int .i64 r.a.y0, .int .i64 r.a.x1, .int .i64 r.a.y1, .slice Av m cv]
            refine MixL.store (o := ?_) (w1 := (w4.alloc (.cells #[.int .i64 0, .int .i64 0, .int .i64 0, .int .i64 0, .slice none 0 0] 37)).setRow w4.heap.size #[.int .i64 r.a.x0, .int .i64 r.a.y0, .int .i64 r.a.x1, .int .i64 r.a.y1, .slice Av m cv]) ?_ ?_ ?_ ?_ ?_
            rotate_left 1
            (focus (first | (simp only [List.getElem?_toArray, List.getElem?_cons_succ, List.getElem?_cons_zero]; with_reducible rfl) | (simp only [List.getElem?_toArray, List.getElem?_cons_zero]; with_reducible rfl)))
            (focus rfl)
            (focus (refine exec_store_row 37 _ _ (by rfl) w4.heap.size #[.int .i64 r.a.x0, .int .i64 r.a.y0, .int .i64 r.a.x1, .int .i64 r.a.y1, .slice Av m cv] (by rfl) (by rfl) 37 #[.int .i64 0, .int .i64 0, .int .i64 0, .int .i64 0, .slice none 0 0] K7 mkInfoL rfl (by simp [Value.oneCell'])))
            (focus (exact hs))
            simp only [Act.put, List.setIfInBounds_toArray, List.set_cons_zero, List.set_cons_succ]
            refine MixL.nil ?_
            go_wp2
            go_meet
            exact ⟨w4.heap.size, Av, cv, rfl, Lib.hid ⟨blk_row K7 _, own_only own5 (only_row (Only.refl _ _) (.inl (by simp)) _ : Only (w4.alloc (.cells #[.int .i64 0, .int .i64 0, .int .i64 0, .int .i64 0, .slice none 0 0] 37)) _ [w4.heap.size]) (fun b hb hm => by simp at hm; subst hm; exact own_ne own5 K7 (by decide) hb), hs, hI4.size⟩⟩
          · have hI9 := hI3.alloc hI3.size (.cells #[.int .i64 0, .int .i64 0, .int .i64 0, .int .i64 0, .slice none 0 0] 37)
            refine MixL.does (o := ?_) (v := ?_) (w1 := ?_) ?_ ?_ ?_ ?_ ?_
            rotate_left 3
            (focus (first | (simp only [List.getElem?_toArray, List.getElem?_cons_succ, List.getElem?_cons_zero]; with_reducible rfl) | (simp only [List.getElem?_toArray, List.getElem?_cons_zero]; with_reducible rfl)))
            (focus rfl)
            (focus (go_simp; (constructor <;> with_reducible rfl)))
            (focus (exact hI9))
            simp only [Act.put, List.setIfInBounds_toArray, List.set_cons_zero, List.set_cons_succ]
            have own9 := own_only own3 (Only.of_below (below_a1 _ (.cells #[.int .i64 0, .int .i64 0, .int .i64 0, .int .i64 0, .slice none 0 0] 37)) []) (fun _ _ h => (nomatch h))
            refine MixL.append (o := ?_) ?_ ?_ (.tmp 50) (.tmp 53) 35 ?_ w1.heap.size 5 i0 (.int .u8 0) 1 1 Try.underlying35 hi hz0 hz1 hz2 rfl (by decide) _ 0 [] ?_ own9 N r.am m r.mc r.m ?_ (HL.out.1.below (hI9.mono HN.out)) (by rw [HL.out.2.2.1, Nat.mul_one]) (fun u hu => by obtain ⟨x, _, hx⟩ := HL.out.2.1 u hu; subst hx; rfl) (by have := HL.out.2.2.2; simp only [maxLen]; omega) (by have := HL.out.2.2.2; omega) hI9.size ?_
            rotate_left 1
            (focus (first | (simp only [List.getElem?_toArray, List.getElem?_cons_succ, List.getElem?_cons_zero]; with_reducible rfl) | (simp only [List.getElem?_toArray, List.getElem?_cons_zero]; with_reducible rfl)))
            (focus rfl)
            (focus rfl)
            (focus rfl)
            (focus rfl)
            intro v w4 own4 hg4
            have hIs := hI.size
            have hI4 := hI9.grown hg4 hI9.size (fun b hb => by have : b = _ := (by simpa [Value.ownBlock] using hb.symm); omega)
            refine ⟨hI4, ?_⟩
            rw [Nat.zero_add, List.nil_append] at own4
            obtain ⟨Av, cv, rfl, _, _⟩ := own_lists own4
            simp only [Act.put, List.setIfInBounds_toArray, List.set_cons_zero, List.set_cons_succ]
            repeat (first
              | (refine MixL.skip (o := ?_) ?_ ?_ ?_; rotate_left; (focus (first | (simp only [List.getElem?_toArray, List.getElem?_cons_succ, List.getElem?_cons_zero]; with_reducible rfl) | (simp only [List.getElem?_toArray, List.getElem?_cons_zero]; with_reducible rfl))); (focus rfl); simp only [Act.put, List.setIfInBounds_toArray, List.set_cons_zero, List.set_cons_succ])
              | (refine MixL.val (o := ?_) (v := ?_) ?_ ?_ ?_ ?_ ?_; rotate_left 2; (focus (first | (simp only [List.getElem?_toArray, List.getElem?_cons_succ, List.getElem?_cons_zero]; with_reducible rfl) | (simp only [List.getElem?_toArray, List.getElem?_cons_zero]; with_reducible rfl))); (focus (intro _ _ h; cases h)); (focus rfl); (focus (intro w' hJ; obtain ⟨d5, d6, d7, d8, d9, dl⟩ := HD.out _ hJ; go_simp <;> with_reducible rfl)); simp only [Act.put, List.setIfInBounds_toArray, List.set_cons_zero, List.set_cons_succ]))
            have own5 := own4
            have hsz : (wd.alloc (.cells #[] 5)).heap.size = wd.heap.size + 1 := sizeA1 _ _
            have K7 := (Blk.new (wd.alloc (.cells #[] 5)) 37 #[.int .i64 0, .int .i64 0, .int .i64 0, .int .i64 0, .slice none 0 0]).grownL hg4 (by simp [Value.ownBlock, hsz])
            rw [hsz] at K7
            have hgs : w1.heap.size ≤ wd.heap.size + 1 := by omega
            have hs := below_setRow hI4 hgs #[.int .i64 r.a.x0, .int .i64 r.a.y0, .int .i64 r.a.x1, .int .i64 r.a.y1, .slice Av m cv]
            refine MixL.store (o := ?_) (w1 := w4.setRow (wd.heap.size + 1) #[.int .i64 r.a.x0, .int .i64 r.a.y0, .int .i64 r.a.x1, .int .i64 r.a.y1, .slice Av m cv]) ?_ ?_ ?_ ?_ ?_
            rotate_left 1
            (focus (first | (simp only [List.getElem?_toArray, List.getElem?_cons_succ, List.getElem?_cons_zero]; with_reducible rfl) | (simp only [List.getElem?_toArray, List.getElem?_cons_zero]; with_reducible rfl)))
            (focus rfl)
            (focus (refine exec_store_row 37 _ _ (by rfl) (wd.heap.size + 1) #[.int .i64 r.a.x0, .int .i64 r.a.y0, .int .i64 r.a.x1, .int .i64 r.a.y1, .slice Av m cv] (by rfl) (by rfl) 37 #[.int .i64 0, .int .i64 0, .int .i64 0, .int .i64 0, .slice none 0 0] K7 mkInfoL rfl (by simp [Value.oneCell'])))
            (focus (exact hs))
            simp only [Act.put, List.setIfInBounds_toArray, List.set_cons_zero, List.set_cons_succ]
            refine MixL.nil ?_
            go_wp2
            go_meet
            exact ⟨(wd.heap.size + 1), Av, cv, rfl, Lib.hid ⟨blk_row K7 _, own_only own5 (only_row (Only.refl _ _) (.inl (by simp)) _ : Only w4 _ [(wd.heap.size + 1)]) (fun b hb hm => by simp at hm; subst hm; exact own_ne own5 K7 (by decide) hb), hs, hgs⟩⟩
        · have hI9 := hI.alloc hI.size (.cells #[.int .i64 0, .int .i64 0, .int .i64 0, .int .i64 0, .slice none 0 0] 37)
          refine MixL.does (o := ?_) (v := ?_) (w1 := ?_) ?_ ?_ ?_ ?_ ?_
          rotate_left 3
          (focus (first | (simp only [List.getElem?_toArray, List.getElem?_cons_succ, List.getElem?_cons_zero]; with_reducible rfl) | (simp only [List.getElem?_toArray, List.getElem?_cons_zero]; with_reducible rfl)))
          (focus rfl)
          (focus (go_simp; (constructor <;> with_reducible rfl)))
          (focus (exact hI9))
          simp only [Act.put, List.setIfInBounds_toArray, List.set_cons_zero, List.set_cons_succ]
          have hI3 := hI9.alloc hI9.size (.cells #[] 5)
          have own3 := own_newU (wd.alloc (.cells #[.int .i64 0, .int .i64 0, .int .i64 0, .int .i64 0, .slice none 0 0] 37)) w1.heap.size (wd.heap.size + 1) hI9.size (sizeA1 _ _).symm
          refine MixL.does (o := ?_) (v := ?_) (w1 := ?_) ?_ ?_ ?_ ?_ ?_
          rotate_left 3
          (focus (first | (simp only [List.getElem?_toArray, List.getElem?_cons_succ, List.getElem?_cons_zero]; with_reducible rfl) | (simp only [List.getElem?_toArray, List.getElem?_cons_zero]; with_reducible rfl)))
          (focus rfl)
          (focus (go_simp; (constructor <;> with_reducible rfl)))
          (focus (exact hI3))
          simp only [Act.put, List.setIfInBounds_toArray, List.set_cons_zero, List.set_cons_succ]
          refine MixL.append (o := ?_) ?_ ?_ (.tmp 50) (.tmp 53) 35 ?_ w1.heap.size 5 i0 (.int .u8 0) 1 1 Try.underlying35 hi hz0 hz1 hz2 rfl (by decide) _ 0 [] ?_ own3 N r.am m r.mc r.m ?_ (HL.out.1.below (hI3.mono HN.out)) (by rw [HL.out.2.2.1, Nat.mul_one]) (fun u hu => by obtain ⟨x, _, hx⟩ := HL.out.2.1 u hu; subst hx; rfl) (by have := HL.out.2.2.2; simp only [maxLen]; omega) (by have := HL.out.2.2.2; omega) hI3.size ?_
          rotate_left 1
          (focus (first | (simp only [List.getElem?_toArray, List.getElem?_cons_succ, List.getElem?_cons_zero]; with_reducible rfl) | (simp only [List.getElem?_toArray, List.getElem?_cons_zero]; with_reducible rfl)))
          (focus rfl)
          (focus rfl)
          (focus rfl)
          (focus rfl)
          intro v w4 own4 hg4
          have hIs := hI.size
          have hI4 := hI3.grown hg4 hI3.size (fun b hb => by have : b = _ := (by simpa [Value.ownBlock] using hb.symm); omega)
          refine ⟨hI4, ?_⟩
          rw [Nat.zero_add, List.nil_append] at own4
          obtain ⟨Av, cv, rfl, _, _⟩ := own_lists own4
          simp only [Act.put, List.setIfInBounds_toArray, List.set_cons_zero, List.set_cons_succ]
          repeat (first
            | (refine MixL.skip (o := ?_) ?_ ?_ ?_; rotate_left; (focus (first | (simp only [List.getElem?_toArray, List.getElem?_cons_succ, List.getElem?_cons_zero]; with_reducible rfl) | (simp only [List.getElem?_toArray, List.getElem?_cons_zero]; with_reducible rfl))); (focus rfl); simp only [Act.put, List.setIfInBounds_toArray, List.set_cons_zero, List.set_cons_succ])
            | (refine MixL.val (o := ?_) (v := ?_) ?_ ?_ ?_ ?_ ?_; rotate_left 2; (focus (first | (simp only [List.getElem?_toArray, List.getElem?_cons_succ, List.getElem?_cons_zero]; with_reducible rfl) | (simp only [List.getElem?_toArray, List.getElem?_cons_zero]; with_reducible rfl))); (focus (intro _ _ h; cases h)); (focus rfl); (focus (intro w' hJ; obtain ⟨d5, d6, d7, d8, d9, dl⟩ := HD.out _ hJ; go_simp <;> with_reducible rfl)); simp only [Act.put, List.setIfInBounds_toArray, List.set_cons_zero, List.set_cons_succ]))
          have own5 := own4
          have K7 := ((Blk.new wd 37 #[.int .i64 0, .int .i64 0, .int .i64 0, .int .i64 0, .slice none 0 0]).below (below_a1 _ (.cells #[] 5))).grownL hg4 (by simp [Value.ownBlock])
          have hs := below_setRow hI4 hI.size #[.int .i64 r.a.x0, .int .i64 r.a.y0, .int .i64 r.a.x1, .int .i64 r.a.y1, .slice Av m cv]
          refine MixL.store (o := ?_) (w1 := w4.setRow wd.heap.size #[.int .i64 r.a.x0, .int .i64 r.a.y0, .int .i64 r.a.x1, .int .i64 r.a.y1, .slice Av m cv]) ?_ ?_ ?_ ?_ ?_
          rotate_left 1
          (focus (first | (simp only [List.getElem?_toArray, List.getElem?_cons_succ, List.getElem?_cons_zero]; with_reducible rfl) | (simp only [List.getElem?_toArray, List.getElem?_cons_zero]; with_reducible rfl)))
          (focus rfl)
          (focus (refine exec_store_row 37 _ _ (by rfl) wd.heap.size #[.int .i64 r.a.x0, .int .i64 r.a.y0, .int .i64 r.a.x1, .int .i64 r.a.y1, .slice Av m cv] (by rfl) (by rfl) 37 #[.int .i64 0, .int .i64 0, .int .i64 0, .int .i64 0, .slice none 0 0] K7 mkInfoL rfl (by simp [Value.oneCell'])))
          (focus (exact hs))
          simp only [Act.put, List.setIfInBounds_toArray, List.set_cons_zero, List.set_cons_succ]
          refine MixL.nil ?_
          go_wp2
          go_meet
          exact ⟨wd.heap.size, Av, cv, rfl, Lib.hid ⟨blk_row K7 _, own_only own5 (only_row (Only.refl _ _) (.inl (by simp)) _ : Only w4 _ [wd.heap.size]) (fun b hb hm => by simp at hm; subst hm; exact own_ne own5 K7 (by decide) hb), hs, hI.size⟩⟩
      case rest =>
        obtain ⟨ga, Av, cv, rfl, HF⟩ := hcut
        have hown := HF.out.2.1
        obtain ⟨Av', cv', hvv, hls, hmc⟩ := own_lists hown
        obtain ⟨rfl, rfl⟩ : Av = Av' ∧ cv = cv' := by simpa using hvv
        have hlo := own_lowL hown
        have hub := own_blkU hown
        have hlt := own_ltL hown
        have s3 := (HS.out.1.toBan (blk (.slice Av m cv)) hlo).bel HF.out.2.2.1
        obtain ⟨bl, hbl⟩ : ∃ bl, bl = blk (.slice Av m cv) := ⟨_, rfl⟩
        rw [← hbl] at hlo hub hlt s3
        have s31 := s3.1
        have PP := @lrput_any (banL bl) N p bud L C r.k hk r.a Av m cv r.m _ s31 HL.out.2.2.1 hls HL.out.2.1 (fun a ha _ => by subst ha; obtain ⟨cs, hcs⟩ := hub a.block (by rw [hbl]; simp [blk, Value.ownBlock]); exact s3.cv.u8 hcs) s3.2.2.2 (fun b hb hm => by have := hlt b hm; omega)
        rw [HE.out.1, HE.out.2.1, HE.out.2.2] at PP
        have K3 := HK.out.below HF.out.2.2.1
        have K7 := HF.out.1
        have t0 := K3.cell 0; have t1 := K3.cell 1; have t2 := K3.cell 2; have t3 := K3.cell 3; have t4 := K3.cell 4; have t5 := K3.cell 5; have t6 := K3.cell 6; have t7 := K3.cell 7; have t8 := K3.cell 8; have t9 := K3.cell 9; have t10 := K3.cell 10; have tl := K3.lt; simp only [List.getElem?_toArray, List.getElem?_cons_succ, List.getElem?_cons_zero] at t0 t1 t2 t3 t4 t5 t6 t7 t8 t9 t10
        have g0 := K7.cell 0; have g1 := K7.cell 1; have g2 := K7.cell 2; have g3 := K7.cell 3; have g4 := K7.cell 4; have gl := K7.lt; simp only [List.getElem?_toArray, List.getElem?_cons_succ, List.getElem?_cons_zero] at g0 g1 g2 g3 g4
        have HO3 := Lib.hid (And.intro hown (And.intro s3 (And.intro hlo (And.intro hub hlt))))
        have HBL := Lib.hid hbl
        clear hown hls hlo hub hlt s3 hvv hmc K3 K7
        go_upto_region 9 with (go_at_call 16; refine (PP).mono ?_; rintro e w4 ⟨C4, rfl, s4, m4⟩)
        have K4 := (HK.out.below HF.out.2.2.1).only m4.1 (HO3.out.2.1.cv.other (HK.out.below HF.out.2.2.1) (by decide) (by decide) (by decide))
        have M4 := HF.out.1.only m4.1 (HO3.out.2.1.cv.other HF.out.1 (by decide) (by decide) (by decide))
        have own4 := own_only HO3.out.1 m4.1 (fun b hb => by rw [← HBL.out] at hb; obtain ⟨cs, hcs⟩ := HO3.out.2.2.2.1 b hb; exact HO3.out.2.1.cv.u8 hcs)
        have rf4 := (HS.out.2.1.below HF.out.2.2.1).mod HO3.out.2.1.cv m4 HO3.out.2.1.2.2.1
        have st4 : @StC (banL bl) N W1 w4 p bud ((r.k, r.a, r.m) :: shrE (bud - (64 + (m : Int))) (dropE r.k L)) C4 := ⟨s4, HO3.out.2.1.2.mod m4⟩
        have HX := Lib.hid (And.intro st4 (And.intro rf4 (And.intro K4 (And.intro M4 own4))))
        have n0 := M4.cell 0; have n1 := M4.cell 1; have n2 := M4.cell 2; have n3 := M4.cell 3; have n4 := M4.cell 4; have nl := M4.lt; simp only [List.getElem?_toArray, List.getElem?_cons_succ, List.getElem?_cons_zero] at n0 n1 n2 n3 n4
        clear s4 m4 K4 M4 own4 rf4 st4 t0 t1 t2 t3 t4 t5 t6 t7 t8 t9 t10 tl g0 g1 g2 g3 g4 gl PP
        go_upto_region 10 with fail
        go_loopw [14] (fun i wr => ∃ (k : Nat) (X : List Value), k ≤ m ∧ i = .int .i64 (k : Nat) ∧ wr.ownsRow w1.heap.size 5 1 (.slice Av m cv) m X ∧ Bytes8 X ∧ Only w4 wr bl) (fun i _ => m - (intOf i).toNat)
        case atStart => exact ⟨0, r.m, Nat.zero_le _, rfl, HX.out.2.2.2.2, HL.out.2.1, Only.refl _ _⟩
        case round =>
          obtain ⟨k, X, hk0, rfl, ho, h8, hon⟩ := hrel
          have HO := Lib.hid (And.intro ho (And.intro h8 hon))
          have M5 := HX.out.2.2.2.1.only hon (by rw [HBL.out]; exact own_ne HX.out.2.2.2.2 HX.out.2.2.2.1 (by decide))
          have n0 := M5.cell 0; have n1 := M5.cell 1; have n2 := M5.cell 2; have n3 := M5.cell 3; have n4 := M5.cell 4; have nl := M5.lt; simp only [List.getElem?_toArray, List.getElem?_cons_succ, List.getElem?_cons_zero] at n0 n1 n2 n3 n4
          by_cases hlt : k < m
          · obtain ⟨g, cap, cur, hv, hg1, hg2, hg3, hg4, hg5, hg6⟩ : ∃ g cap cur, Value.slice Av m cv = .slice (some ⟨g, 0, none⟩) m cap ∧ w1.heap.size ≤ g ∧ wr.heap[g]? = some (.cells cur 5 (0, 0)) ∧ m ≤ cap ∧ cap ≤ maxLen ∧ cur.size = cap * 1 ∧ cur.toList.take (m * 1) = X := by
              rcases ho.2 with h | h
              · omega
              · exact h
            obtain ⟨rfl, rfl⟩ : Av = some ⟨g, 0, none⟩ ∧ cv = cap := by simpa using hv
            have hb : Blk wr g 5 cur := hg2
            have hXl : X.length = m := by have := ho.1; omega
            obtain ⟨d, hd⟩ : ∃ d, X[k]? = some d := ⟨_, List.getElem?_eq_getElem (by omega)⟩
            obtain ⟨x, hx0, rfl⟩ := byteU h8 hd
            have hcell : wr.cell? ⟨g, k, none⟩ = some (.int .u8 x) := by
              rw [hb.cell, ← Array.getElem?_toList]
              rw [← hg6, List.getElem?_take] at hd
              rw [if_pos (by omega)] at hd
              exact hd
            have hfr := hb.frozen k
            have hgl := hb.lt
            clear ho h8 hon hg2 hg6 hb hd M5 hv
            have EW := Lib.hid (wrapS k (by have := HL.out.2.2.2; omega))
            go_wp2
            go_roundw
            case rel =>
              refine ⟨k + 1, X.set k (.int .u8 (((x : Int) + 1) % 256)), by omega, by rw [EW.out], (HO.out.1.stored k _).1, ?_, HO.out.2.2.set (.inl (by rw [HBL.out]; simp [blk, Value.ownBlock])) _⟩
              intro d hd
              rcases List.mem_or_eq_of_mem_set hd with h | rfl
              · exact HO.out.2.1 d h
              · exact ⟨((x + 1) % 256 : Nat), by omega, by simp⟩
            case measure => rw [EW.out]; simp only [intOf]; omega
          · have hu4 : ∀ b ∈ bl, ∃ cs, Blk w4 b 5 cs := fun b hb => own_blkU HX.out.2.2.2.2 b (by rw [← HBL.out]; exact hb)
            have hN4 : ∀ b ∈ bl, N ≤ b := fun b hb => Nat.le_trans HN.out (HO3.out.2.2.1 b hb)
            have s5 := (HX.out.1.onlyBan hon hu4 hN4).unBan
            have rf5 := HX.out.2.1.only hon (fun hb => by obtain ⟨cs, hc⟩ := hu4 _ hb; exact blk_neL hc HX.out.2.1.blk (by decide) rfl) (fun b hb hm => by
              obtain ⟨cs, hc⟩ := hu4 _ hm
              exact own_ne HX.out.2.1.own hc (by decide) hb) hN4
            have K5 := HX.out.2.2.1.only hon (by rw [HBL.out]; exact own_ne HX.out.2.2.2.2 HX.out.2.2.1 (by decide))
            have CKK := fun W => rckmask_any r.a r.am m r.mc W
            rw [HE.out.2.1] at CKK
            have HZ := Lib.hid (And.intro s5 (And.intro rf5 (And.intro K5 trivial)))
            have t0 := K5.cell 0; have t1 := K5.cell 1; have t2 := K5.cell 2; have t3 := K5.cell 3; have t4 := K5.cell 4; have t5 := K5.cell 5; have t6 := K5.cell 6; have t7 := K5.cell 7; have t8 := K5.cell 8; have t9 := K5.cell 9; have t10 := K5.cell 10; have tl := K5.lt; simp only [List.getElem?_toArray, List.getElem?_cons_succ, List.getElem?_cons_zero] at t0 t1 t2 t3 t4 t5 t6 t7 t8 t9 t10
            clear s5 rf5 K5 hu4 hN4 ho h8 hon
            go_upto_region 16 with (go_at_call 15; refine (CKK _).mono ?_; rintro e w6 ⟨rfl, b6⟩)
            have K6 := HZ.out.2.2.1.below b6
            have rf6 := HZ.out.2.1.below b6
            have RP := rput_any W1 w6 N q bud E lv r.k r.a r.am m r.mc r.m rf6 ⟨HS.out.1.1.sum.2.2.1, HS.out.1.1.sum.2.2.2.1⟩ (by rw [HS.out.2.2.1]; exact HS.out.1.1.sum.2.1) HS.out.2.2.2.2 HL.out.2.2.1 (by have := HL.out.2.2.2; omega) HL0.out HL.out.2.1
            rw [show decide (64 + (m : Int) ≤ bud) = true by simpa using HF0.out] at RP
            have HZ6 := Lib.hid (And.intro (HZ.out.1.below b6) rf6)
            clear t0 t1 t2 t3 t4 t5 t6 t7 t8 t9 t10 tl b6 rf6
            have t0 := K6.cell 0; have t1 := K6.cell 1; have t2 := K6.cell 2; have t3 := K6.cell 3; have t4 := K6.cell 4; have t5 := K6.cell 5; have t6 := K6.cell 6; have t7 := K6.cell 7; have t8 := K6.cell 8; have t9 := K6.cell 9; have t10 := K6.cell 10; have tl := K6.lt; simp only [List.getElem?_toArray, List.getElem?_cons_succ, List.getElem?_cons_zero] at t0 t1 t2 t3 t4 t5 t6 t7 t8 t9 t10
            go_wp2_with (go_at_call 26; refine (RP).mono ?_; rintro e w7 ⟨lv7, E7, rfl, r7, e7, o7⟩)
            refine bodyPost_ret (results_tmp rfl _ _ _) rfl ⟨bud, ((r.k, r.a, r.m) :: shrE (bud - (64 + (m : Int))) (dropE r.k L)), rfl, C4, E7, lv7, HZ6.out.1.ref HZ6.out.2.blk HZ6.out.2.low o7, r7, ?_, ?_⟩
            · rw [e7, HS.out.2.2.1, if_pos (by have := HF0.out; omega)]; exact shrE_put HL.out.2.2.1 HF0.out _
            · exact by
                have := shrE_le (dropE r.k L) (bud - (64 + (m : Int))) (by have := HF0.out; omega)
                have e : costE (r.k, r.a, r.m) = 64 + (m : Int) := by unfold costE; rw [← HL.out.2.2.1]
                simp only [sumE, e]; omega

    · have HF0 := Lib.hid hfit
      have HE := Lib.hid (And.intro (show lputB bud r.a m = false by unfold lputB; rw [hc]; simpa using hfit) (And.intro (show chkC r.a m = 0 by unfold chkC; rw [hc]; rfl) (show lputL bud L r.k r.a m r.m = dropE r.k L by unfold lputL; rw [hc, if_pos rfl, if_neg hfit])))
      clear hc hfit
      go_enter Try.func11, Try.ntmps11
      go_upto_region 1 with fail
      rw [← HW1.out]
      go_upto_region 7 with fail
      clear t0 t1 t2 t3 t4 t5 t6 t7 t8 t9 t10 tl
      go_cut [11] from 47 (fun p wx => ∃ (ga : Nat) (Av : Option Addr) (cv : Nat), p = .pointer (some ⟨ga, 0, none⟩) ∧ Hid (Blk wx ga 37 #[.int .i64 r.a.x0, .int .i64 r.a.y0, .int .i64 r.a.x1, .int .i64 r.a.y1, .slice Av m cv] ∧ wx.ownsRow w1.heap.size 5 1 (.slice Av m cv) m r.m ∧ Below w1.heap.size w1 wx ∧ w1.heap.size ≤ ga))
      case first =>
        have hI : Below w1.heap.size w1 w1.drew := (Below.refl _ _).drew
        refine wp_region_mix (fun V => Below w1.heap.size w1 V) (Mx.qs [0, 1, 2, 4, 5, 6] (.two 3 9 (.two 7 9 (.q 8 (.one 9 (.one 10 .leaf))) (.one 7 (.q 8 (.one 10 .leaf)))) (.one 3 (.one 7 (.q 8 (.one 10 .leaf)))))) (by kernel_rfl) (by kernel_rfl) hI ?_
        simp only [Mx.qs]
        obtain ⟨wd, hwd⟩ : ∃ wd, wd = w1.drew := ⟨_, rfl⟩
        rw [← hwd] at hI ⊢
        clear hwd
        repeat (first
          | (refine MixL.skip (o := ?_) ?_ ?_ ?_; rotate_left; (focus (first | (simp only [List.getElem?_toArray, List.getElem?_cons_succ, List.getElem?_cons_zero]; with_reducible rfl) | (simp only [List.getElem?_toArray, List.getElem?_cons_zero]; with_reducible rfl))); (focus rfl); simp only [Act.put, List.setIfInBounds_toArray, List.set_cons_zero, List.set_cons_succ])
          | (refine MixL.val (o := ?_) (v := ?_) ?_ ?_ ?_ ?_ ?_; rotate_left 2; (focus (first | (simp only [List.getElem?_toArray, List.getElem?_cons_succ, List.getElem?_cons_zero]; with_reducible rfl) | (simp only [List.getElem?_toArray, List.getElem?_cons_zero]; with_reducible rfl))); (focus (intro _ _ h; cases h)); (focus rfl); (focus (intro w' hJ; obtain ⟨d5, d6, d7, d8, d9, dl⟩ := HD.out _ hJ; go_simp <;> with_reducible rfl)); simp only [Act.put, List.setIfInBounds_toArray, List.set_cons_zero, List.set_cons_succ]))
        refine MixL.both ?_ ?_
        · have hI3 := hI.alloc hI.size (.cells #[] 5)
          have own3 := own_newU wd w1.heap.size wd.heap.size hI.size rfl
          refine MixL.does (o := ?_) (v := ?_) (w1 := ?_) ?_ ?_ ?_ ?_ ?_
          rotate_left 3
          (focus (first | (simp only [List.getElem?_toArray, List.getElem?_cons_succ, List.getElem?_cons_zero]; with_reducible rfl) | (simp only [List.getElem?_toArray, List.getElem?_cons_zero]; with_reducible rfl)))
          (focus rfl)
          (focus (go_simp; (constructor <;> with_reducible rfl)))
          (focus (exact hI3))
          simp only [Act.put, List.setIfInBounds_toArray, List.set_cons_zero, List.set_cons_succ]
          refine MixL.both ?_ ?_
          · refine MixL.append (o := ?_) ?_ ?_ (.tmp 50) (.tmp 53) 35 ?_ w1.heap.size 5 i0 (.int .u8 0) 1 1 Try.underlying35 hi hz0 hz1 hz2 rfl (by decide) _ 0 [] ?_ own3 N r.am m r.mc r.m ?_ (HL.out.1.below (hI3.mono HN.out)) (by rw [HL.out.2.2.1, Nat.mul_one]) (fun u hu => by obtain ⟨x, _, hx⟩ := HL.out.2.1 u hu; subst hx; rfl) (by have := HL.out.2.2.2; simp only [maxLen]; omega) (by have := HL.out.2.2.2; omega) hI3.size ?_
            rotate_left 1
            (focus (first | (simp only [List.getElem?_toArray, List.getElem?_cons_succ, List.getElem?_cons_zero]; with_reducible rfl) | (simp only [List.getElem?_toArray, List.getElem?_cons_zero]; with_reducible rfl)))
            (focus rfl)
            (focus rfl)
            (focus rfl)
            (focus rfl)
            intro v w4 own4 hg4
            have hIs := hI.size
            have hI4 := hI3.grown hg4 hI3.size (fun b hb => by have : b = _ := (by simpa [Value.ownBlock] using hb.symm); omega)
            refine ⟨hI4, ?_⟩
            rw [Nat.zero_add, List.nil_append] at own4
            obtain ⟨Av, cv, rfl, _, _⟩ := own_lists own4
            simp only [Act.put, List.setIfInBounds_toArray, List.set_cons_zero, List.set_cons_succ]
            repeat (first
              | (refine MixL.skip (o := ?_) ?_ ?_ ?_; rotate_left; (focus (first | (simp only [List.getElem?_toArray, List.getElem?_cons_succ, List.getElem?_cons_zero]; with_reducible rfl) | (simp only [List.getElem?_toArray, List.getElem?_cons_zero]; with_reducible rfl))); (focus rfl); simp only [Act.put, List.setIfInBounds_toArray, List.set_cons_zero, List.set_cons_succ])
              | (refine MixL.val (o := ?_) (v := ?_) ?_ ?_ ?_ ?_ ?_; rotate_left 2; (focus (first | (simp only [List.getElem?_toArray, List.getElem?_cons_succ, List.getElem?_cons_zero]; with_reducible rfl) | (simp only [List.getElem?_toArray, List.getElem?_cons_zero]; with_reducible rfl))); (focus (intro _ _ h; cases h)); (focus rfl); (focus (intro w' hJ; obtain ⟨d5, d6, d7, d8, d9, dl⟩ := HD.out _ hJ; go_simp <;> with_reducible rfl)); simp only [Act.put, List.setIfInBounds_toArray, List.set_cons_zero, List.set_cons_succ]))
            have hI9 := hI4.alloc hI4.size (.cells #[.int .i64 0, .int .i64 0, .int .i64 0, .int .i64 0, .slice none 0 0] 37)
            refine MixL.does (o := ?_) (v := ?_) (w1 := ?_) ?_ ?_ ?_ ?_ ?_
            rotate_left 3
            (focus (first | (simp only [List.getElem?_toArray, List.getElem?_cons_succ, List.getElem?_cons_zero]; with_reducible rfl) | (simp only [List.getElem?_toArray, List.getElem?_cons_zero]; with_reducible rfl)))
            (focus rfl)
            (focus (go_simp; (constructor <;> with_reducible rfl)))
            (focus (exact hI9))
            simp only [Act.put, List.setIfInBounds_toArray, List.set_cons_zero, List.set_cons_succ]
            have own5 := own_only own4 (Only.of_below (below_a1 w4 (.cells #[.int .i64 0, .int .i64 0, .int .i64 0, .int .i64 0, .slice none 0 0] 37)) []) (fun _ _ h => (nomatch h))
            have K7 := Blk.new w4 37 #[.int .i64 0, .int .i64 0, .int .i64 0, .int .i64 0, .slice none 0 0]
            have hs := below_setRow hI9 hI4.size #[.int .i64 r.a.x0, .int .i64 r.a.y0, .int .i64 r.a.x1, .int .i64 r.a.y1, .slice Av m cv]
            refine MixL.store (o := ?_) (w1 := (w4.alloc (.cells #[.int .i64 0, .int .i64 0, .int .i64 0, .int .i64 0, .slice none 0 0] 37)).setRow w4.heap.size #[.int .i64 r.a.x0, .int .i64 r.a.y0, .int .i64 r.a.x1, .int .i64 r.a.y1, .slice Av m cv]) ?_ ?_ ?_ ?_ ?_
            rotate_left 1
            (focus (first | (simp only [List.getElem?_toArray, List.getElem?_cons_succ, List.getElem?_cons_zero]; with_reducible rfl) | (simp only [List.getElem?_toArray, List.getElem?_cons_zero]; with_reducible rfl)))
            (focus rfl)
            (focus (refine exec_store_row 37 _ _ (by rfl) w4.heap.size #[.int .i64 r.a.x0, .int .i64 r.a.y0, .int .i64 r.a.x1, .int .i64 r.a.y1, .slice Av m cv] (by rfl) (by rfl) 37 #[.int .i64 0, .int .i64 0, .int .i64 0, .int .i64 0, .slice none 0 0] K7 mkInfoL rfl (by simp [Value.oneCell'])))
            (focus (exact hs))
            simp only [Act.put, List.setIfInBounds_toArray, List.set_cons_zero, List.set_cons_succ]
            refine MixL.nil ?_
            go_wp2
            go_meet
            exact ⟨w4.heap.size, Av, cv, rfl, Lib.hid ⟨blk_row K7 _, own_only own5 (only_row (Only.refl _ _) (.inl (by simp)) _ : Only (w4.alloc (.cells #[.int .i64 0, .int .i64 0, .int .i64 0, .int .i64 0, .slice none 0 0] 37)) _ [w4.heap.size]) (fun b hb hm => by simp at hm; subst hm; exact own_ne own5 K7 (by decide) hb), hs, hI4.size⟩⟩
          · have hI9 := hI3.alloc hI3.size (.cells #[.int .i64 0, .int .i64 0, .int .i64 0, .int .i64 0, .slice none 0 0] 37)
            refine MixL.does (o := ?_) (v := ?_) (w1 := ?_) ?_ ?_ ?_ ?_ ?_
            rotate_left 3
            (focus (first | (simp only [List.getElem?_toArray, List.getElem?_cons_succ, List.getElem?_cons_zero]; with_reducible rfl) | (simp only [List.getElem?_toArray, List.getElem?_cons_zero]; with_reducible rfl)))
            (focus rfl)
            (focus (go_simp; (constructor <;> with_reducible rfl)))
            (focus (exact hI9))
            simp only [Act.put, List.setIfInBounds_toArray, List.set_cons_zero, List.set_cons_succ]
            have own9 := own_only own3 (Only.of_below (below_a1 _ (.cells #[.int .i64 0, .int .i64 0, .int .i64 0, .int .i64 0, .slice none 0 0] 37)) []) (fun _ _ h => (nomatch h))
            refine MixL.append (o := ?_) ?_ ?_ (.tmp 50) (.tmp 53) 35 ?_ w1.heap.size 5 i0 (.int .u8 0) 1 1 Try.underlying35 hi hz0 hz1 hz2 rfl (by decide) _ 0 [] ?_ own9 N r.am m r.mc r.m ?_ (HL.out.1.below (hI9.mono HN.out)) (by rw [HL.out.2.2.1, Nat.mul_one]) (fun u hu => by obtain ⟨x, _, hx⟩ := HL.out.2.1 u hu; subst hx; rfl) (by have := HL.out.2.2.2; simp only [maxLen]; omega) (by have := HL.out.2.2.2; omega) hI9.size ?_
            rotate_left 1
            (focus (first | (simp only [List.getElem?_toArray, List.getElem?_cons_succ, List.getElem?_cons_zero]; with_reducible rfl) | (simp only [List.getElem?_toArray, List.getElem?_cons_zero]; with_reducible rfl)))
            (focus rfl)
            (focus rfl)
            (focus rfl)
            (focus rfl)
            intro v w4 own4 hg4
            have hIs := hI.size
            have hI4 := hI9.grown hg4 hI9.size (fun b hb => by have : b = _ := (by simpa [Value.ownBlock] using hb.symm); omega)
            refine ⟨hI4, ?_⟩
            rw [Nat.zero_add, List.nil_append] at own4
            obtain ⟨Av, cv, rfl, _, _⟩ := own_lists own4
            simp only [Act.put, List.setIfInBounds_toArray, List.set_cons_zero, List.set_cons_succ]
            repeat (first
              | (refine MixL.skip (o := ?_) ?_ ?_ ?_; rotate_left; (focus (first | (simp only [List.getElem?_toArray, List.getElem?_cons_succ, List.getElem?_cons_zero]; with_reducible rfl) | (simp only [List.getElem?_toArray, List.getElem?_cons_zero]; with_reducible rfl))); (focus rfl); simp only [Act.put, List.setIfInBounds_toArray, List.set_cons_zero, List.set_cons_succ])
              | (refine MixL.val (o := ?_) (v := ?_) ?_ ?_ ?_ ?_ ?_; rotate_left 2; (focus (first | (simp only [List.getElem?_toArray, List.getElem?_cons_succ, List.getElem?_cons_zero]; with_reducible rfl) | (simp only [List.getElem?_toArray, List.getElem?_cons_zero]; with_reducible rfl))); (focus (intro _ _ h; cases h)); (focus rfl); (focus (intro w' hJ; obtain ⟨d5, d6, d7, d8, d9, dl⟩ := HD.out _ hJ; go_simp <;> with_reducible rfl)); simp only [Act.put, List.setIfInBounds_toArray, List.set_cons_zero, List.set_cons_succ]))
            have own5 := own4
            have hsz : (wd.alloc (.cells #[] 5)).heap.size = wd.heap.size + 1 := sizeA1 _ _
            have K7 := (Blk.new (wd.alloc (.cells #[] 5)) 37 #[.int .i64 0, .int .i64 0, .int .i64 0, .int .i64 0, .slice none 0 0]).grownL hg4 (by simp [Value.ownBlock, hsz])
            rw [hsz] at K7
            have hgs : w1.heap.size ≤ wd.heap.size + 1 := by omega
            have hs := below_setRow hI4 hgs #[.int .i64 r.a.x0, .int .i64 r.a.y0, .int .i64 r.a.x1, .int .i64 r.a.y1, .slice Av m cv]
            refine MixL.store (o := ?_) (w1 := w4.setRow (wd.heap.size + 1) #[.int .i64 r.a.x0, .int .i64 r.a.y0, .int .i64 r.a.x1, .int .i64 r.a.y1, .slice Av m cv]) ?_ ?_ ?_ ?_ ?_
            rotate_left 1
            (focus (first | (simp only [List.getElem?_toArray, List.getElem?_cons_succ, List.getElem?_cons_zero]; with_reducible rfl) | (simp only [List.getElem?_toArray, List.getElem?_cons_zero]; with_reducible rfl)))
            (focus rfl)
            (focus (refine exec_store_row 37 _ _ (by rfl) (wd.heap.size + 1) #[.int .i64 r.a.x0, .int .i64 r.a.y0, .int .i64 r.a.x1, .int .i64 r.a.y1, .slice Av m cv] (by rfl) (by rfl) 37 #[.int .i64 0, .int .i64 0, .int .i64 0, .int .i64 0, .slice none 0 0] K7 mkInfoL rfl (by simp [Value.oneCell'])))
            (focus (exact hs))
            simp only [Act.put, List.setIfInBounds_toArray, List.set_cons_zero, List.set_cons_succ]
            refine MixL.nil ?_
            go_wp2
            go_meet
            exact ⟨(wd.heap.size + 1), Av, cv, rfl, Lib.hid ⟨blk_row K7 _, own_only own5 (only_row (Only.refl _ _) (.inl (by simp)) _ : Only w4 _ [(wd.heap.size + 1)]) (fun b hb hm => by simp at hm; subst hm; exact own_ne own5 K7 (by decide) hb), hs, hgs⟩⟩
        · have hI9 := hI.alloc hI.size (.cells #[.int .i64 0, .int .i64 0, .int .i64 0, .int .i64 0, .slice none 0 0] 37)
          refine MixL.does (o := ?_) (v := ?_) (w1 := ?_) ?_ ?_ ?_ ?_ ?_
          rotate_left 3
          (focus (first | (simp only [List.getElem?_toArray, List.getElem?_cons_succ, List.getElem?_cons_zero]; with_reducible rfl) | (simp only [List.getElem?_toArray, List.getElem?_cons_zero]; with_reducible rfl)))
          (focus rfl)
          (focus (go_simp; (constructor <;> with_reducible rfl)))
          (focus (exact hI9))
          simp only [Act.put, List.setIfInBounds_toArray, List.set_cons_zero, List.set_cons_succ]
          have hI3 := hI9.alloc hI9.size (.cells #[] 5)
          have own3 := own_newU (wd.alloc (.cells #[.int .i64 0, .int .i64 0, .int .i64 0, .int .i64 0, .slice none 0 0] 37)) w1.heap.size (wd.heap.size + 1) hI9.size (sizeA1 _ _).symm
          refine MixL.does (o := ?_) (v := ?_) (w1 := ?_) ?_ ?_ ?_ ?_ ?_
          rotate_left 3
          (focus (first | (simp only [List.getElem?_toArray, List.getElem?_cons_succ, List.getElem?_cons_zero]; with_reducible rfl) | (simp only [List.getElem?_toArray, List.getElem?_cons_zero]; with_reducible rfl)))
          (focus rfl)
          (focus (go_simp; (constructor <;> with_reducible rfl)))
          (focus (exact hI3))
          simp only [Act.put, List.setIfInBounds_toArray, List.set_cons_zero, List.set_cons_succ]
          refine MixL.append (o := ?_) ?_ ?_ (.tmp 50) (.tmp 53) 35 ?_ w1.heap.size 5 i0 (.int .u8 0) 1 1 Try.underlying35 hi hz0 hz1 hz2 rfl (by decide) _ 0 [] ?_ own3 N r.am m r.mc r.m ?_ (HL.out.1.below (hI3.mono HN.out)) (by rw [HL.out.2.2.1, Nat.mul_one]) (fun u hu => by obtain ⟨x, _, hx⟩ := HL.out.2.1 u hu; subst hx; rfl) (by have := HL.out.2.2.2; simp only [maxLen]; omega) (by have := HL.out.2.2.2; omega) hI3.size ?_
          rotate_left 1
          (focus (first | (simp only [List.getElem?_toArray, List.getElem?_cons_succ, List.getElem?_cons_zero]; with_reducible rfl) | (simp only [List.getElem?_toArray, List.getElem?_cons_zero]; with_reducible rfl)))
          (focus rfl)
          (focus rfl)
          (focus rfl)
          (focus rfl)
          intro v w4 own4 hg4
          have hIs := hI.size
          have hI4 := hI3.grown hg4 hI3.size (fun b hb => by have : b = _ := (by simpa [Value.ownBlock] using hb.symm); omega)
          refine ⟨hI4, ?_⟩
          rw [Nat.zero_add, List.nil_append] at own4
          obtain ⟨Av, cv, rfl, _, _⟩ := own_lists own4
          simp only [Act.put, List.setIfInBounds_toArray, List.set_cons_zero, List.set_cons_succ]
          repeat (first
            | (refine MixL.skip (o := ?_) ?_ ?_ ?_; rotate_left; (focus (first | (simp only [List.getElem?_toArray, List.getElem?_cons_succ, List.getElem?_cons_zero]; with_reducible rfl) | (simp only [List.getElem?_toArray, List.getElem?_cons_zero]; with_reducible rfl))); (focus rfl); simp only [Act.put, List.setIfInBounds_toArray, List.set_cons_zero, List.set_cons_succ])
            | (refine MixL.val (o := ?_) (v := ?_) ?_ ?_ ?_ ?_ ?_; rotate_left 2; (focus (first | (simp only [List.getElem?_toArray, List.getElem?_cons_succ, List.getElem?_cons_zero]; with_reducible rfl) | (simp only [List.getElem?_toArray, List.getElem?_cons_zero]; with_reducible rfl))); (focus (intro _ _ h; cases h)); (focus rfl); (focus (intro w' hJ; obtain ⟨d5, d6, d7, d8, d9, dl⟩ := HD.out _ hJ; go_simp <;> with_reducible rfl)); simp only [Act.put, List.setIfInBounds_toArray, List.set_cons_zero, List.set_cons_succ]))
          have own5 := own4
          have K7 := ((Blk.new wd 37 #[.int .i64 0, .int .i64 0, .int .i64 0, .int .i64 0, .slice none 0 0]).below (below_a1 _ (.cells #[] 5))).grownL hg4 (by simp [Value.ownBlock])
          have hs := below_setRow hI4 hI.size #[.int .i64 r.a.x0, .int .i64 r.a.y0, .int .i64 r.a.x1, .int .i64 r.a.y1, .slice Av m cv]
          refine MixL.store (o := ?_) (w1 := w4.setRow wd.heap.size #[.int .i64 r.a.x0, .int .i64 r.a.y0, .int .i64 r.a.x1, .int .i64 r.a.y1, .slice Av m cv]) ?_ ?_ ?_ ?_ ?_
          rotate_left 1
          (focus (first | (simp only [List.getElem?_toArray, List.getElem?_cons_succ, List.getElem?_cons_zero]; with_reducible rfl) | (simp only [List.getElem?_toArray, List.getElem?_cons_zero]; with_reducible rfl)))
          (focus rfl)
          (focus (refine exec_store_row 37 _ _ (by rfl) wd.heap.size #[.int .i64 r.a.x0, .int .i64 r.a.y0, .int .i64 r.a.x1, .int .i64 r.a.y1, .slice Av m cv] (by rfl) (by rfl) 37 #[.int .i64 0, .int .i64 0, .int .i64 0, .int .i64 0, .slice none 0 0] K7 mkInfoL rfl (by simp [Value.oneCell'])))
          (focus (exact hs))
          simp only [Act.put, List.setIfInBounds_toArray, List.set_cons_zero, List.set_cons_succ]
          refine MixL.nil ?_
          go_wp2
          go_meet
          exact ⟨wd.heap.size, Av, cv, rfl, Lib.hid ⟨blk_row K7 _, own_only own5 (only_row (Only.refl _ _) (.inl (by simp)) _ : Only w4 _ [wd.heap.size]) (fun b hb hm => by simp at hm; subst hm; exact own_ne own5 K7 (by decide) hb), hs, hI.size⟩⟩
      case rest =>
        obtain ⟨ga, Av, cv, rfl, HF⟩ := hcut
        have hown := HF.out.2.1
        obtain ⟨Av', cv', hvv, hls, hmc⟩ := own_lists hown
        obtain ⟨rfl, rfl⟩ : Av = Av' ∧ cv = cv' := by simpa using hvv
        have hlo := own_lowL hown
        have hub := own_blkU hown
        have hlt := own_ltL hown
        have s3 := (HS.out.1.toBan (blk (.slice Av m cv)) hlo).bel HF.out.2.2.1
        obtain ⟨bl, hbl⟩ : ∃ bl, bl = blk (.slice Av m cv) := ⟨_, rfl⟩
        rw [← hbl] at hlo hub hlt s3
        have s31 := s3.1
        have PP := @lrput_any (banL bl) N p bud L C r.k hk r.a Av m cv r.m _ s31 HL.out.2.2.1 hls HL.out.2.1 (fun a ha _ => by subst ha; obtain ⟨cs, hcs⟩ := hub a.block (by rw [hbl]; simp [blk, Value.ownBlock]); exact s3.cv.u8 hcs) s3.2.2.2 (fun b hb hm => by have := hlt b hm; omega)
        rw [HE.out.1, HE.out.2.1, HE.out.2.2] at PP
        have K3 := HK.out.below HF.out.2.2.1
        have K7 := HF.out.1
        have t0 := K3.cell 0; have t1 := K3.cell 1; have t2 := K3.cell 2; have t3 := K3.cell 3; have t4 := K3.cell 4; have t5 := K3.cell 5; have t6 := K3.cell 6; have t7 := K3.cell 7; have t8 := K3.cell 8; have t9 := K3.cell 9; have t10 := K3.cell 10; have tl := K3.lt; simp only [List.getElem?_toArray, List.getElem?_cons_succ, List.getElem?_cons_zero] at t0 t1 t2 t3 t4 t5 t6 t7 t8 t9 t10
        have g0 := K7.cell 0; have g1 := K7.cell 1; have g2 := K7.cell 2; have g3 := K7.cell 3; have g4 := K7.cell 4; have gl := K7.lt; simp only [List.getElem?_toArray, List.getElem?_cons_succ, List.getElem?_cons_zero] at g0 g1 g2 g3 g4
        have HO3 := Lib.hid (And.intro hown (And.intro s3 (And.intro hlo (And.intro hub hlt))))
        have HBL := Lib.hid hbl
        clear hown hls hlo hub hlt s3 hvv hmc K3 K7
        go_upto_region 9 with (go_at_call 16; refine (PP).mono ?_; rintro e w4 ⟨C4, rfl, s4, m4⟩)
        have K4 := (HK.out.below HF.out.2.2.1).only m4.1 (HO3.out.2.1.cv.other (HK.out.below HF.out.2.2.1) (by decide) (by decide) (by decide))
        have M4 := HF.out.1.only m4.1 (HO3.out.2.1.cv.other HF.out.1 (by decide) (by decide) (by decide))
        have own4 := own_only HO3.out.1 m4.1 (fun b hb => by rw [← HBL.out] at hb; obtain ⟨cs, hcs⟩ := HO3.out.2.2.2.1 b hb; exact HO3.out.2.1.cv.u8 hcs)
        have rf4 := (HS.out.2.1.below HF.out.2.2.1).mod HO3.out.2.1.cv m4 HO3.out.2.1.2.2.1
        have st4 : @StC (banL bl) N W1 w4 p bud (dropE r.k L) C4 := ⟨s4, HO3.out.2.1.2.mod m4⟩
        have HX := Lib.hid (And.intro st4 (And.intro rf4 (And.intro K4 (And.intro M4 own4))))
        have n0 := M4.cell 0; have n1 := M4.cell 1; have n2 := M4.cell 2; have n3 := M4.cell 3; have n4 := M4.cell 4; have nl := M4.lt; simp only [List.getElem?_toArray, List.getElem?_cons_succ, List.getElem?_cons_zero] at n0 n1 n2 n3 n4
        clear s4 m4 K4 M4 own4 rf4 st4 t0 t1 t2 t3 t4 t5 t6 t7 t8 t9 t10 tl g0 g1 g2 g3 g4 gl PP
        go_upto_region 10 with fail
        go_loopw [14] (fun i wr => ∃ (k : Nat) (X : List Value), k ≤ m ∧ i = .int .i64 (k : Nat) ∧ wr.ownsRow w1.heap.size 5 1 (.slice Av m cv) m X ∧ Bytes8 X ∧ Only w4 wr bl) (fun i _ => m - (intOf i).toNat)
        case atStart => exact ⟨0, r.m, Nat.zero_le _, rfl, HX.out.2.2.2.2, HL.out.2.1, Only.refl _ _⟩
        case round =>
          obtain ⟨k, X, hk0, rfl, ho, h8, hon⟩ := hrel
          have HO := Lib.hid (And.intro ho (And.intro h8 hon))
          have M5 := HX.out.2.2.2.1.only hon (by rw [HBL.out]; exact own_ne HX.out.2.2.2.2 HX.out.2.2.2.1 (by decide))
          have n0 := M5.cell 0; have n1 := M5.cell 1; have n2 := M5.cell 2; have n3 := M5.cell 3; have n4 := M5.cell 4; have nl := M5.lt; simp only [List.getElem?_toArray, List.getElem?_cons_succ, List.getElem?_cons_zero] at n0 n1 n2 n3 n4
          by_cases hlt : k < m
          · obtain ⟨g, cap, cur, hv, hg1, hg2, hg3, hg4, hg5, hg6⟩ : ∃ g cap cur, Value.slice Av m cv = .slice (some ⟨g, 0, none⟩) m cap ∧ w1.heap.size ≤ g ∧ wr.heap[g]? = some (.cells cur 5 (0, 0)) ∧ m ≤ cap ∧ cap ≤ maxLen ∧ cur.size = cap * 1 ∧ cur.toList.take (m * 1) = X := by
              rcases ho.2 with h | h
              · omega
              · exact h
            obtain ⟨rfl, rfl⟩ : Av = some ⟨g, 0, none⟩ ∧ cv = cap := by simpa using hv
            have hb : Blk wr g 5 cur := hg2
            have hXl : X.length = m := by have := ho.1; omega
            obtain ⟨d, hd⟩ : ∃ d, X[k]? = some d := ⟨_, List.getElem?_eq_getElem (by omega)⟩
            obtain ⟨x, hx0, rfl⟩ := byteU h8 hd
            have hcell : wr.cell? ⟨g, k, none⟩ = some (.int .u8 x) := by
              rw [hb.cell, ← Array.getElem?_toList]
              rw [← hg6, List.getElem?_take] at hd
              rw [if_pos (by omega)] at hd
              exact hd
            have hfr := hb.frozen k
            have hgl := hb.lt
            clear ho h8 hon hg2 hg6 hb hd M5 hv
            have EW := Lib.hid (wrapS k (by have := HL.out.2.2.2; omega))
            go_wp2
            go_roundw
            case rel =>
              refine ⟨k + 1, X.set k (.int .u8 (((x : Int) + 1) % 256)), by omega, by rw [EW.out], (HO.out.1.stored k _).1, ?_, HO.out.2.2.set (.inl (by rw [HBL.out]; simp [blk, Value.ownBlock])) _⟩
              intro d hd
              rcases List.mem_or_eq_of_mem_set hd with h | rfl
              · exact HO.out.2.1 d h
              · exact ⟨((x + 1) % 256 : Nat), by omega, by simp⟩
            case measure => rw [EW.out]; simp only [intOf]; omega
          · have hu4 : ∀ b ∈ bl, ∃ cs, Blk w4 b 5 cs := fun b hb => own_blkU HX.out.2.2.2.2 b (by rw [← HBL.out]; exact hb)
            have hN4 : ∀ b ∈ bl, N ≤ b := fun b hb => Nat.le_trans HN.out (HO3.out.2.2.1 b hb)
            have s5 := (HX.out.1.onlyBan hon hu4 hN4).unBan
            have rf5 := HX.out.2.1.only hon (fun hb => by obtain ⟨cs, hc⟩ := hu4 _ hb; exact blk_neL hc HX.out.2.1.blk (by decide) rfl) (fun b hb hm => by
              obtain ⟨cs, hc⟩ := hu4 _ hm
              exact own_ne HX.out.2.1.own hc (by decide) hb) hN4
            have K5 := HX.out.2.2.1.only hon (by rw [HBL.out]; exact own_ne HX.out.2.2.2.2 HX.out.2.2.1 (by decide))
            have CKK := fun W => rckmask_any r.a r.am m r.mc W
            rw [HE.out.2.1] at CKK
            have HZ := Lib.hid (And.intro s5 (And.intro rf5 (And.intro K5 trivial)))
            have t0 := K5.cell 0; have t1 := K5.cell 1; have t2 := K5.cell 2; have t3 := K5.cell 3; have t4 := K5.cell 4; have t5 := K5.cell 5; have t6 := K5.cell 6; have t7 := K5.cell 7; have t8 := K5.cell 8; have t9 := K5.cell 9; have t10 := K5.cell 10; have tl := K5.lt; simp only [List.getElem?_toArray, List.getElem?_cons_succ, List.getElem?_cons_zero] at t0 t1 t2 t3 t4 t5 t6 t7 t8 t9 t10
            clear s5 rf5 K5 hu4 hN4 ho h8 hon
            go_upto_region 16 with (go_at_call 15; refine (CKK _).mono ?_; rintro e w6 ⟨rfl, b6⟩)
            have K6 := HZ.out.2.2.1.below b6
            have rf6 := HZ.out.2.1.below b6
            have RP := rput_any W1 w6 N q bud E lv r.k r.a r.am m r.mc r.m rf6 ⟨HS.out.1.1.sum.2.2.1, HS.out.1.1.sum.2.2.2.1⟩ (by rw [HS.out.2.2.1]; exact HS.out.1.1.sum.2.1) HS.out.2.2.2.2 HL.out.2.2.1 (by have := HL.out.2.2.2; omega) HL0.out HL.out.2.1
            rw [show decide (64 + (m : Int) ≤ bud) = false by simpa using HF0.out] at RP
            have HZ6 := Lib.hid (And.intro (HZ.out.1.below b6) rf6)
            clear t0 t1 t2 t3 t4 t5 t6 t7 t8 t9 t10 tl b6 rf6
            have t0 := K6.cell 0; have t1 := K6.cell 1; have t2 := K6.cell 2; have t3 := K6.cell 3; have t4 := K6.cell 4; have t5 := K6.cell 5; have t6 := K6.cell 6; have t7 := K6.cell 7; have t8 := K6.cell 8; have t9 := K6.cell 9; have t10 := K6.cell 10; have tl := K6.lt; simp only [List.getElem?_toArray, List.getElem?_cons_succ, List.getElem?_cons_zero] at t0 t1 t2 t3 t4 t5 t6 t7 t8 t9 t10
            go_wp2_with (go_at_call 26; refine (RP).mono ?_; rintro e w7 ⟨lv7, E7, rfl, r7, e7, o7⟩)
            refine bodyPost_ret (results_tmp rfl _ _ _) rfl ⟨bud, (dropE r.k L), rfl, C4, E7, lv7, HZ6.out.1.ref HZ6.out.2.blk HZ6.out.2.low o7, r7, ?_, ?_⟩
            · rw [e7, HS.out.2.2.1, if_neg (by have := HF0.out; omega)]
            · exact Int.le_trans (dropE_sum r.k L) HS.out.2.2.2.1

end Go.Proofs.Ytaaboochologaaa
