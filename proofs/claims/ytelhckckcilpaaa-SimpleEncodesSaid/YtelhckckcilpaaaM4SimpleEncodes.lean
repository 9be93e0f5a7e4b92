/- Part 20 of the proof: SpRh. -/
import Derived.Test.YtelhckckcilpaaaM3SimpleEncodes

namespace Go.Proofs.Ytelhckckcilpaaa
open Go Go.RowKit
set_option linter.unusedVariables false
set_option linter.unusedSimpArgs false

/-- Three rows of bytes, apart from each other. -/
structure R3 (base : Nat) (W : World) (fv xv yv : Value) (nf nx ny : Nat) (F X Y : List Value) : Prop where
  f : W.ownsRow base 5 1 fv nf F
  x : W.ownsRow base 5 1 xv nx X
  y : W.ownsRow base 5 1 yv ny Y
  fx : ∀ b ∈ blk fv, b ∉ blk xv
  fy : ∀ b ∈ blk fv, b ∉ blk yv
  xy : ∀ b ∈ blk xv, b ∉ blk yv
theorem R3.below {base : Nat} {W W1 : World} {fv xv yv : Value} {nf nx ny : Nat} {F X Y : List Value} (h : R3 base W fv xv yv nf nx ny F X Y) (b : Below W.heap.size W W1) : R3 base W1 fv xv yv nf nx ny F X Y :=
  ⟨ownS_stay h.f b, ownS_stay h.x b, ownS_stay h.y b, h.fx, h.fy, h.xy⟩
theorem blk_of {v v' : Value} {k : Nat} (hat : v'.ownBlock = v.ownBlock ∨ v'.ownBlock = some k) : ∀ b ∈ blk v', b ∈ blk v ∨ b = k := by
  intro b hb
  unfold blk at hb ⊢
  rcases hat with h | h
  · rw [h] at hb; exact .inl hb
  · rw [h] at hb; simp at hb; exact .inr hb
theorem R3.push1 {base : Nat} {W W1 : World} {fv xv yv v : Value} {nf nx ny n : Nat} {F X Y F1 : List Value} (h : R3 base W fv xv yv nf nx ny F X Y) (own : W1.ownsRow base 5 1 v n F1) (hg : W.grownBy W1 fv.ownBlock) (hat : v.ownBlock = fv.ownBlock ∨ v.ownBlock = some W.heap.size) : R3 base W1 v xv yv n nx ny F1 X Y := by
  have o : Only W W1 (blk fv) := (Only.refl W (blk fv)).grown hg (fun b hb => .inl (by have h9 : fv.ownBlock = some b := hb; unfold blk; rw [h9]; simp))
  refine ⟨own, own_only h.x o (fun b hb hm => h.fx b hm hb), own_only h.y o (fun b hb hm => h.fy b hm hb), fun b hb hm => ?_, fun b hb hm => ?_, h.xy⟩
  · rcases blk_of hat b hb with h1 | h1
    · exact h.fx b h1 hm
    · have := blk_lt h.x b hm; omega
  · rcases blk_of hat b hb with h1 | h1
    · exact h.fy b h1 hm
    · have := blk_lt h.y b hm; omega
theorem R3.push2 {base : Nat} {W W1 : World} {fv xv yv v : Value} {nf nx ny n : Nat} {F X Y F1 : List Value} (h : R3 base W fv xv yv nf nx ny F X Y) (own : W1.ownsRow base 5 1 v n F1) (hg : W.grownBy W1 xv.ownBlock) (hat : v.ownBlock = xv.ownBlock ∨ v.ownBlock = some W.heap.size) : R3 base W1 fv v yv nf n ny F F1 Y := by
  have o : Only W W1 (blk xv) := (Only.refl W (blk xv)).grown hg (fun b hb => .inl (by have h9 : xv.ownBlock = some b := hb; unfold blk; rw [h9]; simp))
  refine ⟨own_only h.f o (fun b hb hm => h.fx b hb hm), own, own_only h.y o (fun b hb hm => h.xy b hm hb), fun b hb hm => ?_, h.fy, fun b hb hm => ?_⟩
  · rcases blk_of hat b hm with h1 | h1
    · exact h.fx b hb h1
    · have := blk_lt h.f b hb; omega
  · rcases blk_of hat b hb with h1 | h1
    · exact h.xy b h1 hm
    · have := blk_lt h.y b hm; omega
theorem R3.push3 {base : Nat} {W W1 : World} {fv xv yv v : Value} {nf nx ny n : Nat} {F X Y F1 : List Value} (h : R3 base W fv xv yv nf nx ny F X Y) (own : W1.ownsRow base 5 1 v n F1) (hg : W.grownBy W1 yv.ownBlock) (hat : v.ownBlock = yv.ownBlock ∨ v.ownBlock = some W.heap.size) : R3 base W1 fv xv v nf nx n F X F1 := by
  have o : Only W W1 (blk yv) := (Only.refl W (blk yv)).grown hg (fun b hb => .inl (by have h9 : yv.ownBlock = some b := hb; unfold blk; rw [h9]; simp))
  refine ⟨own_only h.f o (fun b hb hm => h.fy b hb hm), own_only h.x o (fun b hb hm => h.xy b hb hm), own, h.fx, fun b hb hm => ?_, fun b hb hm => ?_⟩
  · rcases blk_of hat b hm with h1 | h1
    · exact h.fy b hb h1
    · have := blk_lt h.f b hb; omega
  · rcases blk_of hat b hm with h1 | h1
    · exact h.xy b hb h1
    · have := blk_lt h.x b hb; omega
theorem R3.low {base : Nat} {W : World} {fv xv yv : Value} {nf nx ny : Nat} {F X Y : List Value} (h : R3 base W fv xv yv nf nx ny F X Y) : (∀ b ∈ blk fv ++ (blk xv ++ blk yv), base ≤ b ∧ b < W.heap.size) := by
  intro b hb
  rcases List.mem_append.1 hb with hb | hb
  · exact ⟨sp_low h.f b hb, blk_lt h.f b hb⟩
  · rcases List.mem_append.1 hb with hb | hb
    · exact ⟨sp_low h.x b hb, blk_lt h.x b hb⟩
    · exact ⟨sp_low h.y b hb, blk_lt h.y b hb⟩
/-- The writer, beside the three rows and a box. -/
structure TWr (w0 : World) (q base bx : Nat) (K : List Nat) (fv xv yv : Value) (nf nx ny : Nat) (F X Y : List Value) (bc : Array Value) (L : List Value) (W : World) : Prop where
  wr : RWK w0 W q 1048576 L K
  lt : ∀ b ∈ K, b < W.heap.size
  rows : R3 base W fv xv yv nf nx ny F X Y
  kept : ∀ b ∈ blk fv ++ (blk xv ++ blk yv), b ∈ K
  box : Blk W bx 68 bc
  bxk : bx ∈ K
theorem TWr.put {w0 w' W : World} {q base bx nf nx ny : Nat} {K : List Nat} {fv xv yv : Value} {F X Y L E : List Value} {bc : Array Value} (h : TWr w0 q base bx K fv xv yv nf nx ny F X Y bc L W) (r : RWK w0 w' q 1048576 (L ++ E) K) (hk : ∀ b ∈ K, w'.heap[b]? = W.heap[b]?) (hs : W.heap.size ≤ w'.heap.size) : TWr w0 q base bx K fv xv yv nf nx ny F X Y bc (L ++ E) w' :=
  ⟨r, fun b hb => Nat.lt_of_lt_of_le (h.lt b hb) hs, ⟨own_kept h.rows.f hk (fun b hb => h.kept b (by simp [hb])), own_kept h.rows.x hk (fun b hb => h.kept b (by simp [hb])), own_kept h.rows.y hk (fun b hb => h.kept b (by simp [hb])), h.rows.fx, h.rows.fy, h.rows.xy⟩, h.kept, (hk bx h.bxk).trans h.box, h.bxk⟩
theorem TWr.below {w0 W1 W : World} {q base bx nf nx ny : Nat} {K : List Nat} {fv xv yv : Value} {F X Y L : List Value} {bc : Array Value} (h : TWr w0 q base bx K fv xv yv nf nx ny F X Y bc L W) (b : Below W.heap.size W W1) : TWr w0 q base bx K fv xv yv nf nx ny F X Y bc L W1 :=
  ⟨h.wr.below b, fun x hx => Nat.lt_of_lt_of_le (h.lt x hx) b.size, h.rows.below b, h.kept, h.box.below b, h.bxk⟩
theorem TWr.u2 {w0 W : World} {q base bx nf nx ny : Nat} {K : List Nat} {fv xv yv : Value} {F X Y L : List Value} {bc : Array Value} (h : TWr w0 q base bx K fv xv yv nf nx ny F X Y bc L W) (x : Int) (hl : L.length + 2 ≤ 1048576) :
    Calls Try.prog 50 #[.pointer (some ⟨q, 0, none⟩), .int .i64 2, .int .i64 x] W fun e w' => e = .returned (.tuple #[]) ∧ TWr w0 q base bx K fv xv yv nf nx ny F X Y bc (L ++ be2 x) w' :=
  (rwk_u2 w0 W q 1048576 L K x h.wr h.lt hl (by omega)).mono fun e w' ⟨a, b, c, d⟩ => ⟨a, h.put b c d⟩
theorem TWr.data {w0 W : World} {q base bx nf nx ny : Nat} {K : List Nat} {fv xv yv : Value} {F X Y L : List Value} {bc : Array Value} (h : TWr w0 q base bx K fv xv yv nf nx ny F X Y bc L W) (A : Option Addr) (m c : Nat) (E : List Value) (hE : Lists W W.heap.size A E) (hm : E.length = m) (h8 : Bytes8 E) (hl : L.length + m ≤ 1048576) :
    Calls Try.prog 54 #[.pointer (some ⟨q, 0, none⟩), .slice A m c] W fun e w' => e = .returned (.tuple #[]) ∧ TWr w0 q base bx K fv xv yv nf nx ny F X Y bc (L ++ E) w' :=
  (rwk_data w0 W q 1048576 L K A m c E h.wr h.lt hE hm h8 hl (by omega)).mono fun e w' ⟨a, b, c, d⟩ => ⟨a, h.put b c d⟩
theorem tw_start {w w2 wr w3 : World} {q base n lx ly : Nat} {fv xv yv : Value} {F X Y L : List Value} {bc : Array Value} (hbes : ∀ (K : List Nat) (w1 : World), Below w2.heap.size w2 w1 → (∀ b ∈ K, base ≤ b) → RWK w w1 q 1048576 L K) (hbase : base = w2.heap.size) (hb : Below w2.heap.size w2 wr) (r3 : R3 w2.heap.size wr fv xv yv n lx ly F X Y) (b3 : Below wr.heap.size wr w3) :
    TWr w q w2.heap.size w3.heap.size (w3.heap.size :: (blk fv ++ (blk xv ++ blk yv))) fv xv yv n lx ly F X Y bc L (w3.alloc (.cells bc 68)) := by
  have b4 := (hb.trans (b3.mono hb.size))
  have r4 := (r3.below b3).below (below_a1 w3 (.cells bc 68))
  refine ⟨hbes _ _ (b4.trans ((below_a1 w3 _).mono b4.size)) (fun b hm => ?_), fun b hm => ?_, r4, fun b hm => by simp [hm], Blk.new _ _ _, by simp⟩
  · rcases List.mem_cons.1 hm with rfl | hm
    · have := b4.size; omega
    · have := (r4.low b hm).1; omega
  · rcases List.mem_cons.1 hm with rfl | hm
    · simp
    · exact (r4.low b hm).2
theorem wrap_nat (n : Nat) (h : n ≤ 100000) : wrap64 (n : Int) = (n : Int) := by unfold wrap64; omega
theorem wrap_nati (n : Nat) (h : n ≤ 100000) : IntKind.i64.wrap (n : Int) = (n : Int) := IntWalk.i64_in _ (by omega)
theorem pfE_step {F : List Nat} {z j f r : Nat} (hf : F[z]? = some f) (hr : runL (f : Int) (iF (F.drop z)) = r) (h1 : 1 ≤ r) : pfE (j + 1) (iF (F.drop z)) = (if r = 1 then be1 (f : Nat) else be1 (bits .or .i64 (f : Nat) 8) ++ be1 ((r : Nat) - 1 : Int)) ++ pfE j (iF (F.drop (z + r))) := by
  obtain ⟨h2, h3⟩ := List.getElem?_eq_some_iff.1 hf
  have e : F.drop z = f :: F.drop (z + 1) := by rw [List.drop_eq_getElem_cons h2, h3]
  have e2 : iF (F.drop z) = (f : Int) :: iF (F.drop (z + 1)) := by rw [e]; rfl
  have e3 : ((f : Int) :: iF (F.drop (z + 1))).drop r = iF (F.drop (z + r)) := by
    rw [← e2]; unfold iF
    rw [← List.map_drop, List.drop_drop]
  rw [e2] at hr ⊢
  rw [pfE, hr, e3]
set_option maxRecDepth 100000 in
theorem or8u : ∀ f : Nat, f < 256 → bt f 3 = false → bits .or .u8 (f : Int) 8 = ((f + 8 : Nat) : Int) := by
  have key : ∀ f : Fin 256, bt f.1 3 = false → bits .or .u8 (f.1 : Int) 8 = ((f.1 + 8 : Nat) : Int) := by decide
  exact fun f hf h3 => key ⟨f, hf⟩ h3
theorem b8_two (a b : Nat) (ha : a < 256) (hb : b < 256) : Bytes8 [.int .u8 (a : Int), .int .u8 (b : Int)] := fun u hu => by
  simp at hu
  rcases hu with rfl | rfl
  · exact ⟨a, ha, rfl⟩
  · exact ⟨b, hb, rfl⟩
theorem spslice_ok8 (A : Option Addr) (n c a b : Nat) (h1 : a ≤ b) (h2 : b ≤ c) (h3 : a < c) (w : World) : (Instr.sliceAt 22 (.slice A n c) (some (.int .i64 (a : Nat))) (some (.int .i64 (b : Nat))) none).run Try.prog w = .ok (.slice (A.map (·.add a)) (b - a) (c - a)) w := by
  have hu := Try.underlying22
  have hz := Try.sizeOf5
  have i2 : (a : Int) ≤ (b : Int) := by omega
  have i3 : (0 : Int) ≤ (a : Int) := by omega
  have i4 : (b : Int) ≤ (c : Int) := by omega
  have i5 : ¬ (c = a) := by omega
  simp [Instr.sliceAt, Instr.slice, Instr.sliceBounds, Instr.sliceBound, run_underlying hu, Sem.run_bind, Sem.run_pure, Result.andThen, asIntOf, hz, i2, i3, i4, i5, h1, h2]
/-- What the reference's Encode answers. -/
def RncP (w : World) (R : Int × List Value) (e : Ending) (w' : World) : Prop := ∃ A c, e = .returned (.tuple #[.slice A R.2.length c, .int .i64 R.1]) ∧ Lists w' w'.heap.size A R.2 ∧ Below w.heap.size w w'
theorem RncP.no {w w' : World} {R : Int × List Value} {z : Int} (h : R = (z, [])) (b : Below w.heap.size w w') : RncP w R (.returned (.tuple #[.slice none 0 0, .int .i64 z])) w' := by
  subst h; exact ⟨none, 0, rfl, Lists.empty _ _ _, b⟩
theorem RncP.yes {w w' : World} {R : Int × List Value} {L : List Value} {A : Option Addr} {c : Nat} (h : R = (0, L)) (hl : Lists w' w'.heap.size A L) (b : Below w.heap.size w w') : RncP w R (.returned (.tuple #[.slice A L.length c, .int .i64 0])) w' := by
  subst h; exact ⟨A, c, rfl, hl, b⟩
theorem or_zero (x y : Int) : bits .or .i64 ((sbE 2 16 x + sbE 4 32 y : Nat) : Int) 0 = ((sbE 2 16 x + sbE 4 32 y : Nat) : Int) := by
  rcases sb_cases 2 16 x with h | h | h | h <;> rcases sb_cases 4 32 y with k | k | k | k <;> (rw [h, k]; rfl)
theorem or_fg (x y k : Int) (hk : k = 1 ∨ k = 2) : bits .or .i64 (bits .or .i64 ((sbE 2 16 x : Nat) : Int) ((sbE 4 32 y : Nat) : Int)) (bits .and .i64 k 1) = ((fgE x y k : Nat) : Int) := by
  rw [or_xy]
  unfold fgE
  rcases hk with rfl | rfl
  · rw [show bits .and .i64 1 1 = (1 : Int) from rfl, or_one, if_pos rfl]
  · rw [show bits .and .i64 2 1 = (0 : Int) from rfl, or_zero, if_neg (by decide)]
set_option maxRecDepth 100000 in
theorem renc_chk (A : Option Addr) (c : Nat) (Ls : List (List Pt)) (w : World) (h : OutAt w w.heap.size A Ls) (hs : Sm Ls) (hc : chkE Ls ≠ 0) : Calls Try.prog 15 #[.slice A Ls.length c] w (RncP w (chkE Ls, [])) := by
  have C1 := rcheck_any _ A c Ls w (Nat.le_refl _) h hs
  rw [chk_same] at C1
  generalize Ls.length = m at *
  generalize chkE Ls = r at *
  have d1 : (r != 0) = true := by simpa using hc
  have d2 : (r == 0) = false := by simpa using hc
  clear h hs hc
  go_enter Try.func15, Try.ntmps15
  go_wp2_with (first | (go_at_call 49; ((with_reducible refine (C1).mono ?_); rintro e w1 ⟨rfl, b1⟩)))
  go_ret2
  exact RncP.no rfl b1
set_option maxRecDepth 100000 in
theorem renc_nil (A : Option Addr) (c : Nat) (w : World) (h : OutAt w w.heap.size A []) : Calls Try.prog 15 #[.slice A 0 c] w (RncP w (0, [])) := by
  have C1 := rcheck_any _ A c [] w (Nat.le_refl _) h ⟨Nat.zero_le _, fun L hL => by simp at hL⟩
  rw [chk_same, show chkE [] = 0 by decide, List.length_nil] at C1
  clear h
  go_enter Try.func15, Try.ntmps15
  go_wp2_with (first | (go_at_call 49; ((with_reducible refine (C1).mono ?_); rintro e w1 ⟨rfl, b1⟩)))
  go_ret2
  exact RncP.no rfl b1
set_option maxRecDepth 100000 in
set_option maxHeartbeats 8000000 in
theorem renc_ne (A : Option Addr) (c : Nat) (Ls : List (List Pt)) (w : World) (h : OutAt w w.heap.size A Ls) (hs : Sm Ls) (hc : chkE Ls = 0) (hne : Ls ≠ []) : Calls Try.prog 15 #[.slice A Ls.length c] w (RncP w (encS Ls)) := by
  have C1 := rcheck_any _ A c Ls w (Nat.le_refl _) h hs
  rw [chk_same, hc] at C1
  have CH := fun (W : World) (hb : Below w.heap.size w W) => rhullO_any w.heap.size A c Ls W hb.size (h.below hb) hs hc
  have hE := encS_rE hc hne
  obtain ⟨RS0, hRS0⟩ : ∃ RS0, RS0 = encS Ls := ⟨_, rfl⟩
  obtain ⟨RE, hRE⟩ : ∃ RE, RE = rE Ls.flatten 0 0 := ⟨_, rfl⟩
  rw [← hRS0] at hE ⊢
  rw [← hRE] at hE
  obtain ⟨cc1, cc2, cc3⟩ := chk_zero hc
  have hbd := fair_bd hc
  have hk3 : ∀ p ∈ Ls.flatten, isCub p = false → p.2.2 = 1 ∨ p.2.2 = 2 := fun p hp hcu => by
    obtain ⟨L, hL, hpL⟩ := List.mem_flatten.1 hp
    have h1 := cc3 L hL
    unfold mayC at h1
    rw [Bool.and_eq_true, allI_true] at h1
    obtain ⟨j, hj⟩ := List.getElem?_of_mem hpL
    have h2 := h1.2 j p hj
    unfold isCub at hcu
    have h4 : ¬ p.2.2 = 3 := by simpa using hcu
    unfold okA okP at h2
    simp at h2
    omega
  obtain ⟨P, hP⟩ : ∃ P, P = Ls.flatten := ⟨_, rfl⟩
  obtain ⟨m, hm⟩ : ∃ m, m = Ls.length := ⟨_, rfl⟩
  have hm1 : 1 ≤ m := by rw [hm]; exact List.length_pos_iff.2 hne
  have hPn : P.length ≤ 4096 := by rw [hP, cntO_flat]; exact cc2
  rw [← hP] at hbd hk3 hRE
  rw [← hm] at C1 CH cc1 ⊢
  have HQ0 := Lib.hid (show GQ RE P (Ls.take 0).flatten (Ls.drop 0).flatten [] [] 0 0 from ⟨by rw [hRE, List.drop_zero, ← hP]; cases rE P 0 0 <;> rfl, by rw [List.take_zero, List.drop_zero]; simpa using hP, rfl, rfl, by omega, by omega⟩)
  have HNO := Lib.hid (fun (hr : RE = none) => show RS0 = (1, []) by rw [hE, hr])
  have HYES := Lib.hid (fun X Y (hr : RE = some (X, Y)) => show RS0 = (0, spB Ls X Y) by rw [hE, hr])
  have HW := Lib.hid h
  have HM := Lib.hid hm
  have HS := Lib.hid hs
  have HC := Lib.hid hc
  have HP := Lib.hid hP
  have HBD := Lib.hid hbd
  have HK3 := Lib.hid hk3
  have HPN := Lib.hid hPn
  have HRE := Lib.hid hRE
  have d0 : ((m : Int) == 0) = false := by simp; omega
  obtain ⟨i0, hi, hz0, hz1, hz2⟩ := info_parts1 u8Info
  clear h hs hc hne hE hRS0 hRE cc2 cc3 hbd hk3 hP hm hPn
  go_enter Try.func15, Try.ntmps15
  go_wp2_with (first
    | (go_at_call 49; ((with_reducible refine (C1).mono ?_); rintro e w1 ⟨rfl, b1⟩; have r1 : RWK w (w1.alloc (.cells #[.slice none 0 0, .int .i64 1048576, .bool false] 81)) w1.heap.size 1048576 [] [] := rwk_new w w1 1048576 b1))
    | (go_at_call 50; ((with_reducible refine (rwk_u2 w _ w1.heap.size 1048576 [] [] (m : Nat) r1 (by simp) (by simp) (by omega)).mono ?_); rintro e w2 ⟨rfl, r2, _, s2⟩)))
  rw [List.nil_append] at r2
  have B2 := r2.old
  obtain ⟨base, hbase, hbes⟩ := r2.beside
  have HBES := Lib.hid hbes
  have hq2 : w1.heap.size < w2.heap.size := by have := s2; simp at this; omega
  have HB2 := Lib.hid B2
  have HBASE := Lib.hid hbase
  have hbw : w.heap.size ≤ w2.heap.size := B2.size
  clear r1 r2 B2 hbes C1 s2 b1
  go_loopw [6, 7, 8, 9, 10, 11] (fun fv xv yv av bv iv wr => ∃ (i : Nat) (X Y : List Int) (a b : Int), i ≤ m ∧ iv = .int .i64 (i : Nat) ∧ av = .int .i64 a ∧ bv = .int .i64 b ∧ Below w2.heap.size w2 wr ∧ R3 w2.heap.size wr fv xv yv (fgsE (Ls.take i).flatten X Y).length (sB X).length (sB Y).length (fB (fgsE (Ls.take i).flatten X Y)) (sB X) (sB Y) ∧ Hid (GQ RE P (Ls.take i).flatten (Ls.drop i).flatten X Y a b)) (fun _ _ _ _ _ iv _ => m - (intOf iv).toNat)
  case atStart => exact ⟨0, [], [], 0, 0, Nat.zero_le _, rfl, rfl, rfl, Below.refl _ _, ⟨World.ownsRow_nil _ _ _ _, World.ownsRow_nil _ _ _ _, World.ownsRow_nil _ _ _ _, fun b hb => by simp [blk, Value.ownBlock] at hb, fun b hb => by simp [blk, Value.ownBlock] at hb, fun b hb => by simp [blk, Value.ownBlock] at hb⟩, HQ0⟩
  case round =>
    clear HQ0
    obtain ⟨i, X, Y, a, b, him, rfl, rfl, rfl, hbo, hr3, HQ⟩ := hrel
    by_cases hlt : i < m
    · have d1 : decide ((i : Int) < (m : Int)) = true := by simp; omega
      obtain ⟨L, hL⟩ : ∃ L, Ls[i]? = some L := ⟨_, List.getElem?_eq_getElem (by rw [← HM.out]; exact hlt)⟩
      obtain ⟨cb, co, Ai, ci, hAe, hcb, c0, hE⟩ := HW.out.at' i L hL
      have HCB := Lib.hid (show ∀ V, Below w2.heap.size w2 V → V.cell? ⟨cb, co + i, none⟩ = some (.slice Ai L.length ci) from fun V hV => ((HB2.out.trans (hV.mono HB2.out.size)).cell (p := ⟨cb, co + i, none⟩) hcb).trans c0)
      have HLL := Lib.hid (show ∀ V, Below w2.heap.size w2 V → Lists V w.heap.size Ai (ptCells L) from fun V hV => hE.below (HB2.out.trans (hV.mono HB2.out.size)))
      have HTK := Lib.hid (show (Ls.take (i + 1)).flatten = (Ls.take i).flatten ++ L by rw [take_snoc1 hL, List.flatten_append]; simp)
      have HDR := Lib.hid (show (Ls.drop i).flatten = L ++ (Ls.drop (i + 1)).flatten by
        obtain ⟨h1, h2⟩ := List.getElem?_eq_some_iff.1 hL
        rw [List.drop_eq_getElem_cons h1, h2, List.flatten_cons])
      have hll : L.length ≤ 4096 := by
        have h1 : L.length ≤ Ls.flatten.length := by
          have := HTK.out
          have e2 : Ls.flatten = (Ls.take i).flatten ++ (Ls.drop i).flatten := by rw [← List.flatten_append, List.take_append_drop]
          rw [e2, HDR.out, List.length_append, List.length_append]; omega
        rw [← HP.out] at h1
        have := HPN.out
        omega
      obtain ⟨nl, hnl⟩ : ∃ nl, nl = L.length := ⟨_, rfl⟩
      rw [← hnl] at HCB hll
      have HNL := Lib.hid hnl
      have HQ1 := Lib.hid (show GQ RE P ((Ls.take i).flatten ++ L.take 0) (L.drop 0 ++ (Ls.drop (i + 1)).flatten) X Y a b by rw [List.take_zero, List.append_nil, List.drop_zero, ← HDR.out]; exact HQ.out)
      subst hAe
      obtain ⟨wo, rfl⟩ : ∃ wo, wo = wr := ⟨_, rfl⟩
      have hR31 : R3 w2.heap.size wo u6 u7 u8 (fgsE ((Ls.take i).flatten ++ L.take 0) X Y).length (sB X).length (sB Y).length (fB (fgsE ((Ls.take i).flatten ++ L.take 0) X Y)) (sB X) (sB Y) := by rw [List.take_zero, List.append_nil]; exact hr3
      have hcbw : cb < w2.heap.size := Nat.lt_of_lt_of_le hcb hbw
      clear hL c0 hE hnl HQ hr3
      go_wp2
      go_loopw [6, 7, 8, 9, 10, 12] (fun fv xv yv av bv kv wr => ∃ (k : Nat) (X Y : List Int) (a b : Int), k ≤ nl ∧ kv = .int .i64 (k : Nat) ∧ av = .int .i64 a ∧ bv = .int .i64 b ∧ Below w2.heap.size w2 wr ∧ R3 w2.heap.size wr fv xv yv (fgsE ((Ls.take i).flatten ++ L.take k) X Y).length (sB X).length (sB Y).length (fB (fgsE ((Ls.take i).flatten ++ L.take k) X Y)) (sB X) (sB Y) ∧ Hid (GQ RE P ((Ls.take i).flatten ++ L.take k) (L.drop k ++ (Ls.drop (i + 1)).flatten) X Y a b)) (fun _ _ _ _ _ kv _ => nl - (intOf kv).toNat)
      case atStart => exact ⟨0, X, Y, a, b, Nat.zero_le _, rfl, rfl, rfl, hbo, hR31, HQ1⟩
      case round =>
        clear HQ1 hR31 hbo
        obtain ⟨k, X, Y, a, b, hk, rfl, rfl, rfl, hb, hr3, HQ⟩ := hrel
        have y9 := HCB.out wr hb
        have yl := Nat.lt_of_lt_of_le hcbw hb.size
        by_cases hlt2 : k < nl
        · have d2 : decide ((k : Int) < (nl : Int)) = true := by simp; omega
          obtain ⟨⟨px, py, pz⟩, hp⟩ := at_some (L := L) (k := k) (by rw [← HNL.out]; exact hlt2)
          obtain ⟨s, u, hse, hs, z0, z1, z2⟩ := lists_pt (HLL.out wr hb) hp
          subst hse
          simp only at z0 z1 z2
          have zl : s < wr.heap.size := by have := hb.size; omega
          have hdrop : L.drop k = (px, py, pz) :: L.drop (k + 1) := by
            obtain ⟨h1, h2⟩ := List.getElem?_eq_some_iff.1 hp
            rw [List.drop_eq_getElem_cons h1, h2]
          have HG := Lib.hid (show GQ RE P ((Ls.take i).flatten ++ L.take k) ((px, py, pz) :: (L.drop (k + 1) ++ (Ls.drop (i + 1)).flatten)) X Y a b by
            have := HQ.out
            rw [hdrop] at this
            exact this)
          have hpm : (px, py, pz) ∈ P := by rw [HG.out.all]; simp
          obtain ⟨bx, by_⟩ := HBD.out _ hpm
          dsimp only at bx by_
          have hkind := HK3.out _ hpm
          have HBAD := Lib.hid (fun hh => HNO.out (HG.out.bad hh))
          have HNX := Lib.hid (fun hh => HG.out.next hh)
          have HTK2 := Lib.hid (show L.take (k + 1) = L.take k ++ [(px, py, pz)] by rw [List.take_add_one, hp]; rfl)
          obtain ⟨a0, a1⟩ := HG.out.ain
          obtain ⟨b0, b1⟩ := HG.out.bin
          have CUx := fun W => unit_any px bx W
          have CUy := fun W => unit_any py by_ W
          have wx := wrap_q bx
          have wy := wrap_q by_
          have hxl := HG.out.xl
          have hyl := HG.out.yl
          have hql : ((Ls.take i).flatten ++ L.take k).length + 1 ≤ P.length := by rw [HG.out.all]; simp only [List.length_append, List.length_cons]; omega
          have hpn := HPN.out
          clear HQ hdrop hpm hp
          dsimp only at HBAD HNX
          cases hcu : isCub (px, py, pz)
          · have hpz : (pz == 3) = false := hcu
            have hkd := hkind hcu
            dsimp only at hkd
            cases hux : unitB px
            · have HRR := Lib.hid (HBAD.out (by rw [hcu, hux]; rfl))
              rw [hux] at CUx
              go_wp2_with (first | (go_at_call 51; ((with_reducible refine (CUx _).mono ?_); rintro e w5 ⟨rfl, rfl⟩)))
              go_ret2
              exact RncP.no HRR.out ((HB2.out.trans (hb.mono hbw)).trans ((below_a1 wr _).mono (by have := hb.size; omega)))
            · obtain ⟨ux0, ux1⟩ := inS_iff.1 (by unfold unitB at hux; simp only [Bool.and_eq_true] at hux; exact hux.2 : inS (px.tdiv 65536) = true)
              cases huy : unitB py
              · have HRR := Lib.hid (HBAD.out (by rw [hcu, hux, huy]; rfl))
                rw [hux] at CUx
                rw [huy] at CUy
                go_wp2_with (first | (go_at_call 51; ((with_reducible refine (CUx _).mono ?_); rintro e w5 ⟨rfl, rfl⟩)) | (go_at_call 51; ((with_reducible refine (CUy _).mono ?_); rintro e w6 ⟨rfl, rfl⟩)))
                go_ret2
                exact RncP.no HRR.out ((HB2.out.trans (hb.mono hbw)).trans ((below_a1 wr _).mono (by have := hb.size; omega)))
              · obtain ⟨uy0, uy1⟩ := inS_iff.1 (by unfold unitB at huy; simp only [Bool.and_eq_true] at huy; exact huy.2 : inS (py.tdiv 65536) = true)
                have HUX := Lib.hid hux
                have HUY := Lib.hid huy
                rw [hux] at CUx
                rw [huy] at CUy
                obtain ⟨qx, hqx⟩ : ∃ qx, qx = px.tdiv 65536 := ⟨_, rfl⟩
                obtain ⟨qy, hqy⟩ : ∃ qy, qy = py.tdiv 65536 := ⟨_, rfl⟩
                rw [← hqx] at wx ux0 ux1 HBAD HNX
                rw [← hqy] at wy uy0 uy1 HBAD HNX
                have wx' : wrap64 (px.tdiv 65536) = qx := by rw [← hqx]; exact wx
                have wy' : wrap64 (py.tdiv 65536) = qy := by rw [← hqy]; exact wy
                have HQX := Lib.hid hqx
                have HQY := Lib.hid hqy
                have tx : wrap64 (qx - a) = qx - a := by unfold wrap64; omega
                have ty : wrap64 (qy - b) = qy - b := by unfold wrap64; omega
                have CSx : ∀ W, Calls Try.prog 52 #[.int .i64 (qx - a), .int .i64 2, .int .i64 16] W (StepP W (sbE 2 16 (qx - a) : Nat) (qx - a)) := fun W => step_any 2 16 (.inl ⟨rfl, rfl⟩) (qx - a) (by omega) (by omega) W
                have CSy : ∀ W, Calls Try.prog 52 #[.int .i64 (qy - b), .int .i64 4, .int .i64 32] W (StepP W (sbE 4 32 (qy - b) : Nat) (qy - b)) := fun W => step_any 4 32 (.inr ⟨rfl, rfl⟩) (qy - b) (by omega) (by omega) W
                have K0 := Lib.hid (Blk.new wr 57 #[.int .i64 px, .int .i64 py, .int .i64 pz])
                have HBA := Lib.hid ((HB2.out.trans (hb.mono hbw)).trans ((below_a1 wr (.cells #[.int .i64 px, .int .i64 py, .int .i64 pz] 57)).mono (by have := hb.size; omega)))
                rw [hcu, hux, huy] at HBAD HNX
                clear hux huy hqx hqy wx wy
                cases hdx : inS (qx - a)
                · have HDX := Lib.hid hdx
                  have HRR := Lib.hid (HBAD.out (by rw [hdx]; rfl))
                  clear hdx
                  go_wp2_with (first | (go_at_call 51; ((with_reducible refine (CUx _).mono ?_); rintro e w5 ⟨rfl, rfl⟩)) | (go_at_call 51; ((with_reducible refine (CUy _).mono ?_); rintro e w6 ⟨rfl, rfl⟩)) | (go_at_call 52; ((with_reducible refine (CSx _).mono ?_); rintro e w7 ⟨A7, c7, x7, rfl, hx7, own7, b7⟩; rw [HDX.out] at hx7 ⊢; have K7 := Lib.hid (K0.out.below b7); have q0 := K7.out.cell 0; have q1 := K7.out.cell 1; have q2 := K7.out.cell 2; have ql := K7.out.lt; simp only [List.getElem?_toArray, List.getElem?_cons_zero, List.getElem?_cons_succ] at q0 q1 q2; have BX := HBA.out.trans (b7.mono HBA.out.size))) | (go_at_call 52; ((with_reducible refine (CSy _).mono ?_); rintro e w8 ⟨A8, c8, x8, rfl, hx8, own8, b8⟩; have BY := BX.trans (b8.mono BX.size))))
                  go_ret2
                  exact RncP.no HRR.out BY
                · have HDX := Lib.hid hdx
                  cases hdy : inS (qy - b)
                  · have HDY := Lib.hid hdy
                    have HRR := Lib.hid (HBAD.out (by rw [hdx, hdy]; rfl))
                    clear hdx hdy
                    go_wp2_with (first | (go_at_call 51; ((with_reducible refine (CUx _).mono ?_); rintro e w5 ⟨rfl, rfl⟩)) | (go_at_call 51; ((with_reducible refine (CUy _).mono ?_); rintro e w6 ⟨rfl, rfl⟩)) | (go_at_call 52; ((with_reducible refine (CSx _).mono ?_); rintro e w7 ⟨A7, c7, x7, rfl, hx7, own7, b7⟩; rw [HDX.out] at hx7 ⊢; have K7 := Lib.hid (K0.out.below b7); have q0 := K7.out.cell 0; have q1 := K7.out.cell 1; have q2 := K7.out.cell 2; have ql := K7.out.lt; simp only [List.getElem?_toArray, List.getElem?_cons_zero, List.getElem?_cons_succ] at q0 q1 q2; have BX := HBA.out.trans (b7.mono HBA.out.size))) | (go_at_call 52; ((with_reducible refine (CSy _).mono ?_); rintro e w8 ⟨A8, c8, x8, rfl, hx8, own8, b8⟩; rw [HDY.out] at hx8 ⊢; have K8 := Lib.hid (K7.out.below b8); have p0 := K8.out.cell 0; have p1 := K8.out.cell 1; have p2 := K8.out.cell 2; have pl := K8.out.lt; simp only [List.getElem?_toArray, List.getElem?_cons_zero, List.getElem?_cons_succ] at p0 p1 p2; have BY := BX.trans (b8.mono BX.size))))
                    go_ret2
                    exact RncP.no HRR.out BY
                  · have HDY := Lib.hid hdy
                    have HNXT := Lib.hid (HNX.out (by rw [hdx, hdy]; rfl))
                    clear hdx hdy
                    go_wp2_with (first | (go_at_call 51; ((with_reducible refine (CUx _).mono ?_); rintro e w5 ⟨rfl, rfl⟩)) | (go_at_call 51; ((with_reducible refine (CUy _).mono ?_); rintro e w6 ⟨rfl, rfl⟩)) | (go_at_call 52; ((with_reducible refine (CSx _).mono ?_); rintro e w7 ⟨A7, c7, x7, rfl, hx7, own7, b7⟩; rw [HDX.out] at hx7 ⊢; have K7 := Lib.hid (K0.out.below b7); have q0 := K7.out.cell 0; have q1 := K7.out.cell 1; have q2 := K7.out.cell 2; have ql := K7.out.lt; simp only [List.getElem?_toArray, List.getElem?_cons_zero, List.getElem?_cons_succ] at q0 q1 q2; have BX := HBA.out.trans (b7.mono HBA.out.size))) | (go_at_call 52; ((with_reducible refine (CSy _).mono ?_); rintro e w8 ⟨A8, c8, x8, rfl, hx8, own8, b8⟩; rw [HDY.out] at hx8 ⊢; have K8 := Lib.hid (K7.out.below b8); have p0 := K8.out.cell 0; have p1 := K8.out.cell 1; have p2 := K8.out.cell 2; have pl := K8.out.lt; simp only [List.getElem?_toArray, List.getElem?_cons_zero, List.getElem?_cons_succ] at p0 p1 p2; have BY := BX.trans (b8.mono BX.size))))
                    have hbs := hb.size
                    have s7 := b7.size
                    have s8 := b8.size
                    rw [World.size_alloc] at s7
                    have BD : Below w8.heap.size w8 w8.drew := (Below.refl _ _).drew
                    have K9 := K8.out.below BD
                    have d0' := K9.cell 0
                    have d1' := K9.cell 1
                    have d2' := K9.cell 2
                    have dl' := K9.lt
                    simp only [List.getElem?_toArray, List.getElem?_cons_zero, List.getElem?_cons_succ] at d0' d1' d2'
                    refine wp_region_chain (fun V => V.cell? ⟨wr.heap.size, 0, none⟩ = some (.int .i64 px) ∧ V.cell? ⟨wr.heap.size, 1, none⟩ = some (.int .i64 py) ∧ wr.heap.size < V.heap.size) [(0, false), (1, false), (2, false), (3, false), (4, false), (5, false), (6, false), (7, false)] (by kernel_rfl) (by kernel_rfl) (⟨d0', d1', dl'⟩) ?_
                    repeat (first
                      | (refine ChainL.skip (o := ?_) ?_ ?_ ?_; rotate_left; (focus (first | (simp only [List.getElem?_toArray, List.getElem?_cons_succ, List.getElem?_cons_zero]; with_reducible rfl) | (simp only [List.getElem?_toArray, List.getElem?_cons_zero]; with_reducible rfl))); (focus rfl); simp only [Act.put, List.setIfInBounds_toArray, List.set_cons_zero, List.set_cons_succ])
                      | (refine ChainL.val (o := ?_) (v := ?_) ?_ ?_ ?_ ?_ ?_; rotate_left 2; (focus (first | (simp only [List.getElem?_toArray, List.getElem?_cons_succ, List.getElem?_cons_zero]; with_reducible rfl) | (simp only [List.getElem?_toArray, List.getElem?_cons_zero]; with_reducible rfl))); (focus (intro _ _ h; cases h)); (focus rfl); (focus (intro w' hI; obtain ⟨g0, g1, g2⟩ := hI; go_simp <;> with_reducible rfl)); simp only [Act.put, List.setIfInBounds_toArray, List.set_cons_zero, List.set_cons_succ]))
                    refine ChainL.nil ?_
                    have BC : Below wr.heap.size wr w8.drew := ((below_a1 wr (.cells #[.int .i64 px, .int .i64 py, .int .i64 pz] 57)).trans ((b7.trans (b8.mono b7.size)).mono (by simp))).trans (BD.mono (by omega))
                    have s9 : w8.heap.size ≤ w8.drew.heap.size := BD.size
                    obtain ⟨g, hgd⟩ : ∃ g, g = fgE (qx - a) (qy - b) pz := ⟨_, rfl⟩
                    have hg256 : g < 256 := by rw [hgd]; exact fgE_lt _ _ _
                    have OFG := or_fg (qx - a) (qy - b) pz hkd
                    rw [← hgd] at OFG
                    have hcv : IntKind.u8.wrap (g : Int) = (g : Int) := by unfold IntKind.wrap; show (g : Int) % 256 = _; omega
                    have hql2 : (fgsE ((Ls.take i).flatten ++ L.take k) X Y).length ≤ 4096 := by rw [fgs_len _ X Y hxl hyl]; omega
                    have hsx : (sB X).length ≤ 8192 := by have := sB_len X; omega
                    have hsy : (sB Y).length ≤ 8192 := by have := sB_len Y; omega
                    have hs1 := stpB_len (qx - a)
                    have hs2 := stpB_len (qy - b)
                    have HGD := Lib.hid hgd
                    have HFS := Lib.hid (show fgsE ((Ls.take i).flatten ++ L.take (k + 1)) (X ++ [qx - a]) (Y ++ [qy - b]) = fgsE ((Ls.take i).flatten ++ L.take k) X Y ++ [g] by
                      rw [HTK2.out, ← List.append_assoc, fgs_snoc _ X Y _ _ _ hxl hyl, ← hgd])
                    have HNX2 := Lib.hid (show GQ RE P ((Ls.take i).flatten ++ L.take (k + 1)) (L.drop (k + 1) ++ (Ls.drop (i + 1)).flatten) (X ++ [qx - a]) (Y ++ [qy - b]) qx qy by
                      have := HNXT.out
                      rw [HTK2.out, ← List.append_assoc]
                      exact this)
                    clear hgd K9 HNXT HNX HBAD CSx CSy CUx CUy
                    generalize w8.drew = w9 at *
                    have R9 := (hr3.below BC).below (below_a1 w9 (.cells #[.int .u8 (g : Nat)] 5))
                    go_wp2_with (first | (at_builtin; refine wpList_append_src _ rfl (.tmp 108) (.tmp 117) 22 rfl w2.heap.size 5 i0 (.int .u8 0) 1 1 Try.underlying22 hi hz0 hz1 hz2 rfl (by decide) u6 (fgsE ((Ls.take i).flatten ++ L.take k) X Y).length (fB (fgsE ((Ls.take i).flatten ++ L.take k) X Y)) rfl R9.f _ _ 1 1 [.int .u8 (g : Nat)] rfl (lists_row w9 [.int .u8 (g : Nat)] 5) rfl (by simp [Value.oneCell']) (by simp only [maxLen]; omega) (by omega) (by rw [World.size_alloc]; omega) ?_; intro v10 w10 own10 hgown10 hatown10; have R10 := R9.push1 own10 hgown10 hatown10; have o10 : Only (w9.alloc (.cells #[.int .u8 (g : Nat)] 5)) w10 (blk u6) := (Only.refl _ (blk u6)).grown hgown10 (fun x hx => .inl (by have h9 : u6.ownBlock = some x := hx; unfold blk; rw [h9]; simp)); have s10 := o10.size; have O7 := own_only (ownS_stay (ownS_stay (ownS_stay own7 b8) BD) (below_a1 w9 (.cells #[.int .u8 (g : Nat)] 5))) o10 (fun x hx hm => by have h1 := ownS_low own7 x hx; have h2 := blk_lt hr3.f x hm; simp at h1; omega); have O8 := own_only (ownS_stay (ownS_stay own8 BD) (below_a1 w9 (.cells #[.int .u8 (g : Nat)] 5))) o10 (fun x hx hm => by have h1 := ownS_low own8 x hx; have h2 := blk_lt hr3.f x hm; omega); have z10 : w2.heap.size ≤ w10.heap.size := (by rw [World.size_alloc] at s10; omega)) | (at_builtin; refine wpList_append_src _ rfl (.tmp 119) (.tmp 120) 22 rfl w2.heap.size 5 i0 (.int .u8 0) 1 1 Try.underlying22 hi hz0 hz1 hz2 rfl (by decide) u7 (sB X).length (sB X) rfl R10.x _ A7 (stpB (qx - a)).length c7 (stpB (qx - a)) rfl (own_at O7).1 (by rw [Nat.mul_one]) (stpB_bytes _).one (by simp only [maxLen]; omega) (by omega) (by omega) ?_; intro v11 w11 own11 hgown11 hatown11; have R11 := R10.push2 own11 hgown11 hatown11; have o11 : Only w10 w11 (blk u7) := (Only.refl _ (blk u7)).grown hgown11 (fun x hx => .inl (by have h9 : u7.ownBlock = some x := hx; unfold blk; rw [h9]; simp)); have s11 := o11.size; have O8' := own_only O8 o11 (fun x hx hm => by have h1 := ownS_low own8 x hx; have h2 := blk_lt hr3.x x hm; omega); have z11 : w2.heap.size ≤ w11.heap.size := (by omega)) | (at_builtin; refine wpList_append_src _ rfl (.tmp 122) (.tmp 123) 22 rfl w2.heap.size 5 i0 (.int .u8 0) 1 1 Try.underlying22 hi hz0 hz1 hz2 rfl (by decide) u8 (sB Y).length (sB Y) rfl R11.y _ A8 (stpB (qy - b)).length c8 (stpB (qy - b)) rfl (own_at O8').1 (by rw [Nat.mul_one]) (stpB_bytes _).one (by simp only [maxLen]; omega) (by omega) (by omega) ?_; intro v12 w12 own12 hgown12 hatown12; have R12 := R11.push3 own12 hgown12 hatown12))
                    have o12 : Only w11 w12 (blk u8) := (Only.refl _ (blk u8)).grown hgown12 (fun x hx => .inl (by have h9 : u8.ownBlock = some x := hx; unfold blk; rw [h9]; simp))
                    have R13 : R3 w2.heap.size w12 v10 v11 v12 (fgsE ((Ls.take i).flatten ++ L.take (k + 1)) (X ++ [qx - a]) (Y ++ [qy - b])).length (sB (X ++ [qx - a])).length (sB (Y ++ [qy - b])).length (fB (fgsE ((Ls.take i).flatten ++ L.take (k + 1)) (X ++ [qx - a]) (Y ++ [qy - b]))) (sB (X ++ [qx - a])) (sB (Y ++ [qy - b])) := by
                      rw [HFS.out, fB_snoc, sB_snoc, sB_snoc, List.length_append, List.length_append, List.length_append]
                      exact R12
                    have B13 : Below w2.heap.size w2 w12 := (((hb.trans (BC.mono hbs)).alloc (by omega) (.cells #[.int .u8 (g : Nat)] 5)).trans (o10.to_below (by simp; omega) (fun x hx => sp_low hr3.f x hx))).trans ((o11.to_below (by omega) (fun x hx => sp_low hr3.x x hx)).trans (o12.to_below (by omega) (fun x hx => sp_low hr3.y x hx)))
                    go_roundw
                    case rel => exact ⟨k + 1, _, _, _, _, by omega, by first | rfl | (go_num), rfl, rfl, B13, R13, HNX2⟩
                    case measure => first | (simp [intOf]; done) | (simp [intOf]; omega)
          · have HRR := Lib.hid (HBAD.out (by rw [hcu]; rfl))
            have hpz : (pz == 3) = true := hcu
            go_wp2
            go_ret2
            exact RncP.no HRR.out ((HB2.out.trans (hb.mono hbw)).trans ((below_a1 wr _).mono (by have := hb.size; omega)))
        · obtain rfl : k = nl := by omega
          have d2 : decide ((k : Int) < (k : Int)) = false := by simp
          have HQ3 := Lib.hid (show GQ RE P (Ls.take (i + 1)).flatten (Ls.drop (i + 1)).flatten X Y a b by
            have := HQ.out
            rw [show L.take k = L from List.take_of_length_le (by rw [HNL.out]; exact Nat.le_refl _), show L.drop k = [] from List.drop_eq_nil_of_le (by rw [HNL.out]; exact Nat.le_refl _), List.nil_append, ← HTK.out] at this
            exact this)
          have R13 : R3 w2.heap.size wr u6 u7 u8 (fgsE (Ls.take (i + 1)).flatten X Y).length (sB X).length (sB Y).length (fB (fgsE (Ls.take (i + 1)).flatten X Y)) (sB X) (sB Y) := by
            rw [HTK.out]
            rw [show L.take k = L from List.take_of_length_le (by rw [HNL.out]; exact Nat.le_refl _)] at hr3
            exact hr3
          clear HQ hr3
          go_wp2
          go_roundw
          case rel => exact ⟨i + 1, X, Y, a, b, by omega, by first | rfl | (go_num), rfl, rfl, hb, R13, HQ3⟩
          case measure => first | (simp [intOf]; done) | (simp [intOf]; omega)
    · obtain rfl : i = m := by omega
      have d1 : decide ((i : Int) < (i : Int)) = false := by simp
      have hPP : P = (Ls.take i).flatten := by rw [List.take_of_length_le (by rw [HM.out]; exact Nat.le_refl _)]; exact HP.out
      have hre : RE = some (X, Y) := by
        have := HQ.out.run
        rw [List.drop_eq_nil_of_le (by rw [HM.out]; exact Nat.le_refl _)] at this
        rw [this]; simp [rE]
      have HRES := Lib.hid (HYES.out X Y hre)
      have hxl := HQ.out.xl
      have hyl := HQ.out.yl
      rw [← hPP] at hxl hyl hr3
      obtain ⟨F, hF⟩ : ∃ F, F = fgsE P X Y := ⟨_, rfl⟩
      have hfl : F.length = P.length := by rw [hF]; exact fgs_len P X Y hxl hyl
      have HF8 := Lib.hid (show ∀ f ∈ F, f < 256 ∧ bt f 3 = false from by
        have h1 := (rE_some (by rw [← HRE.out]; exact hre : rE P 0 0 = some (X, Y)))
        rw [hF]
        exact (fgs_sok P X Y hxl hyl (stp_bd _ _ _ h1.1) (stp_bd _ _ _ h1.2.1)).2.2)
      rw [← hF] at hr3
      have hsx : (sB X).length ≤ 8192 := by have := sB_len X; have := HPN.out; omega
      have hsy : (sB Y).length ≤ 8192 := by have := sB_len Y; have := HPN.out; omega
      have hnpos : 0 < P.length := by rw [HP.out]; exact flat_pos HC.out (by intro e; have := HM.out; rw [e] at this; simp at this; omega)
      have hn4 := HPN.out
      obtain ⟨n, hn⟩ : ∃ n, n = F.length := ⟨_, rfl⟩
      obtain ⟨lx, hlx⟩ : ∃ lx, lx = (sB X).length := ⟨_, rfl⟩
      obtain ⟨ly, hly⟩ : ∃ ly, ly = (sB Y).length := ⟨_, rfl⟩
      rw [← hn, ← hlx, ← hly] at hr3
      rw [← hlx] at hsx
      rw [← hly] at hsy
      have hn1 : 1 ≤ n := by omega
      have hn2 : n ≤ 4096 := by omega
      have HN := Lib.hid hn
      have HLX := Lib.hid hlx
      have HLY := Lib.hid hly
      obtain ⟨Af, cf, hfv, lf, hcf⟩ := own_lists hr3.f
      subst hfv
      obtain ⟨Ax, cx, hxv, lx', hcx⟩ := own_lists hr3.x
      subst hxv
      obtain ⟨Ay, cy, hyv, ly', hcy⟩ := own_lists hr3.y
      subst hyv
      have hcfb := own_capS hr3.f
      obtain ⟨fb, fo, hAf, _, _⟩ := lf.plain (by intro e; have := congrArg List.length e; rw [fB_len, ← hn] at this; simp at this; omega)
      subst hAf
      have HZ := Lib.hid (show spB Ls X Y = ((((be2 (i : Nat) ++ sidB (sides Ls) 4) ++ lastsE 0 Ls) ++ be2 0) ++ pfE n (iF F)) ++ (sB X ++ sB Y) by rw [spB_sB (by rw [← HP.out]; exact hxl) (by rw [← HP.out]; exact hyl), ← HP.out, ← hF, ← hn, boxB_eq, ← HM.out])
      have HR3 := Lib.hid hr3
      have HBB := Lib.hid hbo
      have hbs := hbo.size
      have CHw := CH wr (HB2.out.trans (hbo.mono hbw))
      obtain ⟨bd0, bd1, bd2, bd3⟩ := boxO_bd HC.out
      have hsd : sides Ls = [(boxO Ls).x0, (boxO Ls).y0, (boxO Ls).x1, (boxO Ls).y1] := rfl
      generalize (boxO Ls).x0 = q0 at *
      generalize (boxO Ls).y0 = q1 at *
      generalize (boxO Ls).x1 = q2 at *
      generalize (boxO Ls).y1 = q3 at *
      have HSD := Lib.hid hsd
      have w0q := wrap_q bd0
      have w1q := wrap_q bd1
      have w2q := wrap_q bd2
      have w3q := wrap_q bd3
      clear CH HQ hre hPP hxl hyl hF hfl hr3 lf lx' ly' hn hlx hly HYES HNO HK3 HBD HRE hsd
      go_wp2_with (first
        | (go_at_call 53; ((with_reducible refine (CHw).mono ?_); rintro e w3 ⟨rfl, b3⟩; have s3 := b3.size; have T4 : TWr w w1.heap.size w2.heap.size w3.heap.size (w3.heap.size :: (blk (.slice (some ⟨fb, fo, none⟩) n cf) ++ (blk (.slice Ax lx cx) ++ blk (.slice Ay ly cy)))) (.slice (some ⟨fb, fo, none⟩) n cf) (.slice Ax lx cx) (.slice Ay ly cy) n lx ly (fB F) (sB X) (sB Y) #[.int .i64 q0, .int .i64 q1, .int .i64 q2, .int .i64 q3] (be2 (i : Nat)) (w3.alloc (.cells #[.int .i64 q0, .int .i64 q1, .int .i64 q2, .int .i64 q3] 68)) := tw_start HBES.out HBASE.out HBB.out HR3.out b3; have k4 := T4.box; have y0 := k4.cell 0; have y1 := k4.cell 1; have y2 := k4.cell 2; have y3 := k4.cell 3; have yl := k4.lt; simp only [List.getElem?_toArray, List.getElem?_cons_zero, List.getElem?_cons_succ] at y0 y1 y2 y3))
        | (go_at_call 50; ((with_reducible refine (T4.u2 (q0.tdiv 65536) (by simp [be2])).mono ?_); rintro e w5 ⟨rfl, T5⟩; have k5 := T5.box; have x0 := k5.cell 0; have x1 := k5.cell 1; have x2 := k5.cell 2; have x3 := k5.cell 3; have xl := k5.lt; simp only [List.getElem?_toArray, List.getElem?_cons_zero, List.getElem?_cons_succ] at x0 x1 x2 x3))
        | (go_at_call 50; ((with_reducible refine (T5.u2 (q1.tdiv 65536) (by simp [be2])).mono ?_); rintro e w6 ⟨rfl, T6⟩; have k6 := T6.box; have v0 := k6.cell 0; have v1 := k6.cell 1; have v2 := k6.cell 2; have v3 := k6.cell 3; have vl := k6.lt; simp only [List.getElem?_toArray, List.getElem?_cons_zero, List.getElem?_cons_succ] at v0 v1 v2 v3))
        | (go_at_call 50; ((with_reducible refine (T6.u2 (q2.tdiv 65536) (by simp [be2])).mono ?_); rintro e w7 ⟨rfl, T7⟩; have k7 := T7.box; have p0 := k7.cell 0; have p1 := k7.cell 1; have p2 := k7.cell 2; have p3 := k7.cell 3; have pl := k7.lt; simp only [List.getElem?_toArray, List.getElem?_cons_zero, List.getElem?_cons_succ] at p0 p1 p2 p3))
        | (go_at_call 50; ((with_reducible refine (T7.u2 (q3.tdiv 65536) (by simp [be2])).mono ?_); rintro e w8 ⟨rfl, T8⟩)))
      obtain ⟨TT, hu2, hda, hbl, hrf, hrx, hry, hold, hgv, T9⟩ : ∃ TT : List Value → World → Prop,
          (∀ (L : List Value) (W : World) (x : Int), TT L W → L.length + 2 ≤ 1048576 → Calls Try.prog 50 #[.pointer (some ⟨w1.heap.size, 0, none⟩), .int .i64 2, .int .i64 x] W fun e w' => e = .returned (.tuple #[]) ∧ TT (L ++ be2 x) w') ∧
          (∀ (L : List Value) (W : World) (A : Option Addr) (m c : Nat) (E : List Value), TT L W → Lists W W.heap.size A E → E.length = m → Bytes8 E → L.length + m ≤ 1048576 → Calls Try.prog 54 #[.pointer (some ⟨w1.heap.size, 0, none⟩), .slice A m c] W fun e w' => e = .returned (.tuple #[]) ∧ TT (L ++ E) w') ∧
          (∀ (L : List Value) (W W1 : World), TT L W → Below W.heap.size W W1 → TT L W1) ∧
          (∀ (L : List Value) (W : World), TT L W → Lists W W.heap.size (some ⟨fb, fo, none⟩) (fB F)) ∧ (∀ (L : List Value) (W : World), TT L W → Lists W W.heap.size Ax (sB X)) ∧ (∀ (L : List Value) (W : World), TT L W → Lists W W.heap.size Ay (sB Y)) ∧
          (∀ (L : List Value) (W : World), TT L W → Below w.heap.size w W) ∧
          (∀ (L : List Value) (W : World), TT L W → ∃ A c, W.cell? ⟨w1.heap.size, 0, none⟩ = some (.slice A L.length c) ∧ Lists W W.heap.size A L ∧ L.length ≤ c ∧ w1.heap.size < W.heap.size) ∧ TT (be2 (i : Nat) ++ sidB (sides Ls) 4) w8 :=
        ⟨TWr w w1.heap.size w2.heap.size w3.heap.size (w3.heap.size :: (blk (.slice (some ⟨fb, fo, none⟩) n cf) ++ (blk (.slice Ax lx cx) ++ blk (.slice Ay ly cy)))) (.slice (some ⟨fb, fo, none⟩) n cf) (.slice Ax lx cx) (.slice Ay ly cy) n lx ly (fB F) (sB X) (sB Y) #[.int .i64 q0, .int .i64 q1, .int .i64 q2, .int .i64 q3],
          fun L W x h hl => h.u2 x hl, fun L W A m c E h hE hm h8 hl => h.data A m c E hE hm h8 hl, fun L W W1 h b => h.below b, fun L W h => (own_at h.rows.f).1, fun L W h => (own_at h.rows.x).1, fun L W h => (own_at h.rows.y).1, fun L W h => h.wr.old, fun L W h => h.wr.give, by
            have e : be2 (i : Nat) ++ sidB (sides Ls) 4 = (((be2 (i : Nat) ++ be2 (q0.tdiv 65536)) ++ be2 (q1.tdiv 65536)) ++ be2 (q2.tdiv 65536)) ++ be2 (q3.tdiv 65536) := by
              rw [HSD.out]; unfold sidB; simp [List.flatMap]
            rw [e]; exact T8⟩
      have HU2 := Lib.hid hu2
      have HDA := Lib.hid hda
      have HBL := Lib.hid hbl
      have HRF := Lib.hid hrf
      have HRX := Lib.hid hrx
      have HRY := Lib.hid hry
      have HOLD := Lib.hid hold
      have HGV := Lib.hid hgv
      obtain ⟨L8, hL8⟩ : ∃ L8, L8 = be2 (i : Nat) ++ sidB (sides Ls) 4 := ⟨_, rfl⟩
      have l8 : L8.length = 10 := by rw [hL8, List.length_append, be2_len, sidB_len 4 (by rw [HSD.out]; exact Nat.le_refl _)]
      rw [← hL8] at HZ T9
      have HT9 := Lib.hid (show TT (L8 ++ lastsE 0 (Ls.take 0)) w8 by rw [List.take_zero, lastsE, List.append_nil]; exact T9)
      clear T4 T5 T6 T7 T8 T9 hu2 hda hbl hrf hrx hry hold hgv hL8 k4 k5 k6 k7 y0 y1 y2 y3 yl x0 x1 x2 x3 xl v0 v1 v2 v3 vl p0 p1 p2 p3 pl w0q w1q w2q w3q HR3 HBB HBES bd0 bd1 bd2 bd3 b3 s3
      go_loopw [21, 22] (fun nv iv wr => ∃ k : Nat, k ≤ i ∧ iv = .int .i64 (k : Nat) ∧ nv = .int .i64 ((cntO (Ls.take k) : Nat) - 1 : Int) ∧ Hid (TT (L8 ++ lastsE 0 (Ls.take k)) wr)) (fun _ iv _ => i - (intOf iv).toNat)
      case atStart => exact ⟨0, Nat.zero_le _, rfl, rfl, HT9⟩
      case round =>
        clear HT9
        obtain ⟨k, hk, rfl, rfl, HT⟩ := hrel
        have hbT := HOLD.out _ _ HT.out
        have hTl : (L8 ++ lastsE 0 (Ls.take k)).length = 10 + 2 * k := by rw [List.length_append, l8, lastsE_len, List.length_take, Nat.min_eq_left (by rw [← HM.out]; exact hk)]
        by_cases hlt : k < i
        · have d5 : decide ((k : Int) < (i : Int)) = true := by simp; omega
          obtain ⟨L, hL⟩ : ∃ L, Ls[k]? = some L := ⟨_, List.getElem?_eq_getElem (by rw [← HM.out]; exact hlt)⟩
          obtain ⟨cb, co, Ai, ci, hAe, hcb, c0, _⟩ := HW.out.at' k L hL
          subst hAe
          have g0 := (hbT.cell (p := ⟨cb, co + k, none⟩) hcb).trans c0
          have g1 : cb < wr.heap.size := Nat.lt_of_lt_of_le hcb hbT.size
          have HCN := Lib.hid (show cntO (Ls.take (k + 1)) = cntO (Ls.take k) + L.length by rw [take_snoc1 hL, cntO_snoc])
          have hcl : cntO (Ls.take (k + 1)) ≤ 4096 := Nat.le_trans (cntO_take Ls (k + 1)) (chk_zero HC.out).2.1
          rw [HCN.out] at hcl
          have HLA := Lib.hid (show lastsE 0 (Ls.take (k + 1)) = lastsE 0 (Ls.take k) ++ be2 (((cntO (Ls.take k) : Nat) : Int) - 1 + (L.length : Int)) by
            rw [take_snoc1 hL, lastsE_snoc]
            congr 2
            omega)
          generalize L.length = ll at *
          generalize cntO (Ls.take k) = cs at *
          have e9 : wrap64 ((cs : Int) - 1 + (ll : Int)) = (cs : Int) - 1 + (ll : Int) := by unfold wrap64; omega
          have CU := HU2.out (L8 ++ lastsE 0 (Ls.take k)) wr ((cs : Int) - 1 + (ll : Int)) HT.out (by rw [hTl]; omega)
          clear hL c0 hbT hTl
          go_wp2_with (first | (go_at_call 50; ((with_reducible refine (CU).mono ?_); rintro e w9 ⟨rfl, T9⟩)))
          go_roundw
          case rel => exact ⟨k + 1, by omega, by first | rfl | (go_num), by rw [HCN.out]; exact congrArg (Value.int .i64) (by omega), Lib.hid (by rw [HLA.out, ← List.append_assoc]; exact T9)⟩
          case measure => first | (simp [intOf]; done) | (simp [intOf]; omega)
        · obtain rfl : k = i := by omega
          have d5 : decide ((k : Int) < (k : Int)) = false := by simp
          have hT := HT.out
          rw [show Ls.take k = Ls from List.take_of_length_le (by rw [HM.out]; exact Nat.le_refl _)] at hT hTl
          have CU0 := HU2.out (L8 ++ lastsE 0 Ls) wr 0 hT (by rw [hTl]; omega)
          obtain ⟨L9, hL9⟩ : ∃ L9, L9 = (L8 ++ lastsE 0 Ls) ++ be2 0 := ⟨_, rfl⟩
          have l9 : L9.length = 12 + 2 * k := by rw [hL9, List.length_append, hTl, be2_len]; omega
          rw [← hL9] at HZ
          have HL9 := Lib.hid hL9
          clear hL9 hbT hTl hT HT
          go_wp2_with (first | (go_at_call 50; ((with_reducible refine (CU0).mono ?_); rintro e w9 ⟨rfl, T9⟩; rw [← HL9.out] at T9)))
          have HT0 := Lib.hid (show TT L9 w9 ∧ L9 ++ pfE n (iF F) = L9 ++ pfE n (iF (F.drop 0)) from ⟨T9, rfl⟩)
          obtain ⟨Z, hZd⟩ : ∃ Z, Z = L9 ++ pfE n (iF F) := ⟨_, rfl⟩
          rw [← hZd] at HT0
          have HZ' := Lib.hid (show spB Ls X Y = Z ++ (sB X ++ sB Y) by rw [hZd]; exact HZ.out)
          clear T9 CU0 HZ hZd
          go_loopw [23] (fun zv wr => ∃ (z j : Nat) (Wd : List Value), zv = .int .i64 (z : Nat) ∧ z ≤ n ∧ n - z ≤ j ∧ Wd.length + (n - z) ≤ 20000 ∧ Hid (TT Wd wr ∧ Z = Wd ++ pfE j (iF (F.drop z)))) (fun zv _ => n - (intOf zv).toNat)
          case atStart => exact ⟨0, n, L9, rfl, Nat.zero_le _, by omega, by rw [l9]; omega, HT0⟩
          case round =>
            clear HT0
            obtain ⟨z, j, Wd, rfl, hz, hj, hwl, HT⟩ := hrel
            by_cases hzn : z < n
            · have d6 : decide ((z : Int) < (n : Int)) = true := by simp; omega
              obtain ⟨f, hf⟩ : ∃ f, F[z]? = some f := ⟨_, List.getElem?_eq_getElem (by rw [← HN.out]; exact hzn)⟩
              obtain ⟨hf8, hf3⟩ := HF8.out f (List.mem_of_getElem? hf)
              have HS0 := Lib.hid (show ∀ x, x ≤ 0 → F[z + x]? = some f from fun x hx => by obtain rfl : x = 0 := (by omega); exact hf)
              have HFZ := Lib.hid hf
              have HT1 := Lib.hid HT.out.1
              have HTZ := Lib.hid HT.out.2
              clear hf HT
              go_wp2
              go_loopw [24] (fun tv wr => ∃ t : Nat, tv = .int .i64 (t : Nat) ∧ t ≤ 255 ∧ z + t < n ∧ Hid (∀ x, x ≤ t → F[z + x]? = some f) ∧ Hid (TT Wd wr)) (fun tv _ => 255 - (intOf tv).toNat)
              case atStart => exact ⟨0, rfl, by omega, by omega, HS0, HT1⟩
              case round =>
                clear HT1 HS0
                obtain ⟨t, rfl, ht, hzt, HSA, HT1⟩ := hrel
                have hbT := HOLD.out _ _ HT1.out
                have lfv := HRF.out _ _ HT1.out
                have hzi : (fB F)[z]? = some (.int .u8 (f : Nat)) := by unfold fB; rw [List.getElem?_map, HFZ.out]; rfl
                obtain ⟨fb', fo', hAe, gl, hcl⟩ := lfv.plain (by intro e; rw [e] at hzi; simp at hzi)
                injection hAe with hAe; injection hAe with hb1 hb2 _; subst hb1 hb2
                have gz := hcl z _ hzi
                obtain ⟨j, rfl⟩ : ∃ j', j = j' + 1 := ⟨j - 1, by omega⟩
                have hdl : (iF (F.drop z)).length = n - z := by unfold iF; rw [List.length_map, List.length_drop, ← HN.out]
                have hall : ∀ x, x < t + 1 → (iF (F.drop z))[x]? = some (f : Int) := fun x hx => by
                  unfold iF
                  rw [List.getElem?_map, List.getElem?_drop, HSA.out x (by omega)]; rfl
                by_cases h255 : t = 255
                · have HRUN := Lib.hid (runL_is (f := (f : Int)) (F := iF (F.drop z)) (r := t + 1) (by rw [hdl]; omega) (by omega) hall (.inl (by omega)))
                  have d7 : decide ((t : Int) < 255) = false := by simp; omega
                  have h255' : 255 ≤ t := by omega
                  clear h255
                  clear hcl hzi hall hdl lfv hbT
                  go_wp2
                  refine wp_region_chain (fun V => Below wr.heap.size wr V) [(0, false), (1, false), (2, false), (3, false), (4, false), (5, false), (6, false), (7, false), (8, false), (9, false), (10, false), (11, false), (12, false), (13, false), (14, false), (15, false), (16, false), (17, false), (18, false), (19, false), (20, false), (21, false), (22, false), (23, false), (24, false)] (by kernel_rfl) (by kernel_rfl) (((Below.refl _ _).drew)) ?_
                  repeat (first
                    | (refine ChainL.skip (o := ?_) ?_ ?_ ?_; rotate_left; (focus (first | (simp only [List.getElem?_toArray, List.getElem?_cons_succ, List.getElem?_cons_zero]; with_reducible rfl) | (simp only [List.getElem?_toArray, List.getElem?_cons_zero]; with_reducible rfl))); (focus rfl); simp only [Act.put, List.setIfInBounds_toArray, List.set_cons_zero, List.set_cons_succ])
                    | (refine ChainL.val (o := ?_) (v := ?_) ?_ ?_ ?_ ?_ ?_; rotate_left 2; (focus (first | (simp only [List.getElem?_toArray, List.getElem?_cons_succ, List.getElem?_cons_zero]; with_reducible rfl) | (simp only [List.getElem?_toArray, List.getElem?_cons_zero]; with_reducible rfl))); (focus (intro _ _ h; cases h)); (focus rfl); (focus (intro w' hI; have c1' := (Below.cell hI (p := ⟨fb, fo + z, none⟩) gl).trans gz; have gl' := Nat.lt_of_lt_of_le gl hI.size; go_simp <;> with_reducible rfl)); simp only [Act.put, List.setIfInBounds_toArray, List.set_cons_zero, List.set_cons_succ]))
                  refine ChainL.nil ?_
                  have BD : Below wr.heap.size wr wr.drew := (Below.refl _ _).drew
                  have HTD := Lib.hid (HBL.out _ _ _ HT1.out BD)
                  have gz' := (Below.cell BD (p := ⟨fb, fo + z, none⟩) gl).trans gz
                  have gl' : fb < wr.drew.heap.size := Nat.lt_of_lt_of_le gl BD.size
                  clear gz gl BD
                  generalize wr.drew = wd at *
                  have hor8 := or8u f hf8 hf3
                  have hcv : IntKind.u8.wrap (t : Int) = (t : Int) := by unfold IntKind.wrap; show (t : Int) % 256 = _; omega
                  have d12 : decide ((t : Int) > 0) = true := by simp; omega
                  have d12' : decide (0 < (t : Int)) = true := by simp; omega
                  have CD := HDA.out Wd (wd.alloc (.cells #[.int .u8 ((f + 8 : Nat) : Int), .int .u8 (t : Nat)] 5)) (some ⟨wd.heap.size, 0, none⟩) 2 2 [.int .u8 ((f + 8 : Nat) : Int), .int .u8 (t : Nat)] (HBL.out _ _ _ HTD.out (below_a1 wd _)) ((lists_row wd [.int .u8 ((f + 8 : Nat) : Int), .int .u8 (t : Nat)] 5).more (by simp)) rfl (b8_two (f + 8) t (by have := or8 f hf8 hf3; omega) (by omega)) (by omega)
                  have HZ2 := Lib.hid (show Z = (Wd ++ [.int .u8 ((f + 8 : Nat) : Int), .int .u8 (t : Nat)]) ++ pfE j (iF (F.drop (z + (t + 1)))) by
                    have h8 := or8 f hf8 hf3
                    have e1 : ((f + 8 : Nat) : Int) % 256 = ((f + 8 : Nat) : Int) := by have := h8.2.2.2; omega
                    have e2 : (((t + 1 : Nat) : Int) - 1) % 256 = (t : Int) := by omega
                    have hE : be1 (bits .or .i64 (f : Nat) 8) ++ be1 (((t + 1 : Nat) : Int) - 1) = [.int .u8 ((f + 8 : Nat) : Int), .int .u8 (t : Nat)] := by
                      rw [h8.1]; unfold be1; rw [e1, e2]; rfl
                    rw [HTZ.out, pfE_step HFZ.out HRUN.out (by omega), if_neg (by omega), hE, ← List.append_assoc])
                  have e8 : ((f + 8 : Nat) : Int) = (f : Int) + 8 := by omega
                  rw [e8] at CD HZ2
                  clear e8
                  have h16 : z + t ≤ 100000 := by omega
                  have h17 : z + t + 1 ≤ 100000 := by omega
                  go_wp2_with (first | (go_at_call 54; ((with_reducible refine (CD).mono ?_); rintro e w11 ⟨rfl, T11⟩; have HT11 := Lib.hid T11; clear hcv hor8 d12 d12' T11 CD; obtain ⟨zu, hzu⟩ : ∃ zu, zu = z + t := ⟨_, rfl⟩; have kk : (z : Int) + (t : Int) = (zu : Int) := (by omega); have hzu2 : zu ≤ 100000 := (by omega); clear hzu)))
                  go_roundw
                  case rel => exact ⟨z + (t + 1), j, _, by first | rfl | (go_num) | (exact congrArg (Value.int .i64) (by omega)), by omega, by omega, by simp only [List.length_append, List.length_cons, List.length_nil]; omega, Lib.hid ⟨HT11.out, HZ2.out⟩⟩
                  case measure => first | (simp [intOf]; done) | (simp [intOf]; omega)
                · have d7 : decide ((t : Int) < 255) = true := by simp; omega
                  obtain ⟨zt, hzt2⟩ : ∃ zt, zt = z + t := ⟨_, rfl⟩
                  obtain ⟨pp, hpp⟩ : ∃ pp, pp = zt + 1 := ⟨_, rfl⟩
                  have hzl : zt ≤ 100000 := by omega
                  have hpl : pp ≤ 100000 := by omega
                  have HPP := Lib.hid (show pp = z + t + 1 by omega)
                  have e12 : (z : Int) + (t : Int) = (zt : Int) := by omega
                  have e13 : (zt : Int) + 1 = (pp : Int) := by omega
                  have HWZ := Lib.hid (show IntKind.i64.wrap (zt : Int) = (zt : Int) ∧ IntKind.i64.wrap (pp : Int) = (pp : Int) from ⟨wrap_nati zt hzl, wrap_nati pp hpl⟩)
                  clear hzt2 hpp hzl hpl
                  by_cases hend : pp = n
                  · have HRUN := Lib.hid (runL_is (f := (f : Int)) (F := iF (F.drop z)) (r := t + 1) (by rw [hdl]; omega) (by omega) hall (.inr (.inl (by rw [hdl]; have := HPP.out; omega))))
                    have d8 : decide ((pp : Int) < (n : Int)) = false := by simp; omega
                    have hnp : ¬ pp < n := by omega
                    have d8n : decide (pp < n) = false := by simp; omega
                    clear hend
                    clear hcl hzi hall hdl lfv hbT
                    obtain ⟨e10, e11⟩ := HWZ.out
                    go_wp2
                    refine wp_region_chain (fun V => Below wr.heap.size wr V) [(0, false), (1, false), (2, false), (3, false), (4, false), (5, false), (6, false), (7, false), (8, false), (9, false), (10, false), (11, false), (12, false), (13, false), (14, false), (15, false), (16, false), (17, false), (18, false), (19, false), (20, false), (21, false), (22, false), (23, false), (24, false)] (by kernel_rfl) (by kernel_rfl) (((Below.refl _ _).drew)) ?_
                    repeat (first
                      | (refine ChainL.skip (o := ?_) ?_ ?_ ?_; rotate_left; (focus (first | (simp only [List.getElem?_toArray, List.getElem?_cons_succ, List.getElem?_cons_zero]; with_reducible rfl) | (simp only [List.getElem?_toArray, List.getElem?_cons_zero]; with_reducible rfl))); (focus rfl); simp only [Act.put, List.setIfInBounds_toArray, List.set_cons_zero, List.set_cons_succ])
                      | (refine ChainL.val (o := ?_) (v := ?_) ?_ ?_ ?_ ?_ ?_; rotate_left 2; (focus (first | (simp only [List.getElem?_toArray, List.getElem?_cons_succ, List.getElem?_cons_zero]; with_reducible rfl) | (simp only [List.getElem?_toArray, List.getElem?_cons_zero]; with_reducible rfl))); (focus (intro _ _ h; cases h)); (focus rfl); (focus (intro w' hI; have c1' := (Below.cell hI (p := ⟨fb, fo + z, none⟩) gl).trans gz; have gl' := Nat.lt_of_lt_of_le gl hI.size; go_simp <;> with_reducible rfl)); simp only [Act.put, List.setIfInBounds_toArray, List.set_cons_zero, List.set_cons_succ]))
                    refine ChainL.nil ?_
                    clear e10 e11 e12 e13
                    have BD : Below wr.heap.size wr wr.drew := (Below.refl _ _).drew
                    have HTD := Lib.hid (HBL.out _ _ _ HT1.out BD)
                    have gz' := (Below.cell BD (p := ⟨fb, fo + z, none⟩) gl).trans gz
                    have gl' : fb < wr.drew.heap.size := Nat.lt_of_lt_of_le gl BD.size
                    clear gz gl BD
                    generalize wr.drew = wd at *
                    by_cases ht0 : t = 0
                    · subst ht0
                      have SL := spslice_ok8 (some ⟨fb, fo, none⟩) n cf z (z + 1) (by omega) (by omega) (by omega)
                      rw [show z + 1 - z = 1 by omega] at SL
                      rw [show ((z + 1 : Nat) : Int) = (z : Int) + 1 by omega] at SL
                      have LF := Lib.hid (show Lists wd wd.heap.size ((some (⟨fb, fo, none⟩ : Addr)).map (·.add z)) (be1 (f : Nat)) by
                        have h1 := lists_part (HRF.out _ _ HTD.out) z 1
                        have h2 : ((fB F).drop z).take 1 = be1 (f : Nat) := by
                          unfold fB be1
                          rw [← List.map_drop, ← List.map_take, List.take_one, List.head?_drop, HFZ.out]
                          simp only [Option.toList_some, List.map_cons, List.map_nil]
                          congr 2
                          omega
                        rw [h2] at h1
                        exact h1)
                      generalize (some (⟨fb, fo, none⟩ : Addr)).map (·.add z) = Az at *
                      have CD := HDA.out Wd wd Az 1 (cf - z) (be1 (f : Nat)) HTD.out LF.out rfl (be1_bytes _) (by omega)
                      have HZ2 := Lib.hid (show Z = (Wd ++ be1 (f : Nat)) ++ pfE j (iF (F.drop (z + 1))) by rw [HTZ.out, pfE_step HFZ.out HRUN.out (Nat.le_refl _), if_pos rfl, List.append_assoc])
                      go_wp2_with (first | (go_at_call 54; ((with_reducible refine (CD).mono ?_); rintro e w11 ⟨rfl, T11⟩; have HT11 := Lib.hid T11; clear T11 CD SL)))
                      go_roundw
                      case rel => exact ⟨z + 1, j, Wd ++ be1 (f : Nat), by first | rfl | (go_num), by omega, by omega, by rw [List.length_append, be1_len]; omega, Lib.hid ⟨HT11.out, HZ2.out⟩⟩
                      case measure => first | (simp [intOf]; done) | (simp [intOf]; omega)
                    · have hor8 := or8u f hf8 hf3
                      have hcv : IntKind.u8.wrap (t : Int) = (t : Int) := by unfold IntKind.wrap; show (t : Int) % 256 = _; omega
                      have d12 : decide ((t : Int) > 0) = true := by simp; omega
                      have d12' : decide (0 < (t : Int)) = true := by simp; omega
                      have CD := HDA.out Wd (wd.alloc (.cells #[.int .u8 ((f + 8 : Nat) : Int), .int .u8 (t : Nat)] 5)) (some ⟨wd.heap.size, 0, none⟩) 2 2 [.int .u8 ((f + 8 : Nat) : Int), .int .u8 (t : Nat)] (HBL.out _ _ _ HTD.out (below_a1 wd _)) ((lists_row wd [.int .u8 ((f + 8 : Nat) : Int), .int .u8 (t : Nat)] 5).more (by simp)) rfl (b8_two (f + 8) t (by have := or8 f hf8 hf3; omega) (by omega)) (by omega)
                      have HZ2 := Lib.hid (show Z = (Wd ++ [.int .u8 ((f + 8 : Nat) : Int), .int .u8 (t : Nat)]) ++ pfE j (iF (F.drop (z + (t + 1)))) by
                        have h8 := or8 f hf8 hf3
                        have e1 : ((f + 8 : Nat) : Int) % 256 = ((f + 8 : Nat) : Int) := by have := h8.2.2.2; omega
                        have e2 : (((t + 1 : Nat) : Int) - 1) % 256 = (t : Int) := by omega
                        have hE : be1 (bits .or .i64 (f : Nat) 8) ++ be1 (((t + 1 : Nat) : Int) - 1) = [.int .u8 ((f + 8 : Nat) : Int), .int .u8 (t : Nat)] := by
                          rw [h8.1]; unfold be1; rw [e1, e2]; rfl
                        rw [HTZ.out, pfE_step HFZ.out HRUN.out (by omega), if_neg (by omega), hE, ← List.append_assoc])
                      have e8 : ((f + 8 : Nat) : Int) = (f : Int) + 8 := by omega
                      rw [e8] at CD HZ2
                      clear e8
                      have h16 : z + t ≤ 100000 := by omega
                      have h17 : z + t + 1 ≤ 100000 := by omega
                      go_wp2_with (first | (go_at_call 54; ((with_reducible refine (CD).mono ?_); rintro e w11 ⟨rfl, T11⟩; have HT11 := Lib.hid T11; clear hcv hor8 d12 d12' T11 CD; obtain ⟨zu, hzu⟩ : ∃ zu, zu = z + t := ⟨_, rfl⟩; have kk : (z : Int) + (t : Int) = (zu : Int) := (by omega); have hzu2 : zu ≤ 100000 := (by omega); clear hzu)))
                      go_roundw
                      case rel => exact ⟨z + (t + 1), j, _, by first | rfl | (go_num) | (exact congrArg (Value.int .i64) (by omega)), by omega, by omega, by simp only [List.length_append, List.length_cons, List.length_nil]; omega, Lib.hid ⟨HT11.out, HZ2.out⟩⟩
                      case measure => first | (simp [intOf]; done) | (simp [intOf]; omega)
                  · have hpn : pp < n := by have := HPP.out; omega
                    obtain ⟨g, hg⟩ : ∃ g, F[pp]? = some g := ⟨_, List.getElem?_eq_getElem (by rw [← HN.out]; exact hpn)⟩
                    have hgi : (fB F)[pp]? = some (.int .u8 (g : Nat)) := by unfold fB; rw [List.getElem?_map, hg]; rfl
                    have gt := hcl pp _ hgi
                    have d8 : decide ((pp : Int) < (n : Int)) = true := by simp; omega
                    by_cases hgf : g = f
                    · have d9 : ((g : Int) == (f : Int)) = true := by simp; omega
                      have HSN := Lib.hid (show ∀ x, x ≤ t + 1 → F[z + x]? = some f from fun x hx => by
                        by_cases hxt : x ≤ t
                        · exact HSA.out x hxt
                        · have e : z + x = pp := by have := HPP.out; omega
                          rw [e, hg, hgf])
                      clear hcl hzi hall hdl lfv hbT hg hgi
                      obtain ⟨e10, e11⟩ := HWZ.out
                      go_wp2
                      refine wp_region_chain (fun V => Below wr.heap.size wr V) [(0, false), (1, false), (2, false), (3, false), (4, false), (5, false), (6, false), (7, false), (8, false), (9, false), (10, false), (11, false), (12, false), (13, false), (14, false), (15, false), (16, false), (17, false), (18, false), (19, false), (20, false), (21, false), (22, false), (23, false), (24, false)] (by kernel_rfl) (by kernel_rfl) (((Below.refl _ _).drew)) ?_
                      repeat (first
                        | (refine ChainL.skip (o := ?_) ?_ ?_ ?_; rotate_left; (focus (first | (simp only [List.getElem?_toArray, List.getElem?_cons_succ, List.getElem?_cons_zero]; with_reducible rfl) | (simp only [List.getElem?_toArray, List.getElem?_cons_zero]; with_reducible rfl))); (focus rfl); simp only [Act.put, List.setIfInBounds_toArray, List.set_cons_zero, List.set_cons_succ])
                        | (refine ChainL.val (o := ?_) (v := ?_) ?_ ?_ ?_ ?_ ?_; rotate_left 2; (focus (first | (simp only [List.getElem?_toArray, List.getElem?_cons_succ, List.getElem?_cons_zero]; with_reducible rfl) | (simp only [List.getElem?_toArray, List.getElem?_cons_zero]; with_reducible rfl))); (focus (intro _ _ h; cases h)); (focus rfl); (focus (intro w' hI; have c1' := (Below.cell hI (p := ⟨fb, fo + z, none⟩) gl).trans gz; have gl' := Nat.lt_of_lt_of_le gl hI.size; have c2' := (Below.cell hI (p := ⟨fb, fo + pp, none⟩) gl).trans gt; go_simp <;> with_reducible rfl)); simp only [Act.put, List.setIfInBounds_toArray, List.set_cons_zero, List.set_cons_succ]))
                      refine ChainL.nil ?_
                      clear e10 e11 e12 e13
                      have BD : Below wr.heap.size wr wr.drew := (Below.refl _ _).drew
                      have HTD := Lib.hid (HBL.out _ _ _ HT1.out BD)
                      clear gz gt gl BD
                      generalize wr.drew = wd at *
                      go_wp2
                      go_roundw
                      case rel => exact ⟨t + 1, by first | rfl | (go_num), by omega, by have := HPP.out; omega, HSN, HTD⟩
                      case measure => first | (simp [intOf]; done) | (simp [intOf]; omega)
                    · have d9 : ((g : Int) == (f : Int)) = false := by simp; omega
                      have HRUN := Lib.hid (runL_is (f := (f : Int)) (F := iF (F.drop z)) (r := t + 1) (by rw [hdl]; omega) (by omega) hall (.inr (.inr ⟨(g : Int), by unfold iF; rw [List.getElem?_map, List.getElem?_drop, show z + (t + 1) = pp from by have := HPP.out; omega, hg]; rfl, by omega⟩)))
                      clear hcl hzi hall hdl lfv hbT hg hgi
                      obtain ⟨e10, e11⟩ := HWZ.out
                      go_wp2
                      refine wp_region_chain (fun V => Below wr.heap.size wr V) [(0, false), (1, false), (2, false), (3, false), (4, false), (5, false), (6, false), (7, false), (8, false), (9, false), (10, false), (11, false), (12, false), (13, false), (14, false), (15, false), (16, false), (17, false), (18, false), (19, false), (20, false), (21, false), (22, false), (23, false), (24, false)] (by kernel_rfl) (by kernel_rfl) (((Below.refl _ _).drew)) ?_
                      repeat (first
                        | (refine ChainL.skip (o := ?_) ?_ ?_ ?_; rotate_left; (focus (first | (simp only [List.getElem?_toArray, List.getElem?_cons_succ, List.getElem?_cons_zero]; with_reducible rfl) | (simp only [List.getElem?_toArray, List.getElem?_cons_zero]; with_reducible rfl))); (focus rfl); simp only [Act.put, List.setIfInBounds_toArray, List.set_cons_zero, List.set_cons_succ])
                        | (refine ChainL.val (o := ?_) (v := ?_) ?_ ?_ ?_ ?_ ?_; rotate_left 2; (focus (first | (simp only [List.getElem?_toArray, List.getElem?_cons_succ, List.getElem?_cons_zero]; with_reducible rfl) | (simp only [List.getElem?_toArray, List.getElem?_cons_zero]; with_reducible rfl))); (focus (intro _ _ h; cases h)); (focus rfl); (focus (intro w' hI; have c1' := (Below.cell hI (p := ⟨fb, fo + z, none⟩) gl).trans gz; have gl' := Nat.lt_of_lt_of_le gl hI.size; have c2' := (Below.cell hI (p := ⟨fb, fo + pp, none⟩) gl).trans gt; go_simp <;> with_reducible rfl)); simp only [Act.put, List.setIfInBounds_toArray, List.set_cons_zero, List.set_cons_succ]))
                      refine ChainL.nil ?_
                      clear e10 e11 e12 e13
                      have BD : Below wr.heap.size wr wr.drew := (Below.refl _ _).drew
                      have HTD := Lib.hid (HBL.out _ _ _ HT1.out BD)
                      have gz' := (Below.cell BD (p := ⟨fb, fo + z, none⟩) gl).trans gz
                      have gl' : fb < wr.drew.heap.size := Nat.lt_of_lt_of_le gl BD.size
                      clear gz gl BD
                      generalize wr.drew = wd at *
                      by_cases ht0 : t = 0
                      · subst ht0
                        have SL := spslice_ok8 (some ⟨fb, fo, none⟩) n cf z (z + 1) (by omega) (by omega) (by omega)
                        rw [show z + 1 - z = 1 by omega] at SL
                        rw [show ((z + 1 : Nat) : Int) = (z : Int) + 1 by omega] at SL
                        have LF := Lib.hid (show Lists wd wd.heap.size ((some (⟨fb, fo, none⟩ : Addr)).map (·.add z)) (be1 (f : Nat)) by
                          have h1 := lists_part (HRF.out _ _ HTD.out) z 1
                          have h2 : ((fB F).drop z).take 1 = be1 (f : Nat) := by
                            unfold fB be1
                            rw [← List.map_drop, ← List.map_take, List.take_one, List.head?_drop, HFZ.out]
                            simp only [Option.toList_some, List.map_cons, List.map_nil]
                            congr 2
                            omega
                          rw [h2] at h1
                          exact h1)
                        generalize (some (⟨fb, fo, none⟩ : Addr)).map (·.add z) = Az at *
                        have CD := HDA.out Wd wd Az 1 (cf - z) (be1 (f : Nat)) HTD.out LF.out rfl (be1_bytes _) (by omega)
                        have HZ2 := Lib.hid (show Z = (Wd ++ be1 (f : Nat)) ++ pfE j (iF (F.drop (z + 1))) by rw [HTZ.out, pfE_step HFZ.out HRUN.out (Nat.le_refl _), if_pos rfl, List.append_assoc])
                        go_wp2_with (first | (go_at_call 54; ((with_reducible refine (CD).mono ?_); rintro e w11 ⟨rfl, T11⟩; have HT11 := Lib.hid T11; clear T11 CD SL)))
                        go_roundw
                        case rel => exact ⟨z + 1, j, Wd ++ be1 (f : Nat), by first | rfl | (go_num), by omega, by omega, by rw [List.length_append, be1_len]; omega, Lib.hid ⟨HT11.out, HZ2.out⟩⟩
                        case measure => first | (simp [intOf]; done) | (simp [intOf]; omega)
                      · have hor8 := or8u f hf8 hf3
                        have hcv : IntKind.u8.wrap (t : Int) = (t : Int) := by unfold IntKind.wrap; show (t : Int) % 256 = _; omega
                        have d12 : decide ((t : Int) > 0) = true := by simp; omega
                        have d12' : decide (0 < (t : Int)) = true := by simp; omega
                        have CD := HDA.out Wd (wd.alloc (.cells #[.int .u8 ((f + 8 : Nat) : Int), .int .u8 (t : Nat)] 5)) (some ⟨wd.heap.size, 0, none⟩) 2 2 [.int .u8 ((f + 8 : Nat) : Int), .int .u8 (t : Nat)] (HBL.out _ _ _ HTD.out (below_a1 wd _)) ((lists_row wd [.int .u8 ((f + 8 : Nat) : Int), .int .u8 (t : Nat)] 5).more (by simp)) rfl (b8_two (f + 8) t (by have := or8 f hf8 hf3; omega) (by omega)) (by omega)
                        have HZ2 := Lib.hid (show Z = (Wd ++ [.int .u8 ((f + 8 : Nat) : Int), .int .u8 (t : Nat)]) ++ pfE j (iF (F.drop (z + (t + 1)))) by
                          have h8 := or8 f hf8 hf3
                          have e1 : ((f + 8 : Nat) : Int) % 256 = ((f + 8 : Nat) : Int) := by have := h8.2.2.2; omega
                          have e2 : (((t + 1 : Nat) : Int) - 1) % 256 = (t : Int) := by omega
                          have hE : be1 (bits .or .i64 (f : Nat) 8) ++ be1 (((t + 1 : Nat) : Int) - 1) = [.int .u8 ((f + 8 : Nat) : Int), .int .u8 (t : Nat)] := by
                            rw [h8.1]; unfold be1; rw [e1, e2]; rfl
                          rw [HTZ.out, pfE_step HFZ.out HRUN.out (by omega), if_neg (by omega), hE, ← List.append_assoc])
                        have e8 : ((f + 8 : Nat) : Int) = (f : Int) + 8 := by omega
                        rw [e8] at CD HZ2
                        clear e8
                        have h16 : z + t ≤ 100000 := by omega
                        have h17 : z + t + 1 ≤ 100000 := by omega
                        go_wp2_with (first | (go_at_call 54; ((with_reducible refine (CD).mono ?_); rintro e w11 ⟨rfl, T11⟩; have HT11 := Lib.hid T11; clear hcv hor8 d12 d12' T11 CD; obtain ⟨zu, hzu⟩ : ∃ zu, zu = z + t := ⟨_, rfl⟩; have kk : (z : Int) + (t : Int) = (zu : Int) := (by omega); have hzu2 : zu ≤ 100000 := (by omega); clear hzu)))
                        go_roundw
                        case rel => exact ⟨z + (t + 1), j, _, by first | rfl | (go_num) | (exact congrArg (Value.int .i64) (by omega)), by omega, by omega, by simp only [List.length_append, List.length_cons, List.length_nil]; omega, Lib.hid ⟨HT11.out, HZ2.out⟩⟩
                        case measure => first | (simp [intOf]; done) | (simp [intOf]; omega)
            · obtain rfl : z = n := by omega
              have d6 : decide ((z : Int) < (z : Int)) = false := by simp
              have HZE := Lib.hid (show Z = Wd by
                have := HT.out.2
                rw [List.drop_eq_nil_of_le (by rw [← HN.out]; exact Nat.le_refl _)] at this
                rw [this]; cases j <;> simp [iF, pfE])
              have HT1 := Lib.hid HT.out.1
              have CX := HDA.out Wd wr Ax lx cx (sB X) HT1.out (HRX.out _ _ HT1.out) HLX.out.symm (b8_sB X) (by omega)
              obtain ⟨LZ, hLZ⟩ : ∃ LZ, LZ = (Wd ++ sB X) ++ sB Y := ⟨_, rfl⟩
              have HLZ := Lib.hid hLZ
              clear hLZ
              have CY := fun W (h : TT (Wd ++ sB X) W) => HDA.out (Wd ++ sB X) W Ay ly cy (sB Y) h (HRY.out _ _ h) HLY.out.symm (b8_sB Y) (by rw [List.length_append, ← HLX.out]; omega)
              clear HT
              go_wp2_with (first
                | (go_at_call 54; ((with_reducible refine (CX).mono ?_); rintro e w11 ⟨rfl, T11⟩))
                | (go_at_call 54; ((with_reducible refine (CY _ T11).mono ?_); rintro e w12 ⟨rfl, T12⟩; rw [← HLZ.out] at T12; have HT12 := Lib.hid T12; obtain ⟨A12, c12, hcell, hlists, hlc, hql⟩ := HGV.out _ _ T12; have HL12 := Lib.hid hlists; clear hlists)))
              go_ret2
              have hb12 := HOLD.out _ _ HT12.out
              have hfin : RS0 = (0, LZ) := by rw [HRES.out, HZ'.out, HZE.out, HLZ.out, List.append_assoc]
              exact RncP.yes hfin HL12.out hb12
end Go.Proofs.Ytelhckckcilpaaa
