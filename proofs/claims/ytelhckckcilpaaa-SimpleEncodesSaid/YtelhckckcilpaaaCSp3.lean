/- Part 4 of the proof: SpB, SpC, Law, OpenInts, OpenNums, Chain, Bytes2, Copy. -/
import Derived.Shelf.Abstract
import Derived.Test.YtelhckckcilpaaaRows
import Derived.ProofKit
import Derived.OpenShut
import Derived.Carry
import Derived.ChangeSlices
import Derived.Deep.Slices
import Derived.Deep.Fields
import Derived.SizedLaws
import Derived.Deep.OwnRows
import Derived.Laws.CopyOwn
import Derived.Test.YtelhckckcilpaaaCSp2

namespace Go.Proofs.Ytelhckckcilpaaa
open Go Go.RowKit
set_option linter.unusedVariables false
set_option linter.unusedSimpArgs false

/-- What a carrier does with a number in a row of ints: I says what it has come to, fp what it may change besides, ok which rows may be its. -/
structure Carrier {σ : Type} (g bx : Nat) (I : σ → World → Prop) (T : Nat → World → World → Prop) (ok : Nat → Prop) (f : σ → Int → Int × σ) : Prop where
  eg : ∀ args w, (callFunc g args).run Try.prog w = .ok (.enter g args) w
  does : ∀ (s : σ) (W : World) (b o : Nat) (cs : Array Value) (v : Int), I s W → Blk W b 3 cs → cs[o]? = some (.int .i64 v) → ok b → -100000 ≤ v → v ≤ 100000 →
    Calls Try.prog g #[.pointer (some ⟨b, o, none⟩), .pointer (some ⟨bx, 0, none⟩)] W fun e W' => e = .returned (.tuple #[]) ∧ I (f s v).2 W' ∧ Blk W' b 3 (cs.setIfInBounds o (.int .i64 (f s v).1)) ∧ T b W W'
  bound : ∀ (s : σ) (v : Int), -100000 ≤ v → v ≤ 100000 → -100000 ≤ (f s v).1 ∧ (f s v).1 ≤ 100000
/-- What both carriers of a walk share. -/
structure Shared {σ : Type} (I : σ → World → Prop) (T : Nat → World → World → Prop) (ok : Nat → Prop) (A : Option Addr) (F : List Nat) : Prop where
  stay : ∀ (s : σ) (W W' : World) (fp' : List Nat), I s W → Only W W' fp' → (∀ b ∈ fp', ok b ∧ ∃ cs, Blk W b 3 cs) → I s W'
  fresh : ∀ (s : σ) (W : World), I s W → ∀ b, W.heap.size ≤ b → ok b
  flag : ∀ (s : σ) (W : World), I s W → ∀ (i f : Nat), F[i]? = some f → ∃ b o, A = some ⟨b, o, none⟩ ∧ b < W.heap.size ∧ W.cell? ⟨b, o + i, none⟩ = some (.int .i64 (f : Nat))
  refl : ∀ (b : Nat) (W : World), T b W W
  trans : ∀ (b : Nat) (W W1 W2 : World), T b W W1 → T b W1 W2 → T b W W2
  set : ∀ (b : Nat) (W W1 : World) (i : Nat) (v : Value), T b W W1 → T b W (W1.setCell ⟨b, i, none⟩ v)
  temp : ∀ (b : Nat) (W : World) (o : Obj) (W1 : World), T W.heap.size (W.alloc o) W1 → T b W W1
  keep : ∀ (b x : Nat) (W W1 : World) (cs : Array Value), T b W W1 → x ≠ b → ok x → Blk W x 3 cs → Blk W1 x 3 cs
def stepC {σ : Type} (f1 f2 : σ → Int → Int × σ) (j1 j2 : Nat) (f : Nat) (x : Int) (s : σ) : Int × σ :=
  if bt f j1 then (if bt f j2 then f1 s x else (-(f1 s (-x)).1, (f1 s (-x)).2)) else if bt f j2 then (x, s) else f2 s x
def carr {σ : Type} (f1 f2 : σ → Int → Int × σ) (j1 j2 : Nat) : List Nat → List Int → σ → List Int × σ
  | f :: F, x :: X, s => ((stepC f1 f2 j1 j2 f x s).1 :: (carr f1 f2 j1 j2 F X (stepC f1 f2 j1 j2 f x s).2).1, (carr f1 f2 j1 j2 F X (stepC f1 f2 j1 j2 f x s).2).2)
  | [], X, s => (X, s)
  | _ :: _, [], s => ([], s)
theorem carr_next {σ : Type} {f1 f2 : σ → Int → Int × σ} {j1 j2 i f : Nat} {x : Int} {F : List Nat} {X : List Int} (s : σ) (hF : F[i]? = some f) (hX : X[i]? = some x) :
    carr f1 f2 j1 j2 (F.drop i) (X.drop i) s = ((stepC f1 f2 j1 j2 f x s).1 :: (carr f1 f2 j1 j2 (F.drop (i + 1)) (X.drop (i + 1)) (stepC f1 f2 j1 j2 f x s).2).1, (carr f1 f2 j1 j2 (F.drop (i + 1)) (X.drop (i + 1)) (stepC f1 f2 j1 j2 f x s).2).2) := by
  obtain ⟨h1, h2⟩ := List.getElem?_eq_some_iff.1 hF
  obtain ⟨h3, h4⟩ := List.getElem?_eq_some_iff.1 hX
  rw [List.drop_eq_getElem_cons h1, List.drop_eq_getElem_cons h3, h2, h4]
  rfl
theorem row_at {Y X : List Int} {i : Nat} {x : Int} {Sp : List Value} (hY : Y.length = i) (hX : X[i]? = some x) : ((Y ++ X.drop i).map (Value.int .i64) ++ Sp).toArray[i]? = some (.int .i64 x) := by
  obtain ⟨h3, h4⟩ := List.getElem?_eq_some_iff.1 hX
  rw [List.drop_eq_getElem_cons h3, h4]
  subst hY
  simp
theorem row_set {Y X : List Int} {i : Nat} {x y : Int} {Sp : List Value} (hY : Y.length = i) (hX : X[i]? = some x) : ((Y ++ X.drop i).map (Value.int .i64) ++ Sp).toArray.setIfInBounds i (.int .i64 y) = (((Y ++ [y]) ++ X.drop (i + 1)).map (Value.int .i64) ++ Sp).toArray := by
  obtain ⟨h3, h4⟩ := List.getElem?_eq_some_iff.1 hX
  rw [List.drop_eq_getElem_cons h3, h4]
  subst hY
  simp
/-- Between two steps. -/
structure CaQ {σ : Type} (I : σ → World → Prop) (T : Nat → World → World → Prop) (f1 f2 : σ → Int → Int × σ) (j1 j2 : Nat) (F : List Nat) (X : List Int) (Sp : List Value) (R : List Int × σ) (w : World) (b i : Nat) (Y : List Int) (s : σ) (W : World) : Prop where
  len : Y.length = i
  run : R = (Y ++ (carr f1 f2 j1 j2 (F.drop i) (X.drop i) s).1, (carr f1 f2 j1 j2 (F.drop i) (X.drop i) s).2)
  row : Blk W b 3 ((Y ++ X.drop i).map (Value.int .i64) ++ Sp).toArray
  inv : I s W
  on : T b w W
theorem CaQ.next {σ : Type} {I : σ → World → Prop} {T : Nat → World → World → Prop} {f1 f2 : σ → Int → Int × σ} {j1 j2 : Nat} {F : List Nat} {X : List Int} {Sp : List Value} {R : List Int × σ} {w : World} {b i : Nat} {Y : List Int} {s : σ} {W W2 : World} {f : Nat} {x : Int}
    (ht : ∀ (b : Nat) (W W1 W2 : World), T b W W1 → T b W1 W2 → T b W W2) (h : CaQ I T f1 f2 j1 j2 F X Sp R w b i Y s W) (hF : F[i]? = some f) (hX : X[i]? = some x) (y : Int) (s2 : σ) (hy : stepC f1 f2 j1 j2 f x s = (y, s2)) (row : Blk W2 b 3 (((Y ++ X.drop i).map (Value.int .i64) ++ Sp).toArray.setIfInBounds i (.int .i64 y))) (inv : I s2 W2) (o : T b W W2) : CaQ I T f1 f2 j1 j2 F X Sp R w b (i + 1) (Y ++ [y]) s2 W2 where
  len := by simp [h.len]
  run := by rw [h.run, carr_next s hF hX, hy]; simp
  row := by rw [← row_set h.len hX]; exact row
  inv := inv
  on := ht _ _ _ _ h.on o
theorem set_same {cs : Array Value} {i : Nat} {v : Value} (h : cs[i]? = some v) : cs.setIfInBounds i v = cs := by
  apply Array.ext
  · simp
  · intro j h1 h2
    rw [Array.getElem_setIfInBounds]
    split
    · rename_i e
      subst e
      obtain ⟨h3, h4⟩ := Array.getElem?_eq_some_iff.1 h
      exact h4.symm
    · rfl
set_option maxRecDepth 100000 in
set_option maxHeartbeats 2000000 in
theorem carry_any {σ : Type} (g1 g2 bx1 bx2 j1 j2 : Nat) (sm sa : Int) (I : σ → World → Prop) (T : Nat → World → World → Prop) (ok : Nat → Prop) (f1 f2 : σ → Int → Int × σ) (A : Option Addr) (c n b cx : Nat) (F : List Nat) (X : List Int) (Sp : List Value) (s0 : σ) (w : World)
    (H1 : Carrier g1 bx1 I T ok f1) (H2 : Carrier g2 bx2 I T ok f2) (HS : Shared I T ok A F)
    (hsm : ∀ f : Nat, f < 256 → bits .and .i64 (f : Int) sm = if bt f j1 then sm else 0) (hsa : ∀ f : Nat, f < 256 → bits .and .i64 (f : Int) sa = if bt f j2 then sa else 0) (hm0 : sm ≠ 0) (ha0 : sa ≠ 0)
    (hFn : F.length = n) (hXn : X.length = n) (hn : n ≤ 1000000) (hF : ∀ f ∈ F, f < 256) (hX : ∀ x ∈ X, -100000 ≤ x ∧ x ≤ 100000) (hb : Blk w b 3 (X.map (Value.int .i64) ++ Sp).toArray) (hI : I s0 w) (hok : ok b) :
    Calls Try.prog 76 #[.slice A n c, .slice (some ⟨b, 0, none⟩) n cx, .int .i64 sm, .int .i64 sa, .func (.func g1) #[] #[.pointer (some ⟨bx1, 0, none⟩)], .func (.func g2) #[] #[.pointer (some ⟨bx2, 0, none⟩)]] w fun e w' => e = .returned (.tuple #[]) ∧ Blk w' b 3 ((carr f1 f2 j1 j2 F X s0).1.map (Value.int .i64) ++ Sp).toArray ∧ I (carr f1 f2 j1 j2 F X s0).2 w' ∧ T b w w' := by
  obtain ⟨R, hR⟩ : ∃ R, R = carr f1 f2 j1 j2 F X s0 := ⟨_, rfl⟩
  rw [← hR]
  have Q0 : CaQ I T f1 f2 j1 j2 F X Sp R w b 0 [] s0 w := ⟨rfl, by rw [hR]; rfl, by simpa using hb, hI, HS.refl _ _⟩
  have K1 := Lib.hid H1
  have K2 := Lib.hid H2
  have KS := Lib.hid HS
  have KM := Lib.hid hsm
  have KA := Lib.hid hsa
  have HFN := Lib.hid hFn
  have HXN := Lib.hid hXn
  have HF := Lib.hid hF
  have HX := Lib.hid hX
  have eg1 := H1.eg
  have eg2 := H2.eg
  clear hR hb hI H1 H2 HS hsm hsa hFn hXn hF hX
  go_enter Try.func76, Try.ntmps76
  go_wp2
  go_loopw [17] (fun i wr => ∃ (k : Nat) (Y : List Int) (s : σ), k ≤ n ∧ i = .int .i64 (k : Nat) ∧ CaQ I T f1 f2 j1 j2 F X Sp R w b k Y s wr) (fun i _ => n - (intOf i).toNat)
  case atStart => exact ⟨0, [], s0, Nat.zero_le _, rfl, Q0⟩
  case round =>
    clear Q0
    obtain ⟨i, Y, s, hk, rfl, Q⟩ := hrel
    by_cases hlt : i < n
    · have d1 : decide ((i : Int) < (n : Int)) = true := by simp; omega
      obtain ⟨f, hf⟩ : ∃ f, F[i]? = some f := ⟨_, List.getElem?_eq_getElem (by rw [HFN.out]; exact hlt)⟩
      obtain ⟨x, hx⟩ : ∃ x, X[i]? = some x := ⟨_, List.getElem?_eq_getElem (by rw [HXN.out]; exact hlt)⟩
      have hx2 := HX.out x (List.mem_of_getElem? hx)
      have hf2 := HF.out f (List.mem_of_getElem? hf)
      obtain ⟨bf, of, rfl, hbf, cf⟩ := KS.out.flag s wr Q.inv i f hf
      have em := KM.out f hf2
      have ea := KA.out f hf2
      have cx0 := (Q.row.cell i).trans (row_at Q.len hx)
      have fz := Q.row.frozen i
      have bl := Q.row.lt
      have HQ := Lib.hid Q
      have NX := fun (y : Int) (s2 : σ) (W2 : World) hy row inv o => CaQ.next KS.out.trans Q hf hx y s2 hy row inv o (W2 := W2)
      have HNX := Lib.hid NX
      have RA := Lib.hid (row_at (Sp := Sp) Q.len hx)
      have HS := Lib.hid (show stepC f1 f2 j1 j2 f x s = if bt f j1 then (if bt f j2 then f1 s x else (-(f1 s (-x)).1, (f1 s (-x)).2)) else if bt f j2 then (x, s) else f2 s x from rfl)
      obtain ⟨hx0, hx1⟩ := hx2
      clear NX Q hf hx
      cases hb1 : bt f j1
      · cases hb2 : bt f j2
        · rw [hb1] at em; rw [hb2] at ea
          rw [hb1, hb2] at HS
          simp only [Bool.false_eq_true, if_false] at em ea HS
          have C := K2.out.does s wr b i _ x HQ.out.inv HQ.out.row RA.out hok hx0 hx1
          clear hb1 hb2
          go_wp2_with (first | (go_at_fn g2; ((with_reducible refine (C).mono ?_); rintro e w1 ⟨rfl, hI1, hR1, o1⟩)))
          have QN := HNX.out _ _ w1 HS.out hR1 hI1 o1
          go_roundw
          case rel => exact ⟨i + 1, _, _, by omega, by first | rfl | (go_num), QN⟩
          case measure => first | (simp [intOf]; done) | (simp [intOf]; omega)
        · rw [hb1] at em; rw [hb2] at ea
          rw [hb1, hb2] at HS
          simp only [Bool.false_eq_true, if_false, if_true] at em ea HS
          have d5 : (sa == 0) = false := by simpa using ha0
          have QN := HNX.out _ _ wr HS.out (by rw [set_same RA.out]; exact HQ.out.row) HQ.out.inv (KS.out.refl _ _)
          clear hb1 hb2
          go_wp2
          go_roundw
          case rel => exact ⟨i + 1, _, _, by omega, by first | rfl | (go_num), QN⟩
          case measure => first | (simp [intOf]; done) | (simp [intOf]; omega)
      · have d4 : (sm != 0) = true := by simpa using hm0
        cases hb2 : bt f j2
        · rw [hb1] at em; rw [hb2] at ea
          rw [hb1, hb2] at HS
          simp only [Bool.false_eq_true, if_false, if_true] at em ea HS
          have n1 : wrap64 (-x) = -x := by unfold wrap64; omega
          have C := K1.out.does s (wr.alloc (.cells #[.int .i64 (-x)] 3)) wr.heap.size 0 #[.int .i64 (-x)] (-x) (KS.out.stay s wr _ [] HQ.out.inv ((Only.refl _ _).alloc _) (fun _ h => (nomatch h))) (Blk.new _ _ _) rfl (KS.out.fresh s wr HQ.out.inv _ (Nat.le_refl _)) (by omega) (by omega)
          have hbd := K1.out.bound s (-x) (by omega) (by omega)
          obtain ⟨y, hy⟩ : ∃ y, y = (f1 s (-x)).1 := ⟨_, rfl⟩
          obtain ⟨s2, hs2⟩ : ∃ s2, s2 = (f1 s (-x)).2 := ⟨_, rfl⟩
          rw [← hy, ← hs2] at C HS
          rw [← hy] at hbd
          obtain ⟨hy0, hy1⟩ := hbd
          have n2 : wrap64 (-y) = -y := by unfold wrap64; omega
          have N1 := Lib.hid n1
          have hbn : b ≠ wr.heap.size := by omega
          clear hb1 hb2 hy hs2
          go_wp2_with (first | (go_at_fn g1; ((with_reducible refine (C).mono ?_); rintro e w1 ⟨rfl, hI1, hR1, o1⟩; have c9 : w1.cell? ⟨wr.heap.size, 0, none⟩ = some (.int .i64 y) := hR1.cell 0; have l9 := hR1.lt; have K9 := Lib.hid (KS.out.keep _ _ _ _ _ o1 hbn hok ((HQ.out.row).below (below_a1 wr (.cells #[.int .i64 (-x)] 3)))); have c8 := (K9.out.cell i).trans RA.out; have f9 := K9.out.frozen i; have l8 := K9.out.lt)))
          have QN := HNX.out (-y) s2 (w1.setCell ⟨b, i, none⟩ (.int .i64 (-y))) HS.out (K9.out.set i _) (KS.out.stay s2 w1 _ [b] hI1 ((Only.refl w1 [b]).set (p := ⟨b, i, none⟩) (.inl (by simp)) _) (fun b' hb' => by simp at hb'; subst hb'; exact ⟨hok, _, K9.out⟩)) (KS.out.set _ _ _ _ _ (KS.out.temp _ _ _ _ o1))
          go_roundw
          case rel => exact ⟨i + 1, _, _, by omega, by first | rfl | (go_num), QN⟩
          case measure => first | (simp [intOf]; done) | (simp [intOf]; omega)
        · rw [hb1] at em; rw [hb2] at ea
          rw [hb1, hb2] at HS
          simp only [if_true] at em ea HS
          have d5 : (sa != 0) = true := by simpa using ha0
          have C := K1.out.does s wr b i _ x HQ.out.inv HQ.out.row RA.out hok hx0 hx1
          clear hb1 hb2
          go_wp2_with (first | (go_at_fn g1; ((with_reducible refine (C).mono ?_); rintro e w1 ⟨rfl, hI1, hR1, o1⟩)))
          have QN := HNX.out _ _ w1 HS.out hR1 hI1 o1
          go_roundw
          case rel => exact ⟨i + 1, _, _, by omega, by first | rfl | (go_num), QN⟩
          case measure => first | (simp [intOf]; done) | (simp [intOf]; omega)
    · obtain rfl : i = n := by omega
      have d1 : ¬ (i : Int) < (i : Int) := by omega
      have HRR := Lib.hid Q.run
      have e1 : F.drop i = [] := List.drop_eq_nil_of_le (by rw [HFN.out]; exact Nat.le_refl _)
      have e2 : X.drop i = [] := List.drop_eq_nil_of_le (by rw [HXN.out]; exact Nat.le_refl _)
      have hrow := Q.row
      have hinv := Q.inv
      have hon := Q.on
      rw [e1, e2] at HRR
      rw [e2] at hrow
      have HW := Lib.hid (And.intro hrow (And.intro hinv hon))
      clear Q e1 e2 hrow hinv hon
      go_wp2
      go_end0
      refine ⟨rfl, ?_, ?_, HW.out.2.2⟩
      · rw [HRR.out]; exact HW.out.1
      · rw [HRR.out]; exact HW.out.2.1
end Go.Proofs.Ytelhckckcilpaaa

namespace Go.Proofs.Ytelhckckcilpaaa
open Go Go.RowKit
set_option linter.unusedVariables false
set_option linter.unusedSimpArgs false
variable {q : Nat → Prop}

theorem spfrom_any (m p : Nat) (w : World) : Calls Try.prog 59 #[.func (.func m) #[.pointer (some ⟨p, 0, none⟩)] #[]] w fun e w' => e = .returned (.func (.func 85) #[] #[.pointer (some ⟨w.heap.size, 0, none⟩)]) ∧ w' = w.alloc (.cells #[.func (.func m) #[.pointer (some ⟨p, 0, none⟩)] #[]] 42) := by
  go_enter Try.func59, Try.ntmps59
  go_wp2
  go_ret
  exact ⟨rfl, rfl⟩
/-- The memory that the carriers that read share: the reader, the two boxes, the flags. -/
structure RIn (q : Nat → Prop) (p bx1 bx2 base : Nat) (bs : List Value) (fv : Value) (F : List Nat) (k : Nat) (W : World) : Prop where
  rd : RS q W p bs k
  box1 : Blk W bx1 42 #[.func (.func 60) #[.pointer (some ⟨p, 0, none⟩)] #[]]
  box2 : Blk W bx2 42 #[.func (.func 30) #[.pointer (some ⟨p, 0, none⟩)] #[]]
  flags : W.ownsRow base 3 1 fv F.length (ints F)
  qlt : ∀ b, q b → b < W.heap.size
  plt : p < W.heap.size
  pne : p ≠ bx1 ∧ p ≠ bx2 ∧ p ∉ blk fv
def okR (q : Nat → Prop) (p bx1 bx2 : Nat) (fv : Value) (b : Nat) : Prop := b ≠ p ∧ b ≠ bx1 ∧ b ≠ bx2 ∧ ¬ q b ∧ b ∉ blk fv
theorem RIn.keep {p bx1 bx2 base : Nat} {bs : List Value} {fv : Value} {F : List Nat} {k k2 : Nat} {W W2 : World} {fp : List Nat} (h : RIn q p bx1 bx2 base bs fv F k W) (o : Only W W2 fp) (hf : ∀ b ∈ fp, b ≠ bx1 ∧ b ≠ bx2 ∧ b ∉ blk fv) (r : RS q W2 p bs k2) : RIn q p bx1 bx2 base bs fv F k2 W2 :=
  ⟨r, h.box1.only o (fun hm => (hf _ hm).1 rfl), h.box2.only o (fun hm => (hf _ hm).2.1 rfl), own_only h.flags o (fun b hb hm => (hf b hm).2.2 hb), fun b hb => Nat.lt_of_lt_of_le (h.qlt b hb) o.size, Nat.lt_of_lt_of_le h.plt o.size, h.pne⟩
theorem RIn.stay {p bx1 bx2 base : Nat} {bs : List Value} {fv : Value} {F : List Nat} {k : Nat} {W W2 : World} {fp : List Nat} (h : RIn q p bx1 bx2 base bs fv F k W) (o : Only W W2 fp) (hf : ∀ b ∈ fp, okR q p bx1 bx2 fv b) : RIn q p bx1 bx2 base bs fv F k W2 :=
  h.keep o (fun b hb => ⟨(hf b hb).2.1, (hf b hb).2.2.1, (hf b hb).2.2.2.2⟩) (h.rd.only o (fun hm => (hf _ hm).1 rfl) (fun b hb => (hf b hb).2.2.2.1))
/-- What is changed is a row, and fp. -/
abbrev TO (fp : List Nat) (b : Nat) (W W' : World) : Prop := Only W W' (b :: fp)
theorem shared_r (p bx1 bx2 base : Nat) (bs : List Value) (A : Option Addr) (c n : Nat) (F : List Nat) (hF : F.length = n) : Shared (RIn q p bx1 bx2 base bs (.slice A n c) F) (TO [p]) (okR q p bx1 bx2 (.slice A n c)) A F where
  stay := fun s W W' fp' h o hf => h.stay o fun b hb => (hf b hb).1
  fresh := fun s W h b hb => ⟨fun e => by have := h.plt; omega, fun e => by have := h.box1.lt; omega, fun e => by have := h.box2.lt; omega, fun hq => by have := h.qlt b hq; omega, fun hm => by have := blk_lt h.flags b hm; omega⟩
  flag := fun s W h i f hf => by
    obtain ⟨A', c', he, hl, _⟩ := own_lists h.flags
    have hA : A = A' := by injection he
    subst hA
    have hi : (ints F)[i]? = some (.int .i64 (f : Nat)) := by unfold ints; rw [List.getElem?_map, hf]; rfl
    obtain ⟨b, o, rfl, hb, hc⟩ := hl.plain (by intro e; rw [e] at hi; simp at hi)
    exact ⟨b, o, rfl, hb, hc i _ hi⟩
  refl := fun b W => Only.refl _ _
  trans := fun b W W1 W2 h k => h.trans k fun b hb => .inl hb
  set := fun b W W1 i v h => Only.set (p := ⟨b, i, none⟩) h (.inl (by simp)) _
  temp := fun b W o W1 h => ((Only.refl W (b :: [p])).alloc o).trans h (fun b' hb' => by
    simp only [List.mem_cons, List.not_mem_nil, or_false] at hb'
    rcases hb' with h | h
    · exact .inr (by omega)
    · exact .inl (by simp [h]))
  keep := fun b x W W1 cs h hne hok hb => hb.only h (fun hm => by
    simp only [List.mem_cons, List.not_mem_nil, or_false] at hm
    rcases hm with h | h
    · exact hne h
    · exact hok.1 h)
set_option maxRecDepth 100000 in
theorem car_u8 (p bx1 bx2 base : Nat) (bs : List Value) (fv : Value) (F : List Nat) (hL : bs.length ≤ 4611686018427387904) (h8 : Bytes8 bs) : Carrier 85 bx1 (RIn q p bx1 bx2 base bs fv F) (TO [p]) (okR q p bx1 bx2 fv) (fun k _ => ((ub1 bs k : Int), k + 1)) where
  eg := enters_of Try.func85 (by kernel_rfl) rfl
  bound := fun k v _ _ => by have := u1_lt h8 k; dsimp only; omega
  does := fun k W b o cs v hI hb hc hok h0 h1 => by
    obtain ⟨o1, o2, o3, o4, o5⟩ := hok
    have CU := rsU8 p bs k W hI.rd hL
    have c1 := hI.box1.cell 0
    have l1 := hI.box1.lt
    simp only [List.getElem?_toArray, List.getElem?_cons_zero] at c1
    have HI := Lib.hid hI
    have HB := Lib.hid hb
    have hbl := hb.lt
    have HC := Lib.hid hc
    clear hI hb hc
    go_enter Try.func85, Try.ntmps85
    go_wp2_with (first | (go_at_call 60; ((with_reducible refine (CU).mono ?_); rintro e w1 ⟨rfl, r1, e1⟩; have K1 := Lib.hid (HB.out.only e1 (by simp; omega)); have c9 := (K1.out.cell o).trans HC.out; have f9 := K1.out.frozen o; have l9 := K1.out.lt)))
    go_end0
    have og : Only w1 (w1.setCell ⟨b, o, none⟩ (.int .i64 ((ub1 bs k : Int)))) [b] := (Only.refl w1 [b]).set (p := ⟨b, o, none⟩) (.inl (by simp)) _
    refine ⟨rfl, ?_, K1.out.set o _, (e1.more (fun b' hb' => .inl (by simp at hb'; simp [hb']))).trans og (fun b' hb' => .inl (by simp at hb'; simp [hb']))⟩
    refine HI.out.keep ((e1.more (fun b' hb' => .inl (by simp at hb'; simp [hb']))).trans og (fun b' hb' => .inl (by simp at hb'; simp [hb'])) : Only W _ (b :: [p])) (fun b' hb' => ?_) (r1.only og (by simp; exact fun h => o1 h.symm) (fun b' hb' => by simp at hb'; subst hb'; exact o4))
    simp only [List.mem_cons, List.not_mem_nil, or_false] at hb'
    rcases hb' with h | h
    · subst h; exact ⟨o2, o3, o5⟩
    · subst h; exact HI.out.pne

set_option maxRecDepth 100000 in
theorem car_i16 (p bx1 bx2 base : Nat) (bs : List Value) (fv : Value) (F : List Nat) (hL : bs.length ≤ 4611686018427387904) (h8 : Bytes8 bs) : Carrier 85 bx2 (RIn q p bx1 bx2 base bs fv F) (TO [p]) (okR q p bx1 bx2 fv) (fun k _ => (ib2 bs k, k + 2)) where
  eg := enters_of Try.func85 (by kernel_rfl) rfl
  bound := fun k v _ _ => by dsimp only; unfold ib2 s16; have : ub2 bs k < 65536 := rsn_lt (rd2_lt h8 k); split <;> omega
  does := fun k W b o cs v hI hb hc hok h0 h1 => by
    obtain ⟨o1, o2, o3, o4, o5⟩ := hok
    have CU := rsI16 p bs k W hI.rd hL
    have c1 := hI.box2.cell 0
    have l1 := hI.box2.lt
    simp only [List.getElem?_toArray, List.getElem?_cons_zero] at c1
    have HI := Lib.hid hI
    have HB := Lib.hid hb
    have hbl := hb.lt
    have HC := Lib.hid hc
    clear hI hb hc
    go_enter Try.func85, Try.ntmps85
    go_wp2_with (first | (go_at_call 30; ((with_reducible refine (CU).mono ?_); rintro e w1 ⟨rfl, r1, e1⟩; have K1 := Lib.hid (HB.out.only e1 (by simp; omega)); have c9 := (K1.out.cell o).trans HC.out; have f9 := K1.out.frozen o; have l9 := K1.out.lt)))
    go_end0
    have og : Only w1 (w1.setCell ⟨b, o, none⟩ (.int .i64 (ib2 bs k))) [b] := (Only.refl w1 [b]).set (p := ⟨b, o, none⟩) (.inl (by simp)) _
    refine ⟨rfl, ?_, K1.out.set o _, (e1.more (fun b' hb' => .inl (by simp at hb'; simp [hb']))).trans og (fun b' hb' => .inl (by simp at hb'; simp [hb']))⟩
    refine HI.out.keep ((e1.more (fun b' hb' => .inl (by simp at hb'; simp [hb']))).trans og (fun b' hb' => .inl (by simp at hb'; simp [hb'])) : Only W _ (b :: [p])) (fun b' hb' => ?_) (r1.only og (by simp; exact fun h => o1 h.symm) (fun b' hb' => by simp at hb'; subst hb'; exact o4))
    simp only [List.mem_cons, List.not_mem_nil, or_false] at hb'
    rcases hb' with h | h
    · subst h; exact ⟨o2, o3, o5⟩
    · subst h; exact HI.out.pne

end Go.Proofs.Ytelhckckcilpaaa

namespace Go.Proofs.Ytelhckckcilpaaa
open Go.ChangeShapes Go.WideShapes Go.ChangeAt Go.RowKit

section
variable {H : Type} {enc : TypeId × Value → H} {P : Program}

theorem args_stay (hl : laidOutB P = true) {W W' : World} (hb : Below W.heap.size W W') :
    ∀ {ts : List TypeId} {vs : List Value} {ds : List (DataW H)} {ps : List MemPlace}, (ts.all fun t => P.readableRec t && decide (t < P.types.size)) = true →
      DataW.TrodAll enc P W 0 (fun _ => true) true ts vs ds ps → (∀ x ∈ ps, x.block < W.heap.size) → DataW.TrodAll enc P W' 0 (fun b => decide (b < W.heap.size)) true ts vs ds ps
  | [], vs, ds, ps, _, h, _ => by
    obtain ⟨rfl, rfl, rfl⟩ := trodAll_nil h
    exact h
  | t :: ts, vs, ds, ps, hr, h, hp => by
    obtain ⟨v, vs', d, ds', p, q, rfl, rfl, rfl, h1, h2⟩ := trodAll_cons h
    rw [List.all_cons, Bool.and_eq_true, Bool.and_eq_true, decide_eq_true_eq] at hr
    exact trodAll_cons_mk (Below.trod hl hr.1.1 hr.1.2 h1 hb fun x hx => hp x (List.mem_append_left _ hx)) (args_stay hl hb hr.2 h2 fun x hx => hp x (List.mem_append_right _ hx))

theorem law_post {f : Func} {s : ChangeSpec} {T : TypeId} {W W' : World} {args : Array Value} {ds : List (DataW H)} {before : List MemPlace} (hl : laidOutB P = true)
    (hr : f.resultTypes = #[T]) (hT : P.underlying T = some .bool) (hrd : (f.params.toList.all fun t => P.readableRec t && decide (t < P.types.size)) = true) (hv : s.vars = [])
    (h1 : (s.fn H ds).results = [.lit (.bool true)]) (h2 : (s.fn H ds).args = ds) (h3 : (s.fn H ds).vars = [])
    (hW : DataW.Whole enc P f.params.toList s.vars false W args.toList ds [] before) (hb : Below W.heap.size W W') :
    s.post enc P f false true false false W args (.bool true) W' := by
  have hlt : ∀ p ∈ before, p.block < W.heap.size := fun p hp => hW.lt p hp
  obtain ⟨p, q, hA, hV, rfl, _, _⟩ := id hW
  rw [hv] at hV
  have hq : q = [] := by simpa [DataW.TrodVars] using hV
  subst hq
  rw [List.append_nil] at hlt
  refine ⟨ds, [], _, [], p, [], hW, ?_, ?_, ?_, ?_, fun h => nomatch h⟩
  · rw [hr, List.append_nil, h1]; exact trodAll_mk1 (shut_bool hT true)
  · rw [List.append_nil, h2]; exact args_stay hl hb hrd hA hlt
  · rw [List.append_nil, h3, hv]; rfl
  · exact World.keptBut_mono (fun x hx => ⟨by simpa using hx, .inr (.inl hx)⟩) (hb.frame (· ∈ p))
end

theorem Try.own : ownKnob Try.prog.godebug = none := by kernel_rfl
theorem Try.laidOut : laidOutB Try.prog = true := by kernel_rfl

end Go.Proofs.Ytelhckckcilpaaa

namespace Go.Proofs.Ytelhckckcilpaaa
open Go.ChangeShapes Go.WideShapes Go.ChangeAt Go.RowKit

section
variable {H : Type} {enc : TypeId × Value → H} {P : Program}
theorem open_list_int {w : World} {t e : TypeId} {base : Nat} {spare : Nat → Bool} {held : Bool} {r : Reach} {b0 : Nat} {v : Value} {d : DataW H} {p : List MemPlace}
    (hs : P.underlying t = some (.slice e)) (he : P.underlying e = some (.int .i64)) (hC : P.cellsOf e = 1)
    (hv : Value.okWide P w r b0 t v) (h : DataW.Trod enc P w base spare held t v d p) :
    ∃ (A : Option Addr) (n c : Nat) (zs : List Int), v = .slice A n c ∧ zs.length = n ∧ n ≤ c ∧ c ≤ maxLen ∧ Lists w w.heap.size A (intCells zs) ∧ ∀ z ∈ zs, (Lit.int .i64 z).wf = true := by
  obtain ⟨a0, len, cap, rfl⟩ := okWide_slice hs hv
  obtain ⟨fuel, hf⟩ := h
  rcases open_ints hs he hC hf with ⟨hcs, _⟩ | ⟨a, len', cap', zs, hcs, _, hl, hm, hz, _, hcell, hwf⟩
  · simp [Value.cells] at hcs
    obtain ⟨rfl, rfl, rfl⟩ := hcs
    exact ⟨none, 0, 0, [], rfl, rfl, Nat.le_refl _, Nat.zero_le _, Lists.empty _ _ _, fun z hz => by cases hz⟩
  · simp [Value.cells] at hcs
    obtain ⟨rfl, rfl, rfl⟩ := hcs
    have hlen : len ≤ zs.length := by split at hz <;> omega
    have hc : ∀ j u, (intCells (zs.take len))[j]? = some u → w.cell? (a.add j) = some u := fun j u hu => by
      have hj : j < (zs.take len).length := by
        rcases Nat.lt_or_ge j (zs.take len).length with h | h
        · exact h
        · rw [List.getElem?_eq_none (by rw [intCells_len]; exact h)] at hu; cases hu
      rw [intCells_get _ _ hj] at hu
      have hj2 : j < len := by simp at hj; omega
      have hh := hcell j (by omega)
      cases hu
      rw [hh]
      simp [List.getD, hj2]
    refine ⟨some a, len, cap, zs.take len, rfl, by simp; omega, hl, hm, ⟨fun ha => (nomatch ha), fun a' ha => ?_, fun a' ha hx => ?_⟩, fun z hz' => hwf z (List.mem_of_mem_take hz')⟩
    · cases ha; exact hc
    · cases ha
      have h0 : 0 < (intCells (zs.take len)).length := by
        rcases Nat.eq_zero_or_pos (intCells (zs.take len)).length with h | h
        · exact absurd (List.eq_nil_of_length_eq_zero h) hx
        · exact h
      have := hc 0 _ (List.getElem?_eq_getElem h0)
      rcases Nat.lt_or_ge a.block w.heap.size with h | h
      · exact h
      · have e0 : (a.add 0) = a := by simp [Addr.add]
        rw [e0] at this
        unfold World.cell? at this
        rw [Array.getElem?_eq_none h] at this
        cases this
end

end Go.Proofs.Ytelhckckcilpaaa

namespace Go.Proofs.Ytelhckckcilpaaa
open Go.ChangeShapes Go.WideShapes Go.ChangeAt Go.RowKit

section
variable {H : Type} {enc : TypeId × Value → H} {P : Program}
theorem weights_all {e : TypeId} {d : DataW H} {n : Nat} (hn : n ∈ d.weights P e) : ∀ {l : List (DataW H)}, d ∈ l → n ∈ DataW.weightsAll P e l
  | [], h => (nomatch h)
  | a :: r, h => by
    rw [DataW.weightsAll]
    rcases List.mem_cons.1 h with h | h
    · subst h; exact List.mem_append_left _ hn
    · exact List.mem_append_right _ (weights_all hn h)

theorem cell_lt {w : World} {a : Addr} {v : Value} (h : w.cell? a = some v) : a.block < w.heap.size := by
  rcases Nat.lt_or_ge a.block w.heap.size with h1 | h1
  · exact h1
  · unfold World.cell? at h
    rw [Array.getElem?_eq_none h1] at h
    cases h

/-- A slice of numbers, at the value that a cell holds. -/
theorem open_nums {w : World} {t e : TypeId} {k : IntKind} {base fuel : Nat} {spare : Nat → Bool} {held : Bool} {v : Value} {x : DataW H × List MemPlace}
    (hs : P.underlying t = some (.slice e)) (he : P.underlying e = some (.int k)) (hC : P.cellsOf e = 1) (h : DataW.trod enc P w base spare held fuel t [v] = some x) :
    ∃ (A : Option Addr) (n c : Nat) (zs : List Int), v = .slice A n c ∧ zs.length = n ∧ n ≤ c ∧ c ≤ maxLen ∧ Lists w w.heap.size A (zs.map (Value.int k)) ∧ (∀ z ∈ zs, (Lit.int k z).wf = true) ∧
      ∀ b, (∀ m ∈ x.1.weights P t, m ≤ b) → n * P.bytesOf e ≤ b := by
  rcases open_ints hs he hC h with ⟨hcs, hx⟩ | ⟨a, len, cap, zs, hcs, _, hl, hm, hz, hx, hcell, hwf⟩
  · simp only [List.cons.injEq, and_true] at hcs
    exact ⟨none, 0, 0, [], hcs, rfl, Nat.le_refl _, Nat.zero_le _, Lists.empty _ _ _, (fun z hz => (nomatch hz)), fun b _ => by omega⟩
  · simp only [List.cons.injEq, and_true] at hcs
    have hlen : len ≤ zs.length := by split at hz <;> omega
    have hc : ∀ j u, ((zs.take len).map (Value.int k))[j]? = some u → w.cell? (a.add j) = some u := fun j u hu => by
      rw [List.getElem?_map, Option.map_eq_some_iff] at hu
      obtain ⟨z, hz1, rfl⟩ := hu
      have hj : j < (zs.take len).length := (List.getElem?_eq_some_iff.1 hz1).1
      have hj2 : j < zs.length := by simp at hj; omega
      rw [hcell j hj2]
      simp only [List.getElem?_take, List.length_take] at hz1 hj
      rw [if_pos (by omega)] at hz1
      simp [List.getD, hz1]
    refine ⟨some a, len, cap, zs.take len, hcs, by simp; omega, hl, hm, ⟨fun ha => (nomatch ha), fun a' ha => ?_, fun a' ha hne => ?_⟩, fun z hz' => hwf z (List.mem_of_mem_take hz'), fun b hb => ?_⟩
    · cases ha; exact hc
    · cases ha
      have h0 : 0 < ((zs.take len).map (Value.int k)).length := by
        rcases Nat.eq_zero_or_pos ((zs.take len).map (Value.int k)).length with h | h
        · exact absurd (List.eq_nil_of_length_eq_zero h) hne
        · exact h
      have := cell_lt (hc 0 _ (List.getElem?_eq_getElem h0))
      rwa [addr_add_block] at this
    · subst hx
      have := hb (((lits k (zs.take len) : List (DataW H)).length + (lits k (zs.drop len) : List (DataW H)).length) * P.bytesOf e) (by simp [DataW.weights, hs])
      refine Nat.le_trans (Nat.mul_le_mul_right _ ?_) this
      simp [lits]
      omega

theorem bytes_of_wf {zs : List Int} (h : ∀ z ∈ zs, (Lit.int .u8 z).wf = true) : Bytes8 (zs.map (Value.int .u8)) := fun u hu => by
  obtain ⟨z, hz, rfl⟩ := List.mem_map.1 hu
  have := h z hz
  simp [Lit.wf, IntKind.min, IntKind.max, IntKind.signed, IntKind.bits] at this
  exact ⟨z.toNat, by omega, by congr 1; omega⟩

theorem one_of {w : World} {base fuel : Nat} {spare : Nat → Bool} {held : Bool} {fs : Array Field} {cs : List Value} {ys : List (DataW H × List MemPlace)} (hone : Deep.oneCellFields P fs = true)
    (hg : ∀ (i : Nat) (f : Field), fs[i]? = some f → DataW.trod enc P w base spare held fuel f.type ((cs.drop f.offset).take (P.cellsOf f.type)) = ys[i]?) {j : Nat} {f : Field} {c : Value} {y : DataW H × List MemPlace}
    (hf : fs[j]? = some f) (hc : cs[j]? = some c) (hy : ys[j]? = some y) : DataW.trod enc P w base spare held fuel f.type [c] = some y := by
  have h := hg j f hf
  obtain ⟨h1, h2⟩ := Deep.hone_of hone j f hf
  obtain ⟨hj, hcj⟩ := List.getElem?_eq_some_iff.1 hc
  rw [h1, h2, hy, List.drop_eq_getElem_cons hj, hcj] at h
  exact h
end

end Go.Proofs.Ytelhckckcilpaaa

namespace Go.Proofs.Ytelhckckcilpaaa
open Go Go.RowKit
set_option linter.unusedVariables false
set_option linter.unusedSimpArgs false

section
variable {P : Program} {ops : Array Oper} {Q : Exit → Act → World → Prop} {md : Region.Mode} {I : World → Prop}

/-- Operation o, in every act that agrees on what it looks at, in every world that meets I: it yields v, and the world stays. -/
def StepI (P : Program) (ops : Array Oper) (I : World → Prop) (o : Oper) (v : Value) (a : Act) : Prop :=
  ∀ (a' : Act) (w : World), (∀ t ∈ o.looksAt ops, a'.tmps[t]? = a.tmps[t]?) → I w →
    (Region.wanted o (yielded ops a'.tmps) = false ∧ v = undef) ∨ (Region.wanted o (yielded ops a'.tmps) = true ∧ (execOp a'.eval o).run P w = .ok (.value v) w)

/-- Operation o at this act and world: it is wanted, and yields a value, by itself or by a call; K holds of it and of the world behind it. -/
def StepO (P : Program) (ops : Array Oper) (o : Oper) (a : Act) (w : World) (K : Value → World → Prop) : Prop :=
  Region.wanted o (yielded ops a.tmps) = true ∧ ((∃ v w', (execOp a.eval o).run P w = .ok (.value v) w' ∧ K v w') ∨ (∃ f args w1, (execOp a.eval o).run P w = .ok (.enter f args) w1 ∧ Calls P f args w1 fun e w' => ∃ v, e = .returned v ∧ K v w') ∨ (∃ w', (execOp a.eval o).run P w = .ok .skip w' ∧ K undef w'))

theorem StepO.mono {o : Oper} {a : Act} {w : World} {K K' : Value → World → Prop} (h : StepO P ops o a w K) (hK : ∀ v w', K v w' → K' v w') : StepO P ops o a w K' := by
  obtain ⟨hw, h | h | h⟩ := h
  · obtain ⟨v, w', h1, h2⟩ := h
    exact ⟨hw, .inl ⟨v, w', h1, hK _ _ h2⟩⟩
  · obtain ⟨f, args, w1, h1, h2⟩ := h
    exact ⟨hw, .inr (.inl ⟨f, args, w1, h1, h2.mono fun e w' ⟨v, h3, h4⟩ => ⟨v, h3, hK _ _ h4⟩⟩)⟩
  · obtain ⟨w', h1, h2⟩ := h
    exact ⟨hw, .inr (.inr ⟨w', h1, hK _ _ h2⟩)⟩
theorem StepO.move {o : Oper} (hns : ∀ cs b, o.op ≠ .select cs b) {a a' : Act} {w : World} {K : Value → World → Prop} (h : StepO P ops o a w K) (hag : ∀ t ∈ o.looksAt ops, a'.tmps[t]? = a.tmps[t]?) : StepO P ops o a' w K := by
  unfold StepO at *
  rw [wanted_agree o hag, exec_agree o hns hag]
  exact h
theorem StepO.wpOp {i : Nat} {o : Oper} (hi : ops[i]? = some o) {a : Act} {w : World} {K : Act → World → Prop} (h : StepO P ops o a w fun v w' => K (a.put o.dst v) w') : wpOp P ops Q i K a w := by
  obtain ⟨hw, h⟩ := h
  unfold Go.wpOp
  simp only [hi]
  rw [hw, if_pos rfl]
  refine .inl ?_
  unfold Oper.wp
  rcases h with ⟨v, w', h1, h2⟩ | ⟨f, args, w1, h1, h2⟩ | ⟨w', h1, h2⟩
  · rw [h1]; exact h2
  · rw [h1]
    refine h2.mono fun e w' ⟨v, h3, h4⟩ => ?_
    subst h3
    exact h4
  · rw [h1]; exact h2

/-- One order: what only reads may be taken as soon as it is ready; what changes the world, when nothing else is ready. -/
inductive PlanC (P : Program) (md : Region.Mode) (ops : Array Oper) (Q : Exit → Act → World → Prop) (I : World → Prop) (last : Nat) : Nat → Array Bool → Act → World → Prop
  | done {n : Nat} {listed : Array Bool} {a : Act} {w : World} (hr : Region.ready md ops listed = []) (h : Q .normal a w) : PlanC P md ops Q I last n listed a w
  | stop {n : Nat} {listed : Array Bool} {a : Act} {w : World} (hr : Region.ready md ops listed = [last]) (hf : Region.ready md ops (listed.setIfInBounds last true) = []) (h : wpOp P ops Q last (Q .normal) a w) : PlanC P md ops Q I last (n + 1) listed a w
  | take {n : Nat} {listed : Array Bool} {a : Act} {w : World} (i : Nat) (o : Oper) (v : Value) (hi : ops[i]? = some o) (hne : i ≠ last) (hf : Region.free md ops listed i = true) (hr : i ∈ Region.ready md ops listed)
      (hs : StepI P ops I o v a) (h : PlanC P md ops Q I last n (listed.setIfInBounds i true) (a.put o.dst v) w) : PlanC P md ops Q I last (n + 1) listed a w
  | step {n : Nat} {listed : Array Bool} {a : Act} {w : World} (i : Nat) (o : Oper) (hi : ops[i]? = some o) (hne : i ≠ last) (hr : Region.ready md ops listed = [i])
      (K : Value → World → Prop) (hs : StepO P ops o a w K) (hI : ∀ v w', K v w' → I w') (h : ∀ v w', K v w' → PlanC P md ops Q I last n (listed.setIfInBounds i true) (a.put o.dst v) w') : PlanC P md ops Q I last (n + 1) listed a w

theorem StepI.move {o : Oper} {v : Value} {a a1 : Act} (h : StepI P ops I o v a) (hag : ∀ t ∈ o.looksAt ops, a1.tmps[t]? = a.tmps[t]?) : StepI P ops I o v a1 :=
  fun a' w ha hI => h a' w (fun t ht => (ha t ht).trans (hag t ht)) hI

/-- Whatever may come up could have come up first. -/
theorem PlanC.first (hns : ∀ (i : Nat) (o : Oper) cs b, ops[i]? = some o → o.op ≠ .select cs b) {n last : Nat} {listed : Array Bool} {a : Act} {w : World} (h : PlanC P md ops Q I last n listed a w) : ∀ j, j ∈ Region.ready md ops listed → j ≠ last →
    ∃ m oj, n = m + 1 ∧ ops[j]? = some oj ∧ ((∃ u, StepI P ops I oj u a ∧ PlanC P md ops Q I last m (listed.setIfInBounds j true) (a.put oj.dst u) w) ∨
      (∃ K : Value → World → Prop, StepO P ops oj a w K ∧ (∀ v w', K v w' → I w') ∧ ∀ v w', K v w' → PlanC P md ops Q I last m (listed.setIfInBounds j true) (a.put oj.dst v) w')) := by
  induction h with
  | done hr h => intro j hj; rw [hr] at hj; cases hj
  | stop hr hf h => intro j hj hne; rw [hr] at hj; exact absurd (by simpa using hj) hne
  | step i o hi hne hr K hs hI h =>
    intro j hj _
    rw [hr] at hj
    obtain rfl : j = i := by simpa using hj
    exact ⟨_, o, rfl, hi, .inr ⟨K, hs, hI, h⟩⟩
  | @take n listed a w i o v hi hne hf hr hs h ih =>
    intro j hj hjl
    by_cases hji : j = i
    · subst hji; exact ⟨_, o, rfl, hi, .inl ⟨v, hs, h⟩⟩
    · obtain ⟨m, oj, rfl, hoj, hh⟩ := ih j (ready_mono hj hji) hjl
      obtain ⟨hjun, oj', hoj', hall⟩ := mem_ready.1 hj
      obtain rfl : oj' = oj := by rw [hoj] at hoj'; exact (Option.some.inj hoj').symm
      have hnot : ∀ e ∈ oj'.after, Region.binds md e = true → e.on ≠ i := fun e he hb heq => by
        have h1 := hall e he hb
        have h0 := (mem_ready.1 hr).1
        rw [heq] at h1
        rcases Nat.lt_or_ge i listed.size with h' | h'
        · simp [h'] at h0 h1; rw [h0] at h1; cases h1
        · simp [Array.getElem?_eq_none h'] at h1
      obtain ⟨h1, h2, h3⟩ := Oper.apart_spec (Region.free_spec hi hf j oj' hoj hji hjun hnot)
      refine ⟨m + 1, oj', rfl, hoj, ?_⟩
      have hst : ∀ u, StepI P ops I o v (a.put oj'.dst u) := fun u => hs.move (put_agree h3 a u)
      rcases hh with ⟨u, hsj, hp⟩ | ⟨K, hsj, hKI, hp⟩
      · refine .inl ⟨u, hsj.move fun t ht => (put_agree h1 a v t ht).symm, ?_⟩
        refine PlanC.take i o v hi hne (free_set hf) (ready_mono hr (Ne.symm hji)) (hst u) ?_
        rw [Array.setIfInBounds_comm _ _ hji, ← Act.put_comm a v u h2]
        exact hp
      · refine .inr ⟨K, hsj.move (hns j oj' · · hoj) fun t ht => (put_agree h1 a v t ht).symm, hKI, fun u w' hK => ?_⟩
        refine PlanC.take i o v hi hne (free_set hf) (ready_mono hr (Ne.symm hji)) (hst u) ?_
        rw [Array.setIfInBounds_comm _ _ hji, ← Act.put_comm a v u h2]
        exact hp u w' hK

theorem PlanC.any {last : Nat} (hL : Alone md ops last) (hns : ∀ (i : Nat) (o : Oper) cs b, ops[i]? = some o → o.op ≠ .select cs b) : ∀ (fuel n : Nat) (listed : Array Bool) (a : Act) (w : World), DC md ops listed → n ≤ fuel → I w → PlanC P md ops Q I last n listed a w → wpAny P md ops Q fuel listed a w
  | 0, n, listed, a, w, _, hn, hI, h => by
    cases h with
    | done hr h => exact ⟨hr, h⟩
    | stop => omega
    | take => omega
    | step => omega
  | fuel + 1, n, listed, a, w, hd, hn, hI, h => by
    refine ⟨fun hr => ?_, fun j hj => ?_⟩
    · cases h with
      | done _ h => exact h
      | stop hr' => rw [hr] at hr'; cases hr'
      | take i o v hi hne hf hr' => rw [hr] at hr'; cases hr'
      | step i o hi hne hr' => rw [hr] at hr'; cases hr'
    · by_cases hjl : j = last
      · subst hjl
        cases h with
        | done hr => rw [hr] at hj; cases hj
        | stop hr hf h => exact wpOp_mono (fun a' w' hq => wpAny_done hf hq fuel) h
        | take i o v hi hne hf hr' => exact absurd (hL listed hd hj i hr') hne
        | step i o hi hne hr' => exact absurd (hL listed hd hj i (by rw [hr']; simp)) hne
      · obtain ⟨m, oj, rfl, hoj, hh⟩ := h.first hns j hj hjl
        rcases hh with ⟨u, hsj, hp⟩ | ⟨K, hsj, hKI, hp⟩
        · have hrec := PlanC.any hL hns fuel m _ _ w (hd.set hj) (by omega) hI hp
          unfold wpOp
          simp only [hoj]
          rcases hsj a w (fun _ _ => rfl) hI with ⟨hw, rfl⟩ | ⟨hw, hrun⟩
          · rw [hw]; exact hrec
          · rw [hw, if_pos rfl]
            refine .inl ?_
            unfold Oper.wp
            rw [hrun]
            exact hrec
        · exact StepO.wpOp hoj (hsj.mono fun v w' hK => PlanC.any hL hns fuel m _ _ w' (hd.set hj) (by omega) (hKI v w' hK) (hp v w' hK))

/-- The order as a list: (operation, whether it changes the world). -/
def ChainL (P : Program) (ops : Array Oper) (E : Act → World → Prop) (I : World → Prop) : List (Nat × Bool) → Act → World → Prop
  | [], a, w => E a w
  | (i, false) :: r, a, w => ∃ o v, ops[i]? = some o ∧ StepI P ops I o v a ∧ ChainL P ops E I r (a.put o.dst v) w
  | (i, true) :: r, a, w => ∃ o, ops[i]? = some o ∧ StepO P ops o a w fun v w' => I w' ∧ ChainL P ops E I r (a.put o.dst v) w'

def chainGo (md : Region.Mode) (ops : Array Oper) (last : Nat) : List (Nat × Bool) → Array Bool → Bool
  | [], listed => if last < ops.size then (Region.ready md ops listed == [last]) && (Region.ready md ops (listed.setIfInBounds last true)).isEmpty else (Region.ready md ops listed).isEmpty
  | (i, false) :: r, listed => (i != last) && Region.free md ops listed i && (Region.ready md ops listed).contains i && chainGo md ops last r (listed.setIfInBounds i true)
  | (i, true) :: r, listed => (i != last) && (Region.ready md ops listed == [i]) && chainGo md ops last r (listed.setIfInBounds i true)
def chainOk (md : Region.Mode) (ops : Array Oper) (ord : List (Nat × Bool)) : Bool := Region.noSelect ops && decide (ord.length ≤ ops.size) && chainGo md ops ops.size ord (Array.replicate ops.size false)
def chainLastOk (md : Region.Mode) (ops : Array Oper) (ord : List (Nat × Bool)) : Bool := Region.noSelect ops && decide (ord.length + 1 ≤ ops.size) && chainGo md ops (ops.size - 1) ord (Array.replicate ops.size false) && lastOk md ops

theorem ChainL.plan {E : Act → World → Prop} {last k : Nat} (hk : last < ops.size → k = 1) (hE : ∀ a w, E a w → if last < ops.size then wpOp P ops Q last (Q .normal) a w else Q .normal a w) : ∀ (ord : List (Nat × Bool)) (listed : Array Bool) (a : Act) (w : World), chainGo md ops last ord listed = true → ChainL P ops E I ord a w → PlanC P md ops Q I last (ord.length + k) listed a w
  | [], listed, a, w, hc, h => by
    have h1 := hE _ _ h
    unfold chainGo at hc
    by_cases hl : last < ops.size
    · rw [if_pos hl] at hc h1
      simp only [Bool.and_eq_true, beq_iff_eq, List.isEmpty_iff] at hc
      obtain rfl := hk hl
      exact .stop hc.1 hc.2 h1
    · rw [if_neg hl] at hc h1
      exact .done (by simpa using hc) h1
  | (i, false) :: r, listed, a, w, hc, h => by
    obtain ⟨o, v, hi, hs, hr⟩ := h
    simp only [chainGo, Bool.and_eq_true, bne_iff_ne, ne_eq] at hc
    rw [List.length_cons, Nat.add_right_comm]
    exact .take i o v hi hc.1.1.1 hc.1.1.2 (by simpa using hc.1.2) hs (ChainL.plan hk hE r _ _ w hc.2 hr)
  | (i, true) :: r, listed, a, w, hc, h => by
    obtain ⟨o, hi, hs⟩ := h
    simp only [chainGo, Bool.and_eq_true, beq_iff_eq, bne_iff_ne, ne_eq] at hc
    rw [List.length_cons, Nat.add_right_comm]
    exact .step i o hi hc.1.1 hc.1.2 _ hs (fun v w' hK => hK.1) fun v w' hK => ChainL.plan hk hE r _ _ w' hc.2 hK.2

/-- THE LAW. -/
theorem wp_region_chain {id : Nat} {a : Act} {w : World} (I : World → Prop) (ord : List (Nat × Bool)) (hm : P.follows .mixedOrders = true) (hok : chainOk .any ops ord = true) (hI : I w.drew)
    (h : ChainL P ops (Q .normal) I ord a w.drew) : (Code.region id ops true).wp P Q a w := by
  refine wp_region_any hm ?_
  unfold chainOk at hok
  simp only [Bool.and_eq_true, decide_eq_true_eq] at hok
  exact PlanC.any alone_none (fun i o cs b hi => Region.noSelect_spec hok.1.1 i o cs b hi) ops.size (ord.length + 0) _ a w.drew (DC.none _) (by omega) hI
    (ChainL.plan (fun h => absurd h (Nat.lt_irrefl _)) (fun a w h => by rw [if_neg (Nat.lt_irrefl _)]; exact h) ord _ a _ hok.2 h)

/-- THE SAME where the last operation of the text waits for all others: I is not asked behind it. -/
theorem wp_region_chain_last {id : Nat} {a : Act} {w : World} (I : World → Prop) (ord : List (Nat × Bool)) (l : List Oper) (o : Oper) (hl0 : splitLast ops.toList = some (l, o)) (hg : o.guard = none) (hm : P.follows .mixedOrders = true) (hok : chainLastOk .any ops ord = true) (hI : I w.drew)
    (h : ChainL P ops (fun a w => o.wp P a w (Q .normal) Q) I ord a w.drew) : (Code.region id ops true).wp P Q a w := by
  refine wp_region_any hm ?_
  unfold chainLastOk at hok
  simp only [Bool.and_eq_true, decide_eq_true_eq] at hok
  have hlt : ops.size - 1 < ops.size := by omega
  have hl := splitLast_eq hl0
  have hn : ops.size = l.length + 1 := by
    have := congrArg List.length hl
    simpa using this
  have ho : ops[ops.size - 1]? = some o := by
    have : ops.toList[ops.size - 1]? = some o := by rw [hl, show ops.size - 1 = l.length by omega]; simp
    simpa using this
  have hw : ∀ y, Region.wanted o y = true := fun y => by unfold Region.wanted; rw [hg]
  exact PlanC.any (alone_last hok.2) (fun i o cs b hi => Region.noSelect_spec hok.1.1.1 i o cs b hi) ops.size (ord.length + 1) _ a w.drew (DC.none _) (by omega) hI
    (ChainL.plan (fun _ => rfl) (fun a w h => by rw [if_pos hlt]; unfold wpOp; simp only [ho]; rw [hw, if_pos rfl]; exact .inl h) ord _ a _ hok.1.2 h)

variable {E : Act → World → Prop} {i : Nat} {r : List (Nat × Bool)} {o : Oper} {a : Act} {w : World}
theorem ChainL.val {v : Value} (hi : ops[i]? = some o) (hns : ∀ cs b, o.op ≠ .select cs b) (hw : Region.wanted o (yielded ops a.tmps) = true) (h : ∀ w, I w → (execOp a.eval o).run P w = .ok (.value v) w)
    (hr : ChainL P ops E I r (a.put o.dst v) w) : ChainL P ops E I ((i, false) :: r) a w :=
  ⟨o, v, hi, fun a' w' hag hI => .inr ⟨by rw [wanted_agree o hag]; exact hw, by rw [exec_agree o hns hag]; exact h w' hI⟩, hr⟩
theorem ChainL.skip (hi : ops[i]? = some o) (hw : Region.wanted o (yielded ops a.tmps) = false) (hr : ChainL P ops E I r (a.put o.dst undef) w) : ChainL P ops E I ((i, false) :: r) a w :=
  ⟨o, undef, hi, fun a' w' hag hI => .inl ⟨by rw [wanted_agree o hag]; exact hw, rfl⟩, hr⟩
theorem ChainL.does {v : Value} {w1 : World} (hi : ops[i]? = some o) (hw : Region.wanted o (yielded ops a.tmps) = true) (h : (execOp a.eval o).run P w = .ok (.value v) w1) (hI : I w1)
    (hr : ChainL P ops E I r (a.put o.dst v) w1) : ChainL P ops E I ((i, true) :: r) a w :=
  ⟨o, hi, hw, .inl ⟨v, w1, h, hI, hr⟩⟩
theorem ChainL.call {f : FuncId} {args : Array Value} (hi : ops[i]? = some o) (hw : Region.wanted o (yielded ops a.tmps) = true) (he : (execOp a.eval o).run P w = .ok (.enter f args) w)
    (h : Calls P f args w fun e w' => ∃ v, e = .returned v ∧ I w' ∧ ChainL P ops E I r (a.put o.dst v) w') : ChainL P ops E I ((i, true) :: r) a w :=
  ⟨o, hi, hw, .inr (.inl ⟨f, args, w, he, h⟩)⟩
theorem ChainL.append (hi : ops[i]? = some o) (hw : Region.wanted o (yielded ops a.tmps) = true) (s x : Operand) (t : TypeId)
    (ho : o.op = .call { callee := .builtin .append, args := #[s, x], argTypes := #[t, t] })
    (base : Nat) (e : TypeId) (info : TypeInfo) (z : Value) (size bytes : Nat) (ht : P.underlying t = some (.slice e)) (hi' : P.info? e = some info) (hz : info.zero = some z)
    (hsize : info.size = size) (hby : info.bytes = bytes) (hzs : z.cells.size = size) (hsz : 0 < size)
    (v : Value) (n : Nat) (xs : List Value) (hs : a.eval s = v) (hown : w.ownsRow base e size v n xs)
    (B : Nat) (A : Option Addr) (m c : Nat) (news : List Value) (hx : a.eval x = .slice A m c) (hr : Lists w B A news) (hl : news.length = m * size) (h1 : ∀ u ∈ news, u.oneCell' = true)
    (h63 : n + m ≤ maxLen) (hbytes : (n + m) * bytes ≤ 140737488355328) (hbase : base ≤ w.heap.size)
    (h : ∀ v' w', w'.ownsRow base e size v' (n + m) (xs ++ news) → w.grownBy w' v.ownBlock → (v'.ownBlock = v.ownBlock ∨ v'.ownBlock = some w.heap.size) → I w' ∧ ChainL P ops E I r (a.put o.dst v') w') : ChainL P ops E I ((i, true) :: r) a w := by
  obtain ⟨v', w', hrun, h2, h3, h4⟩ := run_append_src (P := P) w base t o.type e info z size bytes ht hi' hz hsize hby hzs hsz v n xs hown B A m c news hr hl h1 h63 hbytes hbase
  refine ⟨o, hi, hw, .inl ⟨v', w', ?_, h v' w' h2 h3 h4⟩⟩
  unfold execOp
  simp only [ho, resolve, invoke, builtin, Sem.run_bind, Sem.run_pure, Result.andThen_ok, List.map_toArray, List.map_cons, List.map_nil, hs, hx, hrun]
theorem ChainL.store {w1 : World} (hi : ops[i]? = some o) (hw : Region.wanted o (yielded ops a.tmps) = true) (h : (execOp a.eval o).run P w = .ok .skip w1) (hI : I w1)
    (hr : ChainL P ops E I r (a.put o.dst undef) w1) : ChainL P ops E I ((i, true) :: r) a w :=
  ⟨o, hi, hw, .inr (.inr ⟨w1, h, hI, hr⟩)⟩
theorem ChainL.nil (h : E a w) : ChainL P ops E I [] a w := h
end

end Go.Proofs.Ytelhckckcilpaaa

namespace Go.Proofs.Ytelhckckcilpaaa
open Go Go.RowKit

/-- What stands ahead of the data behind the last gap; where that data begins. -/
def preE (D : List Value) : Nat → List (Nat × Nat) → List Value
  | _, [] => []
  | i, (a, z) :: G => (D.drop i).take (a - i) ++ List.replicate z zero8 ++ preE D a G
def lastA : Nat → List (Nat × Nat) → Nat
  | i, [] => i
  | _, (a, _) :: G => lastA a G

theorem expand_pre (D : List Value) : ∀ (G : List (Nat × Nat)) (i : Nat), expand D i G = preE D i G ++ D.drop (lastA i G)
  | [], i => rfl
  | (a, z) :: G, i => by simp only [expand, preE, lastA, expand_pre D G a, List.append_assoc]
theorem preE_snoc (D : List Value) (a z : Nat) : ∀ (G : List (Nat × Nat)) (i : Nat), preE D i (G ++ [(a, z)]) = preE D i G ++ ((D.drop (lastA i G)).take (a - lastA i G) ++ List.replicate z zero8)
  | [], i => by simp [preE, lastA]
  | (b, y) :: G, i => by simp only [List.cons_append, preE, lastA, preE_snoc D a z G b, List.append_assoc]
theorem lastA_snoc (a z : Nat) : ∀ (G : List (Nat × Nat)) (i : Nat), lastA i (G ++ [(a, z)]) = a
  | [], i => rfl
  | (b, y) :: G, i => by simp only [List.cons_append, lastA, lastA_snoc a z G b]
theorem lastA_le : ∀ (G : List (Nat × Nat)) {i n : Nat}, GapsOk i G n → lastA i G ≤ n
  | [], _, _, h => h
  | (_, _) :: G, _, _, h => lastA_le G h.2.2
theorem gap_at : ∀ (G : List (Nat × Nat)) (i n k a z : Nat), GapsOk i G n → G[k]? = some (a, z) → lastA i (G.take k) ≤ a ∧ a ≤ n ∧ 1 ≤ z
  | [], _, _, k, _, _, _, h => by simp at h
  | (b, y) :: G, i, n, 0, a, z, hg, h => by
    simp only [List.getElem?_cons_zero, Option.some.injEq, Prod.mk.injEq] at h
    obtain ⟨rfl, rfl⟩ := h
    exact ⟨hg.1, hg.2.2.le, hg.2.1⟩
  | (b, y) :: G, i, n, k + 1, a, z, hg, h => by
    simp only [List.take_succ_cons, lastA]
    exact gap_at G b n k a z hg.2.2 (by simpa using h)
theorem take_snoc {G : List (Nat × Nat)} {k a z : Nat} (h : G[k]? = some (a, z)) : G.take (k + 1) = G.take k ++ [(a, z)] := by
  rw [List.take_add_one, h]; rfl
theorem pre_prefix (D : List Value) : ∀ (G : List (Nat × Nat)) (i k : Nat), (preE D i (G.take k)).length ≤ (preE D i G).length
  | [], i, k => by simp
  | (a, z) :: G, i, 0 => by simp [preE]
  | (a, z) :: G, i, k + 1 => by
    have := pre_prefix D G a k
    simp only [List.take_succ_cons, preE, List.length_append]
    omega
theorem pre_len_le (D : List Value) (G : List (Nat × Nat)) (k : Nat) : (preE D 0 (G.take k)).length ≤ (expand D 0 G).length := by
  rw [expand_pre, List.length_append]
  have := pre_prefix D G 0 k
  omega

/-- The row behind k gaps: n bytes in all. -/
def rowAt (D : List Value) (G : List (Nat × Nat)) (n k : Nat) : List Value := preE D 0 (G.take k) ++ List.replicate (n - (preE D 0 (G.take k)).length) zero8
theorem rowAt_len (D : List Value) (G : List (Nat × Nat)) (n k : Nat) (h : (preE D 0 (G.take k)).length ≤ n) : (rowAt D G n k).length = n := by
  unfold rowAt; rw [List.length_append, List.length_replicate]; omega
theorem splice_row (P cs : List Value) (n : Nat) (h : P.length + cs.length ≤ n) : splice (P ++ List.replicate (n - P.length) zero8) P.length cs = P ++ cs ++ List.replicate (n - (P ++ cs).length) zero8 := by
  unfold splice
  rw [List.take_left, List.drop_append, List.drop_eq_nil_of_le (by omega), List.nil_append, List.drop_replicate, List.append_assoc, List.length_append]
  congr 3
  omega
theorem row_next (D : List Value) (G : List (Nat × Nat)) (n k a z : Nat) (hg : G[k]? = some (a, z)) (hn : (preE D 0 (G.take (k + 1))).length ≤ n) :
    splice (rowAt D G n k) (preE D 0 (G.take k)).length ((D.drop (lastA 0 (G.take k))).take (a - lastA 0 (G.take k))) = rowAt D G n (k + 1) := by
  rw [take_snoc hg, preE_snoc] at hn
  unfold rowAt
  rw [splice_row _ _ _ (by simp only [List.length_append] at hn; omega), take_snoc hg, preE_snoc]
  simp only [List.append_assoc, List.length_append, List.length_replicate] at hn ⊢
  congr 2
  rw [List.replicate_append_replicate]
  congr 1
  omega
theorem row_last (D : List Value) (G : List (Nat × Nat)) : splice (rowAt D G (expand D 0 G).length G.length) (preE D 0 G).length (D.drop (lastA 0 G)) = expand D 0 G := by
  have hl := expand_pre D G 0
  unfold rowAt
  rw [List.take_length, splice_row _ _ _ (by rw [hl, List.length_append]; omega), ← hl]
  simp
theorem made_zeros (n : Nat) : madeCells #[.int .u8 0] n = (List.replicate n zero8).toArray := by
  unfold madeCells zero8
  apply Array.ext
  · simp
  · intro i h1 h2
    simp [Nat.mod_one]

end Go.Proofs.Ytelhckckcilpaaa

namespace Go.Proofs.Ytelhckckcilpaaa
open Go Go.RowKit

theorem only_setRow (w : World) (g : Nat) (cs : Array Value) : Only w (w.setRow g cs) [g] :=
  ⟨rfl, rfl, rfl, by simp [World.setRow], fun b _ hn => setRow_other w g b cs (fun e => hn (by simp [e]))⟩

section
variable {P : Program} {w : World}
theorem run_copy_only (dT sT ty elem : TypeId) (hu : P.underlying dT = some (.slice elem)) (hsz : (P.info? elem).map (·.size) = some 1)
    (dp sp : Option Addr) (dLen dCap sLen sCap : Nat) (g off : Nat) (cur : List Value) (t : TypeId) (hg : w.heap[g]? = some (.cells cur.toArray t (0, 0))) (cs : List Value) (hn : cs.length = Nat.min sLen dLen)
    (hpos : 0 < cs.length → dp = some ⟨g, off, none⟩ ∧ ∃ ad, sp = some ad ∧ ∀ (j : Nat) (v : Value), cs[j]? = some v → w.cell? (ad.add j) = some v)
    (hfit : off + cs.length ≤ cur.length) (h1 : ∀ v ∈ cs, v.oneCell' = true) :
    ∃ w', (Builtin.copy_ #[dT, sT] ty #[.slice dp dLen dCap, .slice sp sLen sCap]).run P w = .ok (goInt cs.length) w' ∧ w'.heap[g]? = some (.cells (splice cur off cs).toArray t (0, 0)) ∧ Only w w' [g] := by
  by_cases h0 : cs.length = 0
  · obtain rfl : cs = [] := List.eq_nil_of_length_eq_zero h0
    exact ⟨w, run_copy_none (P := P) w dT sT ty elem dp sp dLen dCap sLen sCap hu hsz (by simpa using hn.symm), by simpa [splice] using hg, Only.refl w _⟩
  · obtain ⟨rfl, ad, rfl, hsrc⟩ := hpos (by omega)
    refine ⟨_, run_copy_row (P := P) w dT sT ty elem g off dLen dCap ad sLen sCap cur.toArray t cs hu hsz hg hn hsrc (by simpa using hfit) h1, ?_, only_setRow w g _⟩
    rw [setRow_heap w g _ _ t _ hg]
    simp [splice]

theorem step_copy_only {ops : Array Oper} {o : Oper} {a : Act} {K : Act → World → Prop} {Q : Exit → Act → World → Prop} {E : Prop} (hgd : o.guard = none) (d s : Operand) (dT sT : TypeId)
    (ho : o.op = .call { callee := .builtin .copy, args := #[d, s], argTypes := #[dT, sT] }) (elem : TypeId) (hu : P.underlying dT = some (.slice elem)) (hsz : (P.info? elem).map (·.size) = some 1)
    (dp sp : Option Addr) (dLen dCap sLen sCap : Nat) (hd : a.eval d = .slice dp dLen dCap) (hs : a.eval s = .slice sp sLen sCap)
    (g off : Nat) (cur : List Value) (t : TypeId) (hg : w.heap[g]? = some (.cells cur.toArray t (0, 0))) (cs : List Value) (hn : cs.length = Nat.min sLen dLen)
    (hpos : 0 < cs.length → dp = some ⟨g, off, none⟩ ∧ ∃ ad, sp = some ad ∧ ∀ (j : Nat) (v : Value), cs[j]? = some v → w.cell? (ad.add j) = some v)
    (hfit : off + cs.length ≤ cur.length) (h1 : ∀ v ∈ cs, v.oneCell' = true)
    (h : ∀ w', Hid (w'.heap[g]? = some (.cells (splice cur off cs).toArray t (0, 0))) → Only w w' [g] → K (a.put o.dst (goInt cs.length)) w') :
    if Region.wanted o (yielded ops a.tmps) = true then Oper.wp P o a w K Q else E := by
  rw [if_pos (by simp [Region.wanted, hgd])]
  obtain ⟨w', hrun, h2, h3⟩ := run_copy_only (P := P) dT sT o.type elem hu hsz dp sp dLen dCap sLen sCap g off cur t hg cs hn hpos hfit h1
  unfold Oper.wp
  simp [execOp, ho, resolve, invoke, builtin, hd, hs, hrun, Result.andThen]
  exact h w' h2 h3
end

end Go.Proofs.Ytelhckckcilpaaa
