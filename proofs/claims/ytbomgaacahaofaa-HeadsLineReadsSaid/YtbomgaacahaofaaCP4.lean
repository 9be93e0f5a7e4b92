/- Part 5 of the proof: Carr, Nums, Free, Eith, Fat. -/
import Derived.Shelf.Abstract
import Derived.Test.YtbomgaacahaofaaCP3

namespace Go.Proofs.Ytbomgaacahaofaa
open Go Go.RowKit

/-- A type of blocks that no reader and no writer writes. -/
def plain (T : TypeId) : Bool := T != 5 && T != 110 && T != 108 && T != 114
theorem plain_ne {T : TypeId} (h : plain T = true) : T ≠ 5 ∧ T ≠ 110 ∧ T ≠ 108 ∧ T ≠ 114 := by
  unfold plain at h
  simp only [Bool.and_eq_true, bne_iff_ne, ne_eq] at h
  exact ⟨h.1.1.1, h.1.1.2, h.1.2, h.2⟩
/-- Plain blocks stay, but for b. -/
def Keeps (w w' : World) (b : Nat) : Prop := w.heap.size ≤ w'.heap.size ∧ ∀ (q : Nat) (T : TypeId) (cs : Array Value), plain T = true → q ≠ b → Blk w q T cs → Blk w' q T cs
theorem Keeps.refl (w : World) (b : Nat) : Keeps w w b := ⟨Nat.le_refl _, fun _ _ _ _ _ h => h⟩
theorem Keeps.trans {w a c : World} {b : Nat} (h : Keeps w a b) (k : Keeps a c b) : Keeps w c b := ⟨Nat.le_trans h.1 k.1, fun q T cs hT hq hb => k.2 q T cs hT hq (h.2 q T cs hT hq hb)⟩
theorem Keeps.of_below {w a : World} (h : Below w.heap.size w a) (b : Nat) : Keeps w a b := ⟨h.size, fun _ _ _ _ _ k => k.below h⟩
/-- Where b itself is new. -/
theorem Keeps.new {w a c : World} {b b1 : Nat} (h : Below w.heap.size w a) (k : Keeps a c b) (hb : w.heap.size ≤ b) : Keeps w c b1 := ⟨Nat.le_trans h.size k.1, fun q T cs hT _ hq => k.2 q T cs hT (by have := hq.lt; omega) (hq.below h)⟩
theorem Keeps.only {w a : World} {b : Nat} (h : Only w a [b]) : Keeps w a b := ⟨h.size, fun _ _ _ _ hq k => k.only h (by simpa using hq)⟩

/-- A number was carried: the place, a cell of block b, has v. -/
def Carried {σ : Type} (I : σ → World → Prop) (w : World) (b : Nat) (T : TypeId) (cs : Array Value) (o : Nat) (s : σ) (v : Int) (e : Ending) (w' : World) : Prop :=
  e = .returned (.tuple #[]) ∧ I s w' ∧ Blk w' b T (cs.setIfInBounds o (.int .i64 v)) ∧ Keeps w w' b

structure Carr {σ : Type} (g : FuncId) (lb : Array Value) (I : σ → World → Prop) (Ok : Nat → Prop) (len : σ → Nat) (R : Nat) (step : Nat → σ → Int → σ) (val : Nat → σ → Int → Int) : Prop where
  eg : ∀ args w, (callFunc g args).run Try.prog w = .ok (.enter g args) w
  below : ∀ s w w', I s w → Below w.heap.size w w' → I s w'
  store : ∀ s w w' b T cs, I s w → Ok b → plain T = true → Blk w b T cs → Only w w' [b] → I s w'
  fresh : ∀ s w b, I s w → w.heap.size ≤ b → Ok b
  size : ∀ kd s x, kd < 4 → len (step kd s x) = len s + wid kd
  call : ∀ w s kd b o T cs x, kd < 4 → I s w → Ok b → plain T = true → Blk w b T cs → cs[o]? = some (.int .i64 x) → len s + wid kd ≤ R →
    Calls Try.prog g (#[.int .i64 (kd : Nat), .pointer (some ⟨b, o, none⟩)] ++ lb) w (Carried I w b T cs o (step kd s x) (val kd s x))

/-- The state of the reader behind from. -/
def IFrom (q : Nat → Prop) (r p : Nat) (bs : List Value) (k : Nat) (w : World) : Prop := RS q w p bs k ∧ Blk w r 99 #[.pointer (some ⟨p, 0, none⟩)] ∧ (∃ cs, Blk w p 114 cs) ∧ ∀ b, q b → b < w.heap.size
theorem rd_blk {q : Nat → Prop} {w : World} {p i : Nat} {bs : List Value} {bad : Bool} (h : Rd q w p bs i bad) : ∃ cs, Blk w p 114 cs := by
  obtain ⟨_, _, h, _⟩ := h
  exact ⟨_, h⟩
theorem rs_blk {q : Nat → Prop} {w : World} {p k : Nat} {bs : List Value} (h : RS q w p bs k) : ∃ cs, Blk w p 114 cs := by
  rcases h with ⟨_, h⟩ | ⟨_, _, h⟩ <;> exact rd_blk h
theorem blk_ne {w : World} {b p : Nat} {T T1 : TypeId} {cs cs1 : Array Value} (h : Blk w b T cs) (k : Blk w p T1 cs1) (hT : T ≠ T1) : b ≠ p := by
  rintro rfl
  unfold Blk at h k
  rw [h] at k
  injection k with k
  injection k with _ e
  exact hT e
theorem from_carr (q : Nat → Prop) (r p : Nat) (bs : List Value) (hL : bs.length ≤ 4611686018427387904) (R : Nat) :
    Carr 63 #[.pointer (some ⟨r, 0, none⟩)] (IFrom q r p bs) (fun b => ¬ q b ∧ b ≠ r) id R (fun kd k _ => k + wid kd) (fun kd k _ => rdk bs kd k) where
  eg := fun _ _ => rfl
  below := fun s w w' ⟨h1, h2, h3, h4⟩ hb => ⟨h1.below hb, h2.below hb, h3.imp fun _ h => h.below hb, fun b hq => Nat.lt_of_lt_of_le (h4 b hq) hb.size⟩
  store := fun s w w' b T cs ⟨h1, h2, ⟨_, h3⟩, h4⟩ ok hT hb o => by
    have hp := blk_ne hb h3 (plain_ne hT).2.2.2
    exact ⟨h1.only o (by simpa using hp.symm) (by simpa using ok.1), h2.only o (by simpa using ok.2.symm), ⟨_, h3.only o (by simpa using hp.symm)⟩, fun b hq => Nat.lt_of_lt_of_le (h4 b hq) o.size⟩
  fresh := fun s w b ⟨h1, h2, h3, h4⟩ hb => ⟨fun hq => by have := h4 b hq; omega, by have := h2.lt; omega⟩
  size := fun _ _ _ _ => rfl
  call := fun w s kd b o T cs x hk ⟨h1, h2, ⟨_, h3⟩, h4⟩ ok hT hb ho hlen => by
    have hp := blk_ne hb h3 (plain_ne hT).2.2.2
    refine (from_any kd hk r p b o s bs T cs w h2 h1 hL hb ?_ hp ok.1).mono ?_
    · rcases Nat.lt_or_ge o cs.size with h | h
      · exact h
      · rw [Array.getElem?_eq_none h] at ho; cases ho
    · rintro e w' ⟨rfl, hs, hb1, o1⟩
      have n1 : r ≠ p := blk_ne h2 h3 (by decide)
      have key : ∀ (q : Nat) (T1 : TypeId) (cs1 : Array Value), plain T1 = true → q ≠ b → Blk w q T1 cs1 → Blk w' q T1 cs1 :=
        fun q1 T1 cs1 hT1 hq hk => hk.only o1 (by simpa using ⟨blk_ne hk h3 (plain_ne hT1).2.2.2, hq⟩)
      exact ⟨rfl, ⟨hs, key r _ _ (by decide) ok.2.symm h2, rs_blk hs, fun b hq => Nat.lt_of_lt_of_le (h4 b hq) o1.size⟩, hb1, o1.size, key⟩

/-- The state of the writer behind into. -/
def IInto (w0 : World) (r p R : Nat) (L : List Value) (w : World) : Prop := WS w0 w p R L ∧ Blk w r 81 #[.pointer (some ⟨p, 0, none⟩)]
theorem WS.store {w0 w w' : World} {p R b : Nat} {L : List Value} {T : TypeId} {cs : Array Value} (h : WS w0 w p R L) (hb : Blk w b T cs) (hT : plain T = true) (o : Only w w' [b]) (h0 : w0.heap.size ≤ b) : WS w0 w' p R L := by
  obtain ⟨fp, hW, b0, hf⟩ := h
  refine ⟨fp, hW.only o ?_, b0.trans (o.to_below b0.size (by simpa using h0)), hf⟩
  obtain ⟨n1, n2, n3, _⟩ := plain_ne hT
  obtain ⟨D, G, dv, gv, hb1, hd, hg, _, _, _, _, rfl⟩ := hW
  intro x hx hm
  obtain rfl : x = b := by simpa using hm
  rcases List.mem_cons.1 hx with rfl | hm
  · exact blk_ne hb hb1 n3 rfl
  · rcases List.mem_append.1 hm with hm | hm
    · exact own_ne hd hb n1.symm hm
    · exact own_ne hg hb n2.symm hm
theorem set_same {cs : Array Value} {o : Nat} {v : Value} (h : cs[o]? = some v) : cs.setIfInBounds o v = cs := by
  apply Array.ext_getElem?
  intro i
  rw [Array.getElem?_setIfInBounds]
  by_cases hi : o = i
  · subst hi
    rw [if_pos rfl, h]
    have : o < cs.size := by
      rcases Nat.lt_or_ge o cs.size with h1 | h1
      · exact h1
      · rw [Array.getElem?_eq_none h1] at h; cases h
    rw [if_pos this]
  · rw [if_neg hi]
theorem into_carr (w0 : World) (r p R : Nat) (hR : R ≤ 1099511627776) :
    Carr 53 #[.pointer (some ⟨r, 0, none⟩)] (IInto w0 r p R) (fun b => w0.heap.size ≤ b ∧ b ≠ r) List.length R (fun kd L x => L ++ bek kd x) (fun _ _ x => x) where
  eg := fun _ _ => rfl
  below := fun s w w' ⟨h1, h2⟩ hb => ⟨h1.below hb, h2.below hb⟩
  store := fun s w w' b T cs ⟨h1, h2⟩ ok hT hb o => ⟨h1.store hb hT o ok.1, h2.only o (by simpa using ok.2.symm)⟩
  fresh := fun s w b ⟨h1, h2⟩ hb => ⟨Nat.le_trans h1.old.size hb, by have := h2.lt; omega⟩
  size := fun kd s x hk => by rw [List.length_append, bek_length kd hk]
  call := fun w s kd b o T cs x hk ⟨h1, h2⟩ ok hT hb ho hlen => by
    obtain ⟨n1, n2, n3, _⟩ := plain_ne hT
    refine (into_any kd hk w0 r p b o R s x T cs w h2 h1 hR hlen hb ho n1 n2 n3).mono ?_
    rintro e w' ⟨rfl, hs, hk1, hz⟩
    have key : ∀ (q : Nat) (T1 : TypeId) (cs1 : Array Value), plain T1 = true → Blk w q T1 cs1 → Blk w' q T1 cs1 :=
      fun q T1 cs1 hT1 hq => have ⟨m1, m2, m3, _⟩ := plain_ne hT1; hk1 q T1 cs1 m1 m2 m3 hq
    exact ⟨rfl, ⟨hs, key r _ _ (by decide) h2⟩, by rw [set_same ho]; exact key b T cs hT hb, hz, fun q T1 cs1 hT1 _ hq => key q T1 cs1 hT1 hq⟩

end Go.Proofs.Ytbomgaacahaofaa

namespace Go.Proofs.Ytbomgaacahaofaa
open Go Go.RowKit

/-- The number at a place. -/
def intAt (cs : Array Value) (o : Nat) : Int :=
  match cs[o]? with
  | some (.int _ x) => x
  | _ => 0
def Ints (cs : Array Value) (os : List Nat) : Prop := ∀ o ∈ os, ∃ x, cs[o]? = some (.int .i64 x)
theorem Ints.at {cs : Array Value} {os : List Nat} (h : Ints cs os) {o : Nat} (ho : o ∈ os) : cs[o]? = some (.int .i64 (intAt cs o)) := by
  obtain ⟨x, hx⟩ := h o ho
  unfold intAt
  rw [hx]
theorem Ints.set {cs : Array Value} {os : List Nat} (h : Ints cs os) (o : Nat) (v : Int) : Ints (cs.setIfInBounds o (.int .i64 v)) os := by
  intro o1 h1
  obtain ⟨x, hx⟩ := h o1 h1
  rw [Array.getElem?_setIfInBounds]
  by_cases he : o = o1
  · subst he
    have : o < cs.size := by
      rcases Nat.lt_or_ge o cs.size with h2 | h2
      · exact h2
      · rw [Array.getElem?_eq_none h2] at hx; cases hx
    rw [if_pos rfl, if_pos this]
    exact ⟨v, rfl⟩
  · rw [if_neg he]
    exact ⟨x, hx⟩

section
variable {σ : Type}
/-- What a field of numbers comes to. -/
def numRun (step : Nat → σ → Int → σ) (val : Nat → σ → Int → Int) (kd : Nat) (la lb2 : Int) : List Nat → σ → Array Value → Bool → Bool × σ × Array Value
  | [], s, cs, m => (m, s, cs)
  | o :: os, s, cs, m =>
    let v := val kd s (intAt cs o)
    numRun step val kd la lb2 os (step kd s (intAt cs o)) (cs.setIfInBounds o (.int .i64 v)) ((m && decide (la ≤ v)) && decide (v ≤ lb2))
theorem numRun_nil (step : Nat → σ → Int → σ) (val : Nat → σ → Int → Int) (kd : Nat) (la lb2 : Int) (s : σ) (cs : Array Value) (m : Bool) : numRun step val kd la lb2 [] s cs m = (m, s, cs) := rfl
theorem numRun_cons (step : Nat → σ → Int → σ) (val : Nat → σ → Int → Int) (kd : Nat) (la lb2 : Int) (o : Nat) (os : List Nat) (s : σ) (cs : Array Value) (m : Bool) :
    numRun step val kd la lb2 (o :: os) s cs m = numRun step val kd la lb2 os (step kd s (intAt cs o)) (cs.setIfInBounds o (.int .i64 (val kd s (intAt cs o)))) ((m && decide (la ≤ val kd s (intAt cs o))) && decide (val kd s (intAt cs o) ≤ lb2)) := rfl
/-- A field was carried. -/
def Ran (I : σ → World → Prop) (w : World) (X : Nat) (T : TypeId) (r : Bool × σ × Array Value) (e : Ending) (w' : World) : Prop :=
  e = .returned (.bool r.1) ∧ I r.2.1 w' ∧ Blk w' X T r.2.2 ∧ Keeps w w' X

def ptrs (X : Nat) (os : List Nat) : Array Value := (os.map fun o => Value.pointer (some ⟨X, o, none⟩)).toArray

variable {gc : FuncId} {lbc : Array Value} {I : σ → World → Prop} {Ok : Nat → Prop} {len : σ → Nat} {R : Nat} {step : Nat → σ → Int → σ} {val : Nat → σ → Int → Int}
set_option maxRecDepth 100000 in
set_option maxHeartbeats 1000000 in
theorem numbers_any (K : Carr gc lbc I Ok len R step val) (kd : Nat) (hk : kd < 4) (la lb2 : Int) (X : Nat) (T : TypeId) (os : List Nat) (c : Nat) (cs0 : Array Value) (s0 : σ) (pl pk pa pb row : Nat) (w : World)
    (hs0 : I s0 w) (ok : Ok X) (hT : plain T = true) (hX : Blk w X T cs0) (hi : Ints cs0 os) (hR : len s0 + wid kd * os.length ≤ R) (hn : os.length ≤ 1099511627776)
    (hpl : Blk w pl 111 #[.slice (some ⟨row, 0, none⟩) os.length c]) (hrow : Blk w row 96 (ptrs X os)) (hpk : Blk w pk 93 #[.int .i64 (kd : Nat)]) (hpa : Blk w pa 3 #[.int .i64 la]) (hpb : Blk w pb 3 #[.int .i64 lb2])
    (nr : row ≠ X) (nk : pk ≠ X) (na : pa ≠ X) (nb : pb ≠ X) :
    Calls Try.prog 60 #[.func (.func gc) #[] lbc, .pointer (some ⟨pl, 0, none⟩), .pointer (some ⟨pk, 0, none⟩), .pointer (some ⟨pa, 0, none⟩), .pointer (some ⟨pb, 0, none⟩)] w (Ran I w X T (numRun step val kd la lb2 os s0 cs0 true)) := by
  have eg := K.eg
  obtain ⟨n, hnn⟩ : ∃ n, n = os.length := ⟨_, rfl⟩
  rw [← hnn] at hn hpl hR
  have HN := Lib.hid hnn
  have HR := Lib.hid hR
  have H0 := Lib.hid hs0
  have HX := Lib.hid hX
  have HI := Lib.hid hi
  have g0 : w.cell? ⟨pl, 0, none⟩ = some (.slice (some ⟨row, 0, none⟩) n c) := hpl.cell 0
  have HB := Lib.hid (And.intro hrow (And.intro hpk (And.intro hpa hpb)))
  clear hnn hR hs0 hX hi hpl hrow hpk hpa hpb
  go_enter Try.func60, Try.ntmps60
  go_wp2
  go_loopw [7, 12] (fun m i wr => ∃ j : Nat, j ≤ n ∧ i = .int .i64 j ∧ ∃ (b : Bool) (s : σ) (cs : Array Value), m = .bool b ∧ Hid (numRun step val kd la lb2 (os.drop j) s cs b = numRun step val kd la lb2 os s0 cs0 true ∧ I s wr ∧ Blk wr X T cs ∧ Keeps w wr X ∧ Ints cs os ∧ len s + wid kd * (n - j) ≤ R)) (fun _ i _ => n - (intOf i).toNat)
  case atStart => exact ⟨0, Nat.zero_le _, rfl, true, s0, cs0, rfl, Lib.hid ⟨rfl, H0.out, HX.out, Keeps.refl _ _, HI.out, HR.out⟩⟩
  case round =>
    obtain ⟨j, hj, rfl, b, s, cs, rfl, HH⟩ := hrel
    by_cases hlt : j < n
    · have d1 : decide ((j : Int) < (n : Int)) = true := by simp; omega
      obtain ⟨o, ho⟩ : ∃ o, os[j]? = some o := ⟨os[j]'(by rw [← HN.out]; exact hlt), List.getElem?_eq_getElem _⟩
      have hmem := List.mem_of_getElem? ho
      have hdrop : os.drop j = o :: os.drop (j + 1) := by
        obtain ⟨h1, h2⟩ := List.getElem?_eq_some_iff.1 ho
        rw [List.drop_eq_getElem_cons h1, h2]
      have grow := (HH.out.2.2.2.1.2 row _ _ (by decide) nr HB.out.1)
      have gr : wr.cell? ⟨row, j, none⟩ = some (.pointer (some ⟨X, o, none⟩)) := (grow.cell j).trans (by unfold ptrs; simp [ho])
      have gk : wr.cell? ⟨pk, 0, none⟩ = some (.int .i64 (kd : Nat)) := (HH.out.2.2.2.1.2 pk _ _ (by decide) nk HB.out.2.1).cell 0
      have hc := HH.out.2.2.2.2.1.at hmem
      have hw : len s + wid kd ≤ R := by
        have h1 := HH.out.2.2.2.2.2
        have : wid kd * 1 ≤ wid kd * (n - j) := Nat.mul_le_mul_left _ (by omega)
        omega
      obtain ⟨V, hV⟩ : ∃ V, V = val kd s (intAt cs o) := ⟨_, rfl⟩
      have C := fun wr' (hb : Below wr.heap.size wr wr') => K.call wr' s kd X o T cs (intAt cs o) hk (K.below _ _ _ HH.out.2.1 hb) ok hT (HH.out.2.2.1.below hb) hc hw
      rw [← hV] at C
      have HV := Lib.hid hV
      have HO := Lib.hid (And.intro hmem hdrop)
      have HC := Lib.hid hc
      clear hV hmem hdrop ho hc
      go_wp2_with (go_at_fn gc; ((with_reducible refine (C _ (by first | exact Below.refl _ _ | exact (Below.refl _ _).drew)).mono ?_); rintro e w1 ⟨rfl, hI1, hX1, hk1⟩))
      have o2 := o
      have hs1 : o < cs.size := by
        have hc := HC.out
        rcases Nat.lt_or_ge o cs.size with h2 | h2
        · exact h2
        · rw [Array.getElem?_eq_none h2] at hc; cases hc
      have hb1' := (hk1.2 pb _ _ (by decide) nb (HH.out.2.2.2.1.2 pb _ _ (by decide) nb HB.out.2.2.2))
      have ha1' := (hk1.2 pa _ _ (by decide) na (HH.out.2.2.2.1.2 pa _ _ (by decide) na HB.out.2.2.1))
      have hxx : w1.cell? ⟨X, o, none⟩ = some (.int .i64 V) := (hX1.cell o).trans (by rw [Array.getElem?_setIfInBounds, if_pos rfl, if_pos hs1])
      have dd := (Below.refl w1.heap.size w1).drew
      have hx1 : w1.drew.cell? ⟨X, o, none⟩ = some (.int .i64 V) := hxx
      have ha1 : w1.drew.cell? ⟨pa, 0, none⟩ = some (.int .i64 la) := ha1'.cell 0
      have hb1 : w1.drew.cell? ⟨pb, 0, none⟩ = some (.int .i64 lb2) := hb1'.cell 0
      have HR1 : ∀ (b1 : Bool) (w2 : World), b1 = ((b && decide (la ≤ V)) && decide (V ≤ lb2)) → Below w1.heap.size w1 w2 → Hid (numRun step val kd la lb2 (os.drop (j + 1)) (step kd s (intAt cs o)) (cs.setIfInBounds o (.int .i64 V)) b1 = numRun step val kd la lb2 os s0 cs0 true ∧ I (step kd s (intAt cs o)) w2 ∧ Blk w2 X T (cs.setIfInBounds o (.int .i64 V)) ∧ Keeps w w2 X ∧ Ints (cs.setIfInBounds o (.int .i64 V)) os ∧ len (step kd s (intAt cs o)) + wid kd * (n - (j + 1)) ≤ R) := by
        intro b1 w2 e1 hb2
        have h1 := HH.out.1
        rw [HO.out.2] at h1
        rw [numRun_cons, ← HV.out, ← e1] at h1
        refine Lib.hid ⟨h1, K.below _ _ _ hI1 hb2, hX1.below hb2, (HH.out.2.2.2.1.trans hk1).trans (Keeps.of_below hb2 _), HH.out.2.2.2.2.1.set _ _, ?_⟩
        rw [K.size kd s _ hk]
        have h3 := HH.out.2.2.2.2.2
        have h4 : wid kd * (n - j) = wid kd * (n - (j + 1)) + wid kd := by rw [show n - j = (n - (j + 1)) + 1 by omega, Nat.mul_add, Nat.mul_one]
        omega
      have bb := (Below.refl w1.heap.size w1).drew
      cases b with
      | false =>
        have HR2 := HR1 false w1.drew (by simp) bb
        clear HR1
        refine wp_region_chain (fun w' => w'.cell? ⟨X, o, none⟩ = some (.int .i64 V) ∧ w'.cell? ⟨pa, 0, none⟩ = some (.int .i64 la) ∧ w'.cell? ⟨pb, 0, none⟩ = some (.int .i64 lb2)) [(0, false), (1, false), (2, false), (3, false), (4, false), (5, false), (6, false), (7, false), (8, false), (9, false), (10, false), (11, false), (12, false), (13, false), (14, false), (15, false)] (by kernel_rfl) (by kernel_rfl) (by exact ⟨hx1, ha1, hb1⟩) ?_
        repeat (first
          | (refine ChainL.skip (o := ?_) ?_ ?_ ?_; rotate_left; (focus (first | (simp only [List.getElem?_toArray, List.getElem?_cons_succ, List.getElem?_cons_zero]; with_reducible rfl) | (simp only [List.getElem?_toArray, List.getElem?_cons_zero]; with_reducible rfl))); (focus rfl); simp only [Act.put, List.setIfInBounds_toArray, List.set_cons_zero, List.set_cons_succ])
          | (refine ChainL.val (o := ?_) (v := ?_) ?_ ?_ ?_ ?_ ?_; rotate_left 2; (focus (first | (simp only [List.getElem?_toArray, List.getElem?_cons_succ, List.getElem?_cons_zero]; with_reducible rfl) | (simp only [List.getElem?_toArray, List.getElem?_cons_zero]; with_reducible rfl))); (focus (intro _ _ h; cases h)); (focus rfl); (focus (intro w' hI; obtain ⟨g1, g2, g3⟩ := hI; go_simp <;> with_reducible rfl)); simp only [Act.put, List.setIfInBounds_toArray, List.set_cons_zero, List.set_cons_succ]))
        refine ChainL.nil ?_
        go_wp2
        go_roundw
        case rel => exact ⟨j + 1, by omega, by go_num, false, _, _, rfl, HR2⟩
        case measure => simp [intOf]; omega
      | true =>
        cases hd1 : decide (la ≤ V) with
        | false =>
          have HR2 := HR1 false w1.drew (by simp [hd1]) bb
          clear HR1
          refine wp_region_chain (fun w' => w'.cell? ⟨X, o, none⟩ = some (.int .i64 V) ∧ w'.cell? ⟨pa, 0, none⟩ = some (.int .i64 la) ∧ w'.cell? ⟨pb, 0, none⟩ = some (.int .i64 lb2)) [(0, false), (1, false), (2, false), (3, false), (4, false), (5, false), (6, false), (7, false), (8, false), (9, false), (10, false), (11, false), (12, false), (13, false), (14, false), (15, false)] (by kernel_rfl) (by kernel_rfl) (by exact ⟨hx1, ha1, hb1⟩) ?_
          repeat (first
            | (refine ChainL.skip (o := ?_) ?_ ?_ ?_; rotate_left; (focus (first | (simp only [List.getElem?_toArray, List.getElem?_cons_succ, List.getElem?_cons_zero]; with_reducible rfl) | (simp only [List.getElem?_toArray, List.getElem?_cons_zero]; with_reducible rfl))); (focus rfl); simp only [Act.put, List.setIfInBounds_toArray, List.set_cons_zero, List.set_cons_succ])
            | (refine ChainL.val (o := ?_) (v := ?_) ?_ ?_ ?_ ?_ ?_; rotate_left 2; (focus (first | (simp only [List.getElem?_toArray, List.getElem?_cons_succ, List.getElem?_cons_zero]; with_reducible rfl) | (simp only [List.getElem?_toArray, List.getElem?_cons_zero]; with_reducible rfl))); (focus (intro _ _ h; cases h)); (focus rfl); (focus (intro w' hI; obtain ⟨g1, g2, g3⟩ := hI; go_simp <;> with_reducible rfl)); simp only [Act.put, List.setIfInBounds_toArray, List.set_cons_zero, List.set_cons_succ]))
          refine ChainL.nil ?_
          go_wp2
          go_roundw
          case rel => exact ⟨j + 1, by omega, by go_num, false, _, _, rfl, HR2⟩
          case measure => simp [intOf]; omega
        | true =>
          cases hd2 : decide (V ≤ lb2) with
          | false =>
            have HR2 := HR1 false w1.drew (by simp [hd2]) bb
            clear HR1
            refine wp_region_chain (fun w' => w'.cell? ⟨X, o, none⟩ = some (.int .i64 V) ∧ w'.cell? ⟨pa, 0, none⟩ = some (.int .i64 la) ∧ w'.cell? ⟨pb, 0, none⟩ = some (.int .i64 lb2)) [(0, false), (1, false), (2, false), (3, false), (4, false), (5, false), (6, false), (7, false), (8, false), (9, false), (10, false), (11, false), (12, false), (13, false), (14, false), (15, false)] (by kernel_rfl) (by kernel_rfl) (by exact ⟨hx1, ha1, hb1⟩) ?_
            repeat (first
              | (refine ChainL.skip (o := ?_) ?_ ?_ ?_; rotate_left; (focus (first | (simp only [List.getElem?_toArray, List.getElem?_cons_succ, List.getElem?_cons_zero]; with_reducible rfl) | (simp only [List.getElem?_toArray, List.getElem?_cons_zero]; with_reducible rfl))); (focus rfl); simp only [Act.put, List.setIfInBounds_toArray, List.set_cons_zero, List.set_cons_succ])
              | (refine ChainL.val (o := ?_) (v := ?_) ?_ ?_ ?_ ?_ ?_; rotate_left 2; (focus (first | (simp only [List.getElem?_toArray, List.getElem?_cons_succ, List.getElem?_cons_zero]; with_reducible rfl) | (simp only [List.getElem?_toArray, List.getElem?_cons_zero]; with_reducible rfl))); (focus (intro _ _ h; cases h)); (focus rfl); (focus (intro w' hI; obtain ⟨g1, g2, g3⟩ := hI; go_simp <;> with_reducible rfl)); simp only [Act.put, List.setIfInBounds_toArray, List.set_cons_zero, List.set_cons_succ]))
            refine ChainL.nil ?_
            go_wp2
            go_roundw
            case rel => exact ⟨j + 1, by omega, by go_num, false, _, _, rfl, HR2⟩
            case measure => simp [intOf]; omega
          | true =>
            have HR2 := HR1 true w1.drew (by simp [hd1, hd2]) bb
            clear HR1
            refine wp_region_chain (fun w' => w'.cell? ⟨X, o, none⟩ = some (.int .i64 V) ∧ w'.cell? ⟨pa, 0, none⟩ = some (.int .i64 la) ∧ w'.cell? ⟨pb, 0, none⟩ = some (.int .i64 lb2)) [(0, false), (1, false), (2, false), (3, false), (4, false), (5, false), (6, false), (7, false), (8, false), (9, false), (10, false), (11, false), (12, false), (13, false), (14, false), (15, false)] (by kernel_rfl) (by kernel_rfl) (by exact ⟨hx1, ha1, hb1⟩) ?_
            repeat (first
              | (refine ChainL.skip (o := ?_) ?_ ?_ ?_; rotate_left; (focus (first | (simp only [List.getElem?_toArray, List.getElem?_cons_succ, List.getElem?_cons_zero]; with_reducible rfl) | (simp only [List.getElem?_toArray, List.getElem?_cons_zero]; with_reducible rfl))); (focus rfl); simp only [Act.put, List.setIfInBounds_toArray, List.set_cons_zero, List.set_cons_succ])
              | (refine ChainL.val (o := ?_) (v := ?_) ?_ ?_ ?_ ?_ ?_; rotate_left 2; (focus (first | (simp only [List.getElem?_toArray, List.getElem?_cons_succ, List.getElem?_cons_zero]; with_reducible rfl) | (simp only [List.getElem?_toArray, List.getElem?_cons_zero]; with_reducible rfl))); (focus (intro _ _ h; cases h)); (focus rfl); (focus (intro w' hI; obtain ⟨g1, g2, g3⟩ := hI; go_simp <;> with_reducible rfl)); simp only [Act.put, List.setIfInBounds_toArray, List.set_cons_zero, List.set_cons_succ]))
            refine ChainL.nil ?_
            go_wp2
            go_roundw
            case rel => exact ⟨j + 1, by omega, by go_num, true, _, _, rfl, HR2⟩
            case measure => simp [intOf]; omega
    · obtain rfl : j = n := by omega
      have d1 : decide ((j : Int) < (j : Int)) = false := by simp
      have hq := HH.out
      rw [show os.drop j = [] by rw [List.drop_eq_nil_iff]; have := HN.out; omega] at hq
      rw [numRun_nil] at hq
      obtain ⟨h1, h2, h3, h4, _⟩ := hq
      have HE : Ran I w X T (numRun step val kd la lb2 os s0 cs0 true) (.returned (.bool b)) wr := by rw [← h1]; exact ⟨rfl, h2, h3, h4⟩
      have HE := Lib.hid HE
      clear h1 h2 h3 h4 HH
      go_wp2
      go_ret
      exact HE.out
end

end Go.Proofs.Ytbomgaacahaofaa

namespace Go.Proofs.Ytbomgaacahaofaa
open Go Go.RowKit

section
variable {σ : Type} {gc : FuncId} {lbc : Array Value} {I : σ → World → Prop} {Ok : Nat → Prop} {len : σ → Nat} {R : Nat} {step : Nat → σ → Int → σ} {val : Nat → σ → Int → Int}

/-- What free bytes come to. -/
def freeRun (step : Nat → σ → Int → σ) : Nat → σ → σ
  | 0, s => s
  | n + 1, s => freeRun step n (step 0 s 0)
theorem freeRun_succ (step : Nat → σ → Int → σ) (n : Nat) (s : σ) : freeRun step (n + 1) s = freeRun step n (step 0 s 0) := rfl

set_option maxRecDepth 100000 in
theorem free_any (K : Carr gc lbc I Ok len R step val) (X : Nat) (T : TypeId) (n : Nat) (cs0 : Array Value) (s0 : σ) (pn : Nat) (w : World)
    (hs0 : I s0 w) (hT : plain T = true) (hX : Blk w X T cs0) (hR : len s0 + n ≤ R) (hn : n ≤ 1099511627776)
    (hpn : Blk w pn 3 #[.int .i64 (n : Nat)]) :
    Calls Try.prog 59 #[.func (.func gc) #[] lbc, .pointer (some ⟨pn, 0, none⟩)] w (Ran I w X T (true, freeRun step n s0, cs0)) := by
  have eg := K.eg
  have HR := Lib.hid hR
  have H0 := Lib.hid hs0
  have HX := Lib.hid hX
  have g0 : w.cell? ⟨pn, 0, none⟩ = some (.int .i64 (n : Nat)) := hpn.cell 0
  clear hR hs0 hX hpn
  go_enter Try.func59, Try.ntmps59
  go_wp2
  go_loopw [6] (fun i wr => ∃ j : Nat, j ≤ n ∧ i = .int .i64 j ∧ ∃ (s : σ), Hid (freeRun step (n - j) s = freeRun step n s0 ∧ I s wr ∧ Blk wr X T cs0 ∧ Keeps w wr X ∧ len s + (n - j) ≤ R)) (fun i _ => n - (intOf i).toNat)
  case atStart => exact ⟨0, Nat.zero_le _, rfl, s0, Lib.hid ⟨rfl, H0.out, HX.out, Keeps.refl _ _, HR.out⟩⟩
  case round =>
    obtain ⟨j, hj, rfl, s, HH⟩ := hrel
    by_cases hlt : j < n
    · have d1 : decide ((j : Int) < (n : Int)) = true := by simp; omega
      have hw : len s + wid 0 ≤ R := by
        have h1 := HH.out.2.2.2.2
        have : wid 0 = 1 := rfl
        omega
      have C : ∀ w1, Below wr.heap.size wr w1 → Blk w1 wr.heap.size 3 #[.int .i64 0] → Calls Try.prog gc (#[.int .i64 0, .pointer (some ⟨wr.heap.size, 0, none⟩)] ++ lbc) w1 (Carried I w1 wr.heap.size 3 #[.int .i64 0] 0 (step 0 s 0) (val 0 s 0)) :=
        fun w1 hb hx => K.call w1 s 0 wr.heap.size 0 3 #[.int .i64 0] 0 (by decide) (K.below _ _ _ HH.out.2.1 hb) (K.fresh _ _ _ HH.out.2.1 (Nat.le_refl _)) (by decide) hx rfl hw
      have bx : Blk (wr.alloc (.cells #[.int .i64 0] 3)) wr.heap.size 3 #[.int .i64 0] := Blk.new wr _ _
      have bb : Below wr.heap.size wr (wr.alloc (.cells #[.int .i64 0] 3)) := (Below.refl wr.heap.size wr).alloc (Nat.le_refl _) _
      have HC := Lib.hid (And.intro bx bb)
      clear bx bb
      go_wp2_with (go_at_fn gc; ((with_reducible refine (C _ HC.out.2 HC.out.1).mono ?_); rintro e w1 ⟨rfl, hI1, hX1, hk1⟩))
      have hk2 : Keeps wr w1 X := Keeps.new HC.out.2 hk1 (Nat.le_refl _)
      have HR2 : Hid (freeRun step (n - (j + 1)) (step 0 s 0) = freeRun step n s0 ∧ I (step 0 s 0) w1 ∧ Blk w1 X T cs0 ∧ Keeps w w1 X ∧ len (step 0 s 0) + (n - (j + 1)) ≤ R) := by
        obtain ⟨h1, h2, h3, h4, h5⟩ := HH.out
        refine Lib.hid ⟨?_, hI1, hk1.2 X T cs0 hT (by have := h3.lt; omega) (h3.below HC.out.2), h4.trans hk2, ?_⟩
        · rw [← h1, ← freeRun_succ, show n - (j + 1) + 1 = n - j by omega]
        · rw [K.size 0 s 0 (by decide)]
          have : wid 0 = 1 := rfl
          omega
      go_roundw
      case rel => exact ⟨j + 1, by omega, by go_num, _, HR2⟩
      case measure => simp [intOf]; omega
    · obtain rfl : j = n := by omega
      have d1 : decide ((j : Int) < (j : Int)) = false := by simp
      obtain ⟨h1, h2, h3, h4, _⟩ := HH.out
      rw [Nat.sub_self] at h1
      have HE : Ran I w X T (true, freeRun step j s0, cs0) (.returned (.bool true)) wr := by rw [← h1]; exact ⟨rfl, h2, h3, h4⟩
      have HE := Lib.hid HE
      clear h1 h2 h3 h4 HH
      go_wp2
      go_ret
      exact HE.out
end

end Go.Proofs.Ytbomgaacahaofaa

namespace Go.Proofs.Ytbomgaacahaofaa
open Go Go.RowKit

section
variable {σ : Type} {gc : FuncId} {lbc : Array Value} {I : σ → World → Prop} {Ok : Nat → Prop} {len : σ → Nat} {R : Nat} {step : Nat → σ → Int → σ} {val : Nat → σ → Int → Int}

/-- What a flag comes to, where x is put. -/
def eithRun (step : Nat → σ → Int → σ) (val : Nat → σ → Int → Int) (kd : Nat) (no yes : Int) (o : Nat) (x : Int) (s : σ) (cs : Array Value) : Bool × σ × Array Value :=
  ((val kd s x == no) || (val kd s x == yes), step kd s x, cs.setIfInBounds o (.bool (val kd s x == yes)))

set_option maxRecDepth 100000 in
set_option maxHeartbeats 1000000 in
theorem either_no (K : Carr gc lbc I Ok len R step val) (kd : Nat) (hk : kd < 4) (no yes : Int) (X : Nat) (T : TypeId) (o : Nat) (cs0 : Array Value) (s0 : σ) (pn pf py pk : Nat) (w : World)
    (hs0 : I s0 w) (ok : Ok X) (hT : plain T = true) (hX : Blk w X T cs0) (hf : cs0[o]? = some (.bool false)) (hR : len s0 + wid kd ≤ R)
    (hpn : Blk w pn 3 #[.int .i64 no]) (hpf : Blk w pf 98 #[.pointer (some ⟨X, o, none⟩)]) (hpy : Blk w py 3 #[.int .i64 yes]) (hpk : Blk w pk 93 #[.int .i64 (kd : Nat)])
    (nn : pn ≠ X) (ny : py ≠ X) :
    Calls Try.prog 61 #[.func (.func gc) #[] lbc, .pointer (some ⟨pn, 0, none⟩), .pointer (some ⟨pf, 0, none⟩), .pointer (some ⟨py, 0, none⟩), .pointer (some ⟨pk, 0, none⟩)] w (Ran I w X T (eithRun step val kd no yes o no s0 cs0)) := by
  have eg := K.eg
  have a1 : w.cell? ⟨pn, 0, none⟩ = some (.int .i64 no) := hpn.cell 0
  obtain ⟨xb, hxb⟩ : ∃ xb, xb = w.heap.size := ⟨_, rfl⟩
  obtain ⟨wa, hwa⟩ : ∃ wa, wa = (w.alloc (.cells #[.int .i64 no] 3)) := ⟨_, rfl⟩
  have hb : Below w.heap.size w wa := hwa ▸ (Below.refl w.heap.size w).alloc (Nat.le_refl _) _
  have hx : Blk wa xb 3 #[.int .i64 no] := by rw [hwa, hxb]; exact Blk.new w _ _
  have os : o < cs0.size := by
    rcases Nat.lt_or_ge o cs0.size with h2 | h2
    · exact h2
    · rw [Array.getElem?_eq_none h2] at hf; cases hf
  have nx : X ≠ xb := by rw [hxb]; have := hX.lt; omega
  have C := K.call wa s0 kd xb 0 3 #[.int .i64 no] no hk (K.below _ _ _ hs0 hb) (K.fresh _ _ _ hs0 (by omega)) (by decide) hx rfl hR
  obtain ⟨V, hV⟩ : ∃ V, V = val kd s0 no := ⟨_, rfl⟩
  obtain ⟨s1, hs1⟩ : ∃ s1, s1 = step kd s0 no := ⟨_, rfl⟩
  rw [← hV, ← hs1] at C
  have key : ∀ w1, I s1 w1 → Blk w1 xb 3 #[.int .i64 V] → Keeps wa w1 xb → ∀ bl : Bool, I s1 (w1.setCell ⟨X, o, none⟩ (.bool bl)) ∧ Blk (w1.setCell ⟨X, o, none⟩ (.bool bl)) X T (cs0.setIfInBounds o (.bool bl)) ∧ Keeps w (w1.setCell ⟨X, o, none⟩ (.bool bl)) X ∧ Blk (w1.setCell ⟨X, o, none⟩ (.bool bl)) xb 3 #[.int .i64 V] := by
    intro w1 hI1 hx1 hk1 bl
    have hX1 : Blk w1 X T cs0 := hk1.2 X T cs0 hT nx (hX.below hb)
    have oo : Only w1 (w1.setCell ⟨X, o, none⟩ (.bool bl)) [X] := (Only.refl w1 [X]).set (.inl (by simp)) _
    exact ⟨K.store _ _ _ X T cs0 hI1 ok hT hX1 oo, hX1.set o _, (Keeps.new hb hk1 (by omega)).trans (Keeps.only oo), hx1.only oo (by simpa using nx.symm)⟩
  have stay : ∀ w1, Keeps wa w1 xb → w1.cell? ⟨pn, 0, none⟩ = some (.int .i64 no) ∧ w1.cell? ⟨pf, 0, none⟩ = some (.pointer (some ⟨X, o, none⟩)) ∧ w1.cell? ⟨py, 0, none⟩ = some (.int .i64 yes) ∧ w1.cell? ⟨X, o, none⟩ = some (.bool false) ∧ w1.frozen? ⟨X, o, none⟩ = false := by
    intro w1 hk1
    have hX1 : Blk w1 X T cs0 := hk1.2 X T cs0 hT nx (hX.below hb)
    exact ⟨(hk1.2 pn _ _ (by decide) (by have := hpn.lt; omega) (hpn.below hb)).cell 0, (hk1.2 pf _ _ (by decide) (by have := hpf.lt; omega) (hpf.below hb)).cell 0, (hk1.2 py _ _ (by decide) (by have := hpy.lt; omega) (hpy.below hb)).cell 0, (hX1.cell o).trans hf, hX1.frozen o⟩
  have stay2 : ∀ w1, Keeps w w1 X → w1.cell? ⟨pn, 0, none⟩ = some (.int .i64 no) ∧ w1.cell? ⟨py, 0, none⟩ = some (.int .i64 yes) := by
    intro w1 hk1
    exact ⟨(hk1.2 pn _ _ (by decide) nn hpn).cell 0, (hk1.2 py _ _ (by decide) ny hpy).cell 0⟩
  have b2 : w.cell? ⟨pf, 0, none⟩ = some (.pointer (some ⟨X, o, none⟩)) := hpf.cell 0
  have b3 : w.cell? ⟨X, o, none⟩ = some (.bool false) := (hX.cell o).trans hf
  have b4 : w.cell? ⟨pk, 0, none⟩ = some (.int .i64 (kd : Nat)) := hpk.cell 0
  have b5 : w.cell? ⟨py, 0, none⟩ = some (.int .i64 yes) := hpy.cell 0
  have ll : pn < w.heap.size ∧ pf < w.heap.size ∧ py < w.heap.size ∧ pk < w.heap.size ∧ X < w.heap.size := ⟨hpn.lt, hpf.lt, hpy.lt, hpk.lt, hX.lt⟩
  have key := Lib.hid key
  have stay := Lib.hid stay
  have stay2 := Lib.hid stay2
  have HV := Lib.hid hV
  have HS := Lib.hid hs1
  clear hs0 hX hf hR hpn hpf hpy hpk hV hs1 hb hx nn ny ok hT
  subst hwa hxb
  go_enter Try.func61, Try.ntmps61
  cases hd : (V == no)
  all_goals go_wp2_with (go_at_fn gc; ((with_reducible refine (C).mono ?_); rintro e w1 ⟨rfl, hI1, hx1, hk1⟩; obtain ⟨c1, c2, c3, c4, c5⟩ := stay.out w1 hk1; have c6 : w1.cell? ⟨w.heap.size, 0, none⟩ = some (.int .i64 V) := hx1.cell 0; obtain ⟨k1, k2, k3, k4⟩ := key.out w1 hI1 hx1 hk1 (V == yes); obtain ⟨f1, f2⟩ := stay2.out _ k3; have f3 := k4.cell 0; simp only [List.getElem?_toArray, List.getElem?_cons_zero] at f3; have HK := Lib.hid (And.intro k1 (And.intro k2 k3)); clear k1 k2 k3 k4))
  all_goals go_ret
  all_goals refine ⟨?_, ?_, ?_, HK.out.2.2⟩
  all_goals unfold eithRun
  all_goals (try simp only [← HV.out, ← HS.out, hd])
  all_goals first | rfl | exact HK.out.1 | exact HK.out.2.1

set_option maxRecDepth 100000 in
set_option maxHeartbeats 1000000 in
theorem either_yes (K : Carr gc lbc I Ok len R step val) (kd : Nat) (hk : kd < 4) (no yes : Int) (X : Nat) (T : TypeId) (o : Nat) (cs0 : Array Value) (s0 : σ) (pn pf py pk : Nat) (w : World)
    (hs0 : I s0 w) (ok : Ok X) (hT : plain T = true) (hX : Blk w X T cs0) (hf : cs0[o]? = some (.bool true)) (hR : len s0 + wid kd ≤ R)
    (hpn : Blk w pn 3 #[.int .i64 no]) (hpf : Blk w pf 98 #[.pointer (some ⟨X, o, none⟩)]) (hpy : Blk w py 3 #[.int .i64 yes]) (hpk : Blk w pk 93 #[.int .i64 (kd : Nat)])
    (nn : pn ≠ X) (ny : py ≠ X) :
    Calls Try.prog 61 #[.func (.func gc) #[] lbc, .pointer (some ⟨pn, 0, none⟩), .pointer (some ⟨pf, 0, none⟩), .pointer (some ⟨py, 0, none⟩), .pointer (some ⟨pk, 0, none⟩)] w (Ran I w X T (eithRun step val kd no yes o yes s0 cs0)) := by
  have eg := K.eg
  have a1 : w.cell? ⟨pn, 0, none⟩ = some (.int .i64 no) := hpn.cell 0
  obtain ⟨xb, hxb⟩ : ∃ xb, xb = w.heap.size := ⟨_, rfl⟩
  obtain ⟨wa, hwa⟩ : ∃ wa, wa = (w.alloc (.cells #[.int .i64 yes] 3)) := ⟨_, rfl⟩
  have hb : Below w.heap.size w wa := hwa ▸ (Below.refl w.heap.size w).alloc (Nat.le_refl _) _
  have hx : Blk wa xb 3 #[.int .i64 yes] := by rw [hwa, hxb]; exact Blk.new w _ _
  have os : o < cs0.size := by
    rcases Nat.lt_or_ge o cs0.size with h2 | h2
    · exact h2
    · rw [Array.getElem?_eq_none h2] at hf; cases hf
  have nx : X ≠ xb := by rw [hxb]; have := hX.lt; omega
  have C := K.call wa s0 kd xb 0 3 #[.int .i64 yes] yes hk (K.below _ _ _ hs0 hb) (K.fresh _ _ _ hs0 (by omega)) (by decide) hx rfl hR
  obtain ⟨V, hV⟩ : ∃ V, V = val kd s0 yes := ⟨_, rfl⟩
  obtain ⟨s1, hs1⟩ : ∃ s1, s1 = step kd s0 yes := ⟨_, rfl⟩
  rw [← hV, ← hs1] at C
  have key : ∀ w1, I s1 w1 → Blk w1 xb 3 #[.int .i64 V] → Keeps wa w1 xb → ∀ bl : Bool, I s1 (w1.setCell ⟨X, o, none⟩ (.bool bl)) ∧ Blk (w1.setCell ⟨X, o, none⟩ (.bool bl)) X T (cs0.setIfInBounds o (.bool bl)) ∧ Keeps w (w1.setCell ⟨X, o, none⟩ (.bool bl)) X ∧ Blk (w1.setCell ⟨X, o, none⟩ (.bool bl)) xb 3 #[.int .i64 V] := by
    intro w1 hI1 hx1 hk1 bl
    have hX1 : Blk w1 X T cs0 := hk1.2 X T cs0 hT nx (hX.below hb)
    have oo : Only w1 (w1.setCell ⟨X, o, none⟩ (.bool bl)) [X] := (Only.refl w1 [X]).set (.inl (by simp)) _
    exact ⟨K.store _ _ _ X T cs0 hI1 ok hT hX1 oo, hX1.set o _, (Keeps.new hb hk1 (by omega)).trans (Keeps.only oo), hx1.only oo (by simpa using nx.symm)⟩
  have stay : ∀ w1, Keeps wa w1 xb → w1.cell? ⟨pn, 0, none⟩ = some (.int .i64 no) ∧ w1.cell? ⟨pf, 0, none⟩ = some (.pointer (some ⟨X, o, none⟩)) ∧ w1.cell? ⟨py, 0, none⟩ = some (.int .i64 yes) ∧ w1.cell? ⟨X, o, none⟩ = some (.bool true) ∧ w1.frozen? ⟨X, o, none⟩ = false := by
    intro w1 hk1
    have hX1 : Blk w1 X T cs0 := hk1.2 X T cs0 hT nx (hX.below hb)
    exact ⟨(hk1.2 pn _ _ (by decide) (by have := hpn.lt; omega) (hpn.below hb)).cell 0, (hk1.2 pf _ _ (by decide) (by have := hpf.lt; omega) (hpf.below hb)).cell 0, (hk1.2 py _ _ (by decide) (by have := hpy.lt; omega) (hpy.below hb)).cell 0, (hX1.cell o).trans hf, hX1.frozen o⟩
  have stay2 : ∀ w1, Keeps w w1 X → w1.cell? ⟨pn, 0, none⟩ = some (.int .i64 no) ∧ w1.cell? ⟨py, 0, none⟩ = some (.int .i64 yes) := by
    intro w1 hk1
    exact ⟨(hk1.2 pn _ _ (by decide) nn hpn).cell 0, (hk1.2 py _ _ (by decide) ny hpy).cell 0⟩
  have b2 : w.cell? ⟨pf, 0, none⟩ = some (.pointer (some ⟨X, o, none⟩)) := hpf.cell 0
  have b3 : w.cell? ⟨X, o, none⟩ = some (.bool true) := (hX.cell o).trans hf
  have b4 : w.cell? ⟨pk, 0, none⟩ = some (.int .i64 (kd : Nat)) := hpk.cell 0
  have b5 : w.cell? ⟨py, 0, none⟩ = some (.int .i64 yes) := hpy.cell 0
  have ll : pn < w.heap.size ∧ pf < w.heap.size ∧ py < w.heap.size ∧ pk < w.heap.size ∧ X < w.heap.size := ⟨hpn.lt, hpf.lt, hpy.lt, hpk.lt, hX.lt⟩
  have key := Lib.hid key
  have stay := Lib.hid stay
  have stay2 := Lib.hid stay2
  have HV := Lib.hid hV
  have HS := Lib.hid hs1
  clear hs0 hX hf hR hpn hpf hpy hpk hV hs1 hb hx nn ny ok hT
  subst hwa hxb
  go_enter Try.func61, Try.ntmps61
  cases hd : (V == no)
  all_goals go_wp2_with (go_at_fn gc; ((with_reducible refine (C).mono ?_); rintro e w1 ⟨rfl, hI1, hx1, hk1⟩; obtain ⟨c1, c2, c3, c4, c5⟩ := stay.out w1 hk1; have c6 : w1.cell? ⟨w.heap.size, 0, none⟩ = some (.int .i64 V) := hx1.cell 0; obtain ⟨k1, k2, k3, k4⟩ := key.out w1 hI1 hx1 hk1 (V == yes); obtain ⟨f1, f2⟩ := stay2.out _ k3; have f3 := k4.cell 0; simp only [List.getElem?_toArray, List.getElem?_cons_zero] at f3; have HK := Lib.hid (And.intro k1 (And.intro k2 k3)); clear k1 k2 k3 k4))
  all_goals go_ret
  all_goals refine ⟨?_, ?_, ?_, HK.out.2.2⟩
  all_goals unfold eithRun
  all_goals (try simp only [← HV.out, ← HS.out, hd])
  all_goals first | rfl | exact HK.out.1 | exact HK.out.2.1

theorem either_any (K : Carr gc lbc I Ok len R step val) (kd : Nat) (hk : kd < 4) (no yes : Int) (X : Nat) (T : TypeId) (o : Nat) (f : Bool) (cs0 : Array Value) (s0 : σ) (pn pf py pk : Nat) (w : World)
    (hs0 : I s0 w) (ok : Ok X) (hT : plain T = true) (hX : Blk w X T cs0) (hf : cs0[o]? = some (.bool f)) (hR : len s0 + wid kd ≤ R)
    (hpn : Blk w pn 3 #[.int .i64 no]) (hpf : Blk w pf 98 #[.pointer (some ⟨X, o, none⟩)]) (hpy : Blk w py 3 #[.int .i64 yes]) (hpk : Blk w pk 93 #[.int .i64 (kd : Nat)])
    (nn : pn ≠ X) (ny : py ≠ X) :
    Calls Try.prog 61 #[.func (.func gc) #[] lbc, .pointer (some ⟨pn, 0, none⟩), .pointer (some ⟨pf, 0, none⟩), .pointer (some ⟨py, 0, none⟩), .pointer (some ⟨pk, 0, none⟩)] w (Ran I w X T (eithRun step val kd no yes o (if f then yes else no) s0 cs0)) := by
  cases f
  · exact either_no K kd hk no yes X T o cs0 s0 pn pf py pk w hs0 ok hT hX hf hR hpn hpf hpy hpk nn ny
  · exact either_yes K kd hk no yes X T o cs0 s0 pn pf py pk w hs0 ok hT hX hf hR hpn hpf hpy hpk nn ny

/-- What a field beside a flag comes to, where the field is free. -/
def condRun (step : Nat → σ → Int → σ) (f : Bool) (n : Nat) (s : σ) (cs : Array Value) : Bool × σ × Array Value := (true, if f then freeRun step n s else s, cs)
set_option maxRecDepth 100000 in
theorem where_any (K : Carr gc lbc I Ok len R step val) (X : Nat) (T : TypeId) (n o : Nat) (f : Bool) (cs0 : Array Value) (s0 : σ) (pn pf pv : Nat) (w : World)
    (hs0 : I s0 w) (hT : plain T = true) (hX : Blk w X T cs0) (hf : cs0[o]? = some (.bool f)) (hR : len s0 + n ≤ R) (hn : n ≤ 1099511627776)
    (hpn : Blk w pn 3 #[.int .i64 (n : Nat)]) (hpf : Blk w pf 98 #[.pointer (some ⟨X, o, none⟩)]) (hpv : Blk w pv 91 #[.func (.func 59) #[] #[.pointer (some ⟨pn, 0, none⟩)]]) :
    Calls Try.prog 69 #[.func (.func gc) #[] lbc, .pointer (some ⟨pf, 0, none⟩), .pointer (some ⟨pv, 0, none⟩)] w (Ran I w X T (condRun step f n s0 cs0)) := by
  have C := free_any K X T n cs0 s0 pn w hs0 hT hX hR hn hpn
  have b2 : w.cell? ⟨pf, 0, none⟩ = some (.pointer (some ⟨X, o, none⟩)) := hpf.cell 0
  have b3 : w.cell? ⟨X, o, none⟩ = some (.bool f) := (hX.cell o).trans hf
  have b4 : w.cell? ⟨pv, 0, none⟩ = some (.func (.func 59) #[] #[.pointer (some ⟨pn, 0, none⟩)]) := hpv.cell 0
  have HE : Ran I w X T (true, s0, cs0) (.returned (.bool true)) w := ⟨rfl, hs0, hX, Keeps.refl _ _⟩
  have HE := Lib.hid HE
  clear hs0 hX hpn hpf hpv hf hR
  unfold condRun
  cases f with
  | false =>
    clear C
    go_enter Try.func69, Try.ntmps69
    go_wp2
    go_ret
    exact HE.out
  | true =>
    go_enter Try.func69, Try.ntmps69
    go_wp2_with (go_at_call 59; ((with_reducible refine (C).mono ?_); rintro e w1 ⟨rfl, hq⟩))
    go_ret
    exact ⟨rfl, hq⟩
end

end Go.Proofs.Ytbomgaacahaofaa

namespace Go.Proofs.Ytbomgaacahaofaa
open Go Go.RowKit

/-- Plain blocks stay, but for those of P. -/
def KeepsP (w w' : World) (P : Nat → Prop) : Prop := w.heap.size ≤ w'.heap.size ∧ ∀ (q : Nat) (T : TypeId) (cs : Array Value), plain T = true → ¬ P q → Blk w q T cs → Blk w' q T cs
theorem KeepsP.refl (w : World) (P : Nat → Prop) : KeepsP w w P := ⟨Nat.le_refl _, fun _ _ _ _ _ h => h⟩
theorem KeepsP.trans {w a c : World} {P : Nat → Prop} (h : KeepsP w a P) (k : KeepsP a c P) : KeepsP w c P := ⟨Nat.le_trans h.1 k.1, fun q T cs hT hq hb => k.2 q T cs hT hq (h.2 q T cs hT hq hb)⟩
theorem KeepsP.more {w a : World} {P Q : Nat → Prop} (h : KeepsP w a P) (hs : ∀ b, P b → Q b) : KeepsP w a Q := ⟨h.1, fun q T cs hT hq hb => h.2 q T cs hT (fun hp => hq (hs q hp)) hb⟩
theorem KeepsP.of_below {w a : World} (h : Below w.heap.size w a) (P : Nat → Prop) : KeepsP w a P := ⟨h.size, fun _ _ _ _ _ k => k.below h⟩
theorem Keeps.p {w a : World} {b : Nat} {P : Nat → Prop} (h : Keeps w a b) (hb : P b) : KeepsP w a P := ⟨h.1, fun q T cs hT hq k => h.2 q T cs hT (fun e => hq (e ▸ hb)) k⟩

inductive FD where
  | nums (kd : Nat) (la lb : Int) (os : List Nat)
  | just (kd : Nat) (x : Int)
  | free (n : Nat)
  | eith (kd : Nat) (no yes : Int) (o : Nat)
  | cond (o n : Nat)

/-- A field's closure, its blocks and those that it writes. -/
def FAt (w : World) (X : Nat) (fv : Value) (fp own : List Nat) : FD → Prop
  | .nums kd la lb os => ∃ pl pk pa pb row c, fv = .func (.func 60) #[] #[.pointer (some ⟨pl, 0, none⟩), .pointer (some ⟨pk, 0, none⟩), .pointer (some ⟨pa, 0, none⟩), .pointer (some ⟨pb, 0, none⟩)] ∧
      Blk w pl 111 #[.slice (some ⟨row, 0, none⟩) os.length c] ∧ Blk w row 96 (ptrs X os) ∧ Blk w pk 93 #[.int .i64 (kd : Nat)] ∧ Blk w pa 3 #[.int .i64 la] ∧ Blk w pb 3 #[.int .i64 lb] ∧ fp = [pl, pk, pa, pb, row] ∧ own = []
  | .just kd x => ∃ pl pk pa pb row c t, fv = .func (.func 60) #[] #[.pointer (some ⟨pl, 0, none⟩), .pointer (some ⟨pk, 0, none⟩), .pointer (some ⟨pa, 0, none⟩), .pointer (some ⟨pb, 0, none⟩)] ∧
      Blk w pl 111 #[.slice (some ⟨row, 0, none⟩) 1 c] ∧ Blk w row 96 (ptrs t [0]) ∧ Blk w pk 93 #[.int .i64 (kd : Nat)] ∧ Blk w pa 3 #[.int .i64 x] ∧ Blk w pb 3 #[.int .i64 x] ∧ Blk w t 3 #[.int .i64 x] ∧ pa ≠ t ∧ pb ≠ t ∧ fp = [pl, pk, pa, pb, row, t] ∧ own = [t]
  | .free n => ∃ pn, fv = .func (.func 59) #[] #[.pointer (some ⟨pn, 0, none⟩)] ∧ Blk w pn 3 #[.int .i64 (n : Nat)] ∧ fp = [pn] ∧ own = []
  | .eith kd no yes o => ∃ pn pf py pk, fv = .func (.func 61) #[] #[.pointer (some ⟨pn, 0, none⟩), .pointer (some ⟨pf, 0, none⟩), .pointer (some ⟨py, 0, none⟩), .pointer (some ⟨pk, 0, none⟩)] ∧
      Blk w pn 3 #[.int .i64 no] ∧ Blk w pf 98 #[.pointer (some ⟨X, o, none⟩)] ∧ Blk w py 3 #[.int .i64 yes] ∧ Blk w pk 93 #[.int .i64 (kd : Nat)] ∧ fp = [pn, pf, py, pk] ∧ own = []
  | .cond o n => ∃ pf pv pn, fv = .func (.func 69) #[] #[.pointer (some ⟨pf, 0, none⟩), .pointer (some ⟨pv, 0, none⟩)] ∧
      Blk w pf 98 #[.pointer (some ⟨X, o, none⟩)] ∧ Blk w pv 91 #[.func (.func 59) #[] #[.pointer (some ⟨pn, 0, none⟩)]] ∧ Blk w pn 3 #[.int .i64 (n : Nat)] ∧ fp = [pf, pv, pn] ∧ own = []

theorem FAt.keep {w w1 : World} {X : Nat} {fv : Value} {fp own : List Nat} {d : FD} {P : Nat → Prop} (h : FAt w X fv fp own d) (k : KeepsP w w1 P) (hP : ∀ b ∈ fp, ¬ P b) : FAt w1 X fv fp own d := by
  cases d with
  | nums kd la lb os =>
    obtain ⟨pl, pk, pa, pb, row, c, h1, h2, h3, h4, h5, h6, rfl, h8⟩ := h
    exact ⟨pl, pk, pa, pb, row, c, h1, k.2 _ _ _ (by decide) (hP _ (by simp)) h2, k.2 _ _ _ (by decide) (hP _ (by simp)) h3, k.2 _ _ _ (by decide) (hP _ (by simp)) h4, k.2 _ _ _ (by decide) (hP _ (by simp)) h5, k.2 _ _ _ (by decide) (hP _ (by simp)) h6, rfl, h8⟩
  | just kd x =>
    obtain ⟨pl, pk, pa, pb, row, c, t, h1, h2, h3, h4, h5, h6, h7, n1, n2, rfl, h8⟩ := h
    exact ⟨pl, pk, pa, pb, row, c, t, h1, k.2 _ _ _ (by decide) (hP _ (by simp)) h2, k.2 _ _ _ (by decide) (hP _ (by simp)) h3, k.2 _ _ _ (by decide) (hP _ (by simp)) h4, k.2 _ _ _ (by decide) (hP _ (by simp)) h5, k.2 _ _ _ (by decide) (hP _ (by simp)) h6, k.2 _ _ _ (by decide) (hP _ (by simp)) h7, n1, n2, rfl, h8⟩
  | free n =>
    obtain ⟨pn, h1, h2, rfl, h8⟩ := h
    exact ⟨pn, h1, k.2 _ _ _ (by decide) (hP _ (by simp)) h2, rfl, h8⟩
  | eith kd no yes o =>
    obtain ⟨pn, pf, py, pk, h1, h2, h3, h4, h5, rfl, h8⟩ := h
    exact ⟨pn, pf, py, pk, h1, k.2 _ _ _ (by decide) (hP _ (by simp)) h2, k.2 _ _ _ (by decide) (hP _ (by simp)) h3, k.2 _ _ _ (by decide) (hP _ (by simp)) h4, k.2 _ _ _ (by decide) (hP _ (by simp)) h5, rfl, h8⟩
  | cond o n =>
    obtain ⟨pf, pv, pn, h1, h2, h3, h4, rfl, h8⟩ := h
    exact ⟨pf, pv, pn, h1, k.2 _ _ _ (by decide) (hP _ (by simp)) h2, k.2 _ _ _ (by decide) (hP _ (by simp)) h3, k.2 _ _ _ (by decide) (hP _ (by simp)) h4, rfl, h8⟩

section
variable {σ : Type} {gc : FuncId} {lbc : Array Value} {I : σ → World → Prop} {Ok : Nat → Prop} {len : σ → Nat} {R : Nat} {step : Nat → σ → Int → σ} {val : Nat → σ → Int → Int}

def boolAt (cs : Array Value) (o : Nat) : Bool :=
  match cs[o]? with
  | some (.bool f) => f
  | _ => false
/-- What a field comes to. -/
def fdRun (step : Nat → σ → Int → σ) (val : Nat → σ → Int → Int) (s : σ) (cs : Array Value) : FD → Bool × σ × Array Value
  | .nums kd la lb os => numRun step val kd la lb os s cs true
  | .just kd x => (decide (x ≤ val kd s x) && decide (val kd s x ≤ x), step kd s x, cs)
  | .free n => (true, freeRun step n s, cs)
  | .eith kd no yes o => eithRun step val kd no yes o (if boolAt cs o then yes else no) s cs
  | .cond o n => condRun step (boolAt cs o) n s cs
def fdLen : FD → Nat
  | .nums kd _ _ os => wid kd * os.length
  | .just kd _ => wid kd
  | .free n => n
  | .eith kd _ _ _ => wid kd
  | .cond _ n => n
/-- The shape of a struct: its numbers and its flags. -/
def Sh (is bs : List Nat) (cs : Array Value) : Prop := Ints cs is ∧ ∀ o ∈ bs, ∃ f, cs[o]? = some (.bool f)
def fdOk (is bs : List Nat) : FD → Prop
  | .nums kd _ _ os => kd < 4 ∧ (∀ o ∈ os, o ∈ is) ∧ os.length ≤ 1099511627776
  | .just kd _ => kd < 4
  | .free n => n ≤ 1099511627776
  | .eith kd _ _ o => kd < 4 ∧ o ∈ bs
  | .cond o n => o ∈ bs ∧ n ≤ 1099511627776
theorem Sh.flag {is bs : List Nat} {cs : Array Value} (h : Sh is bs cs) {o : Nat} (ho : o ∈ bs) : cs[o]? = some (.bool (boolAt cs o)) := by
  obtain ⟨f, hf⟩ := h.2 o ho
  unfold boolAt
  rw [hf]
theorem get_set {cs : Array Value} {o o1 : Nat} {v : Value} (h : o ≠ o1) : (cs.setIfInBounds o v)[o1]? = cs[o1]? := by rw [Array.getElem?_setIfInBounds, if_neg h]
theorem Sh.int {is bs : List Nat} {cs : Array Value} (h : Sh is bs cs) {o : Nat} (ho : o ∈ is) (hd : ∀ o ∈ is, o ∉ bs) (v : Int) : Sh is bs (cs.setIfInBounds o (.int .i64 v)) :=
  ⟨h.1.set o v, fun o1 h1 => by rw [get_set (by rintro rfl; exact hd _ ho h1)]; exact h.2 o1 h1⟩
theorem Sh.num {is bs : List Nat} (hd : ∀ o ∈ is, o ∉ bs) (kd : Nat) (la lb : Int) : ∀ (os : List Nat) (s : σ) (cs : Array Value) (m : Bool), (∀ o ∈ os, o ∈ is) → Sh is bs cs → Sh is bs (numRun step val kd la lb os s cs m).2.2
  | [], s, cs, m, _, h => h
  | o :: os, s, cs, m, ho, h => by
    rw [numRun_cons]
    exact Sh.num hd kd la lb os _ _ _ (fun x hx => ho x (by simp [hx])) (h.int (ho o (by simp)) hd _)
theorem Sh.run {is bs : List Nat} {cs : Array Value} {s : σ} {d : FD} (h : Sh is bs cs) (hd : ∀ o ∈ is, o ∉ bs) (hk : fdOk is bs d) : Sh is bs (fdRun step val s cs d).2.2 := by
  cases d with
  | nums kd la lb os => exact Sh.num hd kd la lb os s cs true hk.2.1 h
  | just kd x => exact h
  | free n => exact h
  | eith kd no yes o =>
    refine ⟨fun o1 h1 => ?_, fun o1 h1 => ?_⟩
    · show ∃ x, (cs.setIfInBounds o (.bool _))[o1]? = _
      rw [get_set (by rintro rfl; exact hd _ h1 hk.2)]
      exact h.1 o1 h1
    · show ∃ f, (cs.setIfInBounds o (.bool _))[o1]? = _
      by_cases he : o = o1
      · subst he
        obtain ⟨f, hf⟩ := h.2 o h1
        have : o < cs.size := by
          rcases Nat.lt_or_ge o cs.size with h2 | h2
          · exact h2
          · rw [Array.getElem?_eq_none h2] at hf; cases hf
        rw [Array.getElem?_setIfInBounds, if_pos rfl, if_pos this]
        exact ⟨_, rfl⟩
      · rw [get_set he]
        exact h.2 o1 h1
  | cond o n => exact h
theorem free_len (K : Carr gc lbc I Ok len R step val) : ∀ (n : Nat) (s : σ), len (freeRun step n s) = len s + n
  | 0, s => rfl
  | n + 1, s => by
    rw [freeRun_succ, free_len K n, K.size 0 s 0 (by decide)]
    have : wid 0 = 1 := rfl
    omega
theorem num_len (K : Carr gc lbc I Ok len R step val) (kd : Nat) (hk : kd < 4) (la lb : Int) : ∀ (os : List Nat) (s : σ) (cs : Array Value) (m : Bool), len (numRun step val kd la lb os s cs m).2.1 = len s + wid kd * os.length
  | [], s, cs, m => rfl
  | o :: os, s, cs, m => by
    rw [numRun_cons, num_len K kd hk la lb os, K.size kd s _ hk, List.length_cons, Nat.mul_add, Nat.mul_one]
    omega
theorem run_len (K : Carr gc lbc I Ok len R step val) {is bs : List Nat} {cs : Array Value} {s : σ} {d : FD} (hk : fdOk is bs d) : len (fdRun step val s cs d).2.1 ≤ len s + fdLen d := by
  cases d with
  | nums kd la lb os => exact Nat.le_of_eq (num_len K kd hk.1 la lb os s cs true)
  | just kd x => exact Nat.le_of_eq (K.size kd s x hk)
  | free n => exact Nat.le_of_eq (free_len K n s)
  | eith kd no yes o => exact Nat.le_of_eq (K.size kd s _ hk.1)
  | cond o n =>
    show len (if boolAt cs o then freeRun step n s else s) ≤ len s + n
    split
    · exact Nat.le_of_eq (free_len K n s)
    · omega

/-- A field was carried. -/
def RanP (I : σ → World → Prop) (w : World) (X : Nat) (T : TypeId) (own : List Nat) (r : Bool × σ × Array Value) (e : Ending) (w' : World) : Prop :=
  e = .returned (.bool r.1) ∧ I r.2.1 w' ∧ Blk w' X T r.2.2 ∧ KeepsP w w' (fun b => b = X ∨ b ∈ own)
theorem Ran.p {w w' : World} {X : Nat} {T : TypeId} {own : List Nat} {r : Bool × σ × Array Value} {e : Ending} (h : Ran I w X T r e w') : RanP I w X T own r e w' := ⟨h.1, h.2.1, h.2.2.1, h.2.2.2.p (.inl rfl)⟩

theorem field_any (K : Carr gc lbc I Ok len R step val) (is bs : List Nat) (d : FD) (hd : fdOk is bs d) (w : World) (X : Nat) (T : TypeId) (fv : Value) (fp own : List Nat) (h : FAt w X fv fp own d) (hX : X ∉ fp) (ok : Ok X) (oks : ∀ b ∈ own, Ok b) (hT : plain T = true)
    (s : σ) (cs : Array Value) (hs : I s w) (hb : Blk w X T cs) (hc : Sh is bs cs) (hR : len s + fdLen d ≤ R) :
    ∃ g lb, fv = .func (.func g) #[] lb ∧ (∀ args w, (callFunc g args).run Try.prog w = .ok (.enter g args) w) ∧ Calls Try.prog g (#[.func (.func gc) #[] lbc] ++ lb) w (RanP I w X T own (fdRun step val s cs d)) := by
  cases d with
  | nums kd la lb os =>
    obtain ⟨pl, pk, pa, pb, row, c, h1, h2, h3, h4, h5, h6, rfl, h8⟩ := h
    simp only [List.mem_cons, not_or] at hX
    exact ⟨_, _, h1, fun _ _ => rfl, (numbers_any K kd hd.1 la lb X T os c cs s pl pk pa pb row w hs ok hT hb (fun o ho => hc.1 o (hd.2.1 o ho)) hR hd.2.2 h2 h3 h4 h5 h6 (fun e => hX.2.2.2.2.1 e.symm) (fun e => hX.2.1 e.symm) (fun e => hX.2.2.1 e.symm) (fun e => hX.2.2.2.1 e.symm)).mono fun e w' h => h.p⟩
  | just kd x =>
    obtain ⟨pl, pk, pa, pb, row, c, t, h1, h2, h3, h4, h5, h6, h7, n1, n2, rfl, rfl⟩ := h
    simp only [List.mem_cons, not_or] at hX
    have C := numbers_any K kd hd x x t 3 [0] c #[.int .i64 x] s pl pk pa pb row w hs (oks t (by simp)) (by decide) h7 (by intro o ho; obtain rfl : o = 0 := (by simpa using ho); exact ⟨x, rfl⟩) (by simpa [fdLen] using hR) (by simp) h2 h3 h4 h5 h6 (blk_ne h3 h7 (by decide)) (blk_ne h4 h7 (by decide)) n1 n2
    refine ⟨_, _, h1, fun _ _ => rfl, C.mono fun e w' h => ?_⟩
    exact ⟨h.1, h.2.1, h.2.2.2.2 X T cs hT hX.2.2.2.2.2.1 hb, h.2.2.2.p (.inr (by simp))⟩
  | free n =>
    obtain ⟨pn, h1, h2, rfl, h8⟩ := h
    exact ⟨_, _, h1, fun _ _ => rfl, (free_any K X T n cs s pn w hs hT hb hR hd h2).mono fun e w' h => h.p⟩
  | eith kd no yes o =>
    obtain ⟨pn, pf, py, pk, h1, h2, h3, h4, h5, rfl, h8⟩ := h
    simp only [List.mem_cons, not_or] at hX
    exact ⟨_, _, h1, fun _ _ => rfl, (either_any K kd hd.1 no yes X T o _ cs s pn pf py pk w hs ok hT hb (hc.flag hd.2) hR h2 h3 h4 h5 (fun e => hX.1 e.symm) (fun e => hX.2.2.1 e.symm)).mono fun e w' h => h.p⟩
  | cond o n =>
    obtain ⟨pf, pv, pn, h1, h2, h3, h4, rfl, h8⟩ := h
    exact ⟨_, _, h1, fun _ _ => rfl, (where_any K X T n o _ cs s pn pf pv w hs hT hb (hc.flag hd.1) hR hd.2 h4 h2 h3).mono fun e w' h => h.p⟩
end

end Go.Proofs.Ytbomgaacahaofaa
