/- Places, loaded. -/
import Derived.Test.YtdbhfigdojkceaaMet7
namespace Go.Proofs.Ytdbhfigdojkceaa
open Go Go.RowKit

def offsTo (long : Bool) (bs : List Value) (k : Nat) : List Int := (List.range k).map fun j => (offAt long bs j : Int)
theorem offsTo_len (long : Bool) (bs : List Value) (k : Nat) : (offsTo long bs k).length = k := by simp [offsTo]
theorem offsTo_succ (long : Bool) (bs : List Value) (k : Nat) : offsTo long bs (k + 1) = offsTo long bs k ++ [(offAt long bs k : Int)] := by simp [offsTo, List.range_succ]

/-- Places at t: these offsets. -/
def PlAt (w : World) (t : Nat) (zs : List Int) : Prop := ∃ (A1 : Option Addr) (c1 : Nat), Blk w t 81 #[.slice A1 zs.length c1] ∧ Lists w w.heap.size A1 (intCells zs)
theorem PlAt.below {w w1 : World} {t : Nat} {zs : List Int} (h : PlAt w t zs) (k : Below w.heap.size w w1) : PlAt w1 t zs := by
  obtain ⟨A1, c1, h1, h2⟩ := h
  exact ⟨A1, c1, h1.below k, (h2.below k).more k.size⟩
def MadePl (w : World) (zs : List Int) (e : Ending) (w' : World) : Prop := ∃ t, e = .returned (.tuple #[.pointer (some ⟨t, 0, none⟩), .int .i64 0]) ∧ PlAt w' t zs ∧ Below w.heap.size w w'
def PlPost (w : World) (size : Int) (zs : List Int) (e : Ending) (w' : World) : Prop := (rises size 0 zs = true → MadePl w zs e w') ∧ (rises size 0 zs = false → NoPtr w 61 e w')

variable {q : Nat → Prop}
def LPt (w0 : World) (B0 : Nat) (q : Nat → Prop) (wr : World) (p t kk : Nat) (bs : List Value) (i : Nat) (zs : List Int) (av : Value) : Prop :=
  Rd q wr p bs i false ∧ Blk wr t 81 #[av] ∧ Blk wr kk 65 #[.pointer (some ⟨p, 0, none⟩)] ∧ wr.ownsRow B0 3 1 av zs.length (intCells zs) ∧ Below w0.heap.size w0 wr ∧ w0.heap.size ≤ p ∧ w0.heap.size ≤ B0 ∧ B0 ≤ t ∧ (∀ b, q b → b < B0) ∧ p ≠ t ∧ p ∉ blk av
theorem LPt.below {w0 wr w1 : World} {B0 p t kk i : Nat} {bs : List Value} {zs : List Int} {av : Value} (h : LPt w0 B0 q wr p t kk bs i zs av) (k : Below wr.heap.size wr w1) : LPt w0 B0 q w1 p t kk bs i zs av := by
  obtain ⟨h1, h2, hk, h3, h6, h7⟩ := h
  exact ⟨h1.below k, h2.below k, hk.below k, own_only h3 (Only.of_below k []) (fun _ _ h => (nomatch h)), h6.trans (k.mono h6.size), h7⟩
theorem LPt.read {w0 wr w1 : World} {B0 p t kk i j : Nat} {bs : List Value} {zs : List Int} {av : Value} (h : LPt w0 B0 q wr p t kk bs i zs av) (hr : Rd q w1 p bs j false) (o : Only wr w1 [p]) : LPt w0 B0 q w1 p t kk bs j zs av := by
  obtain ⟨h1, h2, hk, h3, h6, h7, h8, h9, h10, n1, n2⟩ := h
  obtain ⟨cs, hp⟩ := h1.blk
  have nk : kk ≠ p := blk_two hk hp (by decide)
  exact ⟨hr, h2.only o (by simp; exact Ne.symm n1), hk.only o (by simp; exact nk), own_only h3 o (fun b hm e => by simp at e; subst e; exact n2 hm), h6.trans (o.to_below h6.size (by simpa using h7)), h7, h8, h9, h10, n1, n2⟩
theorem LPt.stay {w0 wr w4 : World} {B0 p t kk i : Nat} {bs : List Value} {zs : List Int} {av : Value} (h : LPt w0 B0 q wr p t kk bs i zs av) (hg : wr.grownBy w4 av.ownBlock) : Blk w4 t 81 #[av] :=
  h.2.1.only ((Only.refl wr (Go.Proofs.Ytdbhfigdojkceaa.blk av)).grown hg (fun b hb => .inl (by simp [Go.Proofs.Ytdbhfigdojkceaa.blk, hb]))) (own_ne h.2.2.2.1 h.2.1 (by decide))
theorem LPt.app {w0 wr w4 : World} {B0 p t kk i : Nat} {bs : List Value} {zs : List Int} {av v : Value} {x : Int} (h : LPt w0 B0 q wr p t kk bs i zs av) (hown : w4.ownsRow B0 3 1 v (zs.length + 1) (intCells zs ++ [.int .i64 x]))
    (hg : wr.grownBy w4 av.ownBlock) (hat : v.ownBlock = av.ownBlock ∨ v.ownBlock = some wr.heap.size) : LPt w0 B0 q (w4.setCell ⟨t, 0, none⟩ v) p t kk bs i (zs ++ [x]) v := by
  have b4 := h.stay hg
  obtain ⟨h1, h2, hk, h3, h6, h7, h8, h9, h10, n1, n2⟩ := h
  have o4 : Only wr w4 (Go.Proofs.Ytdbhfigdojkceaa.blk av) := (Only.refl _ _).grown hg (fun b hb => .inl (by simp [Go.Proofs.Ytdbhfigdojkceaa.blk, hb]))
  have o5 : Only w4 (w4.setCell ⟨t, 0, none⟩ v) [t] := (Only.refl _ _).set (.inl (by simp)) _
  have nv : t ∉ Go.Proofs.Ytdbhfigdojkceaa.blk v := own_ne hown b4 (by decide)
  have nk : kk ≠ t := blk_two hk h2 (by decide)
  have nka : kk ∉ Go.Proofs.Ytdbhfigdojkceaa.blk av := own_ne h3 hk (by decide)
  have hlow := own_low h3
  refine ⟨(h1.only o4 n2 (fun b hb hq => by have := hlow b hb; have := h10 b hq; omega)).only o5 (by simp; exact n1) (fun b hb hq => by simp at hb; subst hb; have := h10 b hq; omega), b4.set 0 v, (hk.only o4 nka).only o5 (by simp; exact nk), ?_, ?_, h7, h8, h9, h10, n1, ?_⟩
  · rw [List.length_append, intCells_snoc]
    exact own_only hown o5 (fun b hm e => by simp at e; subst e; exact nv hm)
  · have o6 : Only w0 (w4.setCell ⟨t, 0, none⟩ v) [] := (((Only.of_below h6 []).trans o4 (fun b hb => .inr (by have := hlow b hb; omega))).trans o5 (fun b hb => .inr (by simp at hb; subst hb; omega)))
    exact o6.nil_below
  · intro hm
    rcases hat with e | e
    · exact n2 (by unfold Go.Proofs.Ytdbhfigdojkceaa.blk at hm ⊢; rw [← e]; exact hm)
    · have : p = wr.heap.size := by unfold Go.Proofs.Ytdbhfigdojkceaa.blk at hm; rw [e] at hm; simpa using hm
      have := h1.lt
      omega

def MadeRg (w : World) (p : Nat) (fv : Nat → Value) (e : Ending) (w' : World) : Prop := ∃ kk, e = .returned (fv kk) ∧ Blk w' kk 65 #[.pointer (some ⟨p, 0, none⟩)] ∧ Below w.heap.size w w'
theorem reading_true (p : Nat) (w : World) : Calls Try.prog 46 #[.pointer (some ⟨p, 0, none⟩), .bool true] w (MadeRg w p fun _ => .func (.func 57) #[.pointer (some ⟨p, 0, none⟩)] #[]) := by
  go_enter Try.func46, Try.ntmps46
  go_wp2
  go_ret
  exact ⟨w.heap.size, rfl, Blk.new w _ _, (Below.refl _ _).alloc (Nat.le_refl _) _⟩
theorem reading_false (p : Nat) (w : World) : Calls Try.prog 46 #[.pointer (some ⟨p, 0, none⟩), .bool false] w (MadeRg w p fun k => .func (.func 58) #[] #[.pointer (some ⟨k, 0, none⟩)]) := by
  go_enter Try.func46, Try.ntmps46
  go_wp2
  go_ret
  exact ⟨w.heap.size, rfl, Blk.new w _ _, (Below.refl _ _).alloc (Nat.le_refl _) _⟩
theorem rhalf_any (p k : Nat) (bs : List Value) (i : Nat) (w : World) (h : Rd q w p bs i false) (hk : Blk w k 65 #[.pointer (some ⟨p, 0, none⟩)]) (hL : bs.length ≤ 4611686018427387904) (him : i + 2 ≤ bs.length) :
    Calls Try.prog 58 #[.pointer (some ⟨k, 0, none⟩)] w (ReadN q w p bs (i + 2) (2 * (rd2 bs i : Nat))) := by
  have C := rdU16 p bs i w h hL him
  have hlt := rd2_lt h.bytes i
  have F := hk.kb; simp only [KB, CellsAt, and_true] at F
  clear h hk
  generalize rd2 bs i = x at *
  go_enter Try.func58, Try.ntmps58
  go_wp2_with (first | (go_at_call 35; ((with_reducible refine C.mono ?_); rintro e w2 ⟨rfl, hr, o2⟩)))
  go_ret
  exact ⟨rfl, hr, o2⟩

theorem pload_n (A : Option Addr) (l c : Nat) (n size : Int) (long : Bool) (w : World) (h1 : inB 1 65535 n = false) :
    Calls Try.prog 17 #[.slice A l c, .int .i64 n, .bool long, .int .i64 size] w (NoPtr w 1) := by
  have C1 := fun W T k hk => within_new 1 65535 n false h1 W T k hk
  clear h1
  go_enter Try.func17, Try.ntmps17
  go_wp2_with (first | (go_at_call 40; ((with_reducible refine (C1 _ _ _ (by simp)).mono ?_); rintro e w1 ⟨rfl, b1⟩)))
  go_ret2
  exact ⟨rfl, b1⟩
theorem pload_size (A : Option Addr) (l c : Nat) (n size : Int) (long : Bool) (w : World) (h1 : inB 1 65535 n = true) (h2 : inB 0 1048576 size = false) :
    Calls Try.prog 17 #[.slice A l c, .int .i64 n, .bool long, .int .i64 size] w (NoPtr w 1) := by
  have C1 := fun W T k hk => within_new 1 65535 n true h1 W T k hk
  have C2 := fun W T k hk => within_new 0 1048576 size false h2 W T k hk
  clear h1 h2
  go_enter Try.func17, Try.ntmps17
  go_wp2_with (first | (go_at_call 40; ((with_reducible refine (C1 _ _ _ (by simp)).mono ?_); rintro e w1 ⟨rfl, b1⟩)) | (go_at_call 40; ((with_reducible refine (C2 _ _ _ (by simp)).mono ?_); rintro e w2 ⟨rfl, b2⟩; have b := b1.trans (b2.mono b1.size))))
  go_ret2
  exact ⟨rfl, b⟩
theorem pload_short (A : Option Addr) (l c : Nat) (n : Nat) (size : Int) (long : Bool) (w : World) (h1 : inB 1 65535 (n : Nat) = true) (h2 : inB 0 1048576 size = true) (hl : l < (n + 1) * szP long) :
    Calls Try.prog 17 #[.slice A l c, .int .i64 (n : Nat), .bool long, .int .i64 size] w (NoPtr w 61) := by
  have C1 := fun W T k hk => within_new 1 65535 (n : Nat) true h1 W T k hk
  have C2 := fun W T k hk => within_new 0 1048576 size true h2 W T k hk
  have hn := inB_true h1
  have C3 := fun w => placesLen_any (n + 1) long (by omega) w
  rw [Int.natCast_succ] at C3
  clear h1 h2
  generalize (n + 1) * szP long = R at *
  have d : decide ((l : Int) < (R : Int)) = true := by simp; omega
  go_enter Try.func17, Try.ntmps17
  go_wp2_with (first | (go_at_call 40; ((with_reducible refine (C1 _ _ _ (by simp)).mono ?_); rintro e w1 ⟨rfl, b1⟩)) | (go_at_call 40; ((with_reducible refine (C2 _ _ _ (by simp)).mono ?_); rintro e w2 ⟨rfl, b2⟩; have b := b1.trans (b2.mono b1.size))) | (go_at_call 44; ((with_reducible refine (C3 _).mono ?_); rintro e w' ⟨rfl, rfl⟩)))
  go_ret2
  exact ⟨rfl, b⟩

set_option maxRecDepth 100000 in
set_option maxHeartbeats 1000000 in
theorem pload_true (A : Option Addr) (c : Nat) (E : List Value) (n : Nat) (size : Int) (w : World) (hE : Lists w w.heap.size A E) (h8 : Bytes8 E) (hcap : E.length ≤ c) (h1 : inB 1 65535 (n : Nat) = true) (h2 : inB 0 1048576 size = true) (hl : (n + 1) * szP true ≤ E.length) :
    Calls Try.prog 17 #[.slice A E.length c, .int .i64 (n : Nat), .bool true, .int .i64 size] w (PlPost w size (offsTo true (E.take ((n + 1) * szP true)) (n + 1))) := by
  have C1 := fun W T k hk => within_new 1 65535 (n : Nat) true h1 W T k hk
  have C2 := fun W T k hk => within_new 0 1048576 size true h2 W T k hk
  have hn := inB_true h1
  have C3 := fun w => placesLen_any (n + 1) true (by omega) w
  rw [Int.natCast_succ] at C3
  have hRb : (n + 1) * szP true ≤ 262144 := by simp [szP]; omega
  obtain ⟨bs, hbs⟩ : ∃ bs, bs = E.take ((n + 1) * szP true) := ⟨_, rfl⟩
  have hbl : bs.length = (n + 1) * szP true := by rw [hbs, List.length_take]; omega
  have C4 := fun W (hb : Below w.heap.size w W) c' => new_any A ((n + 1) * szP true) c' bs W (by rw [hbs]; exact (lists_take (hE.below hb) _).more hb.size) hbl (by rw [hbs]; exact bytes_take h8 _) (by omega)
  rw [← hbs]
  obtain ⟨R, hRR⟩ : ∃ R, R = (n + 1) * szP true := ⟨_, rfl⟩
  rw [← hRR] at C3 hRb hl hbl C4
  have HB := Lib.hid hbl
  have HR := Lib.hid hRR
  clear h1 h2 hbs hE h8 hbl hRR
  generalize E.length = l at *
  have d : decide ((l : Int) < (R : Int)) = false := by simp; omega
  have d1 : (R : Int) ≤ (c : Int) := by omega
  have d2 : (0 : Int) ≤ (R : Int) := by omega
  have d3 : (R : Int) ≤ (l : Int) := by omega
  obtain ⟨i0, hi, hz0, hz1, hz2⟩ := info_parts intInfo
  go_enter Try.func17, Try.ntmps17
  go_wp2_with (first | (go_at_call 40; ((with_reducible refine (C1 _ _ _ (by simp)).mono ?_); rintro e w1 ⟨rfl, b1⟩)) | (go_at_call 40; ((with_reducible refine (C2 _ _ _ (by simp)).mono ?_); rintro e w2 ⟨rfl, b2⟩; have b := b1.trans (b2.mono b1.size))) | (go_at_call 44; ((with_reducible refine (C3 _).mono ?_); rintro e w' ⟨rfl, rfl⟩)) | (go_at_call 34; ((with_reducible refine (C4 _ b _).mono ?_); rintro e w3 ⟨p, rfl, hr, b3, hp⟩)) | (go_at_call 46; ((with_reducible refine (reading_true p _).mono ?_); rintro e w4 ⟨kk, rfl, hkk, b4⟩)))
  have hlt := hr.lt
  have hkl := hkk.lt
  have bz := b4.size
  have hls : LPt w w4.heap.size (fun b => w2.heap.size ≤ b ∧ b < w3.heap.size) (w4.alloc (.cells #[.slice none 0 0] 81)) p w4.heap.size kk bs 0 [] (.slice none 0 0) :=
    ⟨(hr.below b4).below ((Below.refl _ _).alloc (Nat.le_refl _) _), Blk.new w4 _ _, hkk.below ((Below.refl _ _).alloc (Nat.le_refl _) _), ⟨rfl, .inl ⟨rfl, rfl⟩⟩, ((b.trans (b3.mono b.size)).trans (b4.mono (Nat.le_trans b.size b3.size))).alloc (Nat.le_trans (Nat.le_trans b.size b3.size) b4.size) _, Nat.le_trans b.size hp, Nat.le_trans (Nat.le_trans b.size b3.size) b4.size, Nat.le_refl _, (fun b h => Nat.lt_of_lt_of_le h.2 b4.size), by omega, (fun h => nomatch h)⟩
  clear C1 C2 C3 C4 hr b b1 b2 b3 b4 hp hlt hkk hkl bz
  generalize (fun b => w2.heap.size ≤ b ∧ b < w3.heap.size) = q at hls
  generalize hB0 : w4.heap.size = t at *
  generalize (w4.alloc (.cells #[.slice none 0 0] 81)) = w5 at *
  clear hB0
  have hfn : ∃ fv, fv = Value.func (.func 57) #[.pointer (some ⟨p, 0, none⟩)] #[] := ⟨_, rfl⟩
  go_loopw [42] (fun i wr => ∃ k : Nat, k ≤ n + 1 ∧ i = .int .i64 k ∧ ∃ av, LPt w t q wr p t kk bs (k * 4) (offsTo true bs k) av) (fun i _ => n + 1 - (intOf i).toNat)
  case atStart => exact ⟨0, Nat.zero_le _, rfl, .slice none 0 0, hls⟩
  case round =>
    obtain ⟨k, hk, rfl, av, hl⟩ := hrel
    clear hls
    by_cases hlt : k < n + 1
    · have e1 : decide ((k : Int) < (n : Int) + 1) = true := by simp; omega
      go_wp2
      have hl := hl.below ((Below.refl _ _).drew)
      refine wp_region_chain_last (fun w' => w'.cell? ⟨t, 0, none⟩ = some av) [(0, false), (1, false), (2, false), (3, false), (4, false), (5, false), (6, true), (7, true), (8, true), (9, false), (10, false)] _ _ (by rfl) (by rfl) (by kernel_rfl) (by kernel_rfl) ?_ ?_
      exact (hl.2.1.cell 0).trans rfl
      repeat (first
        | (refine ChainL.skip (o := ?_) ?_ ?_ ?_; rotate_left; (focus (first | (simp only [List.getElem?_toArray, List.getElem?_cons_succ, List.getElem?_cons_zero]; with_reducible rfl) | (simp only [List.getElem?_toArray, List.getElem?_cons_zero]; with_reducible rfl))); (focus rfl); simp only [Act.put, List.setIfInBounds_toArray, List.set_cons_zero, List.set_cons_succ])
        | (refine ChainL.val (o := ?_) (v := ?_) ?_ ?_ ?_ ?_ ?_; rotate_left 2; (focus (first | (simp only [List.getElem?_toArray, List.getElem?_cons_succ, List.getElem?_cons_zero]; with_reducible rfl) | (simp only [List.getElem?_toArray, List.getElem?_cons_zero]; with_reducible rfl))); (focus (intro _ _ h; cases h)); (focus rfl); (focus (intro w' hI; skip; go_simp <;> with_reducible rfl)); simp only [Act.put, List.setIfInBounds_toArray, List.set_cons_zero, List.set_cons_succ]))
      refine ChainL.call (o := ?_) (f := ?_) (args := ?_) ?_ ?_ ?_ ?_
      rotate_left 3
      (focus (simp only [List.getElem?_toArray, List.getElem?_cons_succ, List.getElem?_cons_zero]; with_reducible rfl))
      (focus rfl)
      (focus (go_simp; (constructor <;> with_reducible rfl)))
      refine (rdU32 p bs (k * 4) _ hl.1 (by have := HB.out; omega) (by have := HB.out; have := HR.out; simp only [szP, if_true] at this; omega)).mono ?_
      rintro e w2 ⟨rfl, hr2, o2⟩
      have hl2 := hl.read hr2 o2
      refine ⟨_, rfl, (hl2.2.1.cell 0).trans rfl, ?_⟩
      simp only [Act.put, List.setIfInBounds_toArray, List.set_cons_zero, List.set_cons_succ]
      refine ChainL.does (o := ?_) (v := ?_) (w1 := ?_) ?_ ?_ ?_ ?_ ?_
      rotate_left 3
      (focus (simp only [List.getElem?_toArray, List.getElem?_cons_succ, List.getElem?_cons_zero]; with_reducible rfl))
      (focus rfl)
      (focus (go_simp; (constructor <;> with_reducible rfl)))
      (focus (exact ((hl2.below ((Below.refl _ _).alloc (Nat.le_refl _) _)).2.1.cell 0).trans rfl))
      simp only [Act.put, List.setIfInBounds_toArray, List.set_cons_zero, List.set_cons_succ]
      have hl3 := hl2.below ((Below.refl _ w2).alloc (Nat.le_refl _) (.cells #[.int .i64 (rd4 bs (k * 4) : Nat)] 3))
      refine ChainL.append (o := ?_) ?_ ?_ (.tmp 48) (.tmp 51) 38 ?_ t 3 i0 (.int .i64 0) 1 8 Try.underlying38 hi hz0 hz1 hz2 rfl (by decide) av _ (intCells (offsTo true bs k)) ?_ hl3.2.2.2.1 _ _ 1 1 [.int .i64 (rd4 bs (k * 4) : Nat)] ?_ (lists_new w2 #[.int .i64 (rd4 bs (k * 4) : Nat)] 3 [.int .i64 (rd4 bs (k * 4) : Nat)] (fun j u hu => by simpa using hu)) rfl (by simp [Value.oneCell']) (by simp only [maxLen, offsTo_len]; omega) (by simp only [offsTo_len]; omega) (Nat.le_of_lt (Nat.lt_of_le_of_lt (Nat.le_refl t) hl3.2.1.lt)) ?_
      rotate_left
      (focus (simp only [List.getElem?_toArray, List.getElem?_cons_succ, List.getElem?_cons_zero]; with_reducible rfl))
      (focus rfl)
      (focus rfl)
      (focus rfl)
      (focus rfl)
      intro v4 w4 hown hg hat
      obtain ⟨A4, k4, rfl, _, _⟩ := own_lists hown
      have hl4 := hl3.app hown hg hat
      refine ⟨((hl3.stay hg).cell 0).trans rfl, ?_⟩
      simp only [Act.put, List.setIfInBounds_toArray, List.set_cons_zero, List.set_cons_succ]
      repeat (first
        | (refine ChainL.skip (o := ?_) ?_ ?_ ?_; rotate_left; (focus (first | (simp only [List.getElem?_toArray, List.getElem?_cons_succ, List.getElem?_cons_zero]; with_reducible rfl) | (simp only [List.getElem?_toArray, List.getElem?_cons_zero]; with_reducible rfl))); (focus rfl); simp only [Act.put, List.setIfInBounds_toArray, List.set_cons_zero, List.set_cons_succ])
        | (refine ChainL.val (o := ?_) (v := ?_) ?_ ?_ ?_ ?_ ?_; rotate_left 2; (focus (first | (simp only [List.getElem?_toArray, List.getElem?_cons_succ, List.getElem?_cons_zero]; with_reducible rfl) | (simp only [List.getElem?_toArray, List.getElem?_cons_zero]; with_reducible rfl))); (focus (intro _ _ h; cases h)); (focus rfl); (focus (intro w' hI; skip; go_simp <;> with_reducible rfl)); simp only [Act.put, List.setIfInBounds_toArray, List.set_cons_zero, List.set_cons_succ]))
      refine ChainL.nil ?_
      have F := (hl3.stay hg).kb
      simp only [KB, CellsAt, and_true] at F
      go_wp2
      go_roundw
      case rel =>
        refine ⟨k + 1, by omega, by go_num, .slice A4 ((offsTo true bs k).length + 1) k4, ?_⟩
        rw [offsTo_succ, Nat.succ_mul]
        exact hl4
      case measure => simp [intOf]; omega
    · have e1 : decide ((k : Int) < (n : Int) + 1) = false := by simp; omega
      obtain rfl : k = n + 1 := by omega
      obtain ⟨h1, h2, h3, h4, h5, h6⟩ := hl
      obtain ⟨A1, c1, rfl, l1, _⟩ := own_lists h4
      have C5 := mayLie_any size wr.heap.size A1 c1 (offsTo true bs (n + 1)) wr l1 (by rw [offsTo_len]; omega)
      have F := h2.kb
      simp only [KB, CellsAt, and_true] at F
      cases hr : rises size 0 (offsTo true bs (n + 1))
      · rw [hr] at C5
        have HR2 := Lib.hid hr
        clear hr hfn
        go_wp2_with (first | (go_at_call 41; ((with_reducible refine C5.mono ?_); rintro e w' ⟨rfl, rfl⟩)))
        go_ret2
        exact ⟨fun h => by (have := HR2.out; rw [h] at this; cases this), fun _ => ⟨rfl, h5⟩⟩
      · rw [hr] at C5
        have HR2 := Lib.hid hr
        clear hr hfn
        go_wp2_with (first | (go_at_call 41; ((with_reducible refine C5.mono ?_); rintro e w' ⟨rfl, rfl⟩)))
        go_ret2
        exact ⟨fun _ => ⟨t, rfl, ⟨A1, c1, h2, l1⟩, h5⟩, fun h => by (have := HR2.out; rw [h] at this; cases this)⟩

set_option maxRecDepth 100000 in
set_option maxHeartbeats 1000000 in
theorem pload_false (A : Option Addr) (c : Nat) (E : List Value) (n : Nat) (size : Int) (w : World) (hE : Lists w w.heap.size A E) (h8 : Bytes8 E) (hcap : E.length ≤ c) (h1 : inB 1 65535 (n : Nat) = true) (h2 : inB 0 1048576 size = true) (hl : (n + 1) * szP false ≤ E.length) :
    Calls Try.prog 17 #[.slice A E.length c, .int .i64 (n : Nat), .bool false, .int .i64 size] w (PlPost w size (offsTo false (E.take ((n + 1) * szP false)) (n + 1))) := by
  have C1 := fun W T k hk => within_new 1 65535 (n : Nat) true h1 W T k hk
  have C2 := fun W T k hk => within_new 0 1048576 size true h2 W T k hk
  have hn := inB_true h1
  have C3 := fun w => placesLen_any (n + 1) false (by omega) w
  rw [Int.natCast_succ] at C3
  have hRb : (n + 1) * szP false ≤ 262144 := by simp [szP]; omega
  obtain ⟨bs, hbs⟩ : ∃ bs, bs = E.take ((n + 1) * szP false) := ⟨_, rfl⟩
  have hbl : bs.length = (n + 1) * szP false := by rw [hbs, List.length_take]; omega
  have C4 := fun W (hb : Below w.heap.size w W) c' => new_any A ((n + 1) * szP false) c' bs W (by rw [hbs]; exact (lists_take (hE.below hb) _).more hb.size) hbl (by rw [hbs]; exact bytes_take h8 _) (by omega)
  rw [← hbs]
  obtain ⟨R, hRR⟩ : ∃ R, R = (n + 1) * szP false := ⟨_, rfl⟩
  rw [← hRR] at C3 hRb hl hbl C4
  have HB := Lib.hid hbl
  have HR := Lib.hid hRR
  clear h1 h2 hbs hE h8 hbl hRR
  generalize E.length = l at *
  have d : decide ((l : Int) < (R : Int)) = false := by simp; omega
  have d1 : (R : Int) ≤ (c : Int) := by omega
  have d2 : (0 : Int) ≤ (R : Int) := by omega
  have d3 : (R : Int) ≤ (l : Int) := by omega
  obtain ⟨i0, hi, hz0, hz1, hz2⟩ := info_parts intInfo
  go_enter Try.func17, Try.ntmps17
  go_wp2_with (first | (go_at_call 40; ((with_reducible refine (C1 _ _ _ (by simp)).mono ?_); rintro e w1 ⟨rfl, b1⟩)) | (go_at_call 40; ((with_reducible refine (C2 _ _ _ (by simp)).mono ?_); rintro e w2 ⟨rfl, b2⟩; have b := b1.trans (b2.mono b1.size))) | (go_at_call 44; ((with_reducible refine (C3 _).mono ?_); rintro e w' ⟨rfl, rfl⟩)) | (go_at_call 34; ((with_reducible refine (C4 _ b _).mono ?_); rintro e w3 ⟨p, rfl, hr, b3, hp⟩)) | (go_at_call 46; ((with_reducible refine (reading_false p _).mono ?_); rintro e w4 ⟨kk, rfl, hkk, b4⟩)))
  have hlt := hr.lt
  have hkl := hkk.lt
  have bz := b4.size
  have hls : LPt w w4.heap.size (fun b => w2.heap.size ≤ b ∧ b < w3.heap.size) (w4.alloc (.cells #[.slice none 0 0] 81)) p w4.heap.size kk bs 0 [] (.slice none 0 0) :=
    ⟨(hr.below b4).below ((Below.refl _ _).alloc (Nat.le_refl _) _), Blk.new w4 _ _, hkk.below ((Below.refl _ _).alloc (Nat.le_refl _) _), ⟨rfl, .inl ⟨rfl, rfl⟩⟩, ((b.trans (b3.mono b.size)).trans (b4.mono (Nat.le_trans b.size b3.size))).alloc (Nat.le_trans (Nat.le_trans b.size b3.size) b4.size) _, Nat.le_trans b.size hp, Nat.le_trans (Nat.le_trans b.size b3.size) b4.size, Nat.le_refl _, (fun b h => Nat.lt_of_lt_of_le h.2 b4.size), by omega, (fun h => nomatch h)⟩
  clear C1 C2 C3 C4 hr b b1 b2 b3 b4 hp hlt hkk hkl bz
  generalize (fun b => w2.heap.size ≤ b ∧ b < w3.heap.size) = q at hls
  generalize hB0 : w4.heap.size = t at *
  generalize (w4.alloc (.cells #[.slice none 0 0] 81)) = w5 at *
  clear hB0
  have hfn : ∃ fv, fv = Value.func (.func 58) #[] #[.pointer (some ⟨kk, 0, none⟩)] := ⟨_, rfl⟩
  go_loopw [42] (fun i wr => ∃ k : Nat, k ≤ n + 1 ∧ i = .int .i64 k ∧ ∃ av, LPt w t q wr p t kk bs (k * 2) (offsTo false bs k) av) (fun i _ => n + 1 - (intOf i).toNat)
  case atStart => exact ⟨0, Nat.zero_le _, rfl, .slice none 0 0, hls⟩
  case round =>
    obtain ⟨k, hk, rfl, av, hl⟩ := hrel
    clear hls
    by_cases hlt : k < n + 1
    · have e1 : decide ((k : Int) < (n : Int) + 1) = true := by simp; omega
      go_wp2
      have hl := hl.below ((Below.refl _ _).drew)
      refine wp_region_chain_last (fun w' => w'.cell? ⟨t, 0, none⟩ = some av) [(0, false), (1, false), (2, false), (3, false), (4, false), (5, false), (6, true), (7, true), (8, true), (9, false), (10, false)] _ _ (by rfl) (by rfl) (by kernel_rfl) (by kernel_rfl) ?_ ?_
      exact (hl.2.1.cell 0).trans rfl
      repeat (first
        | (refine ChainL.skip (o := ?_) ?_ ?_ ?_; rotate_left; (focus (first | (simp only [List.getElem?_toArray, List.getElem?_cons_succ, List.getElem?_cons_zero]; with_reducible rfl) | (simp only [List.getElem?_toArray, List.getElem?_cons_zero]; with_reducible rfl))); (focus rfl); simp only [Act.put, List.setIfInBounds_toArray, List.set_cons_zero, List.set_cons_succ])
        | (refine ChainL.val (o := ?_) (v := ?_) ?_ ?_ ?_ ?_ ?_; rotate_left 2; (focus (first | (simp only [List.getElem?_toArray, List.getElem?_cons_succ, List.getElem?_cons_zero]; with_reducible rfl) | (simp only [List.getElem?_toArray, List.getElem?_cons_zero]; with_reducible rfl))); (focus (intro _ _ h; cases h)); (focus rfl); (focus (intro w' hI; skip; go_simp <;> with_reducible rfl)); simp only [Act.put, List.setIfInBounds_toArray, List.set_cons_zero, List.set_cons_succ]))
      refine ChainL.call (o := ?_) (f := ?_) (args := ?_) ?_ ?_ ?_ ?_
      rotate_left 3
      (focus (simp only [List.getElem?_toArray, List.getElem?_cons_succ, List.getElem?_cons_zero]; with_reducible rfl))
      (focus rfl)
      (focus (go_simp; (constructor <;> with_reducible rfl)))
      refine (rhalf_any p kk bs (k * 2) _ hl.1 hl.2.2.1 (by have := HB.out; omega) (by have := HB.out; have := HR.out; simp only [szP, Bool.false_eq_true, if_false] at this; omega)).mono ?_
      rintro e w2 ⟨rfl, hr2, o2⟩
      have hl2 := hl.read hr2 o2
      refine ⟨_, rfl, (hl2.2.1.cell 0).trans rfl, ?_⟩
      simp only [Act.put, List.setIfInBounds_toArray, List.set_cons_zero, List.set_cons_succ]
      refine ChainL.does (o := ?_) (v := ?_) (w1 := ?_) ?_ ?_ ?_ ?_ ?_
      rotate_left 3
      (focus (simp only [List.getElem?_toArray, List.getElem?_cons_succ, List.getElem?_cons_zero]; with_reducible rfl))
      (focus rfl)
      (focus (go_simp; (constructor <;> with_reducible rfl)))
      (focus (exact ((hl2.below ((Below.refl _ _).alloc (Nat.le_refl _) _)).2.1.cell 0).trans rfl))
      simp only [Act.put, List.setIfInBounds_toArray, List.set_cons_zero, List.set_cons_succ]
      have hl3 := hl2.below ((Below.refl _ w2).alloc (Nat.le_refl _) (.cells #[.int .i64 (2 * (rd2 bs (k * 2) : Nat))] 3))
      refine ChainL.append (o := ?_) ?_ ?_ (.tmp 48) (.tmp 51) 38 ?_ t 3 i0 (.int .i64 0) 1 8 Try.underlying38 hi hz0 hz1 hz2 rfl (by decide) av _ (intCells (offsTo false bs k)) ?_ hl3.2.2.2.1 _ _ 1 1 [.int .i64 (2 * (rd2 bs (k * 2) : Nat))] ?_ (lists_new w2 #[.int .i64 (2 * (rd2 bs (k * 2) : Nat))] 3 [.int .i64 (2 * (rd2 bs (k * 2) : Nat))] (fun j u hu => by simpa using hu)) rfl (by simp [Value.oneCell']) (by simp only [maxLen, offsTo_len]; omega) (by simp only [offsTo_len]; omega) (Nat.le_of_lt (Nat.lt_of_le_of_lt (Nat.le_refl t) hl3.2.1.lt)) ?_
      rotate_left
      (focus (simp only [List.getElem?_toArray, List.getElem?_cons_succ, List.getElem?_cons_zero]; with_reducible rfl))
      (focus rfl)
      (focus rfl)
      (focus rfl)
      (focus rfl)
      intro v4 w4 hown hg hat
      obtain ⟨A4, k4, rfl, _, _⟩ := own_lists hown
      have hl4 := hl3.app hown hg hat
      refine ⟨((hl3.stay hg).cell 0).trans rfl, ?_⟩
      simp only [Act.put, List.setIfInBounds_toArray, List.set_cons_zero, List.set_cons_succ]
      repeat (first
        | (refine ChainL.skip (o := ?_) ?_ ?_ ?_; rotate_left; (focus (first | (simp only [List.getElem?_toArray, List.getElem?_cons_succ, List.getElem?_cons_zero]; with_reducible rfl) | (simp only [List.getElem?_toArray, List.getElem?_cons_zero]; with_reducible rfl))); (focus rfl); simp only [Act.put, List.setIfInBounds_toArray, List.set_cons_zero, List.set_cons_succ])
        | (refine ChainL.val (o := ?_) (v := ?_) ?_ ?_ ?_ ?_ ?_; rotate_left 2; (focus (first | (simp only [List.getElem?_toArray, List.getElem?_cons_succ, List.getElem?_cons_zero]; with_reducible rfl) | (simp only [List.getElem?_toArray, List.getElem?_cons_zero]; with_reducible rfl))); (focus (intro _ _ h; cases h)); (focus rfl); (focus (intro w' hI; skip; go_simp <;> with_reducible rfl)); simp only [Act.put, List.setIfInBounds_toArray, List.set_cons_zero, List.set_cons_succ]))
      refine ChainL.nil ?_
      have F := (hl3.stay hg).kb
      simp only [KB, CellsAt, and_true] at F
      go_wp2
      go_roundw
      case rel =>
        refine ⟨k + 1, by omega, by go_num, .slice A4 ((offsTo false bs k).length + 1) k4, ?_⟩
        rw [offsTo_succ, Nat.succ_mul]
        exact hl4
      case measure => simp [intOf]; omega
    · have e1 : decide ((k : Int) < (n : Int) + 1) = false := by simp; omega
      obtain rfl : k = n + 1 := by omega
      obtain ⟨h1, h2, h3, h4, h5, h6⟩ := hl
      obtain ⟨A1, c1, rfl, l1, _⟩ := own_lists h4
      have C5 := mayLie_any size wr.heap.size A1 c1 (offsTo false bs (n + 1)) wr l1 (by rw [offsTo_len]; omega)
      have F := h2.kb
      simp only [KB, CellsAt, and_true] at F
      cases hr : rises size 0 (offsTo false bs (n + 1))
      · rw [hr] at C5
        have HR2 := Lib.hid hr
        clear hr hfn
        go_wp2_with (first | (go_at_call 41; ((with_reducible refine C5.mono ?_); rintro e w' ⟨rfl, rfl⟩)))
        go_ret2
        exact ⟨fun h => by (have := HR2.out; rw [h] at this; cases this), fun _ => ⟨rfl, h5⟩⟩
      · rw [hr] at C5
        have HR2 := Lib.hid hr
        clear hr hfn
        go_wp2_with (first | (go_at_call 41; ((with_reducible refine C5.mono ?_); rintro e w' ⟨rfl, rfl⟩)))
        go_ret2
        exact ⟨fun _ => ⟨t, rfl, ⟨A1, c1, h2, l1⟩, h5⟩, fun h => by (have := HR2.out; rw [h] at this; cases this)⟩

end Go.Proofs.Ytdbhfigdojkceaa
