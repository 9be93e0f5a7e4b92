/- Part 3 of the proof: Wr3, Wr4, Rd4, Chain, MetM, Rn, Rs. -/
import Derived.Outline
import Derived.LoopTactic
import Derived.Deep.RegionLaw
import Derived.WalkSpells
import Derived.Test.YtmckdeopljcdfaaM1IndexNobody

namespace Go.Proofs.Ytmckdeopljcdfaa
open Go Go.RowKit

theorem lists_new (w : World) (cs : Array Value) (T : TypeId) (E : List Value) (h : ∀ (j : Nat) (u : Value), E[j]? = some u → cs[j]? = some u) : Lists (w.alloc (.cells cs T)) (w.alloc (.cells cs T)).heap.size (some ⟨w.heap.size, 0, none⟩) E :=
  ⟨fun ha => (nomatch ha), fun a ha j u hu => by
    cases ha
    rw [addr_plain, Nat.zero_add, World.cell?_alloc_new]
    exact h j u hu, fun a ha _ => by cases ha; simp⟩
theorem Put.alloc {w w' : World} {o : Obj} {p R : Nat} {F : Bool} {L E : List Value} {fp : List Nat} (h : Put (w.alloc o) w' p R F L fp E) : Put w w' p R F L fp E := by
  obtain ⟨fp', h1, h2, h3⟩ := h
  refine ⟨fp', h1, ((Only.refl w fp).alloc o).trans h2 (fun b hb => .inl hb), fun b hb => ?_⟩
  rcases h3 b hb with h | h
  · exact .inl h
  · right
    simp at h
    omega
theorem byte_of (x : Int) : ∃ n : Nat, n < 256 ∧ Value.int .u8 (x % 256) = .int .u8 (n : Int) := ⟨(x % 256).toNat, by omega, by congr 1; omega⟩
def be1 (x : Int) : List Value := [.int .u8 (x % 256)]
theorem be1_bytes (x : Int) : Bytes8 (be1 x) := by
  intro u hu
  simp only [be1, List.mem_cons, List.not_mem_nil, or_false] at hu
  subst hu
  all_goals exact byte_of _
set_option maxRecDepth 100000 in
theorem number1_any (p R : Nat) (F : Bool) (L : List Value) (fp : List Nat) (x : Int) (w : World) (hW : Wr w p R F L fp) (hR : R ≤ 1099511627776) :
    Calls Try.prog 37 #[.pointer (some ⟨p, 0, none⟩), .int .i64 x, .int .i64 1] w fun e w' => e = .returned (.pointer (some ⟨p, 0, none⟩)) ∧ Put w w' p R F L fp (be1 x) := by
  have hp : p < w.heap.size := by
    obtain ⟨_, _, _, _, hb, _⟩ := hW
    exact hb.lt
  have C := fun cs => data_any p R F L fp (some ⟨w.heap.size, 0, none⟩) 1 4 (w.alloc (.cells cs 78)).heap.size (be1 x) (w.alloc (.cells cs 78)) (hW.only ((Only.refl w []).alloc _) (fun _ _ h => (nomatch h))) hR
  have C1 := C #[.int .u8 (x % 256), .int .u8 0, .int .u8 0, .int .u8 0] (lists_new w _ _ _ (fun j u hu => by
    unfold be1 at hu
    match j, hu with
    | 0, hu => exact (by simpa using hu)
    | j + 1, hu => simp at hu)) rfl (Nat.le_refl _) (be1_bytes x) (fun a ha _ => by cases ha; simp; omega)
  clear C hW hR
  go_enter Try.func37, Try.ntmps37
  go_wp2
  refine wp_loop_rounds 2 ?_
  rw [rounds_succ]
  go_wp2
  rw [rounds_succ]
  go_wp2_with (first | (go_at_call 29; ((with_reducible refine (C1).mono ?_); rintro e w1 ⟨rfl, hq⟩)))
  go_ret
  exact ⟨rfl, hq.alloc⟩

def be2 (x : Int) : List Value := [.int .u8 (x / 256 % 256), .int .u8 (x % 256)]
theorem be2_bytes (x : Int) : Bytes8 (be2 x) := by
  intro u hu
  simp only [be2, List.mem_cons, List.not_mem_nil, or_false] at hu
  rcases hu with rfl | rfl
  all_goals exact byte_of _
set_option maxRecDepth 100000 in
theorem number2_any (p R : Nat) (F : Bool) (L : List Value) (fp : List Nat) (x : Int) (w : World) (hW : Wr w p R F L fp) (hR : R ≤ 1099511627776) :
    Calls Try.prog 37 #[.pointer (some ⟨p, 0, none⟩), .int .i64 x, .int .i64 2] w fun e w' => e = .returned (.pointer (some ⟨p, 0, none⟩)) ∧ Put w w' p R F L fp (be2 x) := by
  have hp : p < w.heap.size := by
    obtain ⟨_, _, _, _, hb, _⟩ := hW
    exact hb.lt
  have C := fun cs => data_any p R F L fp (some ⟨w.heap.size, 0, none⟩) 2 4 (w.alloc (.cells cs 78)).heap.size (be2 x) (w.alloc (.cells cs 78)) (hW.only ((Only.refl w []).alloc _) (fun _ _ h => (nomatch h))) hR
  have C1 := C #[.int .u8 (x / 256 % 256), .int .u8 (x % 256), .int .u8 0, .int .u8 0] (lists_new w _ _ _ (fun j u hu => by
    unfold be2 at hu
    match j, hu with
    | 0, hu => exact (by simpa using hu)
    | 1, hu => exact (by simpa using hu)
    | j + 2, hu => simp at hu)) rfl (Nat.le_refl _) (be2_bytes x) (fun a ha _ => by cases ha; simp; omega)
  clear C hW hR
  go_enter Try.func37, Try.ntmps37
  go_wp2
  refine wp_loop_rounds 3 ?_
  rw [rounds_succ]
  go_wp2
  rw [rounds_succ]
  go_wp2
  rw [rounds_succ]
  go_wp2_with (first | (go_at_call 29; ((with_reducible refine (C1).mono ?_); rintro e w1 ⟨rfl, hq⟩)))
  go_ret
  exact ⟨rfl, hq.alloc⟩

def be4 (x : Int) : List Value := [.int .u8 (x / 16777216 % 256), .int .u8 (x / 65536 % 256), .int .u8 (x / 256 % 256), .int .u8 (x % 256)]
theorem be4_bytes (x : Int) : Bytes8 (be4 x) := by
  intro u hu
  simp only [be4, List.mem_cons, List.not_mem_nil, or_false] at hu
  rcases hu with rfl | rfl | rfl | rfl
  all_goals exact byte_of _
set_option maxRecDepth 100000 in
theorem number4_any (p R : Nat) (F : Bool) (L : List Value) (fp : List Nat) (x : Int) (w : World) (hW : Wr w p R F L fp) (hR : R ≤ 1099511627776) :
    Calls Try.prog 37 #[.pointer (some ⟨p, 0, none⟩), .int .i64 x, .int .i64 4] w fun e w' => e = .returned (.pointer (some ⟨p, 0, none⟩)) ∧ Put w w' p R F L fp (be4 x) := by
  have hp : p < w.heap.size := by
    obtain ⟨_, _, _, _, hb, _⟩ := hW
    exact hb.lt
  have C := fun cs => data_any p R F L fp (some ⟨w.heap.size, 0, none⟩) 4 4 (w.alloc (.cells cs 78)).heap.size (be4 x) (w.alloc (.cells cs 78)) (hW.only ((Only.refl w []).alloc _) (fun _ _ h => (nomatch h))) hR
  have C1 := C #[.int .u8 (x / 16777216 % 256), .int .u8 (x / 65536 % 256), .int .u8 (x / 256 % 256), .int .u8 (x % 256)] (lists_new w _ _ _ (fun j u hu => by
    unfold be4 at hu
    exact (by simpa using hu)
)) rfl (Nat.le_refl _) (be4_bytes x) (fun a ha _ => by cases ha; simp; omega)
  clear C hW hR
  go_enter Try.func37, Try.ntmps37
  go_wp2
  refine wp_loop_rounds 5 ?_
  rw [rounds_succ]
  go_wp2
  rw [rounds_succ]
  go_wp2
  rw [rounds_succ]
  go_wp2
  rw [rounds_succ]
  go_wp2
  rw [rounds_succ]
  go_wp2_with (first | (go_at_call 29; ((with_reducible refine (C1).mono ?_); rintro e w1 ⟨rfl, hq⟩)))
  go_ret
  exact ⟨rfl, hq.alloc⟩

theorem wU8_any (p R : Nat) (F : Bool) (L : List Value) (fp : List Nat) (x : Int) (w : World) (hW : Wr w p R F L fp) (hR : R ≤ 1099511627776) :
    Calls Try.prog 39 #[.pointer (some ⟨p, 0, none⟩), .int .i64 x] w fun e w' => e = .returned (.pointer (some ⟨p, 0, none⟩)) ∧ Put w w' p R F L fp (be1 x) := by
  have C := number1_any p R F L fp x w hW hR
  clear hW hR
  go_enter Try.func39, Try.ntmps39
  go_wp2_with (first | (go_at_call 37; ((with_reducible refine (C).mono ?_); rintro e w1 ⟨rfl, hq⟩)))
  go_ret
  exact ⟨rfl, hq⟩
theorem wU16_any (p R : Nat) (F : Bool) (L : List Value) (fp : List Nat) (x : Int) (w : World) (hW : Wr w p R F L fp) (hR : R ≤ 1099511627776) :
    Calls Try.prog 27 #[.pointer (some ⟨p, 0, none⟩), .int .i64 x] w fun e w' => e = .returned (.pointer (some ⟨p, 0, none⟩)) ∧ Put w w' p R F L fp (be2 x) := by
  have C := number2_any p R F L fp x w hW hR
  clear hW hR
  go_enter Try.func27, Try.ntmps27
  go_wp2_with (first | (go_at_call 37; ((with_reducible refine (C).mono ?_); rintro e w1 ⟨rfl, hq⟩)))
  go_ret
  exact ⟨rfl, hq⟩

/-- A new writer with room R was answered. -/
def Made (w : World) (R : Nat) (e : Ending) (w' : World) : Prop := ∃ p fp, e = .returned (.pointer (some ⟨p, 0, none⟩)) ∧ Wr w' p R false [] fp ∧ Below w.heap.size w w' ∧ (∀ b ∈ fp, w.heap.size ≤ b)

theorem to_any (r : Int) (w : World) :
    Calls Try.prog 26 #[.int .i64 r] w fun e w' => Made w r.toNat e w' := by
  have own0 : ∀ (w : World) (e : TypeId) (n : Nat), w.ownsRow 0 e n (.slice none 0 0) 0 [] := fun w e n => ⟨by simp, .inl ⟨rfl, rfl⟩⟩
  have fin : ∀ v : Int, v = (r.toNat : Int) → Wr (w.alloc (.cells #[.int .i64 v, .bool false, .slice none 0 0, .slice none 0 0, .int .i64 0] 72)) w.heap.size r.toNat false [] [w.heap.size] := fun v hv => by
    rw [hv]
    exact ⟨[], [], .slice none 0 0, .slice none 0 0, Blk.new w _ _, own0 _ _ _, own0 _ _ _, Nat.le_refl _, (fun _ hu => (nomatch hu)), rfl, Nat.zero_le _, rfl⟩
  by_cases h : 0 ≤ r
  · have fin := fin r (by omega)
    go_enter Try.func26, Try.ntmps26
    go_wp2
    go_ret
    exact ⟨w.heap.size, [w.heap.size], rfl, fin, (Below.refl _ _).alloc (Nat.le_refl _) _, by simp⟩
  · have fin := fin 0 (by omega)
    have h' : r ≤ 0 := by omega
    go_enter Try.func26, Try.ntmps26
    go_wp2
    go_ret
    exact ⟨w.heap.size, [w.heap.size], rfl, fin, (Below.refl _ _).alloc (Nat.le_refl _) _, by simp⟩

end Go.Proofs.Ytmckdeopljcdfaa

namespace Go.Proofs.Ytmckdeopljcdfaa
open Go Go.RowKit

theorem step_append_src {P : Program} {w : World} {ops : Array Oper} {o : Oper} {a : Act} {K : Act → World → Prop} {Q : Exit → Act → World → Prop} {X : Prop} (hgd : o.guard = none) (s x : Operand) (t : TypeId)
    (ho : o.op = .call { callee := .builtin .append, args := #[s, x], argTypes := #[t, t] })
    (base : Nat) (e : TypeId) (i : TypeInfo) (z : Value) (size bytes : Nat) (ht : P.underlying t = some (.slice e)) (hi : P.info? e = some i) (hz : i.zero = some z)
    (hsize : i.size = size) (hby : i.bytes = bytes) (hzs : z.cells.size = size) (hsz : 0 < size)
    (v : Value) (n : Nat) (xs : List Value) (hs : a.eval s = v) (hown : w.ownsRow base e size v n xs)
    (B : Nat) (A : Option Addr) (m c : Nat) (news : List Value) (hx : a.eval x = .slice A m c) (hr : Lists w B A news) (hl : news.length = m * size) (h1 : ∀ u ∈ news, u.oneCell' = true)
    (h63 : n + m ≤ maxLen) (hbytes : (n + m) * bytes ≤ 140737488355328) (hbase : base ≤ w.heap.size)
    (h : ∀ v' w', w'.ownsRow base e size v' (n + m) (xs ++ news) → w.grownBy w' v.ownBlock → (v'.ownBlock = v.ownBlock ∨ v'.ownBlock = some w.heap.size) → K (a.put o.dst v') w') :
    if Region.wanted o (yielded ops a.tmps) = true then Oper.wp P o a w K Q else X := by
  rw [if_pos (by simp [Region.wanted, hgd])]
  exact wp_append_src w s x t ho base e i z size bytes ht hi hz hsize hby hzs hsz v n xs hs hown B A m c news hx hr hl h1 h63 hbytes hbase h

/-- How many zeros a pad to n wants. -/
def padN (l : Nat) (n : Int) : Nat := if n < 1 then 0 else if (l : Int) % n = 0 then 0 else (n - (l : Int) % n).toNat

theorem Put.nothing {w w' : World} {p R : Nat} {F : Bool} {L : List Value} {fp : List Nat} (hW : Wr w p R F L fp) (hb : Below w.heap.size w w') : Put w w' p R F L fp [] := by
  have hL : L.length ≤ R := by
    obtain ⟨_, _, _, _, _, _, _, _, _, _, h, _⟩ := hW
    exact h
  have hf : putF R F L [] = F := by
    unfold putF
    rw [show decide (R < L.length + ([] : List Value).length) = false by simp; omega]
    simp
  refine ⟨fp, ?_, Only.of_below hb fp, fun b h => .inl h⟩
  unfold putL
  rw [hf]
  have := hW.only (Only.of_below hb []) (fun _ _ h => (nomatch h))
  cases F
  · rw [if_neg (by simp), List.append_nil]; exact this
  · rw [if_pos rfl]; exact this
theorem Put.before {w w1 w' : World} {p R : Nat} {F : Bool} {L E : List Value} {fp : List Nat} (hb : Below w.heap.size w w1) (h : Put w1 w' p R F L fp E) : Put w w' p R F L fp E := by
  obtain ⟨fp', h1, h2, h3⟩ := h
  exact ⟨fp', h1, (Only.of_below hb fp).trans h2 (fun b hb => .inl hb), fun b hm => (h3 b hm).imp id (fun h => Nat.le_trans hb.size h)⟩

theorem pad_done {w w2 w3 w4 : World} {p R : Nat} {L D : List Value} {fp : List Nat} {G : List (Nat × Nat)} {dv gv v4 : Value} {z H : Nat} (hb : Blk w p 72 #[.int .i64 (R : Nat), .bool false, dv, gv, .int .i64 (gapSum G : Nat)]) (hD : w.ownsRow 0 5 1 dv D.length D) (hG : w.ownsRow 0 77 2 gv G.length (gapCells G))
    (k1 : GapsOk 0 G D.length) (k2 : Bytes8 D) (k3 : L = expand D 0 G) (k5 : fp = p :: (blk dv ++ blk gv)) (hf : putF R false L (List.replicate z zero8) = false) (hx : L.length + z ≤ R) (hz1 : 1 ≤ z)
    (b2 : Below w.heap.size w w2) (o3 : Only w2 w3 [p]) (o4 : Only w3 w4 (blk gv)) (hb4 : Blk w4 p 72 #[.int .i64 (R : Nat), .bool false, dv, gv, .int .i64 (gapSum G : Nat)])
    (hown : w4.ownsRow 0 77 2 v4 (G.length + 1) (gapCells G ++ [.int .i64 (D.length : Nat), .int .i64 (z : Nat)])) (hat : v4.ownBlock = gv.ownBlock ∨ v4.ownBlock = some H) (hH : w3.heap.size ≤ H) (s : Int) (hs : s = (gapSum G : Int) + z) :
    Put w ((w4.setCell ⟨p, 3, none⟩ v4).setCell ⟨p, 4, none⟩ (.int .i64 s)) p R false L fp (List.replicate z zero8) := by
  have n1 := own_ne hG hb (by decide)
  have n2 := own_ne hD hb (by decide)
  have n3 := own_own hD hG (by decide)
  have n4 := own_ne hown hb4 (by decide)
  have o1 : Only w w3 [p] := (Only.of_below b2 [p]).trans o3 (fun b hb => .inl hb)
  have o5 : Only w4 ((w4.setCell ⟨p, 3, none⟩ v4).setCell ⟨p, 4, none⟩ (.int .i64 s)) [p] := ((Only.refl _ _).set (.inl (by simp)) _).set (.inl (by simp)) _
  refine ⟨p :: (blk dv ++ blk v4), ?_, ?_, ?_⟩
  · unfold putL
    rw [hf, if_neg (by simp)]
    refine ⟨D, G ++ [(D.length, z)], dv, v4, ?_, own_only (own_only (own_only hD o1 (fun b hm e => by simp at e; subst e; exact n2 hm)) o4 (fun b hm e => n3 b hm e)) o5 (fun b hm e => by simp at e; subst e; exact n2 hm), ?_, k1.snoc hz1, k2, ?_, ?_, rfl⟩
    · have := (hb4.set 3 v4).set 4 (.int .i64 s)
      rw [show ((gapSum (G ++ [(D.length, z)]) : Nat) : Int) = s by rw [hs]; simp [gapSum]]
      exact this
    · rw [gapCells_snoc, show (G ++ [(D.length, z)]).length = G.length + 1 by simp]
      exact own_only hown o5 (fun b hm e => by simp at e; subst e; exact n4 hm)
    · rw [expand_gap D z G 0 k1, ← k3]
    · rw [List.length_append, List.length_replicate]; exact hx
  · subst k5
    exact ((o1.more (fun b hm => by simp at hm; subst hm; simp)).trans o4 (fun b hm => .inl (by simp [hm]))).trans o5 (fun b hm => by simp at hm; subst hm; simp)
  · intro b hm
    subst k5
    rcases List.mem_cons.1 hm with rfl | hm
    · exact .inl (by simp)
    · rcases List.mem_append.1 hm with hm | hm
      · exact .inl (by simp [hm])
      · rcases hat with e | e
        · left
          have : b ∈ blk gv := by unfold blk at hm ⊢; rw [← e]; exact hm
          simp [this]
        · right
          have : b = H := by unfold blk at hm; rw [e] at hm; simpa using hm
          have := o1.size
          omega

end Go.Proofs.Ytmckdeopljcdfaa

namespace Go.Proofs.Ytmckdeopljcdfaa
open Go Go.RowKit
variable {q : Nat → Prop}

/-- A copy in new memory. -/
def GaveClone (w : World) (E : List Value) (e : Ending) (w' : World) : Prop := ∃ A c, e = .returned (.slice A E.length c) ∧ Lists w' w'.heap.size A E ∧ E.length ≤ c ∧ c ≤ 9223372036854775807 ∧ Below w.heap.size w w' ∧ (∀ a, A = some a → w.heap.size ≤ a.block)

set_option maxRecDepth 100000 in
theorem clone_any (A : Option Addr) (n c : Nat) (E : List Value) (w : World) (hE : Lists w w.heap.size A E) (hn : E.length = n) (h8 : Bytes8 E) (hm : n ≤ 140737488355328) :
    Calls Try.prog 24 #[.slice A n c] w fun e w' => GaveClone w E e w' := by
  have q1 := fun w => Lib.run_eql_slice_nil (P := Try.prog) w 22 5 A n c 0 0 Try.underlying22
  cases A with
  | none =>
    obtain rfl : E = [] := hE.nil rfl
    obtain rfl : n = 0 := hn.symm
    have hq : GaveClone w [] (.returned (.slice none 0 0)) w := ⟨none, 0, rfl, Lists.empty _ _ _, Nat.le_refl _, by omega, Below.refl _ _, fun a h => (nomatch h)⟩
    go_enter Try.func24, Try.ntmps24
    go_wp2
    all_goals go_ret
    all_goals exact hq
  | some a =>
    obtain ⟨i0, hi, hz0, hz1, hz2⟩ := info_parts u8Info
    have HN := Lib.hid hn
    clear hn
    go_enter Try.func24, Try.ntmps24
    go_wp2_with (first | (at_builtin; refine wpList_append_src _ rfl (.tmp 5) (.tmp 6) 22 rfl w.heap.size 5 i0 (.int .u8 0) 1 1 Try.underlying22 hi hz0 hz1 hz2 rfl (by decide) (.slice (some ⟨w.heap.size, 0, none⟩) 0 0) 0 [] rfl ⟨rfl, .inr ⟨w.heap.size, 0, #[], rfl, Nat.le_refl _, heap_alloc_new w _, Nat.le_refl _, Nat.zero_le _, rfl, rfl⟩⟩ w.heap.size (some a) n c E rfl (hE.alloc (Nat.le_refl _) _) (by rw [HN.out, Nat.mul_one]) h8.one (by simp only [maxLen]; omega) (by omega) (by simp) ?_; intro v1 w1 hown hg hat; rw [Nat.zero_add, List.nil_append] at hown))
    go_ret
    have hb : Below w.heap.size w w1 := ((Below.refl _ _).alloc (Nat.le_refl _) _).grown hg (by simp) (fun j hj => by cases hj; exact Nat.le_refl _)
    obtain ⟨A2, c2, hv, hl, hc2⟩ := own_lists hown
    have hcm : c2 ≤ maxLen := by
      rcases hown.2 with ⟨h, _⟩ | ⟨g, cap, cur, h, _, _, _, h7, _⟩
      · rw [hv] at h; injection h with _ _ h; omega
      · rw [hv] at h; injection h with _ _ h; omega
    have hlow : ∀ a, A2 = some a → w.heap.size ≤ a.block := by
      rcases hown.2 with ⟨h, _⟩ | ⟨g, cap, cur, h, h1, _⟩
      · rw [hv] at h; injection h with h; intro a ha; rw [h] at ha; cases ha
      · rw [hv] at h; injection h with h; intro a ha; rw [h] at ha; cases ha; exact h1
    unfold maxLen at hcm
    exact ⟨A2, c2, by rw [HN.out]; exact congrArg _ hv, hl, by rw [HN.out]; exact hc2, by omega, hb, hlow⟩

/-- A new reader was answered. -/
def MadeRd (w : World) (E : List Value) (e : Ending) (w' : World) : Prop := ∃ p, e = .returned (.pointer (some ⟨p, 0, none⟩)) ∧ Rd (fun b => w.heap.size ≤ b ∧ b < w'.heap.size) w' p E 0 false ∧ Below w.heap.size w w' ∧ w.heap.size ≤ p

theorem new_any (A : Option Addr) (n c : Nat) (E : List Value) (w : World) (hE : Lists w w.heap.size A E) (hn : E.length = n) (h8 : Bytes8 E) (hm : n ≤ 140737488355328) :
    Calls Try.prog 18 #[.slice A n c] w fun e w' => MadeRd w E e w' := by
  have C := clone_any A n c E w hE hn h8 hm
  clear hE hn
  go_enter Try.func18, Try.ntmps18
  go_wp2_with (first | (go_at_call 24; ((refine C.mono ?_); rintro e w1 ⟨A1, c1, rfl, hl, hc, hc2, hb, hlow⟩)))
  go_ret
  refine ⟨w1.heap.size, rfl, ⟨A1, c1, Blk.new w1 _ _, (hl.alloc (Nat.le_refl _) _).more (by simp), h8, Nat.zero_le _, hc, hc2, fun a ha hx => ?_⟩, hb.alloc hb.size _, hb.size⟩
  have := hl.lt a ha hx
  exact ⟨by omega, hlow a ha, by simp <;> omega⟩

theorem rU16_ok (p : Nat) (bs : List Value) (i x0 x1 : Nat) (w : World) (h : Rd q w p bs i false) (hL : bs.length ≤ 4611686018427387904) (him : i + 2 ≤ bs.length) (h0 : bs[i]? = some (.int .u8 (x0 : Nat))) (h1 : bs[i + 1]? = some (.int .u8 (x1 : Nat))) (l0 : x0 < 256) (l1 : x1 < 256) :
    Calls Try.prog 19 #[.pointer (some ⟨p, 0, none⟩)] w fun e w' => e = .returned (.int .i64 (x0 * 256 + x1 : Nat)) ∧ Rd q w' p bs (i + 2) false ∧ Only w w' [p] := by
  have C := number2_ok p bs i x0 x1 w h hL him h0 h1 l0 l1
  clear h h0 h1
  go_enter Try.func19, Try.ntmps19
  go_wp2_with (first | (go_at_call 33; ((refine C.mono ?_); rintro e w2 ⟨rfl, hr, o2⟩)))
  go_ret
  exact ⟨rfl, hr, o2⟩
theorem rU16_short (p : Nat) (bs : List Value) (i : Nat) (w : World) (h : Rd q w p bs i false) (hL : bs.length ≤ 4611686018427387904) (him : bs.length - i < 2) :
    Calls Try.prog 19 #[.pointer (some ⟨p, 0, none⟩)] w fun e w' => e = .returned (.int .i64 0) ∧ Rd q w' p bs i true ∧ Only w w' [p] := by
  have C := number_short p bs i 2 w h hL (.inr (by omega))
  clear h
  go_enter Try.func19, Try.ntmps19
  go_wp2_with (first | (go_at_call 33; ((refine C.mono ?_); rintro e w2 ⟨rfl, hr, o2⟩)))
  go_ret
  exact ⟨rfl, hr, o2⟩

end Go.Proofs.Ytmckdeopljcdfaa

namespace Go.Proofs.Ytmckdeopljcdfaa
open Go Go.RowKit

section
variable {P : Program} {ops : Array Oper} {Q : Exit → Act → World → Prop} {md : Region.Mode} {I : World → Prop}

/-- Operation o, in every act that agrees on what it looks at, in every world that meets I: it yields v, and the world stays. -/
def StepI (P : Program) (ops : Array Oper) (I : World → Prop) (o : Oper) (v : Value) (a : Act) : Prop :=
  ∀ (a' : Act) (w : World), (∀ t ∈ o.looksAt ops, a'.tmps[t]? = a.tmps[t]?) → I w →
    (Region.wanted o (yielded ops a'.tmps) = false ∧ v = undef) ∨ (Region.wanted o (yielded ops a'.tmps) = true ∧ (execOp a'.eval o).run P w = .ok (.value v) w)

/-- Operation o at this act and world: it is wanted, and yields a value, by itself or by a call; K holds of it and of the world behind it. -/
def StepO (P : Program) (ops : Array Oper) (o : Oper) (a : Act) (w : World) (K : Value → World → Prop) : Prop :=
  Region.wanted o (yielded ops a.tmps) = true ∧ ((∃ v w', (execOp a.eval o).run P w = .ok (.value v) w' ∧ K v w') ∨ (∃ f args w1, (execOp a.eval o).run P w = .ok (.enter f args) w1 ∧ Calls P f args w1 fun e w' => ∃ v, e = .returned v ∧ K v w') ∨ (∃ w', (execOp a.eval o).run P w = .ok .skip w' ∧ K undef w'))

theorem StepO.mono {o : Oper} {a : Act} {w : World} {K K' : Value → World → Prop} (h : StepO P ops o a w K) (hK : ∀ v w', K v w' → K' v w') : StepO P ops o a w K' := by
  obtain ⟨hw, h | h | h⟩ := h
  · obtain ⟨v, w', h1, h2⟩ := h
    exact ⟨hw, .inl ⟨v, w', h1, hK _ _ h2⟩⟩
  · obtain ⟨f, args, w1, h1, h2⟩ := h
    exact ⟨hw, .inr (.inl ⟨f, args, w1, h1, h2.mono fun e w' ⟨v, h3, h4⟩ => ⟨v, h3, hK _ _ h4⟩⟩)⟩
  · obtain ⟨w', h1, h2⟩ := h
    exact ⟨hw, .inr (.inr ⟨w', h1, hK _ _ h2⟩)⟩
theorem StepO.move {o : Oper} (hns : ∀ cs b, o.op ≠ .select cs b) {a a' : Act} {w : World} {K : Value → World → Prop} (h : StepO P ops o a w K) (hag : ∀ t ∈ o.looksAt ops, a'.tmps[t]? = a.tmps[t]?) : StepO P ops o a' w K := by
  unfold StepO at *
  rw [wanted_agree o hag, exec_agree o hns hag]
  exact h
theorem StepO.wpOp {i : Nat} {o : Oper} (hi : ops[i]? = some o) {a : Act} {w : World} {K : Act → World → Prop} (h : StepO P ops o a w fun v w' => K (a.put o.dst v) w') : wpOp P ops Q i K a w := by
  obtain ⟨hw, h⟩ := h
  unfold Go.wpOp
  simp only [hi]
  rw [hw, if_pos rfl]
  refine .inl ?_
  unfold Oper.wp
  rcases h with ⟨v, w', h1, h2⟩ | ⟨f, args, w1, h1, h2⟩ | ⟨w', h1, h2⟩
  · rw [h1]; exact h2
  · rw [h1]
    refine h2.mono fun e w' ⟨v, h3, h4⟩ => ?_
    subst h3
    exact h4
  · rw [h1]; exact h2

/-- One order: what only reads may be taken as soon as it is ready; what changes the world, when nothing else is ready. -/
inductive PlanC (P : Program) (md : Region.Mode) (ops : Array Oper) (Q : Exit → Act → World → Prop) (I : World → Prop) (last : Nat) : Nat → Array Bool → Act → World → Prop
  | done {n : Nat} {listed : Array Bool} {a : Act} {w : World} (hr : Region.ready md ops listed = []) (h : Q .normal a w) : PlanC P md ops Q I last n listed a w
  | stop {n : Nat} {listed : Array Bool} {a : Act} {w : World} (hr : Region.ready md ops listed = [last]) (hf : Region.ready md ops (listed.setIfInBounds last true) = []) (h : wpOp P ops Q last (Q .normal) a w) : PlanC P md ops Q I last (n + 1) listed a w
  | take {n : Nat} {listed : Array Bool} {a : Act} {w : World} (i : Nat) (o : Oper) (v : Value) (hi : ops[i]? = some o) (hne : i ≠ last) (hf : Region.free md ops listed i = true) (hr : i ∈ Region.ready md ops listed)
      (hs : StepI P ops I o v a) (h : PlanC P md ops Q I last n (listed.setIfInBounds i true) (a.put o.dst v) w) : PlanC P md ops Q I last (n + 1) listed a w
  | step {n : Nat} {listed : Array Bool} {a : Act} {w : World} (i : Nat) (o : Oper) (hi : ops[i]? = some o) (hne : i ≠ last) (hr : Region.ready md ops listed = [i])
      (K : Value → World → Prop) (hs : StepO P ops o a w K) (hI : ∀ v w', K v w' → I w') (h : ∀ v w', K v w' → PlanC P md ops Q I last n (listed.setIfInBounds i true) (a.put o.dst v) w') : PlanC P md ops Q I last (n + 1) listed a w

theorem StepI.move {o : Oper} {v : Value} {a a1 : Act} (h : StepI P ops I o v a) (hag : ∀ t ∈ o.looksAt ops, a1.tmps[t]? = a.tmps[t]?) : StepI P ops I o v a1 :=
  fun a' w ha hI => h a' w (fun t ht => (ha t ht).trans (hag t ht)) hI

/-- Whatever may come up could have come up first. -/
theorem PlanC.first (hns : ∀ (i : Nat) (o : Oper) cs b, ops[i]? = some o → o.op ≠ .select cs b) {n last : Nat} {listed : Array Bool} {a : Act} {w : World} (h : PlanC P md ops Q I last n listed a w) : ∀ j, j ∈ Region.ready md ops listed → j ≠ last →
    ∃ m oj, n = m + 1 ∧ ops[j]? = some oj ∧ ((∃ u, StepI P ops I oj u a ∧ PlanC P md ops Q I last m (listed.setIfInBounds j true) (a.put oj.dst u) w) ∨
      (∃ K : Value → World → Prop, StepO P ops oj a w K ∧ (∀ v w', K v w' → I w') ∧ ∀ v w', K v w' → PlanC P md ops Q I last m (listed.setIfInBounds j true) (a.put oj.dst v) w')) := by
  induction h with
  | done hr h => intro j hj; rw [hr] at hj; cases hj
  | stop hr hf h => intro j hj hne; rw [hr] at hj; exact absurd (by simpa using hj) hne
  | step i o hi hne hr K hs hI h =>
    intro j hj _
    rw [hr] at hj
    obtain rfl : j = i := by simpa using hj
    exact ⟨_, o, rfl, hi, .inr ⟨K, hs, hI, h⟩⟩
  | @take n listed a w i o v hi hne hf hr hs h ih =>
    intro j hj hjl
    by_cases hji : j = i
    · subst hji; exact ⟨_, o, rfl, hi, .inl ⟨v, hs, h⟩⟩
    · obtain ⟨m, oj, rfl, hoj, hh⟩ := ih j (ready_mono hj hji) hjl
      obtain ⟨hjun, oj', hoj', hall⟩ := mem_ready.1 hj
      obtain rfl : oj' = oj := by rw [hoj] at hoj'; exact (Option.some.inj hoj').symm
      have hnot : ∀ e ∈ oj'.after, Region.binds md e = true → e.on ≠ i := fun e he hb heq => by
        have h1 := hall e he hb
        have h0 := (mem_ready.1 hr).1
        rw [heq] at h1
        rcases Nat.lt_or_ge i listed.size with h' | h'
        · simp [h'] at h0 h1; rw [h0] at h1; cases h1
        · simp [Array.getElem?_eq_none h'] at h1
      obtain ⟨h1, h2, h3⟩ := Oper.apart_spec (Region.free_spec hi hf j oj' hoj hji hjun hnot)
      refine ⟨m + 1, oj', rfl, hoj, ?_⟩
      have hst : ∀ u, StepI P ops I o v (a.put oj'.dst u) := fun u => hs.move (put_agree h3 a u)
      rcases hh with ⟨u, hsj, hp⟩ | ⟨K, hsj, hKI, hp⟩
      · refine .inl ⟨u, hsj.move fun t ht => (put_agree h1 a v t ht).symm, ?_⟩
        refine PlanC.take i o v hi hne (free_set hf) (ready_mono hr (Ne.symm hji)) (hst u) ?_
        rw [Array.setIfInBounds_comm _ _ hji, ← Act.put_comm a v u h2]
        exact hp
      · refine .inr ⟨K, hsj.move (hns j oj' · · hoj) fun t ht => (put_agree h1 a v t ht).symm, hKI, fun u w' hK => ?_⟩
        refine PlanC.take i o v hi hne (free_set hf) (ready_mono hr (Ne.symm hji)) (hst u) ?_
        rw [Array.setIfInBounds_comm _ _ hji, ← Act.put_comm a v u h2]
        exact hp u w' hK

theorem PlanC.any {last : Nat} (hL : Alone md ops last) (hns : ∀ (i : Nat) (o : Oper) cs b, ops[i]? = some o → o.op ≠ .select cs b) : ∀ (fuel n : Nat) (listed : Array Bool) (a : Act) (w : World), DC md ops listed → n ≤ fuel → I w → PlanC P md ops Q I last n listed a w → wpAny P md ops Q fuel listed a w
  | 0, n, listed, a, w, _, hn, hI, h => by
    cases h with
    | done hr h => exact ⟨hr, h⟩
    | stop => omega
    | take => omega
    | step => omega
  | fuel + 1, n, listed, a, w, hd, hn, hI, h => by
    refine ⟨fun hr => ?_, fun j hj => ?_⟩
    · cases h with
      | done _ h => exact h
      | stop hr' => rw [hr] at hr'; cases hr'
      | take i o v hi hne hf hr' => rw [hr] at hr'; cases hr'
      | step i o hi hne hr' => rw [hr] at hr'; cases hr'
    · by_cases hjl : j = last
      · subst hjl
        cases h with
        | done hr => rw [hr] at hj; cases hj
        | stop hr hf h => exact wpOp_mono (fun a' w' hq => wpAny_done hf hq fuel) h
        | take i o v hi hne hf hr' => exact absurd (hL listed hd hj i hr') hne
        | step i o hi hne hr' => exact absurd (hL listed hd hj i (by rw [hr']; simp)) hne
      · obtain ⟨m, oj, rfl, hoj, hh⟩ := h.first hns j hj hjl
        rcases hh with ⟨u, hsj, hp⟩ | ⟨K, hsj, hKI, hp⟩
        · have hrec := PlanC.any hL hns fuel m _ _ w (hd.set hj) (by omega) hI hp
          unfold wpOp
          simp only [hoj]
          rcases hsj a w (fun _ _ => rfl) hI with ⟨hw, rfl⟩ | ⟨hw, hrun⟩
          · rw [hw]; exact hrec
          · rw [hw, if_pos rfl]
            refine .inl ?_
            unfold Oper.wp
            rw [hrun]
            exact hrec
        · exact StepO.wpOp hoj (hsj.mono fun v w' hK => PlanC.any hL hns fuel m _ _ w' (hd.set hj) (by omega) (hKI v w' hK) (hp v w' hK))

/-- The order as a list: (operation, whether it changes the world). -/
def ChainL (P : Program) (ops : Array Oper) (E : Act → World → Prop) (I : World → Prop) : List (Nat × Bool) → Act → World → Prop
  | [], a, w => E a w
  | (i, false) :: r, a, w => ∃ o v, ops[i]? = some o ∧ StepI P ops I o v a ∧ ChainL P ops E I r (a.put o.dst v) w
  | (i, true) :: r, a, w => ∃ o, ops[i]? = some o ∧ StepO P ops o a w fun v w' => I w' ∧ ChainL P ops E I r (a.put o.dst v) w'

def chainGo (md : Region.Mode) (ops : Array Oper) (last : Nat) : List (Nat × Bool) → Array Bool → Bool
  | [], listed => if last < ops.size then (Region.ready md ops listed == [last]) && (Region.ready md ops (listed.setIfInBounds last true)).isEmpty else (Region.ready md ops listed).isEmpty
  | (i, false) :: r, listed => (i != last) && Region.free md ops listed i && (Region.ready md ops listed).contains i && chainGo md ops last r (listed.setIfInBounds i true)
  | (i, true) :: r, listed => (i != last) && (Region.ready md ops listed == [i]) && chainGo md ops last r (listed.setIfInBounds i true)
def chainOk (md : Region.Mode) (ops : Array Oper) (ord : List (Nat × Bool)) : Bool := Region.noSelect ops && decide (ord.length ≤ ops.size) && chainGo md ops ops.size ord (Array.replicate ops.size false)
def chainLastOk (md : Region.Mode) (ops : Array Oper) (ord : List (Nat × Bool)) : Bool := Region.noSelect ops && decide (ord.length + 1 ≤ ops.size) && chainGo md ops (ops.size - 1) ord (Array.replicate ops.size false) && lastOk md ops

theorem ChainL.plan {E : Act → World → Prop} {last k : Nat} (hk : last < ops.size → k = 1) (hE : ∀ a w, E a w → if last < ops.size then wpOp P ops Q last (Q .normal) a w else Q .normal a w) : ∀ (ord : List (Nat × Bool)) (listed : Array Bool) (a : Act) (w : World), chainGo md ops last ord listed = true → ChainL P ops E I ord a w → PlanC P md ops Q I last (ord.length + k) listed a w
  | [], listed, a, w, hc, h => by
    have h1 := hE _ _ h
    unfold chainGo at hc
    by_cases hl : last < ops.size
    · rw [if_pos hl] at hc h1
      simp only [Bool.and_eq_true, beq_iff_eq, List.isEmpty_iff] at hc
      obtain rfl := hk hl
      exact .stop hc.1 hc.2 h1
    · rw [if_neg hl] at hc h1
      exact .done (by simpa using hc) h1
  | (i, false) :: r, listed, a, w, hc, h => by
    obtain ⟨o, v, hi, hs, hr⟩ := h
    simp only [chainGo, Bool.and_eq_true, bne_iff_ne, ne_eq] at hc
    rw [List.length_cons, Nat.add_right_comm]
    exact .take i o v hi hc.1.1.1 hc.1.1.2 (by simpa using hc.1.2) hs (ChainL.plan hk hE r _ _ w hc.2 hr)
  | (i, true) :: r, listed, a, w, hc, h => by
    obtain ⟨o, hi, hs⟩ := h
    simp only [chainGo, Bool.and_eq_true, beq_iff_eq, bne_iff_ne, ne_eq] at hc
    rw [List.length_cons, Nat.add_right_comm]
    exact .step i o hi hc.1.1 hc.1.2 _ hs (fun v w' hK => hK.1) fun v w' hK => ChainL.plan hk hE r _ _ w' hc.2 hK.2

/-- THE LAW. -/
theorem wp_region_chain {id : Nat} {a : Act} {w : World} (I : World → Prop) (ord : List (Nat × Bool)) (hm : P.follows .mixedOrders = true) (hok : chainOk .any ops ord = true) (hI : I w.drew)
    (h : ChainL P ops (Q .normal) I ord a w.drew) : (Code.region id ops true).wp P Q a w := by
  refine wp_region_any hm ?_
  unfold chainOk at hok
  simp only [Bool.and_eq_true, decide_eq_true_eq] at hok
  exact PlanC.any alone_none (fun i o cs b hi => Region.noSelect_spec hok.1.1 i o cs b hi) ops.size (ord.length + 0) _ a w.drew (DC.none _) (by omega) hI
    (ChainL.plan (fun h => absurd h (Nat.lt_irrefl _)) (fun a w h => by rw [if_neg (Nat.lt_irrefl _)]; exact h) ord _ a _ hok.2 h)

/-- THE SAME where the last operation of the text waits for all others: I is not asked behind it. -/
theorem wp_region_chain_last {id : Nat} {a : Act} {w : World} (I : World → Prop) (ord : List (Nat × Bool)) (l : List Oper) (o : Oper) (hl0 : splitLast ops.toList = some (l, o)) (hg : o.guard = none) (hm : P.follows .mixedOrders = true) (hok : chainLastOk .any ops ord = true) (hI : I w.drew)
    (h : ChainL P ops (fun a w => o.wp P a w (Q .normal) Q) I ord a w.drew) : (Code.region id ops true).wp P Q a w := by
  refine wp_region_any hm ?_
  unfold chainLastOk at hok
  simp only [Bool.and_eq_true, decide_eq_true_eq] at hok
  have hlt : ops.size - 1 < ops.size := by omega
  have hl := splitLast_eq hl0
  have hn : ops.size = l.length + 1 := by
    have := congrArg List.length hl
    simpa using this
  have ho : ops[ops.size - 1]? = some o := by
    have : ops.toList[ops.size - 1]? = some o := by rw [hl, show ops.size - 1 = l.length by omega]; simp
    simpa using this
  have hw : ∀ y, Region.wanted o y = true := fun y => by unfold Region.wanted; rw [hg]
  exact PlanC.any (alone_last hok.2) (fun i o cs b hi => Region.noSelect_spec hok.1.1.1 i o cs b hi) ops.size (ord.length + 1) _ a w.drew (DC.none _) (by omega) hI
    (ChainL.plan (fun _ => rfl) (fun a w h => by rw [if_pos hlt]; unfold wpOp; simp only [ho]; rw [hw, if_pos rfl]; exact .inl h) ord _ a _ hok.1.2 h)

variable {E : Act → World → Prop} {i : Nat} {r : List (Nat × Bool)} {o : Oper} {a : Act} {w : World}
theorem ChainL.val {v : Value} (hi : ops[i]? = some o) (hns : ∀ cs b, o.op ≠ .select cs b) (hw : Region.wanted o (yielded ops a.tmps) = true) (h : ∀ w, I w → (execOp a.eval o).run P w = .ok (.value v) w)
    (hr : ChainL P ops E I r (a.put o.dst v) w) : ChainL P ops E I ((i, false) :: r) a w :=
  ⟨o, v, hi, fun a' w' hag hI => .inr ⟨by rw [wanted_agree o hag]; exact hw, by rw [exec_agree o hns hag]; exact h w' hI⟩, hr⟩
theorem ChainL.skip (hi : ops[i]? = some o) (hw : Region.wanted o (yielded ops a.tmps) = false) (hr : ChainL P ops E I r (a.put o.dst undef) w) : ChainL P ops E I ((i, false) :: r) a w :=
  ⟨o, undef, hi, fun a' w' hag hI => .inl ⟨by rw [wanted_agree o hag]; exact hw, rfl⟩, hr⟩
theorem ChainL.does {v : Value} {w1 : World} (hi : ops[i]? = some o) (hw : Region.wanted o (yielded ops a.tmps) = true) (h : (execOp a.eval o).run P w = .ok (.value v) w1) (hI : I w1)
    (hr : ChainL P ops E I r (a.put o.dst v) w1) : ChainL P ops E I ((i, true) :: r) a w :=
  ⟨o, hi, hw, .inl ⟨v, w1, h, hI, hr⟩⟩
theorem ChainL.call {f : FuncId} {args : Array Value} (hi : ops[i]? = some o) (hw : Region.wanted o (yielded ops a.tmps) = true) (he : (execOp a.eval o).run P w = .ok (.enter f args) w)
    (h : Calls P f args w fun e w' => ∃ v, e = .returned v ∧ I w' ∧ ChainL P ops E I r (a.put o.dst v) w') : ChainL P ops E I ((i, true) :: r) a w :=
  ⟨o, hi, hw, .inr (.inl ⟨f, args, w, he, h⟩)⟩
theorem ChainL.append (hi : ops[i]? = some o) (hw : Region.wanted o (yielded ops a.tmps) = true) (s x : Operand) (t : TypeId)
    (ho : o.op = .call { callee := .builtin .append, args := #[s, x], argTypes := #[t, t] })
    (base : Nat) (e : TypeId) (info : TypeInfo) (z : Value) (size bytes : Nat) (ht : P.underlying t = some (.slice e)) (hi' : P.info? e = some info) (hz : info.zero = some z)
    (hsize : info.size = size) (hby : info.bytes = bytes) (hzs : z.cells.size = size) (hsz : 0 < size)
    (v : Value) (n : Nat) (xs : List Value) (hs : a.eval s = v) (hown : w.ownsRow base e size v n xs)
    (B : Nat) (A : Option Addr) (m c : Nat) (news : List Value) (hx : a.eval x = .slice A m c) (hr : Lists w B A news) (hl : news.length = m * size) (h1 : ∀ u ∈ news, u.oneCell' = true)
    (h63 : n + m ≤ maxLen) (hbytes : (n + m) * bytes ≤ 140737488355328) (hbase : base ≤ w.heap.size)
    (h : ∀ v' w', w'.ownsRow base e size v' (n + m) (xs ++ news) → w.grownBy w' v.ownBlock → (v'.ownBlock = v.ownBlock ∨ v'.ownBlock = some w.heap.size) → I w' ∧ ChainL P ops E I r (a.put o.dst v') w') : ChainL P ops E I ((i, true) :: r) a w := by
  obtain ⟨v', w', hrun, h2, h3, h4⟩ := run_append_src (P := P) w base t o.type e info z size bytes ht hi' hz hsize hby hzs hsz v n xs hown B A m c news hr hl h1 h63 hbytes hbase
  refine ⟨o, hi, hw, .inl ⟨v', w', ?_, h v' w' h2 h3 h4⟩⟩
  unfold execOp
  simp only [ho, resolve, invoke, builtin, Sem.run_bind, Sem.run_pure, Result.andThen_ok, List.map_toArray, List.map_cons, List.map_nil, hs, hx, hrun]
theorem ChainL.store {w1 : World} (hi : ops[i]? = some o) (hw : Region.wanted o (yielded ops a.tmps) = true) (h : (execOp a.eval o).run P w = .ok .skip w1) (hI : I w1)
    (hr : ChainL P ops E I r (a.put o.dst undef) w1) : ChainL P ops E I ((i, true) :: r) a w :=
  ⟨o, hi, hw, .inr (.inr ⟨w1, h, hI, hr⟩)⟩
theorem ChainL.nil (h : E a w) : ChainL P ops E I [] a w := h
end

end Go.Proofs.Ytmckdeopljcdfaa

namespace Go.Proofs.Ytmckdeopljcdfaa
open Go Go.RowKit

/-- A byte's number. -/
def nb : Value → Nat
  | .int _ x => x.toNat
  | _ => 0
def byteAt (bs : List Value) (i : Nat) : Nat := nb (bs.getD i (.int .u8 0))
def rd2 (bs : List Value) (i : Nat) : Nat := byteAt bs i * 256 + byteAt bs (i + 1)
def rd4 (bs : List Value) (i : Nat) : Nat := ((byteAt bs i * 256 + byteAt bs (i + 1)) * 256 + byteAt bs (i + 2)) * 256 + byteAt bs (i + 3)
/-- A number of two bytes with its sign. -/
def s16 (x : Nat) : Int := if x < 32768 then (x : Int) else (x : Int) - 65536

theorem byteAt_lt {bs : List Value} (h : Bytes8 bs) (i : Nat) : byteAt bs i < 256 := by
  unfold byteAt
  rcases Nat.lt_or_ge i bs.length with hi | hi
  · obtain ⟨x, hx, he⟩ := h bs[i] (List.getElem_mem hi)
    rw [List.getD_eq_getElem?_getD, List.getElem?_eq_getElem hi, Option.getD_some, he]
    simp [nb]; exact hx
  · rw [List.getD_eq_getElem?_getD, List.getElem?_eq_none hi, Option.getD_none]
    simp [nb]
theorem byteAt_get {bs : List Value} (h : Bytes8 bs) {i : Nat} (hi : i < bs.length) : bs[i]? = some (.int .u8 (byteAt bs i : Nat)) := by
  obtain ⟨x, hx, he⟩ := h bs[i] (List.getElem_mem hi)
  rw [List.getElem?_eq_getElem hi, he]
  unfold byteAt
  rw [List.getD_eq_getElem?_getD, List.getElem?_eq_getElem hi, Option.getD_some, he]
  simp [nb]
theorem rd2_lt {bs : List Value} (h : Bytes8 bs) (i : Nat) : rd2 bs i < 65536 := by
  have := byteAt_lt h i; have := byteAt_lt h (i + 1); unfold rd2; omega
theorem rd4_lt {bs : List Value} (h : Bytes8 bs) (i : Nat) : rd4 bs i < 4294967296 := by
  have := byteAt_lt h i; have := byteAt_lt h (i + 1); have := byteAt_lt h (i + 2); have := byteAt_lt h (i + 3); unfold rd4; omega
theorem byteAt_append_left {a b : List Value} {i : Nat} (h : i < a.length) : byteAt (a ++ b) i = byteAt a i := by
  unfold byteAt; rw [List.getD_eq_getElem?_getD, List.getD_eq_getElem?_getD, List.getElem?_append_left h]
theorem byteAt_append_right {a b : List Value} (i : Nat) : byteAt (a ++ b) (a.length + i) = byteAt b i := by
  unfold byteAt; rw [List.getD_eq_getElem?_getD, List.getD_eq_getElem?_getD, List.getElem?_append_right (by omega)]; simp
theorem byteAt_take {a : List Value} {i n : Nat} (h : i < n) : byteAt (a.take n) i = byteAt a i := by
  unfold byteAt; rw [List.getD_eq_getElem?_getD, List.getD_eq_getElem?_getD, List.getElem?_take, if_pos h]
theorem rd2_take {a : List Value} {i n : Nat} (h : i + 1 < n) : rd2 (a.take n) i = rd2 a i := by
  unfold rd2; rw [byteAt_take (by omega), byteAt_take h]
theorem rd4_take {a : List Value} {i n : Nat} (h : i + 3 < n) : rd4 (a.take n) i = rd4 a i := by
  unfold rd4; rw [byteAt_take (by omega), byteAt_take (by omega), byteAt_take (by omega), byteAt_take h]
theorem rd2_right {a b : List Value} (i j : Nat) (h : j = a.length + i) : rd2 (a ++ b) j = rd2 b i := by
  subst h; unfold rd2; rw [byteAt_append_right, Nat.add_assoc, byteAt_append_right]
theorem rd4_right {a b : List Value} (i j : Nat) (h : j = a.length + i) : rd4 (a ++ b) j = rd4 b i := by
  subst h; unfold rd4; rw [byteAt_append_right, Nat.add_assoc, byteAt_append_right, Nat.add_assoc, byteAt_append_right, Nat.add_assoc, byteAt_append_right]
theorem rd2_be2 (x : Int) (b : List Value) : (rd2 (be2 x ++ b) 0 : Int) = x % 65536 := by
  have e : rd2 (be2 x ++ b) 0 = (x / 256 % 256).toNat * 256 + (x % 256).toNat := rfl
  rw [e]; omega
theorem rd4_be4 (x : Int) (b : List Value) : (rd4 (be4 x ++ b) 0 : Int) = x % 4294967296 := by
  have e : rd4 (be4 x ++ b) 0 = (((x / 16777216 % 256).toNat * 256 + (x / 65536 % 256).toNat) * 256 + (x / 256 % 256).toNat) * 256 + (x % 256).toNat := rfl
  rw [e]; omega
theorem s16_of (n : Nat) (x : Int) (h : (n : Int) = x % 65536) (h1 : -32768 ≤ x) (h2 : x ≤ 32767) : s16 n = x := by
  unfold s16; split <;> omega

/-- Where the numbers of glyph k begin, m glyphs having an advance. -/
def posM (m k : Nat) : Nat := 2 * min k m + 2 * k
def bearPos (m k : Nat) : Nat := posM m k + if k < m then 2 else 0
def advAt (bs : List Value) (m k : Nat) : Int := (rd2 bs (posM m k) : Nat)
def bearAt (bs : List Value) (m k : Nat) : Int := s16 (rd2 bs (bearPos m k))
/-- Glyph k's metric. -/
def metAt (bs : List Value) (m k : Nat) : Int × Int := (advAt bs m (min k (m - 1)), bearAt bs m k)
theorem posM_succ (m k : Nat) : posM m (k + 1) = bearPos m k + 2 := by unfold posM bearPos posM; split <;> omega

/-- The bytes of metrics. -/
def putM : List (Int × Int) → Nat → List Value
  | [], _ => []
  | (a, b) :: r, m + 1 => be2 a ++ be2 b ++ putM r m
  | (_, b) :: r, 0 => be2 b ++ putM r 0
theorem putM_snoc : ∀ (l : List (Int × Int)) (m : Nat) (a b : Int), putM (l ++ [(a, b)]) m = putM l m ++ (if l.length < m then be2 a ++ be2 b else be2 b)
  | [], 0, a, b => by simp [putM]
  | [], m + 1, a, b => by simp [putM]
  | (x, y) :: r, 0, a, b => by simp [putM, putM_snoc r 0 a b]
  | (x, y) :: r, m + 1, a, b => by simp [putM, putM_snoc r m a b]
theorem putM_len : ∀ (l : List (Int × Int)) (m : Nat), (putM l m).length = posM m l.length
  | [], _ => by simp [putM, posM]
  | (x, y) :: r, 0 => by simp [putM, putM_len r 0, be2, posM]; omega
  | (x, y) :: r, m + 1 => by simp [putM, putM_len r m, be2, posM]; omega
theorem putM_bytes : ∀ (l : List (Int × Int)) (m : Nat), Bytes8 (putM l m)
  | [], _ => fun _ h => (nomatch h)
  | (_, y) :: r, 0 => (be2_bytes y).append (putM_bytes r 0)
  | (x, y) :: r, m + 1 => ((be2_bytes x).append (be2_bytes y)).append (putM_bytes r m)

theorem putM_adv : ∀ (l : List (Int × Int)) (m k : Nat) (X : List Value) (a b : Int), l[k]? = some (a, b) → k < m → advAt (putM l m ++ X) m k = a % 65536
  | [], m, k, X, a, b, h, _ => by simp at h
  | (x, y) :: r, 0, k, X, a, b, h, hk => by omega
  | (x, y) :: r, m + 1, 0, X, a, b, h, _ => by
    simp at h
    obtain ⟨rfl, rfl⟩ := h
    unfold advAt
    rw [show posM (m + 1) 0 = 0 by simp [posM]]
    simp only [putM, List.append_assoc]
    exact rd2_be2 _ _
  | (x, y) :: r, m + 1, k + 1, X, a, b, h, hk => by
    have ih := putM_adv r m k X a b (by simpa using h) (by omega)
    unfold advAt at *
    simp only [putM, List.append_assoc]
    rw [← List.append_assoc, rd2_right (posM m k) _ (by simp [be2, posM]; omega)]
    exact ih
theorem putM_bear : ∀ (l : List (Int × Int)) (m k : Nat) (X : List Value) (a b : Int), l[k]? = some (a, b) → (rd2 (putM l m ++ X) (bearPos m k) : Int) = b % 65536
  | [], m, k, X, a, b, h => by simp at h
  | (x, y) :: r, 0, 0, X, a, b, h => by
    simp at h
    obtain ⟨rfl, rfl⟩ := h
    rw [show bearPos 0 0 = 0 by simp [bearPos, posM]]
    simp only [putM, List.append_assoc]
    exact rd2_be2 _ _
  | (x, y) :: r, m + 1, 0, X, a, b, h => by
    simp at h
    obtain ⟨rfl, rfl⟩ := h
    simp only [putM, List.append_assoc]
    rw [rd2_right 0 _ (by simp [bearPos, posM, be2])]
    exact rd2_be2 _ _
  | (x, y) :: r, 0, k + 1, X, a, b, h => by
    have ih := putM_bear r 0 k X a b (by simpa using h)
    simp only [putM, List.append_assoc]
    rw [rd2_right (bearPos 0 k) _ (by simp [be2, bearPos, posM]; omega)]
    exact ih
  | (x, y) :: r, m + 1, k + 1, X, a, b, h => by
    have ih := putM_bear r m k X a b (by simpa using h)
    simp only [putM, List.append_assoc]
    rw [← List.append_assoc, rd2_right (bearPos m k) _ (by simp only [be2, bearPos, posM, List.length_append, List.length_cons, List.length_nil]; split <;> split <;> omega)]
    exact ih

/-- Metrics that may be put: m have an advance of their own. -/
def okMet (q : Int × Int) : Bool := decide (0 ≤ q.1) && decide (q.1 ≤ 65535) && decide (-32768 ≤ q.2) && decide (q.2 ≤ 32767)
def lastAdv (l : List (Int × Int)) (m : Nat) : Int := (l.getD (m - 1) (0, 0)).1
def mayPut (l : List (Int × Int)) (m : Nat) : Bool := l.all okMet && (l.drop m).all fun q => q.1 == lastAdv l m
/-- What was put is read again. -/
theorem met_back (l : List (Int × Int)) (m k : Nat) (X : List Value) (q : Int × Int) (hm : 1 ≤ m) (hml : m ≤ l.length) (hp : mayPut l m = true) (hk : l[k]? = some q) : metAt (putM l m ++ X) m k = q := by
  obtain ⟨a, b⟩ := q
  unfold mayPut at hp
  rw [Bool.and_eq_true, List.all_eq_true, List.all_eq_true] at hp
  obtain ⟨h1, h2⟩ := hp
  have ok : ∀ j (p : Int × Int), l[j]? = some p → 0 ≤ p.1 ∧ p.1 ≤ 65535 ∧ -32768 ≤ p.2 ∧ p.2 ≤ 32767 := fun j p hj => by
    have := h1 p (List.mem_of_getElem? hj)
    simp only [okMet, Bool.and_eq_true, decide_eq_true_eq] at this
    omega
  have hb := ok k _ hk
  have e2 : bearAt (putM l m ++ X) m k = b := s16_of _ _ (putM_bear l m k X a b hk) hb.2.2.1 hb.2.2.2
  have e1 : advAt (putM l m ++ X) m (min k (m - 1)) = a := by
    rcases Nat.lt_or_ge k m with hkm | hkm
    · rw [show min k (m - 1) = k by omega, putM_adv l m k X a b hk hkm]
      simp only at hb; omega
    · rw [show min k (m - 1) = m - 1 by omega]
      obtain ⟨⟨a', b'⟩, hp'⟩ : ∃ p, l[m - 1]? = some p := ⟨l[m - 1]'(by omega), List.getElem?_eq_getElem _⟩
      rw [putM_adv l m (m - 1) X a' b' hp' (by omega)]
      have h3 := h2 (a, b) (List.mem_iff_getElem?.2 ⟨k - m, by rw [List.getElem?_drop, show m + (k - m) = k by omega]; exact hk⟩)
      unfold lastAdv at h3
      rw [List.getD_eq_getElem?_getD, hp', Option.getD_some] at h3
      have h3 : a = a' := by simpa using h3
      have := ok _ _ hp'
      simp only at this
      omega
  unfold metAt
  rw [e1, e2]

/-- Places as bytes. -/
def beP (long : Bool) (x : Int) : List Value := if long then be4 x else be2 (x / 2)
def putP (long : Bool) : List Int → List Value
  | [] => []
  | x :: r => beP long x ++ putP long r
def szP (long : Bool) : Nat := if long then 4 else 2
def offAt (long : Bool) (bs : List Value) (k : Nat) : Nat := if long then rd4 bs (k * 4) else 2 * rd2 bs (k * 2)
theorem beP_len (long : Bool) (x : Int) : (beP long x).length = szP long := by cases long <;> rfl
theorem beP_bytes (long : Bool) (x : Int) : Bytes8 (beP long x) := by
  cases long
  · exact be2_bytes _
  · exact be4_bytes _
theorem putP_snoc (long : Bool) (x : Int) : ∀ l, putP long (l ++ [x]) = putP long l ++ beP long x
  | [] => by simp [putP]
  | y :: r => by simp [putP, putP_snoc long x r]
theorem putP_len (long : Bool) : ∀ l, (putP long l).length = l.length * szP long
  | [] => by simp [putP]
  | y :: r => by simp only [putP, List.length_append, beP_len, putP_len long r, List.length_cons]; rw [Nat.succ_mul]; omega
theorem putP_bytes (long : Bool) : ∀ l, Bytes8 (putP long l)
  | [] => fun _ h => (nomatch h)
  | y :: r => (beP_bytes long y).append (putP_bytes long r)
def okOff (long : Bool) (x : Int) : Bool := long || (x % 2 == 0 && decide (x ≤ 131070))
/-- Offsets do not fall, are from last, and none above most. -/
def rises (most : Int) : Int → List Int → Bool
  | _, [] => true
  | last, x :: r => decide (last ≤ x) && decide (x ≤ most) && rises most x r
theorem rises_snoc (most : Int) : ∀ (last : Int) (l : List Int) (x : Int), rises most last (l ++ [x]) = (rises most last l && (decide (l.getLastD last ≤ x) && decide (x ≤ most)))
  | last, [], x => by simp [rises]
  | last, y :: r, x => by
    simp only [List.cons_append, rises, rises_snoc most y r x]
    rw [show (y :: r).getLastD last = r.getLastD y by cases r <;> simp [List.getLastD]]
    simp only [Bool.and_assoc]
theorem rises_ge (most : Int) : ∀ (l : List Int) (last : Int), rises most last l = true → ∀ x ∈ l, last ≤ x ∧ x ≤ most
  | [], _, _, x, hx => (nomatch hx)
  | y :: r, last, h, x, hx => by
    simp only [rises, Bool.and_eq_true, decide_eq_true_eq] at h
    rcases List.mem_cons.1 hx with rfl | hx
    · omega
    · have := rises_ge most r y h.2 x hx
      omega
theorem off_back (long : Bool) : ∀ (l : List Int) (k : Nat) (X : List Value) (x : Int), (∀ y ∈ l, 0 ≤ y ∧ y ≤ 1048576 ∧ okOff long y = true) → l[k]? = some x → (offAt long (putP long l ++ X) k : Int) = x
  | [], k, X, x, _, h => by simp at h
  | y :: r, 0, X, x, hl, h => by
    simp at h
    subst h
    have := hl y (by simp)
    cases long
    · simp only [offAt, putP, beP, List.append_assoc, okOff, Bool.false_or, Bool.and_eq_true, decide_eq_true_eq, beq_iff_eq] at *
      have e := rd2_be2 (y / 2) (putP false r ++ X)
      simp only [Bool.false_eq_true, if_false, Nat.zero_mul]
      omega
    · simp only [offAt, putP, beP, List.append_assoc] at *
      have e := rd4_be4 y (putP true r ++ X)
      simp only [if_true, Nat.zero_mul]
      omega
  | y :: r, k + 1, X, x, hl, h => by
    have ih := off_back long r k X x (fun z hz => hl z (by simp [hz])) (by simpa using h)
    rw [← ih]
    cases long
    · simp only [offAt, putP, List.append_assoc, Bool.false_eq_true, if_false]
      rw [rd2_right (k * 2) _ (by rw [beP_len]; simp only [szP, Bool.false_eq_true, if_false]; omega)]
    · simp only [offAt, putP, List.append_assoc, if_true]
      rw [rd4_right (k * 4) _ (by rw [beP_len]; simp only [szP, if_true]; omega)]

end Go.Proofs.Ytmckdeopljcdfaa

namespace Go.Proofs.Ytmckdeopljcdfaa
open Go Go.RowKit

variable {q : Nat → Prop}
theorem Rd.bytes {w : World} {p i : Nat} {bs : List Value} {bad : Bool} (h : Rd q w p bs i bad) : Bytes8 bs := by
  obtain ⟨_, _, _, _, h8, _⟩ := h
  exact h8
/-- A number was read: x; the reader stands at i. -/
def ReadN (q : Nat → Prop) (w : World) (p : Nat) (bs : List Value) (i : Nat) (x : Int) (e : Ending) (w' : World) : Prop := e = .returned (.int .i64 x) ∧ Rd q w' p bs i false ∧ Only w w' [p]
theorem rdNum2 (p : Nat) (bs : List Value) (i : Nat) (w : World) (h : Rd q w p bs i false) (hL : bs.length ≤ 4611686018427387904) (him : i + 2 ≤ bs.length) :
    Calls Try.prog 33 #[.pointer (some ⟨p, 0, none⟩), .int .i64 2] w (ReadN q w p bs (i + 2) (rd2 bs i : Nat)) :=
  number2_ok p bs i (byteAt bs i) (byteAt bs (i + 1)) w h hL him (byteAt_get h.bytes (by omega)) (byteAt_get h.bytes (by omega)) (byteAt_lt h.bytes _) (byteAt_lt h.bytes _)
theorem rdNum4 (p : Nat) (bs : List Value) (i : Nat) (w : World) (h : Rd q w p bs i false) (hL : bs.length ≤ 4611686018427387904) (him : i + 4 ≤ bs.length) :
    Calls Try.prog 33 #[.pointer (some ⟨p, 0, none⟩), .int .i64 4] w (ReadN q w p bs (i + 4) (rd4 bs i : Nat)) :=
  number4_ok p bs i (byteAt bs i) (byteAt bs (i + 1)) (byteAt bs (i + 2)) (byteAt bs (i + 3)) w h hL him (byteAt_get h.bytes (by omega)) (byteAt_get h.bytes (by omega)) (byteAt_get h.bytes (by omega)) (byteAt_get h.bytes (by omega)) (byteAt_lt h.bytes _) (byteAt_lt h.bytes _) (byteAt_lt h.bytes _) (byteAt_lt h.bytes _)
theorem rdU16 (p : Nat) (bs : List Value) (i : Nat) (w : World) (h : Rd q w p bs i false) (hL : bs.length ≤ 4611686018427387904) (him : i + 2 ≤ bs.length) :
    Calls Try.prog 19 #[.pointer (some ⟨p, 0, none⟩)] w (ReadN q w p bs (i + 2) (rd2 bs i : Nat)) := by
  have C := rdNum2 p bs i w h hL him
  clear h
  go_enter Try.func19, Try.ntmps19
  go_wp2_with (first | (go_at_call 33; ((refine C.mono ?_); rintro e w2 ⟨rfl, hr, o2⟩)))
  go_ret
  exact ⟨rfl, hr, o2⟩
theorem s16_wrap (x : Nat) (h : x < 65536) : wrap64 (IntKind.i16.wrap (x : Int)) = s16 x := by
  have e : IntKind.i16.wrap (x : Int) = s16 x := by
    unfold s16
    by_cases h1 : x < 32768
    · rw [if_pos h1]; exact IntWalk.i16_in _ (by omega)
    · rw [if_neg h1]
      have h2 : (x : Int) % 65536 = x := by omega
      simp only [IntKind.wrap, IntKind.bits, IntKind.signed, Bool.true_and]
      have h3 : (if decide ((x : Int) % 65536 ≥ 32768) = true then (x : Int) % 65536 - 65536 else (x : Int) % 65536) = (x : Int) - 65536 := by rw [h2, if_pos (by simp; omega)]
      exact h3
  rw [e]
  unfold wrap64 s16
  split <;> omega
end Go.Proofs.Ytmckdeopljcdfaa

namespace Go.Proofs.Ytmckdeopljcdfaa
open Go Go.RowKit

variable {q : Nat → Prop}
def RS (q : Nat → Prop) (w : World) (p : Nat) (bs : List Value) (k : Nat) : Prop := (k ≤ bs.length ∧ Rd q w p bs k false) ∨ (bs.length < k ∧ ∃ i, Rd q w p bs i true)
theorem RS.below {w w1 : World} {p k : Nat} {bs : List Value} (h : RS q w p bs k) (b : Below w.heap.size w w1) : RS q w1 p bs k :=
  h.imp (fun ⟨h1, h2⟩ => ⟨h1, h2.below b⟩) (fun ⟨h1, i, h2⟩ => ⟨h1, i, h2.below b⟩)
theorem RS.only {w w1 : World} {p k : Nat} {bs : List Value} {fp : List Nat} (h : RS q w p bs k) (o : Only w w1 fp) (hp : p ∉ fp) (hq : ∀ b ∈ fp, ¬ q b) : RS q w1 p bs k :=
  h.imp (fun ⟨h1, h2⟩ => ⟨h1, h2.only o hp hq⟩) (fun ⟨h1, i, h2⟩ => ⟨h1, i, h2.only o hp hq⟩)
theorem RS.bytes {w : World} {p k : Nat} {bs : List Value} (h : RS q w p bs k) : Bytes8 bs := h.elim (fun h => h.2.bytes) fun ⟨_, _, h⟩ => h.bytes

/-- The number of m bytes at k: 0 where they are not all there. -/
def rsn (bs : List Value) (m k : Nat) (x : Nat) : Nat := if k + m ≤ bs.length then x else 0
theorem rsn_lt {bs : List Value} {m k x B : Nat} (h : x < B) : rsn bs m k x < B := by unfold rsn; split <;> omega
/-- A number was read by a reader that may have come to its end. -/
def ReadS (q : Nat → Prop) (w : World) (p : Nat) (bs : List Value) (k : Nat) (x : Int) (e : Ending) (w' : World) : Prop := e = .returned (.int .i64 x) ∧ RS q w' p bs k ∧ Only w w' [p]

theorem rs_num (p : Nat) (bs : List Value) (k m x : Nat) (w : World) (h : RS q w p bs k) (hL : bs.length ≤ 4611686018427387904) (hm : 0 < m)
    (C : k + m ≤ bs.length → Rd q w p bs k false → Calls Try.prog 33 #[.pointer (some ⟨p, 0, none⟩), .int .i64 (m : Nat)] w fun e w' => e = .returned (.int .i64 (x : Nat)) ∧ Rd q w' p bs (k + m) false ∧ Only w w' [p]) :
    Calls Try.prog 33 #[.pointer (some ⟨p, 0, none⟩), .int .i64 (m : Nat)] w (ReadS q w p bs (k + m) (rsn bs m k x : Nat)) := by
  unfold rsn
  rcases h with ⟨h1, h2⟩ | ⟨h1, i, h2⟩
  · by_cases hk : k + m ≤ bs.length
    · rw [if_pos hk]
      exact (C hk h2).mono fun e w' ⟨a, b, c⟩ => ⟨a, .inl ⟨hk, b⟩, c⟩
    · rw [if_neg hk]
      exact (number_short p bs k (m : Nat) w h2 hL (.inr (by omega))).mono fun e w' ⟨a, b, c⟩ => ⟨a, .inr ⟨by omega, k, b⟩, c⟩
  · rw [if_neg (by omega)]
    exact (number_bad p bs i (m : Nat) w h2).mono fun e w' ⟨a, b⟩ => ⟨a, .inr ⟨by omega, i, b ▸ h2⟩, b ▸ Only.refl _ _⟩
theorem rsNum1 (p : Nat) (bs : List Value) (k : Nat) (w : World) (h : RS q w p bs k) (hL : bs.length ≤ 4611686018427387904) :
    Calls Try.prog 33 #[.pointer (some ⟨p, 0, none⟩), .int .i64 1] w (ReadS q w p bs (k + 1) (rsn bs 1 k (byteAt bs k) : Nat)) :=
  rs_num p bs k 1 _ w h hL (by decide) fun hk hR => number1_ok p bs k (byteAt bs k) w hR hL hk (byteAt_get hR.bytes (by omega)) (byteAt_lt hR.bytes _)
theorem rsNum2 (p : Nat) (bs : List Value) (k : Nat) (w : World) (h : RS q w p bs k) (hL : bs.length ≤ 4611686018427387904) :
    Calls Try.prog 33 #[.pointer (some ⟨p, 0, none⟩), .int .i64 2] w (ReadS q w p bs (k + 2) (rsn bs 2 k (rd2 bs k) : Nat)) :=
  rs_num p bs k 2 _ w h hL (by decide) fun hk hR => rdNum2 p bs k w hR hL hk
theorem rsNum4 (p : Nat) (bs : List Value) (k : Nat) (w : World) (h : RS q w p bs k) (hL : bs.length ≤ 4611686018427387904) :
    Calls Try.prog 33 #[.pointer (some ⟨p, 0, none⟩), .int .i64 4] w (ReadS q w p bs (k + 4) (rsn bs 4 k (rd4 bs k) : Nat)) :=
  rs_num p bs k 4 _ w h hL (by decide) fun hk hR => rdNum4 p bs k w hR hL hk

theorem rsU8 (p : Nat) (bs : List Value) (k : Nat) (w : World) (h : RS q w p bs k) (hL : bs.length ≤ 4611686018427387904) :
    Calls Try.prog 21 #[.pointer (some ⟨p, 0, none⟩)] w (ReadS q w p bs (k + 1) (rsn bs 1 k (byteAt bs k) : Nat)) := by
  have C := rsNum1 p bs k w h hL
  clear h
  go_enter Try.func21, Try.ntmps21
  go_wp2_with (first | (go_at_call 33; ((refine C.mono ?_); rintro e w2 ⟨rfl, hr, o2⟩)))
  go_ret
  exact ⟨rfl, hr, o2⟩
theorem rsU16 (p : Nat) (bs : List Value) (k : Nat) (w : World) (h : RS q w p bs k) (hL : bs.length ≤ 4611686018427387904) :
    Calls Try.prog 19 #[.pointer (some ⟨p, 0, none⟩)] w (ReadS q w p bs (k + 2) (rsn bs 2 k (rd2 bs k) : Nat)) := by
  have C := rsNum2 p bs k w h hL
  clear h
  go_enter Try.func19, Try.ntmps19
  go_wp2_with (first | (go_at_call 33; ((refine C.mono ?_); rintro e w2 ⟨rfl, hr, o2⟩)))
  go_ret
  exact ⟨rfl, hr, o2⟩
end Go.Proofs.Ytmckdeopljcdfaa
