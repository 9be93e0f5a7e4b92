/- Part 3 of the proof: Wr3, Wr4, Rd4, MetM, Rn, Rs, From, CmM, Flat. -/
import Derived.Outline
import Derived.LoopTactic
import Derived.Deep.RegionLaw
import Derived.WalkSpells
import Derived.Deep.MidRow
import Derived.Laws.ResultCell
import Derived.Laws.Rows
import Derived.Laws.Tables
import Derived.Laws.CopyOwn
import Derived.Test.YtekailhghjideaaCCm1

namespace Go.Proofs.Ytekailhghjideaa
open Go Go.RowKit

theorem lists_new (w : World) (cs : Array Value) (T : TypeId) (E : List Value) (h : ∀ (j : Nat) (u : Value), E[j]? = some u → cs[j]? = some u) : Lists (w.alloc (.cells cs T)) (w.alloc (.cells cs T)).heap.size (some ⟨w.heap.size, 0, none⟩) E :=
  ⟨fun ha => (nomatch ha), fun a ha j u hu => by
    cases ha
    rw [addr_plain, Nat.zero_add, World.cell?_alloc_new]
    exact h j u hu, fun a ha _ => by cases ha; simp⟩
theorem Put.alloc {w w' : World} {o : Obj} {p R : Nat} {F : Bool} {L E : List Value} {fp : List Nat} (h : Put (w.alloc o) w' p R F L fp E) : Put w w' p R F L fp E := by
  obtain ⟨fp', h1, h2, h3⟩ := h
  refine ⟨fp', h1, ((Only.refl w fp).alloc o).trans h2 (fun b hb => .inl hb), fun b hb => ?_⟩
  rcases h3 b hb with h | h
  · exact .inl h
  · right
    simp at h
    omega
theorem byte_of (x : Int) : ∃ n : Nat, n < 256 ∧ Value.int .u8 (x % 256) = .int .u8 (n : Int) := ⟨(x % 256).toNat, by omega, by congr 1; omega⟩
def be1 (x : Int) : List Value := [.int .u8 (x % 256)]
theorem be1_bytes (x : Int) : Bytes8 (be1 x) := by
  intro u hu
  simp only [be1, List.mem_cons, List.not_mem_nil, or_false] at hu
  subst hu
  all_goals exact byte_of _
set_option maxRecDepth 100000 in
theorem number1_any (p R : Nat) (F : Bool) (L : List Value) (fp : List Nat) (x : Int) (w : World) (hW : Wr w p R F L fp) (hR : R ≤ 1099511627776) :
    Calls Try.prog 53 #[.pointer (some ⟨p, 0, none⟩), .int .i64 x, .int .i64 1] w fun e w' => e = .returned (.pointer (some ⟨p, 0, none⟩)) ∧ Put w w' p R F L fp (be1 x) := by
  have hp : p < w.heap.size := by
    obtain ⟨_, _, _, _, hb, _⟩ := hW
    exact hb.lt
  have C := fun cs => data_any p R F L fp (some ⟨w.heap.size, 0, none⟩) 1 4 (w.alloc (.cells cs 103)).heap.size (be1 x) (w.alloc (.cells cs 103)) (hW.only ((Only.refl w []).alloc _) (fun _ _ h => (nomatch h))) hR
  have C1 := C #[.int .u8 (x % 256), .int .u8 0, .int .u8 0, .int .u8 0] (lists_new w _ _ _ (fun j u hu => by
    unfold be1 at hu
    match j, hu with
    | 0, hu => exact (by simpa using hu)
    | j + 1, hu => simp at hu)) rfl (Nat.le_refl _) (be1_bytes x) (fun a ha _ => by cases ha; simp; omega)
  clear C hW hR
  go_enter Try.func53, Try.ntmps53
  go_wp2
  refine wp_loop_rounds 2 ?_
  rw [rounds_succ]
  go_wp2
  rw [rounds_succ]
  go_wp2_with (first | (go_at_call 29; ((with_reducible refine (C1).mono ?_); rintro e w1 ⟨rfl, hq⟩)))
  go_ret
  exact ⟨rfl, hq.alloc⟩

def be2 (x : Int) : List Value := [.int .u8 (x / 256 % 256), .int .u8 (x % 256)]
theorem be2_bytes (x : Int) : Bytes8 (be2 x) := by
  intro u hu
  simp only [be2, List.mem_cons, List.not_mem_nil, or_false] at hu
  rcases hu with rfl | rfl
  all_goals exact byte_of _
set_option maxRecDepth 100000 in
theorem number2_any (p R : Nat) (F : Bool) (L : List Value) (fp : List Nat) (x : Int) (w : World) (hW : Wr w p R F L fp) (hR : R ≤ 1099511627776) :
    Calls Try.prog 53 #[.pointer (some ⟨p, 0, none⟩), .int .i64 x, .int .i64 2] w fun e w' => e = .returned (.pointer (some ⟨p, 0, none⟩)) ∧ Put w w' p R F L fp (be2 x) := by
  have hp : p < w.heap.size := by
    obtain ⟨_, _, _, _, hb, _⟩ := hW
    exact hb.lt
  have C := fun cs => data_any p R F L fp (some ⟨w.heap.size, 0, none⟩) 2 4 (w.alloc (.cells cs 103)).heap.size (be2 x) (w.alloc (.cells cs 103)) (hW.only ((Only.refl w []).alloc _) (fun _ _ h => (nomatch h))) hR
  have C1 := C #[.int .u8 (x / 256 % 256), .int .u8 (x % 256), .int .u8 0, .int .u8 0] (lists_new w _ _ _ (fun j u hu => by
    unfold be2 at hu
    match j, hu with
    | 0, hu => exact (by simpa using hu)
    | 1, hu => exact (by simpa using hu)
    | j + 2, hu => simp at hu)) rfl (Nat.le_refl _) (be2_bytes x) (fun a ha _ => by cases ha; simp; omega)
  clear C hW hR
  go_enter Try.func53, Try.ntmps53
  go_wp2
  refine wp_loop_rounds 3 ?_
  rw [rounds_succ]
  go_wp2
  rw [rounds_succ]
  go_wp2
  rw [rounds_succ]
  go_wp2_with (first | (go_at_call 29; ((with_reducible refine (C1).mono ?_); rintro e w1 ⟨rfl, hq⟩)))
  go_ret
  exact ⟨rfl, hq.alloc⟩

def be4 (x : Int) : List Value := [.int .u8 (x / 16777216 % 256), .int .u8 (x / 65536 % 256), .int .u8 (x / 256 % 256), .int .u8 (x % 256)]
theorem be4_bytes (x : Int) : Bytes8 (be4 x) := by
  intro u hu
  simp only [be4, List.mem_cons, List.not_mem_nil, or_false] at hu
  rcases hu with rfl | rfl | rfl | rfl
  all_goals exact byte_of _
set_option maxRecDepth 100000 in
theorem number4_any (p R : Nat) (F : Bool) (L : List Value) (fp : List Nat) (x : Int) (w : World) (hW : Wr w p R F L fp) (hR : R ≤ 1099511627776) :
    Calls Try.prog 53 #[.pointer (some ⟨p, 0, none⟩), .int .i64 x, .int .i64 4] w fun e w' => e = .returned (.pointer (some ⟨p, 0, none⟩)) ∧ Put w w' p R F L fp (be4 x) := by
  have hp : p < w.heap.size := by
    obtain ⟨_, _, _, _, hb, _⟩ := hW
    exact hb.lt
  have C := fun cs => data_any p R F L fp (some ⟨w.heap.size, 0, none⟩) 4 4 (w.alloc (.cells cs 103)).heap.size (be4 x) (w.alloc (.cells cs 103)) (hW.only ((Only.refl w []).alloc _) (fun _ _ h => (nomatch h))) hR
  have C1 := C #[.int .u8 (x / 16777216 % 256), .int .u8 (x / 65536 % 256), .int .u8 (x / 256 % 256), .int .u8 (x % 256)] (lists_new w _ _ _ (fun j u hu => by
    unfold be4 at hu
    exact (by simpa using hu)
)) rfl (Nat.le_refl _) (be4_bytes x) (fun a ha _ => by cases ha; simp; omega)
  clear C hW hR
  go_enter Try.func53, Try.ntmps53
  go_wp2
  refine wp_loop_rounds 5 ?_
  rw [rounds_succ]
  go_wp2
  rw [rounds_succ]
  go_wp2
  rw [rounds_succ]
  go_wp2
  rw [rounds_succ]
  go_wp2
  rw [rounds_succ]
  go_wp2_with (first | (go_at_call 29; ((with_reducible refine (C1).mono ?_); rintro e w1 ⟨rfl, hq⟩)))
  go_ret
  exact ⟨rfl, hq.alloc⟩

theorem wU8_any (p R : Nat) (F : Bool) (L : List Value) (fp : List Nat) (x : Int) (w : World) (hW : Wr w p R F L fp) (hR : R ≤ 1099511627776) :
    Calls Try.prog 56 #[.pointer (some ⟨p, 0, none⟩), .int .i64 x] w fun e w' => e = .returned (.pointer (some ⟨p, 0, none⟩)) ∧ Put w w' p R F L fp (be1 x) := by
  have C := number1_any p R F L fp x w hW hR
  clear hW hR
  go_enter Try.func56, Try.ntmps56
  go_wp2_with (first | (go_at_call 53; ((with_reducible refine (C).mono ?_); rintro e w1 ⟨rfl, hq⟩)))
  go_ret
  exact ⟨rfl, hq⟩
theorem wU16_any (p R : Nat) (F : Bool) (L : List Value) (fp : List Nat) (x : Int) (w : World) (hW : Wr w p R F L fp) (hR : R ≤ 1099511627776) :
    Calls Try.prog 55 #[.pointer (some ⟨p, 0, none⟩), .int .i64 x] w fun e w' => e = .returned (.pointer (some ⟨p, 0, none⟩)) ∧ Put w w' p R F L fp (be2 x) := by
  have C := number2_any p R F L fp x w hW hR
  clear hW hR
  go_enter Try.func55, Try.ntmps55
  go_wp2_with (first | (go_at_call 53; ((with_reducible refine (C).mono ?_); rintro e w1 ⟨rfl, hq⟩)))
  go_ret
  exact ⟨rfl, hq⟩
theorem wI16_any (p R : Nat) (F : Bool) (L : List Value) (fp : List Nat) (x : Int) (w : World) (hW : Wr w p R F L fp) (hR : R ≤ 1099511627776) :
    Calls Try.prog 28 #[.pointer (some ⟨p, 0, none⟩), .int .i64 x] w fun e w' => e = .returned (.pointer (some ⟨p, 0, none⟩)) ∧ Put w w' p R F L fp (be2 x) := by
  have C := number2_any p R F L fp x w hW hR
  clear hW hR
  go_enter Try.func28, Try.ntmps28
  go_wp2_with (first | (go_at_call 53; ((with_reducible refine (C).mono ?_); rintro e w1 ⟨rfl, hq⟩)))
  go_ret
  exact ⟨rfl, hq⟩

/-- A new writer with room R was answered. -/
def Made (w : World) (R : Nat) (e : Ending) (w' : World) : Prop := ∃ p fp, e = .returned (.pointer (some ⟨p, 0, none⟩)) ∧ Wr w' p R false [] fp ∧ Below w.heap.size w w' ∧ (∀ b ∈ fp, w.heap.size ≤ b)

theorem to_any (r : Int) (w : World) :
    Calls Try.prog 27 #[.int .i64 r] w fun e w' => Made w r.toNat e w' := by
  have own0 : ∀ (w : World) (e : TypeId) (n : Nat), w.ownsRow 0 e n (.slice none 0 0) 0 [] := fun w e n => ⟨by simp, .inl ⟨rfl, rfl⟩⟩
  have fin : ∀ v : Int, v = (r.toNat : Int) → Wr (w.alloc (.cells #[.int .i64 v, .bool false, .slice none 0 0, .slice none 0 0, .int .i64 0] 87)) w.heap.size r.toNat false [] [w.heap.size] := fun v hv => by
    rw [hv]
    exact ⟨[], [], .slice none 0 0, .slice none 0 0, Blk.new w _ _, own0 _ _ _, own0 _ _ _, Nat.le_refl _, (fun _ hu => (nomatch hu)), rfl, Nat.zero_le _, rfl⟩
  by_cases h : 0 ≤ r
  · have fin := fin r (by omega)
    go_enter Try.func27, Try.ntmps27
    go_wp2
    go_ret
    exact ⟨w.heap.size, [w.heap.size], rfl, fin, (Below.refl _ _).alloc (Nat.le_refl _) _, by simp⟩
  · have fin := fin 0 (by omega)
    have h' : r ≤ 0 := by omega
    go_enter Try.func27, Try.ntmps27
    go_wp2
    go_ret
    exact ⟨w.heap.size, [w.heap.size], rfl, fin, (Below.refl _ _).alloc (Nat.le_refl _) _, by simp⟩

end Go.Proofs.Ytekailhghjideaa

namespace Go.Proofs.Ytekailhghjideaa
open Go Go.RowKit

theorem step_append_src {P : Program} {w : World} {ops : Array Oper} {o : Oper} {a : Act} {K : Act → World → Prop} {Q : Exit → Act → World → Prop} {X : Prop} (hgd : o.guard = none) (s x : Operand) (t : TypeId)
    (ho : o.op = .call { callee := .builtin .append, args := #[s, x], argTypes := #[t, t] })
    (base : Nat) (e : TypeId) (i : TypeInfo) (z : Value) (size bytes : Nat) (ht : P.underlying t = some (.slice e)) (hi : P.info? e = some i) (hz : i.zero = some z)
    (hsize : i.size = size) (hby : i.bytes = bytes) (hzs : z.cells.size = size) (hsz : 0 < size)
    (v : Value) (n : Nat) (xs : List Value) (hs : a.eval s = v) (hown : w.ownsRow base e size v n xs)
    (B : Nat) (A : Option Addr) (m c : Nat) (news : List Value) (hx : a.eval x = .slice A m c) (hr : Lists w B A news) (hl : news.length = m * size) (h1 : ∀ u ∈ news, u.oneCell' = true)
    (h63 : n + m ≤ maxLen) (hbytes : (n + m) * bytes ≤ 140737488355328) (hbase : base ≤ w.heap.size)
    (h : ∀ v' w', w'.ownsRow base e size v' (n + m) (xs ++ news) → w.grownBy w' v.ownBlock → (v'.ownBlock = v.ownBlock ∨ v'.ownBlock = some w.heap.size) → K (a.put o.dst v') w') :
    if Region.wanted o (yielded ops a.tmps) = true then Oper.wp P o a w K Q else X := by
  rw [if_pos (by simp [Region.wanted, hgd])]
  exact wp_append_src w s x t ho base e i z size bytes ht hi hz hsize hby hzs hsz v n xs hs hown B A m c news hx hr hl h1 h63 hbytes hbase h

/-- How many zeros a pad to n wants. -/
def padN (l : Nat) (n : Int) : Nat := if n < 1 then 0 else if (l : Int) % n = 0 then 0 else (n - (l : Int) % n).toNat

theorem Put.nothing {w w' : World} {p R : Nat} {F : Bool} {L : List Value} {fp : List Nat} (hW : Wr w p R F L fp) (hb : Below w.heap.size w w') : Put w w' p R F L fp [] := by
  have hL : L.length ≤ R := by
    obtain ⟨_, _, _, _, _, _, _, _, _, _, h, _⟩ := hW
    exact h
  have hf : putF R F L [] = F := by
    unfold putF
    rw [show decide (R < L.length + ([] : List Value).length) = false by simp; omega]
    simp
  refine ⟨fp, ?_, Only.of_below hb fp, fun b h => .inl h⟩
  unfold putL
  rw [hf]
  have := hW.only (Only.of_below hb []) (fun _ _ h => (nomatch h))
  cases F
  · rw [if_neg (by simp), List.append_nil]; exact this
  · rw [if_pos rfl]; exact this
theorem Put.before {w w1 w' : World} {p R : Nat} {F : Bool} {L E : List Value} {fp : List Nat} (hb : Below w.heap.size w w1) (h : Put w1 w' p R F L fp E) : Put w w' p R F L fp E := by
  obtain ⟨fp', h1, h2, h3⟩ := h
  exact ⟨fp', h1, (Only.of_below hb fp).trans h2 (fun b hb => .inl hb), fun b hm => (h3 b hm).imp id (fun h => Nat.le_trans hb.size h)⟩

theorem pad_done {w w2 w3 w4 : World} {p R : Nat} {L D : List Value} {fp : List Nat} {G : List (Nat × Nat)} {dv gv v4 : Value} {z H : Nat} (hb : Blk w p 87 #[.int .i64 (R : Nat), .bool false, dv, gv, .int .i64 (gapSum G : Nat)]) (hD : w.ownsRow 0 5 1 dv D.length D) (hG : w.ownsRow 0 94 2 gv G.length (gapCells G))
    (k1 : GapsOk 0 G D.length) (k2 : Bytes8 D) (k3 : L = expand D 0 G) (k5 : fp = p :: (blk dv ++ blk gv)) (hf : putF R false L (List.replicate z zero8) = false) (hx : L.length + z ≤ R) (hz1 : 1 ≤ z)
    (b2 : Below w.heap.size w w2) (o3 : Only w2 w3 [p]) (o4 : Only w3 w4 (blk gv)) (hb4 : Blk w4 p 87 #[.int .i64 (R : Nat), .bool false, dv, gv, .int .i64 (gapSum G : Nat)])
    (hown : w4.ownsRow 0 94 2 v4 (G.length + 1) (gapCells G ++ [.int .i64 (D.length : Nat), .int .i64 (z : Nat)])) (hat : v4.ownBlock = gv.ownBlock ∨ v4.ownBlock = some H) (hH : w3.heap.size ≤ H) (s : Int) (hs : s = (gapSum G : Int) + z) :
    Put w ((w4.setCell ⟨p, 3, none⟩ v4).setCell ⟨p, 4, none⟩ (.int .i64 s)) p R false L fp (List.replicate z zero8) := by
  have n1 := own_ne hG hb (by decide)
  have n2 := own_ne hD hb (by decide)
  have n3 := own_own hD hG (by decide)
  have n4 := own_ne hown hb4 (by decide)
  have o1 : Only w w3 [p] := (Only.of_below b2 [p]).trans o3 (fun b hb => .inl hb)
  have o5 : Only w4 ((w4.setCell ⟨p, 3, none⟩ v4).setCell ⟨p, 4, none⟩ (.int .i64 s)) [p] := ((Only.refl _ _).set (.inl (by simp)) _).set (.inl (by simp)) _
  refine ⟨p :: (blk dv ++ blk v4), ?_, ?_, ?_⟩
  · unfold putL
    rw [hf, if_neg (by simp)]
    refine ⟨D, G ++ [(D.length, z)], dv, v4, ?_, own_only (own_only (own_only hD o1 (fun b hm e => by simp at e; subst e; exact n2 hm)) o4 (fun b hm e => n3 b hm e)) o5 (fun b hm e => by simp at e; subst e; exact n2 hm), ?_, k1.snoc hz1, k2, ?_, ?_, rfl⟩
    · have := (hb4.set 3 v4).set 4 (.int .i64 s)
      rw [show ((gapSum (G ++ [(D.length, z)]) : Nat) : Int) = s by rw [hs]; simp [gapSum]]
      exact this
    · rw [gapCells_snoc, show (G ++ [(D.length, z)]).length = G.length + 1 by simp]
      exact own_only hown o5 (fun b hm e => by simp at e; subst e; exact n4 hm)
    · rw [expand_gap D z G 0 k1, ← k3]
    · rw [List.length_append, List.length_replicate]; exact hx
  · subst k5
    exact ((o1.more (fun b hm => by simp at hm; subst hm; simp)).trans o4 (fun b hm => .inl (by simp [hm]))).trans o5 (fun b hm => by simp at hm; subst hm; simp)
  · intro b hm
    subst k5
    rcases List.mem_cons.1 hm with rfl | hm
    · exact .inl (by simp)
    · rcases List.mem_append.1 hm with hm | hm
      · exact .inl (by simp [hm])
      · rcases hat with e | e
        · left
          have : b ∈ blk gv := by unfold blk at hm ⊢; rw [← e]; exact hm
          simp [this]
        · right
          have : b = H := by unfold blk at hm; rw [e] at hm; simpa using hm
          have := o1.size
          omega

end Go.Proofs.Ytekailhghjideaa

namespace Go.Proofs.Ytekailhghjideaa
open Go Go.RowKit
variable {q : Nat → Prop}

/-- A copy in new memory. -/
def GaveClone (w : World) (E : List Value) (e : Ending) (w' : World) : Prop := ∃ A c, e = .returned (.slice A E.length c) ∧ Lists w' w'.heap.size A E ∧ E.length ≤ c ∧ c ≤ 9223372036854775807 ∧ Below w.heap.size w w' ∧ (∀ a, A = some a → w.heap.size ≤ a.block)

set_option maxRecDepth 100000 in
theorem clone_any (A : Option Addr) (n c : Nat) (E : List Value) (w : World) (hE : Lists w w.heap.size A E) (hn : E.length = n) (h8 : Bytes8 E) (hm : n ≤ 140737488355328) :
    Calls Try.prog 42 #[.slice A n c] w fun e w' => GaveClone w E e w' := by
  have q1 := fun w => Lib.run_eql_slice_nil (P := Try.prog) w 22 5 A n c 0 0 Try.underlying22
  cases A with
  | none =>
    obtain rfl : E = [] := hE.nil rfl
    obtain rfl : n = 0 := hn.symm
    have hq : GaveClone w [] (.returned (.slice none 0 0)) w := ⟨none, 0, rfl, Lists.empty _ _ _, Nat.le_refl _, by omega, Below.refl _ _, fun a h => (nomatch h)⟩
    go_enter Try.func42, Try.ntmps42
    go_wp2
    all_goals go_ret
    all_goals exact hq
  | some a =>
    obtain ⟨i0, hi, hz0, hz1, hz2⟩ := info_parts u8Info
    have HN := Lib.hid hn
    clear hn
    go_enter Try.func42, Try.ntmps42
    go_wp2_with (first | (at_builtin; refine wpList_append_src _ rfl (.tmp 5) (.tmp 6) 22 rfl w.heap.size 5 i0 (.int .u8 0) 1 1 Try.underlying22 hi hz0 hz1 hz2 rfl (by decide) (.slice (some ⟨w.heap.size, 0, none⟩) 0 0) 0 [] rfl ⟨rfl, .inr ⟨w.heap.size, 0, #[], rfl, Nat.le_refl _, heap_alloc_new w _, Nat.le_refl _, Nat.zero_le _, rfl, rfl⟩⟩ w.heap.size (some a) n c E rfl (hE.alloc (Nat.le_refl _) _) (by rw [HN.out, Nat.mul_one]) h8.one (by simp only [maxLen]; omega) (by omega) (by simp) ?_; intro v1 w1 hown hg hat; rw [Nat.zero_add, List.nil_append] at hown))
    go_ret
    have hb : Below w.heap.size w w1 := ((Below.refl _ _).alloc (Nat.le_refl _) _).grown hg (by simp) (fun j hj => by cases hj; exact Nat.le_refl _)
    obtain ⟨A2, c2, hv, hl, hc2⟩ := own_lists hown
    have hcm : c2 ≤ maxLen := by
      rcases hown.2 with ⟨h, _⟩ | ⟨g, cap, cur, h, _, _, _, h7, _⟩
      · rw [hv] at h; injection h with _ _ h; omega
      · rw [hv] at h; injection h with _ _ h; omega
    have hlow : ∀ a, A2 = some a → w.heap.size ≤ a.block := by
      rcases hown.2 with ⟨h, _⟩ | ⟨g, cap, cur, h, h1, _⟩
      · rw [hv] at h; injection h with h; intro a ha; rw [h] at ha; cases ha
      · rw [hv] at h; injection h with h; intro a ha; rw [h] at ha; cases ha; exact h1
    unfold maxLen at hcm
    exact ⟨A2, c2, by rw [HN.out]; exact congrArg _ hv, hl, by rw [HN.out]; exact hc2, by omega, hb, hlow⟩

/-- A new reader was answered. -/
def MadeRd (w : World) (E : List Value) (e : Ending) (w' : World) : Prop := ∃ p, e = .returned (.pointer (some ⟨p, 0, none⟩)) ∧ Rd (fun b => w.heap.size ≤ b ∧ b < w'.heap.size) w' p E 0 false ∧ Below w.heap.size w w' ∧ w.heap.size ≤ p

theorem new_any (A : Option Addr) (n c : Nat) (E : List Value) (w : World) (hE : Lists w w.heap.size A E) (hn : E.length = n) (h8 : Bytes8 E) (hm : n ≤ 140737488355328) :
    Calls Try.prog 17 #[.slice A n c] w fun e w' => MadeRd w E e w' := by
  have C := clone_any A n c E w hE hn h8 hm
  clear hE hn
  go_enter Try.func17, Try.ntmps17
  go_wp2_with (first | (go_at_call 42; ((refine C.mono ?_); rintro e w1 ⟨A1, c1, rfl, hl, hc, hc2, hb, hlow⟩)))
  go_ret
  refine ⟨w1.heap.size, rfl, ⟨A1, c1, Blk.new w1 _ _, (hl.alloc (Nat.le_refl _) _).more (by simp), h8, Nat.zero_le _, hc, hc2, fun a ha hx => ?_⟩, hb.alloc hb.size _, hb.size⟩
  have := hl.lt a ha hx
  exact ⟨by omega, hlow a ha, by simp <;> omega⟩

theorem rU16_ok (p : Nat) (bs : List Value) (i x0 x1 : Nat) (w : World) (h : Rd q w p bs i false) (hL : bs.length ≤ 4611686018427387904) (him : i + 2 ≤ bs.length) (h0 : bs[i]? = some (.int .u8 (x0 : Nat))) (h1 : bs[i + 1]? = some (.int .u8 (x1 : Nat))) (l0 : x0 < 256) (l1 : x1 < 256) :
    Calls Try.prog 20 #[.pointer (some ⟨p, 0, none⟩)] w fun e w' => e = .returned (.int .i64 (x0 * 256 + x1 : Nat)) ∧ Rd q w' p bs (i + 2) false ∧ Only w w' [p] := by
  have C := number2_ok p bs i x0 x1 w h hL him h0 h1 l0 l1
  clear h h0 h1
  go_enter Try.func20, Try.ntmps20
  go_wp2_with (first | (go_at_call 43; ((refine C.mono ?_); rintro e w2 ⟨rfl, hr, o2⟩)))
  go_ret
  exact ⟨rfl, hr, o2⟩
theorem rU16_short (p : Nat) (bs : List Value) (i : Nat) (w : World) (h : Rd q w p bs i false) (hL : bs.length ≤ 4611686018427387904) (him : bs.length - i < 2) :
    Calls Try.prog 20 #[.pointer (some ⟨p, 0, none⟩)] w fun e w' => e = .returned (.int .i64 0) ∧ Rd q w' p bs i true ∧ Only w w' [p] := by
  have C := number_short p bs i 2 w h hL (.inr (by omega))
  clear h
  go_enter Try.func20, Try.ntmps20
  go_wp2_with (first | (go_at_call 43; ((refine C.mono ?_); rintro e w2 ⟨rfl, hr, o2⟩)))
  go_ret
  exact ⟨rfl, hr, o2⟩

end Go.Proofs.Ytekailhghjideaa

namespace Go.Proofs.Ytekailhghjideaa
open Go Go.RowKit

/-- A byte's number. -/
def nb : Value → Nat
  | .int _ x => x.toNat
  | _ => 0
def byteAt (bs : List Value) (i : Nat) : Nat := nb (bs.getD i (.int .u8 0))
def rd2 (bs : List Value) (i : Nat) : Nat := byteAt bs i * 256 + byteAt bs (i + 1)
def rd4 (bs : List Value) (i : Nat) : Nat := ((byteAt bs i * 256 + byteAt bs (i + 1)) * 256 + byteAt bs (i + 2)) * 256 + byteAt bs (i + 3)
/-- A number of two bytes with its sign. -/
def s16 (x : Nat) : Int := if x < 32768 then (x : Int) else (x : Int) - 65536

theorem byteAt_lt {bs : List Value} (h : Bytes8 bs) (i : Nat) : byteAt bs i < 256 := by
  unfold byteAt
  rcases Nat.lt_or_ge i bs.length with hi | hi
  · obtain ⟨x, hx, he⟩ := h bs[i] (List.getElem_mem hi)
    rw [List.getD_eq_getElem?_getD, List.getElem?_eq_getElem hi, Option.getD_some, he]
    simp [nb]; exact hx
  · rw [List.getD_eq_getElem?_getD, List.getElem?_eq_none hi, Option.getD_none]
    simp [nb]
theorem byteAt_get {bs : List Value} (h : Bytes8 bs) {i : Nat} (hi : i < bs.length) : bs[i]? = some (.int .u8 (byteAt bs i : Nat)) := by
  obtain ⟨x, hx, he⟩ := h bs[i] (List.getElem_mem hi)
  rw [List.getElem?_eq_getElem hi, he]
  unfold byteAt
  rw [List.getD_eq_getElem?_getD, List.getElem?_eq_getElem hi, Option.getD_some, he]
  simp [nb]
theorem rd2_lt {bs : List Value} (h : Bytes8 bs) (i : Nat) : rd2 bs i < 65536 := by
  have := byteAt_lt h i; have := byteAt_lt h (i + 1); unfold rd2; omega
theorem rd4_lt {bs : List Value} (h : Bytes8 bs) (i : Nat) : rd4 bs i < 4294967296 := by
  have := byteAt_lt h i; have := byteAt_lt h (i + 1); have := byteAt_lt h (i + 2); have := byteAt_lt h (i + 3); unfold rd4; omega
theorem byteAt_append_left {a b : List Value} {i : Nat} (h : i < a.length) : byteAt (a ++ b) i = byteAt a i := by
  unfold byteAt; rw [List.getD_eq_getElem?_getD, List.getD_eq_getElem?_getD, List.getElem?_append_left h]
theorem byteAt_append_right {a b : List Value} (i : Nat) : byteAt (a ++ b) (a.length + i) = byteAt b i := by
  unfold byteAt; rw [List.getD_eq_getElem?_getD, List.getD_eq_getElem?_getD, List.getElem?_append_right (by omega)]; simp
theorem byteAt_take {a : List Value} {i n : Nat} (h : i < n) : byteAt (a.take n) i = byteAt a i := by
  unfold byteAt; rw [List.getD_eq_getElem?_getD, List.getD_eq_getElem?_getD, List.getElem?_take, if_pos h]
theorem rd2_take {a : List Value} {i n : Nat} (h : i + 1 < n) : rd2 (a.take n) i = rd2 a i := by
  unfold rd2; rw [byteAt_take (by omega), byteAt_take h]
theorem rd4_take {a : List Value} {i n : Nat} (h : i + 3 < n) : rd4 (a.take n) i = rd4 a i := by
  unfold rd4; rw [byteAt_take (by omega), byteAt_take (by omega), byteAt_take (by omega), byteAt_take h]
theorem rd2_right {a b : List Value} (i j : Nat) (h : j = a.length + i) : rd2 (a ++ b) j = rd2 b i := by
  subst h; unfold rd2; rw [byteAt_append_right, Nat.add_assoc, byteAt_append_right]
theorem rd4_right {a b : List Value} (i j : Nat) (h : j = a.length + i) : rd4 (a ++ b) j = rd4 b i := by
  subst h; unfold rd4; rw [byteAt_append_right, Nat.add_assoc, byteAt_append_right, Nat.add_assoc, byteAt_append_right, Nat.add_assoc, byteAt_append_right]
theorem rd2_be2 (x : Int) (b : List Value) : (rd2 (be2 x ++ b) 0 : Int) = x % 65536 := by
  have e : rd2 (be2 x ++ b) 0 = (x / 256 % 256).toNat * 256 + (x % 256).toNat := rfl
  rw [e]; omega
theorem rd4_be4 (x : Int) (b : List Value) : (rd4 (be4 x ++ b) 0 : Int) = x % 4294967296 := by
  have e : rd4 (be4 x ++ b) 0 = (((x / 16777216 % 256).toNat * 256 + (x / 65536 % 256).toNat) * 256 + (x / 256 % 256).toNat) * 256 + (x % 256).toNat := rfl
  rw [e]; omega
theorem s16_of (n : Nat) (x : Int) (h : (n : Int) = x % 65536) (h1 : -32768 ≤ x) (h2 : x ≤ 32767) : s16 n = x := by
  unfold s16; split <;> omega

/-- Where the numbers of glyph k begin, m glyphs having an advance. -/
def posM (m k : Nat) : Nat := 2 * min k m + 2 * k
def bearPos (m k : Nat) : Nat := posM m k + if k < m then 2 else 0
def advAt (bs : List Value) (m k : Nat) : Int := (rd2 bs (posM m k) : Nat)
def bearAt (bs : List Value) (m k : Nat) : Int := s16 (rd2 bs (bearPos m k))
/-- Glyph k's metric. -/
def metAt (bs : List Value) (m k : Nat) : Int × Int := (advAt bs m (min k (m - 1)), bearAt bs m k)
theorem posM_succ (m k : Nat) : posM m (k + 1) = bearPos m k + 2 := by unfold posM bearPos posM; split <;> omega

/-- The bytes of metrics. -/
def putM : List (Int × Int) → Nat → List Value
  | [], _ => []
  | (a, b) :: r, m + 1 => be2 a ++ be2 b ++ putM r m
  | (_, b) :: r, 0 => be2 b ++ putM r 0
theorem putM_snoc : ∀ (l : List (Int × Int)) (m : Nat) (a b : Int), putM (l ++ [(a, b)]) m = putM l m ++ (if l.length < m then be2 a ++ be2 b else be2 b)
  | [], 0, a, b => by simp [putM]
  | [], m + 1, a, b => by simp [putM]
  | (x, y) :: r, 0, a, b => by simp [putM, putM_snoc r 0 a b]
  | (x, y) :: r, m + 1, a, b => by simp [putM, putM_snoc r m a b]
theorem putM_len : ∀ (l : List (Int × Int)) (m : Nat), (putM l m).length = posM m l.length
  | [], _ => by simp [putM, posM]
  | (x, y) :: r, 0 => by simp [putM, putM_len r 0, be2, posM]; omega
  | (x, y) :: r, m + 1 => by simp [putM, putM_len r m, be2, posM]; omega
theorem putM_bytes : ∀ (l : List (Int × Int)) (m : Nat), Bytes8 (putM l m)
  | [], _ => fun _ h => (nomatch h)
  | (_, y) :: r, 0 => (be2_bytes y).append (putM_bytes r 0)
  | (x, y) :: r, m + 1 => ((be2_bytes x).append (be2_bytes y)).append (putM_bytes r m)

theorem putM_adv : ∀ (l : List (Int × Int)) (m k : Nat) (X : List Value) (a b : Int), l[k]? = some (a, b) → k < m → advAt (putM l m ++ X) m k = a % 65536
  | [], m, k, X, a, b, h, _ => by simp at h
  | (x, y) :: r, 0, k, X, a, b, h, hk => by omega
  | (x, y) :: r, m + 1, 0, X, a, b, h, _ => by
    simp at h
    obtain ⟨rfl, rfl⟩ := h
    unfold advAt
    rw [show posM (m + 1) 0 = 0 by simp [posM]]
    simp only [putM, List.append_assoc]
    exact rd2_be2 _ _
  | (x, y) :: r, m + 1, k + 1, X, a, b, h, hk => by
    have ih := putM_adv r m k X a b (by simpa using h) (by omega)
    unfold advAt at *
    simp only [putM, List.append_assoc]
    rw [← List.append_assoc, rd2_right (posM m k) _ (by simp [be2, posM]; omega)]
    exact ih
theorem putM_bear : ∀ (l : List (Int × Int)) (m k : Nat) (X : List Value) (a b : Int), l[k]? = some (a, b) → (rd2 (putM l m ++ X) (bearPos m k) : Int) = b % 65536
  | [], m, k, X, a, b, h => by simp at h
  | (x, y) :: r, 0, 0, X, a, b, h => by
    simp at h
    obtain ⟨rfl, rfl⟩ := h
    rw [show bearPos 0 0 = 0 by simp [bearPos, posM]]
    simp only [putM, List.append_assoc]
    exact rd2_be2 _ _
  | (x, y) :: r, m + 1, 0, X, a, b, h => by
    simp at h
    obtain ⟨rfl, rfl⟩ := h
    simp only [putM, List.append_assoc]
    rw [rd2_right 0 _ (by simp [bearPos, posM, be2])]
    exact rd2_be2 _ _
  | (x, y) :: r, 0, k + 1, X, a, b, h => by
    have ih := putM_bear r 0 k X a b (by simpa using h)
    simp only [putM, List.append_assoc]
    rw [rd2_right (bearPos 0 k) _ (by simp [be2, bearPos, posM]; omega)]
    exact ih
  | (x, y) :: r, m + 1, k + 1, X, a, b, h => by
    have ih := putM_bear r m k X a b (by simpa using h)
    simp only [putM, List.append_assoc]
    rw [← List.append_assoc, rd2_right (bearPos m k) _ (by simp only [be2, bearPos, posM, List.length_append, List.length_cons, List.length_nil]; split <;> split <;> omega)]
    exact ih

/-- Metrics that may be put: m have an advance of their own. -/
def okMet (q : Int × Int) : Bool := decide (0 ≤ q.1) && decide (q.1 ≤ 65535) && decide (-32768 ≤ q.2) && decide (q.2 ≤ 32767)
def lastAdv (l : List (Int × Int)) (m : Nat) : Int := (l.getD (m - 1) (0, 0)).1
def mayPut (l : List (Int × Int)) (m : Nat) : Bool := l.all okMet && (l.drop m).all fun q => q.1 == lastAdv l m
/-- What was put is read again. -/
theorem met_back (l : List (Int × Int)) (m k : Nat) (X : List Value) (q : Int × Int) (hm : 1 ≤ m) (hml : m ≤ l.length) (hp : mayPut l m = true) (hk : l[k]? = some q) : metAt (putM l m ++ X) m k = q := by
  obtain ⟨a, b⟩ := q
  unfold mayPut at hp
  rw [Bool.and_eq_true, List.all_eq_true, List.all_eq_true] at hp
  obtain ⟨h1, h2⟩ := hp
  have ok : ∀ j (p : Int × Int), l[j]? = some p → 0 ≤ p.1 ∧ p.1 ≤ 65535 ∧ -32768 ≤ p.2 ∧ p.2 ≤ 32767 := fun j p hj => by
    have := h1 p (List.mem_of_getElem? hj)
    simp only [okMet, Bool.and_eq_true, decide_eq_true_eq] at this
    omega
  have hb := ok k _ hk
  have e2 : bearAt (putM l m ++ X) m k = b := s16_of _ _ (putM_bear l m k X a b hk) hb.2.2.1 hb.2.2.2
  have e1 : advAt (putM l m ++ X) m (min k (m - 1)) = a := by
    rcases Nat.lt_or_ge k m with hkm | hkm
    · rw [show min k (m - 1) = k by omega, putM_adv l m k X a b hk hkm]
      simp only at hb; omega
    · rw [show min k (m - 1) = m - 1 by omega]
      obtain ⟨⟨a', b'⟩, hp'⟩ : ∃ p, l[m - 1]? = some p := ⟨l[m - 1]'(by omega), List.getElem?_eq_getElem _⟩
      rw [putM_adv l m (m - 1) X a' b' hp' (by omega)]
      have h3 := h2 (a, b) (List.mem_iff_getElem?.2 ⟨k - m, by rw [List.getElem?_drop, show m + (k - m) = k by omega]; exact hk⟩)
      unfold lastAdv at h3
      rw [List.getD_eq_getElem?_getD, hp', Option.getD_some] at h3
      have h3 : a = a' := by simpa using h3
      have := ok _ _ hp'
      simp only at this
      omega
  unfold metAt
  rw [e1, e2]

/-- Places as bytes. -/
def beP (long : Bool) (x : Int) : List Value := if long then be4 x else be2 (x / 2)
def putP (long : Bool) : List Int → List Value
  | [] => []
  | x :: r => beP long x ++ putP long r
def szP (long : Bool) : Nat := if long then 4 else 2
def offAt (long : Bool) (bs : List Value) (k : Nat) : Nat := if long then rd4 bs (k * 4) else 2 * rd2 bs (k * 2)
theorem beP_len (long : Bool) (x : Int) : (beP long x).length = szP long := by cases long <;> rfl
theorem beP_bytes (long : Bool) (x : Int) : Bytes8 (beP long x) := by
  cases long
  · exact be2_bytes _
  · exact be4_bytes _
theorem putP_snoc (long : Bool) (x : Int) : ∀ l, putP long (l ++ [x]) = putP long l ++ beP long x
  | [] => by simp [putP]
  | y :: r => by simp [putP, putP_snoc long x r]
theorem putP_len (long : Bool) : ∀ l, (putP long l).length = l.length * szP long
  | [] => by simp [putP]
  | y :: r => by simp only [putP, List.length_append, beP_len, putP_len long r, List.length_cons]; rw [Nat.succ_mul]; omega
theorem putP_bytes (long : Bool) : ∀ l, Bytes8 (putP long l)
  | [] => fun _ h => (nomatch h)
  | y :: r => (beP_bytes long y).append (putP_bytes long r)
def okOff (long : Bool) (x : Int) : Bool := long || (x % 2 == 0 && decide (x ≤ 131070))
/-- Offsets do not fall, are from last, and none above most. -/
def rises (most : Int) : Int → List Int → Bool
  | _, [] => true
  | last, x :: r => decide (last ≤ x) && decide (x ≤ most) && rises most x r
theorem rises_snoc (most : Int) : ∀ (last : Int) (l : List Int) (x : Int), rises most last (l ++ [x]) = (rises most last l && (decide (l.getLastD last ≤ x) && decide (x ≤ most)))
  | last, [], x => by simp [rises]
  | last, y :: r, x => by
    simp only [List.cons_append, rises, rises_snoc most y r x]
    rw [show (y :: r).getLastD last = r.getLastD y by cases r <;> simp [List.getLastD]]
    simp only [Bool.and_assoc]
theorem rises_ge (most : Int) : ∀ (l : List Int) (last : Int), rises most last l = true → ∀ x ∈ l, last ≤ x ∧ x ≤ most
  | [], _, _, x, hx => (nomatch hx)
  | y :: r, last, h, x, hx => by
    simp only [rises, Bool.and_eq_true, decide_eq_true_eq] at h
    rcases List.mem_cons.1 hx with rfl | hx
    · omega
    · have := rises_ge most r y h.2 x hx
      omega
theorem off_back (long : Bool) : ∀ (l : List Int) (k : Nat) (X : List Value) (x : Int), (∀ y ∈ l, 0 ≤ y ∧ y ≤ 1048576 ∧ okOff long y = true) → l[k]? = some x → (offAt long (putP long l ++ X) k : Int) = x
  | [], k, X, x, _, h => by simp at h
  | y :: r, 0, X, x, hl, h => by
    simp at h
    subst h
    have := hl y (by simp)
    cases long
    · simp only [offAt, putP, beP, List.append_assoc, okOff, Bool.false_or, Bool.and_eq_true, decide_eq_true_eq, beq_iff_eq] at *
      have e := rd2_be2 (y / 2) (putP false r ++ X)
      simp only [Bool.false_eq_true, if_false, Nat.zero_mul]
      omega
    · simp only [offAt, putP, beP, List.append_assoc] at *
      have e := rd4_be4 y (putP true r ++ X)
      simp only [if_true, Nat.zero_mul]
      omega
  | y :: r, k + 1, X, x, hl, h => by
    have ih := off_back long r k X x (fun z hz => hl z (by simp [hz])) (by simpa using h)
    rw [← ih]
    cases long
    · simp only [offAt, putP, List.append_assoc, Bool.false_eq_true, if_false]
      rw [rd2_right (k * 2) _ (by rw [beP_len]; simp only [szP, Bool.false_eq_true, if_false]; omega)]
    · simp only [offAt, putP, List.append_assoc, if_true]
      rw [rd4_right (k * 4) _ (by rw [beP_len]; simp only [szP, if_true]; omega)]

end Go.Proofs.Ytekailhghjideaa

namespace Go.Proofs.Ytekailhghjideaa
open Go Go.RowKit

variable {q : Nat → Prop}
theorem Rd.bytes {w : World} {p i : Nat} {bs : List Value} {bad : Bool} (h : Rd q w p bs i bad) : Bytes8 bs := by
  obtain ⟨_, _, _, _, h8, _⟩ := h
  exact h8
/-- A number was read: x; the reader stands at i. -/
def ReadN (q : Nat → Prop) (w : World) (p : Nat) (bs : List Value) (i : Nat) (x : Int) (e : Ending) (w' : World) : Prop := e = .returned (.int .i64 x) ∧ Rd q w' p bs i false ∧ Only w w' [p]
theorem rdNum2 (p : Nat) (bs : List Value) (i : Nat) (w : World) (h : Rd q w p bs i false) (hL : bs.length ≤ 4611686018427387904) (him : i + 2 ≤ bs.length) :
    Calls Try.prog 43 #[.pointer (some ⟨p, 0, none⟩), .int .i64 2] w (ReadN q w p bs (i + 2) (rd2 bs i : Nat)) :=
  number2_ok p bs i (byteAt bs i) (byteAt bs (i + 1)) w h hL him (byteAt_get h.bytes (by omega)) (byteAt_get h.bytes (by omega)) (byteAt_lt h.bytes _) (byteAt_lt h.bytes _)
theorem rdNum4 (p : Nat) (bs : List Value) (i : Nat) (w : World) (h : Rd q w p bs i false) (hL : bs.length ≤ 4611686018427387904) (him : i + 4 ≤ bs.length) :
    Calls Try.prog 43 #[.pointer (some ⟨p, 0, none⟩), .int .i64 4] w (ReadN q w p bs (i + 4) (rd4 bs i : Nat)) :=
  number4_ok p bs i (byteAt bs i) (byteAt bs (i + 1)) (byteAt bs (i + 2)) (byteAt bs (i + 3)) w h hL him (byteAt_get h.bytes (by omega)) (byteAt_get h.bytes (by omega)) (byteAt_get h.bytes (by omega)) (byteAt_get h.bytes (by omega)) (byteAt_lt h.bytes _) (byteAt_lt h.bytes _) (byteAt_lt h.bytes _) (byteAt_lt h.bytes _)
theorem rdU16 (p : Nat) (bs : List Value) (i : Nat) (w : World) (h : Rd q w p bs i false) (hL : bs.length ≤ 4611686018427387904) (him : i + 2 ≤ bs.length) :
    Calls Try.prog 20 #[.pointer (some ⟨p, 0, none⟩)] w (ReadN q w p bs (i + 2) (rd2 bs i : Nat)) := by
  have C := rdNum2 p bs i w h hL him
  clear h
  go_enter Try.func20, Try.ntmps20
  go_wp2_with (first | (go_at_call 43; ((refine C.mono ?_); rintro e w2 ⟨rfl, hr, o2⟩)))
  go_ret
  exact ⟨rfl, hr, o2⟩
theorem s16_wrap (x : Nat) (h : x < 65536) : wrap64 (IntKind.i16.wrap (x : Int)) = s16 x := by
  have e : IntKind.i16.wrap (x : Int) = s16 x := by
    unfold s16
    by_cases h1 : x < 32768
    · rw [if_pos h1]; exact IntWalk.i16_in _ (by omega)
    · rw [if_neg h1]
      have h2 : (x : Int) % 65536 = x := by omega
      simp only [IntKind.wrap, IntKind.bits, IntKind.signed, Bool.true_and]
      have h3 : (if decide ((x : Int) % 65536 ≥ 32768) = true then (x : Int) % 65536 - 65536 else (x : Int) % 65536) = (x : Int) - 65536 := by rw [h2, if_pos (by simp; omega)]
      exact h3
  rw [e]
  unfold wrap64 s16
  split <;> omega
theorem rdI16 (p : Nat) (bs : List Value) (i : Nat) (w : World) (h : Rd q w p bs i false) (hL : bs.length ≤ 4611686018427387904) (him : i + 2 ≤ bs.length) :
    Calls Try.prog 18 #[.pointer (some ⟨p, 0, none⟩)] w (ReadN q w p bs (i + 2) (s16 (rd2 bs i))) := by
  have C := rdNum2 p bs i w h hL him
  have hlt := rd2_lt h.bytes i
  clear h
  generalize rd2 bs i = x at *
  go_enter Try.func18, Try.ntmps18
  go_wp2_with (first | (go_at_call 43; ((refine C.mono ?_); rintro e w2 ⟨rfl, hr, o2⟩)))
  go_ret
  exact ⟨ret_int (s16_wrap x hlt), hr, o2⟩

end Go.Proofs.Ytekailhghjideaa

namespace Go.Proofs.Ytekailhghjideaa
open Go Go.RowKit

variable {q : Nat → Prop}
def RS (q : Nat → Prop) (w : World) (p : Nat) (bs : List Value) (k : Nat) : Prop := (k ≤ bs.length ∧ Rd q w p bs k false) ∨ (bs.length < k ∧ ∃ i, Rd q w p bs i true)
theorem RS.below {w w1 : World} {p k : Nat} {bs : List Value} (h : RS q w p bs k) (b : Below w.heap.size w w1) : RS q w1 p bs k :=
  h.imp (fun ⟨h1, h2⟩ => ⟨h1, h2.below b⟩) (fun ⟨h1, i, h2⟩ => ⟨h1, i, h2.below b⟩)
theorem RS.only {w w1 : World} {p k : Nat} {bs : List Value} {fp : List Nat} (h : RS q w p bs k) (o : Only w w1 fp) (hp : p ∉ fp) (hq : ∀ b ∈ fp, ¬ q b) : RS q w1 p bs k :=
  h.imp (fun ⟨h1, h2⟩ => ⟨h1, h2.only o hp hq⟩) (fun ⟨h1, i, h2⟩ => ⟨h1, i, h2.only o hp hq⟩)
theorem RS.bytes {w : World} {p k : Nat} {bs : List Value} (h : RS q w p bs k) : Bytes8 bs := h.elim (fun h => h.2.bytes) fun ⟨_, _, h⟩ => h.bytes

/-- The number of m bytes at k: 0 where they are not all there. -/
def rsn (bs : List Value) (m k : Nat) (x : Nat) : Nat := if k + m ≤ bs.length then x else 0
theorem rsn_lt {bs : List Value} {m k x B : Nat} (h : x < B) : rsn bs m k x < B := by unfold rsn; split <;> omega
/-- A number was read by a reader that may have come to its end. -/
def ReadS (q : Nat → Prop) (w : World) (p : Nat) (bs : List Value) (k : Nat) (x : Int) (e : Ending) (w' : World) : Prop := e = .returned (.int .i64 x) ∧ RS q w' p bs k ∧ Only w w' [p]

theorem rs_num (p : Nat) (bs : List Value) (k m x : Nat) (w : World) (h : RS q w p bs k) (hL : bs.length ≤ 4611686018427387904) (hm : 0 < m)
    (C : k + m ≤ bs.length → Rd q w p bs k false → Calls Try.prog 43 #[.pointer (some ⟨p, 0, none⟩), .int .i64 (m : Nat)] w fun e w' => e = .returned (.int .i64 (x : Nat)) ∧ Rd q w' p bs (k + m) false ∧ Only w w' [p]) :
    Calls Try.prog 43 #[.pointer (some ⟨p, 0, none⟩), .int .i64 (m : Nat)] w (ReadS q w p bs (k + m) (rsn bs m k x : Nat)) := by
  unfold rsn
  rcases h with ⟨h1, h2⟩ | ⟨h1, i, h2⟩
  · by_cases hk : k + m ≤ bs.length
    · rw [if_pos hk]
      exact (C hk h2).mono fun e w' ⟨a, b, c⟩ => ⟨a, .inl ⟨hk, b⟩, c⟩
    · rw [if_neg hk]
      exact (number_short p bs k (m : Nat) w h2 hL (.inr (by omega))).mono fun e w' ⟨a, b, c⟩ => ⟨a, .inr ⟨by omega, k, b⟩, c⟩
  · rw [if_neg (by omega)]
    exact (number_bad p bs i (m : Nat) w h2).mono fun e w' ⟨a, b⟩ => ⟨a, .inr ⟨by omega, i, b ▸ h2⟩, b ▸ Only.refl _ _⟩
theorem rsNum1 (p : Nat) (bs : List Value) (k : Nat) (w : World) (h : RS q w p bs k) (hL : bs.length ≤ 4611686018427387904) :
    Calls Try.prog 43 #[.pointer (some ⟨p, 0, none⟩), .int .i64 1] w (ReadS q w p bs (k + 1) (rsn bs 1 k (byteAt bs k) : Nat)) :=
  rs_num p bs k 1 _ w h hL (by decide) fun hk hR => number1_ok p bs k (byteAt bs k) w hR hL hk (byteAt_get hR.bytes (by omega)) (byteAt_lt hR.bytes _)
theorem rsNum2 (p : Nat) (bs : List Value) (k : Nat) (w : World) (h : RS q w p bs k) (hL : bs.length ≤ 4611686018427387904) :
    Calls Try.prog 43 #[.pointer (some ⟨p, 0, none⟩), .int .i64 2] w (ReadS q w p bs (k + 2) (rsn bs 2 k (rd2 bs k) : Nat)) :=
  rs_num p bs k 2 _ w h hL (by decide) fun hk hR => rdNum2 p bs k w hR hL hk
theorem rsNum4 (p : Nat) (bs : List Value) (k : Nat) (w : World) (h : RS q w p bs k) (hL : bs.length ≤ 4611686018427387904) :
    Calls Try.prog 43 #[.pointer (some ⟨p, 0, none⟩), .int .i64 4] w (ReadS q w p bs (k + 4) (rsn bs 4 k (rd4 bs k) : Nat)) :=
  rs_num p bs k 4 _ w h hL (by decide) fun hk hR => rdNum4 p bs k w hR hL hk

theorem rsU8 (p : Nat) (bs : List Value) (k : Nat) (w : World) (h : RS q w p bs k) (hL : bs.length ≤ 4611686018427387904) :
    Calls Try.prog 73 #[.pointer (some ⟨p, 0, none⟩)] w (ReadS q w p bs (k + 1) (rsn bs 1 k (byteAt bs k) : Nat)) := by
  have C := rsNum1 p bs k w h hL
  clear h
  go_enter Try.func73, Try.ntmps73
  go_wp2_with (first | (go_at_call 43; ((refine C.mono ?_); rintro e w2 ⟨rfl, hr, o2⟩)))
  go_ret
  exact ⟨rfl, hr, o2⟩
theorem rsU16 (p : Nat) (bs : List Value) (k : Nat) (w : World) (h : RS q w p bs k) (hL : bs.length ≤ 4611686018427387904) :
    Calls Try.prog 20 #[.pointer (some ⟨p, 0, none⟩)] w (ReadS q w p bs (k + 2) (rsn bs 2 k (rd2 bs k) : Nat)) := by
  have C := rsNum2 p bs k w h hL
  clear h
  go_enter Try.func20, Try.ntmps20
  go_wp2_with (first | (go_at_call 43; ((refine C.mono ?_); rintro e w2 ⟨rfl, hr, o2⟩)))
  go_ret
  exact ⟨rfl, hr, o2⟩
theorem rsI16 (p : Nat) (bs : List Value) (k : Nat) (w : World) (h : RS q w p bs k) (hL : bs.length ≤ 4611686018427387904) :
    Calls Try.prog 18 #[.pointer (some ⟨p, 0, none⟩)] w (ReadS q w p bs (k + 2) (s16 (rsn bs 2 k (rd2 bs k)))) := by
  have C := rsNum2 p bs k w h hL
  have hlt : rsn bs 2 k (rd2 bs k) < 65536 := rsn_lt (rd2_lt h.bytes k)
  clear h
  generalize rsn bs 2 k (rd2 bs k) = x at *
  go_enter Try.func18, Try.ntmps18
  go_wp2_with (first | (go_at_call 43; ((refine C.mono ?_); rintro e w2 ⟨rfl, hr, o2⟩)))
  go_ret
  exact ⟨ret_int (s16_wrap x hlt), hr, o2⟩

end Go.Proofs.Ytekailhghjideaa

namespace Go.Proofs.Ytekailhghjideaa
open Go Go.RowKit

variable {q : Nat → Prop}
/-- How many bytes a number of a kind has. -/
def wid : Nat → Nat
  | 0 => 1
  | 3 => 4
  | _ => 2
/-- The number of a kind that is read at k. -/
def rdk (bs : List Value) (kd k : Nat) : Int :=
  match kd with
  | 0 => (rsn bs 1 k (byteAt bs k) : Nat)
  | 1 => (rsn bs 2 k (rd2 bs k) : Nat)
  | 2 => s16 (rsn bs 2 k (rd2 bs k))
  | _ => (rsn bs 4 k (rd4 bs k) : Nat)
/-- A place had a number brought. -/
def Came (q : Nat → Prop) (w : World) (p : Nat) (bs : List Value) (k b : Nat) (T : TypeId) (cs : Array Value) (o : Nat) (x : Int) (e : Ending) (w' : World) : Prop :=
  e = .returned (.tuple #[]) ∧ RS q w' p bs k ∧ Blk w' b T (cs.setIfInBounds o (.int .i64 x)) ∧ Only w w' [p, b]

end Go.Proofs.Ytekailhghjideaa

namespace Go.Proofs.Ytekailhghjideaa
open Go Go.RowKit
set_option linter.unusedVariables false
set_option linter.unusedSimpArgs false

theorem and_nat (a b : Nat) (ha : a < 4611686018427387904) (hb : b < 4611686018427387904) : bits .and .i64 (a : Int) (b : Int) = ((a &&& b : Nat) : Int) := by
  have hx : a &&& b < 2 ^ 62 := Nat.lt_of_le_of_lt Nat.and_le_left (by omega)
  have h1 : (BitVec.ofInt 64 (a : Int)).toNat = a := by
    rw [BitVec.ofInt_natCast, BitVec.toNat_ofNat]; exact Nat.mod_eq_of_lt (by omega)
  have h2 : (BitVec.ofInt 64 (b : Int)).toNat = b := by
    rw [BitVec.ofInt_natCast, BitVec.toNat_ofNat]; exact Nat.mod_eq_of_lt (by omega)
  show IntKind.i64.wrap ((BitVec.ofInt 64 (a : Int) &&& BitVec.ofInt 64 (b : Int)).toNat : Int) = _
  rw [BitVec.toNat_and, h1, h2]
  exact IntWalk.i64_in _ (by omega)
/-- One bit of a number. -/
def bt (f i : Nat) : Bool := f.testBit i
theorem and_pow (f i : Nat) : f &&& 2 ^ i = if bt f i then 2 ^ i else 0 := by
  apply Nat.eq_of_testBit_eq
  intro j
  rw [Nat.testBit_and, Nat.testBit_two_pow]
  unfold bt
  by_cases h : i = j
  · subst h
    cases hb : f.testBit i <;> simp
  · cases hb : f.testBit i <;> simp [h]
theorem and_1 (f : Nat) : f &&& 1 = if bt f 0 then 1 else 0 := and_pow f 0
theorem and_2 (f : Nat) : f &&& 2 = if bt f 1 then 2 else 0 := and_pow f 1
theorem and_8 (f : Nat) : f &&& 8 = if bt f 3 then 8 else 0 := and_pow f 3
theorem and_32 (f : Nat) : f &&& 32 = if bt f 5 then 32 else 0 := and_pow f 5
theorem and_64 (f : Nat) : f &&& 64 = if bt f 6 then 64 else 0 := and_pow f 6
theorem and_128 (f : Nat) : f &&& 128 = if bt f 7 then 128 else 0 := and_pow f 7
theorem and_2048 (f : Nat) : f &&& 2048 = if bt f 11 then 2048 else 0 := and_pow f 11
theorem and_4096 (f : Nat) : f &&& 4096 = if bt f 12 then 4096 else 0 := and_pow f 12
theorem and_3 (f : Nat) : f &&& 3 = if bt f 0 then (if bt f 1 then 3 else 1) else (if bt f 1 then 2 else 0) := by
  rw [show (3 : Nat) = 1 ||| 2 from rfl, Nat.and_or_distrib_left, and_1, and_2]
  cases bt f 0 <;> cases bt f 1 <;> rfl
theorem and_6144 (f : Nat) : f &&& 6144 = if bt f 11 then (if bt f 12 then 6144 else 2048) else (if bt f 12 then 4096 else 0) := by
  rw [show (6144 : Nat) = 2048 ||| 4096 from rfl, Nat.and_or_distrib_left, and_2048, and_4096]
  cases bt f 11 <;> cases bt f 12 <;> rfl
/-- The number that the bits 3, 6 and 7 make. -/
def b200 (f : Nat) : Nat := (if bt f 3 then 8 else 0) + (if bt f 6 then 64 else 0) + (if bt f 7 then 128 else 0)
theorem and_200 (f : Nat) : f &&& 200 = b200 f := by
  rw [show (200 : Nat) = (8 ||| 64) ||| 128 from rfl, Nat.and_or_distrib_left, Nat.and_or_distrib_left, and_8, and_64, and_128]
  unfold b200
  cases bt f 3 <;> cases bt f 6 <;> cases bt f 7 <;> rfl
/-- How many numbers a matrix has, by its bits. -/
def frm (f : Nat) : Option Nat := if b200 f = 0 then some 0 else if b200 f = 8 then some 1 else if b200 f = 64 then some 2 else if b200 f = 128 then some 4 else none
def matN (f : Nat) : Nat := (frm f).getD 0
def widA (f : Nat) : Nat := if bt f 0 then 2 else 1
def s8 (x : Nat) : Int := if x < 128 then (x : Int) else (x : Int) - 256
/-- An argument's value. -/
def valA (bs : List Value) (f k : Nat) : Int := if bt f 0 then (if bt f 1 then rdk bs 2 k else rdk bs 1 k) else (if bt f 1 then s8 (rsn bs 1 k (byteAt bs k)) else rdk bs 0 k)
abbrev Mtx := Int × Int × Int × Int
def one14 : Mtx := (16384, 0, 0, 16384)
/-- A matrix that so many numbers tell. -/
def matL : List Int → Mtx
  | [a] => (a, 0, 0, a)
  | [a, b] => (a, 0, 0, b)
  | [a, b, c, d] => (a, b, c, d)
  | _ => one14
def nums2 (bs : List Value) (k n : Nat) : List Int := (List.range n).map fun i => rdk bs 2 (k + 2 * i)
abbrev Prt := Int × Mtx × Bool × Int × Int × Bool × Int × Int
def prL (p : Prt) : List Value := [.int .i64 p.1, .int .i64 p.2.1.1, .int .i64 p.2.1.2.1, .int .i64 p.2.1.2.2.1, .int .i64 p.2.1.2.2.2, .bool p.2.2.1, .int .i64 p.2.2.2.1, .int .i64 p.2.2.2.2.1, .bool p.2.2.2.2.2.1, .int .i64 p.2.2.2.2.2.2.1, .int .i64 p.2.2.2.2.2.2.2]
def prV (p : Prt) : Value := .agg (prL p).toArray
/-- The flags at a place, a number below 2^16. -/
def flgAt (bs : List Value) (k : Nat) : Nat := rsn bs 2 k (rd2 bs k)
theorem flgAt_lt {bs : List Value} (h : Bytes8 bs) (k : Nat) : flgAt bs k < 65536 := rsn_lt (rd2_lt h k)
/-- Where a part that begins at k with these flags ends. -/
def endP (f k : Nat) : Nat := k + 4 + 2 * widA f + 2 * matN f
def prtOf (bs : List Value) (f k : Nat) : Prt :=
  let g := rdk bs 1 (k + 2)
  let a := valA bs f (k + 4)
  let b := valA bs f (k + 4 + widA f)
  let m := matL (nums2 bs (k + 4 + 2 * widA f) (matN f))
  if bt f 1 then (g, m, false, a, b, bt f 11 && !bt f 12, 0, 0) else (g, m, true, 0, 0, false, a, b)
def okPrt (bs : List Value) (f k : Nat) : Bool := (frm f).isSome && decide (endP f k ≤ bs.length)
/-- The parts from k on: n more may come. -/
def decP (bs : List Value) : Nat → Nat → List Prt → List Prt × Int
  | 0, _, _ => ([], 120)
  | n + 1, k, acc =>
    if okPrt bs (flgAt bs k) k then
      if bt (flgAt bs k) 5 then decP bs n (endP (flgAt bs k) k) (acc ++ [prtOf bs (flgAt bs k) k]) else (acc ++ [prtOf bs (flgAt bs k) k], 0)
    else ([], 110)
theorem frm_cases (f : Nat) : (b200 f = 0 ∧ frm f = some 0) ∨ (b200 f = 8 ∧ frm f = some 1) ∨ (b200 f = 64 ∧ frm f = some 2) ∨ (b200 f = 128 ∧ frm f = some 4) ∨ (b200 f ≠ 0 ∧ b200 f ≠ 8 ∧ b200 f ≠ 64 ∧ b200 f ≠ 128 ∧ frm f = none) := by
  unfold frm
  by_cases h0 : b200 f = 0
  · exact .inl ⟨h0, if_pos h0⟩
  · by_cases h1 : b200 f = 8
    · exact .inr (.inl ⟨h1, by rw [if_neg h0, if_pos h1]⟩)
    · by_cases h2 : b200 f = 64
      · exact .inr (.inr (.inl ⟨h2, by rw [if_neg h0, if_neg h1, if_pos h2]⟩))
      · by_cases h3 : b200 f = 128
        · exact .inr (.inr (.inr (.inl ⟨h3, by rw [if_neg h0, if_neg h1, if_neg h2, if_pos h3]⟩)))
        · exact .inr (.inr (.inr (.inr ⟨h0, h1, h2, h3, by rw [if_neg h0, if_neg h1, if_neg h2, if_neg h3]⟩)))
theorem b200_lt (f : Nat) : b200 f ≤ 200 := by unfold b200; split <;> split <;> split <;> omega
end Go.Proofs.Ytekailhghjideaa

namespace Go.Proofs.Ytekailhghjideaa
open Go Go.RowKit
set_option linter.unusedVariables false
set_option linter.unusedSimpArgs false

theorem flat_at {α : Type} {f : α → List Value} {sz : Nat} (hf : ∀ x, (f x).length = sz) : ∀ (L : List α) (k : Nat) (x : α), L[k]? = some x → ∀ j v, (f x)[j]? = some v → (L.flatMap f)[k * sz + j]? = some v
  | [], k, x, h, j, v, hv => by simp at h
  | y :: L, 0, x, h, j, v, hv => by
    obtain rfl : y = x := by simpa using h
    have hj := (List.getElem?_eq_some_iff.1 hv).1
    rw [List.flatMap_cons, Nat.zero_mul, Nat.zero_add, List.getElem?_append_left hj]
    exact hv
  | y :: L, k + 1, x, h, j, v, hv => by
    have := flat_at hf L k x (by simpa using h) j v hv
    rw [List.flatMap_cons, List.getElem?_append_right (by rw [hf, Nat.add_mul]; omega), hf, show (k + 1) * sz + j - sz = k * sz + j by rw [Nat.add_mul]; omega]
    exact this
theorem flat_len {α : Type} {f : α → List Value} {sz : Nat} (hf : ∀ x, (f x).length = sz) : ∀ L : List α, (L.flatMap f).length = L.length * sz
  | [] => by simp
  | x :: L => by rw [List.flatMap_cons, List.length_append, hf, flat_len hf L, List.length_cons, Nat.add_mul, Nat.one_mul, Nat.add_comm]
theorem lists_flat {α : Type} {f : α → List Value} {sz : Nat} (hf : ∀ x, (f x).length = sz) (hs : 0 < sz) {w : World} {B : Nat} {A : Option Addr} {L : List α} (h : Lists w B A (L.flatMap f)) {k : Nat} {x : α} (hk : L[k]? = some x) :
    ∃ b o, A = some ⟨b, o, none⟩ ∧ b < B ∧ w.rangeAt b (o + k * sz) (f x) := by
  have h0 : (f x)[0]? = some ((f x)[0]'(by rw [hf]; exact hs)) := List.getElem?_eq_getElem _
  have h1 := flat_at hf L k x hk 0 _ h0
  obtain ⟨b, o, rfl, hb, hc⟩ := h.plain (by intro e; rw [e] at h1; simp at h1)
  exact ⟨b, o, rfl, hb, fun j v hv => by rw [Nat.add_assoc]; exact hc _ _ (flat_at hf L k x hk j v hv)⟩
theorem flat_snoc {α : Type} (f : α → List Value) (L : List α) (x : α) : (L ++ [x]).flatMap f = L.flatMap f ++ f x := by simp
theorem range_below {w w1 : World} {B b o : Nat} {cs : List Value} (h : w.rangeAt b o cs) (hb : b < B) (k : Below B w w1) : w1.rangeAt b o cs := fun j v hv => (k.cell (p := ⟨b, o + j, none⟩) hb).trans (h j v hv)
theorem range_blk {w : World} {p : Nat} {T : TypeId} {cs : List Value} (h : Blk w p T cs.toArray) : w.rangeAt p 0 cs := fun j v hv => by rw [Nat.zero_add, h.cell j, List.getElem?_toArray]; exact hv
theorem blk_row {w : World} {p : Nat} {T : TypeId} {cs : Array Value} (h : Blk w p T cs) (cs1 : Array Value) : Blk (w.setRow p cs1) p T cs1 := setRow_heap w p cs cs1 T (0, 0) h
theorem exec_store_row {P : Program} {ρ : Operand → Value} {o : Oper} {w : World} (ty : TypeId) (x y : Operand) (ho : o.op = .store ty x y)
    (g : Nat) (cells : Array Value) (hx : ρ x = .pointer (some ⟨g, 0, none⟩)) (hy : ρ y = .agg cells)
    (t : TypeId) (old : Array Value) (hg : Blk w g t old) (hi : (P.info? ty).map (·.size) = some cells.size)
    (hold : old.size = cells.size) (h1 : cells.all (·.oneCell') = true) : (execOp ρ o).run P w = .ok .skip (w.setRow g cells) := by
  unfold execOp
  simp only [ho, hx, hy, Instr.storeAt, Instr.sureAddr, Sem.run_bind, Sem.run_pure, Result.andThen_ok, run_storeVar_row w g t ty old cells hg hi hold h1]
theorem exec_load {P : Program} {ρ : Operand → Value} {o : Oper} {w : World} {ty : TypeId} {x : Operand} {p v : Value} (h : (Instr.loadAt ty p).run P w = .ok v w) (ho : o.op = .load ty x) (hx : ρ x = p) : (execOp ρ o).run P w = .ok (.value v) w := by
  unfold execOp
  simp only [ho, hx, Sem.run_bind, h, Result.andThen_ok, Sem.run_pure]
theorem load_blk {P : Program} {w : World} {p : Nat} {T ty : TypeId} {cs : Array Value} {d : TypeDesc} (h : Blk w p T cs) (hu : P.underlying ty = some d) (hd : d.isRow = true) (hi : (P.info? ty).map (·.size) = some cs.size) : (Instr.loadAt ty (.pointer (some ⟨p, 0, none⟩))).run P w = .ok (.agg cs) w := by
  have h1 : w.rangeAt p 0 cs.toList := fun j v hv => by rw [Nat.zero_add, h.cell j]; simpa using hv
  have := run_loadAt_mid (P := P) w p 0 ty cs.toList d h1 hu hd (by simpa using hi)
  simpa using this
theorem only_row {w a : World} {fp : List Nat} (h : Only w a fp) {g : Nat} (hg : g ∈ fp ∨ w.heap.size ≤ g) (cs : Array Value) : Only w (a.setRow g cs) fp :=
  ⟨h.os, h.tape, h.output, by rw [size_setRow]; exact h.size, fun b hb hf => (setRow_other a g b cs (fun e => by subst e; rcases hg with hg | hg; exact hf hg; omega)).trans (h.block b hb hf)⟩
theorem lists_takeF {w : World} {B : Nat} {A : Option Addr} {xs : List Value} (h : Lists w B A xs) (k : Nat) : Lists w B A (xs.take k) :=
  ⟨fun ha => by rw [h.nil ha]; simp, fun a ha j u hu => h.cell a ha j u (by
    rw [List.getElem?_take] at hu
    split at hu
    · exact hu
    · cases hu), fun a ha hx => h.lt a ha (fun e => hx (by rw [e]; simp))⟩
theorem lists_row (w : World) (cs : List Value) (T : TypeId) : Lists (w.alloc (.cells cs.toArray T)) (w.heap.size + 1) (some ⟨w.heap.size, 0, none⟩) cs :=
  ⟨fun ha => (nomatch ha), fun a ha j u hu => by
    cases ha
    rw [addr_plain, World.cell?_alloc_new, Nat.zero_add, ← hu]
    rw [List.getElem?_toArray], fun a ha _ => by cases ha; simp⟩
theorem lists_row_at (w : World) (cs : List Value) (T : TypeId) (k : Nat) (hk : k = w.heap.size) : Lists (w.alloc (.cells cs.toArray T)) (k + 1) (some ⟨k, 0, none⟩) cs := hk ▸ lists_row w cs T
theorem results_row_tmp {P : Program} {fn : Func} {p u : Tmp} {ty : TypeId} (h : fn.results = #[.cell p ty, .tmp u]) (tmps : Array Value) (w : World) (g : Nat) (t : TypeId) (cs : Array Value) (fr : Nat × Nat) (d : TypeDesc) (v : Value)
    (hp : tmps.getD p undef = .pointer (some ⟨g, 0, none⟩)) (hv : tmps.getD u undef = v) (hg : w.heap[g]? = some (.cells cs t fr))
    (hu : P.underlying ty = some d) (hd : (match d with | .struct _ | .array _ _ => true | _ => false) = true) (hi : (P.info? ty).map (·.size) = some cs.size) :
    (results fn tmps).run P w = .ok (.tuple #[.agg cs, v]) w := by
  rw [results_cell_tmp h, hp, hv]
  simp [asAddr, Result.andThen, run_loadVar_row w g t ty cs fr d hg hu hd hi]
theorem results_row_tmp2 {P : Program} {fn : Func} {p u u2 : Tmp} {ty : TypeId} (h : fn.results = #[.cell p ty, .tmp u, .tmp u2]) (tmps : Array Value) (w : World) (g : Nat) (t : TypeId) (cs : Array Value) (fr : Nat × Nat) (d : TypeDesc) (v v2 : Value)
    (hp : tmps.getD p undef = .pointer (some ⟨g, 0, none⟩)) (hv : tmps.getD u undef = v) (hv2 : tmps.getD u2 undef = v2) (hg : w.heap[g]? = some (.cells cs t fr))
    (hu : P.underlying ty = some d) (hd : (match d with | .struct _ | .array _ _ => true | _ => false) = true) (hi : (P.info? ty).map (·.size) = some cs.size) :
    (results fn tmps).run P w = .ok (.tuple #[.agg cs, v, v2]) w := by
  have hp' : tmps[p]?.getD undef = .pointer (some ⟨g, 0, none⟩) := by simpa using hp
  have hv' : tmps[u]?.getD undef = v := by simpa using hv
  have hv2' : tmps[u2]?.getD undef = v2 := by simpa using hv2
  simp [results, h, hp', hv', hv2', Sem.run_bind, asAddr, Result.andThen, run_loadVar_row w g t ty cs fr d hg hu hd hi]
end Go.Proofs.Ytekailhghjideaa
