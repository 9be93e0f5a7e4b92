/- Part 2 of the proof: May, Fix4, Plan, Chain, Bytes, CvA. -/
import Derived.WalkKit
import Derived.Laws.EntriesVeiled
import Derived.Lib.Hide
import Derived.Test.YtlacjifnniahhaaCFl0

namespace Go.Proofs.Ytlacjifnniahhaa
open Go.RowKit

theorem all_take_snoc (f : Int → Bool) (zs : List Int) (k : Nat) (h : k < zs.length) : (zs.take (k + 1)).all f = ((zs.take k).all f && f (zs.getD k 0)) := by
  rw [List.take_succ_eq_append_getElem h, List.all_append]; simp [List.getD, h]

theorem all_false_of_take (f : Int → Bool) (zs : List Int) (k : Nat) (h : (zs.take k).all f = false) : zs.all f = false := by
  have e := List.take_append_drop k zs
  rw [← e, List.all_append, h, Bool.false_and]

theorem allMay_affine (b off len cap : Nat) (zs : List Int) (w : World) (hl : len = zs.length) (hm : len ≤ 9223372036854775807)
    (hc : ∀ j, j < zs.length → w.cell? ⟨b, off + j, none⟩ = some (.int .i64 (zs.getD j 0))) :
    Calls Try.prog 76 #[.slice (some ⟨b, off, none⟩) len cap] w fun e w' => e = .returned (.bool (zs.all mayB)) ∧ w = w' := by
  have HL : Hid (len = zs.length) := hl
  have HC : Hid (∀ j, j < zs.length → w.cell? ⟨b, off + j, none⟩ = some (.int .i64 (zs.getD j 0))) := hc
  clear hl hc
  go_enter Try.func76, Try.ntmps76
  go_wp2
  go_loop [4, 7] (fun _ i => ∃ k : Nat, k ≤ len ∧ i = .int .i64 k ∧ (zs.take k).all mayB = true) (fun _ i => len - (intOf i).toNat)
  case atStart => exact ⟨0, Nat.zero_le _, rfl, rfl⟩
  case round =>
    obtain ⟨k, hk, rfl, hall⟩ := hrel
    have HA : Hid ((zs.take k).all mayB = true) := hall
    clear hall
    by_cases hlt : k < len
    · have hcell : w.cell? ⟨b, off + k, none⟩ = some (.int .i64 (zs.getD k 0)) := HC.out k (by have := HL.out; omega)
      have hts := Hid.out (p := _) (all_take_snoc mayB zs k (by have := HL.out; omega))
      generalize hz : zs.getD k 0 = z at hcell hts
      have HT : Hid ((zs.take (k + 1)).all mayB = ((zs.take k).all mayB && mayB z)) := hts
      clear hts hz
      by_cases hmz : mayB z = true
      · go_wp2_with (go_at_call 29; refine (may_any z _).mono ?_; rintro e w' ⟨rfl, rfl⟩)
        go_round
        case rel => exact ⟨k + 1, by omega, by go_num, by rw [HT.out, HA.out, hmz]; rfl⟩
        case measure => simp [intOf]; omega
      · have hmf : mayB z = false := by simpa using hmz
        clear hmz
        go_wp2_with (go_at_call 29; refine (may_any z _).mono ?_; rintro e w' ⟨rfl, rfl⟩)
        go_ret
        refine ⟨?_, rfl⟩
        have := all_false_of_take mayB zs (k + 1) (by rw [HT.out, hmf, Bool.and_false])
        rw [this]; rfl
    · go_wp2
      go_ret
      refine ⟨?_, rfl⟩
      have : zs.all mayB = true := by rw [← HA.out, List.take_of_length_le (by have := HL.out; omega)]
      rw [this]; rfl

theorem allMay_nil_affine (cap : Nat) (a : Option Addr) (w : World) :
    Calls Try.prog 76 #[.slice a 0 cap] w fun e w' => e = .returned (.bool true) ∧ w = w' := by
  go_enter Try.func76, Try.ntmps76
  go_wp2
  refine wp_loop_rounds 1 ?_
  rw [rounds_succ]
  go_wp2
  go_ret
  exact ⟨rfl, rfl⟩

end Go.Proofs.Ytlacjifnniahhaa

namespace Go.Proofs.Ytlacjifnniahhaa
open Go.RowKit

theorem cells2 (w0 : World) (b : Nat) (hb : w0.heap.size = b) (x y : Int) (t : TypeId) (j : Nat) (hj : j < [x, y].length) :
    (w0.alloc (.cells #[.int .i64 x, .int .i64 y] t)).cell? ⟨b, 0 + j, none⟩ = some (.int .i64 ([x, y].getD j 0)) := by
  rw [World.cell?_alloc_at _ _ _ _ hb.symm]
  match j, hj with
  | 0, _ => rfl
  | 1, _ => rfl

theorem cells3 (w0 : World) (b : Nat) (hb : w0.heap.size = b) (x y z : Int) (t : TypeId) (j : Nat) (hj : j < [x, y, z].length) :
    (w0.alloc (.cells #[.int .i64 x, .int .i64 y, .int .i64 z] t)).cell? ⟨b, 0 + j, none⟩ = some (.int .i64 ([x, y, z].getD j 0)) := by
  rw [World.cell?_alloc_at _ _ _ _ hb.symm]
  match j, hj with
  | 0, _ => rfl
  | 1, _ => rfl
  | 2, _ => rfl

theorem all2 (x y : Int) : [x, y].all mayB = (mayB x && mayB y) := by simp
theorem all3 (x y z : Int) : [x, y, z].all mayB = (mayB x && mayB y && mayB z) := by simp [Bool.and_assoc]

/-- a result, if it may be -/
def outR (x : Int) : Int := if mayB x then x else 0
def outE (x : Int) : Int := if mayB x then 0 else 10

theorem mayB_lo {x : Int} (h : mayB x = true) : -2147483648 ≤ x := by unfold mayB at h; simp at h; exact h.1
theorem mayB_hi {x : Int} (h : mayB x = true) : x ≤ 2147483648 := by unfold mayB at h; simp at h; exact h.2

theorem below_next {w w1 w2 : World} (h : Below w.heap.size w w1) (g : Below w1.heap.size w1 w2) : Below w.heap.size w w2 := h.trans (g.mono h.size)
theorem below_a1 (w : World) (o : Obj) : Below w.heap.size w (w.alloc o) := (Below.refl _ _).alloc (Nat.le_refl _) o
theorem below_a2 (w : World) (o p : Obj) : Below w.heap.size w ((w.alloc o).alloc p) := (below_a1 w o).alloc (by simp) p
theorem below_a3 (w : World) (o p q : Obj) : Below w.heap.size w (((w.alloc o).alloc p).alloc q) := (below_a2 w o p).alloc (by simp; omega) q
theorem below_a4 (w : World) (o p q r : Obj) : Below w.heap.size w ((((w.alloc o).alloc p).alloc q).alloc r) := (below_a3 w o p q).alloc (by simp; omega) r
theorem below_a5 (w : World) (o p q r s : Obj) : Below w.heap.size w (((((w.alloc o).alloc p).alloc q).alloc r).alloc s) := (below_a4 w o p q r).alloc (by simp; omega) s

end Go.Proofs.Ytlacjifnniahhaa

namespace Go.Proofs.Ytlacjifnniahhaa
open Go

section
variable {P : Program} {ops : Array Oper} {Q : Exit → Act → World → Prop} {md : Region.Mode} {S : World → Prop}

/-- No way out but the normal one. -/
def NoWay : Exit → Act → World → Prop := fun _ _ _ => False

/-- Operation i, in every act that agrees on what it looks at, in every world that meets S: it yields v, and S holds behind it. -/
def StepC (P : Program) (ops : Array Oper) (S : World → Prop) (i : Nat) (o : Oper) (v : Value) (a : Act) : Prop :=
  ∀ a' w, (∀ t ∈ o.looksAt ops, a'.tmps[t]? = a.tmps[t]?) → S w → wpOp P ops NoWay i (fun b w' => S w' ∧ b = a'.put o.dst v) a' w

theorem exec_agree (o : Oper) (hs : ∀ cs b, o.op ≠ .select cs b) {a a' : Act} (h : ∀ t ∈ o.looksAt ops, a'.tmps[t]? = a.tmps[t]?) : execOp a'.eval o = execOp a.eval o :=
  execOp_congr o hs fun x hx => by
    cases x with
    | tmp t =>
      have := h t (List.mem_append_left _ (List.mem_filterMap.2 ⟨.tmp t, by simpa using hx, rfl⟩))
      simp [Act.eval, this]
    | _ => rfl

theorem wanted_agree (o : Oper) {a a' : Act} (h : ∀ t ∈ o.looksAt ops, a'.tmps[t]? = a.tmps[t]?) : Region.wanted o (yielded ops a'.tmps) = Region.wanted o (yielded ops a.tmps) := by
  unfold Region.wanted
  cases hg : o.guard with
  | none => rfl
  | some gw =>
    obtain ⟨g, want⟩ := gw
    have hy : yielded ops a'.tmps g = yielded ops a.tmps g := by
      unfold yielded
      cases ht : (ops[g]?).bind (·.dst) with
      | none => rfl
      | some t => simp [h t (by simp [Oper.looksAt, hg, ht])]
    simp only [hy]

/-- The walk in one order; it serves for all. 'last': an operation that waits for all others (none, if there is no such number). -/
inductive Plan (P : Program) (md : Region.Mode) (ops : Array Oper) (Q : Exit → Act → World → Prop) (S : World → Prop) (last : Nat) : Nat → Array Bool → Act → Prop
  | done {n : Nat} {listed : Array Bool} {a : Act} (hr : Region.ready md ops listed = []) (h : ∀ w, S w → Q .normal a w) : Plan P md ops Q S last n listed a
  | stop {n : Nat} {listed : Array Bool} {a : Act} (hr : Region.ready md ops listed = [last]) (hf : Region.ready md ops (listed.setIfInBounds last true) = [])
      (h : ∀ w, S w → wpOp P ops Q last (Q .normal) a w) : Plan P md ops Q S last (n + 1) listed a
  | take {n : Nat} {listed : Array Bool} {a : Act} (i : Nat) (o : Oper) (v : Value) (hi : ops[i]? = some o) (hne : i ≠ last) (hf : Region.free md ops listed i = true) (hr : i ∈ Region.ready md ops listed)
      (hs : StepC P ops S i o v a) (h : Plan P md ops Q S last n (listed.setIfInBounds i true) (a.put o.dst v)) : Plan P md ops Q S last (n + 1) listed a

theorem put_agree {o : Oper} {dst : Option Tmp} (h : ∀ d, dst = some d → d ∉ o.looksAt ops) (a : Act) (v : Value) : ∀ t ∈ o.looksAt ops, (a.put dst v).tmps[t]? = a.tmps[t]? := by
  intro t ht
  cases dst with
  | none => rfl
  | some d =>
    have hne : d ≠ t := fun e => h d rfl (e ▸ ht)
    simp [Act.put, Array.getElem?_setIfInBounds_ne hne]

theorem free_set {i j : Nat} {listed : Array Bool} (h : Region.free md ops listed i = true) : Region.free md ops (listed.setIfInBounds j true) i = true := by
  unfold Region.free at *
  split at h
  · exact absurd h (by simp)
  · rename_i oi hoi
    simp only [List.all_eq_true, List.mem_range] at h ⊢
    intro k hk
    have := h k hk
    by_cases hjk : j = k
    · subst hjk
      by_cases hl : j < listed.size
      · simp [hl]
      · simp only [Array.setIfInBounds, hl, dite_false]; exact this
    · rw [getD_set_ne true hjk]; exact this

/-- Whatever may come up could have come up first. -/
theorem Plan.first {last n : Nat} {listed : Array Bool} {a : Act} (h : Plan P md ops Q S last n listed a) : ∀ j, j ∈ Region.ready md ops listed → j ≠ last →
    ∃ m oj u, n = m + 1 ∧ ops[j]? = some oj ∧ StepC P ops S j oj u a ∧ Plan P md ops Q S last m (listed.setIfInBounds j true) (a.put oj.dst u) := by
  induction h with
  | done hr h => intro j hj; rw [hr] at hj; cases hj
  | stop hr hf h => intro j hj hne; rw [hr] at hj; exact absurd (by simpa using hj) hne
  | @take n listed a i o v hi hne hf hr hs h ih =>
    intro j hj hjl
    by_cases hji : j = i
    · subst hji; exact ⟨_, o, v, rfl, hi, hs, h⟩
    · obtain ⟨m, oj, u, rfl, hoj, hsj, hp⟩ := ih j (ready_mono hj hji) hjl
      obtain ⟨hjun, oj', hoj', hall⟩ := mem_ready.1 hj
      obtain rfl : oj' = oj := by rw [hoj] at hoj'; exact (Option.some.inj hoj').symm
      have hnot : ∀ e ∈ oj'.after, Region.binds md e = true → e.on ≠ i := fun e he hb heq => by
        have h1 := hall e he hb
        have h0 := (mem_ready.1 hr).1
        rw [heq] at h1
        rcases Nat.lt_or_ge i listed.size with h' | h'
        · simp [h'] at h0 h1; rw [h0] at h1; cases h1
        · simp [Array.getElem?_eq_none h'] at h1
      obtain ⟨h1, h2, h3⟩ := Oper.apart_spec (Region.free_spec hi hf j oj' hoj hji hjun hnot)
      refine ⟨m + 1, oj', u, rfl, hoj, fun a' w hag hS => hsj a' w (fun t ht => (hag t ht).trans (put_agree h1 a v t ht).symm) hS, ?_⟩
      refine Plan.take i o v hi hne (free_set hf) (ready_mono hr (Ne.symm hji)) (fun a' w hag hS => hs a' w (fun t ht => (hag t ht).trans (put_agree h3 a u t ht)) hS) ?_
      rw [Array.setIfInBounds_comm _ _ hji, ← Act.put_comm a v u h2]
      exact hp

theorem wpOp_imp {i : Nat} {a : Act} {w : World} {K K' : Act → World → Prop} (hK : ∀ a w, K a w → K' a w) (h : wpOp P ops NoWay i K a w) : wpOp P ops Q i K' a w := by
  have h := wpOp_mono (P := P) (ops := ops) (Q := NoWay) hK h
  unfold wpOp at *
  split
  · simpa [*] using h
  · rename_i o ho
    simp only [ho] at h
    split
    · rename_i hw
      simp only [hw, if_true] at h
      rcases h with h | ⟨_, _, _, h⟩
      case inr => exact h.elim
      refine .inl ?_
      unfold Oper.wp at *
      generalize (execOp a.eval o).run P w = r at *
      cases r with
      | ok n w' =>
        cases n <;> simp only [Oper.upon] at h ⊢ <;> try exact h
        case enter f args =>
          refine Calls.mono h fun e w'' he => ?_
          cases e with
          | returned u => exact he
          | panicked c => exact (he : False).elim
          | outgrown => obtain ⟨_, _, he⟩ := he; exact (he : False).elim
      | halt x w' =>
        cases x <;> simp only [Oper.upon] at h ⊢
        case panic u => exact (h : False).elim
    · rename_i hw
      simp only [hw] at h
      exact h

/-- What is listed, so is all that it waits for. -/
def DC (md : Region.Mode) (ops : Array Oper) (listed : Array Bool) : Prop :=
  ∀ k o, ops[k]? = some o → listed.getD k false = true → ∀ e ∈ o.after, Region.binds md e = true → listed.getD e.on false = true

theorem DC.set {listed : Array Bool} {j : Nat} (h : DC md ops listed) (hj : j ∈ Region.ready md ops listed) : DC md ops (listed.setIfInBounds j true) := by
  intro k o hk hl e he hb
  obtain ⟨_, o', ho', hall⟩ := mem_ready.1 hj
  by_cases hjk : j = k
  · subst hjk
    obtain rfl : o' = o := by rw [ho'] at hk; exact Option.some.inj hk
    exact getD_set_true (hall e he hb)
  · rw [getD_set_ne false hjk] at hl
    exact getD_set_true (h k o hk hl e he hb)

theorem DC.none (n : Nat) : DC md ops (Array.replicate n false) := by
  intro k o _ hl
  by_cases h : k < n <;> simp [h] at hl

/-- 'last' comes up only when nothing else may. -/
def Alone (md : Region.Mode) (ops : Array Oper) (last : Nat) : Prop := ∀ listed, DC md ops listed → last ∈ Region.ready md ops listed → ∀ i ∈ Region.ready md ops listed, i = last

theorem Plan.any {last : Nat} (hL : Alone md ops last) : ∀ (fuel n : Nat) (listed : Array Bool) (a : Act), DC md ops listed → n ≤ fuel → Plan P md ops Q S last n listed a → ∀ w, S w → wpAny P md ops Q fuel listed a w
  | 0, n, listed, a, _, hn, h, w, hS => by
    cases h with
    | done hr h => exact ⟨hr, h w hS⟩
    | stop => omega
    | take => omega
  | fuel + 1, n, listed, a, hd, hn, h, w, hS => by
    refine ⟨fun hr => ?_, fun j hj => ?_⟩
    · cases h with
      | done _ h => exact h w hS
      | stop hr' => rw [hr] at hr'; cases hr'
      | take i o v hi hne hf hr' => rw [hr] at hr'; cases hr'
    · by_cases hjl : j = last
      · subst hjl
        cases h with
        | done hr => rw [hr] at hj; cases hj
        | stop hr hf h => exact wpOp_mono (fun a' w' hq => wpAny_done hf hq fuel) (h w hS)
        | take i o v hi hne hf hr' => exact absurd (hL listed hd hj i hr') hne
      · obtain ⟨m, oj, u, rfl, hoj, hsj, hp⟩ := h.first j hj hjl
        exact wpOp_imp (fun a' w' ⟨hS', he⟩ => by subst he; exact Plan.any hL fuel m _ _ (hd.set hj) (by omega) hp w' hS') (hsj a w (fun _ _ => rfl) hS)

theorem alone_none : Alone md ops ops.size := by
  intro listed _ h
  obtain ⟨_, o, ho, _⟩ := mem_ready.1 h
  simp at ho

/-- From operation k down: what those that are marked wait for is marked. -/
def markDown (md : Region.Mode) (ops : Array Oper) : Nat → Array Bool → Array Bool
  | 0, m => m
  | k + 1, m => markDown md ops k (match ops[k]? with
    | some o => if m.getD k false then (o.after.toList.filter (Region.binds md)).foldl (fun m e => m.setIfInBounds e.on true) m else m
    | none => m)

theorem markDown_spec {listed : Array Bool} (hd : DC md ops listed) : ∀ (k : Nat) (m : Array Bool), (∀ j, m.getD j false = true → listed.getD j false = true) → ∀ j, (markDown md ops k m).getD j false = true → listed.getD j false = true
  | 0, m, h => h
  | k + 1, m, h => by
    refine markDown_spec hd k _ ?_
    split
    · rename_i o ho
      split
      · rename_i hk
        have hall : ∀ e ∈ o.after.toList.filter (Region.binds md), listed.getD e.on false = true := fun e he => by
          rw [List.mem_filter] at he
          exact hd k o ho (h k hk) e (by simpa using he.1) he.2
        generalize o.after.toList.filter (Region.binds md) = es at hall
        clear hk
        induction es generalizing m with
        | nil => exact h
        | cons e es ih =>
          refine ih (m.setIfInBounds e.on true) (fun j hj => ?_) (fun e' he' => hall e' (List.mem_cons_of_mem _ he'))
          by_cases hej : e.on = j
          · subst hej; exact hall e List.mem_cons_self
          · rw [getD_set_ne false hej] at hj; exact h j hj
      · exact h
    · exact h

/-- The last operation of the text waits for all others. -/
def lastOk (md : Region.Mode) (ops : Array Oper) : Bool :=
  (List.range ops.size).all fun k => (markDown md ops ops.size ((Array.replicate ops.size false).setIfInBounds (ops.size - 1) true)).getD k false

theorem alone_last (h : lastOk md ops = true) : Alone md ops (ops.size - 1) := by
  intro listed hd hl i hi
  have hd' := hd.set hl
  have h0 : ∀ j, ((Array.replicate ops.size false).setIfInBounds (ops.size - 1) true).getD j false = true → (listed.setIfInBounds (ops.size - 1) true).getD j false = true := by
    intro j hj
    by_cases hjl : ops.size - 1 = j
    · subst hjl
      have := (mem_ready.1 hl).1
      rcases Nat.lt_or_ge (ops.size - 1) listed.size with h' | h'
      · simp [h']
      · simp [Array.getElem?_eq_none h'] at this
    · rw [getD_set_ne false hjl] at hj
      by_cases h2 : j < ops.size <;> simp [h2] at hj
  obtain ⟨hiun, o, ho, _⟩ := mem_ready.1 hi
  have hlt : i < ops.size := (Array.getElem?_eq_some_iff.1 ho).1
  unfold lastOk at h
  simp only [List.all_eq_true, List.mem_range] at h
  have := markDown_spec hd' _ _ h0 i (h i hlt)
  by_cases hil : i = ops.size - 1
  · exact hil
  · rw [getD_set_ne false (Ne.symm hil)] at this
    rcases Nat.lt_or_ge i listed.size with h' | h'
    · simp [h'] at this hiun; rw [hiun] at this; cases this
    · simp [Array.getElem?_eq_none h'] at hiun

/-- One operation at the act at hand: not wanted; or it yields v, by itself or by a call, and S holds behind it. -/
def StepV (P : Program) (ops : Array Oper) (S : World → Prop) (o : Oper) (v : Value) (a : Act) : Prop :=
  (Region.wanted o (yielded ops a.tmps) = false ∧ v = undef) ∨ (Region.wanted o (yielded ops a.tmps) = true ∧ ∀ w, S w →
    (∃ w', (execOp a.eval o).run P w = .ok (.value v) w' ∧ S w') ∨ (∃ f args w1, (execOp a.eval o).run P w = .ok (.enter f args) w1 ∧ Calls P f args w1 fun e w' => e = .returned v ∧ S w'))

theorem StepV.stepC {i : Nat} {o : Oper} {v : Value} {a : Act} (hi : ops[i]? = some o) (hns : ∀ cs b, o.op ≠ .select cs b) (h : StepV P ops S o v a) : StepC P ops S i o v a := by
  intro a' w hag hS
  unfold wpOp
  simp only [hi]
  rw [wanted_agree o hag]
  rcases h with ⟨hw, rfl⟩ | ⟨hw, h⟩
  · rw [hw]
    exact ⟨hS, rfl⟩
  · rw [hw, if_pos rfl]
    refine .inl ?_
    unfold Oper.wp
    rw [exec_agree o hns hag]
    rcases h w hS with ⟨w', h1, h2⟩ | ⟨f, args, w1, h1, h2⟩
    · rw [h1]; exact ⟨h2, rfl⟩
    · rw [h1]
      refine h2.mono fun e w' ⟨g1, g2⟩ => ?_
      subst g1
      exact ⟨g2, rfl⟩

/-- The region's text, from operation i on; E: what is asked behind it. -/
def PlanL (P : Program) (ops : Array Oper) (E : Act → World → Prop) (S : World → Prop) : List Oper → Act → Prop
  | [], a => ∀ w, S w → E a w
  | o :: os, a => ∃ v, StepV P ops S o v a ∧ PlanL P ops E S os (a.put o.dst v)

/-- The first i of n are listed. -/
def firstOf (n i : Nat) : Array Bool := (List.replicate i true ++ List.replicate (n - i) false).toArray

/-- Each of the first m operations may come up when those ahead of it in the text have, and no other one touches what it does. -/
def frontOk (md : Region.Mode) (ops : Array Oper) (m : Nat) : Bool :=
  Region.noSelect ops && (List.range m).all (fun i => Region.free md ops (firstOf ops.size i) i && (Region.ready md ops (firstOf ops.size i)).contains i)
def planOk (md : Region.Mode) (ops : Array Oper) : Bool := frontOk md ops ops.size && (Region.ready md ops (firstOf ops.size ops.size)).isEmpty
def planLastOk (md : Region.Mode) (ops : Array Oper) : Bool :=
  frontOk md ops (ops.size - 1) && (Region.ready md ops (firstOf ops.size (ops.size - 1)) == [ops.size - 1]) && (Region.ready md ops (firstOf ops.size ops.size)).isEmpty && lastOk md ops

theorem firstOf_set {n i : Nat} (h : i < n) : (firstOf n i).setIfInBounds i true = firstOf n (i + 1) := by
  unfold firstOf
  obtain ⟨m, rfl⟩ : ∃ m, n = i + 1 + m := ⟨n - (i + 1), by omega⟩
  rw [show i + 1 + m - i = m + 1 by omega, show i + 1 + m - (i + 1) = m by omega]
  rw [List.setIfInBounds_toArray]
  congr 1
  rw [List.set_append_right _ _ (by simp)]
  simp only [List.length_replicate, Nat.sub_self, List.replicate_succ, List.set_cons_zero]
  rw [show List.replicate i true ++ true :: List.replicate m false = (List.replicate i true ++ [true]) ++ List.replicate m false by simp, ← List.replicate_succ', List.replicate_succ]

theorem PlanL.plan {m last : Nat} {E : Act → World → Prop} (hok : frontOk md ops m = true) (hm : m ≤ ops.size) (hlast : m ≤ last) {k : Nat}
    (hend : ∀ a, (∀ w, S w → E a w) → Plan P md ops Q S last k (firstOf ops.size m) a) :
    ∀ (l : List Oper) (i : Nat) (a : Act), (ops.toList.take m).drop i = l → i ≤ m → PlanL P ops E S l a → Plan P md ops Q S last (m - i + k) (firstOf ops.size i) a
  | [], i, a, hl, hi, h => by
    have : m ≤ i := by
      have := congrArg List.length hl
      simp at this
      omega
    obtain rfl : i = m := by omega
    rw [Nat.sub_self, Nat.zero_add]
    exact hend a h
  | o :: os, i, a, hl, hi, h => by
    obtain ⟨v, hs, hr⟩ := h
    have hlt : i < m := by
      rcases Nat.lt_or_ge i m with h | h
      · exact h
      · rw [List.drop_eq_nil_of_le (by simp; omega)] at hl; cases hl
    have hio : ops[i]? = some o := by
      have h0 := congrArg (fun l => l[0]?) hl
      simp [hlt] at h0
      simpa using h0
    have hok' := hok
    unfold frontOk at hok'
    simp only [Bool.and_eq_true, List.all_eq_true, List.mem_range] at hok'
    have h1 := hok'.2 i hlt
    rw [show m - i + k = (m - (i + 1) + k) + 1 by omega]
    refine Plan.take i o v hio (by omega) h1.1 (by simpa using h1.2) (hs.stepC hio fun cs b => Region.noSelect_spec hok'.1 i o cs b hio) ?_
    rw [firstOf_set (by omega)]
    refine PlanL.plan hok hm hlast hend os (i + 1) _ ?_ hlt hr
    rw [← List.drop_drop, hl]; rfl

/-- THE LAW: a region that draws its order, walked in the order of its text. -/
theorem wp_region_plan {id : Nat} {a : Act} {w : World} (S : World → Prop) (l : List Oper) (hl : ops.toList = l) (hm : P.follows .mixedOrders = true) (hok : planOk .any ops = true) (hS : S w.drew)
    (h : PlanL P ops (Q .normal) S l a) : (Code.region id ops true).wp P Q a w := by
  refine wp_region_any hm ?_
  unfold planOk at hok
  simp only [Bool.and_eq_true, List.isEmpty_iff] at hok
  have := PlanL.plan (Q := Q) (k := 0) hok.1 (Nat.le_refl _) (Nat.le_refl _) (fun a h => Plan.done hok.2 h) l 0 a (by rw [List.drop_zero, List.take_of_length_le (by simp)]; exact hl) (Nat.zero_le _) h
  refine Plan.any alone_none ops.size (ops.size - 0 + 0) _ a (DC.none _) (by omega) ?_ w.drew hS
  rw [show Array.replicate ops.size false = firstOf ops.size 0 by simp [firstOf]]
  exact this

/-- A list but its last element, and that one. -/
def splitLast : List Oper → Option (List Oper × Oper)
  | [] => none
  | [x] => some ([], x)
  | x :: y :: r => match splitLast (y :: r) with
    | some (l, z) => some (x :: l, z)
    | none => none

theorem splitLast_eq : ∀ {l f : List Oper} {z : Oper}, splitLast l = some (f, z) → l = f ++ [z]
  | [], f, z, h => by simp [splitLast] at h
  | [x], f, z, h => by
    simp only [splitLast, Option.some.injEq, Prod.mk.injEq] at h
    obtain ⟨rfl, rfl⟩ := h
    rfl
  | x :: y :: r, f, z, h => by
    simp only [splitLast] at h
    cases hs : splitLast (y :: r) with
    | none => rw [hs] at h; cases h
    | some p =>
      rw [hs] at h
      simp only [Option.some.injEq, Prod.mk.injEq] at h
      obtain ⟨rfl, rfl⟩ := h
      rw [splitLast_eq (l := y :: r) (f := p.1) (z := p.2) hs]
      rfl

/-- THE SAME where the last operation waits for all others and may change S. -/
theorem wp_region_last {id : Nat} {a : Act} {w : World} (S : World → Prop) (l : List Oper) (o : Oper) (hl0 : splitLast ops.toList = some (l, o)) (hm : P.follows .mixedOrders = true) (hok : planLastOk .any ops = true)
    (hg : o.guard = none) (hS : S w.drew) (h : PlanL P ops (fun a w => o.wp P a w (Q .normal) Q) S l a) : (Code.region id ops true).wp P Q a w := by
  refine wp_region_any hm ?_
  unfold planLastOk at hok
  simp only [Bool.and_eq_true, List.isEmpty_iff, beq_iff_eq] at hok
  have hl := splitLast_eq hl0
  have hn : ops.size = l.length + 1 := by
    have := congrArg List.length hl
    simpa using this
  have ho : ops[ops.size - 1]? = some o := by
    have : ops.toList[ops.size - 1]? = some o := by rw [hl, show ops.size - 1 = l.length by omega]; simp
    simpa using this
  have hw : ∀ y, Region.wanted o y = true := fun y => by unfold Region.wanted; rw [hg]
  have := PlanL.plan (P := P) (Q := Q) (S := S) (last := ops.size - 1) (k := 1) hok.1.1.1 (by omega) (Nat.le_refl _) (fun a h => Plan.stop hok.1.1.2 (by rw [firstOf_set (by omega), show ops.size - 1 + 1 = ops.size by omega]; exact hok.1.2)
    (fun w hS => by unfold wpOp; simp only [ho]; rw [hw, if_pos rfl]; exact .inl (h w hS))) l 0 a (by rw [hl, show ops.size - 1 = l.length by omega]; simp) (Nat.zero_le _) h
  refine Plan.any (alone_last hok.2) ops.size (ops.size - 1 - 0 + 1) _ a (DC.none _) (by omega) ?_ w.drew hS
  rw [show Array.replicate ops.size false = firstOf ops.size 0 by simp [firstOf]]
  exact this

variable {E : Act → World → Prop}
/-- An operation that yields v and lets the world be. -/
theorem PlanL.val {o : Oper} {os : List Oper} {a : Act} {v : Value} (hw : Region.wanted o (yielded ops a.tmps) = true)
    (h : ∀ w, S w → (execOp a.eval o).run P w = .ok (.value v) w) (hr : PlanL P ops E S os (a.put o.dst v)) : PlanL P ops E S (o :: os) a :=
  ⟨v, .inr ⟨hw, fun w hS => .inl ⟨w, h w hS, hS⟩⟩, hr⟩

/-- One that is not wanted. -/
theorem PlanL.skip {o : Oper} {os : List Oper} {a : Act} (hw : Region.wanted o (yielded ops a.tmps) = false) (hr : PlanL P ops E S os (a.put o.dst undef)) : PlanL P ops E S (o :: os) a :=
  ⟨undef, .inl ⟨hw, rfl⟩, hr⟩

/-- A call of a function by its contract: it returns v, and keeps S. -/
theorem PlanL.call {o : Oper} {os : List Oper} {a : Act} {v : Value} {f : FuncId} {args : Array Value} (hw : Region.wanted o (yielded ops a.tmps) = true)
    (he : ∀ w, S w → (execOp a.eval o).run P w = .ok (.enter f args) w) (h : ∀ w, S w → Calls P f args w fun e w' => e = .returned v ∧ S w')
    (hr : PlanL P ops E S os (a.put o.dst v)) : PlanL P ops E S (o :: os) a :=
  ⟨v, .inr ⟨hw, fun w hS => .inr ⟨f, args, w, he w hS, h w hS⟩⟩, hr⟩

/-- An operation that changes the world, and keeps S. -/
theorem PlanL.does {o : Oper} {os : List Oper} {a : Act} {v : Value} (hw : Region.wanted o (yielded ops a.tmps) = true)
    (h : ∀ w, S w → ∃ w', (execOp a.eval o).run P w = .ok (.value v) w' ∧ S w') (hr : PlanL P ops E S os (a.put o.dst v)) : PlanL P ops E S (o :: os) a :=
  ⟨v, .inr ⟨hw, fun w hS => .inl (h w hS)⟩, hr⟩

theorem PlanL.nil {a : Act} (h : ∀ w, S w → E a w) : PlanL P ops E S [] a := h
end

end Go.Proofs.Ytlacjifnniahhaa

namespace Go.Proofs.Ytlacjifnniahhaa
open Go Go.RowKit
set_option linter.unusedVariables false
set_option linter.unusedSimpArgs false

section
variable {P : Program} {ops : Array Oper} {Q : Exit → Act → World → Prop} {md : Region.Mode} {I : World → Prop}

/-- Operation o, in every act that agrees on what it looks at, in every world that meets I: it yields v, and the world stays. -/
def StepI (P : Program) (ops : Array Oper) (I : World → Prop) (o : Oper) (v : Value) (a : Act) : Prop :=
  ∀ (a' : Act) (w : World), (∀ t ∈ o.looksAt ops, a'.tmps[t]? = a.tmps[t]?) → I w →
    (Region.wanted o (yielded ops a'.tmps) = false ∧ v = undef) ∨ (Region.wanted o (yielded ops a'.tmps) = true ∧ (execOp a'.eval o).run P w = .ok (.value v) w)

/-- Operation o at this act and world: it is wanted, and yields a value, by itself or by a call; K holds of it and of the world behind it. -/
def StepO (P : Program) (ops : Array Oper) (o : Oper) (a : Act) (w : World) (K : Value → World → Prop) : Prop :=
  Region.wanted o (yielded ops a.tmps) = true ∧ ((∃ v w', (execOp a.eval o).run P w = .ok (.value v) w' ∧ K v w') ∨ (∃ f args w1, (execOp a.eval o).run P w = .ok (.enter f args) w1 ∧ Calls P f args w1 fun e w' => ∃ v, e = .returned v ∧ K v w') ∨ (∃ w', (execOp a.eval o).run P w = .ok .skip w' ∧ K undef w'))

theorem StepO.mono {o : Oper} {a : Act} {w : World} {K K' : Value → World → Prop} (h : StepO P ops o a w K) (hK : ∀ v w', K v w' → K' v w') : StepO P ops o a w K' := by
  obtain ⟨hw, h | h | h⟩ := h
  · obtain ⟨v, w', h1, h2⟩ := h
    exact ⟨hw, .inl ⟨v, w', h1, hK _ _ h2⟩⟩
  · obtain ⟨f, args, w1, h1, h2⟩ := h
    exact ⟨hw, .inr (.inl ⟨f, args, w1, h1, h2.mono fun e w' ⟨v, h3, h4⟩ => ⟨v, h3, hK _ _ h4⟩⟩)⟩
  · obtain ⟨w', h1, h2⟩ := h
    exact ⟨hw, .inr (.inr ⟨w', h1, hK _ _ h2⟩)⟩
theorem StepO.move {o : Oper} (hns : ∀ cs b, o.op ≠ .select cs b) {a a' : Act} {w : World} {K : Value → World → Prop} (h : StepO P ops o a w K) (hag : ∀ t ∈ o.looksAt ops, a'.tmps[t]? = a.tmps[t]?) : StepO P ops o a' w K := by
  unfold StepO at *
  rw [wanted_agree o hag, exec_agree o hns hag]
  exact h
theorem StepO.wpOp {i : Nat} {o : Oper} (hi : ops[i]? = some o) {a : Act} {w : World} {K : Act → World → Prop} (h : StepO P ops o a w fun v w' => K (a.put o.dst v) w') : wpOp P ops Q i K a w := by
  obtain ⟨hw, h⟩ := h
  unfold Go.wpOp
  simp only [hi]
  rw [hw, if_pos rfl]
  refine .inl ?_
  unfold Oper.wp
  rcases h with ⟨v, w', h1, h2⟩ | ⟨f, args, w1, h1, h2⟩ | ⟨w', h1, h2⟩
  · rw [h1]; exact h2
  · rw [h1]
    refine h2.mono fun e w' ⟨v, h3, h4⟩ => ?_
    subst h3
    exact h4
  · rw [h1]; exact h2

/-- One order: what only reads may be taken as soon as it is ready; what changes the world, when nothing else is ready. -/
inductive PlanC (P : Program) (md : Region.Mode) (ops : Array Oper) (Q : Exit → Act → World → Prop) (I : World → Prop) (last : Nat) : Nat → Array Bool → Act → World → Prop
  | done {n : Nat} {listed : Array Bool} {a : Act} {w : World} (hr : Region.ready md ops listed = []) (h : Q .normal a w) : PlanC P md ops Q I last n listed a w
  | stop {n : Nat} {listed : Array Bool} {a : Act} {w : World} (hr : Region.ready md ops listed = [last]) (hf : Region.ready md ops (listed.setIfInBounds last true) = []) (h : wpOp P ops Q last (Q .normal) a w) : PlanC P md ops Q I last (n + 1) listed a w
  | take {n : Nat} {listed : Array Bool} {a : Act} {w : World} (i : Nat) (o : Oper) (v : Value) (hi : ops[i]? = some o) (hne : i ≠ last) (hf : Region.free md ops listed i = true) (hr : i ∈ Region.ready md ops listed)
      (hs : StepI P ops I o v a) (h : PlanC P md ops Q I last n (listed.setIfInBounds i true) (a.put o.dst v) w) : PlanC P md ops Q I last (n + 1) listed a w
  | step {n : Nat} {listed : Array Bool} {a : Act} {w : World} (i : Nat) (o : Oper) (hi : ops[i]? = some o) (hne : i ≠ last) (hr : Region.ready md ops listed = [i])
      (K : Value → World → Prop) (hs : StepO P ops o a w K) (hI : ∀ v w', K v w' → I w') (h : ∀ v w', K v w' → PlanC P md ops Q I last n (listed.setIfInBounds i true) (a.put o.dst v) w') : PlanC P md ops Q I last (n + 1) listed a w

theorem StepI.move {o : Oper} {v : Value} {a a1 : Act} (h : StepI P ops I o v a) (hag : ∀ t ∈ o.looksAt ops, a1.tmps[t]? = a.tmps[t]?) : StepI P ops I o v a1 :=
  fun a' w ha hI => h a' w (fun t ht => (ha t ht).trans (hag t ht)) hI

/-- Whatever may come up could have come up first. -/
theorem PlanC.first (hns : ∀ (i : Nat) (o : Oper) cs b, ops[i]? = some o → o.op ≠ .select cs b) {n last : Nat} {listed : Array Bool} {a : Act} {w : World} (h : PlanC P md ops Q I last n listed a w) : ∀ j, j ∈ Region.ready md ops listed → j ≠ last →
    ∃ m oj, n = m + 1 ∧ ops[j]? = some oj ∧ ((∃ u, StepI P ops I oj u a ∧ PlanC P md ops Q I last m (listed.setIfInBounds j true) (a.put oj.dst u) w) ∨
      (∃ K : Value → World → Prop, StepO P ops oj a w K ∧ (∀ v w', K v w' → I w') ∧ ∀ v w', K v w' → PlanC P md ops Q I last m (listed.setIfInBounds j true) (a.put oj.dst v) w')) := by
  induction h with
  | done hr h => intro j hj; rw [hr] at hj; cases hj
  | stop hr hf h => intro j hj hne; rw [hr] at hj; exact absurd (by simpa using hj) hne
  | step i o hi hne hr K hs hI h =>
    intro j hj _
    rw [hr] at hj
    obtain rfl : j = i := by simpa using hj
    exact ⟨_, o, rfl, hi, .inr ⟨K, hs, hI, h⟩⟩
  | @take n listed a w i o v hi hne hf hr hs h ih =>
    intro j hj hjl
    by_cases hji : j = i
    · subst hji; exact ⟨_, o, rfl, hi, .inl ⟨v, hs, h⟩⟩
    · obtain ⟨m, oj, rfl, hoj, hh⟩ := ih j (ready_mono hj hji) hjl
      obtain ⟨hjun, oj', hoj', hall⟩ := mem_ready.1 hj
      obtain rfl : oj' = oj := by rw [hoj] at hoj'; exact (Option.some.inj hoj').symm
      have hnot : ∀ e ∈ oj'.after, Region.binds md e = true → e.on ≠ i := fun e he hb heq => by
        have h1 := hall e he hb
        have h0 := (mem_ready.1 hr).1
        rw [heq] at h1
        rcases Nat.lt_or_ge i listed.size with h' | h'
        · simp [h'] at h0 h1; rw [h0] at h1; cases h1
        · simp [Array.getElem?_eq_none h'] at h1
      obtain ⟨h1, h2, h3⟩ := Oper.apart_spec (Region.free_spec hi hf j oj' hoj hji hjun hnot)
      refine ⟨m + 1, oj', rfl, hoj, ?_⟩
      have hst : ∀ u, StepI P ops I o v (a.put oj'.dst u) := fun u => hs.move (put_agree h3 a u)
      rcases hh with ⟨u, hsj, hp⟩ | ⟨K, hsj, hKI, hp⟩
      · refine .inl ⟨u, hsj.move fun t ht => (put_agree h1 a v t ht).symm, ?_⟩
        refine PlanC.take i o v hi hne (free_set hf) (ready_mono hr (Ne.symm hji)) (hst u) ?_
        rw [Array.setIfInBounds_comm _ _ hji, ← Act.put_comm a v u h2]
        exact hp
      · refine .inr ⟨K, hsj.move (hns j oj' · · hoj) fun t ht => (put_agree h1 a v t ht).symm, hKI, fun u w' hK => ?_⟩
        refine PlanC.take i o v hi hne (free_set hf) (ready_mono hr (Ne.symm hji)) (hst u) ?_
        rw [Array.setIfInBounds_comm _ _ hji, ← Act.put_comm a v u h2]
        exact hp u w' hK

theorem PlanC.any {last : Nat} (hL : Alone md ops last) (hns : ∀ (i : Nat) (o : Oper) cs b, ops[i]? = some o → o.op ≠ .select cs b) : ∀ (fuel n : Nat) (listed : Array Bool) (a : Act) (w : World), DC md ops listed → n ≤ fuel → I w → PlanC P md ops Q I last n listed a w → wpAny P md ops Q fuel listed a w
  | 0, n, listed, a, w, _, hn, hI, h => by
    cases h with
    | done hr h => exact ⟨hr, h⟩
    | stop => omega
    | take => omega
    | step => omega
  | fuel + 1, n, listed, a, w, hd, hn, hI, h => by
    refine ⟨fun hr => ?_, fun j hj => ?_⟩
    · cases h with
      | done _ h => exact h
      | stop hr' => rw [hr] at hr'; cases hr'
      | take i o v hi hne hf hr' => rw [hr] at hr'; cases hr'
      | step i o hi hne hr' => rw [hr] at hr'; cases hr'
    · by_cases hjl : j = last
      · subst hjl
        cases h with
        | done hr => rw [hr] at hj; cases hj
        | stop hr hf h => exact wpOp_mono (fun a' w' hq => wpAny_done hf hq fuel) h
        | take i o v hi hne hf hr' => exact absurd (hL listed hd hj i hr') hne
        | step i o hi hne hr' => exact absurd (hL listed hd hj i (by rw [hr']; simp)) hne
      · obtain ⟨m, oj, rfl, hoj, hh⟩ := h.first hns j hj hjl
        rcases hh with ⟨u, hsj, hp⟩ | ⟨K, hsj, hKI, hp⟩
        · have hrec := PlanC.any hL hns fuel m _ _ w (hd.set hj) (by omega) hI hp
          unfold wpOp
          simp only [hoj]
          rcases hsj a w (fun _ _ => rfl) hI with ⟨hw, rfl⟩ | ⟨hw, hrun⟩
          · rw [hw]; exact hrec
          · rw [hw, if_pos rfl]
            refine .inl ?_
            unfold Oper.wp
            rw [hrun]
            exact hrec
        · exact StepO.wpOp hoj (hsj.mono fun v w' hK => PlanC.any hL hns fuel m _ _ w' (hd.set hj) (by omega) (hKI v w' hK) (hp v w' hK))

/-- The order as a list: (operation, whether it changes the world). -/
def ChainL (P : Program) (ops : Array Oper) (E : Act → World → Prop) (I : World → Prop) : List (Nat × Bool) → Act → World → Prop
  | [], a, w => E a w
  | (i, false) :: r, a, w => ∃ o v, ops[i]? = some o ∧ StepI P ops I o v a ∧ ChainL P ops E I r (a.put o.dst v) w
  | (i, true) :: r, a, w => ∃ o, ops[i]? = some o ∧ StepO P ops o a w fun v w' => I w' ∧ ChainL P ops E I r (a.put o.dst v) w'

def chainGo (md : Region.Mode) (ops : Array Oper) (last : Nat) : List (Nat × Bool) → Array Bool → Bool
  | [], listed => if last < ops.size then (Region.ready md ops listed == [last]) && (Region.ready md ops (listed.setIfInBounds last true)).isEmpty else (Region.ready md ops listed).isEmpty
  | (i, false) :: r, listed => (i != last) && Region.free md ops listed i && (Region.ready md ops listed).contains i && chainGo md ops last r (listed.setIfInBounds i true)
  | (i, true) :: r, listed => (i != last) && (Region.ready md ops listed == [i]) && chainGo md ops last r (listed.setIfInBounds i true)
def chainOk (md : Region.Mode) (ops : Array Oper) (ord : List (Nat × Bool)) : Bool := Region.noSelect ops && decide (ord.length ≤ ops.size) && chainGo md ops ops.size ord (Array.replicate ops.size false)
def chainLastOk (md : Region.Mode) (ops : Array Oper) (ord : List (Nat × Bool)) : Bool := Region.noSelect ops && decide (ord.length + 1 ≤ ops.size) && chainGo md ops (ops.size - 1) ord (Array.replicate ops.size false) && lastOk md ops

theorem ChainL.plan {E : Act → World → Prop} {last k : Nat} (hk : last < ops.size → k = 1) (hE : ∀ a w, E a w → if last < ops.size then wpOp P ops Q last (Q .normal) a w else Q .normal a w) : ∀ (ord : List (Nat × Bool)) (listed : Array Bool) (a : Act) (w : World), chainGo md ops last ord listed = true → ChainL P ops E I ord a w → PlanC P md ops Q I last (ord.length + k) listed a w
  | [], listed, a, w, hc, h => by
    have h1 := hE _ _ h
    unfold chainGo at hc
    by_cases hl : last < ops.size
    · rw [if_pos hl] at hc h1
      simp only [Bool.and_eq_true, beq_iff_eq, List.isEmpty_iff] at hc
      obtain rfl := hk hl
      exact .stop hc.1 hc.2 h1
    · rw [if_neg hl] at hc h1
      exact .done (by simpa using hc) h1
  | (i, false) :: r, listed, a, w, hc, h => by
    obtain ⟨o, v, hi, hs, hr⟩ := h
    simp only [chainGo, Bool.and_eq_true, bne_iff_ne, ne_eq] at hc
    rw [List.length_cons, Nat.add_right_comm]
    exact .take i o v hi hc.1.1.1 hc.1.1.2 (by simpa using hc.1.2) hs (ChainL.plan hk hE r _ _ w hc.2 hr)
  | (i, true) :: r, listed, a, w, hc, h => by
    obtain ⟨o, hi, hs⟩ := h
    simp only [chainGo, Bool.and_eq_true, beq_iff_eq, bne_iff_ne, ne_eq] at hc
    rw [List.length_cons, Nat.add_right_comm]
    exact .step i o hi hc.1.1 hc.1.2 _ hs (fun v w' hK => hK.1) fun v w' hK => ChainL.plan hk hE r _ _ w' hc.2 hK.2

/-- THE LAW. -/
theorem wp_region_chain {id : Nat} {a : Act} {w : World} (I : World → Prop) (ord : List (Nat × Bool)) (hm : P.follows .mixedOrders = true) (hok : chainOk .any ops ord = true) (hI : I w.drew)
    (h : ChainL P ops (Q .normal) I ord a w.drew) : (Code.region id ops true).wp P Q a w := by
  refine wp_region_any hm ?_
  unfold chainOk at hok
  simp only [Bool.and_eq_true, decide_eq_true_eq] at hok
  exact PlanC.any alone_none (fun i o cs b hi => Region.noSelect_spec hok.1.1 i o cs b hi) ops.size (ord.length + 0) _ a w.drew (DC.none _) (by omega) hI
    (ChainL.plan (fun h => absurd h (Nat.lt_irrefl _)) (fun a w h => by rw [if_neg (Nat.lt_irrefl _)]; exact h) ord _ a _ hok.2 h)

/-- THE SAME where the last operation of the text waits for all others: I is not asked behind it. -/
theorem wp_region_chain_last {id : Nat} {a : Act} {w : World} (I : World → Prop) (ord : List (Nat × Bool)) (l : List Oper) (o : Oper) (hl0 : splitLast ops.toList = some (l, o)) (hg : o.guard = none) (hm : P.follows .mixedOrders = true) (hok : chainLastOk .any ops ord = true) (hI : I w.drew)
    (h : ChainL P ops (fun a w => o.wp P a w (Q .normal) Q) I ord a w.drew) : (Code.region id ops true).wp P Q a w := by
  refine wp_region_any hm ?_
  unfold chainLastOk at hok
  simp only [Bool.and_eq_true, decide_eq_true_eq] at hok
  have hlt : ops.size - 1 < ops.size := by omega
  have hl := splitLast_eq hl0
  have hn : ops.size = l.length + 1 := by
    have := congrArg List.length hl
    simpa using this
  have ho : ops[ops.size - 1]? = some o := by
    have : ops.toList[ops.size - 1]? = some o := by rw [hl, show ops.size - 1 = l.length by omega]; simp
    simpa using this
  have hw : ∀ y, Region.wanted o y = true := fun y => by unfold Region.wanted; rw [hg]
  exact PlanC.any (alone_last hok.2) (fun i o cs b hi => Region.noSelect_spec hok.1.1.1 i o cs b hi) ops.size (ord.length + 1) _ a w.drew (DC.none _) (by omega) hI
    (ChainL.plan (fun _ => rfl) (fun a w h => by rw [if_pos hlt]; unfold wpOp; simp only [ho]; rw [hw, if_pos rfl]; exact .inl h) ord _ a _ hok.1.2 h)

variable {E : Act → World → Prop} {i : Nat} {r : List (Nat × Bool)} {o : Oper} {a : Act} {w : World}
theorem ChainL.val {v : Value} (hi : ops[i]? = some o) (hns : ∀ cs b, o.op ≠ .select cs b) (hw : Region.wanted o (yielded ops a.tmps) = true) (h : ∀ w, I w → (execOp a.eval o).run P w = .ok (.value v) w)
    (hr : ChainL P ops E I r (a.put o.dst v) w) : ChainL P ops E I ((i, false) :: r) a w :=
  ⟨o, v, hi, fun a' w' hag hI => .inr ⟨by rw [wanted_agree o hag]; exact hw, by rw [exec_agree o hns hag]; exact h w' hI⟩, hr⟩
theorem ChainL.skip (hi : ops[i]? = some o) (hw : Region.wanted o (yielded ops a.tmps) = false) (hr : ChainL P ops E I r (a.put o.dst undef) w) : ChainL P ops E I ((i, false) :: r) a w :=
  ⟨o, undef, hi, fun a' w' hag hI => .inl ⟨by rw [wanted_agree o hag]; exact hw, rfl⟩, hr⟩
theorem ChainL.does {v : Value} {w1 : World} (hi : ops[i]? = some o) (hw : Region.wanted o (yielded ops a.tmps) = true) (h : (execOp a.eval o).run P w = .ok (.value v) w1) (hI : I w1)
    (hr : ChainL P ops E I r (a.put o.dst v) w1) : ChainL P ops E I ((i, true) :: r) a w :=
  ⟨o, hi, hw, .inl ⟨v, w1, h, hI, hr⟩⟩
theorem ChainL.call {f : FuncId} {args : Array Value} (hi : ops[i]? = some o) (hw : Region.wanted o (yielded ops a.tmps) = true) (he : (execOp a.eval o).run P w = .ok (.enter f args) w)
    (h : Calls P f args w fun e w' => ∃ v, e = .returned v ∧ I w' ∧ ChainL P ops E I r (a.put o.dst v) w') : ChainL P ops E I ((i, true) :: r) a w :=
  ⟨o, hi, hw, .inr (.inl ⟨f, args, w, he, h⟩)⟩
theorem ChainL.append (hi : ops[i]? = some o) (hw : Region.wanted o (yielded ops a.tmps) = true) (s x : Operand) (t : TypeId)
    (ho : o.op = .call { callee := .builtin .append, args := #[s, x], argTypes := #[t, t] })
    (base : Nat) (e : TypeId) (info : TypeInfo) (z : Value) (size bytes : Nat) (ht : P.underlying t = some (.slice e)) (hi' : P.info? e = some info) (hz : info.zero = some z)
    (hsize : info.size = size) (hby : info.bytes = bytes) (hzs : z.cells.size = size) (hsz : 0 < size)
    (v : Value) (n : Nat) (xs : List Value) (hs : a.eval s = v) (hown : w.ownsRow base e size v n xs)
    (B : Nat) (A : Option Addr) (m c : Nat) (news : List Value) (hx : a.eval x = .slice A m c) (hr : Lists w B A news) (hl : news.length = m * size) (h1 : ∀ u ∈ news, u.oneCell' = true)
    (h63 : n + m ≤ maxLen) (hbytes : (n + m) * bytes ≤ 140737488355328) (hbase : base ≤ w.heap.size)
    (h : ∀ v' w', w'.ownsRow base e size v' (n + m) (xs ++ news) → w.grownBy w' v.ownBlock → (v'.ownBlock = v.ownBlock ∨ v'.ownBlock = some w.heap.size) → I w' ∧ ChainL P ops E I r (a.put o.dst v') w') : ChainL P ops E I ((i, true) :: r) a w := by
  obtain ⟨v', w', hrun, h2, h3, h4⟩ := run_append_src (P := P) w base t o.type e info z size bytes ht hi' hz hsize hby hzs hsz v n xs hown B A m c news hr hl h1 h63 hbytes hbase
  refine ⟨o, hi, hw, .inl ⟨v', w', ?_, h v' w' h2 h3 h4⟩⟩
  unfold execOp
  simp only [ho, resolve, invoke, builtin, Sem.run_bind, Sem.run_pure, Result.andThen_ok, List.map_toArray, List.map_cons, List.map_nil, hs, hx, hrun]
theorem ChainL.store {w1 : World} (hi : ops[i]? = some o) (hw : Region.wanted o (yielded ops a.tmps) = true) (h : (execOp a.eval o).run P w = .ok .skip w1) (hI : I w1)
    (hr : ChainL P ops E I r (a.put o.dst undef) w1) : ChainL P ops E I ((i, true) :: r) a w :=
  ⟨o, hi, hw, .inr (.inr ⟨w1, h, hI, hr⟩)⟩
theorem ChainL.nil (h : E a w) : ChainL P ops E I [] a w := h
end

end Go.Proofs.Ytlacjifnniahhaa

namespace Go.Proofs.Ytlacjifnniahhaa
open Go Go.RowKit

def zero8 : Value := .int .u8 0

/-- Data from a place on, with so many zeros ahead of each gap's place. -/
def expand (D : List Value) : Nat → List (Nat × Nat) → List Value
  | i, [] => D.drop i
  | i, (a, z) :: G => (D.drop i).take (a - i) ++ List.replicate z zero8 ++ expand D a G

/-- The gaps' places rise, and are none beyond n; none is empty. -/
def GapsOk : Nat → List (Nat × Nat) → Nat → Prop
  | i, [], n => i ≤ n
  | i, (a, z) :: G, n => i ≤ a ∧ 1 ≤ z ∧ GapsOk a G n

def gapSum (G : List (Nat × Nat)) : Nat := (G.map (·.2)).sum

theorem GapsOk.le : ∀ {G : List (Nat × Nat)} {i n : Nat}, GapsOk i G n → i ≤ n
  | [], _, _, h => h
  | _ :: _, _, _, h => Nat.le_trans h.1 h.2.2.le
theorem GapsOk.more : ∀ {G : List (Nat × Nat)} {i n m : Nat}, GapsOk i G n → n ≤ m → GapsOk i G m
  | [], _, _, _, h, hm => Nat.le_trans h hm
  | _ :: _, _, _, _, h, hm => ⟨h.1, h.2.1, h.2.2.more hm⟩
theorem GapsOk.snoc {z : Nat} (hz : 1 ≤ z) : ∀ {G : List (Nat × Nat)} {i n : Nat}, GapsOk i G n → GapsOk i (G ++ [(n, z)]) n
  | [], _, _, h => ⟨h, hz, Nat.le_refl _⟩
  | _ :: _, _, _, h => ⟨h.1, h.2.1, GapsOk.snoc hz h.2.2⟩
theorem GapsOk.count : ∀ {G : List (Nat × Nat)} {i n : Nat}, GapsOk i G n → G.length ≤ gapSum G
  | [], _, _, _ => Nat.zero_le _
  | (a, z) :: G, _, _, h => by
    have := h.2.2.count
    have h1 := h.2.1
    simp only [gapSum, List.map_cons, List.sum_cons, List.length_cons] at *
    omega

theorem expand_data (D E : List Value) : ∀ (G : List (Nat × Nat)) (i : Nat), GapsOk i G D.length → expand (D ++ E) i G = expand D i G ++ E
  | [], i, h => by simp only [expand]; rw [List.drop_append_of_le_length h]
  | (a, z) :: G, i, h => by
    have hle := h.2.2.le
    simp only [expand]
    rw [expand_data D E G a h.2.2, List.drop_append_of_le_length (by have := h.1; omega), List.take_append_of_le_length (by rw [List.length_drop]; omega)]
    simp only [List.append_assoc]

theorem expand_gap (D : List Value) (z : Nat) : ∀ (G : List (Nat × Nat)) (i : Nat), GapsOk i G D.length → expand D i (G ++ [(D.length, z)]) = expand D i G ++ List.replicate z zero8
  | [], i, h => by
    simp only [List.nil_append, expand]
    rw [List.take_of_length_le (by rw [List.length_drop]; omega), List.drop_eq_nil_of_le (Nat.le_refl _)]
    simp
  | (a, y) :: G, i, h => by
    simp only [List.cons_append, expand]
    rw [expand_gap D z G a h.2.2]
    simp only [List.append_assoc]

theorem expand_len (D : List Value) : ∀ (G : List (Nat × Nat)) (i : Nat), GapsOk i G D.length → (expand D i G).length = D.length - i + gapSum G
  | [], i, _ => by simp [expand, gapSum]
  | (a, z) :: G, i, h => by
    have hle := h.2.2.le
    have h1 := h.1
    simp only [expand, List.length_append, List.length_replicate, List.length_take, List.length_drop]
    rw [expand_len D G a h.2.2]
    simp only [gapSum, List.map_cons, List.sum_cons]
    omega

/-- The cells of gaps. -/
def gapCells : List (Nat × Nat) → List Value
  | [] => []
  | (a, z) :: G => .int .i64 (a : Int) :: .int .i64 (z : Int) :: gapCells G
theorem gapCells_len : ∀ G : List (Nat × Nat), (gapCells G).length = G.length * 2
  | [] => rfl
  | _ :: G => by simp only [gapCells, List.length_cons, gapCells_len G]; omega
theorem gapCells_snoc (a z : Nat) : ∀ G : List (Nat × Nat), gapCells (G ++ [(a, z)]) = gapCells G ++ [.int .i64 (a : Int), .int .i64 (z : Int)]
  | [] => rfl
  | (_, _) :: G => by simp only [List.cons_append, gapCells, gapCells_snoc a z G]
theorem gapCells_at : ∀ (G : List (Nat × Nat)) (k : Nat) (a z : Nat), G[k]? = some (a, z) → (gapCells G)[k * 2]? = some (.int .i64 (a : Int)) ∧ (gapCells G)[k * 2 + 1]? = some (.int .i64 (z : Int))
  | [], k, a, z, h => by simp at h
  | (b, y) :: G, 0, a, z, h => by
    simp only [List.getElem?_cons_zero, Option.some.injEq, Prod.mk.injEq] at h
    obtain ⟨rfl, rfl⟩ := h
    exact ⟨rfl, rfl⟩
  | (b, y) :: G, k + 1, a, z, h => by
    have := gapCells_at G k a z (by simpa using h)
    rw [show (k + 1) * 2 = k * 2 + 1 + 1 by omega]
    exact this

/-- Each is a byte. -/
def Bytes8 (l : List Value) : Prop := ∀ u ∈ l, ∃ x : Nat, x < 256 ∧ u = .int .u8 (x : Int)
theorem Bytes8.one {l : List Value} (h : Bytes8 l) : ∀ u ∈ l, u.oneCell' = true := fun u hu => by
  obtain ⟨x, _, rfl⟩ := h u hu
  rfl
theorem Bytes8.append {l m : List Value} (h : Bytes8 l) (k : Bytes8 m) : Bytes8 (l ++ m) := fun u hu => by
  rcases List.mem_append.1 hu with h1 | h1
  · exact h u h1
  · exact k u h1
theorem Bytes8.zeros (n : Nat) : Bytes8 (List.replicate n zero8) := fun u hu => ⟨0, by omega, (List.mem_replicate.1 hu).2⟩

theorem own_ne {w : World} {base p : Nat} {e T : TypeId} {size n : Nat} {v : Value} {xs : List Value} {cs : Array Value} (h : w.ownsRow base e size v n xs) (hb : Blk w p T cs) (hne : e ≠ T) : p ∉ blk v := by
  intro hm
  rcases h.2 with ⟨rfl, _⟩ | ⟨g, cap, cur, rfl, _, hh, _⟩
  · simp [blk, Value.ownBlock] at hm
  · have : p = g := by simpa [blk, Value.ownBlock] using hm
    subst this
    unfold Blk at hb
    rw [hh] at hb
    injection hb with hb
    injection hb with _ ht
    exact hne ht
theorem own_own {w : World} {base base1 : Nat} {e e1 : TypeId} {size n size1 n1 : Nat} {v v1 : Value} {xs xs1 : List Value} (h : w.ownsRow base e size v n xs) (h1 : w.ownsRow base1 e1 size1 v1 n1 xs1) (hne : e ≠ e1) : ∀ b ∈ blk v, b ∉ blk v1 := by
  intro b hb hm
  rcases h.2 with ⟨rfl, _⟩ | ⟨g, cap, cur, rfl, _, hh, _⟩
  · simp [blk, Value.ownBlock] at hb
  · rcases h1.2 with ⟨rfl, _⟩ | ⟨g1, cap1, cur1, rfl, _, hh1, _⟩
    · simp [blk, Value.ownBlock] at hm
    · have e1 : b = g := by simpa [blk, Value.ownBlock] using hb
      have e2 : b = g1 := by simpa [blk, Value.ownBlock] using hm
      subst e1 e2
      rw [hh] at hh1
      injection hh1 with hh1
      injection hh1 with _ ht
      exact hne ht

end Go.Proofs.Ytlacjifnniahhaa

namespace Go.Proofs.Ytlacjifnniahhaa
open Go Go.RowKit
set_option linter.unusedVariables false
set_option linter.unusedSimpArgs false

/-- A bow: its kind, and eight numbers. -/
structure Bw where
  k : Int
  xa : Int
  ya : Int
  xb : Int
  yb : Int
  xc : Int
  yc : Int
  xd : Int
  yd : Int
def bwL (c : Bw) : List Value := [.int .i64 c.k, .int .i64 c.xa, .int .i64 c.ya, .int .i64 c.xb, .int .i64 c.yb, .int .i64 c.xc, .int .i64 c.yc, .int .i64 c.xd, .int .i64 c.yd]
def bwV (c : Bw) : Value := .agg #[.int .i64 c.k, .int .i64 c.xa, .int .i64 c.ya, .int .i64 c.xb, .int .i64 c.yb, .int .i64 c.xc, .int .i64 c.yc, .int .i64 c.xd, .int .i64 c.yd]
abbrev Dt := Int × Int
def dtL (d : Dt) : List Value := [.int .i64 d.1, .int .i64 d.2]
theorem dtLen (d : Dt) : (dtL d).length = 2 := rfl
/-- The places that a bow has. -/
def plc (c : Bw) : List Dt := if c.k = 1 then [(c.xa, c.ya), (c.xd, c.yd)] else if c.k = 2 then [(c.xa, c.ya), (c.xb, c.yb), (c.xd, c.yd)] else if c.k = 3 then [(c.xa, c.ya), (c.xb, c.yb), (c.xc, c.yc), (c.xd, c.yd)] else []
def farB (x : Int) : Bool := decide (x < -1048576) || decide (x > 1048576)
def farD (d : Dt) : Bool := farB d.1 || farB d.2
def mayW (c : Bw) : Bool := !(plc c).isEmpty && !(plc c).any farD

theorem farB_ok {x : Int} (h : farB x = false) : -1048576 ≤ x ∧ x ≤ 1048576 := by
  unfold farB at h; simp at h; omega

theorem far_any (x : Int) (w : World) : Calls Try.prog 87 #[.int .i64 x] w fun e w' => e = .returned (.bool (farB x)) ∧ w = w' := by
  unfold farB
  by_cases h : x < -1048576
  · have d1 : decide (x < -1048576) = true := by simpa using h
    rw [d1, Bool.true_or]
    go_enter Try.func87, Try.ntmps87
    go_wp2
    go_ret
    exact ⟨rfl, rfl⟩
  · have d1 : decide (x < -1048576) = false := by simpa using h
    rw [d1, Bool.false_or]
    go_enter Try.func87, Try.ntmps87
    go_wp2
    go_ret
    exact ⟨rfl, rfl⟩

/-- A cell that holds far. -/
def FarAt (W : World) (p : Nat) : Prop := Blk W p 57 #[.func (.func 87) #[] #[]]
set_option maxRecDepth 100000 in
theorem farD_any (p : Nat) (d : Dt) (w : World) (h : FarAt w p) : Calls Try.prog 89 #[.agg (dtL d).toArray, .pointer (some ⟨p, 0, none⟩)] w fun e w' => e = .returned (.bool (farD d)) ∧ Below w.heap.size w w' := by
  obtain ⟨x, y⟩ := d
  have C1 := fun W => far_any x W
  have C2 := fun W => far_any y W
  have B1 : Below w.heap.size w (w.alloc (.cells #[.int .i64 x, .int .i64 y] 27)) := (Below.refl _ _).alloc (Nat.le_refl _) _
  have c0 := (Blk.below h B1).cell 0
  have l0 := h.lt
  unfold farD
  simp only [dtL]
  cases hx : farB x
  · rw [hx] at C1
    simp only [Bool.false_or]
    clear hx h
    go_enter Try.func89, Try.ntmps89
    go_wp2_with (first | (go_at_call 87; ((with_reducible refine (C1 _).mono ?_); rintro e w' ⟨rfl, rfl⟩)) | (go_at_call 87; ((with_reducible refine (C2 _).mono ?_); rintro e w' ⟨rfl, rfl⟩)))
    go_ret
    exact ⟨rfl, B1⟩
  · rw [hx] at C1
    simp only [Bool.true_or]
    clear hx h
    go_enter Try.func89, Try.ntmps89
    go_wp2_with (first | (go_at_call 87; ((with_reducible refine (C1 _).mono ?_); rintro e w' ⟨rfl, rfl⟩)))
    go_ret
    exact ⟨rfl, B1⟩

/-- How far twice a number is from two others. -/
def bnd (a b d : Int) : Int := max (a - 2 * b + d) (2 * b - a - d)
theorem bend_any (a b d : Int) (w : World) (ha : -1048576 ≤ a ∧ a ≤ 1048576) (hb : -1048576 ≤ b ∧ b ≤ 1048576) (hd : -1048576 ≤ d ∧ d ≤ 1048576) :
    Calls Try.prog 90 #[.int .i64 a, .int .i64 b, .int .i64 d] w fun e w' => e = .returned (.int .i64 (bnd a b d)) ∧ w = w' := by
  obtain ⟨a1, a2⟩ := ha
  obtain ⟨b1, b2⟩ := hb
  obtain ⟨e1, e2⟩ := hd
  by_cases h : a - 2 * b + d < 2 * b - a - d
  · have h1 : bnd a b d = 2 * b - a - d := by unfold bnd; omega
    have h2 : (a - 2 * b + d < 2 * b - a - d) = True := by simpa using h
    rw [h1]
    go_enter Try.func90, Try.ntmps90
    go_wp2
    go_ret
    exact ⟨rfl, rfl⟩
  · have h1 : bnd a b d = a - 2 * b + d := by unfold bnd; omega
    have h2 : (a - 2 * b + d < 2 * b - a - d) = False := by simpa using h
    rw [h1]
    go_enter Try.func90, Try.ntmps90
    go_wp2
    go_ret
    exact ⟨rfl, rfl⟩
end Go.Proofs.Ytlacjifnniahhaa
