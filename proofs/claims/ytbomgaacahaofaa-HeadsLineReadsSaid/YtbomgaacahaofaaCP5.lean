/- Part 6 of the proof: All, New, Ops, Gly, Lin. -/
import Derived.Shelf.Abstract
import Derived.Test.YtbomgaacahaofaaCP4

namespace Go.Proofs.Ytbomgaacahaofaa
open Go Go.RowKit

section
variable {σ : Type} {gc : FuncId} {lbc : Array Value} {I : σ → World → Prop} {Ok : Nat → Prop} {len : σ → Nat} {R : Nat} {step : Nat → σ → Int → σ} {val : Nat → σ → Int → Int}

def runAll (step : Nat → σ → Int → σ) (val : Nat → σ → Int → Int) : List FD → σ → Array Value → Bool × σ × Array Value
  | [], s, cs => (true, s, cs)
  | d :: ds, s, cs =>
    if (fdRun step val s cs d).1 then runAll step val ds (fdRun step val s cs d).2.1 (fdRun step val s cs d).2.2 else (false, (fdRun step val s cs d).2.1, (fdRun step val s cs d).2.2)
def lenAll : List FD → Nat
  | [] => 0
  | d :: ds => fdLen d + lenAll ds
theorem runAll_nil (s : σ) (cs : Array Value) : runAll step val [] s cs = (true, s, cs) := rfl
theorem runAll_cons (d : FD) (ds : List FD) (s : σ) (cs : Array Value) : runAll step val (d :: ds) s cs = if (fdRun step val s cs d).1 then runAll step val ds (fdRun step val s cs d).2.1 (fdRun step val s cs d).2.2 else (false, (fdRun step val s cs d).2.1, (fdRun step val s cs d).2.2) := rfl
/-- All were carried. -/
def RanAll (I : σ → World → Prop) (w : World) (X : Nat) (T : TypeId) (P : Nat → Prop) (r : Bool × σ × Array Value) (e : Ending) (w' : World) : Prop :=
  e = .returned (.bool r.1) ∧ I r.2.1 w' ∧ Blk w' X T r.2.2 ∧ KeepsP w w' P

set_option maxRecDepth 100000 in
set_option maxHeartbeats 1000000 in
theorem carryAll_any (K : Carr gc lbc I Ok len R step val) (is bs : List Nat) (hdis : ∀ o ∈ is, o ∉ bs) (X : Nat) (T : TypeId) (ok : Ok X) (hT : plain T = true) (hT2 : T ≠ 91) (vs : List Value) (ds : List FD) (fp own : Nat → List Nat) (row c : Nat) (cs0 : Array Value) (s0 : σ) (w : World)
    (hlen : vs.length = ds.length) (hn : vs.length ≤ 1099511627776) (hrow : Blk w row 91 vs.toArray)
    (hd : ∀ d ∈ ds, fdOk is bs d) (hF : ∀ (j : Nat) (v : Value) (d : FD), vs[j]? = some v → ds[j]? = some d → FAt w X v (fp j) (own j) d) (hX : ∀ j, X ∉ fp j) (oks : ∀ j, ∀ b ∈ own j, Ok b)
    (hsep : ∀ i j, i < j → ∀ b ∈ own i, b ∉ fp j) (hro : ∀ i, row ∉ own i) (hs : I s0 w) (hb : Blk w X T cs0) (hc : Sh is bs cs0) (hR : len s0 + lenAll ds ≤ R) :
    Calls Try.prog 42 #[.func (.func gc) #[] lbc, .slice (some ⟨row, 0, none⟩) vs.length c] w (RanAll I w X T (fun b => b = X ∨ ∃ i, b ∈ own i) (runAll step val ds s0 cs0)) := by
  obtain ⟨n, hnn⟩ : ∃ n, n = vs.length := ⟨_, rfl⟩
  rw [← hnn] at hn hlen ⊢
  have HN := Lib.hid hnn
  have HL := Lib.hid hlen
  have HR := Lib.hid hR
  have H0 := Lib.hid hs
  have HB := Lib.hid hb
  have HC := Lib.hid hc
  have HROW := Lib.hid hrow
  have HF := Lib.hid hF
  have nx : row ≠ X := (blk_ne hb hrow hT2).symm
  clear hnn hlen hR hs hb hc hrow hF
  go_enter Try.func42, Try.ntmps42
  go_wp2
  go_loopw [9] (fun i wr => ∃ j : Nat, j ≤ n ∧ i = .int .i64 j ∧ ∃ (s : σ) (cs : Array Value), Hid (runAll step val (ds.drop j) s cs = runAll step val ds s0 cs0 ∧ I s wr ∧ Blk wr X T cs ∧ KeepsP w wr (fun b => b = X ∨ ∃ i, i < j ∧ b ∈ own i) ∧ Sh is bs cs ∧ len s + lenAll (ds.drop j) ≤ R)) (fun i _ => n - (intOf i).toNat)
  case atStart => exact ⟨0, Nat.zero_le _, rfl, s0, cs0, Lib.hid ⟨rfl, H0.out, HB.out, KeepsP.refl _ _, HC.out, HR.out⟩⟩
  case round =>
    obtain ⟨j, hj, rfl, s, cs, HH⟩ := hrel
    by_cases hlt : j < n
    · have d1 : decide ((j : Int) < (n : Int)) = true := by simp; omega
      obtain ⟨v, hv⟩ : ∃ v, vs[j]? = some v := ⟨vs[j]'(by rw [← HN.out]; exact hlt), List.getElem?_eq_getElem _⟩
      obtain ⟨d, hdj⟩ : ∃ d, ds[j]? = some d := ⟨ds[j]'(by rw [← HL.out]; exact hlt), List.getElem?_eq_getElem _⟩
      have hmem := List.mem_of_getElem? hdj
      have hdrop : ds.drop j = d :: ds.drop (j + 1) := by
        obtain ⟨h1, h2⟩ := List.getElem?_eq_some_iff.1 hdj
        rw [List.drop_eq_getElem_cons h1, h2]
      obtain ⟨h1, h2, h3, h4, h5, h6⟩ := HH.out
      rw [hdrop] at h1 h6
      rw [runAll_cons] at h1
      have h6' : len s + (fdLen d + lenAll (ds.drop (j + 1))) ≤ R := h6
      have gr : wr.cell? ⟨row, j, none⟩ = some v := ((h4.2 row _ _ (by decide) (by rintro (h | ⟨i, _, h⟩); exact nx h; exact hro i h) HROW.out).cell j).trans (by simpa using hv)
      have hfat := (HF.out j v d hv hdj).keep h4 (by rintro b hb (rfl | ⟨i, hi, h⟩); exact hX j hb; exact hsep i j hi b h hb)
      have hsh := h5.run (step := step) (val := val) (s := s) hdis (hd d hmem)
      have hlen := run_len K (cs := cs) (s := s) (hd d hmem)
      obtain ⟨g, lb, rfl, eg, C⟩ := field_any K is bs d (hd d hmem) wr X T v (fp j) (own j) hfat (hX j) ok (oks j) hT s cs h2 h3 h5 (by omega)
      clear hfat hdj hv hmem hdrop h6 HH h2 h3 h5
      have h4 := Lib.hid h4
      generalize fdRun step val s cs d = r at *
      obtain ⟨rb, rs, rc⟩ := r
      cases rb with
      | false =>
        rw [if_neg (by simp)] at h1
        have HE := Lib.hid h1
        clear h1
        go_wp2_with (go_at_fn g; ((with_reducible refine (C).mono ?_); rintro e w1 ⟨rfl, hI1, hX1, hk1⟩))
        go_ret
        rw [← HE.out]
        exact ⟨rfl, hI1, hX1, (h4.out.more fun b => by rintro (h | ⟨i, _, h⟩); exact .inl h; exact .inr ⟨i, h⟩).trans (hk1.more fun b => by rintro (h | h); exact .inl h; exact .inr ⟨j, h⟩)⟩
      | true =>
        rw [if_pos rfl] at h1
        have HE := Lib.hid h1
        clear h1
        go_wp2_with (go_at_fn g; ((with_reducible refine (C).mono ?_); rintro e w1 ⟨rfl, hI1, hX1, hk1⟩))
        have HR2 := Lib.hid (And.intro HE.out (And.intro hI1 (And.intro hX1 (And.intro ((h4.out.more (Q := fun b => b = X ∨ ∃ i, i < j + 1 ∧ b ∈ own i) fun b => by rintro (h | ⟨i, hi, h⟩); exact .inl h; exact .inr ⟨i, by omega, h⟩).trans (hk1.more fun b => by rintro (h | h); exact .inl h; exact .inr ⟨j, by omega, h⟩)) (And.intro hsh (show len rs + lenAll (ds.drop (j + 1)) ≤ R from by have : len rs ≤ len s + fdLen d := hlen; omega))))))
        go_roundw
        case rel => exact ⟨j + 1, by omega, by go_num, rs, rc, HR2⟩
        case measure => simp [intOf]; omega
    · obtain rfl : j = n := by omega
      have d1 : decide ((j : Int) < (j : Int)) = false := by simp
      obtain ⟨h1, h2, h3, h4, _⟩ := HH.out
      rw [show ds.drop j = [] by rw [List.drop_eq_nil_iff]; have := HL.out; omega, runAll_nil] at h1
      have HE : RanAll I w X T (fun b => b = X ∨ ∃ i, b ∈ own i) (runAll step val ds s0 cs0) (.returned (.bool true)) wr := by
        rw [← h1]
        exact ⟨rfl, h2, h3, h4.more fun b => by rintro (h | ⟨i, _, h⟩); exact .inl h; exact .inr ⟨i, h⟩⟩
      have HE := Lib.hid HE
      clear h1 h2 h3 h4 HH
      go_wp2
      go_ret
      exact HE.out
end

end Go.Proofs.Ytbomgaacahaofaa

namespace Go.Proofs.Ytbomgaacahaofaa
open Go Go.RowKit

/-- A field was made: its blocks are new, but for those of fp0. -/
def GaveF (w : World) (X : Nat) (d : FD) (fp0 : List Nat) (e : Ending) (w' : World) : Prop :=
  ∃ fv fp own, e = .returned fv ∧ FAt w' X fv fp own d ∧ (∀ b ∈ fp, b ∈ fp0 ∨ w.heap.size ≤ b) ∧ (∀ b ∈ fp, b < w'.heap.size) ∧ (∀ b ∈ own, b ∈ fp) ∧ Below w.heap.size w w'
theorem Blk.al {w : World} {p : Nat} {T : TypeId} {cs : Array Value} (h : Blk w p T cs) (o : Obj) : Blk (w.alloc o) p T cs := h.below ((Below.refl _ _).alloc (Nat.le_refl _) o)
theorem Blk.at {w : World} {p : Nat} {T : TypeId} {cs : Array Value} (h : p = w.heap.size) : Blk (w.alloc (.cells cs T)) p T cs := h ▸ Blk.new w T cs
theorem below_al {w w1 : World} (h : Below w.heap.size w w1) (o : Obj) : Below w.heap.size w (w1.alloc o) := h.alloc h.size o
theorem al_size (w : World) (o : Obj) : (w.alloc o).heap.size = w.heap.size + 1 := by simp

theorem numbers_new (X kd : Nat) (la lb : Int) (os : List Nat) (row c : Nat) (w : World) (hrow : Blk w row 96 (ptrs X os)) :
    Calls Try.prog 47 #[.int .i64 (kd : Nat), .int .i64 la, .int .i64 lb, .slice (some ⟨row, 0, none⟩) os.length c] w (GaveF w X (.nums kd la lb os) [row]) := by
  have HR := Lib.hid hrow
  clear hrow
  generalize hn : os.length = n
  have HN := Lib.hid hn
  clear hn
  go_enter Try.func47, Try.ntmps47
  go_wp2
  go_ret
  refine ⟨_, _, [], rfl, ⟨_, _, _, _, row, c, rfl, (by rw [HN.out]; exact Blk.at (by simp)), (((HR.out.al _).al _).al _).al _, (((Blk.at (by simp)).al _).al _).al _, ((Blk.at (by simp)).al _).al _, (Blk.at (by simp)).al _, rfl, rfl⟩, ?_, ?_, (fun _ h => (nomatch h)), below_al (below_al (below_al (below_al (Below.refl _ _) _) _) _) _⟩
  · intro b hb
    simp only [List.mem_cons, List.not_mem_nil, or_false] at hb ⊢
    omega
  · have := HR.out.lt
    intro b hb
    simp only [List.mem_cons, List.not_mem_nil, or_false, al_size] at hb ⊢
    omega

theorem free_new (X n : Nat) (w : World) : Calls Try.prog 46 #[.int .i64 (n : Nat)] w (GaveF w X (.free n) []) := by
  go_enter Try.func46, Try.ntmps46
  go_wp2
  go_ret
  refine ⟨_, _, [], rfl, ⟨_, rfl, Blk.at (by simp), rfl, rfl⟩, ?_, ?_, (fun _ h => (nomatch h)), below_al (Below.refl _ _) _⟩
  · intro b hb
    simp only [List.mem_cons, List.not_mem_nil, or_false] at hb ⊢
    omega
  · intro b hb
    simp only [List.mem_cons, List.not_mem_nil, or_false, al_size] at hb ⊢
    omega

theorem either_new (X kd : Nat) (no yes : Int) (o : Nat) (w : World) :
    Calls Try.prog 48 #[.int .i64 (kd : Nat), .int .i64 no, .int .i64 yes, .pointer (some ⟨X, o, none⟩)] w (GaveF w X (.eith kd no yes o) []) := by
  go_enter Try.func48, Try.ntmps48
  go_wp2
  go_ret
  refine ⟨_, _, [], rfl, ⟨_, _, _, _, rfl, ((Blk.at (by simp)).al _).al _, Blk.at (by simp), (Blk.at (by simp)).al _, (((Blk.at (by simp)).al _).al _).al _, rfl, rfl⟩, ?_, ?_, (fun _ h => (nomatch h)), below_al (below_al (below_al (below_al (Below.refl _ _) _) _) _) _⟩
  · intro b hb
    simp only [List.mem_cons, List.not_mem_nil, or_false] at hb ⊢
    omega
  · intro b hb
    simp only [List.mem_cons, List.not_mem_nil, or_false, al_size] at hb ⊢
    omega

theorem where_new (X o n pn : Nat) (w : World) (hpn : Blk w pn 3 #[.int .i64 (n : Nat)]) :
    Calls Try.prog 52 #[.pointer (some ⟨X, o, none⟩), .func (.func 59) #[] #[.pointer (some ⟨pn, 0, none⟩)]] w (GaveF w X (.cond o n) [pn]) := by
  have HR := Lib.hid hpn
  clear hpn
  go_enter Try.func52, Try.ntmps52
  go_wp2
  go_ret
  refine ⟨_, _, [], rfl, ⟨_, _, _, rfl, (Blk.at (by simp)).al _, Blk.at (by simp), (HR.out.al _).al _, rfl, rfl⟩, ?_, ?_, (fun _ h => (nomatch h)), below_al (below_al (Below.refl _ _) _) _⟩
  · intro b hb
    simp only [List.mem_cons, List.not_mem_nil, or_false] at hb ⊢
    omega
  · have := HR.out.lt
    intro b hb
    simp only [List.mem_cons, List.not_mem_nil, or_false, al_size] at hb ⊢
    omega

theorem just_new (X kd : Nat) (x : Int) (w : World) : Calls Try.prog 45 #[.int .i64 (kd : Nat), .int .i64 x] w (GaveF w X (.just kd x) []) := by
  obtain ⟨wa, hwa⟩ : ∃ wa, wa = (w.alloc (.cells #[.int .i64 x] 3)).alloc (.cells #[.pointer (some ⟨w.heap.size, 0, none⟩)] 96) := ⟨_, rfl⟩
  have ht : Blk wa w.heap.size 3 #[.int .i64 x] := by rw [hwa]; exact (Blk.at rfl).al _
  have hr : Blk wa (w.heap.size + 1) 96 (ptrs w.heap.size [0]) := by rw [hwa]; exact Blk.at (by simp)
  have hb : Below w.heap.size w wa := by rw [hwa]; exact below_al (below_al (Below.refl _ _) _) _
  have hz : wa.heap.size = w.heap.size + 2 := by rw [hwa]; simp
  have C : Calls Try.prog 47 #[.int .i64 (kd : Nat), .int .i64 x, .int .i64 x, .slice (some ⟨w.heap.size + 1, 0, none⟩) 1 1] wa (GaveF wa w.heap.size (.nums kd x x [0]) [w.heap.size + 1]) := numbers_new w.heap.size kd x x [0] (w.heap.size + 1) 1 wa hr
  subst hwa
  have H := Lib.hid (And.intro ht (And.intro hb hz))
  clear ht hr hb hz
  go_enter Try.func45, Try.ntmps45
  go_wp2_with (go_at_call 47; ((with_reducible refine (C).mono ?_); rintro e w1 ⟨fv, fp, own, rfl, hF, h1, h2, h3, h4⟩))
  go_ret
  obtain ⟨pl, pk, pa, pb, row, c, hv, g2, g3, g4, g5, g6, hfp, rfl⟩ := hF
  obtain ⟨ht, hb, hz⟩ := H.out
  have n0 : ∀ b ∈ fp, b = w.heap.size + 1 ∨ w.heap.size + 2 ≤ b := fun b hb => by
    have := h1 b hb
    rw [hz] at this
    simpa using this
  have na := n0 pa (by rw [hfp]; simp)
  have nb := n0 pb (by rw [hfp]; simp)
  refine ⟨fv, [pl, pk, pa, pb, row, w.heap.size], [w.heap.size], rfl, ⟨pl, pk, pa, pb, row, c, w.heap.size, hv, g2, g3, g4, g5, g6, ht.below h4, by omega, by omega, rfl, rfl⟩, ?_, ?_, ?_, hb.trans (h4.mono hb.size)⟩
  · intro b hb
    have hb2 : b ∈ fp ∨ b = w.heap.size := by rw [hfp]; simpa [or_assoc] using hb
    rcases hb2 with hb2 | rfl
    · have := n0 b hb2; omega
    · omega
  · intro b hb
    have hb2 : b ∈ fp ∨ b = w.heap.size := by rw [hfp]; simpa [or_assoc] using hb
    rcases hb2 with hb2 | rfl
    · exact h2 b hb2
    · have := h4.size; omega
  · intro b hb
    simp at hb
    simp [hb]

end Go.Proofs.Ytbomgaacahaofaa

namespace Go.Proofs.Ytbomgaacahaofaa
open Go Go.RowKit

theorem step_val {ops : Array Oper} {o : Oper} {a : Act} {w w1 : World} {v : Value} {K : Value → World → Prop} (hg : o.guard = none) (h : (execOp a.eval o).run Try.prog w = .ok (.value v) w1) (hK : K v w1) : StepO Try.prog ops o a w K :=
  ⟨by unfold Region.wanted; rw [hg], .inl ⟨v, w1, h, hK⟩⟩
theorem step_call {ops : Array Oper} {o : Oper} {a : Act} {w : World} {f : FuncId} {args : Array Value} {K : Value → World → Prop} (hg : o.guard = none) (h : (execOp a.eval o).run Try.prog w = .ok (.enter f args) w) (hC : Calls Try.prog f args w fun e w' => ∃ v, e = .returned v ∧ K v w') : StepO Try.prog ops o a w K :=
  ⟨by unfold Region.wanted; rw [hg], .inr (.inl ⟨f, args, w, h, hC⟩)⟩
theorem eval_tmp {a : Act} {t : Nat} {v : Value} (h : a.tmps[t]? = some v) : a.eval (.tmp t) = v := by
  simp [Act.eval, h]
theorem run_move (ev : Operand → Value) (o : Oper) (x : Operand) (w : World) (h : o.op = .move x) : (execOp ev o).run Try.prog w = .ok (.value (ev x)) w := by
  unfold execOp
  simp only [h]
  rfl
theorem run_assign (ev : Operand → Value) (o : Oper) (x : Operand) (w : World) (h : o.op = .assign x) : (execOp ev o).run Try.prog w = .ok (.value (ev x)) w := by
  unfold execOp
  simp only [h]
  rfl
theorem run_nilCheck (ev : Operand → Value) (o : Oper) (x : Operand) (w : World) (p : Addr) (h : o.op = .nilCheck x) (hx : ev x = .pointer (some p)) : (execOp ev o).run Try.prog w = .ok (.value (.pointer (some p))) w := by
  unfold execOp
  simp only [h, hx]
  rfl
theorem run_field (ev : Operand → Value) (o : Oper) (s : TypeId) (x : Operand) (f : Nat) (v u : Value) (w : World) (h : o.op = .fieldAddr s x f) (hx : ev x = v) (hf : (Instr.fieldAt s v f).run Try.prog w = .ok u w) : (execOp ev o).run Try.prog w = .ok (.value u) w := by
  unfold execOp
  simp only [h, hx, Sem.run_bind, hf]
  rfl
theorem run_slice (ev : Operand → Value) (o : Oper) (t : TypeId) (n : Nat) (parts : Array (Nat × Operand)) (ps : Array (Nat × Value)) (u : Value) (w w1 : World) (h : o.op = .buildSlice t n parts) (hp : (parts.map fun (i, x) => (i, ev x)) = ps) (hf : (Instr.buildSlice t n ps).run Try.prog w = .ok u w1) : (execOp ev o).run Try.prog w = .ok (.value u) w1 := by
  unfold execOp
  simp only [h, hp, Sem.run_bind, hf]
  rfl
set_option maxRecDepth 100000 in
theorem glyph_n (X : Nat) (w : World) : (Instr.fieldAt 40 (.pointer (some ⟨X, 0, none⟩)) 0).run Try.prog w = .ok (.pointer (some ⟨X, 0, none⟩)) w := by
  rfl
set_option maxRecDepth 100000 in
theorem glyph_true (X : Nat) (w : World) : (Instr.fieldAt 40 (.pointer (some ⟨X, 0, none⟩)) 1).run Try.prog w = .ok (.pointer (some ⟨X, 1, none⟩)) w := by
  rfl
set_option maxRecDepth 100000 in
theorem row1 (X o : Nat) (w : World) : (Instr.buildSlice 111 1 #[(0, .pointer (some ⟨X, o, none⟩))]).run Try.prog w = .ok (.slice (some ⟨w.heap.size, 0, none⟩) 1 1) (w.alloc (.cells #[.pointer (some ⟨X, o, none⟩)] 96)) := by
  go_simp
set_option maxRecDepth 100000 in
theorem row_fn3 (g0 g1 g2 : Fn) (l0 l1 l2 : Array Value) (w : World) : (Instr.buildSlice 87 3 #[(0, .func g0 #[] l0), (1, .func g1 #[] l1), (2, .func g2 #[] l2)]).run Try.prog w = .ok (.slice (some ⟨w.heap.size, 0, none⟩) 3 3) (w.alloc (.cells #[.func g0 #[] l0, .func g1 #[] l1, .func g2 #[] l2] 91)) := by
  go_simp
theorem run_call (a : Act) (o : Oper) (f : FuncId) (args : Array Operand) (tys : Array TypeId) (vals : Array Value) (w : World) (h : o.op = .call { callee := .value (.func f), args := args, argTypes := tys }) (hx : args.map a.eval = vals) (hf : (callFunc f vals).run Try.prog w = .ok (.enter f vals) w) : (execOp a.eval o).run Try.prog w = .ok (.enter f vals) w := by
  unfold execOp
  simp only [h, hx, resolve, invoke, Sem.run_bind]
  simp only [Act.eval]
  first | (simp [Deferred.ofValue, hf]; done) | (simp only [Deferred.ofValue, Sem.run_pure, Result.andThen_ok, Array.append_empty, Array.empty_append]; exact hf)
end Go.Proofs.Ytbomgaacahaofaa

namespace Go.Proofs.Ytbomgaacahaofaa
open Go Go.RowKit

inductive Bk where
  | ptr (o : Nat)
  | row (os : List Nat)
  | fld (d : FD)
  | top (ks : List Nat)
  | last (k : Nat)
def BkAt (X : Nat) (V : Nat → Value) (w : World) (F : List Nat) (i : Nat) : Bk → Prop
  | .ptr o => V i = .pointer (some ⟨X, o, none⟩) ∧ F = []
  | .row os => ∃ r c, V i = .slice (some ⟨r, 0, none⟩) os.length c ∧ Blk w r 96 (ptrs X os) ∧ F = [r]
  | .fld d => ∃ own, FAt w X (V i) F own d ∧ ∀ b ∈ own, b ∈ F
  | .top ks => ∃ r c, V i = .slice (some ⟨r, 0, none⟩) ks.length c ∧ Blk w r 91 (ks.map V).toArray ∧ F = [r]
  | .last k => V i = V k ∧ F = []
/-- What an entry speaks of. -/
def Bk.refs : Bk → List Nat
  | .top ks => ks
  | .last k => [k]
  | _ => []
theorem BkAt.keep {X : Nat} {V V1 : Nat → Value} {w w1 : World} {F : List Nat} {i : Nat} {b : Bk} {dep : List Nat} (h : BkAt X V w F i b) (hr : ∀ k ∈ b.refs, k ∈ dep) (hV : ∀ k, k = i ∨ k ∈ dep → V1 k = V k) (hb : Below w.heap.size w w1) : BkAt X V1 w1 F i b := by
  have h0 := hV i (.inl rfl)
  cases b with
  | ptr o => exact ⟨h0.trans h.1, h.2⟩
  | row os =>
    obtain ⟨r, c, h1, h2, h3⟩ := h
    exact ⟨r, c, h0.trans h1, h2.below hb, h3⟩
  | fld d =>
    obtain ⟨own, h1, h2⟩ := h
    refine ⟨own, ?_, h2⟩
    rw [h0]
    exact h1.keep (KeepsP.of_below hb (fun _ => False)) fun _ _ h => h
  | top ks =>
    obtain ⟨r, c, h1, h2, h3⟩ := h
    refine ⟨r, c, h0.trans h1, ?_, h3⟩
    have e : ks.map V1 = ks.map V := List.map_congr_left fun k hk => hV k (.inr (hr k hk))
    rw [e]
    exact h2.below hb
  | last k => exact ⟨h0.trans (h.1.trans (hV k (.inr (hr k (by simp [Bk.refs])))).symm), h.2⟩
theorem FAt.func {w : World} {X : Nat} {fv : Value} {fp own : List Nat} {d : FD} (h : FAt w X fv fp own d) : ∃ g l, fv = .func g #[] l := by
  cases d <;> (unfold FAt at h; obtain ⟨_, h⟩ := h)
  · obtain ⟨_, _, _, _, _, h, _⟩ := h; exact ⟨_, _, h⟩
  · obtain ⟨_, _, _, _, _, _, h, _⟩ := h; exact ⟨_, _, h⟩
  · exact ⟨_, _, h.1⟩
  · obtain ⟨_, _, _, h, _⟩ := h; exact ⟨_, _, h⟩
  · obtain ⟨_, _, h, _⟩ := h; exact ⟨_, _, h⟩

/-- The fields were made. -/
def GaveFs (w : World) (X : Nat) (ds : List FD) (e : Ending) (w' : World) : Prop :=
  ∃ (vs : List Value) (fp own : Nat → List Nat) (row c : Nat), e = .returned (.slice (some ⟨row, 0, none⟩) vs.length c) ∧ vs.length = ds.length ∧ Blk w' row 91 vs.toArray ∧ (∀ (j : Nat) (v : Value) (d : FD), vs[j]? = some v → ds[j]? = some d → FAt w' X v (fp j) (own j) d) ∧
    (∀ j, ∀ b ∈ fp j, w.heap.size ≤ b ∧ b < w'.heap.size) ∧ (∀ j, ∀ b ∈ own j, b ∈ fp j) ∧ (∀ i j, i < j → ∀ b ∈ own i, b ∉ fp j) ∧ (∀ j, row ∉ own j) ∧ Below w.heap.size w w'

theorem gaveFs_of {w w1 : World} {X : Nat} {V : Nat → Value} {F : Nat → List Nat} (ks : List Nat) (ds : List FD) (r c : Nat) (v : Value) (hv : v = .slice (some ⟨r, 0, none⟩) ks.length c) (hl : ks.length = ds.length) (hrow : Blk w1 r 91 (ks.map V).toArray)
    (hF : ∀ (j k : Nat) (d : FD), ks[j]? = some k → ds[j]? = some d → ∃ own, FAt w1 X (V k) (F k) own d ∧ ∀ b ∈ own, b ∈ F k)
    (hlow : ∀ k ∈ ks, ∀ b ∈ F k, w.heap.size ≤ b ∧ b < w1.heap.size) (hsep : ∀ i j k l : Nat, i < j → ks[i]? = some k → ks[j]? = some l → ∀ b ∈ F k, b ∉ F l) (hr : ∀ k ∈ ks, r ∉ F k) (hb : Below w.heap.size w w1) : GaveFs w X ds (.returned v) w1 := by
  have hex : ∀ j : Nat, ∃ own : List Nat, (∀ (k : Nat) (d : FD), ks[j]? = some k → ds[j]? = some d → FAt w1 X (V k) (F k) own d ∧ ∀ b ∈ own, b ∈ F k) ∧ (ks[j]? = none → own = []) := by
    intro j
    cases hk : ks[j]? with
    | none => exact ⟨[], fun _ _ h => (nomatch h), fun _ => rfl⟩
    | some k =>
      cases hd : ds[j]? with
      | none =>
        rw [List.getElem?_eq_none_iff] at hd
        have := (List.getElem?_eq_some_iff.1 hk).1
        omega
      | some d =>
        obtain ⟨own, h⟩ := hF j k d hk hd
        refine ⟨own, fun k1 d1 e1 e2 => ?_, fun h => (nomatch h)⟩
        cases e1; cases e2
        exact h
  obtain ⟨own, ho⟩ := Classical.skolem.1 hex
  have hsub : ∀ j, ∀ b ∈ own j, ∃ k, ks[j]? = some k ∧ b ∈ F k := by
    intro j b hbj
    cases hk : ks[j]? with
    | none => rw [(ho j).2 hk] at hbj; cases hbj
    | some k =>
      cases hd : ds[j]? with
      | none =>
        rw [List.getElem?_eq_none_iff] at hd
        have := (List.getElem?_eq_some_iff.1 hk).1
        omega
      | some d => exact ⟨k, rfl, ((ho j).1 k d hk hd).2 b hbj⟩
  have hfp : ∀ (j b : Nat), b ∈ (ks[j]?.map F).getD [] → ∃ k, ks[j]? = some k ∧ b ∈ F k := by
    intro j b h
    cases hk : ks[j]? with
    | none => rw [hk] at h; cases h
    | some k => rw [hk] at h; exact ⟨k, rfl, h⟩
  refine ⟨ks.map V, fun j => (ks[j]?.map F).getD [], own, r, c, by rw [hv]; simp, by simp [hl], hrow, ?_, ?_, ?_, ?_, ?_, hb⟩
  · intro j v d hv hd
    rw [List.getElem?_map] at hv
    cases hk : ks[j]? with
    | none => rw [hk] at hv; cases hv
    | some k =>
      rw [hk] at hv
      cases hv
      show FAt w1 X (V k) ((ks[j]?.map F).getD []) (own j) d
      have q := ((ho j).1 k d hk hd).1
      rw [hk]
      exact q
  · intro j b hbj
    obtain ⟨k, hk, h⟩ := hfp j b hbj
    exact hlow k (List.mem_of_getElem? hk) b h
  · intro j b hbj
    obtain ⟨k, hk, h⟩ := hsub j b hbj
    show b ∈ (ks[j]?.map F).getD []
    rw [hk]
    exact h
  · intro i j hij b hbi hbj
    obtain ⟨k, hk, h⟩ := hsub i b hbi
    obtain ⟨l, hl2, h2⟩ := hfp j b hbj
    exact hsep i j k l hij hk hl2 b h h2
  · intro j hbj
    obtain ⟨k, hk, h⟩ := hsub j r hbj
    exact hr k (List.mem_of_getElem? hk) h

def gDst : Nat → Nat
  | 0 => 3
  | 1 => 4
  | 2 => 5
  | 3 => 6
  | 4 => 7
  | 5 => 8
  | 6 => 9
  | 7 => 10
  | 8 => 11
  | 9 => 12
  | 10 => 13
  | 11 => 14
  | 12 => 15
  | 13 => 16
  | 14 => 17
  | 15 => 2
  | _ => 0
def gDep : Nat → List Nat
  | 1 => [0]
  | 2 => [1]
  | 3 => [2]
  | 5 => [4]
  | 6 => [5]
  | 7 => [6]
  | 8 => [7]
  | 10 => [9]
  | 11 => [10]
  | 13 => [11, 12]
  | 14 => [3, 8, 13]
  | 15 => [14]
  | _ => []
def gBook : Nat → Bk
  | 0 => .ptr 0
  | 1 => .ptr 0
  | 2 => .ptr 1
  | 3 => .fld (.eith 3 20480 65536 1)
  | 4 => .ptr 0
  | 5 => .ptr 0
  | 6 => .ptr 0
  | 7 => .row [0]
  | 8 => .fld (.nums 1 1 65535 [0])
  | 9 => .ptr 0
  | 10 => .ptr 0
  | 11 => .ptr 1
  | 12 => .fld (.free 26)
  | 13 => .fld (.cond 1 26)
  | 14 => .top [3, 8, 13]
  | 15 => .last 14
  | _ => .ptr 0
def gEats (j k : Nat) : Bool := (j == 8 && k == 7) || (j == 13 && k == 12)

set_option maxRecDepth 100000 in
set_option maxHeartbeats 1000000 in
theorem glyphsFields_any (X : Nat) (w : World) : Calls Try.prog 35 #[.pointer (some ⟨X, 0, none⟩)] w (GaveFs w X [.eith 3 20480 65536 1, .nums 1 1 65535 [0], .cond 1 26]) := by
  go_enter Try.func35, Try.ntmps35
  go_wp2
  refine wp_region_book (by kernel_rfl) gDst ?_ ?_ ?_ gDep ?_ ?_ gEats ?_ (fun i V w F => BkAt X V w F i (gBook i)) ?_ ?_ ?_
  · intro i o ho
    rcases i with _ | _ | _ | _ | _ | _ | _ | _ | _ | _ | _ | _ | _ | _ | _ | _ | i <;> cases ho <;> rfl
  · have h : ∀ i < 16, ∀ j < 16, gDst i = gDst j → i = j := by decide
    exact fun i j hi hj => h i hi j hj
  · have h : ∀ i < 16, gDst i < 18 ∧ gDst i ≠ 0 := by decide
    exact fun i hi => h i hi
  · intro i o ho
    rcases i with _ | _ | _ | _ | _ | _ | _ | _ | _ | _ | _ | _ | _ | _ | _ | _ | i <;> cases ho <;> decide
  · intro i o ho
    rcases i with _ | _ | _ | _ | _ | _ | _ | _ | _ | _ | _ | _ | _ | _ | _ | _ | i <;> cases ho <;> decide
  · intro j k i h hi
    simp only [gEats, Bool.or_eq_true, Bool.and_eq_true, beq_iff_eq, Bool.or_eq_false_iff, Bool.and_eq_false_iff, beq_eq_false_iff_ne] at h ⊢
    omega
  · intro i V V1 w w1 F h hV hb
    refine h.keep (dep := gDep i) ?_ hV hb
    rcases i with _ | _ | _ | _ | _ | _ | _ | _ | _ | _ | _ | _ | _ | _ | _ | _ | i <;> first | decide | (intro k hk; cases hk)
  · intro i o ho a1 w1 V F hs h0 hb hd
    rcases i with _ | _ | _ | _ | _ | _ | _ | _ | _ | _ | _ | _ | _ | _ | _ | _ | i <;> cases ho
    · exact step_val rfl (run_move _ _ _ _ rfl) ⟨Below.refl _ _, [], ⟨(if_pos rfl).trans (eval_tmp (h0.trans rfl)), rfl⟩, fun _ h => (nomatch h), fun _ h => (nomatch h)⟩
    · obtain ⟨v0, b0⟩ := hd 0 (by decide); exact step_val rfl (run_nilCheck _ _ _ _ _ rfl ((eval_tmp v0).trans b0.1)) ⟨Below.refl _ _, [], ⟨if_pos rfl, rfl⟩, fun _ h => (nomatch h), fun _ h => (nomatch h)⟩
    · obtain ⟨v1, b1⟩ := hd 1 (by decide); exact step_val rfl (run_field _ _ _ _ _ _ _ _ rfl ((eval_tmp v1).trans b1.1) (glyph_true X _)) ⟨Below.refl _ _, [], ⟨if_pos rfl, rfl⟩, fun _ h => (nomatch h), fun _ h => (nomatch h)⟩
    · obtain ⟨v2, b2⟩ := hd 2 (by decide); have u2 : a1.eval (.tmp 5) = .pointer (some ⟨X, 1, none⟩) := (eval_tmp v2).trans b2.1
      refine step_call rfl (run_call _ _ _ _ _ #[.int .i64 3, .int .i64 20480, .int .i64 65536, .pointer (some ⟨X, 1, none⟩)] _ rfl (by simp only [List.map_toArray, List.map_cons, List.map_nil, u2]; try rfl) rfl) ((either_new X 3 20480 65536 1 w1).mono ?_)
      rintro e w2 ⟨fv, fp, own, rfl, hF, k1, k2, k3, k4⟩
      exact ⟨fv, rfl, k4, fp, ⟨own, hF, k3⟩, fun b hb => (k1 b hb).elim (fun h => (nomatch h)) .inr, k2⟩
    · exact step_val rfl (run_move _ _ _ _ rfl) ⟨Below.refl _ _, [], ⟨(if_pos rfl).trans (eval_tmp (h0.trans rfl)), rfl⟩, fun _ h => (nomatch h), fun _ h => (nomatch h)⟩
    · obtain ⟨v4, b4⟩ := hd 4 (by decide); exact step_val rfl (run_nilCheck _ _ _ _ _ rfl ((eval_tmp v4).trans b4.1)) ⟨Below.refl _ _, [], ⟨if_pos rfl, rfl⟩, fun _ h => (nomatch h), fun _ h => (nomatch h)⟩
    · obtain ⟨v5, b5⟩ := hd 5 (by decide); exact step_val rfl (run_field _ _ _ _ _ _ _ _ rfl ((eval_tmp v5).trans b5.1) (glyph_n X _)) ⟨Below.refl _ _, [], ⟨if_pos rfl, rfl⟩, fun _ h => (nomatch h), fun _ h => (nomatch h)⟩
    · obtain ⟨v6, b6⟩ := hd 6 (by decide); have u6 : a1.eval (.tmp 9) = .pointer (some ⟨X, 0, none⟩) := (eval_tmp v6).trans b6.1
      refine step_val rfl (run_slice _ _ _ _ _ #[(0, .pointer (some ⟨X, 0, none⟩))] _ _ _ rfl (by simp only [List.map_toArray, List.map_cons, List.map_nil, u6]; try rfl) (row1 X 0 w1)) ⟨(Below.refl _ _).alloc (Nat.le_refl _) _, [w1.heap.size], ⟨w1.heap.size, 1, if_pos rfl, Blk.at rfl, rfl⟩, fun b hb => .inr (by have e : b = w1.heap.size := (by simpa using hb); omega), fun b hb => (by have e : b = w1.heap.size := (by simpa using hb); rw [al_size]; omega)⟩
    · obtain ⟨v7, b7⟩ := hd 7 (by decide); obtain ⟨r, c, e1, e2, e3⟩ := b7
      have u7 : a1.eval (.tmp 10) = .slice (some ⟨r, 0, none⟩) 1 c := (eval_tmp v7).trans e1
      refine step_call rfl (run_call _ _ _ _ _ #[.int .i64 1, .int .i64 1, .int .i64 65535, .slice (some ⟨r, 0, none⟩) 1 c] _ rfl (by simp only [List.map_toArray, List.map_cons, List.map_nil, u7]; try rfl) rfl) ((numbers_new X 1 1 65535 [0] r c w1 e2).mono ?_)
      rintro e w2 ⟨fv, fp, own, rfl, hF, k1, k2, k3, k4⟩
      exact ⟨fv, rfl, k4, fp, ⟨own, hF, k3⟩, fun b hb => (k1 b hb).elim (fun h => .inl ⟨7, by decide, rfl, e3 ▸ h⟩) .inr, k2⟩
    · exact step_val rfl (run_move _ _ _ _ rfl) ⟨Below.refl _ _, [], ⟨(if_pos rfl).trans (eval_tmp (h0.trans rfl)), rfl⟩, fun _ h => (nomatch h), fun _ h => (nomatch h)⟩
    · obtain ⟨v9, b9⟩ := hd 9 (by decide); exact step_val rfl (run_nilCheck _ _ _ _ _ rfl ((eval_tmp v9).trans b9.1)) ⟨Below.refl _ _, [], ⟨if_pos rfl, rfl⟩, fun _ h => (nomatch h), fun _ h => (nomatch h)⟩
    · obtain ⟨v10, b10⟩ := hd 10 (by decide); exact step_val rfl (run_field _ _ _ _ _ _ _ _ rfl ((eval_tmp v10).trans b10.1) (glyph_true X _)) ⟨Below.refl _ _, [], ⟨if_pos rfl, rfl⟩, fun _ h => (nomatch h), fun _ h => (nomatch h)⟩
    · refine step_call rfl (run_call _ _ _ _ _ #[.int .i64 26] _ rfl (by simp only [List.map_toArray, List.map_cons, List.map_nil]; try rfl) rfl) ((free_new X 26 w1).mono ?_)
      rintro e w2 ⟨fv, fp, own, rfl, hF, k1, k2, k3, k4⟩
      exact ⟨fv, rfl, k4, fp, ⟨own, hF, k3⟩, fun b hb => (k1 b hb).elim (fun h => (nomatch h)) .inr, k2⟩
    · obtain ⟨v11, b11⟩ := hd 11 (by decide); obtain ⟨v12, b12⟩ := hd 12 (by decide); have u11 : a1.eval (.tmp 14) = .pointer (some ⟨X, 1, none⟩) := (eval_tmp v11).trans b11.1
      obtain ⟨own0, ⟨pn, e1, e2, e3, _⟩, _⟩ := b12
      have u12 : a1.eval (.tmp 15) = .func (.func 59) #[] #[.pointer (some ⟨pn, 0, none⟩)] := (eval_tmp v12).trans e1
      refine step_call rfl (run_call _ _ _ _ _ #[.pointer (some ⟨X, 1, none⟩), .func (.func 59) #[] #[.pointer (some ⟨pn, 0, none⟩)]] _ rfl (by simp only [List.map_toArray, List.map_cons, List.map_nil, u11, u12]; try rfl) rfl) ((where_new X 1 26 pn w1 e2).mono ?_)
      rintro e w2 ⟨fv, fp, own, rfl, hF, k1, k2, k3, k4⟩
      exact ⟨fv, rfl, k4, fp, ⟨own, hF, k3⟩, fun b hb => (k1 b hb).elim (fun h => .inl ⟨12, by decide, rfl, e3 ▸ h⟩) .inr, k2⟩
    · obtain ⟨v3, b3⟩ := hd 3 (by decide); obtain ⟨v8, b8⟩ := hd 8 (by decide); obtain ⟨v13, b13⟩ := hd 13 (by decide); obtain ⟨_, f3, _⟩ := b3; obtain ⟨g3, l3, y3⟩ := f3.func; have u3 : a1.eval (.tmp 6) = .func g3 #[] l3 := (eval_tmp v3).trans y3
      obtain ⟨_, f8, _⟩ := b8; obtain ⟨g8, l8, y8⟩ := f8.func; have u8 : a1.eval (.tmp 11) = .func g8 #[] l8 := (eval_tmp v8).trans y8
      obtain ⟨_, f13, _⟩ := b13; obtain ⟨g13, l13, y13⟩ := f13.func; have u13 : a1.eval (.tmp 16) = .func g13 #[] l13 := (eval_tmp v13).trans y13
      refine step_val rfl (run_slice _ _ _ _ _ #[(0, .func g3 #[] l3), (1, .func g8 #[] l8), (2, .func g13 #[] l13)] _ _ _ rfl (by simp only [List.map_toArray, List.map_cons, List.map_nil, u3, u8, u13]; try rfl) (row_fn3 g3 g8 g13 l3 l8 l13 w1)) ⟨(Below.refl _ _).alloc (Nat.le_refl _) _, [w1.heap.size], ⟨w1.heap.size, 3, if_pos rfl, ?_, rfl⟩, fun b hb => .inr (by have e : b = w1.heap.size := (by simpa using hb); omega), fun b hb => (by have e : b = w1.heap.size := (by simpa using hb); rw [al_size]; omega)⟩
      simp only [List.map_cons, List.map_nil, y3, y8, y13]
      exact Blk.at rfl
    · obtain ⟨v14, b14⟩ := hd 14 (by decide); exact step_val rfl (run_assign _ _ _ _ rfl) ⟨Below.refl _ _, [], ⟨(if_pos rfl).trans (eval_tmp v14), rfl⟩, fun _ h => (nomatch h), fun _ h => (nomatch h)⟩
  · intro a1 w1 V F listed hl g
    have T := fun i h => And.intro (g.val i (hl i h)) (g.fact i (hl i h))
    obtain ⟨r, c, e1, e2, e3⟩ := (T 14 (by decide)).2
    have hv : V 15 = .slice (some ⟨r, 0, none⟩) (List.length [3, 8, 13]) c := (T 15 (by decide)).2.1.trans e1
    have hfin : GaveFs w X [.eith 3 20480 65536 1, .nums 1 1 65535 [0], .cond 1 26] (.returned (V 15)) w1 := by
      have hsep : ∀ i < 16, ∀ j < 16, i ≠ j → gEats i j = false → gEats j i = false → ∀ b ∈ F i, b ∉ F j := fun i hi j hj h1 h2 h3 => g.sep i j (hl i hi) (hl j hj) h1 h2 h3
      refine gaveFs_of (V := V) (F := F) [3, 8, 13] [.eith 3 20480 65536 1, .nums 1 1 65535 [0], .cond 1 26] r c _ hv rfl e2 ?_ ?_ ?_ ?_ g.below
      · intro j k d hk hd
        rcases j with _ | _ | _ | j <;> cases hk <;> cases hd <;> first | exact (T 3 (by decide)).2 | exact (T 8 (by decide)).2 | exact (T 13 (by decide)).2
      · intro k hk
        have : k < 16 := by revert k; decide
        exact fun b hb => g.low k (hl k this) b hb
      · intro i j k l hij hk hl2
        rcases i with _ | _ | _ | j <;> cases hk <;> rcases j with _ | _ | _ | j <;> first | (exfalso; omega) | (cases hl2 <;> exact hsep _ (by decide) _ (by decide) (by decide) rfl rfl)
      · intro k hk hm
        have hall : ∀ k ∈ [3, 8, 13], k < 16 ∧ k ≠ 14 ∧ gEats k 14 = false ∧ gEats 14 k = false := by decide
        have h1 := hall k hk
        exact hsep 14 (by decide) k h1.1 (Ne.symm h1.2.1) h1.2.2.2 h1.2.2.1 r (by rw [e3]; simp) hm
    have hval := (T 15 (by decide)).1
    obtain ⟨tm, df⟩ := a1
    obtain rfl : df = [] := g.defers
    have hv2 : tm[2]? = some (V 15) := hval
    have hv3 : tm.getD 2 undef = V 15 := by rw [Array.getD_eq_getD_getElem?, hv2]; rfl
    clear g T hval
    (try simp only [Exit.then])
    first | go_at_K | skip
    go_wp2
    go_ret
    rw [hv3]
    exact hfin

end Go.Proofs.Ytbomgaacahaofaa

namespace Go.Proofs.Ytbomgaacahaofaa
open Go Go.RowKit

set_option maxRecDepth 100000 in
theorem line_at0 (X : Nat) (w : World) : (Instr.fieldAt 50 (.pointer (some ⟨X, 0, none⟩)) 0).run Try.prog w = .ok (.pointer (some ⟨X, 0, none⟩)) w := by
  rfl
set_option maxRecDepth 100000 in
theorem line_at1 (X : Nat) (w : World) : (Instr.fieldAt 50 (.pointer (some ⟨X, 0, none⟩)) 1).run Try.prog w = .ok (.pointer (some ⟨X, 1, none⟩)) w := by
  rfl
set_option maxRecDepth 100000 in
theorem line_at2 (X : Nat) (w : World) : (Instr.fieldAt 50 (.pointer (some ⟨X, 0, none⟩)) 2).run Try.prog w = .ok (.pointer (some ⟨X, 2, none⟩)) w := by
  rfl
set_option maxRecDepth 100000 in
theorem line_at3 (X : Nat) (w : World) : (Instr.fieldAt 50 (.pointer (some ⟨X, 0, none⟩)) 3).run Try.prog w = .ok (.pointer (some ⟨X, 3, none⟩)) w := by
  rfl
set_option maxRecDepth 100000 in
theorem row3 (X o0 o1 o2 : Nat) (w : World) : (Instr.buildSlice 111 3 #[(0, .pointer (some ⟨X, o0, none⟩)), (1, .pointer (some ⟨X, o1, none⟩)), (2, .pointer (some ⟨X, o2, none⟩))]).run Try.prog w = .ok (.slice (some ⟨w.heap.size, 0, none⟩) 3 3) (w.alloc (.cells #[.pointer (some ⟨X, o0, none⟩), .pointer (some ⟨X, o1, none⟩), .pointer (some ⟨X, o2, none⟩)] 96)) := by
  go_simp
set_option maxRecDepth 100000 in
theorem row_fn6 (g0 g1 g2 g3 g4 g5 : Fn) (l0 l1 l2 l3 l4 l5 : Array Value) (w : World) : (Instr.buildSlice 87 6 #[(0, .func g0 #[] l0), (1, .func g1 #[] l1), (2, .func g2 #[] l2), (3, .func g3 #[] l3), (4, .func g4 #[] l4), (5, .func g5 #[] l5)]).run Try.prog w = .ok (.slice (some ⟨w.heap.size, 0, none⟩) 6 6) (w.alloc (.cells #[.func g0 #[] l0, .func g1 #[] l1, .func g2 #[] l2, .func g3 #[] l3, .func g4 #[] l4, .func g5 #[] l5] 91)) := by
  go_simp

def lDst : Nat → Nat
  | 0 => 3
  | 1 => 4
  | 2 => 5
  | 3 => 6
  | 4 => 7
  | 5 => 8
  | 6 => 9
  | 7 => 10
  | 8 => 11
  | 9 => 12
  | 10 => 13
  | 11 => 14
  | 12 => 15
  | 13 => 16
  | 14 => 17
  | 15 => 18
  | 16 => 19
  | 17 => 20
  | 18 => 21
  | 19 => 22
  | 20 => 23
  | 21 => 2
  | _ => 0
def lDep : Nat → List Nat
  | 3 => [2]
  | 4 => [3]
  | 6 => [5]
  | 7 => [6]
  | 9 => [8]
  | 10 => [9]
  | 11 => [4, 7, 10]
  | 12 => [11]
  | 16 => [15]
  | 17 => [16]
  | 18 => [17]
  | 19 => [18]
  | 20 => [0, 1, 12, 13, 14, 19]
  | 21 => [20]
  | _ => []
def lBook : Nat → Bk
  | 0 => .fld (.just 1 1)
  | 1 => .fld (.just 1 0)
  | 2 => .ptr 0
  | 3 => .ptr 0
  | 4 => .ptr 0
  | 5 => .ptr 0
  | 6 => .ptr 0
  | 7 => .ptr 1
  | 8 => .ptr 0
  | 9 => .ptr 0
  | 10 => .ptr 2
  | 11 => .row [0, 1, 2]
  | 12 => .fld (.nums 2 (-32768) 32767 [0, 1, 2])
  | 13 => .fld (.free 22)
  | 14 => .fld (.just 1 0)
  | 15 => .ptr 0
  | 16 => .ptr 0
  | 17 => .ptr 3
  | 18 => .row [3]
  | 19 => .fld (.nums 1 1 65535 [3])
  | 20 => .top [0, 1, 12, 13, 14, 19]
  | 21 => .last 20
  | _ => .ptr 0
def lEats (j k : Nat) : Bool := (j == 12 && k == 11) || (j == 19 && k == 18)

set_option maxRecDepth 100000 in
set_option maxHeartbeats 1000000 in
theorem linesFields_any (X : Nat) (w : World) : Calls Try.prog 39 #[.pointer (some ⟨X, 0, none⟩)] w (GaveFs w X [.just 1 1, .just 1 0, .nums 2 (-32768) 32767 [0, 1, 2], .free 22, .just 1 0, .nums 1 1 65535 [3]]) := by
  go_enter Try.func39, Try.ntmps39
  go_wp2
  refine wp_region_book (by kernel_rfl) lDst ?_ ?_ ?_ lDep ?_ ?_ lEats ?_ (fun i V w F => BkAt X V w F i (lBook i)) ?_ ?_ ?_
  · intro i o ho
    rcases i with _ | _ | _ | _ | _ | _ | _ | _ | _ | _ | _ | _ | _ | _ | _ | _ | _ | _ | _ | _ | _ | _ | i <;> cases ho <;> rfl
  · have h : ∀ i < 22, ∀ j < 22, lDst i = lDst j → i = j := by decide
    exact fun i j hi hj => h i hi j hj
  · have h : ∀ i < 22, lDst i < 24 ∧ lDst i ≠ 0 := by decide
    exact fun i hi => h i hi
  · intro i o ho
    rcases i with _ | _ | _ | _ | _ | _ | _ | _ | _ | _ | _ | _ | _ | _ | _ | _ | _ | _ | _ | _ | _ | _ | i <;> cases ho <;> decide
  · intro i o ho
    rcases i with _ | _ | _ | _ | _ | _ | _ | _ | _ | _ | _ | _ | _ | _ | _ | _ | _ | _ | _ | _ | _ | _ | i <;> cases ho <;> decide
  · intro j k i h hi
    simp only [lEats, Bool.or_eq_true, Bool.and_eq_true, beq_iff_eq, Bool.or_eq_false_iff, Bool.and_eq_false_iff, beq_eq_false_iff_ne] at h ⊢
    omega
  · intro i V V1 w w1 F h hV hb
    refine h.keep (dep := lDep i) ?_ hV hb
    rcases i with _ | _ | _ | _ | _ | _ | _ | _ | _ | _ | _ | _ | _ | _ | _ | _ | _ | _ | _ | _ | _ | _ | i <;> first | decide | (intro k hk; cases hk)
  · intro i o ho a1 w1 V F hs h0 hb hd
    rcases i with _ | _ | _ | _ | _ | _ | _ | _ | _ | _ | _ | _ | _ | _ | _ | _ | _ | _ | _ | _ | _ | _ | i <;> cases ho
    · refine step_call rfl (run_call _ _ _ _ _ #[.int .i64 1, .int .i64 1] _ rfl (by simp only [List.map_toArray, List.map_cons, List.map_nil]; try rfl) rfl) ((just_new X 1 1 w1).mono ?_)
      rintro e w2 ⟨fv, fp, own, rfl, hF, k1, k2, k3, k4⟩
      exact ⟨fv, rfl, k4, fp, ⟨own, hF, k3⟩, fun b hb => (k1 b hb).elim (fun h => (nomatch h)) .inr, k2⟩
    · refine step_call rfl (run_call _ _ _ _ _ #[.int .i64 1, .int .i64 0] _ rfl (by simp only [List.map_toArray, List.map_cons, List.map_nil]; try rfl) rfl) ((just_new X 1 0 w1).mono ?_)
      rintro e w2 ⟨fv, fp, own, rfl, hF, k1, k2, k3, k4⟩
      exact ⟨fv, rfl, k4, fp, ⟨own, hF, k3⟩, fun b hb => (k1 b hb).elim (fun h => (nomatch h)) .inr, k2⟩
    · exact step_val rfl (run_move _ _ _ _ rfl) ⟨Below.refl _ _, [], ⟨(if_pos rfl).trans (eval_tmp (h0.trans rfl)), rfl⟩, fun _ h => (nomatch h), fun _ h => (nomatch h)⟩
    · obtain ⟨v2, b2⟩ := hd 2 (by decide); exact step_val rfl (run_nilCheck _ _ _ _ _ rfl ((eval_tmp v2).trans b2.1)) ⟨Below.refl _ _, [], ⟨if_pos rfl, rfl⟩, fun _ h => (nomatch h), fun _ h => (nomatch h)⟩
    · obtain ⟨v3, b3⟩ := hd 3 (by decide); exact step_val rfl (run_field _ _ _ _ _ _ _ _ rfl ((eval_tmp v3).trans b3.1) (line_at0 X _)) ⟨Below.refl _ _, [], ⟨if_pos rfl, rfl⟩, fun _ h => (nomatch h), fun _ h => (nomatch h)⟩
    · exact step_val rfl (run_move _ _ _ _ rfl) ⟨Below.refl _ _, [], ⟨(if_pos rfl).trans (eval_tmp (h0.trans rfl)), rfl⟩, fun _ h => (nomatch h), fun _ h => (nomatch h)⟩
    · obtain ⟨v5, b5⟩ := hd 5 (by decide); exact step_val rfl (run_nilCheck _ _ _ _ _ rfl ((eval_tmp v5).trans b5.1)) ⟨Below.refl _ _, [], ⟨if_pos rfl, rfl⟩, fun _ h => (nomatch h), fun _ h => (nomatch h)⟩
    · obtain ⟨v6, b6⟩ := hd 6 (by decide); exact step_val rfl (run_field _ _ _ _ _ _ _ _ rfl ((eval_tmp v6).trans b6.1) (line_at1 X _)) ⟨Below.refl _ _, [], ⟨if_pos rfl, rfl⟩, fun _ h => (nomatch h), fun _ h => (nomatch h)⟩
    · exact step_val rfl (run_move _ _ _ _ rfl) ⟨Below.refl _ _, [], ⟨(if_pos rfl).trans (eval_tmp (h0.trans rfl)), rfl⟩, fun _ h => (nomatch h), fun _ h => (nomatch h)⟩
    · obtain ⟨v8, b8⟩ := hd 8 (by decide); exact step_val rfl (run_nilCheck _ _ _ _ _ rfl ((eval_tmp v8).trans b8.1)) ⟨Below.refl _ _, [], ⟨if_pos rfl, rfl⟩, fun _ h => (nomatch h), fun _ h => (nomatch h)⟩
    · obtain ⟨v9, b9⟩ := hd 9 (by decide); exact step_val rfl (run_field _ _ _ _ _ _ _ _ rfl ((eval_tmp v9).trans b9.1) (line_at2 X _)) ⟨Below.refl _ _, [], ⟨if_pos rfl, rfl⟩, fun _ h => (nomatch h), fun _ h => (nomatch h)⟩
    · obtain ⟨v4, b4⟩ := hd 4 (by decide); obtain ⟨v7, b7⟩ := hd 7 (by decide); obtain ⟨v10, b10⟩ := hd 10 (by decide); have u4 : a1.eval (.tmp 7) = .pointer (some ⟨X, 0, none⟩) := (eval_tmp v4).trans b4.1
      have u7 : a1.eval (.tmp 10) = .pointer (some ⟨X, 1, none⟩) := (eval_tmp v7).trans b7.1
      have u10 : a1.eval (.tmp 13) = .pointer (some ⟨X, 2, none⟩) := (eval_tmp v10).trans b10.1
      refine step_val rfl (run_slice _ _ _ _ _ #[(0, .pointer (some ⟨X, 0, none⟩)), (1, .pointer (some ⟨X, 1, none⟩)), (2, .pointer (some ⟨X, 2, none⟩))] _ _ _ rfl (by simp only [List.map_toArray, List.map_cons, List.map_nil, u4, u7, u10]; try rfl) (row3 X 0 1 2 w1)) ⟨(Below.refl _ _).alloc (Nat.le_refl _) _, [w1.heap.size], ⟨w1.heap.size, 3, if_pos rfl, Blk.at rfl, rfl⟩, fun b hb => .inr (by have e : b = w1.heap.size := (by simpa using hb); omega), fun b hb => (by have e : b = w1.heap.size := (by simpa using hb); rw [al_size]; omega)⟩
    · obtain ⟨v11, b11⟩ := hd 11 (by decide); obtain ⟨r, c, e1, e2, e3⟩ := b11
      have u11 : a1.eval (.tmp 14) = .slice (some ⟨r, 0, none⟩) 3 c := (eval_tmp v11).trans e1
      refine step_call rfl (run_call _ _ _ _ _ #[.int .i64 2, .int .i64 (-32768), .int .i64 32767, .slice (some ⟨r, 0, none⟩) 3 c] _ rfl (by simp only [List.map_toArray, List.map_cons, List.map_nil, u11]; try rfl) rfl) ((numbers_new X 2 (-32768) 32767 [0, 1, 2] r c w1 e2).mono ?_)
      rintro e w2 ⟨fv, fp, own, rfl, hF, k1, k2, k3, k4⟩
      exact ⟨fv, rfl, k4, fp, ⟨own, hF, k3⟩, fun b hb => (k1 b hb).elim (fun h => .inl ⟨11, by decide, rfl, e3 ▸ h⟩) .inr, k2⟩
    · refine step_call rfl (run_call _ _ _ _ _ #[.int .i64 22] _ rfl (by simp only [List.map_toArray, List.map_cons, List.map_nil]; try rfl) rfl) ((free_new X 22 w1).mono ?_)
      rintro e w2 ⟨fv, fp, own, rfl, hF, k1, k2, k3, k4⟩
      exact ⟨fv, rfl, k4, fp, ⟨own, hF, k3⟩, fun b hb => (k1 b hb).elim (fun h => (nomatch h)) .inr, k2⟩
    · refine step_call rfl (run_call _ _ _ _ _ #[.int .i64 1, .int .i64 0] _ rfl (by simp only [List.map_toArray, List.map_cons, List.map_nil]; try rfl) rfl) ((just_new X 1 0 w1).mono ?_)
      rintro e w2 ⟨fv, fp, own, rfl, hF, k1, k2, k3, k4⟩
      exact ⟨fv, rfl, k4, fp, ⟨own, hF, k3⟩, fun b hb => (k1 b hb).elim (fun h => (nomatch h)) .inr, k2⟩
    · exact step_val rfl (run_move _ _ _ _ rfl) ⟨Below.refl _ _, [], ⟨(if_pos rfl).trans (eval_tmp (h0.trans rfl)), rfl⟩, fun _ h => (nomatch h), fun _ h => (nomatch h)⟩
    · obtain ⟨v15, b15⟩ := hd 15 (by decide); exact step_val rfl (run_nilCheck _ _ _ _ _ rfl ((eval_tmp v15).trans b15.1)) ⟨Below.refl _ _, [], ⟨if_pos rfl, rfl⟩, fun _ h => (nomatch h), fun _ h => (nomatch h)⟩
    · obtain ⟨v16, b16⟩ := hd 16 (by decide); exact step_val rfl (run_field _ _ _ _ _ _ _ _ rfl ((eval_tmp v16).trans b16.1) (line_at3 X _)) ⟨Below.refl _ _, [], ⟨if_pos rfl, rfl⟩, fun _ h => (nomatch h), fun _ h => (nomatch h)⟩
    · obtain ⟨v17, b17⟩ := hd 17 (by decide); have u17 : a1.eval (.tmp 20) = .pointer (some ⟨X, 3, none⟩) := (eval_tmp v17).trans b17.1
      refine step_val rfl (run_slice _ _ _ _ _ #[(0, .pointer (some ⟨X, 3, none⟩))] _ _ _ rfl (by simp only [List.map_toArray, List.map_cons, List.map_nil, u17]; try rfl) (row1 X 3 w1)) ⟨(Below.refl _ _).alloc (Nat.le_refl _) _, [w1.heap.size], ⟨w1.heap.size, 1, if_pos rfl, Blk.at rfl, rfl⟩, fun b hb => .inr (by have e : b = w1.heap.size := (by simpa using hb); omega), fun b hb => (by have e : b = w1.heap.size := (by simpa using hb); rw [al_size]; omega)⟩
    · obtain ⟨v18, b18⟩ := hd 18 (by decide); obtain ⟨r, c, e1, e2, e3⟩ := b18
      have u18 : a1.eval (.tmp 21) = .slice (some ⟨r, 0, none⟩) 1 c := (eval_tmp v18).trans e1
      refine step_call rfl (run_call _ _ _ _ _ #[.int .i64 1, .int .i64 1, .int .i64 65535, .slice (some ⟨r, 0, none⟩) 1 c] _ rfl (by simp only [List.map_toArray, List.map_cons, List.map_nil, u18]; try rfl) rfl) ((numbers_new X 1 1 65535 [3] r c w1 e2).mono ?_)
      rintro e w2 ⟨fv, fp, own, rfl, hF, k1, k2, k3, k4⟩
      exact ⟨fv, rfl, k4, fp, ⟨own, hF, k3⟩, fun b hb => (k1 b hb).elim (fun h => .inl ⟨18, by decide, rfl, e3 ▸ h⟩) .inr, k2⟩
    · obtain ⟨v0, b0⟩ := hd 0 (by decide); obtain ⟨v1, b1⟩ := hd 1 (by decide); obtain ⟨v12, b12⟩ := hd 12 (by decide); obtain ⟨v13, b13⟩ := hd 13 (by decide); obtain ⟨v14, b14⟩ := hd 14 (by decide); obtain ⟨v19, b19⟩ := hd 19 (by decide); obtain ⟨_, f0, _⟩ := b0; obtain ⟨g0, l0, y0⟩ := f0.func; have u0 : a1.eval (.tmp 3) = .func g0 #[] l0 := (eval_tmp v0).trans y0
      obtain ⟨_, f1, _⟩ := b1; obtain ⟨g1, l1, y1⟩ := f1.func; have u1 : a1.eval (.tmp 4) = .func g1 #[] l1 := (eval_tmp v1).trans y1
      obtain ⟨_, f12, _⟩ := b12; obtain ⟨g12, l12, y12⟩ := f12.func; have u12 : a1.eval (.tmp 15) = .func g12 #[] l12 := (eval_tmp v12).trans y12
      obtain ⟨_, f13, _⟩ := b13; obtain ⟨g13, l13, y13⟩ := f13.func; have u13 : a1.eval (.tmp 16) = .func g13 #[] l13 := (eval_tmp v13).trans y13
      obtain ⟨_, f14, _⟩ := b14; obtain ⟨g14, l14, y14⟩ := f14.func; have u14 : a1.eval (.tmp 17) = .func g14 #[] l14 := (eval_tmp v14).trans y14
      obtain ⟨_, f19, _⟩ := b19; obtain ⟨g19, l19, y19⟩ := f19.func; have u19 : a1.eval (.tmp 22) = .func g19 #[] l19 := (eval_tmp v19).trans y19
      refine step_val rfl (run_slice _ _ _ _ _ #[(0, .func g0 #[] l0), (1, .func g1 #[] l1), (2, .func g12 #[] l12), (3, .func g13 #[] l13), (4, .func g14 #[] l14), (5, .func g19 #[] l19)] _ _ _ rfl (by simp only [List.map_toArray, List.map_cons, List.map_nil, u0, u1, u12, u13, u14, u19]; try rfl) (row_fn6 g0 g1 g12 g13 g14 g19 l0 l1 l12 l13 l14 l19 w1)) ⟨(Below.refl _ _).alloc (Nat.le_refl _) _, [w1.heap.size], ⟨w1.heap.size, 6, if_pos rfl, ?_, rfl⟩, fun b hb => .inr (by have e : b = w1.heap.size := (by simpa using hb); omega), fun b hb => (by have e : b = w1.heap.size := (by simpa using hb); rw [al_size]; omega)⟩
      simp only [List.map_cons, List.map_nil, y0, y1, y12, y13, y14, y19]
      exact Blk.at rfl
    · obtain ⟨v20, b20⟩ := hd 20 (by decide); exact step_val rfl (run_assign _ _ _ _ rfl) ⟨Below.refl _ _, [], ⟨(if_pos rfl).trans (eval_tmp v20), rfl⟩, fun _ h => (nomatch h), fun _ h => (nomatch h)⟩
  · intro a1 w1 V F listed hl g
    have T := fun i h => And.intro (g.val i (hl i h)) (g.fact i (hl i h))
    obtain ⟨r, c, e1, e2, e3⟩ := (T 20 (by decide)).2
    have hv : V 21 = .slice (some ⟨r, 0, none⟩) (List.length [0, 1, 12, 13, 14, 19]) c := (T 21 (by decide)).2.1.trans e1
    have hfin : GaveFs w X [.just 1 1, .just 1 0, .nums 2 (-32768) 32767 [0, 1, 2], .free 22, .just 1 0, .nums 1 1 65535 [3]] (.returned (V 21)) w1 := by
      have hsep : ∀ i < 22, ∀ j < 22, i ≠ j → lEats i j = false → lEats j i = false → ∀ b ∈ F i, b ∉ F j := fun i hi j hj h1 h2 h3 => g.sep i j (hl i hi) (hl j hj) h1 h2 h3
      refine gaveFs_of (V := V) (F := F) [0, 1, 12, 13, 14, 19] [.just 1 1, .just 1 0, .nums 2 (-32768) 32767 [0, 1, 2], .free 22, .just 1 0, .nums 1 1 65535 [3]] r c _ hv rfl e2 ?_ ?_ ?_ ?_ g.below
      · intro j k d hk hd
        rcases j with _ | _ | _ | _ | _ | _ | j <;> cases hk <;> cases hd <;> first | exact (T 0 (by decide)).2 | exact (T 1 (by decide)).2 | exact (T 12 (by decide)).2 | exact (T 13 (by decide)).2 | exact (T 14 (by decide)).2 | exact (T 19 (by decide)).2
      · intro k hk
        have : k < 22 := by revert k; decide
        exact fun b hb => g.low k (hl k this) b hb
      · intro i j k l hij hk hl2
        rcases i with _ | _ | _ | _ | _ | _ | j <;> cases hk <;> rcases j with _ | _ | _ | _ | _ | _ | j <;> first | (exfalso; omega) | (cases hl2 <;> exact hsep _ (by decide) _ (by decide) (by decide) rfl rfl)
      · intro k hk hm
        have hall : ∀ k ∈ [0, 1, 12, 13, 14, 19], k < 22 ∧ k ≠ 20 ∧ lEats k 20 = false ∧ lEats 20 k = false := by decide
        have h1 := hall k hk
        exact hsep 20 (by decide) k h1.1 (Ne.symm h1.2.1) h1.2.2.2 h1.2.2.1 r (by rw [e3]; simp) hm
    have hval := (T 21 (by decide)).1
    obtain ⟨tm, df⟩ := a1
    obtain rfl : df = [] := g.defers
    have hv2 : tm[2]? = some (V 21) := hval
    have hv3 : tm.getD 2 undef = V 21 := by rw [Array.getD_eq_getD_getElem?, hv2]; rfl
    clear g T hval
    (try simp only [Exit.then])
    first | go_at_K | skip
    go_wp2
    go_ret
    rw [hv3]
    exact hfin

end Go.Proofs.Ytbomgaacahaofaa
