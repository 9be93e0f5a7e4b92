/- Part 4 of the proof: ChainW, Flat, CnA, CnB, Fork, Mix. -/
import Derived.Deep.MidRow
import Derived.Laws.ResultCell
import Derived.Laws.Rows
import Derived.Laws.Tables
import Derived.Laws.CopyOwn
import Derived.Lib.Hide
import Derived.Test.YtlbbigehjdnjmaaCCn2

namespace Go.Proofs.Ytlbbigehjdnjmaa
open Go Go.RowKit
set_option linter.unusedVariables false
set_option linter.unusedSimpArgs false

section
variable {P : Program} {ops : Array Oper} {I : World → Prop} {E : Act → World → Prop} {i : Nat} {r : List (Nat × Bool)} {o : Oper} {a : Act} {w : World}
theorem ChainL.appendW (hi : ops[i]? = some o) (hw : Region.wanted o (yielded ops a.tmps) = true) (s x : Operand) (t : TypeId)
    (ho : o.op = .call { callee := .builtin .append, args := #[s, x], argTypes := #[t, t] })
    (base : Nat) (e : TypeId) (info : TypeInfo) (z : Value) (size bytes : Nat) (ht : P.underlying t = some (.slice e)) (hi' : P.info? e = some info) (hz : info.zero = some z)
    (hsize : info.size = size) (hby : info.bytes = bytes) (hzs : z.cells.size = size) (hsz : 0 < size)
    (v : Value) (n : Nat) (xs : List Value) (hs : a.eval s = v) (hown : w.ownsRow base e size v n xs)
    (B : Nat) (A : Option Addr) (m c : Nat) (news : List Value) (hx : a.eval x = .slice A m c) (hr : Lists w B A news) (hl : news.length = m * size) (h1 : ∀ u ∈ news, u.oneCell' = true)
    (h63 : n + m ≤ maxLen) (hbytes : ((n + m) + (n + m) / 4 + 192) * bytes ≤ 281474976710656) (hbase : base ≤ w.heap.size)
    (h : ∀ v' w', w'.ownsRow base e size v' (n + m) (xs ++ news) → w.grownBy w' v.ownBlock → I w' ∧ ChainL P ops E I r (a.put o.dst v') w') : ChainL P ops E I ((i, true) :: r) a w := by
  obtain ⟨v', w', hrun, h2, h3⟩ := run_append_src_wide (P := P) w base t o.type e info z size bytes ht hi' hz hsize hby hzs hsz v n xs hown B A m c news hr hl h1 h63 hbytes hbase
  refine ⟨o, hi, hw, .inl ⟨v', w', ?_, h v' w' h2 h3⟩⟩
  unfold execOp
  simp only [ho, resolve, invoke, builtin, Sem.run_bind, Sem.run_pure, Result.andThen_ok, List.map_toArray, List.map_cons, List.map_nil, hs, hx, hrun]
end
theorem own_new (w : World) : (w.alloc (.cells #[] 5)).ownsRow w.heap.size 5 1 (.slice (some ⟨w.heap.size, 0, none⟩) 0 0) 0 [] := ⟨rfl, .inr ⟨w.heap.size, 0, #[], rfl, Nat.le_refl _, heap_alloc_new w _, Nat.le_refl _, Nat.zero_le _, rfl, rfl⟩⟩
theorem own_new_at (w : World) (k : Nat) (hk : k = w.heap.size) : (w.alloc (.cells #[] 5)).ownsRow k 5 1 (.slice (some ⟨k, 0, none⟩) 0 0) 0 [] := hk ▸ own_new w

end Go.Proofs.Ytlbbigehjdnjmaa

namespace Go.Proofs.Ytlbbigehjdnjmaa
open Go Go.RowKit
set_option linter.unusedVariables false
set_option linter.unusedSimpArgs false

theorem flat_at {α : Type} {f : α → List Value} {sz : Nat} (hf : ∀ x, (f x).length = sz) : ∀ (L : List α) (k : Nat) (x : α), L[k]? = some x → ∀ j v, (f x)[j]? = some v → (L.flatMap f)[k * sz + j]? = some v
  | [], k, x, h, j, v, hv => by simp at h
  | y :: L, 0, x, h, j, v, hv => by
    obtain rfl : y = x := by simpa using h
    have hj := (List.getElem?_eq_some_iff.1 hv).1
    rw [List.flatMap_cons, Nat.zero_mul, Nat.zero_add, List.getElem?_append_left hj]
    exact hv
  | y :: L, k + 1, x, h, j, v, hv => by
    have := flat_at hf L k x (by simpa using h) j v hv
    rw [List.flatMap_cons, List.getElem?_append_right (by rw [hf, Nat.add_mul]; omega), hf, show (k + 1) * sz + j - sz = k * sz + j by rw [Nat.add_mul]; omega]
    exact this
theorem flat_len {α : Type} {f : α → List Value} {sz : Nat} (hf : ∀ x, (f x).length = sz) : ∀ L : List α, (L.flatMap f).length = L.length * sz
  | [] => by simp
  | x :: L => by rw [List.flatMap_cons, List.length_append, hf, flat_len hf L, List.length_cons, Nat.add_mul, Nat.one_mul, Nat.add_comm]
theorem lists_flat {α : Type} {f : α → List Value} {sz : Nat} (hf : ∀ x, (f x).length = sz) (hs : 0 < sz) {w : World} {B : Nat} {A : Option Addr} {L : List α} (h : Lists w B A (L.flatMap f)) {k : Nat} {x : α} (hk : L[k]? = some x) :
    ∃ b o, A = some ⟨b, o, none⟩ ∧ b < B ∧ w.rangeAt b (o + k * sz) (f x) := by
  have h0 : (f x)[0]? = some ((f x)[0]'(by rw [hf]; exact hs)) := List.getElem?_eq_getElem _
  have h1 := flat_at hf L k x hk 0 _ h0
  obtain ⟨b, o, rfl, hb, hc⟩ := h.plain (by intro e; rw [e] at h1; simp at h1)
  exact ⟨b, o, rfl, hb, fun j v hv => by rw [Nat.add_assoc]; exact hc _ _ (flat_at hf L k x hk j v hv)⟩
theorem flat_snoc {α : Type} (f : α → List Value) (L : List α) (x : α) : (L ++ [x]).flatMap f = L.flatMap f ++ f x := by simp
theorem range_below {w w1 : World} {B b o : Nat} {cs : List Value} (h : w.rangeAt b o cs) (hb : b < B) (k : Below B w w1) : w1.rangeAt b o cs := fun j v hv => (k.cell (p := ⟨b, o + j, none⟩) hb).trans (h j v hv)
theorem range_blk {w : World} {p : Nat} {T : TypeId} {cs : List Value} (h : Blk w p T cs.toArray) : w.rangeAt p 0 cs := fun j v hv => by rw [Nat.zero_add, h.cell j, List.getElem?_toArray]; exact hv
theorem blk_row {w : World} {p : Nat} {T : TypeId} {cs : Array Value} (h : Blk w p T cs) (cs1 : Array Value) : Blk (w.setRow p cs1) p T cs1 := setRow_heap w p cs cs1 T (0, 0) h
theorem exec_store_row {P : Program} {ρ : Operand → Value} {o : Oper} {w : World} (ty : TypeId) (x y : Operand) (ho : o.op = .store ty x y)
    (g : Nat) (cells : Array Value) (hx : ρ x = .pointer (some ⟨g, 0, none⟩)) (hy : ρ y = .agg cells)
    (t : TypeId) (old : Array Value) (hg : Blk w g t old) (hi : (P.info? ty).map (·.size) = some cells.size)
    (hold : old.size = cells.size) (h1 : cells.all (·.oneCell') = true) : (execOp ρ o).run P w = .ok .skip (w.setRow g cells) := by
  unfold execOp
  simp only [ho, hx, hy, Instr.storeAt, Instr.sureAddr, Sem.run_bind, Sem.run_pure, Result.andThen_ok, run_storeVar_row w g t ty old cells hg hi hold h1]
theorem exec_load {P : Program} {ρ : Operand → Value} {o : Oper} {w : World} {ty : TypeId} {x : Operand} {p v : Value} (h : (Instr.loadAt ty p).run P w = .ok v w) (ho : o.op = .load ty x) (hx : ρ x = p) : (execOp ρ o).run P w = .ok (.value v) w := by
  unfold execOp
  simp only [ho, hx, Sem.run_bind, h, Result.andThen_ok, Sem.run_pure]
theorem load_blk {P : Program} {w : World} {p : Nat} {T ty : TypeId} {cs : Array Value} {d : TypeDesc} (h : Blk w p T cs) (hu : P.underlying ty = some d) (hd : d.isRow = true) (hi : (P.info? ty).map (·.size) = some cs.size) : (Instr.loadAt ty (.pointer (some ⟨p, 0, none⟩))).run P w = .ok (.agg cs) w := by
  have h1 : w.rangeAt p 0 cs.toList := fun j v hv => by rw [Nat.zero_add, h.cell j]; simpa using hv
  have := run_loadAt_mid (P := P) w p 0 ty cs.toList d h1 hu hd (by simpa using hi)
  simpa using this
theorem only_row {w a : World} {fp : List Nat} (h : Only w a fp) {g : Nat} (hg : g ∈ fp ∨ w.heap.size ≤ g) (cs : Array Value) : Only w (a.setRow g cs) fp :=
  ⟨h.os, h.tape, h.output, by rw [size_setRow]; exact h.size, fun b hb hf => (setRow_other a g b cs (fun e => by subst e; rcases hg with hg | hg; exact hf hg; omega)).trans (h.block b hb hf)⟩
theorem lists_takeF {w : World} {B : Nat} {A : Option Addr} {xs : List Value} (h : Lists w B A xs) (k : Nat) : Lists w B A (xs.take k) :=
  ⟨fun ha => by rw [h.nil ha]; simp, fun a ha j u hu => h.cell a ha j u (by
    rw [List.getElem?_take] at hu
    split at hu
    · exact hu
    · cases hu), fun a ha hx => h.lt a ha (fun e => hx (by rw [e]; simp))⟩
theorem lists_row (w : World) (cs : List Value) (T : TypeId) : Lists (w.alloc (.cells cs.toArray T)) (w.heap.size + 1) (some ⟨w.heap.size, 0, none⟩) cs :=
  ⟨fun ha => (nomatch ha), fun a ha j u hu => by
    cases ha
    rw [addr_plain, World.cell?_alloc_new, Nat.zero_add, ← hu]
    rw [List.getElem?_toArray], fun a ha _ => by cases ha; simp⟩
theorem lists_row_at (w : World) (cs : List Value) (T : TypeId) (k : Nat) (hk : k = w.heap.size) : Lists (w.alloc (.cells cs.toArray T)) (k + 1) (some ⟨k, 0, none⟩) cs := hk ▸ lists_row w cs T
theorem results_row_tmp {P : Program} {fn : Func} {p u : Tmp} {ty : TypeId} (h : fn.results = #[.cell p ty, .tmp u]) (tmps : Array Value) (w : World) (g : Nat) (t : TypeId) (cs : Array Value) (fr : Nat × Nat) (d : TypeDesc) (v : Value)
    (hp : tmps.getD p undef = .pointer (some ⟨g, 0, none⟩)) (hv : tmps.getD u undef = v) (hg : w.heap[g]? = some (.cells cs t fr))
    (hu : P.underlying ty = some d) (hd : (match d with | .struct _ | .array _ _ => true | _ => false) = true) (hi : (P.info? ty).map (·.size) = some cs.size) :
    (results fn tmps).run P w = .ok (.tuple #[.agg cs, v]) w := by
  rw [results_cell_tmp h, hp, hv]
  simp [asAddr, Result.andThen, run_loadVar_row w g t ty cs fr d hg hu hd hi]
theorem results_row_tmp2 {P : Program} {fn : Func} {p u u2 : Tmp} {ty : TypeId} (h : fn.results = #[.cell p ty, .tmp u, .tmp u2]) (tmps : Array Value) (w : World) (g : Nat) (t : TypeId) (cs : Array Value) (fr : Nat × Nat) (d : TypeDesc) (v v2 : Value)
    (hp : tmps.getD p undef = .pointer (some ⟨g, 0, none⟩)) (hv : tmps.getD u undef = v) (hv2 : tmps.getD u2 undef = v2) (hg : w.heap[g]? = some (.cells cs t fr))
    (hu : P.underlying ty = some d) (hd : (match d with | .struct _ | .array _ _ => true | _ => false) = true) (hi : (P.info? ty).map (·.size) = some cs.size) :
    (results fn tmps).run P w = .ok (.tuple #[.agg cs, v, v2]) w := by
  have hp' : tmps[p]?.getD undef = .pointer (some ⟨g, 0, none⟩) := by simpa using hp
  have hv' : tmps[u]?.getD undef = v := by simpa using hv
  have hv2' : tmps[u2]?.getD undef = v2 := by simpa using hv2
  simp [results, h, hp', hv', hv2', Sem.run_bind, asAddr, Result.andThen, run_loadVar_row w g t ty cs fr d hg hu hd hi]
end Go.Proofs.Ytlbbigehjdnjmaa

namespace Go.Proofs.Ytlbbigehjdnjmaa
open Go Go.RowKit
set_option linter.unusedVariables false
set_option linter.unusedSimpArgs false

/-- Is a number from lo to hi? -/
def inZ (lo hi x : Int) : Bool := decide (lo ≤ x) && decide (x ≤ hi)
theorem inB_out {lo hi x : Int} (h : inZ lo hi x = false) : x < lo ∨ (lo ≤ x ∧ hi < x) := by
  unfold inZ at h; simp at h; omega
theorem inB_in {lo hi x : Int} (h : inZ lo hi x = true) : lo ≤ x ∧ x ≤ hi := by
  unfold inZ at h; simpa using h
theorem within_any (lo hi : Int) (b len cap : Nat) (zs : List Int) (w : World) (hl : len = zs.length) (hm : len ≤ 9223372036854775807)
    (hc : ∀ j, j < zs.length → w.cell? ⟨b, 0 + j, none⟩ = some (.int .i64 (zs.getD j 0))) :
    Calls Try.prog 26 #[.int .i64 lo, .int .i64 hi, .slice (some ⟨b, 0, none⟩) len cap] w fun e w' => e = .returned (.bool (zs.all (inZ lo hi))) ∧ w = w' := by
  have HL : Hid (len = zs.length) := hl
  have HC : Hid (∀ j, j < zs.length → w.cell? ⟨b, 0 + j, none⟩ = some (.int .i64 (zs.getD j 0))) := hc
  clear hl hc
  go_enter Try.func26, Try.ntmps26
  go_wp2
  go_loop [8, 11] (fun _ i => ∃ k : Nat, k ≤ len ∧ i = .int .i64 k ∧ (zs.take k).all (inZ lo hi) = true) (fun _ i => len - (intOf i).toNat)
  case atStart => exact ⟨0, Nat.zero_le _, rfl, rfl⟩
  case round =>
    obtain ⟨k, hk, rfl, hall⟩ := hrel
    have HA : Hid ((zs.take k).all (inZ lo hi) = true) := hall
    clear hall
    by_cases hlt : k < len
    · have hcell0 : w.cell? ⟨b, 0 + k, none⟩ = some (.int .i64 (zs.getD k 0)) := HC.out k (by have := HL.out; omega)
      have hcell : w.cell? ⟨b, k, none⟩ = some (.int .i64 (zs.getD k 0)) := by rw [Nat.zero_add] at hcell0; exact hcell0
      clear hcell0
      have hts := Hid.out (p := _) (all_take_snoc (inZ lo hi) zs k (by have := HL.out; omega))
      generalize hz : zs.getD k 0 = z at hcell hts
      have HT : Hid ((zs.take (k + 1)).all (inZ lo hi) = ((zs.take k).all (inZ lo hi) && inZ lo hi z)) := hts
      clear hts hz
      by_cases hmz : inZ lo hi z = true
      · have hm2 := inB_in hmz
        obtain ⟨g1, g2⟩ := hm2
        go_wp2
        go_round
        case rel => exact ⟨k + 1, by omega, by go_num, by rw [HT.out, HA.out, hmz]; rfl⟩
        case measure => simp [intOf]; omega
      · have hmf : inZ lo hi z = false := by simpa using hmz
        clear hmz
        rcases inB_out hmf with g | ⟨g1, g2⟩
        all_goals
          go_wp2
          go_ret
          refine ⟨?_, rfl⟩
          have := all_false_of_take (inZ lo hi) zs (k + 1) (by rw [HT.out, hmf, Bool.and_false])
          rw [this]; rfl
    · go_wp2
      go_ret
      refine ⟨?_, rfl⟩
      have : zs.all (inZ lo hi) = true := by rw [← HA.out, List.take_of_length_le (by have := HL.out; omega)]
      rw [this]; rfl
theorem within_blk (lo hi : Int) (b n : Nat) (zs : List Int) (w : World) (hn : zs.length = n) (hm : n ≤ 1000) (h : Blk w b 3 (intCells zs).toArray) :
    Calls Try.prog 26 #[.int .i64 lo, .int .i64 hi, .slice (some ⟨b, 0, none⟩) n n] w fun e w' => e = .returned (.bool (zs.all (inZ lo hi))) ∧ w = w' :=
  within_any lo hi b n n zs w hn.symm (by omega) fun j hj => by rw [Nat.zero_add, h.cell, List.getElem?_toArray, intCells_get zs j hj]
theorem mayByte_blk (b n : Nat) (zs : List Int) (w : World) (hn : zs.length = n) (hm : n ≤ 1000) (h : Blk w b 3 (intCells zs).toArray) :
    Calls Try.prog 27 #[.slice (some ⟨b, 0, none⟩) n n] w fun e w' => e = .returned (.bool (zs.all (inZ 0 255))) ∧ w = w' := by
  have C := fun W (hW : Blk W b 3 (intCells zs).toArray) => within_blk 0 255 b n zs W hn hm hW
  generalize zs.all (inZ 0 255) = r at C ⊢
  go_enter Try.func27, Try.ntmps27
  go_wp2_with (go_at_call 26; ((with_reducible refine (C _ h).mono ?_); rintro e w' ⟨rfl, rfl⟩))
  go_ret
  exact ⟨rfl, rfl⟩

/-- What is put of a colour c onto a byte d by a mask's byte m. -/
def mixZ (d c m : Int) : Int := (d * (255 - m) + c * m + 127) / 255
theorem prod_bd {a b M : Int} (ha : 0 ≤ a ∧ a ≤ M) (hb : 0 ≤ b ∧ b ≤ 255) : 0 ≤ a * b ∧ a * b ≤ M * 255 := by
  have h1 := Int.mul_nonneg ha.1 hb.1
  have h2 : a * b ≤ M * b := Int.mul_le_mul_of_nonneg_right ha.2 hb.1
  have h3 : M * b ≤ M * 255 := Int.mul_le_mul_of_nonneg_left hb.2 (by omega)
  omega
theorem mixZ_bd {d c m : Int} (hd : inZ 0 255 d = true) (hc : inZ 0 255 c = true) (hm : inZ 0 255 m = true) : 0 ≤ mixZ d c m ∧ mixZ d c m ≤ 255 := by
  have a1 := inB_in hd
  have a2 := inB_in hc
  have a3 := inB_in hm
  have p1 := prod_bd a1 (b := 255 - m) (by omega)
  have p2 := prod_bd a2 a3
  have p3 : d * (255 - m) ≤ 255 * (255 - m) := Int.mul_le_mul_of_nonneg_right a1.2 (by omega)
  have p4 : c * m ≤ 255 * m := Int.mul_le_mul_of_nonneg_right a2.2 a3.1
  unfold mixZ
  omega
theorem mix_facts {d c m : Int} (hd : inZ 0 255 d = true) (hc : inZ 0 255 c = true) (hm : inZ 0 255 m = true) :
    wrap64 (255 - m) = 255 - m ∧ wrap64 (d * (255 - m)) = d * (255 - m) ∧ wrap64 (c * m) = c * m ∧ wrap64 (d * (255 - m) + c * m) = d * (255 - m) + c * m ∧ wrap64 (d * (255 - m) + c * m + 127) = d * (255 - m) + c * m + 127 ∧ wrap64 ((d * (255 - m) + c * m + 127).tdiv 255) = mixZ d c m := by
  have a1 := inB_in hd
  have a2 := inB_in hc
  have a3 := inB_in hm
  have b := mixZ_bd hd hc hm
  have p1 := prod_bd a1 (b := 255 - m) (by omega)
  have p2 := prod_bd a2 a3
  have w64 : ∀ x : Int, -9223372036854775808 ≤ x → x ≤ 9223372036854775807 → wrap64 x = x := fun x h1 h2 => by unfold wrap64; omega
  refine ⟨w64 _ (by omega) (by omega), w64 _ (by omega) (by omega), w64 _ (by omega) (by omega), w64 _ (by omega) (by omega), w64 _ (by omega) (by omega), ?_⟩
  rw [Int.tdiv_eq_ediv_of_nonneg (by omega)]
  exact w64 _ (by unfold mixZ at b; omega) (by unfold mixZ at b; omega)
theorem mix_any (d c m : Int) (w : World) (hd : inZ 0 255 d = true) (hc : inZ 0 255 c = true) (hm : inZ 0 255 m = true) :
    Calls Try.prog 40 #[.int .i64 d, .int .i64 c, .int .i64 m] w fun e w' => e = .returned (.int .i64 (mixZ d c m)) ∧ w = w' := by
  obtain ⟨s1, s2, s3, s4, s5, s6⟩ := mix_facts hd hc hm
  clear hd hc hm
  go_enter Try.func40, Try.ntmps40
  go_wp2
  go_ret
  exact ⟨ret_int (by first | exact s6 | rfl), rfl⟩
theorem rmix_any (d c m : Int) (w : World) (hd : inZ 0 255 d = true) (hc : inZ 0 255 c = true) (hm : inZ 0 255 m = true) :
    Calls Try.prog 22 #[.int .i64 d, .int .i64 c, .int .i64 m] w fun e w' => e = .returned (.int .i64 (mixZ d c m)) ∧ w = w' := by
  obtain ⟨s1, s2, s3, s4, s5, s6⟩ := mix_facts hd hc hm
  clear hd hc hm
  go_enter Try.func22, Try.ntmps22
  go_wp2
  go_ret
  exact ⟨ret_int (by first | exact s6 | rfl), rfl⟩
theorem ris_any (c : Int) (w : World) : Calls Try.prog 21 #[.int .i64 c] w fun e w' => e = .returned (.bool (inZ 0 255 c)) ∧ w = w' := by
  unfold inZ
  by_cases h1 : 0 ≤ c <;> by_cases h2 : c ≤ 255
  all_goals
    go_enter Try.func21, Try.ntmps21
    go_wp2
    go_ret
    simp [h1, h2]
/-- May a canvas be? -/
def mayCn (x y c : Int) : Bool := inZ 1 4096 x && inZ 1 4096 y && inZ 0 255 c
theorem rmaycn_any (x y c : Int) (w : World) : Calls Try.prog 8 #[.int .i64 x, .int .i64 y, .int .i64 c] w fun e w' => e = .returned (.bool (mayCn x y c)) ∧ w = w' := by
  have CI := fun W => ris_any c W
  unfold mayCn
  cases hx : inZ 1 4096 x
  · rcases inB_out hx with g | ⟨g, g'⟩
    all_goals
      go_enter Try.func8, Try.ntmps8
      go_wp2
      go_ret
      exact ⟨rfl, rfl⟩
  · obtain ⟨x1, x2⟩ := inB_in hx
    cases hy : inZ 1 4096 y
    · rcases inB_out hy with g | ⟨g, g'⟩
      all_goals
        go_enter Try.func8, Try.ntmps8
        go_wp2
        go_ret
        exact ⟨rfl, rfl⟩
    · obtain ⟨y1, y2⟩ := inB_in hy
      go_enter Try.func8, Try.ntmps8
      go_wp2_with (go_at_call 21; ((with_reducible refine (CI _).mono ?_); rintro e w' ⟨rfl, rfl⟩))
      go_ret
      exact ⟨by simp, rfl⟩
theorem alloc_ints (w : World) (zs : List Int) : Blk (w.alloc (.cells (intCells zs).toArray 3)) w.heap.size 3 (intCells zs).toArray := Blk.new w _ _
/-- Mix. -/
def mixE (d c m : Int) : Int := if inZ 0 255 d && inZ 0 255 c && inZ 0 255 m then mixZ d c m else 0
theorem cmix_any (d c m : Int) (w : World) : Calls Try.prog 20 #[.int .i64 d, .int .i64 c, .int .i64 m] w fun e w' => e = .returned (.tuple #[.int .i64 (mixE d c m), .int .i64 (if inZ 0 255 d && inZ 0 255 c && inZ 0 255 m then 0 else 1)]) ∧ Below w.heap.size w w' := by
  have CB := mayByte_blk w.heap.size 3 [d, c, m] _ rfl (by decide) (alloc_ints w [d, c, m])
  have er : [d, c, m].all (inZ 0 255) = (inZ 0 255 d && inZ 0 255 c && inZ 0 255 m) := by simp [Bool.and_assoc]
  rw [er] at CB
  unfold mixE
  simp only [intCells, List.map_cons, List.map_nil] at CB
  by_cases h : (inZ 0 255 d && inZ 0 255 c && inZ 0 255 m) = true
  · rw [h] at CB
    rw [if_pos h, if_pos h]
    simp only [Bool.and_eq_true] at h
    have CM := fun W => mix_any d c m W h.1.1 h.1.2 h.2
    clear h er
    generalize mixZ d c m = r at *
    go_enter Try.func20, Try.ntmps20
    go_wp2_with (first | (go_at_call 27; ((with_reducible refine (CB).mono ?_); rintro e w' ⟨rfl, rfl⟩)) | (go_at_call 40; ((with_reducible refine (CM _).mono ?_); rintro e w' ⟨rfl, rfl⟩)))
    exact bodyPost_ret (results_tmp2 rfl _ _ _) rfl ⟨rfl, below_a1 _ _⟩
  · have h' : (inZ 0 255 d && inZ 0 255 c && inZ 0 255 m) = false := by simpa using h
    rw [h'] at CB
    rw [if_neg h, if_neg h]
    clear h h' er
    go_enter Try.func20, Try.ntmps20
    go_wp2_with (first | (go_at_call 27; ((with_reducible refine (CB).mono ?_); rintro e w' ⟨rfl, rfl⟩)))
    exact bodyPost_ret (results_tmp2 rfl _ _ _) rfl ⟨rfl, below_a1 _ _⟩
end Go.Proofs.Ytlbbigehjdnjmaa

namespace Go.Proofs.Ytlbbigehjdnjmaa
open Go Go.RowKit
set_option linter.unusedVariables false
set_option linter.unusedSimpArgs false

/-- A byte's number. -/
def ub : Value → Int
  | .int _ x => x
  | _ => 0
/-- The bytes from lo on, below hi, are others. -/
def mapR (lo hi : Nat) (f : Nat → Value → Value) (E : List Value) : List Value := E.mapIdx fun k d => if lo ≤ k ∧ k < hi then f k d else d
theorem mapR_len (lo hi : Nat) (f : Nat → Value → Value) (E : List Value) : (mapR lo hi f E).length = E.length := by simp [mapR]
theorem mapR_get (lo hi : Nat) (f : Nat → Value → Value) (E : List Value) (k : Nat) : (mapR lo hi f E)[k]? = E[k]?.map fun d => if lo ≤ k ∧ k < hi then f k d else d := by simp [mapR]
theorem mapR_nil {lo hi : Nat} (h : hi ≤ lo) (f : Nat → Value → Value) (E : List Value) : mapR lo hi f E = E := by
  apply List.ext_getElem?
  intro k
  rw [mapR_get]
  have : ¬ (lo ≤ k ∧ k < hi) := by omega
  simp [this]
theorem mapR_step {lo i : Nat} (h : lo ≤ i) (f : Nat → Value → Value) (E : List Value) {d : Value} (hd : E[i]? = some d) : mapR lo (i + 1) f E = (mapR lo i f E).set i (f i d) := by
  apply List.ext_getElem?
  intro k
  rw [List.getElem?_set, mapR_get, mapR_get, mapR_len]
  by_cases hk : i = k
  · subst hk
    have hl : i < E.length := (List.getElem?_eq_some_iff.1 hd).1
    rw [if_pos rfl, if_pos hl, hd, Option.map_some, if_pos ⟨h, Nat.lt_succ_self i⟩]
  · rw [if_neg hk]
    by_cases h1 : lo ≤ k ∧ k < i
    · simp only [if_pos h1, if_pos (show lo ≤ k ∧ k < i + 1 by omega)]
    · simp only [if_neg h1, if_neg (show ¬ (lo ≤ k ∧ k < i + 1) by omega)]
theorem mapR_still {lo i : Nat} (f : Nat → Value → Value) (E : List Value) : (mapR lo i f E)[i]? = E[i]? := by
  rw [mapR_get]
  have : ¬ (lo ≤ i ∧ i < i) := by omega
  simp [this]
theorem mapR_ext {lo hi : Nat} {f g : Nat → Value → Value} {E : List Value} (h : ∀ k d, lo ≤ k → k < hi → E[k]? = some d → f k d = g k d) : mapR lo hi f E = mapR lo hi g E := by
  apply List.ext_getElem?
  intro k
  rw [mapR_get, mapR_get]
  cases hd : E[k]? with
  | none => rfl
  | some d =>
    by_cases h1 : lo ≤ k ∧ k < hi
    · simp [h1, h k d h1.1 h1.2 hd]
    · simp [h1]
theorem mapR_bytes {lo hi : Nat} {f : Nat → Value → Value} {E : List Value} (h8 : Bytes8 E) (hf : ∀ k d, lo ≤ k → k < hi → (∃ x : Nat, x < 256 ∧ d = .int .u8 (x : Int)) → ∃ x : Nat, x < 256 ∧ f k d = .int .u8 (x : Int)) : Bytes8 (mapR lo hi f E) := by
  intro u hu
  obtain ⟨k, hk⟩ := List.getElem?_of_mem hu
  rw [mapR_get] at hk
  cases hd : E[k]? with
  | none => rw [hd] at hk; cases hk
  | some d =>
    rw [hd, Option.map_some] at hk
    have h8d := h8 d (List.mem_of_getElem? hd)
    by_cases h1 : lo ≤ k ∧ k < hi
    · rw [if_pos h1] at hk; cases hk; exact hf k d h1.1 h1.2 h8d
    · rw [if_neg h1] at hk; cases hk; exact h8d
theorem blk_set_list {w : World} {g : Nat} {T : TypeId} {E : List Value} (h : Blk w g T E.toArray) (i : Nat) (v : Value) : Blk (w.setCell ⟨g, i, none⟩ v) g T (E.set i v).toArray := by
  have := h.set i v
  rwa [List.setIfInBounds_toArray] at this
/-- A colour on each byte. -/
def pntF (c : Int) : Nat → Value → Value := fun _ _ => .int .u8 c
set_option maxRecDepth 100000 in
theorem paint_any (g off L C : Nat) (c : Int) (E : List Value) (w : World) (hb : Blk w g 5 E.toArray) (hl : off + L ≤ E.length) (hLC : L ≤ C) (hm : E.length ≤ 16777216) (hc : inZ 0 255 c = true) :
    Calls Try.prog 30 #[.slice (some ⟨g, off, none⟩) L C, .int .i64 c] w fun e w' => e = .returned (.tuple #[]) ∧ Blk w' g 5 (mapR off (off + L) (pntF c) E).toArray ∧ Only w w' [g] := by
  have HE := Lib.hid hl
  have hL : L ≤ 16777216 := by omega
  have HB := Lib.hid hb
  have HC := Lib.hid hc
  have c2 : c % 256 = c := by have := inB_in hc; omega
  clear hl hb hc
  go_enter Try.func30, Try.ntmps30
  go_wp2
  go_loopw [4, 7] (fun _ i wr => ∃ k : Nat, k ≤ L ∧ i = .int .i64 k ∧ Blk wr g 5 (mapR off (off + k) (pntF c) E).toArray ∧ Only w wr [g]) (fun _ i _ => L - (intOf i).toNat)
  case atStart => exact ⟨0, Nat.zero_le _, rfl, by rw [mapR_nil (by omega)]; exact HB.out, Only.refl _ _⟩
  case round =>
    obtain ⟨k, hk, rfl, hbk, hok⟩ := hrel
    have HBK := Lib.hid hbk
    have HOK := Lib.hid hok
    clear hok
    by_cases hlt : k < L
    · obtain ⟨d, hd⟩ : ∃ d, E[off + k]? = some d := ⟨_, List.getElem?_eq_getElem (by have := HE.out; omega)⟩
      have hcell : wr.cell? ⟨g, off + k, none⟩ = some d := by rw [hbk.cell, List.getElem?_toArray, mapR_still]; exact hd
      have hfr := hbk.frozen (off + k)
      have hlt2 := hbk.lt
      have HD := Lib.hid hd
      clear hbk hd
      go_wp2
      go_roundw
      case rel =>
        refine ⟨k + 1, by omega, by go_num, ?_, HOK.out.set (.inl (by simp)) _⟩
        rw [← Nat.add_assoc, mapR_step (by omega) _ _ HD.out]
        exact blk_set_list HBK.out _ _
      case measure => simp [intOf]; omega
    · obtain rfl : k = L := by omega
      go_wp2
      exact bodyPost_end (results_none rfl _ _ _) rfl ⟨rfl, HBK.out, HOK.out⟩
/-- A colour put onto each byte by a mask's bytes M, from its byte q on. -/
def bldF (c : Int) (M : List Value) (q lo : Nat) : Nat → Value → Value := fun k d => .int .u8 (mixZ (ub d) c (ub (M.getD (q + (k - lo)) (.int .u8 0))))
theorem b8_in {v : Value} (h : ∃ x : Nat, x < 256 ∧ v = .int .u8 (x : Int)) : v = .int .u8 (ub v) ∧ inZ 0 255 (ub v) = true := by
  obtain ⟨x, hx, rfl⟩ := h
  refine ⟨rfl, ?_⟩
  show (decide (0 ≤ (x : Int)) && decide ((x : Int) ≤ 255)) = true
  simp only [Bool.and_eq_true, decide_eq_true_eq]
  omega
theorem in_b8 {x : Int} (h : inZ 0 255 x = true) : ∃ y : Nat, y < 256 ∧ Value.int .u8 x = .int .u8 (y : Int) := by
  have := inB_in h
  exact ⟨x.toNat, by omega, by rw [Int.toNat_of_nonneg this.1]⟩
theorem mixZ_in {d c m : Int} (hd : inZ 0 255 d = true) (hc : inZ 0 255 c = true) (hm : inZ 0 255 m = true) : inZ 0 255 (mixZ d c m) = true := by
  have := mixZ_bd hd hc hm
  simp [inZ]; omega
theorem getD_b8 {M : List Value} (h : Bytes8 M) (i : Nat) : ∃ x : Nat, x < 256 ∧ M.getD i (.int .u8 0) = .int .u8 (x : Int) := by
  rw [List.getD_eq_getElem?_getD]
  cases e : M[i]? with
  | none => exact ⟨0, by decide, rfl⟩
  | some v => exact h v (List.mem_of_getElem? e)
set_option maxRecDepth 100000 in
theorem blend_any (g off L C : Nat) (c : Int) (E : List Value) (b q n2 c2 : Nat) (M : List Value) (w : World) (hb : Blk w g 5 E.toArray) (h8 : Bytes8 E) (hl : off + L ≤ E.length) (hLC : L ≤ C) (hm : E.length ≤ 16777216) (hc : inZ 0 255 c = true)
    (hM : ∀ i v, M[i]? = some v → w.cell? ⟨b, q + i, none⟩ = some v) (hbg : b ≠ g) (hM8 : Bytes8 M) (hn2 : M.length = n2) (hLn : L ≤ n2) (hM2 : n2 ≤ 16777216) :
    Calls Try.prog 39 #[.slice (some ⟨g, off, none⟩) L C, .slice (some ⟨b, q, none⟩) n2 c2, .int .i64 c] w fun e w' => e = .returned (.tuple #[]) ∧ Blk w' g 5 (mapR off (off + L) (bldF c M 0 off) E).toArray ∧ Only w w' [g] := by
  have HE := Lib.hid hl
  have hL : L ≤ 16777216 := by omega
  have HB := Lib.hid hb
  have HC := Lib.hid hc
  have HM := Lib.hid hM
  have HN := Lib.hid hn2
  have hblt : ∀ i v, M[i]? = some v → b < w.heap.size := fun i v h => by
    have := hM i v h
    rcases Nat.lt_or_ge b w.heap.size with h1 | h1
    · exact h1
    · unfold World.cell? at this; rw [Array.getElem?_eq_none h1] at this; cases this
  have HBL := Lib.hid hblt
  clear hl hb hc hM hn2 hblt
  go_enter Try.func39, Try.ntmps39
  go_wp2
  go_loopw [6, 7, 10] (fun _ _ i wr => ∃ k : Nat, k ≤ L ∧ i = .int .i64 k ∧ Blk wr g 5 (mapR off (off + k) (bldF c M 0 off) E).toArray ∧ Only w wr [g]) (fun _ _ i _ => L - (intOf i).toNat)
  case atStart => exact ⟨0, Nat.zero_le _, rfl, by rw [mapR_nil (by omega)]; exact HB.out, Only.refl _ _⟩
  case round =>
    obtain ⟨k, hk, rfl, hbk, hok⟩ := hrel
    have HBK := Lib.hid hbk
    have HOK := Lib.hid hok
    clear hok
    by_cases hlt : k < L
    · have hd : E[off + k]? = some (E[off + k]'(by have := HE.out; omega)) := List.getElem?_eq_getElem _
      have hd8 := b8_in (h8 _ (List.getElem_mem (by have := HE.out; omega : off + k < E.length)))
      generalize E[off + k]'(by have := HE.out; omega) = d at hd hd8
      have hmk : M[k]? = some (M[k]'(by have := HN.out; omega)) := List.getElem?_eq_getElem _
      have hm8 := b8_in (hM8 _ (List.getElem_mem (by have := HN.out; omega : k < M.length)))
      generalize M[k]'(by have := HN.out; omega) = m at hmk hm8
      obtain ⟨ed, hdi⟩ := hd8
      obtain ⟨em, hmi⟩ := hm8
      have hf : bldF c M 0 off (off + k) d = .int .u8 (mixZ (ub d) c (ub m)) := by
        unfold bldF
        rw [show 0 + (off + k - off) = k by omega, List.getD_eq_getElem?_getD, hmk, Option.getD_some]
      have hcell : wr.cell? ⟨g, off + k, none⟩ = some (.int .u8 (ub d)) := by rw [← ed, hbk.cell, List.getElem?_toArray, mapR_still]; exact hd
      have hcm : wr.cell? ⟨b, q + k, none⟩ = some (.int .u8 (ub m)) := by
        rw [← em, ← HM.out k m hmk]
        exact World.cell?_of_block (HOK.out.block b (HBL.out k m hmk) (by simp [hbg]))
      have hfr := hbk.frozen (off + k)
      have hlt2 := hbk.lt
      have CM := fun W => mix_any (ub d) c (ub m) W hdi HC.out hmi
      have c2 : mixZ (ub d) c (ub m) % 256 = mixZ (ub d) c (ub m) := by have := mixZ_bd hdi HC.out hmi; omega
      obtain ⟨x1, x2⟩ := inB_in hdi
      obtain ⟨y1, y2⟩ := inB_in hmi
      have HF := Lib.hid hf
      have HD := Lib.hid hd
      clear hbk hd hf hmk hdi hmi ed em
      generalize mixZ (ub d) c (ub m) = r at *
      generalize ub d = x at *
      generalize ub m = y at *
      go_wp2_with (go_at_call 40; ((with_reducible refine (CM _).mono ?_); rintro e w' ⟨rfl, rfl⟩))
      go_roundw
      case rel =>
        refine ⟨k + 1, by omega, by go_num, ?_, HOK.out.set (.inl (by simp)) _⟩
        rw [← Nat.add_assoc, mapR_step (by omega) _ _ HD.out, HF.out]
        exact blk_set_list HBK.out _ _
      case measure => simp [intOf]; omega
    · obtain rfl : k = L := by omega
      go_wp2
      exact bodyPost_end (results_none rfl _ _ _) rfl ⟨rfl, HBK.out, HOK.out⟩
end Go.Proofs.Ytlbbigehjdnjmaa

namespace Go.Proofs.Ytlbbigehjdnjmaa
open Go Go.RowKit

section
variable {P : Program} {ops : Array Oper} {Q : Exit → Act → World → Prop} {md : Region.Mode} {I : World → Prop}

/-- What only reads may be taken as soon as it is ready; of what changes the world, whatever is ready. -/
inductive PlanF (P : Program) (md : Region.Mode) (ops : Array Oper) (Q : Exit → Act → World → Prop) (I : World → Prop) : Nat → Array Bool → Act → World → Prop
  | done {n : Nat} {listed : Array Bool} {a : Act} {w : World} (hr : Region.ready md ops listed = []) (h : Q .normal a w) : PlanF P md ops Q I n listed a w
  | take {n : Nat} {listed : Array Bool} {a : Act} {w : World} (i : Nat) (o : Oper) (v : Value) (hi : ops[i]? = some o) (hf : Region.free md ops listed i = true) (hr : i ∈ Region.ready md ops listed)
      (hs : StepI P ops I o v a) (h : PlanF P md ops Q I n (listed.setIfInBounds i true) (a.put o.dst v) w) : PlanF P md ops Q I (n + 1) listed a w
  | fork {n : Nat} {listed : Array Bool} {a : Act} {w : World} (o : Nat → Oper) (K : Nat → Value → World → Prop) (hne : Region.ready md ops listed ≠ []) (hi : ∀ i, i ∈ Region.ready md ops listed → ops[i]? = some (o i))
      (hs : ∀ i, i ∈ Region.ready md ops listed → StepO P ops (o i) a w (K i)) (hI : ∀ i, i ∈ Region.ready md ops listed → ∀ v w', K i v w' → I w')
      (h : ∀ i, i ∈ Region.ready md ops listed → ∀ v w', K i v w' → PlanF P md ops Q I n (listed.setIfInBounds i true) (a.put (o i).dst v) w') : PlanF P md ops Q I (n + 1) listed a w

theorem PlanF.first (hns : ∀ (i : Nat) (o : Oper) cs b, ops[i]? = some o → o.op ≠ .select cs b) {n : Nat} {listed : Array Bool} {a : Act} {w : World} (h : PlanF P md ops Q I n listed a w) : ∀ j, j ∈ Region.ready md ops listed →
    ∃ m oj, n = m + 1 ∧ ops[j]? = some oj ∧ ((∃ u, StepI P ops I oj u a ∧ PlanF P md ops Q I m (listed.setIfInBounds j true) (a.put oj.dst u) w) ∨
      (∃ K : Value → World → Prop, StepO P ops oj a w K ∧ (∀ v w', K v w' → I w') ∧ ∀ v w', K v w' → PlanF P md ops Q I m (listed.setIfInBounds j true) (a.put oj.dst v) w')) := by
  induction h with
  | done hr h => intro j hj; rw [hr] at hj; cases hj
  | fork o K hne hi hs hI h =>
    intro j hj
    exact ⟨_, o j, rfl, hi j hj, .inr ⟨K j, hs j hj, hI j hj, h j hj⟩⟩
  | @take n listed a w i o v hi hf hr hs h ih =>
    intro j hj
    by_cases hji : j = i
    · subst hji; exact ⟨_, o, rfl, hi, .inl ⟨v, hs, h⟩⟩
    · obtain ⟨m, oj, rfl, hoj, hh⟩ := ih j (ready_mono hj hji)
      obtain ⟨hjun, oj', hoj', hall⟩ := mem_ready.1 hj
      obtain rfl : oj' = oj := by rw [hoj] at hoj'; exact (Option.some.inj hoj').symm
      have hnot : ∀ e ∈ oj'.after, Region.binds md e = true → e.on ≠ i := fun e he hb heq => by
        have h1 := hall e he hb
        have h0 := (mem_ready.1 hr).1
        rw [heq] at h1
        rcases Nat.lt_or_ge i listed.size with h' | h'
        · simp [h'] at h0 h1; rw [h0] at h1; cases h1
        · simp [Array.getElem?_eq_none h'] at h1
      obtain ⟨h1, h2, h3⟩ := Oper.apart_spec (Region.free_spec hi hf j oj' hoj hji hjun hnot)
      refine ⟨m + 1, oj', rfl, hoj, ?_⟩
      have hst : ∀ u, StepI P ops I o v (a.put oj'.dst u) := fun u => hs.move (put_agree h3 a u)
      rcases hh with ⟨u, hsj, hp⟩ | ⟨K, hsj, hKI, hp⟩
      · refine .inl ⟨u, hsj.move fun t ht => (put_agree h1 a v t ht).symm, ?_⟩
        refine PlanF.take i o v hi (free_set hf) (ready_mono hr (Ne.symm hji)) (hst u) ?_
        rw [Array.setIfInBounds_comm _ _ hji, ← Act.put_comm a v u h2]
        exact hp
      · refine .inr ⟨K, hsj.move (hns j oj' · · hoj) fun t ht => (put_agree h1 a v t ht).symm, hKI, fun u w' hK => ?_⟩
        refine PlanF.take i o v hi (free_set hf) (ready_mono hr (Ne.symm hji)) (hst u) ?_
        rw [Array.setIfInBounds_comm _ _ hji, ← Act.put_comm a v u h2]
        exact hp u w' hK

theorem PlanF.any (hns : ∀ (i : Nat) (o : Oper) cs b, ops[i]? = some o → o.op ≠ .select cs b) : ∀ (fuel n : Nat) (listed : Array Bool) (a : Act) (w : World), DC md ops listed → n ≤ fuel → I w → PlanF P md ops Q I n listed a w → wpAny P md ops Q fuel listed a w
  | 0, n, listed, a, w, _, hn, hI, h => by
    cases h with
    | done hr h => exact ⟨hr, h⟩
    | take => omega
    | fork => omega
  | fuel + 1, n, listed, a, w, hd, hn, hI, h => by
    refine ⟨fun hr => ?_, fun j hj => ?_⟩
    · cases h with
      | done _ h => exact h
      | take i o v hi hf hr' => rw [hr] at hr'; cases hr'
      | fork o K hne => exact absurd hr hne
    · obtain ⟨m, oj, rfl, hoj, hh⟩ := h.first hns j hj
      rcases hh with ⟨u, hsj, hp⟩ | ⟨K, hsj, hKI, hp⟩
      · have hrec := PlanF.any hns fuel m _ _ w (hd.set hj) (by omega) hI hp
        unfold wpOp
        simp only [hoj]
        rcases hsj a w (fun _ _ => rfl) hI with ⟨hw, rfl⟩ | ⟨hw, hrun⟩
        · rw [hw]; exact hrec
        · rw [hw, if_pos rfl]
          refine .inl ?_
          unfold Oper.wp
          rw [hrun]
          exact hrec
      · exact StepO.wpOp hoj (hsj.mono fun v w' hK => PlanF.any hns fuel m _ _ w' (hd.set hj) (by omega) (hKI v w' hK) (hp v w' hK))

/-- Two lanes of operations that change the world. -/
inductive LanesP (P : Program) (ops : Array Oper) (E : Act → World → Prop) (I : World → Prop) : List Nat → List Nat → Act → World → Prop
  | nil {a : Act} {w : World} (h : E a w) : LanesP P ops E I [] [] a w
  | left {i : Nat} {A : List Nat} {a : Act} {w : World} (o : Oper) (K : Value → World → Prop) (hi : ops[i]? = some o) (hs : StepO P ops o a w K) (hI : ∀ v w', K v w' → I w') (h : ∀ v w', K v w' → LanesP P ops E I A [] (a.put o.dst v) w') : LanesP P ops E I (i :: A) [] a w
  | right {j : Nat} {B : List Nat} {a : Act} {w : World} (o : Oper) (K : Value → World → Prop) (hi : ops[j]? = some o) (hs : StepO P ops o a w K) (hI : ∀ v w', K v w' → I w') (h : ∀ v w', K v w' → LanesP P ops E I [] B (a.put o.dst v) w') : LanesP P ops E I [] (j :: B) a w
  | both {i j : Nat} {A B : List Nat} {a : Act} {w : World} (o o' : Oper) (K K' : Value → World → Prop) (hi : ops[i]? = some o) (hj : ops[j]? = some o') (hs : StepO P ops o a w K) (hs' : StepO P ops o' a w K') (hI : ∀ v w', K v w' → I w') (hI' : ∀ v w', K' v w' → I w')
      (h : ∀ v w', K v w' → LanesP P ops E I A (j :: B) (a.put o.dst v) w') (h' : ∀ v w', K' v w' → LanesP P ops E I (i :: A) B (a.put o'.dst v) w') : LanesP P ops E I (i :: A) (j :: B) a w

def quietGo (md : Region.Mode) (ops : Array Oper) : List Nat → Array Bool → Option (Array Bool)
  | [], listed => some listed
  | i :: r, listed => if Region.free md ops listed i && (Region.ready md ops listed).contains i then quietGo md ops r (listed.setIfInBounds i true) else none
def endGo (md : Region.Mode) (ops : Array Oper) (r : List Nat) (listed : Array Bool) : Bool := match quietGo md ops r listed with
  | some l => (Region.ready md ops l).isEmpty
  | none => false
def lanesGo (md : Region.Mode) (ops : Array Oper) (r : List Nat) : Nat → List Nat → List Nat → Array Bool → Bool
  | _, [], [], listed => endGo md ops r listed
  | f + 1, i :: A, [], listed => (Region.ready md ops listed == [i]) && lanesGo md ops r f A [] (listed.setIfInBounds i true)
  | f + 1, [], j :: B, listed => (Region.ready md ops listed == [j]) && lanesGo md ops r f [] B (listed.setIfInBounds j true)
  | f + 1, i :: A, j :: B, listed => ((Region.ready md ops listed == [i, j]) && (i != j) && lanesGo md ops r f A (j :: B) (listed.setIfInBounds i true) && lanesGo md ops r f (i :: A) B (listed.setIfInBounds j true)) || ((Region.ready md ops listed == [i]) && lanesGo md ops r f A (j :: B) (listed.setIfInBounds i true))
  | 0, _ :: _, _, _ => false
  | 0, [], _ :: _, _ => false
/-- What only reads, in one order. -/
def QuietL (P : Program) (ops : Array Oper) (E : Act → World → Prop) (I : World → Prop) : List Nat → Act → World → Prop
  | [], a, w => E a w
  | i :: r, a, w => ∃ o v, ops[i]? = some o ∧ StepI P ops I o v a ∧ QuietL P ops E I r (a.put o.dst v) w

theorem QuietL.plan {E : Act → World → Prop} {n : Nat} : ∀ (r : List Nat) (listed l : Array Bool) (a : Act) (w : World), quietGo md ops r listed = some l → (∀ a w, E a w → PlanF P md ops Q I n l a w) → QuietL P ops E I r a w → PlanF P md ops Q I (n + r.length) listed a w
  | [], listed, l, a, w, hg, hE, h => by
    simp only [quietGo, Option.some.injEq] at hg
    subst hg
    exact hE _ _ h
  | i :: r, listed, l, a, w, hg, hE, h => by
    obtain ⟨o, v, hi, hs, hr⟩ := h
    simp only [quietGo] at hg
    split at hg
    · rename_i hc
      rw [Bool.and_eq_true] at hc
      exact .take i o v hi hc.1 (by simpa using hc.2) hs (QuietL.plan r _ l _ w hg hE hr)
    · cases hg

theorem PlanF.more {n m : Nat} {listed : Array Bool} {a : Act} {w : World} (h : PlanF P md ops Q I n listed a w) : n ≤ m → PlanF P md ops Q I m listed a w := by
  induction h generalizing m with
  | done hr h => exact fun _ => .done hr h
  | take i o v hi hf hr hs h ih =>
    intro hm
    obtain ⟨k, rfl⟩ : ∃ k, m = k + 1 := ⟨m - 1, by omega⟩
    exact .take i o v hi hf hr hs (ih (by omega))
  | fork o K hne hi hs hI h ih =>
    intro hm
    obtain ⟨k, rfl⟩ : ∃ k, m = k + 1 := ⟨m - 1, by omega⟩
    exact .fork o K hne hi hs hI fun i hr v w' hK => ih i hr v w' hK (by omega)

theorem LanesP.plan {E : Act → World → Prop} {r : List Nat} (hE : ∀ (listed : Array Bool) a w, endGo md ops r listed = true → E a w → PlanF P md ops Q I r.length listed a w) : ∀ (f : Nat) (A B : List Nat) (listed : Array Bool) (a : Act) (w : World), lanesGo md ops r f A B listed = true → LanesP P ops E I A B a w → PlanF P md ops Q I (f + r.length) listed a w := by
  intro f
  induction f with
  | zero =>
    intro A B listed a w hg h
    cases h with
    | nil h => rw [Nat.zero_add]; exact hE _ _ _ (by simpa [lanesGo] using hg) h
    | left => simp [lanesGo] at hg
    | right => simp [lanesGo] at hg
    | both => simp [lanesGo] at hg
  | succ f ih =>
    intro A B listed a w hg h
    rw [Nat.add_right_comm]
    cases h with
    | nil h => exact (hE _ _ _ (by simpa [lanesGo] using hg) h).more (by omega)
    | @left i A _ _ o K hi hs hI h =>
      simp only [lanesGo, Bool.and_eq_true, beq_iff_eq] at hg
      refine .fork (fun _ => o) (fun _ => K) (by rw [hg.1]; simp) ?_ ?_ ?_ ?_
      all_goals
        intro k hk
        rw [hg.1] at hk
        obtain rfl : k = i := by simpa using hk
      · exact hi
      · exact hs
      · exact hI
      · exact fun v w' hK => ih _ _ _ _ _ hg.2 (h v w' hK)
    | @right i B _ _ o K hi hs hI h =>
      simp only [lanesGo, Bool.and_eq_true, beq_iff_eq] at hg
      refine .fork (fun _ => o) (fun _ => K) (by rw [hg.1]; simp) ?_ ?_ ?_ ?_
      all_goals
        intro k hk
        rw [hg.1] at hk
        obtain rfl : k = i := by simpa using hk
      · exact hi
      · exact hs
      · exact hI
      · exact fun v w' hK => ih _ _ _ _ _ hg.2 (h v w' hK)
    | @both i j A B _ _ o o' K K' hi hj hs hs' hI hI' h h' =>
      simp only [lanesGo, Bool.or_eq_true, Bool.and_eq_true, beq_iff_eq, bne_iff_ne, ne_eq] at hg
      rcases hg with ⟨⟨⟨hr, hne⟩, h1⟩, h2⟩ | ⟨hr, h1⟩
      · refine .fork (fun k => if k = i then o else o') (fun k => if k = i then K else K') (by rw [hr]; simp) ?_ ?_ ?_ ?_
        all_goals
          intro k hk
          rw [hr] at hk
          have hk2 : k = i ∨ k = j := by simpa using hk
          rcases hk2 with rfl | rfl
        · simpa using hi
        · rw [if_neg (Ne.symm hne)]; exact hj
        · simpa using hs
        · simp only [if_neg (Ne.symm hne)]; exact hs'
        · simpa using hI
        · simp only [if_neg (Ne.symm hne)]; exact hI'
        · simp only [if_true]; exact fun v w' hK => ih _ _ _ _ _ h1 (h v w' hK)
        · simp only [if_neg (Ne.symm hne)]; exact fun v w' hK => ih _ _ _ _ _ h2 (h' v w' hK)
      · refine .fork (fun _ => o) (fun _ => K) (by rw [hr]; simp) ?_ ?_ ?_ ?_
        all_goals
          intro k hk
          rw [hr] at hk
          obtain rfl : k = i := by simpa using hk
        · exact hi
        · exact hs
        · exact hI
        · exact fun v w' hK => ih _ _ _ _ _ h1 (h v w' hK)

def lanesOk (md : Region.Mode) (ops : Array Oper) (q A B r : List Nat) : Bool := Region.noSelect ops && decide (A.length + B.length + r.length + q.length ≤ ops.size) && match quietGo md ops q (Array.replicate ops.size false) with
  | some l => lanesGo md ops r (A.length + B.length) A B l
  | none => false

/-- THE LAW: first what only reads (q), then the two lanes, then what only reads (r). -/
theorem wp_region_lanes {id : Nat} {a : Act} {w : World} (I : World → Prop) (q A B r : List Nat) (hm : P.follows .mixedOrders = true) (hok : lanesOk .any ops q A B r = true) (hI : I w.drew)
    (h : QuietL P ops (fun a w => LanesP P ops (fun a w => QuietL P ops (Q .normal) I r a w) I A B a w) I q a w.drew) : (Code.region id ops true).wp P Q a w := by
  refine wp_region_any hm ?_
  unfold lanesOk at hok
  simp only [Bool.and_eq_true, decide_eq_true_eq] at hok
  obtain ⟨⟨h1, h2⟩, h3⟩ := hok
  split at h3
  · rename_i l hl
    refine PlanF.any (fun i o cs b hi => Region.noSelect_spec h1 i o cs b hi) ops.size (A.length + B.length + r.length + q.length) _ a w.drew (DC.none _) h2 hI ?_
    refine QuietL.plan q _ l a w.drew hl (fun a w hL => ?_) h
    refine LanesP.plan (fun listed a w hg hE => ?_) _ A B l a w h3 hL
    unfold endGo at hg
    split at hg
    · rename_i l' hl'
      have := QuietL.plan (n := 0) (Q := Q) r listed l' a w hl' (fun a w hq => .done (by simpa using hg) hq) hE
      rwa [Nat.zero_add] at this
    · cases hg
  · cases h3

variable {E : Act → World → Prop} {i : Nat} {r : List Nat} {o : Oper} {a : Act} {w : World}
theorem QuietL.val {v : Value} (hi : ops[i]? = some o) (hns : ∀ cs b, o.op ≠ .select cs b) (hw : Region.wanted o (yielded ops a.tmps) = true) (h : ∀ w, I w → (execOp a.eval o).run P w = .ok (.value v) w)
    (hr : QuietL P ops E I r (a.put o.dst v) w) : QuietL P ops E I (i :: r) a w :=
  ⟨o, v, hi, fun a' w' hag hI => .inr ⟨by rw [wanted_agree o hag]; exact hw, by rw [exec_agree o hns hag]; exact h w' hI⟩, hr⟩
theorem QuietL.nil (h : E a w) : QuietL P ops E I [] a w := h
end

end Go.Proofs.Ytlbbigehjdnjmaa

namespace Go.Proofs.Ytlbbigehjdnjmaa
open Go Go.RowKit

section
variable {P : Program} {ops : Array Oper} {Q : Exit → Act → World → Prop} {md : Region.Mode} {I : World → Prop}
/-- Which operations come next: one that only reads; one that changes the world; either of two. -/
inductive Mx where
  | leaf
  | q (i : Nat) (t : Mx)
  | one (i : Nat) (t : Mx)
  | two (i j : Nat) (t u : Mx)
def Mx.depth : Mx → Nat
  | .leaf => 0
  | .q _ t => t.depth + 1
  | .one _ t => t.depth + 1
  | .two _ _ t u => max t.depth u.depth + 1
/-- Several that only read, one behind the other. -/
def Mx.qs : List Nat → Mx → Mx
  | [], t => t
  | i :: l, t => .q i (Mx.qs l t)
def mxGo (md : Region.Mode) (ops : Array Oper) : Mx → Array Bool → Bool
  | .leaf, listed => (Region.ready md ops listed).isEmpty
  | .q i t, listed => Region.free md ops listed i && (Region.ready md ops listed).contains i && mxGo md ops t (listed.setIfInBounds i true)
  | .one i t, listed => (Region.ready md ops listed == [i]) && mxGo md ops t (listed.setIfInBounds i true)
  | .two i j t u, listed => (Region.ready md ops listed == [i, j]) && (i != j) && mxGo md ops t (listed.setIfInBounds i true) && mxGo md ops u (listed.setIfInBounds j true)
def MixL (P : Program) (ops : Array Oper) (E : Act → World → Prop) (I : World → Prop) : Mx → Act → World → Prop
  | .leaf, a, w => E a w
  | .q i t, a, w => ∃ o v, ops[i]? = some o ∧ StepI P ops I o v a ∧ MixL P ops E I t (a.put o.dst v) w
  | .one i t, a, w => ∃ o, ops[i]? = some o ∧ StepO P ops o a w fun v w' => I w' ∧ MixL P ops E I t (a.put o.dst v) w'
  | .two i j t u, a, w => (∃ o, ops[i]? = some o ∧ StepO P ops o a w fun v w' => I w' ∧ MixL P ops E I t (a.put o.dst v) w') ∧ (∃ o, ops[j]? = some o ∧ StepO P ops o a w fun v w' => I w' ∧ MixL P ops E I u (a.put o.dst v) w')
theorem MixL.plan : ∀ (t : Mx) (listed : Array Bool) (a : Act) (w : World), mxGo md ops t listed = true → MixL P ops (Q .normal) I t a w → PlanF P md ops Q I t.depth listed a w
  | .leaf, listed, a, w, hg, h => .done (by simpa [mxGo] using hg) h
  | .q i t, listed, a, w, hg, h => by
    simp only [mxGo, Bool.and_eq_true] at hg
    obtain ⟨o, v, hi, hs, hr⟩ := h
    exact .take i o v hi hg.1.1 (by simpa using hg.1.2) hs (MixL.plan t _ _ _ hg.2 hr)
  | .one i t, listed, a, w, hg, h => by
    simp only [mxGo, Bool.and_eq_true, beq_iff_eq] at hg
    obtain ⟨o, hi, hs⟩ := h
    refine .fork (fun _ => o) (fun _ => fun v w' => I w' ∧ MixL P ops (Q .normal) I t (a.put o.dst v) w') (by rw [hg.1]; simp) ?_ ?_ ?_ ?_
    all_goals
      intro k hk
      rw [hg.1] at hk
      obtain rfl : k = i := by simpa using hk
    · exact hi
    · exact hs
    · exact fun v w' hK => hK.1
    · exact fun v w' hK => MixL.plan t _ _ _ hg.2 hK.2
  | .two i j t u, listed, a, w, hg, h => by
    simp only [mxGo, Bool.and_eq_true, beq_iff_eq, bne_iff_ne, ne_eq] at hg
    obtain ⟨⟨⟨hr, hne⟩, h1⟩, h2⟩ := hg
    obtain ⟨⟨o, hi, hs⟩, ⟨o', hj, hs'⟩⟩ := h
    refine .fork (fun k => if k = i then o else o') (fun k => if k = i then (fun v w' => I w' ∧ MixL P ops (Q .normal) I t (a.put o.dst v) w') else (fun v w' => I w' ∧ MixL P ops (Q .normal) I u (a.put o'.dst v) w')) (by rw [hr]; simp) ?_ ?_ ?_ ?_
    all_goals
      intro k hk
      rw [hr] at hk
      have hk2 : k = i ∨ k = j := by simpa using hk
      rcases hk2 with rfl | rfl
    · simpa using hi
    · rw [if_neg (Ne.symm hne)]; exact hj
    · simp only [if_true]; exact hs
    · simp only [if_neg (Ne.symm hne)]; exact hs'
    · simp only [if_true]; exact fun v w' hK => hK.1
    · simp only [if_neg (Ne.symm hne)]; exact fun v w' hK => hK.1
    · simp only [if_true]; exact fun v w' hK => (MixL.plan t _ _ _ h1 hK.2).more (by omega)
    · simp only [if_neg (Ne.symm hne)]; exact fun v w' hK => (MixL.plan u _ _ _ h2 hK.2).more (by omega)
def mxOk (md : Region.Mode) (ops : Array Oper) (t : Mx) : Bool := Region.noSelect ops && decide (t.depth ≤ ops.size) && mxGo md ops t (Array.replicate ops.size false)
/-- THE LAW. -/
theorem wp_region_mix {id : Nat} {a : Act} {w : World} (I : World → Prop) (t : Mx) (hm : P.follows .mixedOrders = true) (hok : mxOk .any ops t = true) (hI : I w.drew)
    (h : MixL P ops (Q .normal) I t a w.drew) : (Code.region id ops true).wp P Q a w := by
  refine wp_region_any hm ?_
  unfold mxOk at hok
  simp only [Bool.and_eq_true, decide_eq_true_eq] at hok
  obtain ⟨⟨h1, h2⟩, h3⟩ := hok
  exact PlanF.any (fun i o cs b hi => Region.noSelect_spec h1 i o cs b hi) ops.size t.depth _ a w.drew (DC.none _) h2 hI (MixL.plan t _ a w.drew h3 h)
variable {E : Act → World → Prop} {i j : Nat} {t u : Mx} {o o' : Oper} {a : Act} {w : World}
theorem MixL.val {v : Value} (hi : ops[i]? = some o) (hns : ∀ cs b, o.op ≠ .select cs b) (hw : Region.wanted o (yielded ops a.tmps) = true) (h : ∀ w, I w → (execOp a.eval o).run P w = .ok (.value v) w)
    (hr : MixL P ops E I t (a.put o.dst v) w) : MixL P ops E I (.q i t) a w :=
  ⟨o, v, hi, fun a' w' hag hI => .inr ⟨by rw [wanted_agree o hag]; exact hw, by rw [exec_agree o hns hag]; exact h w' hI⟩, hr⟩
theorem MixL.skip (hi : ops[i]? = some o) (hw : Region.wanted o (yielded ops a.tmps) = false) (hr : MixL P ops E I t (a.put o.dst undef) w) : MixL P ops E I (.q i t) a w :=
  ⟨o, undef, hi, fun a' w' hag hI => .inl ⟨by rw [wanted_agree o hag]; exact hw, rfl⟩, hr⟩
theorem MixL.does {v : Value} {w1 : World} (hi : ops[i]? = some o) (hw : Region.wanted o (yielded ops a.tmps) = true) (h : (execOp a.eval o).run P w = .ok (.value v) w1) (hI : I w1)
    (hr : MixL P ops E I t (a.put o.dst v) w1) : MixL P ops E I (.one i t) a w :=
  ⟨o, hi, hw, .inl ⟨v, w1, h, hI, hr⟩⟩
theorem MixL.call {f : FuncId} {args : Array Value} (hi : ops[i]? = some o) (hw : Region.wanted o (yielded ops a.tmps) = true) (he : (execOp a.eval o).run P w = .ok (.enter f args) w)
    (h : Calls P f args w fun e w' => ∃ v, e = .returned v ∧ I w' ∧ MixL P ops E I t (a.put o.dst v) w') : MixL P ops E I (.one i t) a w :=
  ⟨o, hi, hw, .inr (.inl ⟨f, args, w, he, h⟩)⟩
theorem MixL.store {w1 : World} (hi : ops[i]? = some o) (hw : Region.wanted o (yielded ops a.tmps) = true) (h : (execOp a.eval o).run P w = .ok .skip w1) (hI : I w1)
    (hr : MixL P ops E I t (a.put o.dst undef) w1) : MixL P ops E I (.one i t) a w :=
  ⟨o, hi, hw, .inr (.inr ⟨w1, h, hI, hr⟩)⟩
theorem MixL.both (h1 : MixL P ops E I (.one i t) a w) (h2 : MixL P ops E I (.one j u) a w) : MixL P ops E I (.two i j t u) a w := ⟨h1, h2⟩
theorem MixL.nil (h : E a w) : MixL P ops E I .leaf a w := h
end

end Go.Proofs.Ytlbbigehjdnjmaa
