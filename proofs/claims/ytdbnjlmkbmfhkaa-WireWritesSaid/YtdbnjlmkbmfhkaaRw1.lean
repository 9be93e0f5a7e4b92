/- The reference's writer: Data. -/
import Derived.Test.YtdbnjlmkbmfhkaaWr4
namespace Go.Proofs.Ytdbnjlmkbmfhkaa
open Go Go.RowKit

/-- The reference's writer at block q. -/
def RWr (w : World) (q R : Nat) (F : Bool) (L : List Value) (fp : List Nat) : Prop :=
  ∃ bv, Blk w q 60 #[bv, .int .i64 (R : Nat), .bool F] ∧ w.ownsRow 0 5 1 bv L.length L ∧ Bytes8 L ∧ L.length ≤ R ∧ fp = q :: blk bv
def RPut (w w' : World) (q R : Nat) (F : Bool) (L : List Value) (fp : List Nat) (E : List Value) : Prop :=
  ∃ fp', RWr w' q R (putF R F L E) (putL R F L E) fp' ∧ Only w w' fp ∧ ∀ b ∈ fp', b ∈ fp ∨ w.heap.size ≤ b

theorem own_mono {w : World} {base : Nat} {e : TypeId} {size n : Nat} {v : Value} {xs : List Value} (h : w.ownsRow base e size v n xs) : w.ownsRow 0 e size v n xs :=
  ⟨h.1, h.2.imp id fun ⟨g, cap, cur, h1, _, h3⟩ => ⟨g, cap, cur, h1, Nat.zero_le _, h3⟩⟩

theorem RWr.lt {w : World} {q R : Nat} {F : Bool} {L : List Value} {fp : List Nat} (h : RWr w q R F L fp) : ∀ b ∈ fp, b < w.heap.size := by
  obtain ⟨bv, hb, hd, _, _, rfl⟩ := h
  intro b hm
  rcases List.mem_cons.1 hm with rfl | hm
  · exact hb.lt
  · exact blk_lt hd b hm
theorem RWr.only {w w1 : World} {q R : Nat} {F : Bool} {L : List Value} {fp fq : List Nat} (h : RWr w q R F L fp) (k : Only w w1 fq) (hn : ∀ b ∈ fp, b ∉ fq) : RWr w1 q R F L fp := by
  obtain ⟨bv, hb, hd, h2, h3, rfl⟩ := h
  exact ⟨bv, hb.only k (hn q (by simp)), own_only hd k (fun b hm => hn b (by simp [hm])), h2, h3, rfl⟩

set_option maxRecDepth 100000 in
set_option maxHeartbeats 1000000 in
theorem rdata_any (q R : Nat) (F : Bool) (L : List Value) (fp : List Nat) (A : Option Addr) (m c B : Nat) (E : List Value) (w : World) (hW : RWr w q R F L fp) (hR : R ≤ 1099511627776) (hE : Lists w B A E) (hm : E.length = m) (hB : B ≤ w.heap.size) (h8 : Bytes8 E) :
    Calls Try.prog 72 #[.pointer (some ⟨q, 0, none⟩), .slice A m c] w fun e w' => e = .returned (.tuple #[]) ∧ RPut w w' q R F L fp E := by
  obtain ⟨bv, hb, hd, k2, k3, k5⟩ := id hW
  obtain ⟨A0, c0, rfl, lD, hc0⟩ := own_lists hd
  have n1 := own_ne hd hb (by decide)
  have HK : ∀ w', Below w.heap.size w w' → KB w' [(q, [.slice A0 L.length c0, .int .i64 (R : Nat), .bool F])] := fun w' hS => (hb.below hS).kb
  have s1 : IntKind.i64.wrap ((R : Int) - (L.length : Int)) = (R : Int) - (L.length : Int) := IntWalk.i64_in _ (by omega)
  have HM := Lib.hid hm
  have H5 := Lib.hid k5
  have HW := Lib.hid hW
  cases hf : putF R F L E
  · have hF : F = false := by unfold putF at hf; simp at hf; exact hf.1
    have hx : L.length + E.length ≤ R := by unfold putF at hf; simp at hf; exact hf.2
    subst hF
    have d1 : decide ((R : Int) - (L.length : Int) < (m : Int)) = false := by simp; omega
    have HX := Lib.hid hx
    have HF := Lib.hid hf
    obtain ⟨i0, hi, hz0, hz1, hz2⟩ := info_parts u8Info
    clear hm k5 hW hf hx
    go_enter Try.func72, Try.ntmps72
    go_wp2
    refine wp_region_plan (fun w' => Below w.heap.size w w') _ rfl (by kernel_rfl) (by kernel_rfl) ((Below.refl _ _).drew) ?_
    repeat (first
      | (refine PlanL.skip (by rfl) ?_; simp only [Act.put, List.setIfInBounds_toArray, List.set_cons_zero, List.set_cons_succ])
      | (refine PlanL.val (v := ?_) (by rfl) ?_ ?_; rotate_left; (focus (intro w' hS; have F := HK _ hS; simp only [KB, CellsAt, Nat.zero_add, Nat.reduceAdd, and_true] at F; go_simp <;> with_reducible rfl)); try simp only [Act.put, List.setIfInBounds_toArray, List.set_cons_zero, List.set_cons_succ]))
    refine PlanL.nil ?_
    intro w' hS
    have F := HK _ hS; simp only [KB, CellsAt, Nat.zero_add, Nat.reduceAdd, and_true] at F
    have hb1 := hb.below hS
    clear HK s1
    go_wp2_with (first | (at_builtin; refine wpList_append_src _ rfl (.tmp 27) (.tmp 31) 58 rfl w'.heap.size 5 i0 (.int .u8 0) 1 1 Try.underlying58 hi hz0 hz1 hz2 rfl (by decide) (.slice (some ⟨w'.heap.size, 0, none⟩) 0 0) 0 [] rfl ⟨rfl, .inr ⟨w'.heap.size, 0, #[], rfl, Nat.le_refl _, heap_alloc_new w' _, Nat.le_refl _, Nat.zero_le _, rfl, rfl⟩⟩ w.heap.size A0 L.length c0 L rfl ((lD.below hS).alloc hS.size _) (by rw [Nat.mul_one]) k2.one (by simp only [maxLen]; omega) (by omega) (by simp) ?_; intro v1 w1 hown1 hg1 hat1; rw [Nat.zero_add, List.nil_append] at hown1; have b1 : Below w.heap.size w w1 := (hS.alloc hS.size _).grown hg1 (by simp; have := hS.size; omega) (fun j hj => by cases hj; exact hS.size); have t1 : ∀ b ∈ blk v1, w.heap.size ≤ b := (fun b hb => by have := hS.size; rcases hat1 with e | e <;> (unfold blk at hb; rw [e] at hb; simp [Value.ownBlock] at hb; omega))) | (at_builtin; refine wpList_append_src _ rfl (.tmp 32) (.tmp 33) 58 rfl w'.heap.size 5 i0 (.int .u8 0) 1 1 Try.underlying58 hi hz0 hz1 hz2 rfl (by decide) v1 L.length L rfl hown1 w.heap.size A m c E rfl ((hE.below (b1.mono hB)).more hB) (by rw [HM.out, Nat.mul_one]) h8.one (by simp only [maxLen]; have := HM.out; have := HX.out; omega) (by have := HM.out; have := HX.out; omega) (by have := hg1.size; simp at this; omega) ?_; intro v2 w2 hown2 hg2 hat2; obtain ⟨A2, k2', rfl, _, _⟩ := own_lists hown2; have b2 : Below w.heap.size w w2 := b1.grown hg2 b1.size (fun j hj => t1 j (by unfold blk; rw [hj]; simp)); have hb2 := hb.below b2; have F2 := hb2.kb; simp only [KB, CellsAt, Nat.zero_add, Nat.reduceAdd, and_true] at F2))
    go_end0
    obtain ⟨v2, hv2⟩ : ∃ v, v = Value.slice A2 (L.length + m) k2' := ⟨_, rfl⟩
    rw [← hv2] at hown2 hat2 ⊢
    have n2 := own_ne hown2 hb2 (by decide)
    have o3 : Only w2 (w2.setCell ⟨q, 0, none⟩ v2) [q] := (Only.refl _ _).set (.inl (by simp)) _
    refine ⟨rfl, q :: blk v2, ?_, ?_, ?_⟩
    · rw [HF.out]
      unfold putL
      rw [HF.out, if_neg (by simp)]
      refine ⟨v2, hb2.set 0 v2, ?_, k2.append h8, by rw [List.length_append]; exact HX.out, rfl⟩
      rw [show (L ++ E).length = L.length + m by rw [List.length_append, HM.out]]
      exact own_only (own_mono hown2) o3 (fun b hm e => by simp at e; subst e; exact n2 hm)
    · rw [H5.out]
      exact (Only.of_below b2 _).set (.inl (by simp)) _
    · intro b hm
      rw [H5.out]
      rcases List.mem_cons.1 hm with rfl | hm
      · exact .inl (by simp)
      · right
        rcases hat2 with e | e
        · exact t1 b (by unfold blk at hm ⊢; rw [← e]; exact hm)
        · have : b = w1.heap.size := by unfold blk at hm; rw [e] at hm; simpa using hm
          have := b1.size
          omega
  · have hx : F = true ∨ (F = false ∧ R < L.length + E.length) := by
      unfold putF at hf
      cases F
      · simp at hf; exact .inr ⟨rfl, hf⟩
      · exact .inl rfl
    have hfin : ∀ w', Below w.heap.size w w' → RPut w (w'.setCell ⟨q, 2, none⟩ (.bool true)) q R F L fp E := fun w' hS => by
      have o3 : Only w (w'.setCell ⟨q, 2, none⟩ (.bool true)) [q] := (Only.of_below hS _).set (.inl (by simp)) _
      refine ⟨fp, ?_, by rw [H5.out]; exact o3.more (fun b hm => by simp at hm; subst hm; simp), fun b hm => .inl hm⟩
      rw [hf]
      unfold putL
      rw [hf, if_pos rfl]
      exact ⟨_, (hb.below hS).set 2 (.bool true), own_only hd o3 (fun b hm e => by simp at e; subst e; exact n1 hm), k2, k3, k5⟩
    have HFIN := Lib.hid hfin
    rcases hx with rfl | ⟨rfl, hx⟩
    · clear hm k5 hW hf hfin
      go_enter Try.func72, Try.ntmps72
      go_wp2
      refine wp_region_plan (fun w' => Below w.heap.size w w') _ rfl (by kernel_rfl) (by kernel_rfl) ((Below.refl _ _).drew) ?_
      repeat (first
        | (refine PlanL.skip (by rfl) ?_; simp only [Act.put, List.setIfInBounds_toArray, List.set_cons_zero, List.set_cons_succ])
        | (refine PlanL.val (v := ?_) (by rfl) ?_ ?_; rotate_left; (focus (intro w' hS; have F := HK _ hS; simp only [KB, CellsAt, Nat.zero_add, Nat.reduceAdd, and_true] at F; go_simp <;> with_reducible rfl)); try simp only [Act.put, List.setIfInBounds_toArray, List.set_cons_zero, List.set_cons_succ]))
      refine PlanL.nil ?_
      intro w' hS
      have F := HK _ hS; simp only [KB, CellsAt, Nat.zero_add, Nat.reduceAdd, and_true] at F
      clear HK s1
      go_wp2
      refine bodyPost_ret (results_none rfl _ _ _) rfl ?_
      exact ⟨rfl, HFIN.out _ hS⟩
    · have d1 : decide ((R : Int) - (L.length : Int) < (m : Int)) = true := by simp; omega
      clear hm k5 hW hf hfin hx
      go_enter Try.func72, Try.ntmps72
      go_wp2
      refine wp_region_plan (fun w' => Below w.heap.size w w') _ rfl (by kernel_rfl) (by kernel_rfl) ((Below.refl _ _).drew) ?_
      repeat (first
        | (refine PlanL.skip (by rfl) ?_; simp only [Act.put, List.setIfInBounds_toArray, List.set_cons_zero, List.set_cons_succ])
        | (refine PlanL.val (v := ?_) (by rfl) ?_ ?_; rotate_left; (focus (intro w' hS; have F := HK _ hS; simp only [KB, CellsAt, Nat.zero_add, Nat.reduceAdd, and_true] at F; go_simp <;> with_reducible rfl)); try simp only [Act.put, List.setIfInBounds_toArray, List.set_cons_zero, List.set_cons_succ]))
      refine PlanL.nil ?_
      intro w' hS
      have F := HK _ hS; simp only [KB, CellsAt, Nat.zero_add, Nat.reduceAdd, and_true] at F
      clear HK s1
      go_wp2
      refine bodyPost_ret (results_none rfl _ _ _) rfl ?_
      exact ⟨rfl, HFIN.out _ hS⟩

end Go.Proofs.Ytdbnjlmkbmfhkaa
