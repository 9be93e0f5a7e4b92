/- The reference's writer: numbers, padding. -/
import Derived.Test.YtdbnjlmkbmfhkaaRw1
import Derived.Test.YtdbnjlmkbmfhkaaBytes2
import Derived.LoopTactic
import Derived.Outline
namespace Go.Proofs.Ytdbnjlmkbmfhkaa
open Go Go.RowKit

theorem RPut.alloc {w w' : World} {o : Obj} {q R : Nat} {F : Bool} {L E : List Value} {fp : List Nat} (h : RPut (w.alloc o) w' q R F L fp E) : RPut w w' q R F L fp E := by
  obtain ⟨fp', h1, h2, h3⟩ := h
  refine ⟨fp', h1, ((Only.refl w fp).alloc o).trans h2 (fun b hb => .inl hb), fun b hb => ?_⟩
  rcases h3 b hb with h | h
  · exact .inl h
  · right
    simp at h
    omega
theorem rbytes1_any (x : Int) (w : World) :
    Calls Try.prog 82 #[.int .i64 1, .int .i64 x] w fun e w' => e = .returned (.slice (some ⟨w.heap.size, 0, none⟩) 1 1) ∧ w' = w.alloc (.cells #[.int .u8 (x % 256)] 5) := by
  have hmk : ∀ w : World, (Instr.makeSlice 58 (.int .i64 1) (.int .i64 1)).run Try.prog w = .ok (.slice (some ⟨w.heap.size, 0, none⟩) 1 1) (w.alloc (.cells #[.int .u8 0] 5)) := fun w => by
    have h := run_make_row' (P := Try.prog) 58 5 (.int .u8 0) 1 Try.underlying58 u8Info rfl .i64 .i64 1 (by omega) (by omega) w
    rw [made_zeros] at h
    exact h
  go_enter Try.func82, Try.ntmps82
  go_wp2
  refine wp_loop_rounds 2 ?_
  rw [rounds_succ]
  go_wp2
  rw [rounds_succ]
  go_wp2
  go_ret
  exact ⟨rfl, rfl⟩
set_option maxRecDepth 100000 in
theorem ru1_any (q R : Nat) (F : Bool) (L : List Value) (fp : List Nat) (x : Int) (w : World) (hW : RWr w q R F L fp) (hR : R ≤ 1099511627776) :
    Calls Try.prog 69 #[.pointer (some ⟨q, 0, none⟩), .int .i64 1, .int .i64 x] w fun e w' => e = .returned (.tuple #[]) ∧ RPut w w' q R F L fp (be1 x) := by
  have C := rdata_any q R F L fp (some ⟨w.heap.size, 0, none⟩) 1 1 (w.alloc (.cells #[.int .u8 (x % 256)] 5)).heap.size (be1 x) (w.alloc (.cells #[.int .u8 (x % 256)] 5)) (hW.only ((Only.refl w []).alloc _) (fun _ _ h => (nomatch h))) hR (lists_new w _ _ _ (fun j u hu => by simpa [be1] using hu)) rfl (Nat.le_refl _) (be1_bytes x)
  have C1 := fun w => rbytes1_any x w
  clear hW hR
  go_enter Try.func69, Try.ntmps69
  go_wp2_with (first | (go_at_call 82; ((with_reducible refine (C1 _).mono ?_); rintro e w1 ⟨rfl, rfl⟩)) | (go_at_call 72; ((with_reducible refine (C).mono ?_); rintro e w1 ⟨rfl, hq⟩)))
  go_end0
  exact ⟨rfl, hq.alloc⟩
set_option maxRecDepth 100000 in
theorem rbytes2_any (x : Int) (w : World) :
    Calls Try.prog 82 #[.int .i64 2, .int .i64 x] w fun e w' => e = .returned (.slice (some ⟨w.heap.size, 0, none⟩) 2 2) ∧ w' = w.alloc (.cells #[.int .u8 (x / 256 % 256), .int .u8 (x % 256)] 5) := by
  have hmk : ∀ w : World, (Instr.makeSlice 58 (.int .i64 2) (.int .i64 2)).run Try.prog w = .ok (.slice (some ⟨w.heap.size, 0, none⟩) 2 2) (w.alloc (.cells #[.int .u8 0, .int .u8 0] 5)) := fun w => by
    have h := run_make_row' (P := Try.prog) 58 5 (.int .u8 0) 1 Try.underlying58 u8Info rfl .i64 .i64 2 (by omega) (by omega) w
    rw [made_zeros] at h
    exact h
  go_enter Try.func82, Try.ntmps82
  go_wp2
  refine wp_loop_rounds 3 ?_
  rw [rounds_succ]
  go_wp2
  rw [rounds_succ]
  go_wp2
  rw [rounds_succ]
  go_wp2
  go_ret
  exact ⟨rfl, rfl⟩
set_option maxRecDepth 100000 in
theorem ru2_any (q R : Nat) (F : Bool) (L : List Value) (fp : List Nat) (x : Int) (w : World) (hW : RWr w q R F L fp) (hR : R ≤ 1099511627776) :
    Calls Try.prog 69 #[.pointer (some ⟨q, 0, none⟩), .int .i64 2, .int .i64 x] w fun e w' => e = .returned (.tuple #[]) ∧ RPut w w' q R F L fp (be2 x) := by
  have C := rdata_any q R F L fp (some ⟨w.heap.size, 0, none⟩) 2 2 (w.alloc (.cells #[.int .u8 (x / 256 % 256), .int .u8 (x % 256)] 5)).heap.size (be2 x) (w.alloc (.cells #[.int .u8 (x / 256 % 256), .int .u8 (x % 256)] 5)) (hW.only ((Only.refl w []).alloc _) (fun _ _ h => (nomatch h))) hR (lists_new w _ _ _ (fun j u hu => by simpa [be2] using hu)) rfl (Nat.le_refl _) (be2_bytes x)
  have C1 := fun w => rbytes2_any x w
  clear hW hR
  go_enter Try.func69, Try.ntmps69
  go_wp2_with (first | (go_at_call 82; ((with_reducible refine (C1 _).mono ?_); rintro e w1 ⟨rfl, rfl⟩)) | (go_at_call 72; ((with_reducible refine (C).mono ?_); rintro e w1 ⟨rfl, hq⟩)))
  go_end0
  exact ⟨rfl, hq.alloc⟩
set_option maxRecDepth 100000 in
theorem rbytes4_any (x : Int) (w : World) :
    Calls Try.prog 82 #[.int .i64 4, .int .i64 x] w fun e w' => e = .returned (.slice (some ⟨w.heap.size, 0, none⟩) 4 4) ∧ w' = w.alloc (.cells #[.int .u8 (x / 16777216 % 256), .int .u8 (x / 65536 % 256), .int .u8 (x / 256 % 256), .int .u8 (x % 256)] 5) := by
  have hmk : ∀ w : World, (Instr.makeSlice 58 (.int .i64 4) (.int .i64 4)).run Try.prog w = .ok (.slice (some ⟨w.heap.size, 0, none⟩) 4 4) (w.alloc (.cells #[.int .u8 0, .int .u8 0, .int .u8 0, .int .u8 0] 5)) := fun w => by
    have h := run_make_row' (P := Try.prog) 58 5 (.int .u8 0) 1 Try.underlying58 u8Info rfl .i64 .i64 4 (by omega) (by omega) w
    rw [made_zeros] at h
    exact h
  go_enter Try.func82, Try.ntmps82
  go_wp2
  refine wp_loop_rounds 5 ?_
  rw [rounds_succ]
  go_wp2
  rw [rounds_succ]
  go_wp2
  rw [rounds_succ]
  go_wp2
  rw [rounds_succ]
  go_wp2
  rw [rounds_succ]
  go_wp2
  go_ret
  exact ⟨rfl, rfl⟩
set_option maxRecDepth 100000 in
theorem ru4_any (q R : Nat) (F : Bool) (L : List Value) (fp : List Nat) (x : Int) (w : World) (hW : RWr w q R F L fp) (hR : R ≤ 1099511627776) :
    Calls Try.prog 69 #[.pointer (some ⟨q, 0, none⟩), .int .i64 4, .int .i64 x] w fun e w' => e = .returned (.tuple #[]) ∧ RPut w w' q R F L fp (be4 x) := by
  have C := rdata_any q R F L fp (some ⟨w.heap.size, 0, none⟩) 4 4 (w.alloc (.cells #[.int .u8 (x / 16777216 % 256), .int .u8 (x / 65536 % 256), .int .u8 (x / 256 % 256), .int .u8 (x % 256)] 5)).heap.size (be4 x) (w.alloc (.cells #[.int .u8 (x / 16777216 % 256), .int .u8 (x / 65536 % 256), .int .u8 (x / 256 % 256), .int .u8 (x % 256)] 5)) (hW.only ((Only.refl w []).alloc _) (fun _ _ h => (nomatch h))) hR (lists_new w _ _ _ (fun j u hu => by simpa [be4] using hu)) rfl (Nat.le_refl _) (be4_bytes x)
  have C1 := fun w => rbytes4_any x w
  clear hW hR
  go_enter Try.func69, Try.ntmps69
  go_wp2_with (first | (go_at_call 82; ((with_reducible refine (C1 _).mono ?_); rintro e w1 ⟨rfl, rfl⟩)) | (go_at_call 72; ((with_reducible refine (C).mono ?_); rintro e w1 ⟨rfl, hq⟩)))
  go_end0
  exact ⟨rfl, hq.alloc⟩

end Go.Proofs.Ytdbnjlmkbmfhkaa
