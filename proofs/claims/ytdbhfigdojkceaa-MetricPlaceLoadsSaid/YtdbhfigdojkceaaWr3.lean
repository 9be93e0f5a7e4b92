/- Numbers, written. -/
import Derived.Test.YtdbhfigdojkceaaWr2
import Derived.Outline
import Derived.LoopTactic
namespace Go.Proofs.Ytdbhfigdojkceaa
open Go Go.RowKit

theorem lists_new (w : World) (cs : Array Value) (T : TypeId) (E : List Value) (h : ∀ (j : Nat) (u : Value), E[j]? = some u → cs[j]? = some u) : Lists (w.alloc (.cells cs T)) (w.alloc (.cells cs T)).heap.size (some ⟨w.heap.size, 0, none⟩) E :=
  ⟨fun ha => (nomatch ha), fun a ha j u hu => by
    cases ha
    rw [addr_plain, Nat.zero_add, World.cell?_alloc_new]
    exact h j u hu, fun a ha _ => by cases ha; simp⟩
theorem Put.alloc {w w' : World} {o : Obj} {p R : Nat} {F : Bool} {L E : List Value} {fp : List Nat} (h : Put (w.alloc o) w' p R F L fp E) : Put w w' p R F L fp E := by
  obtain ⟨fp', h1, h2, h3⟩ := h
  refine ⟨fp', h1, ((Only.refl w fp).alloc o).trans h2 (fun b hb => .inl hb), fun b hb => ?_⟩
  rcases h3 b hb with h | h
  · exact .inl h
  · right
    simp at h
    omega
theorem byte_of (x : Int) : ∃ n : Nat, n < 256 ∧ Value.int .u8 (x % 256) = .int .u8 (n : Int) := ⟨(x % 256).toNat, by omega, by congr 1; omega⟩
def be1 (x : Int) : List Value := [.int .u8 (x % 256)]
theorem be1_bytes (x : Int) : Bytes8 (be1 x) := by
  intro u hu
  simp only [be1, List.mem_cons, List.not_mem_nil, or_false] at hu
  subst hu
  all_goals exact byte_of _
set_option maxRecDepth 100000 in
theorem number1_any (p R : Nat) (F : Bool) (L : List Value) (fp : List Nat) (x : Int) (w : World) (hW : Wr w p R F L fp) (hR : R ≤ 1099511627776) :
    Calls Try.prog 48 #[.pointer (some ⟨p, 0, none⟩), .int .i64 x, .int .i64 1] w fun e w' => e = .returned (.pointer (some ⟨p, 0, none⟩)) ∧ Put w w' p R F L fp (be1 x) := by
  have hp : p < w.heap.size := by
    obtain ⟨_, _, _, _, hb, _⟩ := hW
    exact hb.lt
  have C := fun cs => data_any p R F L fp (some ⟨w.heap.size, 0, none⟩) 1 4 (w.alloc (.cells cs 95)).heap.size (be1 x) (w.alloc (.cells cs 95)) (hW.only ((Only.refl w []).alloc _) (fun _ _ h => (nomatch h))) hR
  have C1 := C #[.int .u8 (x % 256), .int .u8 0, .int .u8 0, .int .u8 0] (lists_new w _ _ _ (fun j u hu => by
    unfold be1 at hu
    match j, hu with
    | 0, hu => exact (by simpa using hu)
    | j + 1, hu => simp at hu)) rfl (Nat.le_refl _) (be1_bytes x) (fun a ha _ => by cases ha; simp; omega)
  clear C hW hR
  go_enter Try.func48, Try.ntmps48
  go_wp2
  refine wp_loop_rounds 2 ?_
  rw [rounds_succ]
  go_wp2
  rw [rounds_succ]
  go_wp2_with (first | (go_at_call 59; ((with_reducible refine (C1).mono ?_); rintro e w1 ⟨rfl, hq⟩)))
  go_ret
  exact ⟨rfl, hq.alloc⟩

def be2 (x : Int) : List Value := [.int .u8 (x / 256 % 256), .int .u8 (x % 256)]
theorem be2_bytes (x : Int) : Bytes8 (be2 x) := by
  intro u hu
  simp only [be2, List.mem_cons, List.not_mem_nil, or_false] at hu
  rcases hu with rfl | rfl
  all_goals exact byte_of _
set_option maxRecDepth 100000 in
theorem number2_any (p R : Nat) (F : Bool) (L : List Value) (fp : List Nat) (x : Int) (w : World) (hW : Wr w p R F L fp) (hR : R ≤ 1099511627776) :
    Calls Try.prog 48 #[.pointer (some ⟨p, 0, none⟩), .int .i64 x, .int .i64 2] w fun e w' => e = .returned (.pointer (some ⟨p, 0, none⟩)) ∧ Put w w' p R F L fp (be2 x) := by
  have hp : p < w.heap.size := by
    obtain ⟨_, _, _, _, hb, _⟩ := hW
    exact hb.lt
  have C := fun cs => data_any p R F L fp (some ⟨w.heap.size, 0, none⟩) 2 4 (w.alloc (.cells cs 95)).heap.size (be2 x) (w.alloc (.cells cs 95)) (hW.only ((Only.refl w []).alloc _) (fun _ _ h => (nomatch h))) hR
  have C1 := C #[.int .u8 (x / 256 % 256), .int .u8 (x % 256), .int .u8 0, .int .u8 0] (lists_new w _ _ _ (fun j u hu => by
    unfold be2 at hu
    match j, hu with
    | 0, hu => exact (by simpa using hu)
    | 1, hu => exact (by simpa using hu)
    | j + 2, hu => simp at hu)) rfl (Nat.le_refl _) (be2_bytes x) (fun a ha _ => by cases ha; simp; omega)
  clear C hW hR
  go_enter Try.func48, Try.ntmps48
  go_wp2
  refine wp_loop_rounds 3 ?_
  rw [rounds_succ]
  go_wp2
  rw [rounds_succ]
  go_wp2
  rw [rounds_succ]
  go_wp2_with (first | (go_at_call 59; ((with_reducible refine (C1).mono ?_); rintro e w1 ⟨rfl, hq⟩)))
  go_ret
  exact ⟨rfl, hq.alloc⟩

def be4 (x : Int) : List Value := [.int .u8 (x / 16777216 % 256), .int .u8 (x / 65536 % 256), .int .u8 (x / 256 % 256), .int .u8 (x % 256)]
theorem be4_bytes (x : Int) : Bytes8 (be4 x) := by
  intro u hu
  simp only [be4, List.mem_cons, List.not_mem_nil, or_false] at hu
  rcases hu with rfl | rfl | rfl | rfl
  all_goals exact byte_of _
set_option maxRecDepth 100000 in
theorem number4_any (p R : Nat) (F : Bool) (L : List Value) (fp : List Nat) (x : Int) (w : World) (hW : Wr w p R F L fp) (hR : R ≤ 1099511627776) :
    Calls Try.prog 48 #[.pointer (some ⟨p, 0, none⟩), .int .i64 x, .int .i64 4] w fun e w' => e = .returned (.pointer (some ⟨p, 0, none⟩)) ∧ Put w w' p R F L fp (be4 x) := by
  have hp : p < w.heap.size := by
    obtain ⟨_, _, _, _, hb, _⟩ := hW
    exact hb.lt
  have C := fun cs => data_any p R F L fp (some ⟨w.heap.size, 0, none⟩) 4 4 (w.alloc (.cells cs 95)).heap.size (be4 x) (w.alloc (.cells cs 95)) (hW.only ((Only.refl w []).alloc _) (fun _ _ h => (nomatch h))) hR
  have C1 := C #[.int .u8 (x / 16777216 % 256), .int .u8 (x / 65536 % 256), .int .u8 (x / 256 % 256), .int .u8 (x % 256)] (lists_new w _ _ _ (fun j u hu => by
    unfold be4 at hu
    exact (by simpa using hu)
)) rfl (Nat.le_refl _) (be4_bytes x) (fun a ha _ => by cases ha; simp; omega)
  clear C hW hR
  go_enter Try.func48, Try.ntmps48
  go_wp2
  refine wp_loop_rounds 5 ?_
  rw [rounds_succ]
  go_wp2
  rw [rounds_succ]
  go_wp2
  rw [rounds_succ]
  go_wp2
  rw [rounds_succ]
  go_wp2
  rw [rounds_succ]
  go_wp2_with (first | (go_at_call 59; ((with_reducible refine (C1).mono ?_); rintro e w1 ⟨rfl, hq⟩)))
  go_ret
  exact ⟨rfl, hq.alloc⟩

theorem wU16_any (p R : Nat) (F : Bool) (L : List Value) (fp : List Nat) (x : Int) (w : World) (hW : Wr w p R F L fp) (hR : R ≤ 1099511627776) :
    Calls Try.prog 31 #[.pointer (some ⟨p, 0, none⟩), .int .i64 x] w fun e w' => e = .returned (.pointer (some ⟨p, 0, none⟩)) ∧ Put w w' p R F L fp (be2 x) := by
  have C := number2_any p R F L fp x w hW hR
  clear hW hR
  go_enter Try.func31, Try.ntmps31
  go_wp2_with (first | (go_at_call 48; ((with_reducible refine (C).mono ?_); rintro e w1 ⟨rfl, hq⟩)))
  go_ret
  exact ⟨rfl, hq⟩
theorem wI16_any (p R : Nat) (F : Bool) (L : List Value) (fp : List Nat) (x : Int) (w : World) (hW : Wr w p R F L fp) (hR : R ≤ 1099511627776) :
    Calls Try.prog 32 #[.pointer (some ⟨p, 0, none⟩), .int .i64 x] w fun e w' => e = .returned (.pointer (some ⟨p, 0, none⟩)) ∧ Put w w' p R F L fp (be2 x) := by
  have C := number2_any p R F L fp x w hW hR
  clear hW hR
  go_enter Try.func32, Try.ntmps32
  go_wp2_with (first | (go_at_call 48; ((with_reducible refine (C).mono ?_); rintro e w1 ⟨rfl, hq⟩)))
  go_ret
  exact ⟨rfl, hq⟩
theorem wU32_any (p R : Nat) (F : Bool) (L : List Value) (fp : List Nat) (x : Int) (w : World) (hW : Wr w p R F L fp) (hR : R ≤ 1099511627776) :
    Calls Try.prog 55 #[.pointer (some ⟨p, 0, none⟩), .int .i64 x] w fun e w' => e = .returned (.pointer (some ⟨p, 0, none⟩)) ∧ Put w w' p R F L fp (be4 x) := by
  have C := number4_any p R F L fp x w hW hR
  clear hW hR
  go_enter Try.func55, Try.ntmps55
  go_wp2_with (first | (go_at_call 48; ((with_reducible refine (C).mono ?_); rintro e w1 ⟨rfl, hq⟩)))
  go_ret
  exact ⟨rfl, hq⟩

/-- A new writer with room R was answered. -/
def Made (w : World) (R : Nat) (e : Ending) (w' : World) : Prop := ∃ p fp, e = .returned (.pointer (some ⟨p, 0, none⟩)) ∧ Wr w' p R false [] fp ∧ Below w.heap.size w w' ∧ (∀ b ∈ fp, w.heap.size ≤ b)

theorem to_any (r : Int) (w : World) :
    Calls Try.prog 29 #[.int .i64 r] w fun e w' => Made w r.toNat e w' := by
  have own0 : ∀ (w : World) (e : TypeId) (n : Nat), w.ownsRow 0 e n (.slice none 0 0) 0 [] := fun w e n => ⟨by simp, .inl ⟨rfl, rfl⟩⟩
  have fin : ∀ v : Int, v = (r.toNat : Int) → Wr (w.alloc (.cells #[.int .i64 v, .bool false, .slice none 0 0, .slice none 0 0, .int .i64 0] 85)) w.heap.size r.toNat false [] [w.heap.size] := fun v hv => by
    rw [hv]
    exact ⟨[], [], .slice none 0 0, .slice none 0 0, Blk.new w _ _, own0 _ _ _, own0 _ _ _, Nat.le_refl _, (fun _ hu => (nomatch hu)), rfl, Nat.zero_le _, rfl⟩
  by_cases h : 0 ≤ r
  · have fin := fin r (by omega)
    go_enter Try.func29, Try.ntmps29
    go_wp2
    go_ret
    exact ⟨w.heap.size, [w.heap.size], rfl, fin, (Below.refl _ _).alloc (Nat.le_refl _) _, by simp⟩
  · have fin := fin 0 (by omega)
    have h' : r ≤ 0 := by omega
    go_enter Try.func29, Try.ntmps29
    go_wp2
    go_ret
    exact ⟨w.heap.size, [w.heap.size], rfl, fin, (Below.refl _ _).alloc (Nat.le_refl _) _, by simp⟩

end Go.Proofs.Ytdbhfigdojkceaa
