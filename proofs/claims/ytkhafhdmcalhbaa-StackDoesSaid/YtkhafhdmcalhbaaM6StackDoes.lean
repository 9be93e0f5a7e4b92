/- Part 7 of the proof: StL3, Same, StM, Ref1, Ref2. -/
import Derived.Lib.Hide
import Derived.Test.YtkhafhdmcalhbaaChecked
import Derived.Test.YtkhafhdmcalhbaaM5StackDoes

namespace Go.Proofs.Ytkhafhdmcalhbaa
open Go Go.RowKit
set_option linter.unusedVariables false
set_option linter.unusedSimpArgs false
theorem mem_getD {L : List Int} {i : Nat} (h : i < L.length) : L.getD i 0 ∈ L := by
  rw [List.getD_eq_getElem?_getD, List.getElem?_eq_getElem h]
  exact List.getElem_mem h
theorem rt_root (n : Nat) : IsRoot n (rt n) := rt_is n
theorem may_rt {n : Nat} (hn : n ≤ 2147483648) : mayB (rt (65536 * n) : Nat) = true := by
  have h := (rt_is (65536 * n)).1
  have h2 : rt (65536 * n) ≤ 2147483648 := by
    rcases Nat.lt_or_ge 2147483648 (rt (65536 * n)) with h3 | h3
    · exfalso
      have h4 : 2147483648 * 2147483648 ≤ rt (65536 * n) * rt (65536 * n) := Nat.mul_le_mul (Nat.le_of_lt h3) (Nat.le_of_lt h3)
      omega
    · exact h3
  unfold mayB
  simp
  omega
theorem cd_sqrt_ok (q : Nat) (nv : Value) (low St ds : List Int) (n : Nat) (w : World) (hs : Sk w q nv (low ++ [(n : Int)]) St ds) (hn : n ≤ 2147483648) :
    Calls Try.prog 14 #[.pointer (some ⟨q, 0, none⟩), .int .i64 26] w (Did q nv w 0 (low ++ [((rt (65536 * n) : Nat) : Int)]) St ds) := 
  do_one_ok 26 43 (fun _ _ => rfl) q nv low St ds n w hs find_sqrt ((rt (65536 * n) : Nat) : Int) (fun w1 => (root_ok n w1 hn).mono fun e w' ⟨p, h1, h2, h3⟩ => by rw [isRoot_unique h2 (rt_root _)] at h1; exact ⟨h1, h3⟩) (may_rt hn)
theorem cd_sqrt_no (q : Nat) (nv : Value) (low St ds : List Int) (a : Int) (w : World) (hs : Sk w q nv (low ++ [a]) St ds) (hn : a < 0) :
    Calls Try.prog 14 #[.pointer (some ⟨q, 0, none⟩), .int .i64 26] w (Did q nv w 1 (low ++ [a]) St ds) := 
  do_one_no 26 43 (fun _ _ => rfl) q nv low St ds a w hs find_sqrt 0 1 (fun w1 => root_neg a w1 (hs.may a (by simp)) hn) (by decide)
theorem cd_drop (q : Nat) (nv : Value) (low St ds : List Int) (a : Int) (w : World) (hs : Sk w q nv (low ++ [a]) St ds) :
    Calls Try.prog 14 #[.pointer (some ⟨q, 0, none⟩), .int .i64 18] w (Did q nv w 0 low St ds) := by
  have h := do_fn_okF 18 52 (fun _ _ => rfl) 1 q nv low [a] (low ++ [a]) St ds St ds rfl w hs find_drop [] rfl (by have := hs.len; simp at this ⊢; omega) (by intro y hy; simp at hy) (fun W At ct hs hl => drop_any q nv At 1 ct (low ++ [a]) St ds W hs)
  rw [take_low] at h
  rwa [List.append_nil] at h
theorem cd_dup (q : Nat) (nv : Value) (low St ds : List Int) (a : Int) (w : World) (hs : Sk w q nv (low ++ [a]) St ds) (h48 : (low ++ [a]).length ≠ 48) :
    Calls Try.prog 14 #[.pointer (some ⟨q, 0, none⟩), .int .i64 27] w (Did q nv w 0 (low ++ [a, a]) St ds) := by
  have h := do_fn_okT 27 53 (fun _ _ => rfl) 1 q nv low [a] (low ++ [a]) St ds St ds rfl w hs find_dup [a, a] rfl h48 (by have h1 := hs.len; have h2 := h48; rw [List.length_append] at h1 h2; simp at h1 h2 ⊢; omega) (by intro y hy; simp at hy; rw [hy]; exact (hs.may a (by simp))) (fun W At ct hs hl => double_any q nv At ct a (low ++ [a]) St ds W hs hl)
  rw [take_low] at h
  exact h
theorem cd_exch (q : Nat) (nv : Value) (low St ds : List Int) (a b : Int) (w : World) (hs : Sk w q nv (low ++ [a, b]) St ds) :
    Calls Try.prog 14 #[.pointer (some ⟨q, 0, none⟩), .int .i64 28] w (Did q nv w 0 (low ++ [b, a]) St ds) := by
  have h := do_fn_okF 28 54 (fun _ _ => rfl) 2 q nv low [a, b] (low ++ [a, b]) St ds St ds rfl w hs find_exch [b, a] rfl (by have := hs.len; simp at this ⊢; omega) (by intro y hy; simp at hy; rcases hy with hy | hy <;> rw [hy]; exact (hs.may b (by simp)); exact (hs.may a (by simp))) (fun W At ct hs hl => exchange_any q nv At ct a b (low ++ [a, b]) St ds W hs hl)
  rw [take_low] at h
  exact h
theorem cd_ifelse (q : Nat) (nv : Value) (low St ds : List Int) (a b c d : Int) (w : World) (hs : Sk w q nv (low ++ [a, b, c, d]) St ds) :
    Calls Try.prog 14 #[.pointer (some ⟨q, 0, none⟩), .int .i64 22] w (Did q nv w 0 (low ++ [if c ≤ d then a else b]) St ds) := by
  have h := do_fn_okF 22 55 (fun _ _ => rfl) 4 q nv low [a, b, c, d] (low ++ [a, b, c, d]) St ds St ds rfl w hs find_ifelse [if c ≤ d then a else b] rfl (by have := hs.len; simp at this ⊢; omega) (by intro y hy; simp at hy; subst hy; split; exact (hs.may a (by simp)); exact (hs.may b (by simp))) (fun W At ct hs hl => choose_any q nv At ct a b c d (low ++ [a, b, c, d]) St ds W hs hl)
  rw [take_low] at h
  exact h
theorem cd_indexN (q : Nat) (nv : Value) (low St ds : List Int) (a : Int) (m p : Nat) (w : World) (hs : Sk w q nv (low ++ [a]) St ds) (hx : a / 65536 < 0) (hm : m = 0) (hp : p + m + 1 = low.length) :
    Calls Try.prog 14 #[.pointer (some ⟨q, 0, none⟩), .int .i64 29] w (Did q nv w 0 (low ++ [low.getD p 0]) St ds) := by
  have h := do_fn_okF 29 56 (fun _ _ => rfl) 1 q nv low [a] (low ++ [a]) St ds St ds rfl w hs find_index [low.getD p 0] rfl (by have := hs.len; simp at this ⊢; omega) (by intro y hy; rw [List.mem_singleton] at hy; rw [hy]; exact hs.may _ (List.mem_append_left _ (mem_getD (by omega)))) (fun W At ct hs hl => index_someN q nv At ct a St ds low m p W hs hl hx hm hp)
  rw [take_low] at h
  exact h
theorem cd_indexP (q : Nat) (nv : Value) (low St ds : List Int) (a : Int) (m p : Nat) (w : World) (hs : Sk w q nv (low ++ [a]) St ds) (hx : a / 65536 = (m : Nat)) (hm : m ≤ 32768) (hp : p + m + 1 = low.length) :
    Calls Try.prog 14 #[.pointer (some ⟨q, 0, none⟩), .int .i64 29] w (Did q nv w 0 (low ++ [low.getD p 0]) St ds) := by
  have h := do_fn_okF 29 56 (fun _ _ => rfl) 1 q nv low [a] (low ++ [a]) St ds St ds rfl w hs find_index [low.getD p 0] rfl (by have := hs.len; simp at this ⊢; omega) (by intro y hy; rw [List.mem_singleton] at hy; rw [hy]; exact hs.may _ (List.mem_append_left _ (mem_getD (by omega)))) (fun W At ct hs hl => index_someP q nv At ct a St ds low m p W hs hl hx hm hp)
  rw [take_low] at h
  exact h
theorem cd_indexN_no (q : Nat) (nv : Value) (low St ds : List Int) (a : Int) (w : World) (hs : Sk w q nv (low ++ [a]) St ds) (hx : a / 65536 < 0) (hp : low.length ≤ 0) :
    Calls Try.prog 14 #[.pointer (some ⟨q, 0, none⟩), .int .i64 29] w (Did q nv w 170 (low ++ [a]) St ds) := 
  do_fn_noF 29 56 (fun _ _ => rfl) 1 q nv low [a] (low ++ [a]) St ds St ds rfl w hs find_index [] rfl 170 (by decide) (fun W At ct hs hl => index_noneN q nv At ct a St ds low 0 0 W hs hl hx rfl hp)
theorem cd_indexP_no (q : Nat) (nv : Value) (low St ds : List Int) (a : Int) (m : Nat) (w : World) (hs : Sk w q nv (low ++ [a]) St ds) (hx : a / 65536 = (m : Nat)) (hm : m ≤ 32768) (hp : low.length ≤ m) :
    Calls Try.prog 14 #[.pointer (some ⟨q, 0, none⟩), .int .i64 29] w (Did q nv w 170 (low ++ [a]) St ds) := 
  do_fn_noF 29 56 (fun _ _ => rfl) 1 q nv low [a] (low ++ [a]) St ds St ds rfl w hs find_index [] rfl 170 (by decide) (fun W At ct hs hl => index_noneP q nv At ct a St ds low m 0 W hs hl hx hm hp)
theorem cd_rollN_no (q : Nat) (nv : Value) (low St ds : List Int) (a b : Int) (w : World) (hs : Sk w q nv (low ++ [a, b]) St ds) (hx : a / 65536 < 0) :
    Calls Try.prog 14 #[.pointer (some ⟨q, 0, none⟩), .int .i64 30] w (Did q nv w 170 (low ++ [a, b]) St ds) := 
  do_fn_noF 30 57 (fun _ _ => rfl) 2 q nv low [a, b] (low ++ [a, b]) St ds St ds rfl w hs find_roll [] rfl 170 (by decide) (fun W At ct hs hl => roll_neg q nv At ct a b St ds low W hs hl hx)
theorem cd_rollP_no (q : Nat) (nv : Value) (low St ds : List Int) (a b : Int) (w : World) (hs : Sk w q nv (low ++ [a, b]) St ds) (hx : 0 ≤ a / 65536) (hy : (low.length : Int) < a / 65536) :
    Calls Try.prog 14 #[.pointer (some ⟨q, 0, none⟩), .int .i64 30] w (Did q nv w 170 (low ++ [a, b]) St ds) := 
  do_fn_noF 30 57 (fun _ _ => rfl) 2 q nv low [a, b] (low ++ [a, b]) St ds St ds rfl w hs find_roll [] rfl 170 (by decide) (fun W At ct hs hl => roll_many q nv At ct a b St ds low W hs hl hx hy)
theorem cd_roll (q : Nat) (nv : Value) (low St ds : List Int) (a b : Int) (l0 : List Int) (w : World) (hs : Sk w q nv (low ++ l0 ++ [a, b]) St ds) (hx : a / 65536 = (l0.length : Nat)) :
    Calls Try.prog 14 #[.pointer (some ⟨q, 0, none⟩), .int .i64 30] w (Did q nv w 0 (low ++ rot l0 (b / 65536)) St ds) := by
  have h := do_fn_okF 30 57 (fun _ _ => rfl) 2 q nv (low ++ l0) [a, b] (low ++ rot l0 (b / 65536) ++ [a, b]) St ds St ds rfl w hs find_roll [] (by simp [rot_len]) (by have := hs.len; simp at this ⊢; omega) (by intro y hy; simp at hy) (fun W At ct hs hl => roll_yes q nv At ct a b St ds low l0 W hs hl hx)
  rw [List.take_left' (by rw [List.length_append, List.length_append, rot_len]), List.append_nil] at h
  exact h
theorem cd_put (q : Nat) (nv : Value) (low St ds : List Int) (a b : Int) (i : Nat) (w : World) (hs : Sk w q nv (low ++ [a, b]) St ds) (hi : b / 65536 = (i : Int)) (h32 : i < 32) :
    Calls Try.prog 14 #[.pointer (some ⟨q, 0, none⟩), .int .i64 20] w (Did q nv w 0 low (St.set i a) ds) := by
  have h := do_fn_okF 20 58 (fun _ _ => rfl) 2 q nv low [a, b] (low ++ [a, b]) St ds (St.set i a) ds rfl w hs find_put [] rfl (by have := hs.len; simp at this ⊢; omega) (by intro y hy; simp at hy) (fun W At ct hs hl => put_yes q nv At ct a b St ds low i W hs hl hi h32)
  rw [take_low] at h
  rwa [List.append_nil] at h
theorem cd_put_no (q : Nat) (nv : Value) (low St ds : List Int) (a b : Int) (w : World) (hs : Sk w q nv (low ++ [a, b]) St ds) (hi : ¬ (0 ≤ b / 65536 ∧ b / 65536 < 32)) :
    Calls Try.prog 14 #[.pointer (some ⟨q, 0, none⟩), .int .i64 20] w (Did q nv w 170 (low ++ [a, b]) St ds) := 
  do_fn_noF 20 58 (fun _ _ => rfl) 2 q nv low [a, b] (low ++ [a, b]) St ds St ds rfl w hs find_put [] rfl 170 (by decide) (fun W At ct hs hl => put_no q nv At ct a b St ds low W hs hl hi)
theorem cd_get (q : Nat) (nv : Value) (low St ds : List Int) (a : Int) (i : Nat) (w : World) (hs : Sk w q nv (low ++ [a]) St ds) (hi : a / 65536 = (i : Int)) (h32 : i < 32) :
    Calls Try.prog 14 #[.pointer (some ⟨q, 0, none⟩), .int .i64 21] w (Did q nv w 0 (low ++ [St.getD i 0]) St ds) := by
  have h := do_fn_okF 21 59 (fun _ _ => rfl) 1 q nv low [a] (low ++ [a]) St ds St ds rfl w hs find_get [St.getD i 0] rfl (by have := hs.len; simp at this ⊢; omega) (by intro y hy; rw [List.mem_singleton] at hy; rw [hy]; exact hs.mst _ (mem_getD (by rw [hs.st]; exact h32))) (fun W At ct hs hl => get_yes q nv At ct a St ds low i W hs hl hi h32)
  rw [take_low] at h
  exact h
theorem cd_get_no (q : Nat) (nv : Value) (low St ds : List Int) (a : Int) (w : World) (hs : Sk w q nv (low ++ [a]) St ds) (hi : ¬ (0 ≤ a / 65536 ∧ a / 65536 < 32)) :
    Calls Try.prog 14 #[.pointer (some ⟨q, 0, none⟩), .int .i64 21] w (Did q nv w 170 (low ++ [a]) St ds) := 
  do_fn_noF 21 59 (fun _ _ => rfl) 1 q nv low [a] (low ++ [a]) St ds St ds rfl w hs find_get [] rfl 170 (by decide) (fun W At ct hs hl => get_no q nv At ct a St ds low W hs hl hi)
theorem cd_random_nil (q : Nat) (nv : Value) (low St ds : List Int) (w : World) (hs : Sk w q nv low St []) (h48 : low.length ≠ 48) :
    Calls Try.prog 14 #[.pointer (some ⟨q, 0, none⟩), .int .i64 23] w (Did q nv w 0 (low ++ [65536]) St []) := by
  have h := do_fn_okT 23 60 (fun _ _ => rfl) 0 q nv low [] (low ++ []) St [] St [] rfl w (by rw [List.append_nil]; exact hs) find_random [65536] rfl (by rw [List.append_nil]; exact h48) (by have := hs.len; simp; omega) (by intro y hy; simp at hy; subst hy; rfl) (fun W At ct hs hl => random_nil q nv At 0 ct (low ++ []) St W hs)
  rw [take_low] at h
  exact h
theorem cd_random (q : Nat) (nv : Value) (low St ds : List Int) (d : Int) (r : List Int) (w : World) (hs : Sk w q nv low St (d :: r)) (h48 : low.length ≠ 48) :
    Calls Try.prog 14 #[.pointer (some ⟨q, 0, none⟩), .int .i64 23] w (Did q nv w 0 (low ++ [d % 65536 + 1]) St r) := by
  have h := do_fn_okT 23 60 (fun _ _ => rfl) 0 q nv low [] (low ++ []) St (d :: r) St r rfl w (by rw [List.append_nil]; exact hs) find_random [d % 65536 + 1] rfl (by rw [List.append_nil]; exact h48) (by have := hs.len; simp; omega) (by intro y hy; simp at hy; subst hy; have h0 := Int.emod_nonneg d (show (65536 : Int) ≠ 0 by omega); have h1 := Int.emod_lt_of_pos d (show (0 : Int) < 65536 by omega); unfold mayB; simp; omega) (fun W At ct hs hl => random_more q nv At 0 ct (low ++ []) St r d W hs)
  rw [take_low] at h
  exact h
theorem cs_abs (q : Nat) (nv : Value) (L St ds : List Int) (w : World) (hs : Sk w q nv L St ds) (hk : L.length < 1) : Calls Try.prog 14 #[.pointer (some ⟨q, 0, none⟩), .int .i64 9] w (Did q nv w 170 L St ds) :=
  do_short 9 1 false (fv 41) .nilFunc .nilFunc (by kernel_rfl) q nv L St ds w hs find_abs hk (by decide)
theorem cs_neg (q : Nat) (nv : Value) (L St ds : List Int) (w : World) (hs : Sk w q nv L St ds) (hk : L.length < 1) : Calls Try.prog 14 #[.pointer (some ⟨q, 0, none⟩), .int .i64 14] w (Did q nv w 170 L St ds) :=
  do_short 14 1 false (fv 42) .nilFunc .nilFunc (by kernel_rfl) q nv L St ds w hs find_neg hk (by decide)
theorem cs_sqrt (q : Nat) (nv : Value) (L St ds : List Int) (w : World) (hs : Sk w q nv L St ds) (hk : L.length < 1) : Calls Try.prog 14 #[.pointer (some ⟨q, 0, none⟩), .int .i64 26] w (Did q nv w 170 L St ds) :=
  do_short 26 1 false (fv 43) .nilFunc .nilFunc (by kernel_rfl) q nv L St ds w hs find_sqrt hk (by decide)
theorem cs_not (q : Nat) (nv : Value) (L St ds : List Int) (w : World) (hs : Sk w q nv L St ds) (hk : L.length < 1) : Calls Try.prog 14 #[.pointer (some ⟨q, 0, none⟩), .int .i64 5] w (Did q nv w 170 L St ds) :=
  do_short 5 1 false (fv 44) .nilFunc .nilFunc (by kernel_rfl) q nv L St ds w hs find_not hk (by decide)
theorem cs_add (q : Nat) (nv : Value) (L St ds : List Int) (w : World) (hs : Sk w q nv L St ds) (hk : L.length < 2) : Calls Try.prog 14 #[.pointer (some ⟨q, 0, none⟩), .int .i64 10] w (Did q nv w 170 L St ds) :=
  do_short 10 2 false .nilFunc (fv 45) .nilFunc (by kernel_rfl) q nv L St ds w hs find_add hk (by decide)
theorem cs_sub (q : Nat) (nv : Value) (L St ds : List Int) (w : World) (hs : Sk w q nv L St ds) (hk : L.length < 2) : Calls Try.prog 14 #[.pointer (some ⟨q, 0, none⟩), .int .i64 11] w (Did q nv w 170 L St ds) :=
  do_short 11 2 false .nilFunc (fv 46) .nilFunc (by kernel_rfl) q nv L St ds w hs find_sub hk (by decide)
theorem cs_mul (q : Nat) (nv : Value) (L St ds : List Int) (w : World) (hs : Sk w q nv L St ds) (hk : L.length < 2) : Calls Try.prog 14 #[.pointer (some ⟨q, 0, none⟩), .int .i64 24] w (Did q nv w 170 L St ds) :=
  do_short 24 2 false .nilFunc (fv 47) .nilFunc (by kernel_rfl) q nv L St ds w hs find_mul hk (by decide)
theorem cs_div (q : Nat) (nv : Value) (L St ds : List Int) (w : World) (hs : Sk w q nv L St ds) (hk : L.length < 2) : Calls Try.prog 14 #[.pointer (some ⟨q, 0, none⟩), .int .i64 12] w (Did q nv w 170 L St ds) :=
  do_short 12 2 false .nilFunc (fv 48) .nilFunc (by kernel_rfl) q nv L St ds w hs find_div hk (by decide)
theorem cs_and (q : Nat) (nv : Value) (L St ds : List Int) (w : World) (hs : Sk w q nv L St ds) (hk : L.length < 2) : Calls Try.prog 14 #[.pointer (some ⟨q, 0, none⟩), .int .i64 3] w (Did q nv w 170 L St ds) :=
  do_short 3 2 false .nilFunc (fv 49) .nilFunc (by kernel_rfl) q nv L St ds w hs find_and hk (by decide)
theorem cs_or (q : Nat) (nv : Value) (L St ds : List Int) (w : World) (hs : Sk w q nv L St ds) (hk : L.length < 2) : Calls Try.prog 14 #[.pointer (some ⟨q, 0, none⟩), .int .i64 4] w (Did q nv w 170 L St ds) :=
  do_short 4 2 false .nilFunc (fv 50) .nilFunc (by kernel_rfl) q nv L St ds w hs find_or hk (by decide)
theorem cs_eq (q : Nat) (nv : Value) (L St ds : List Int) (w : World) (hs : Sk w q nv L St ds) (hk : L.length < 2) : Calls Try.prog 14 #[.pointer (some ⟨q, 0, none⟩), .int .i64 15] w (Did q nv w 170 L St ds) :=
  do_short 15 2 false .nilFunc (fv 51) .nilFunc (by kernel_rfl) q nv L St ds w hs find_eq hk (by decide)
theorem cs_drop (q : Nat) (nv : Value) (L St ds : List Int) (w : World) (hs : Sk w q nv L St ds) (hk : L.length < 1) : Calls Try.prog 14 #[.pointer (some ⟨q, 0, none⟩), .int .i64 18] w (Did q nv w 170 L St ds) :=
  do_short 18 1 false .nilFunc .nilFunc (fv 52) (by kernel_rfl) q nv L St ds w hs find_drop hk (by decide)
theorem cs_dup (q : Nat) (nv : Value) (L St ds : List Int) (w : World) (hs : Sk w q nv L St ds) (hk : L.length < 1) : Calls Try.prog 14 #[.pointer (some ⟨q, 0, none⟩), .int .i64 27] w (Did q nv w 170 L St ds) :=
  do_short 27 1 true .nilFunc .nilFunc (fv 53) (by kernel_rfl) q nv L St ds w hs find_dup hk (by decide)
theorem cf_dup (q : Nat) (nv : Value) (L St ds : List Int) (w : World) (hs : Sk w q nv L St ds) (h48 : L.length = 48) : Calls Try.prog 14 #[.pointer (some ⟨q, 0, none⟩), .int .i64 27] w (Did q nv w 170 L St ds) :=
  do_full 27 1 true .nilFunc .nilFunc (fv 53) (by kernel_rfl) q nv L St ds w hs find_dup (by decide) rfl h48
theorem cs_exch (q : Nat) (nv : Value) (L St ds : List Int) (w : World) (hs : Sk w q nv L St ds) (hk : L.length < 2) : Calls Try.prog 14 #[.pointer (some ⟨q, 0, none⟩), .int .i64 28] w (Did q nv w 170 L St ds) :=
  do_short 28 2 false .nilFunc .nilFunc (fv 54) (by kernel_rfl) q nv L St ds w hs find_exch hk (by decide)
theorem cs_ifelse (q : Nat) (nv : Value) (L St ds : List Int) (w : World) (hs : Sk w q nv L St ds) (hk : L.length < 4) : Calls Try.prog 14 #[.pointer (some ⟨q, 0, none⟩), .int .i64 22] w (Did q nv w 170 L St ds) :=
  do_short 22 4 false .nilFunc .nilFunc (fv 55) (by kernel_rfl) q nv L St ds w hs find_ifelse hk (by decide)
theorem cs_index (q : Nat) (nv : Value) (L St ds : List Int) (w : World) (hs : Sk w q nv L St ds) (hk : L.length < 1) : Calls Try.prog 14 #[.pointer (some ⟨q, 0, none⟩), .int .i64 29] w (Did q nv w 170 L St ds) :=
  do_short 29 1 false .nilFunc .nilFunc (fv 56) (by kernel_rfl) q nv L St ds w hs find_index hk (by decide)
theorem cs_roll (q : Nat) (nv : Value) (L St ds : List Int) (w : World) (hs : Sk w q nv L St ds) (hk : L.length < 2) : Calls Try.prog 14 #[.pointer (some ⟨q, 0, none⟩), .int .i64 30] w (Did q nv w 170 L St ds) :=
  do_short 30 2 false .nilFunc .nilFunc (fv 57) (by kernel_rfl) q nv L St ds w hs find_roll hk (by decide)
theorem cs_put (q : Nat) (nv : Value) (L St ds : List Int) (w : World) (hs : Sk w q nv L St ds) (hk : L.length < 2) : Calls Try.prog 14 #[.pointer (some ⟨q, 0, none⟩), .int .i64 20] w (Did q nv w 170 L St ds) :=
  do_short 20 2 false .nilFunc .nilFunc (fv 58) (by kernel_rfl) q nv L St ds w hs find_put hk (by decide)
theorem cs_get (q : Nat) (nv : Value) (L St ds : List Int) (w : World) (hs : Sk w q nv L St ds) (hk : L.length < 1) : Calls Try.prog 14 #[.pointer (some ⟨q, 0, none⟩), .int .i64 21] w (Did q nv w 170 L St ds) :=
  do_short 21 1 false .nilFunc .nilFunc (fv 59) (by kernel_rfl) q nv L St ds w hs find_get hk (by decide)
theorem cf_random (q : Nat) (nv : Value) (L St ds : List Int) (w : World) (hs : Sk w q nv L St ds) (h48 : L.length = 48) : Calls Try.prog 14 #[.pointer (some ⟨q, 0, none⟩), .int .i64 23] w (Did q nv w 170 L St ds) :=
  do_full 23 0 true .nilFunc .nilFunc (fv 60) (by kernel_rfl) q nv L St ds w hs find_random (by decide) rfl h48
/-- Is it one of the operators? -/
def isOpB (op : Int) : Bool := OPS.any fun r => r.op == op
theorem cn_none (op : Int) (q : Nat) (nv : Value) (L St ds : List Int) (w : World) (hs : Sk w q nv L St ds) (h : isOpB op = false) : Calls Try.prog 14 #[.pointer (some ⟨q, 0, none⟩), .int .i64 op] w (Did q nv w 1 L St ds) :=
  do_none op q nv L St ds w hs (fun W => find_no op (idxP_none h) W)
end Go.Proofs.Ytkhafhdmcalhbaa

namespace Go.Proofs.Ytkhafhdmcalhbaa
open Go Go.RowKit
set_option linter.unusedVariables false
set_option linter.unusedSimpArgs false
set_option maxRecDepth 100000 in
set_option maxHeartbeats 2000000 in
theorem sameInts_eq (n B : Nat) (A A2 : Option Addr) (c c2 : Nat) (L : List Int) (w : World) (hB : B ≤ w.heap.size) (hL : Lists w B A (intCells L)) (hL2 : Lists w B A2 (intCells L)) (hnn : L.length = n) (hn : n ≤ 1099511627776) :
    Calls Try.prog 18 #[.slice A n c, .slice A2 n c2] w fun e w' => e = .returned (.bool true) ∧ Below w.heap.size w w' := by
  have HL := Lib.hid hL
  have HL2 := Lib.hid hL2
  have HN := Lib.hid hnn
  clear hL hL2 hnn
  go_enter Try.func18, Try.ntmps18
  go_wp2
  go_loopw [5] (fun i wr => ∃ k : Nat, k ≤ n ∧ i = .int .i64 k ∧ Below w.heap.size w wr) (fun i _ => n - (intOf i).toNat)
  case atStart => exact ⟨0, Nat.zero_le _, rfl, Below.refl _ _⟩
  case round =>
    obtain ⟨k, hk, rfl, hbe⟩ := hrel
    by_cases hlt : k < n
    · have d1 : decide ((k : Int) < (n : Int)) = true := by simp; omega
      obtain ⟨y, hy⟩ : ∃ y, L[k]? = some y := ⟨L[k]'(by rw [HN.out]; exact hlt), List.getElem?_eq_getElem _⟩
      have hne : intCells L ≠ [] := by intro e; have h2 := congrArg List.length e; rw [intCells_len, HN.out] at h2; simp at h2; omega
      obtain ⟨b, o, rfl, hb, hc⟩ := HL.out.plain hne
      obtain ⟨b2, o2, rfl, hb2, hc2⟩ := HL2.out.plain hne
      have hy2 : (intCells L)[k]? = some (.int .i64 y) := by unfold intCells; rw [List.getElem?_map, hy]; rfl
      have HC := Lib.hid (show ∀ V, Below w.heap.size w V → V.cell? ⟨b, o + k, none⟩ = some (.int .i64 y) ∧ V.cell? ⟨b2, o2 + k, none⟩ = some (.int .i64 y) from fun V hV => ⟨(hV.cell (p := ⟨b, o + k, none⟩) (Nat.lt_of_lt_of_le hb hB)).trans (hc k _ hy2), (hV.cell (p := ⟨b2, o2 + k, none⟩) (Nat.lt_of_lt_of_le hb2 hB)).trans (hc2 k _ hy2)⟩)
      have n3 : (k : Int) < (n : Int) := by omega
      have hI : Below w.heap.size w wr.drew := hbe.drew
      clear hc hc2 hy hy2 hne
      go_wp2
      refine wp_region_chain (fun V => Below w.heap.size w V) [(0, false), (1, false), (2, false), (3, false), (4, false), (5, false), (6, false), (7, false), (8, false)] (by kernel_rfl) (by kernel_rfl) (hI) ?_
      repeat (first
        | (refine ChainL.skip (o := ?_) ?_ ?_ ?_; rotate_left; (focus (first | (simp only [List.getElem?_toArray, List.getElem?_cons_succ, List.getElem?_cons_zero]; with_reducible rfl) | (simp only [List.getElem?_toArray, List.getElem?_cons_zero]; with_reducible rfl))); (focus rfl); simp only [Act.put, List.setIfInBounds_toArray, List.set_cons_zero, List.set_cons_succ])
        | (refine ChainL.val (o := ?_) (v := ?_) ?_ ?_ ?_ ?_ ?_; rotate_left 2; (focus (first | (simp only [List.getElem?_toArray, List.getElem?_cons_succ, List.getElem?_cons_zero]; with_reducible rfl) | (simp only [List.getElem?_toArray, List.getElem?_cons_zero]; with_reducible rfl))); (focus (intro _ _ h; cases h)); (focus rfl); (focus (intro w' hI; obtain ⟨y1, y2⟩ := HC.out _ hI; go_simp <;> with_reducible rfl)); simp only [Act.put, List.setIfInBounds_toArray, List.set_cons_zero, List.set_cons_succ]))
      refine ChainL.nil ?_
      go_wp2
      go_roundw
      case rel => exact ⟨k + 1, by omega, by go_num, hI⟩
      case measure => simp [intOf]; omega
    · obtain rfl : k = n := by omega
      have d1 : decide ((k : Int) < (k : Int)) = false := by simp
      go_wp2
      go_ret
      exact ⟨rfl, hbe⟩
end Go.Proofs.Ytkhafhdmcalhbaa

namespace Go.Proofs.Ytkhafhdmcalhbaa
open Go Go.RowKit
set_option linter.unusedVariables false
set_option linter.unusedSimpArgs false
set_option maxRecDepth 100000 in
set_option maxHeartbeats 1000000 in
theorem isop_yes (op : Int) (r : OpR) (hone : (opL r).toArray.all (·.oneCell') = true) (hf : ∀ W, Calls Try.prog 26 #[.int .i64 op] W fun e w' => e = .returned (.tuple #[.agg (opL r).toArray, .bool true]) ∧ Below W.heap.size W w') (w : World) : Calls Try.prog 16 #[.int .i64 op] w fun e w' => e = .returned (.bool true) ∧ Below w.heap.size w w' := by
  go_enter Try.func16, Try.ntmps16
  go_wp2_with (first | (go_at_call 26; ((with_reducible refine (hf _).mono ?_); rintro e w1 ⟨rfl, b1⟩)) | (refine wpList_store_fresh rfl 53 (.tmp 3) (.tmp 8) (by rfl) (opL r).toArray _ _ (by rfl) (by rfl) (by kernel_rfl) (by kernel_rfl) (hone) ?_; intro W2 k2 b2 z2; have b12 : Below w.heap.size w W2 := b1.trans (b2.mono b1.size)))
  go_ret
  exact ⟨rfl, b12⟩
set_option maxRecDepth 100000 in
set_option maxHeartbeats 1000000 in
theorem isop_no (op : Int) (h : isOpB op = false) (w : World) : Calls Try.prog 16 #[.int .i64 op] w fun e w' => e = .returned (.bool false) ∧ Below w.heap.size w w' := by
  have hf := fun W => find_no op (idxP_none h) W
  clear h
  go_enter Try.func16, Try.ntmps16
  go_wp2_with (first | (go_at_call 26; ((with_reducible refine (hf _).mono ?_); rintro e w1 ⟨rfl, b1⟩)) | (refine wpList_store_fresh rfl 53 (.tmp 3) (.tmp 8) (by rfl) (opL zOp).toArray _ _ (by rfl) (by rfl) (by kernel_rfl) (by kernel_rfl) (by kernel_rfl) ?_; intro W2 k2 b2 z2; have b12 : Below w.heap.size w W2 := b1.trans (b2.mono b1.size)))
  go_ret
  exact ⟨rfl, b12⟩
theorem take_may {L : List Int} {k : Nat} {x : Int} (hx : L[k]? = some x) (hm : ∀ x ∈ L, mayB x = true) (h48 : L.length ≤ 48) : pushE (L.take k) x = 0 ∧ pushL (L.take k) x = L.take (k + 1) := by
  have h1 := hm x (List.mem_of_getElem? hx)
  have h2 := (List.getElem?_eq_some_iff.1 hx).1
  have h3 : ¬ (L.take k).length = 48 := by rw [List.length_take]; omega
  refine ⟨by unfold pushE; rw [if_pos h1, if_neg h3], ?_⟩
  unfold pushL
  rw [if_pos h1, if_neg h3, List.take_add_one, hx]
  rfl
set_option maxRecDepth 100000 in
set_option maxHeartbeats 2000000 in
theorem of_any (B : Nat) (A : Option Addr) (c : Nat) (L : List Int) (w : World) (hB : B ≤ w.heap.size) (hL : Lists w B A (intCells L)) (hm : ∀ x ∈ L, mayB x = true) (h48 : L.length ≤ 48) :
    Calls Try.prog 23 #[.slice none 0 0, .slice A L.length c] w fun e w' => ∃ q nv, e = .returned (.pointer (some ⟨q, 0, none⟩)) ∧ Sk w' q nv L (List.replicate 32 0) [] ∧ Below w.heap.size w w' ∧ w.heap.size ≤ q := by
  have CN := new_any w.heap.size none 0 [] w (Nat.le_refl _) (Lists.empty _ _ _) (by simp)
  rw [List.length_nil] at CN
  have HL := Lib.hid (hL.more hB)
  have HM := Lib.hid hm
  have H48 := Lib.hid h48
  obtain ⟨n, hn⟩ : ∃ n, n = L.length := ⟨_, rfl⟩
  rw [← hn]
  have HN := Lib.hid hn
  have hn48 : n ≤ 48 := by omega
  clear hL hm h48 hn hB
  go_enter Try.func23, Try.ntmps23
  go_wp2_with (go_at_call 8; ((with_reducible refine (CN).mono ?_); rintro e w1 ⟨q, rfl, hs, b1, hq⟩))
  have HS := Lib.hid hs
  clear hs
  go_loopw [6] (fun iv wr => ∃ (k : Nat) (nv : Value), k ≤ n ∧ iv = .int .i64 (k : Nat) ∧ Hid (Sk wr q nv (L.take k) (List.replicate 32 0) []) ∧ Hid (Below w.heap.size w wr)) (fun iv _ => n - (intOf iv).toNat)
  case atStart => exact ⟨0, _, Nat.zero_le _, rfl, by rw [List.take_zero]; exact HS, Lib.hid b1⟩
  case round =>
    obtain ⟨k, nv, hk, rfl, HK, HB⟩ := hrel
    by_cases hlt : k < n
    · have q1 : decide ((k : Int) < (n : Int)) = true := by simp; omega
      obtain ⟨x, hx⟩ : ∃ x, L[k]? = some x := ⟨L[k]'(by rw [← HN.out]; exact hlt), List.getElem?_eq_getElem _⟩
      have hne : intCells L ≠ [] := by intro e; have h1 := congrArg List.length e; rw [intCells_len, ← HN.out] at h1; simp at h1; omega
      obtain ⟨b5, o5, hA, hb5, hc5⟩ := (HL.out.below HB.out).plain hne
      subst hA
      have yk := hc5 k (.int .i64 x) (by simp [intCells, hx])
      have CP := push_any q nv (L.take k) (List.replicate 32 0) [] x wr HK.out
      obtain ⟨t1, t2⟩ := take_may hx HM.out H48.out
      rw [t1, t2] at CP
      have hown := HK.out.own
      have hlt2 := HK.out.lt
      clear hc5 hne hx t1 t2
      go_wp2_with (go_at_call 10; ((with_reducible refine (CP).mono ?_); rintro e w2 ⟨rfl, nv2, hs2, hm2⟩))
      have b2 := HB.out.trans (hm2.to_below hown hq hlt2)
      have HS2 := Lib.hid hs2
      have HB2 := Lib.hid b2
      clear hs2 hm2 b2 hown
      go_roundw
      case rel => exact ⟨k + 1, nv2, by omega, by go_num, HS2, HB2⟩
      case measure => simp [intOf]; omega
    · obtain rfl : k = n := by omega
      have q1 : decide ((k : Int) < (k : Int)) = false := by simp
      have h1 := HK.out
      rw [List.take_of_length_le (by have := HN.out; omega)] at h1
      have HK2 := Lib.hid h1
      clear h1
      go_wp2
      go_ret
      exact ⟨q, nv, rfl, HK2.out, HB.out, hq⟩
theorem lv_roll (q : Nat) (W : World) (nv : Value) (hs : Sk W q nv [65536, 131072, 196608, 196608, 65536] (List.replicate 32 0) []) : Calls Try.prog 14 #[.pointer (some ⟨q, 0, none⟩), .int .i64 30] W (Did q nv W 0 [196608, 65536, 131072] (List.replicate 32 0) []) := by
  have h := cd_roll q nv [] (List.replicate 32 0) [] 196608 65536 [65536, 131072, 196608] W hs (by decide)
  rwa [show ([] ++ rot [65536, 131072, 196608] (65536 / 65536) : List Int) = [196608, 65536, 131072] by decide] at h
theorem lv_none (q : Nat) (W : World) (nv : Value) (hs : Sk W q nv [196608, 65536, 131072] (List.replicate 32 0) []) : Calls Try.prog 14 #[.pointer (some ⟨q, 0, none⟩), .int .i64 99] W (Did q nv W 1 [196608, 65536, 131072] (List.replicate 32 0) []) := by
  have h := cn_none 99 q nv [196608, 65536, 131072] (List.replicate 32 0) [] W hs (by kernel_rfl)
  exact h
theorem lv_add (q : Nat) (W : World) (nv : Value) (hs : Sk W q nv [196608, 65536, 131072] (List.replicate 32 0) []) : Calls Try.prog 14 #[.pointer (some ⟨q, 0, none⟩), .int .i64 10] W (Did q nv W 0 [196608, 196608] (List.replicate 32 0) []) := by
  have h := cd_add_ok q nv [196608] (List.replicate 32 0) [] 65536 131072 W hs (by decide)
  rwa [show ([196608] ++ [outR (65536 + 131072)] : List Int) = [196608, 196608] by decide] at h
theorem lv_mul (q : Nat) (W : World) (nv : Value) (hs : Sk W q nv [196608, 196608] (List.replicate 32 0) []) : Calls Try.prog 14 #[.pointer (some ⟨q, 0, none⟩), .int .i64 24] W (Did q nv W 0 [589824] (List.replicate 32 0) []) := by
  have h := cd_mul_ok q nv [] (List.replicate 32 0) [] 196608 196608 W hs (by decide)
  rwa [show ([] ++ [mdR 196608 196608 65536] : List Int) = [589824] by decide] at h
theorem lv_short (q : Nat) (W : World) (nv : Value) (hs : Sk W q nv [589824] (List.replicate 32 0) []) : Calls Try.prog 14 #[.pointer (some ⟨q, 0, none⟩), .int .i64 10] W (Did q nv W 170 [589824] (List.replicate 32 0) []) := by
  have h := cs_add q nv [589824] (List.replicate 32 0) [] W hs (by decide)
  exact h
theorem sameInts_lists (A A2 : Option Addr) (n c c2 : Nat) (L : List Int) (w : World) (hL : Lists w w.heap.size A (intCells L)) (hL2 : Lists w w.heap.size A2 (intCells L)) (hnn : L.length = n) (hn : n ≤ 1099511627776) :
    Calls Try.prog 18 #[.slice A n c, .slice A2 n c2] w fun e w' => e = .returned (.bool true) ∧ Below w.heap.size w w' := sameInts_eq n w.heap.size A A2 c c2 L w (Nat.le_refl _) hL hL2 hnn hn
set_option maxRecDepth 100000 in
set_option maxHeartbeats 4000000 in
theorem lives17 (w : World) : Calls Try.prog 9 #[] w fun e w' => e = .returned (.bool true) ∧ Below w.heap.size w w' := by
  have CO := of_any (w.heap.size + 1) (some ⟨w.heap.size, 0, none⟩) 5 [65536, 131072, 196608, 196608, 65536] (w.alloc (.cells #[.int .i64 65536, .int .i64 131072, .int .i64 196608, .int .i64 196608, .int .i64 65536] 3)) (by simp) (lists_row w [.int .i64 65536, .int .i64 131072, .int .i64 196608, .int .i64 196608, .int .i64 65536] 3) (by decide) (by decide)
  rw [show [65536, 131072, 196608, 196608, (65536 : Int)].length = 5 from rfl] at CO
  have b0 : Below w.heap.size w (w.alloc (.cells #[.int .i64 65536, .int .i64 131072, .int .i64 196608, .int .i64 196608, .int .i64 65536] 3)) := (Below.refl _ _).alloc (Nat.le_refl _) _
  have n1 : pushE [] 1099511627776 = 10 := by decide
  go_enter Try.func9, Try.ntmps9
  go_wp2_with (first
    | (go_at_call 23; ((with_reducible refine (CO).mono ?_); rintro e w1 ⟨q, nv, rfl, hs, b1, hq1⟩); have hb := b0.trans (b1.mono b0.size); have hq := Nat.le_trans b0.size hq1)
    | (go_at_call 14; (with_reducible refine (lv_roll _ _ _ hs).mono ?_); rintro e w2 ⟨rfl, nv2, hs2, hm2⟩; have hb := hb.trans (hm2.to_below hs.own hq hs.lt); have hs := hs2) | (go_at_call 14; (with_reducible refine (lv_none _ _ _ hs).mono ?_); rintro e w2 ⟨rfl, nv2, hs2, hm2⟩; have hb := hb.trans (hm2.to_below hs.own hq hs.lt); have hs := hs2) | (go_at_call 14; (with_reducible refine (lv_add _ _ _ hs).mono ?_); rintro e w2 ⟨rfl, nv2, hs2, hm2⟩; have hb := hb.trans (hm2.to_below hs.own hq hs.lt); have hs := hs2) | (go_at_call 14; (with_reducible refine (lv_mul _ _ _ hs).mono ?_); rintro e w2 ⟨rfl, nv2, hs2, hm2⟩; have hb := hb.trans (hm2.to_below hs.own hq hs.lt); have hs := hs2) | (go_at_call 14; (with_reducible refine (lv_short _ _ _ hs).mono ?_); rintro e w2 ⟨rfl, nv2, hs2, hm2⟩; have hb := hb.trans (hm2.to_below hs.own hq hs.lt); have hs := hs2)
    | (go_at_call 20; ((with_reducible refine (all_any q _ [196608, 65536, 131072] _ _ _ hs).mono ?_); rintro e w3 ⟨va, rfl, owna, ba⟩); obtain ⟨Aa, ca, rfl, hla, hca⟩ := own_lists owna; have hs := hs.below ba; have hb := hb.trans (ba.mono hb.size))
    | (go_at_call 18; ((with_reducible refine (sameInts_lists Aa _ 3 ca _ [196608, 65536, 131072] _ (hla.below ((Below.refl _ _).alloc (Nat.le_refl _) _) |>.more (by simp)) ((lists_row w3 [.int .i64 196608, .int .i64 65536, .int .i64 131072] 3).more (by simp)) rfl (by decide)).mono ?_); rintro e w4 ⟨rfl, b4⟩); have hs := (hs.below ((Below.refl _ _).alloc (Nat.le_refl _) _)).below b4; have hb := (hb.alloc hb.size _).trans (b4.mono (hb.alloc hb.size _).size))
    | (go_at_call 12; ((with_reducible refine (pop_any q _ [] _ _ 589824 _ hs).mono ?_); rintro e w5 ⟨rfl, nv5, hs5, hm5⟩); have hb := hb.trans (hm5.to_below hs.own hq hs.lt); have hs := hs5)
    | (go_at_call 12; ((with_reducible refine (pop_nil q _ _ _ _ hs).mono ?_); rintro e w6 ⟨rfl, rfl⟩))
    | (go_at_call 21; ((with_reducible refine (len_any q _ [] _ _ _ hs).mono ?_); rintro e w7 ⟨rfl, rfl⟩))
    | (go_at_call 10; ((with_reducible refine (push_any q _ [] _ _ 1099511627776 _ hs).mono ?_); rintro e w8 ⟨rfl, nv8, hs8, hm8⟩); have hb := hb.trans (hm8.to_below hs.own hq hs.lt))
    | (go_at_call 16; ((with_reducible refine (isop_yes 27 _ (by kernel_rfl) find_dup _).mono ?_); rintro e w9 ⟨rfl, b9⟩); have hb := hb.trans (b9.mono hb.size))
    | (go_at_call 16; ((with_reducible refine (isop_no 13 (by kernel_rfl) _).mono ?_); rintro e w9 ⟨rfl, b9⟩); have hb := hb.trans (b9.mono hb.size)))
  go_ret
  exact ⟨rfl, hb⟩
end Go.Proofs.Ytkhafhdmcalhbaa

namespace Go.Proofs.Ytkhafhdmcalhbaa
open Go.RowKit

theorem rout_any (x : Int) (w : World) :
    Calls Try.prog 61 #[.int .i64 x] w fun e w' => e = .returned (.tuple #[.int .i64 (outR x), .int .i64 (outE x)]) ∧ w = w' := by
  by_cases h : mayB x = true
  · have D : ∀ w, Calls Try.prog 22 #[.int .i64 x] w fun e w' => e = .returned (.bool true) ∧ w = w' := fun w => by have := may_ref x w; rwa [h] at this
    rw [show outR x = x by simp [outR, h], show outE x = 0 by simp [outE, h]]
    clear h
    go_enter Try.func61, Try.ntmps61
    go_wp2_with (go_at_call 22; refine (D _).mono ?_; rintro e w' ⟨rfl, rfl⟩)
    go_ret2
    exact ⟨rfl, rfl⟩
  · have h : mayB x = false := by simpa using h
    have D : ∀ w, Calls Try.prog 22 #[.int .i64 x] w fun e w' => e = .returned (.bool false) ∧ w = w' := fun w => by have := may_ref x w; rwa [h] at this
    rw [show outR x = 0 by simp [outR, h], show outE x = 10 by simp [outE, h]]
    clear h
    go_enter Try.func61, Try.ntmps61
    go_wp2_with (go_at_call 22; refine (D _).mono ?_; rintro e w' ⟨rfl, rfl⟩)
    go_ret2
    exact ⟨rfl, rfl⟩

theorem radd_no (a b : Int) (w : World) (h : (mayB a && mayB b) = false) :
    Calls Try.prog 36 #[.int .i64 a, .int .i64 b] w fun e w' => e = .returned (.tuple #[.int .i64 0, .int .i64 10]) ∧ w = w' := by
  have D := fun w => may_ref a w
  have E := fun w => may_ref b w
  by_cases ha : mayB a = true
  · have hb : mayB b = false := by simpa [ha] using h
    rw [ha] at D
    rw [hb] at E
    clear h ha hb
    go_enter Try.func36, Try.ntmps36
    go_wp2_with (first | (go_at_call 22; ((with_reducible refine (D _).mono ?_); rintro e w' ⟨rfl, rfl⟩)) | (go_at_call 22; ((with_reducible refine (E _).mono ?_); rintro e w' ⟨rfl, rfl⟩)))
    go_ret2
    exact ⟨rfl, rfl⟩
  · have ha : mayB a = false := by simpa using ha
    rw [ha] at D
    clear h ha
    go_enter Try.func36, Try.ntmps36
    go_wp2_with (go_at_call 22; refine (D _).mono ?_; rintro e w' ⟨rfl, rfl⟩)
    go_ret2
    exact ⟨rfl, rfl⟩

theorem radd_yes (a b : Int) (w : World) (h : (mayB a && mayB b) = true) :
    Calls Try.prog 36 #[.int .i64 a, .int .i64 b] w fun e w' => e = .returned (.tuple #[.int .i64 (outR (a + b)), .int .i64 (outE (a + b))]) ∧ w = w' := by
  have D := fun w => may_ref a w
  have E := fun w => may_ref b w
  rw [Bool.and_eq_true] at h
  have a1 := mayB_lo h.1
  have a2 := mayB_hi h.1
  have b1 := mayB_lo h.2
  have b2 := mayB_hi h.2
  rw [h.1] at D
  rw [h.2] at E
  have O := fun w => rout_any (a + b) w
  clear h
  go_enter Try.func36, Try.ntmps36
  go_wp2_with (first | (go_at_call 22; ((with_reducible refine (D _).mono ?_); rintro e w' ⟨rfl, rfl⟩)) | (go_at_call 22; ((with_reducible refine (E _).mono ?_); rintro e w' ⟨rfl, rfl⟩)) | (go_at_call 61; refine (O _).mono ?_; rintro e w' ⟨rfl, rfl⟩))
  go_ret2
  exact ⟨rfl, rfl⟩

theorem rsub_no (a b : Int) (w : World) (h : (mayB a && mayB b) = false) :
    Calls Try.prog 37 #[.int .i64 a, .int .i64 b] w fun e w' => e = .returned (.tuple #[.int .i64 0, .int .i64 10]) ∧ w = w' := by
  have D := fun w => may_ref a w
  have E := fun w => may_ref b w
  by_cases ha : mayB a = true
  · have hb : mayB b = false := by simpa [ha] using h
    rw [ha] at D
    rw [hb] at E
    clear h ha hb
    go_enter Try.func37, Try.ntmps37
    go_wp2_with (first | (go_at_call 22; ((with_reducible refine (D _).mono ?_); rintro e w' ⟨rfl, rfl⟩)) | (go_at_call 22; ((with_reducible refine (E _).mono ?_); rintro e w' ⟨rfl, rfl⟩)))
    go_ret2
    exact ⟨rfl, rfl⟩
  · have ha : mayB a = false := by simpa using ha
    rw [ha] at D
    clear h ha
    go_enter Try.func37, Try.ntmps37
    go_wp2_with (go_at_call 22; refine (D _).mono ?_; rintro e w' ⟨rfl, rfl⟩)
    go_ret2
    exact ⟨rfl, rfl⟩

theorem rsub_yes (a b : Int) (w : World) (h : (mayB a && mayB b) = true) :
    Calls Try.prog 37 #[.int .i64 a, .int .i64 b] w fun e w' => e = .returned (.tuple #[.int .i64 (outR (a - b)), .int .i64 (outE (a - b))]) ∧ w = w' := by
  have D := fun w => may_ref a w
  have E := fun w => may_ref b w
  rw [Bool.and_eq_true] at h
  have a1 := mayB_lo h.1
  have a2 := mayB_hi h.1
  have b1 := mayB_lo h.2
  have b2 := mayB_hi h.2
  rw [h.1] at D
  rw [h.2] at E
  have O := fun w => rout_any (a - b) w
  clear h
  go_enter Try.func37, Try.ntmps37
  go_wp2_with (first | (go_at_call 22; ((with_reducible refine (D _).mono ?_); rintro e w' ⟨rfl, rfl⟩)) | (go_at_call 22; ((with_reducible refine (E _).mono ?_); rintro e w' ⟨rfl, rfl⟩)) | (go_at_call 61; refine (O _).mono ?_; rintro e w' ⟨rfl, rfl⟩))
  go_ret2
  exact ⟨rfl, rfl⟩

theorem rnear_any (a b c : Int) (w : World) (p1 : -4611686018427387904 ≤ a * b) (p2 : a * b ≤ 4611686018427387904) (hc : c ≠ 0) (c1 : -4611686018427387904 ≤ c) (c2 : c ≤ 4611686018427387904) :
    Calls Try.prog 62 #[.int .i64 a, .int .i64 b, .int .i64 c] w fun e w' => e = .returned (.int .i64 (near (a * b) c)) ∧ w = w' := by
  obtain ⟨d, hd⟩ : ∃ d : Int, d = if c < 0 then -c else c := ⟨_, rfl⟩
  have d0 : 0 < d := by rw [hd]; split <;> omega
  have d1 : d ≤ 4611686018427387904 := by rw [hd]; split <;> omega
  obtain ⟨P, hP⟩ : ∃ P : Int, P = a * b := ⟨_, rfl⟩
  have hPd : P / d * d = P - P % d := by have := Int.ediv_mul_add_emod P d; omega
  have r0 : 0 ≤ P % d := Int.emod_nonneg P (by omega)
  have r1 : P % d < d := Int.emod_lt_of_pos P d0
  have q1 : P / d ≤ 4611686018427387904 := by
    rcases Int.lt_or_le P 0 with h | h
    · have := Int.ediv_neg_of_neg_of_pos h d0; omega
    · have := Int.ediv_le_self d h; omega
  have q2 : -4611686018427387904 ≤ P / d := by
    rcases Int.lt_or_le P 0 with h | h
    · have : P ≤ P / d := Int.le_ediv_of_mul_le d0 (by have := Int.mul_le_mul_of_nonpos_left (a := P) (b := d) (c := 1) (by omega) (by omega); omega)
      omega
    · have := Int.ediv_nonneg h (Int.le_of_lt d0); omega
  have F := fun w => floor_ref P d w d0 (by omega) (by omega)
  have hdP : d * (P / d) = P - P % d := by rw [Int.mul_comm]; exact hPd
  have hR : P - P / d * d = P % d := by omega
  by_cases hneg : c < 0
  · rw [if_pos hneg] at hd
    have e1 : P % d = 0 → near P c = -(P / d) := fun h => by
      apply near_neg hneg <;> (rw [show c = -d by omega]; simp only [Int.neg_mul, Int.mul_neg] ; omega)
    have e2 : 0 < P % d → near P c = -(P / d) - 1 + if d ≤ 2 * (d - P % d) then 1 else 0 := fun h => by
      apply near_neg hneg <;> (rw [show c = -d by omega]; split <;> simp only [Int.neg_mul, Int.mul_neg, Int.mul_add, Int.mul_one, Int.add_zero, Int.sub_eq_add_neg] <;> omega)
    have e3 : -c = d := hd.symm
    clear hd hdP
    rw [← hP] at p1 p2 ⊢
    rw [← hR] at e1 e2 r0 r1
    have hPm : a * b = P := hP.symm
    have s1 : -9223372036854775808 ≤ P / d * d := by omega
    have s2 : P / d * d ≤ 9223372036854775807 := by omega
    clear hR hPd hP
    generalize near P c = z at e1 e2 ⊢
    generalize P / d = Q at *
    by_cases h1 : P - Q * d = 0
    · have E1 : Hid (z = -Q) := e1 h1
      have h1' : (P - Q * d == 0) = true := by simpa using h1
      clear e1 e2 h1
      go_enter Try.func62, Try.ntmps62
      go_wp2_with (go_at_call 30; refine (F _).mono ?_; rintro e w' ⟨rfl, rfl⟩)
      go_ret
      exact ⟨ret_int E1.out.symm, rfl⟩
    · have r2 : 1 ≤ P - Q * d := by omega
      have h2 := e2 (by omega)
      have h1' : (P - Q * d == 0) = false := by simpa using h1
      clear e1 e2 h1
      by_cases h3 : d ≤ 2 * (d - (P - Q * d))
      · rw [if_pos h3] at h2
        have E1 : Hid (z = -Q) := (by omega : z = -Q)
        clear h2
        go_enter Try.func62, Try.ntmps62
        go_wp2_with (go_at_call 30; refine (F _).mono ?_; rintro e w' ⟨rfl, rfl⟩)
        go_ret
        exact ⟨ret_int E1.out.symm, rfl⟩
      · rw [if_neg h3, Int.add_zero] at h2
        have E1 : Hid (z = -Q - 1) := h2
        clear h2
        go_enter Try.func62, Try.ntmps62
        go_wp2_with (go_at_call 30; refine (F _).mono ?_; rintro e w' ⟨rfl, rfl⟩)
        go_ret
        exact ⟨ret_int E1.out.symm, rfl⟩
  · rw [if_neg hneg] at hd
    have e1 : near P c = P / d + if d ≤ 2 * (P % d) then 1 else 0 := by
      apply near_pos (by omega) <;> (rw [← hd]; split <;> simp only [Int.mul_add, Int.mul_one, Int.add_zero] <;> omega)
    clear hdP
    rw [← hP] at p1 p2 ⊢
    rw [← hR] at e1 r0 r1
    have hPm : a * b = P := hP.symm
    have s1 : -9223372036854775808 ≤ P / d * d := by omega
    have s2 : P / d * d ≤ 9223372036854775807 := by omega
    clear hR hPd hP
    generalize near P c = z at e1 ⊢
    obtain rfl : d = c := hd
    generalize P / d = Q at *
    by_cases h3 : d ≤ 2 * (P - Q * d)
    · rw [if_pos h3] at e1
      have E1 : Hid (z = Q + 1) := e1
      clear e1
      go_enter Try.func62, Try.ntmps62
      go_wp2_with (go_at_call 30; refine (F _).mono ?_; rintro e w' ⟨rfl, rfl⟩)
      go_ret
      exact ⟨ret_int E1.out.symm, rfl⟩
    · rw [if_neg h3, Int.add_zero] at e1
      have E1 : Hid (z = Q) := e1
      clear e1
      go_enter Try.func62, Try.ntmps62
      go_wp2_with (go_at_call 30; refine (F _).mono ?_; rintro e w' ⟨rfl, rfl⟩)
      go_ret
      exact ⟨ret_int E1.out.symm, rfl⟩

end Go.Proofs.Ytkhafhdmcalhbaa

namespace Go.Proofs.Ytkhafhdmcalhbaa
open Go.RowKit

theorem mayP {a b : Int} (h : (mayB a && mayB b) = true) : -4611686018427387904 ≤ a * b ∧ a * b ≤ 4611686018427387904 := by
  rw [Bool.and_eq_true] at h
  exact mul_bound 2147483648 2147483648 (mayB_lo h.1) (mayB_hi h.1) (mayB_lo h.2) (mayB_hi h.2)

theorem rmul_any (a b : Int) (w : World) :
    Calls Try.prog 38 #[.int .i64 a, .int .i64 b] w fun e w' => e = .returned (.tuple #[.int .i64 (mdR a b 65536), .int .i64 (mdE a b 65536)]) ∧ w = w' := by
  have D := fun w => may_ref a w
  have E := fun w => may_ref b w
  have hz : mayB 65536 = true := by decide
  by_cases h : (mayB a && mayB b) = true
  · have hp := mayP h
    have N := fun w => rnear_any a b 65536 w hp.1 hp.2 (by omega) (by omega) (by omega)
    have O := fun w => rout_any (near (a * b) 65536) w
    rw [show mdR a b 65536 = outR (near (a * b) 65536) by unfold mdR; rw [hz, Bool.and_true, if_pos h, if_neg (by omega)], show mdE a b 65536 = outE (near (a * b) 65536) by unfold mdE; rw [hz, Bool.and_true, if_pos h, if_neg (by omega)]]
    rw [Bool.and_eq_true] at h
    rw [h.1] at D
    rw [h.2] at E
    generalize near (a * b) 65536 = z at *
    clear h hp hz
    go_enter Try.func38, Try.ntmps38
    go_wp2_with (first | (go_at_call 22; ((with_reducible refine (D _).mono ?_); rintro e w' ⟨rfl, rfl⟩)) | (go_at_call 22; ((with_reducible refine (E _).mono ?_); rintro e w' ⟨rfl, rfl⟩)) | (go_at_call 62; refine (N _).mono ?_; rintro e w' ⟨rfl, rfl⟩) | (go_at_call 61; refine (O _).mono ?_; rintro e w' ⟨rfl, rfl⟩))
    go_ret2
    exact ⟨rfl, rfl⟩
  · have h : (mayB a && mayB b) = false := by simpa using h
    rw [show mdR a b 65536 = 0 by unfold mdR; rw [hz, Bool.and_true, h]; rfl, show mdE a b 65536 = 10 by unfold mdE; rw [hz, Bool.and_true, h]; rfl]
    by_cases ha : mayB a = true
    · have hb : mayB b = false := by simpa [ha] using h
      rw [ha] at D
      rw [hb] at E
      clear h ha hb hz
      go_enter Try.func38, Try.ntmps38
      go_wp2_with (first | (go_at_call 22; ((with_reducible refine (D _).mono ?_); rintro e w' ⟨rfl, rfl⟩)) | (go_at_call 22; ((with_reducible refine (E _).mono ?_); rintro e w' ⟨rfl, rfl⟩)))
      go_ret2
      exact ⟨rfl, rfl⟩
    · have ha : mayB a = false := by simpa using ha
      rw [ha] at D
      clear h ha hz
      go_enter Try.func38, Try.ntmps38
      go_wp2_with (go_at_call 22; refine (D _).mono ?_; rintro e w' ⟨rfl, rfl⟩)
      go_ret2
      exact ⟨rfl, rfl⟩

theorem rdiv_any (a b : Int) (w : World) :
    Calls Try.prog 39 #[.int .i64 a, .int .i64 b] w fun e w' => e = .returned (.tuple #[.int .i64 (mdR 65536 a b), .int .i64 (mdE 65536 a b)]) ∧ w = w' := by
  have D := fun w => may_ref a w
  have E := fun w => may_ref b w
  have hz : mayB 65536 = true := by decide
  by_cases h : (mayB a && mayB b) = true
  · by_cases hb : b = 0
    · subst hb
      rw [show mdR 65536 a 0 = 0 by unfold mdR; rw [hz, Bool.true_and, if_pos h, if_pos rfl], show mdE 65536 a 0 = 1 by unfold mdE; rw [hz, Bool.true_and, if_pos h, if_pos rfl]]
      rw [Bool.and_eq_true] at h
      rw [h.1] at D
      rw [h.2] at E
      clear h hz
      go_enter Try.func39, Try.ntmps39
      go_wp2_with (first | (go_at_call 22; ((with_reducible refine (D _).mono ?_); rintro e w' ⟨rfl, rfl⟩)) | (go_at_call 22; ((with_reducible refine (E _).mono ?_); rintro e w' ⟨rfl, rfl⟩)))
      go_ret2
      exact ⟨rfl, rfl⟩
    · have hb0 : (b == 0) = false := by simpa using hb
      rw [show mdR 65536 a b = outR (near (a * 65536) b) by unfold mdR; rw [hz, Bool.true_and, if_pos h, if_neg hb, Int.mul_comm], show mdE 65536 a b = outE (near (a * 65536) b) by unfold mdE; rw [hz, Bool.true_and, if_pos h, if_neg hb, Int.mul_comm]]
      rw [Bool.and_eq_true] at h
      have hp := mayP (a := a) (b := 65536) (by rw [h.1, hz]; rfl)
      have b1 := mayB_lo h.2
      have b2 := mayB_hi h.2
      have N := fun w => rnear_any a 65536 b w hp.1 hp.2 hb (by omega) (by omega)
      have O := fun w => rout_any (near (a * 65536) b) w
      rw [h.1] at D
      rw [h.2] at E
      generalize near (a * 65536) b = z at *
      clear h hp hz hb
      go_enter Try.func39, Try.ntmps39
      go_wp2_with (first | (go_at_call 22; ((with_reducible refine (D _).mono ?_); rintro e w' ⟨rfl, rfl⟩)) | (go_at_call 22; ((with_reducible refine (E _).mono ?_); rintro e w' ⟨rfl, rfl⟩)) | (go_at_call 62; refine (N _).mono ?_; rintro e w' ⟨rfl, rfl⟩) | (go_at_call 61; refine (O _).mono ?_; rintro e w' ⟨rfl, rfl⟩))
      go_ret2
      exact ⟨rfl, rfl⟩
  · have h : (mayB a && mayB b) = false := by simpa using h
    rw [show mdR 65536 a b = 0 by unfold mdR; rw [hz, Bool.true_and, h]; rfl, show mdE 65536 a b = 10 by unfold mdE; rw [hz, Bool.true_and, h]; rfl]
    by_cases ha : mayB a = true
    · have hb : mayB b = false := by simpa [ha] using h
      rw [ha] at D
      rw [hb] at E
      clear h ha hb hz
      go_enter Try.func39, Try.ntmps39
      go_wp2_with (first | (go_at_call 22; ((with_reducible refine (D _).mono ?_); rintro e w' ⟨rfl, rfl⟩)) | (go_at_call 22; ((with_reducible refine (E _).mono ?_); rintro e w' ⟨rfl, rfl⟩)))
      go_ret2
      exact ⟨rfl, rfl⟩
    · have ha : mayB a = false := by simpa using ha
      rw [ha] at D
      clear h ha hz
      go_enter Try.func39, Try.ntmps39
      go_wp2_with (go_at_call 22; refine (D _).mono ?_; rintro e w' ⟨rfl, rfl⟩)
      go_ret2
      exact ⟨rfl, rfl⟩

end Go.Proofs.Ytkhafhdmcalhbaa
