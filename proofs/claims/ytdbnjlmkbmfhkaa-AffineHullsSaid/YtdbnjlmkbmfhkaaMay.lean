/- allMay of packages fixed and affine: whether all numbers of a list may be. -/
import Derived.Test.YtdbnjlmkbmfhkaaFix1
namespace Go.Proofs.Ytdbnjlmkbmfhkaa
open Go.RowKit

theorem all_take_snoc (f : Int → Bool) (zs : List Int) (k : Nat) (h : k < zs.length) : (zs.take (k + 1)).all f = ((zs.take k).all f && f (zs.getD k 0)) := by
  rw [List.take_succ_eq_append_getElem h, List.all_append]; simp [List.getD, h]

theorem all_false_of_take (f : Int → Bool) (zs : List Int) (k : Nat) (h : (zs.take k).all f = false) : zs.all f = false := by
  have e := List.take_append_drop k zs
  rw [← e, List.all_append, h, Bool.false_and]

theorem allMay_affine (b off len cap : Nat) (zs : List Int) (w : World) (hl : len = zs.length) (hm : len ≤ 9223372036854775807)
    (hc : ∀ j, j < zs.length → w.cell? ⟨b, off + j, none⟩ = some (.int .i64 (zs.getD j 0))) :
    Calls Try.prog 42 #[.slice (some ⟨b, off, none⟩) len cap] w fun e w' => e = .returned (.bool (zs.all mayB)) ∧ w = w' := by
  have HL : Hid (len = zs.length) := hl
  have HC : Hid (∀ j, j < zs.length → w.cell? ⟨b, off + j, none⟩ = some (.int .i64 (zs.getD j 0))) := hc
  clear hl hc
  go_enter Try.func42, Try.ntmps42
  go_wp2
  go_loop [4, 7] (fun _ i => ∃ k : Nat, k ≤ len ∧ i = .int .i64 k ∧ (zs.take k).all mayB = true) (fun _ i => len - (intOf i).toNat)
  case atStart => exact ⟨0, Nat.zero_le _, rfl, rfl⟩
  case round =>
    obtain ⟨k, hk, rfl, hall⟩ := hrel
    have HA : Hid ((zs.take k).all mayB = true) := hall
    clear hall
    by_cases hlt : k < len
    · have hcell : w.cell? ⟨b, off + k, none⟩ = some (.int .i64 (zs.getD k 0)) := HC.out k (by have := HL.out; omega)
      have hts := Hid.out (p := _) (all_take_snoc mayB zs k (by have := HL.out; omega))
      generalize hz : zs.getD k 0 = z at hcell hts
      have HT : Hid ((zs.take (k + 1)).all mayB = ((zs.take k).all mayB && mayB z)) := hts
      clear hts hz
      by_cases hmz : mayB z = true
      · go_wp2_with (go_at_call 75; refine (may_any z _).mono ?_; rintro e w' ⟨rfl, rfl⟩)
        go_round
        case rel => exact ⟨k + 1, by omega, by go_num, by rw [HT.out, HA.out, hmz]; rfl⟩
        case measure => simp [intOf]; omega
      · have hmf : mayB z = false := by simpa using hmz
        clear hmz
        go_wp2_with (go_at_call 75; refine (may_any z _).mono ?_; rintro e w' ⟨rfl, rfl⟩)
        go_ret
        refine ⟨?_, rfl⟩
        have := all_false_of_take mayB zs (k + 1) (by rw [HT.out, hmf, Bool.and_false])
        rw [this]; rfl
    · go_wp2
      go_ret
      refine ⟨?_, rfl⟩
      have : zs.all mayB = true := by rw [← HA.out, List.take_of_length_le (by have := HL.out; omega)]
      rw [this]; rfl

theorem allMay_nil_affine (cap : Nat) (a : Option Addr) (w : World) :
    Calls Try.prog 42 #[.slice a 0 cap] w fun e w' => e = .returned (.bool true) ∧ w = w' := by
  go_enter Try.func42, Try.ntmps42
  go_wp2
  refine wp_loop_rounds 1 ?_
  rw [rounds_succ]
  go_wp2
  go_ret
  exact ⟨rfl, rfl⟩

end Go.Proofs.Ytdbnjlmkbmfhkaa
