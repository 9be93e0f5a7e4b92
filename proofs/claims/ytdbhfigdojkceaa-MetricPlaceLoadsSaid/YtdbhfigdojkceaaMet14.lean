/- The reference's tables, put. -/
import Derived.Test.YtdbhfigdojkceaaMet13
import Derived.Test.YtdbhfigdojkceaaRw2
namespace Go.Proofs.Ytdbhfigdojkceaa
open Go Go.RowKit

/-- A slice of these bytes was answered. -/
def GaveB (w : World) (L : List Value) (e : Ending) (w' : World) : Prop := ∃ A c, e = .returned (.slice A L.length c) ∧ Lists w' w'.heap.size A L ∧ L.length ≤ c ∧ Below w.heap.size w w'

set_option maxRecDepth 100000 in
set_option maxHeartbeats 1000000 in
theorem rmput_any (m : Nat) (B : Nat) (A : Option Addr) (c : Nat) (L : List (Int × Int)) (w : World) (hB : B ≤ w.heap.size) (hL : Lists w B A (metCells L)) (hn : L.length ≤ 65535) :
    Calls Try.prog 12 #[.slice A L.length c, .int .i64 (m : Nat)] w (GaveB w (putM L m)) := by
  have HF : ∀ W, Below w.heap.size w W → ∀ k x y, L[k]? = some (x, y) → ∃ b o, A = some ⟨b, o, none⟩ ∧ W.cell? ⟨b, o + k * 2, none⟩ = some (.int .i64 x) ∧ W.cell? ⟨b, o + k * 2 + 1, none⟩ = some (.int .i64 y) := fun W hb k x y hk => by
    obtain ⟨h1, h2⟩ := metCells_at L k x y hk
    obtain ⟨b, o, rfl, hbl, hcl⟩ := hL.plain (by intro e; rw [e] at h1; simp at h1)
    refine ⟨b, o, rfl, (hb.cell (p := ⟨b, o + k * 2, none⟩) (Nat.lt_of_lt_of_le hbl hB)).trans (hcl _ _ h1), ?_⟩
    have := (hb.cell (p := ⟨b, o + (k * 2 + 1), none⟩) (Nat.lt_of_lt_of_le hbl hB)).trans (hcl _ _ h2)
    rwa [← Nat.add_assoc] at this
  clear hL
  obtain ⟨n, hnn⟩ : ∃ n, n = L.length := ⟨_, rfl⟩
  rw [← hnn] at hn ⊢
  have HN := Lib.hid hnn
  clear hnn
  obtain ⟨i0, hi, hz0, hz1, hz2⟩ := info_parts u8Info
  go_enter Try.func12, Try.ntmps12
  go_wp2
  go_loopw [5, 6] (fun s i wr => ∃ j : Nat, j ≤ n ∧ i = .int .i64 j ∧ ∃ z : Nat, z ≤ 262144 ∧ Hid (z = posM m j) ∧ wr.ownsRow w.heap.size 5 1 s z (putM (L.take j) m) ∧ Below w.heap.size w wr) (fun _ i _ => n - (intOf i).toNat)
  case atStart => exact ⟨0, Nat.zero_le _, rfl, 0, by omega, Lib.hid (by simp [posM]), ⟨rfl, .inl ⟨rfl, rfl⟩⟩, Below.refl _ _⟩
  case round =>
    obtain ⟨j, hj, rfl, z, hz, HZ, hown, wr_below⟩ := hrel
    have wr_size := wr_below.size
    by_cases hlt : j < n
    · have e1 : decide ((j : Int) < (n : Int)) = true := by simp; omega
      obtain ⟨⟨x, y⟩, hx1⟩ : ∃ x, L[j]? = some x := ⟨L[j]'(by rw [← HN.out]; exact hlt), List.getElem?_eq_getElem _⟩
      have hsnoc := putM_snoc (L.take j) m x y
      rw [← take_snoc0 hx1, List.length_take, show min j L.length = j by have := HN.out; omega] at hsnoc
      have HS := Lib.hid hsnoc
      have hs := posM_succ m j
      unfold bearPos at hs
      have hp := HZ.out
      have hmax : posM m (j + 1) ≤ 262144 := by unfold posM; omega
      by_cases hjm : j < m
      · have e2 : decide ((j : Int) < (m : Int)) = true := by simp; omega
        rw [if_pos hjm] at hs hsnoc
        have HZ2 := Lib.hid (show z + 2 + 2 = posM m (j + 1) by omega)
        have HS2 := Lib.hid hsnoc
        have hz2' : z + 2 + 2 ≤ 262144 := by omega
        obtain ⟨b, o, rfl, f0, f1⟩ := HF _ wr_below j x y hx1
        have HX := Lib.hid hx1
        clear hx1 hsnoc hs hp hmax
        go_wp2_with (first | (go_at_call 37; ((with_reducible refine (rbytes2_any x wr).mono ?_); rintro e _ ⟨rfl, rfl⟩)) | (at_builtin; refine wpList_append_src _ rfl (.tmp 16) (.tmp 22) 23 rfl w.heap.size 5 i0 (.int .u8 0) 1 1 Try.underlying23 hi hz0 hz1 hz2 rfl (by decide) u5 z (putM (L.take j) m) rfl (own_alloc hown _) _ _ 2 2 (be2 x) rfl (lists_new wr _ _ (be2 x) (fun j u hu => by simpa [be2] using hu)) rfl (be2_bytes _).one (by simp only [maxLen]; omega) (by omega) (by simp; have := wr_size; omega) ?_; intro v_w1 w1 own1 hg_w1 hat_w1; have w1_below := (wr_below.alloc wr_below.size _).grown hg_w1 (by simp; have := wr_below.size; omega) (fun b hb => own_low hown b (by simp [blk, hb])); have w1_size := w1_below.size; have f3 : w1.cell? ⟨b, o + j * 2 + 1, none⟩ = some (.int .i64 y) := (by obtain ⟨b', o', h1, h2, h3⟩ := HF _ w1_below j x y HX.out; cases h1; exact h3)) | (go_at_call 37; ((with_reducible refine (rbytes2_any y w1).mono ?_); rintro e _ ⟨rfl, rfl⟩)) | (at_builtin; refine wpList_append_src _ rfl (.tmp 24) (.tmp 30) 23 rfl w.heap.size 5 i0 (.int .u8 0) 1 1 Try.underlying23 hi hz0 hz1 hz2 rfl (by decide) v_w1 (z + 2) (putM (L.take j) m ++ be2 x) rfl (own_alloc own1 _) _ _ 2 2 (be2 y) rfl (lists_new w1 _ _ (be2 y) (fun j u hu => by simpa [be2] using hu)) rfl (be2_bytes _).one (by simp only [maxLen]; omega) (by omega) (by simp; have := w1_size; omega) ?_; intro v_w2 w2 own2 hg_w2 hat_w2; have w2_below := (w1_below.alloc w1_below.size _).grown hg_w2 (by simp; have := w1_below.size; omega) (fun b hb => own_low own1 b (by simp [blk, hb])); have w2_size := w2_below.size))
        go_roundw
        case rel => exact ⟨j + 1, by omega, by go_num, z + 2 + 2, hz2', HZ2, by rw [HS2.out, ← List.append_assoc]; exact own2, w2_below⟩
        case measure => simp [intOf]; omega
      · have e2 : decide ((j : Int) < (m : Int)) = false := by simp; omega
        rw [if_neg hjm] at hs hsnoc
        have HZ2 := Lib.hid (show z + 2 = posM m (j + 1) by omega)
        have HS2 := Lib.hid hsnoc
        have hz2' : z + 2 ≤ 262144 := by omega
        obtain ⟨b, o, rfl, f0, f1⟩ := HF _ wr_below j x y hx1
        clear hx1 hsnoc hs hp hmax
        go_wp2_with (first | (go_at_call 37; ((with_reducible refine (rbytes2_any y wr).mono ?_); rintro e _ ⟨rfl, rfl⟩)) | (at_builtin; refine wpList_append_src _ rfl (.tmp 24) (.tmp 30) 23 rfl w.heap.size 5 i0 (.int .u8 0) 1 1 Try.underlying23 hi hz0 hz1 hz2 rfl (by decide) u5 z (putM (L.take j) m) rfl (own_alloc hown _) _ _ 2 2 (be2 y) rfl (lists_new wr _ _ (be2 y) (fun j u hu => by simpa [be2] using hu)) rfl (be2_bytes _).one (by simp only [maxLen]; omega) (by omega) (by simp; have := wr_size; omega) ?_; intro v_w1 w1 own1 hg_w1 hat_w1; have w1_below := (wr_below.alloc wr_below.size _).grown hg_w1 (by simp; have := wr_below.size; omega) (fun b hb => own_low hown b (by simp [blk, hb])); have w1_size := w1_below.size))
        go_roundw
        case rel => exact ⟨j + 1, by omega, by go_num, z + 2, hz2', HZ2, by rw [HS2.out]; exact own1, w1_below⟩
        case measure => simp [intOf]; omega
    · have e1 : decide ((j : Int) < (n : Int)) = false := by simp; omega
      have hln : z = (putM L m).length := by rw [putM_len, HZ.out]; congr 1; have := HN.out; omega
      rw [List.take_of_length_le (by have := HN.out; omega), hln] at hown
      obtain ⟨A5, c5, h5, l5, hc5⟩ := own_lists hown
      clear hln
      go_wp2
      go_ret
      exact ⟨A5, c5, congrArg Ending.returned h5, l5, hc5, wr_below⟩

set_option maxRecDepth 100000 in
set_option maxHeartbeats 1000000 in
theorem rput_true (B : Nat) (A : Option Addr) (c : Nat) (L : List Int) (w : World) (hB : B ≤ w.heap.size) (hL : Lists w B A (intCells L)) (hn : L.length ≤ 65536) (hx : ∀ x ∈ L, 0 ≤ x ∧ x ≤ 1048576) :
    Calls Try.prog 18 #[.slice A L.length c, .bool true] w (GaveB w (putP true L)) := by
  have HF : ∀ W, Below w.heap.size w W → ∀ k x, L[k]? = some x → ∃ b o, A = some ⟨b, o, none⟩ ∧ W.cell? ⟨b, o + k, none⟩ = some (.int .i64 x) := fun W hb k x hk => by
    have hk' : (intCells L)[k]? = some (.int .i64 x) := by unfold intCells; rw [List.getElem?_map, hk]; rfl
    obtain ⟨b, o, rfl, hbl, hcl⟩ := hL.plain (by intro e; rw [e] at hk'; simp at hk')
    exact ⟨b, o, rfl, (hb.cell (p := ⟨b, o + k, none⟩) (Nat.lt_of_lt_of_le hbl hB)).trans (hcl _ _ hk')⟩
  have HX := Lib.hid hx
  clear hL hx
  obtain ⟨n, hnn⟩ : ∃ n, n = L.length := ⟨_, rfl⟩
  rw [← hnn] at hn ⊢
  have HN := Lib.hid hnn
  clear hnn
  obtain ⟨i0, hi, hz0, hz1, hz2⟩ := info_parts u8Info
  go_enter Try.func18, Try.ntmps18
  go_wp2
  go_loopw [5, 6] (fun s i wr => ∃ j : Nat, j ≤ n ∧ i = .int .i64 j ∧ wr.ownsRow w.heap.size 5 1 s (j * 4) (putP true (L.take j)) ∧ Below w.heap.size w wr) (fun _ i _ => n - (intOf i).toNat)
  case atStart => exact ⟨0, Nat.zero_le _, rfl, ⟨rfl, .inl ⟨rfl, rfl⟩⟩, Below.refl _ _⟩
  case round =>
    obtain ⟨j, hj, rfl, hown, wr_below⟩ := hrel
    have wr_size := wr_below.size
    by_cases hlt : j < n
    · have e1 : decide ((j : Int) < (n : Int)) = true := by simp; omega
      obtain ⟨x, hx1⟩ : ∃ x, L[j]? = some x := ⟨L[j]'(by rw [← HN.out]; exact hlt), List.getElem?_eq_getElem _⟩
      obtain ⟨b, o, rfl, f0⟩ := HF _ wr_below j x hx1
      have hx := HX.out x (List.mem_of_getElem? hx1)
      have HS := Lib.hid (show putP true (L.take (j + 1)) = putP true (L.take j) ++ beP true x by rw [take_snoc0 hx1, putP_snoc])
      clear hx1
      go_wp2_with (first | (go_at_call 37; ((with_reducible refine (rbytes4_any x wr).mono ?_); rintro e _ ⟨rfl, rfl⟩)) | (at_builtin; refine wpList_append_src _ rfl (.tmp 14) (.tmp 19) 23 rfl w.heap.size 5 i0 (.int .u8 0) 1 1 Try.underlying23 hi hz0 hz1 hz2 rfl (by decide) u5 (j * 4) (putP true (L.take j)) rfl (own_alloc hown _) _ _ 4 4 (be4 x) rfl (lists_new wr _ _ (be4 x) (fun j u hu => by simpa [be4] using hu)) rfl (be4_bytes _).one (by simp only [maxLen]; omega) (by omega) (by simp; have := wr_size; omega) ?_; intro v_w1 w1 own1 hg_w1 hat_w1; have w1_below := (wr_below.alloc wr_below.size _).grown hg_w1 (by simp; have := wr_below.size; omega) (fun b hb => own_low hown b (by simp [blk, hb])); have w1_size := w1_below.size))
      go_roundw
      case rel => exact ⟨j + 1, by omega, by go_num, by rw [HS.out, Nat.succ_mul]; exact own1, w1_below⟩
      case measure => simp [intOf]; omega
    · have e1 : decide ((j : Int) < (n : Int)) = false := by simp; omega
      rw [List.take_of_length_le (by have := HN.out; omega)] at hown
      have hln : j * 4 = (putP true L).length := by rw [putP_len]; simp only [szP, if_true]; have := HN.out; omega
      rw [hln] at hown
      obtain ⟨A5, c5, h5, l5, hc5⟩ := own_lists hown
      clear hln
      go_wp2
      go_ret
      exact ⟨A5, c5, congrArg Ending.returned h5, l5, hc5, wr_below⟩

set_option maxRecDepth 100000 in
set_option maxHeartbeats 1000000 in
theorem rput_false (B : Nat) (A : Option Addr) (c : Nat) (L : List Int) (w : World) (hB : B ≤ w.heap.size) (hL : Lists w B A (intCells L)) (hn : L.length ≤ 65536) (hx : ∀ x ∈ L, 0 ≤ x ∧ x ≤ 1048576) :
    Calls Try.prog 18 #[.slice A L.length c, .bool false] w (GaveB w (putP false L)) := by
  have HF : ∀ W, Below w.heap.size w W → ∀ k x, L[k]? = some x → ∃ b o, A = some ⟨b, o, none⟩ ∧ W.cell? ⟨b, o + k, none⟩ = some (.int .i64 x) := fun W hb k x hk => by
    have hk' : (intCells L)[k]? = some (.int .i64 x) := by unfold intCells; rw [List.getElem?_map, hk]; rfl
    obtain ⟨b, o, rfl, hbl, hcl⟩ := hL.plain (by intro e; rw [e] at hk'; simp at hk')
    exact ⟨b, o, rfl, (hb.cell (p := ⟨b, o + k, none⟩) (Nat.lt_of_lt_of_le hbl hB)).trans (hcl _ _ hk')⟩
  have HX := Lib.hid hx
  clear hL hx
  obtain ⟨n, hnn⟩ : ∃ n, n = L.length := ⟨_, rfl⟩
  rw [← hnn] at hn ⊢
  have HN := Lib.hid hnn
  clear hnn
  obtain ⟨i0, hi, hz0, hz1, hz2⟩ := info_parts u8Info
  go_enter Try.func18, Try.ntmps18
  go_wp2
  go_loopw [5, 6] (fun s i wr => ∃ j : Nat, j ≤ n ∧ i = .int .i64 j ∧ wr.ownsRow w.heap.size 5 1 s (j * 2) (putP false (L.take j)) ∧ Below w.heap.size w wr) (fun _ i _ => n - (intOf i).toNat)
  case atStart => exact ⟨0, Nat.zero_le _, rfl, ⟨rfl, .inl ⟨rfl, rfl⟩⟩, Below.refl _ _⟩
  case round =>
    obtain ⟨j, hj, rfl, hown, wr_below⟩ := hrel
    have wr_size := wr_below.size
    by_cases hlt : j < n
    · have e1 : decide ((j : Int) < (n : Int)) = true := by simp; omega
      obtain ⟨x, hx1⟩ : ∃ x, L[j]? = some x := ⟨L[j]'(by rw [← HN.out]; exact hlt), List.getElem?_eq_getElem _⟩
      obtain ⟨b, o, rfl, f0⟩ := HF _ wr_below j x hx1
      have hx := HX.out x (List.mem_of_getElem? hx1)
      have HS := Lib.hid (show putP false (L.take (j + 1)) = putP false (L.take j) ++ beP false x by rw [take_snoc0 hx1, putP_snoc])
      clear hx1
      go_wp2_with (first | (go_at_call 37; ((with_reducible refine (rbytes2_any (x / 2) wr).mono ?_); rintro e _ ⟨rfl, rfl⟩)) | (at_builtin; refine wpList_append_src _ rfl (.tmp 21) (.tmp 27) 23 rfl w.heap.size 5 i0 (.int .u8 0) 1 1 Try.underlying23 hi hz0 hz1 hz2 rfl (by decide) u5 (j * 2) (putP false (L.take j)) rfl (own_alloc hown _) _ _ 2 2 (be2 (x / 2)) rfl (lists_new wr _ _ (be2 (x / 2)) (fun j u hu => by simpa [be2] using hu)) rfl (be2_bytes _).one (by simp only [maxLen]; omega) (by omega) (by simp; have := wr_size; omega) ?_; intro v_w1 w1 own1 hg_w1 hat_w1; have w1_below := (wr_below.alloc wr_below.size _).grown hg_w1 (by simp; have := wr_below.size; omega) (fun b hb => own_low hown b (by simp [blk, hb])); have w1_size := w1_below.size))
      go_roundw
      case rel => exact ⟨j + 1, by omega, by go_num, by rw [HS.out, Nat.succ_mul]; exact own1, w1_below⟩
      case measure => simp [intOf]; omega
    · have e1 : decide ((j : Int) < (n : Int)) = false := by simp; omega
      rw [List.take_of_length_le (by have := HN.out; omega)] at hown
      have hln : j * 2 = (putP false L).length := by rw [putP_len]; simp only [szP, Bool.false_eq_true, if_false]; have := HN.out; omega
      rw [hln] at hown
      obtain ⟨A5, c5, h5, l5, hc5⟩ := own_lists hown
      clear hln
      go_wp2
      go_ret
      exact ⟨A5, c5, congrArg Ending.returned h5, l5, hc5, wr_below⟩

end Go.Proofs.Ytdbhfigdojkceaa
