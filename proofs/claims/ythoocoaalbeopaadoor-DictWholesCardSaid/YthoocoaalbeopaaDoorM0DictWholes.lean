/- Part 12 of the proof: DcHv, DcWh. -/
import Derived.Test.YthoocoaalbeopaaDoorCDc10

namespace Go.Proofs.YthoocoaalbeopaaDoor
open Go Go.RowKit
set_option linter.unusedVariables false
set_option linter.unusedSimpArgs false

/-- The pairs alone. -/
def realP : List Nat → List Value
  | [] => []
  | [a] => [.int .u8 (16 * a + 15 : Nat)]
  | a :: b :: H => .int .u8 (16 * a + b : Nat) :: realP H
theorem realB_eq : ∀ H : List Nat, realB H = realP H ++ (if H.length % 2 = 0 then [.int .u8 255] else [])
  | [] => rfl
  | [a] => by simp [realB, realP]
  | a :: b :: H => by
    rw [show (a :: b :: H).length % 2 = H.length % 2 by simp; omega]
    simp only [realB, realP, realB_eq H, List.cons_append]
theorem realP_len : ∀ H : List Nat, (realP H).length = (H.length + 1) / 2
  | [] => rfl
  | [a] => by simp [realP]
  | a :: b :: H => by
    simp only [realP, List.length_cons, realP_len H]
    omega
theorem realP_at : ∀ (H : List Nat) (k : Nat), 2 * k < H.length → (realP H)[k]? = some (.int .u8 (16 * H.getD (2 * k) 0 + H.getD (2 * k + 1) 15 : Nat))
  | [], k, h => by simp at h
  | [a], k, h => by
    have : k = 0 := by simp at h; omega
    subst this
    rfl
  | a :: b :: H, 0, h => rfl
  | a :: b :: H, k + 1, h => by
    have := realP_at H k (by simp at h; omega)
    simp only [realP, List.getElem?_cons_succ, this]
    rw [show 2 * (k + 1) = 2 * k + 1 + 1 by omega, show 2 * k + 1 + 1 + 1 = 2 * k + 1 + 1 + 1 from rfl]
    simp
theorem own_oneH (w : World) : (w.alloc (.cells #[.int .u8 30] 5)).ownsRow w.heap.size 5 1 (.slice (some ⟨w.heap.size, 0, none⟩) 1 1) 1 [.int .u8 30] := own_oneD w 30
set_option maxRecDepth 100000 in
set_option maxHeartbeats 1000000 in
theorem halves_any (A : Option Addr) (c n : Nat) (H : List Nat) (w : World) (hE : Lists w w.heap.size A (H.map fun h => Value.int .i64 (h : Nat))) (hnn : H.length = n) (hn : n ≤ 60) (hH : ∀ h ∈ H, h < 15) :
    Calls Tryd.prog 18 #[.slice A n c] w fun e w' => ∃ v, e = .returned v ∧ w'.ownsRow w.heap.size 5 1 v (1 + (realB H).length) (.int .u8 30 :: realB H) ∧ Below w.heap.size w w' := by
  have HE := Lib.hid hE
  have HN := Lib.hid hnn
  have HH := Lib.hid hH
  have B0 := below_a1 w (.cells #[.int .u8 30] 5)
  have O0 := own_oneH w
  obtain ⟨i0, hi, hz0, hz1, hz2⟩ := info_partsD u8Info
  clear hE hnn hH
  go_enter Tryd.func18, Tryd.ntmps18
  go_wp2
  go_loopw [3, 4] (fun v i wr => ∃ k : Nat, 2 * k ≤ n + 1 ∧ i = .int .i64 (2 * k : Nat) ∧ wr.ownsRow w.heap.size 5 1 v (1 + k) (.int .u8 30 :: (realP H).take k) ∧ Below w.heap.size w wr) (fun _ i _ => n + 1 - (intOf i).toNat)
  case atStart => exact ⟨0, Nat.zero_le _, rfl, O0, B0⟩
  case round =>
    clear O0 B0
    obtain ⟨k, hk, rfl, hown, hb⟩ := hrel
    by_cases hlt : 2 * k < n
    · have d1 : decide (((2 * k : Nat) : Int) < (n : Int)) = true := by simp; omega
      have hat := realP_at H k (by rw [HN.out]; exact hlt)
      have HT := Lib.hid (show (realP H).take (k + 1) = (realP H).take k ++ [.int .u8 (16 * H.getD (2 * k) 0 + H.getD (2 * k + 1) 15 : Nat)] by rw [List.take_add_one, hat]; rfl)
      have hne : (H.map fun h => Value.int .i64 (h : Nat)) ≠ [] := by intro e; have := congrArg List.length e; simp at this; have := HN.out; subst_vars; simp at hlt
      obtain ⟨b, o, rfl, hbl, hc⟩ := HE.out.plain hne
      have f0 := (hb.cell (p := ⟨b, o + 2 * k, none⟩) hbl).trans (hc (2 * k) (.int .i64 (H.getD (2 * k) 0 : Nat)) (by rw [List.getElem?_map, List.getD_eq_getElem?_getD, List.getElem?_eq_getElem (by rw [HN.out]; exact hlt)]; rfl))
      have fl : b < wr.heap.size := Nat.lt_of_lt_of_le hbl hb.size
      have a0 : H.getD (2 * k) 0 < 15 := by rw [List.getD_eq_getElem?_getD, List.getElem?_eq_getElem (by rw [HN.out]; exact hlt)]; exact HH.out _ (List.getElem_mem _)
      have e1 : IntKind.i64.wrap (((2 * k : Nat) : Int) + 1) = ((2 * k + 1 : Nat) : Int) := by rw [IntWalk.i64_in _ (by omega)]; omega
      have e2 : IntKind.i64.wrap (((2 * k : Nat) : Int) + 2) = ((2 * (k + 1) : Nat) : Int) := by rw [IntWalk.i64_in _ (by omega)]; omega
      have HR : ∀ (v6 : Value) (w6 : World), w6.ownsRow w.heap.size 5 1 v6 (1 + k + 1) ((.int .u8 30 :: (realP H).take k) ++ [.int .u8 (16 * ((H.getD (2 * k) 0 : Nat) : Int) + ((H.getD (2 * k + 1) 15 : Nat) : Int))]) → w6.ownsRow w.heap.size 5 1 v6 (1 + (k + 1)) (.int .u8 30 :: (realP H).take (k + 1)) := fun v6 w6 h => by
        rw [HT.out]; rw [Nat.add_assoc] at h; simpa using h
      have HRH := Lib.hid HR
      have hkk : 2 * (k + 1) ≤ n + 1 := by omega
      clear hat HR hne
      by_cases hl : 2 * k + 1 < n
      · have d2 : decide (((2 * k + 1 : Nat) : Int) < (n : Int)) = true := by simp; omega
        have f1 := (hb.cell (p := ⟨b, o + (2 * k + 1), none⟩) hbl).trans (hc (2 * k + 1) (.int .i64 (H.getD (2 * k + 1) 15 : Nat)) (by rw [List.getElem?_map, List.getD_eq_getElem?_getD, List.getElem?_eq_getElem (by rw [HN.out]; exact hl)]; rfl))
        have a1 : H.getD (2 * k + 1) 15 < 15 := by rw [List.getD_eq_getElem?_getD, List.getElem?_eq_getElem (by rw [HN.out]; exact hl)]; exact HH.out _ (List.getElem_mem _)
        generalize H.getD (2 * k + 1) 15 = y at *
        generalize H.getD (2 * k) 0 = x at *
        have e3 : IntKind.i64.wrap (16 * (x : Int)) = ((16 * x : Nat) : Int) := by rw [IntWalk.i64_in _ (by omega)]; omega
        have e4 : IntKind.i64.wrap (((16 * x : Nat) : Int) + (y : Nat)) = ((16 * x + y : Nat) : Int) := by rw [IntWalk.i64_in _ (by omega)]; omega
        have e5 : IntKind.u8.wrap ((16 * x + y : Nat) : Int) = ((16 * x + y : Nat) : Int) := by show ((16 * x + y : Nat) : Int) % 256 = _; omega
        clear hc
        go_wp2_with (at_builtin; refine wpList_append_src _ rfl (.tmp 23) (.tmp 32) 22 rfl w.heap.size 5 i0 (.int .u8 0) 1 1 Tryd.underlying22 hi hz0 hz1 hz2 rfl (by decide) _ (1 + k) (.int .u8 30 :: (realP H).take k) rfl (ownE_stay hown (below_a1 _ _)) (wr.heap.size + 1) (some ⟨wr.heap.size, 0, none⟩) 1 1 [.int .u8 (16 * (x : Int) + (y : Int))] (by rfl) (lists_row wr [.int .u8 (16 * (x : Int) + (y : Int))] 5) rfl (by simp [Value.oneCell']) (by simp only [maxLen]; omega) (by omega) (by have := hb.size; simp; omega) ?_; intro v6 w6 own6 hg6 hat6)
        have hb6 : Below w.heap.size w w6 := (hb.trans ((below_a1 _ _).mono hb.size)).grown hg6 (by have := hb.size; simp; omega) (fun b hb' => ownE_low2 hown b (by have h9 : u3.ownBlock = some b := hb'; unfold blk; rw [h9]; simp))
        have own7 := HRH.out _ _ own6
        go_roundw
        case rel => exact ⟨k + 1, by omega, by first | rfl | (go_num), own7, hb6⟩
        case measure => simp [intOf]; omega
      · have d2 : decide (((2 * k + 1 : Nat) : Int) < (n : Int)) = false := by simp; omega
        have h15 : H.getD (2 * k + 1) 15 = 15 := by rw [List.getD_eq_getElem?_getD, List.getElem?_eq_none (by rw [HN.out]; omega)]; rfl
        rw [h15] at HRH
        generalize H.getD (2 * k) 0 = x at *
        have e3 : IntKind.i64.wrap (16 * (x : Int)) = ((16 * x : Nat) : Int) := by rw [IntWalk.i64_in _ (by omega)]; omega
        have e5 : IntKind.u8.wrap ((16 * x + 15 : Nat) : Int) = ((16 * x + 15 : Nat) : Int) := by show ((16 * x + 15 : Nat) : Int) % 256 = _; omega
        clear hc
        go_wp2_with (at_builtin; refine wpList_append_src _ rfl (.tmp 23) (.tmp 32) 22 rfl w.heap.size 5 i0 (.int .u8 0) 1 1 Tryd.underlying22 hi hz0 hz1 hz2 rfl (by decide) _ (1 + k) (.int .u8 30 :: (realP H).take k) rfl (ownE_stay hown (below_a1 _ _)) (wr.heap.size + 1) (some ⟨wr.heap.size, 0, none⟩) 1 1 [.int .u8 (16 * (x : Int) + 15)] (by rfl) (lists_row wr [.int .u8 (16 * (x : Int) + 15)] 5) rfl (by simp [Value.oneCell']) (by simp only [maxLen]; omega) (by omega) (by have := hb.size; simp; omega) ?_; intro v6 w6 own6 hg6 hat6)
        have hb6 : Below w.heap.size w w6 := (hb.trans ((below_a1 _ _).mono hb.size)).grown hg6 (by have := hb.size; simp; omega) (fun b hb' => ownE_low2 hown b (by have h9 : u3.ownBlock = some b := hb'; unfold blk; rw [h9]; simp))
        have own7 := HRH.out _ _ own6
        go_roundw
        case rel => exact ⟨k + 1, by omega, by first | rfl | (go_num), own7, hb6⟩
        case measure => simp [intOf]; omega
    · have hkn : k = (n + 1) / 2 := by omega
      have HP := Lib.hid (show (realP H).take k = realP H from List.take_of_length_le (by rw [realP_len, HN.out]; omega))
      have d1 : decide (((2 * k : Nat) : Int) < (n : Int)) = false := by simp; omega
      have HB := Lib.hid (realB_eq H)
      have HL := Lib.hid (show (realP H).length = k by rw [realP_len, HN.out]; omega)
      rw [HP.out] at hown
      by_cases he : n % 2 = 0
      · have z1 : ((n : Int)).tmod 2 = 0 := by rw [Int.tmod_eq_emod_of_nonneg (by omega)]; omega
        go_wp2_with (at_builtin; refine wpList_append_src _ rfl (.tmp 38) (.tmp 39) 22 rfl w.heap.size 5 i0 (.int .u8 0) 1 1 Tryd.underlying22 hi hz0 hz1 hz2 rfl (by decide) _ (1 + k) (.int .u8 30 :: realP H) rfl (ownE_stay hown (below_a1 _ _)) (wr.heap.size + 1) (some ⟨wr.heap.size, 0, none⟩) 1 1 [.int .u8 255] (by rfl) (lists_row wr [.int .u8 255] 5) rfl (by simp [Value.oneCell']) (by simp only [maxLen]; omega) (by omega) (by have := hb.size; simp; omega) ?_; intro v6 w6 own6 hg6 hat6)
        have hb6 : Below w.heap.size w w6 := (hb.trans ((below_a1 _ _).mono hb.size)).grown hg6 (by have := hb.size; simp; omega) (fun b hb' => ownE_low2 hown b (by have h9 : u3.ownBlock = some b := hb'; unfold blk; rw [h9]; simp))
        refine bodyPost_ret (results_tmp rfl _ _ _) rfl ⟨v6, rfl, ?_, hb6⟩
        rw [HB.out, HN.out, if_pos he, List.length_append, HL.out]
        rw [Nat.add_assoc] at own6
        exact own6
      · have z1 : ((n : Int)).tmod 2 = 1 := by rw [Int.tmod_eq_emod_of_nonneg (by omega)]; omega
        go_wp2
        refine bodyPost_ret (results_tmp rfl _ _ _) rfl ⟨_, rfl, ?_, hb⟩
        rw [HB.out, HN.out, if_neg he, List.append_nil, HL.out]
        exact hown
end Go.Proofs.YthoocoaalbeopaaDoor

namespace Go.Proofs.YthoocoaalbeopaaDoor
open Go Go.RowKit
set_option linter.unusedVariables false
set_option linter.unusedSimpArgs false

/-- The k lowest digits of a number. -/
def digK (n : Nat) : Nat → List Nat
  | 0 => []
  | k + 1 => n / 10 ^ k % 10 :: digK n k
theorem digK_len (n : Nat) : ∀ k, (digK n k).length = k
  | 0 => rfl
  | k + 1 => by simp [digK, digK_len n k]
theorem digK_le (n : Nat) : ∀ k, ∀ d ∈ digK n k, d ≤ 9
  | 0 => fun d h => by simp [digK] at h
  | k + 1 => fun d h => by
    simp only [digK, List.mem_cons] at h
    rcases h with rfl | h
    · omega
    · exact digK_le n k d h
theorem digV_from (L : List Nat) : ∀ x : Nat, L.foldl (fun x d => x * 10 + d) x = x * 10 ^ L.length + digV L := by
  induction L with
  | nil => intro x; simp [digV]
  | cons d L ih =>
    intro x
    have e : digV (d :: L) = L.foldl (fun x d => x * 10 + d) (0 * 10 + d) := rfl
    rw [List.foldl_cons, ih, e, ih, List.length_cons, Nat.pow_succ, Nat.zero_mul, Nat.zero_add, Nat.add_mul, Nat.mul_assoc, Nat.mul_comm 10, Nat.add_assoc]
theorem digV_digK (n : Nat) : ∀ k, digV (digK n k) = n % 10 ^ k
  | 0 => by simp [digK, digV, Nat.mod_one]
  | k + 1 => by
    have e : digV (digK n (k + 1)) = (digK n k).foldl (fun x d => x * 10 + d) (0 * 10 + n / 10 ^ k % 10) := rfl
    rw [e, digV_from, digK_len, digV_digK n k, Nat.zero_mul, Nat.zero_add, Nat.pow_succ, Nat.mod_mul, Nat.mul_comm, Nat.add_comm]
theorem dig_text (L : List Nat) (h : ∀ d ∈ L, d ≤ 9) : ∀ s : ByteArray, L.foldl (fun s h => s ++ spD h) s = s ++ digB L := by
  induction L with
  | nil => intro s; simp only [List.foldl_nil]; rw [show digB [] = ⟨#[]⟩ from rfl, cat_nil]
  | cons d L ih =>
    intro s
    rw [List.foldl_cons, ih (fun x hx => h x (by simp [hx]))]
    have hd := h d (by simp)
    have e : spD d = ⟨#[(48 + d).toUInt8]⟩ := by
      match d, hd with
      | 0, _ | 1, _ | 2, _ | 3, _ | 4, _ | 5, _ | 6, _ | 7, _ | 8, _ | 9, _ => rfl
    apply ByteArray.ext
    apply Array.ext'
    simp [e, digB]
theorem spT_dig (L : List Nat) (h : ∀ d ∈ L, d ≤ 9) : spT L = digB L := by
  have := dig_text L h ⟨#[]⟩
  unfold spT
  rw [this]
  apply ByteArray.ext
  simp
theorem spT_neg (L : List Nat) (h : ∀ d ∈ L, d ≤ 9) : (spT (14 :: L)).data.toList = 45 :: (digB L).data.toList := by
  have e : spT (14 :: L) = L.foldl (fun s h => s ++ spD h) (⟨#[]⟩ ++ spD 14) := rfl
  rw [e, dig_text L h]
  rfl
theorem dig_first (L : List Nat) (h : ∀ d ∈ L, d ≤ 9) : Lib.hasPrefix (digB L).data.toList [45] = false := by
  match L, h with
  | [], _ => rfl
  | d :: L, h =>
    have hd := h d (by simp)
    match d, hd with
    | 0, _ | 1, _ | 2, _ | 3, _ | 4, _ | 5, _ | 6, _ | 7, _ | 8, _ | 9, _ => rfl
theorem opd_whole (L : List Nat) (h : ∀ d ∈ L, d ≤ 9) (h1 : 1 ≤ L.length) (h2 : L.length ≤ 15) (hv : digV L ≤ 2147483648) : Opd 30 (realB L) ((digV L : Int) * 65536) := by
  refine opd_real L (digB L) false ((digV L : Int) * 65536) (fun d hd => by have := h d hd; omega) (by rw [spT_dig L h, digB_size]; omega) (by rw [spT_dig L h]; exact dig_first L h) ?_ (fun w => dval_dig L h h1 h2 hv w) (by omega) (by omega)
  rw [spT_dig L h]
  unfold Lib.trimPrefix
  rw [dig_first L h]
  apply ByteArray.ext
  simp
theorem opd_minus (L : List Nat) (h : ∀ d ∈ L, d ≤ 9) (h1 : 1 ≤ L.length) (h2 : L.length ≤ 15) (hv : digV L ≤ 2147483648) : Opd 30 (realB (14 :: L)) (-((digV L : Int) * 65536)) := by
  refine opd_real (14 :: L) (digB L) true ((digV L : Int) * 65536) (fun d hd => ?_) ?_ ?_ ?_ (fun w => dval_dig L h h1 h2 hv w) (by omega) (by omega)
  · simp only [List.mem_cons] at hd
    rcases hd with rfl | hd
    · decide
    · have := h d hd; omega
  · have e := congrArg List.length (spT_neg L h)
    have e2 := digB_size L
    rw [Lib.size_eq, e, List.length_cons, ← Lib.size_eq, e2]
    omega
  · rw [spT_neg L h]; rfl
  · rw [spT_neg L h]
    apply ByteArray.ext
    simp [Lib.trimPrefix, Lib.hasPrefix]
/-- One real number, and the operator 5. -/
theorem parse_real (H : List Nat) (x : Int) (hop : Opd 30 (realB H) x) (hb : Bytes8 (realB H)) (hn : (realB H).length ≤ 1000) (A : Option Addr) (c m : Nat) (V : World) (hl : Lists V V.heap.size A (.int .u8 30 :: realB H ++ [.int .u8 5])) (hm : m = 1 + (realB H).length + 1) (hG : GD V) :
    Calls Tryd.prog 9 #[.slice A m c] V fun e w' => ∃ A c, e = .returned (.tuple #[.slice A 1 c, .int .i64 0]) ∧ Hid (EntAt w' w'.heap.size A [(5, [x])]) ∧ Below V.heap.size V w' := by
  refine (dparse_any A m c (.int .u8 30 :: realB H ++ [.int .u8 5]) [.arg 30 (realB H) x, .op 5] ([(5, [x])], []) V hl (by rw [hm]; simp; omega) ?_ (by omega) (by rfl) ⟨hop, by simp, by decide, trivial⟩ rfl hG).mono ?_
  · intro v hv
    simp only [List.cons_append, List.mem_cons, List.mem_append, List.not_mem_nil, or_false] at hv
    rcases hv with rfl | hv | rfl
    · exact ⟨30, by decide, rfl⟩
    · exact hb v hv
    · exact ⟨5, by decide, rfl⟩
  · rintro e w' ⟨v, rfl, ho, hb⟩
    obtain ⟨A, c, rfl, hc, hE⟩ := ho.out
    exact ⟨A, c, rfl, Lib.hid hE, hb⟩
theorem cells_real {w : World} {A : Option Addr} {x : Int} (h : Hid (EntAt w w.heap.size A [(5, [x])])) : ∃ (x1 o1 x4 o4 ci : Nat), A = some ⟨x1, o1, none⟩ ∧ x1 < w.heap.size ∧ w.cell? ⟨x1, o1, none⟩ = some (.int .i64 5) ∧ w.cell? ⟨x1, o1 + 1, none⟩ = some (.slice (some ⟨x4, o4, none⟩) 1 ci) ∧ x4 < w.heap.size ∧ w.cell? ⟨x4, o4, none⟩ = some (.int .i64 x) := by
  obtain ⟨x1, o1, Ai, ci, rfl, h0, h1, h2, _, h4⟩ := h.out.at' 0 _ rfl
  obtain ⟨x4, o4, rfl, h5, h6⟩ := h4.plain (by simp)
  exact ⟨x1, o1, x4, o4, ci, rfl, h0, h1, h2, h5, h6 0 _ rfl⟩
/-- A slice's length. -/
def sLenD : Value → Nat
  | .slice _ n _ => n
  | _ => 0
end Go.Proofs.YthoocoaalbeopaaDoor
