/- Part 7 of the proof: IxH, IxI, Rw1, Rw2, IxP, Wide, IxQ, IxR. -/
import Derived.Lib.SlBytesConst
import Derived.LoopTactic
import Derived.Outline
import Derived.Deep.DeepAppendWide
import Derived.Deep.Cut
import Derived.Deep.CutBlock
import Derived.Test.YtmckdeopljcdfaaM5IndexPuts

namespace Go.Proofs.Ytmckdeopljcdfaa
open Go Go.RowKit
set_option linter.unusedVariables false
set_option linter.unusedSimpArgs false

/-- What Load makes of bytes: offsets, bytes, size. -/
def ldX (E : List Value) : Option (List Nat × List Value × Nat) :=
  if E.length < 2 then none
  else if rd2 E 0 = 0 then some ([], [], 2)
  else
    let v := rd2 E 0
    let wd := byteAt E 2
    let mm := (v + 1) * wd
    let E2 := (E.drop 3).take mm
    let ln := (offI E2 wd v).toNat
    if 1 ≤ wd ∧ wd ≤ 4 ∧ 3 + mm ≤ E.length ∧ okOs E2 wd (v + 1) = true ∧ 3 + mm + ln ≤ E.length then some (osN E2 wd (v + 1), (E.drop (3 + mm)).take ln, 3 + mm + ln) else none
def LdPost (w : World) (r : Option (List Nat × List Value × Nat)) (e : Ending) (w' : World) : Prop :=
  match r with
  | some (os, D, s) => GotIx w os D (s : Nat) e w'
  | none => NoIx w e w'
theorem take3_rd2 {E : List Value} (h : 2 ≤ E.length) : rsn (E.take 3) 2 0 (rd2 (E.take 3) 0) = rd2 E 0 := by
  unfold rsn
  rw [if_pos (by simp; omega), rd2_take (by omega)]
theorem byteAt_out {E : List Value} {i : Nat} (h : E.length ≤ i) : byteAt E i = 0 := by
  unfold byteAt
  rw [List.getD, List.getElem?_eq_none h]
  rfl
theorem take3_b {E : List Value} : rsn (E.take 3) 1 2 (byteAt (E.take 3) 2) = byteAt E 2 := by
  unfold rsn
  rw [byteAt_take (by omega)]
  split
  · rfl
  · rename_i h
    simp at h
    exact (byteAt_out (by omega)).symm
theorem load_any (A : Option Addr) (c : Nat) (E : List Value) (w : World) (hE : Lists w w.heap.size A E) (h8 : Bytes8 E) (hc : E.length ≤ c) (hm : E.length ≤ 140737488355328) :
    Calls Try.prog 8 #[.slice A E.length c] w (LdPost w (ldX E)) := by
  have hE3 : Lists w w.heap.size A (E.take 3) := lists_takeF hE 3
  have h83 : Bytes8 (E.take 3) := fun u hu => h8 u (List.mem_of_mem_take hu)
  have hvb : rd2 E 0 < 65536 := rd2_lt h8 0
  have bad : ldX E = none → ∀ e w', NoIx w e w' → LdPost w (ldX E) e w' := fun h e w' k => by rw [h]; exact k
  rcases Nat.lt_or_ge E.length 2 with h2 | h2
  · have hn : ldX E = none := by unfold ldX; rw [if_pos h2]
    have hv : rsn (E.take 3) 2 0 (rd2 (E.take 3) 0) = 0 := by unfold rsn; rw [if_neg (by simp; omega)]
    exact (load_bad_s A c E.length (E.take 3) w hE3 h83 (by simp; omega) (by omega) hm hc 0 hv (fun h => by have := h.1; simp at this; omega) (by omega)).mono (bad hn)
  · by_cases hz : rd2 E 0 = 0
    · have hn : ldX E = some ([], [], 2) := by unfold ldX; rw [if_neg (by omega), if_pos hz]
      have hv : rsn (E.take 3) 2 0 (rd2 (E.take 3) 0) = 0 := by rw [take3_rd2 h2, hz]
      rw [hn]
      rcases Nat.lt_or_ge 3 E.length with h3 | h3
      · exact load_zero_l A c E.length (E.take 3) w hE3 h83 (by simp; omega) h3 hm hc 0 hv (by simp; omega) rfl
      · exact load_zero_s A c E.length (E.take 3) w hE3 h83 (by simp; omega) h3 hm hc 0 hv (by simp; omega) rfl
    · rcases Nat.lt_or_ge 3 E.length with h3 | h3
      · obtain ⟨v, hv⟩ : ∃ v, rd2 E 0 = v := ⟨_, rfl⟩
        obtain ⟨wd, hwd⟩ : ∃ wd, byteAt E 2 = wd := ⟨_, rfl⟩
        obtain ⟨mm, hmm⟩ : ∃ mm, (v + 1) * wd = mm := ⟨_, rfl⟩
        obtain ⟨E2, he2⟩ : ∃ E2, E2 = (E.drop 3).take mm := ⟨_, rfl⟩
        have hv3 : rsn (E.take 3) 2 0 (rd2 (E.take 3) 0) = v := by rw [take3_rd2 h2, hv]
        have hw3 : rsn (E.take 3) 1 2 (byteAt (E.take 3) 2) = wd := by rw [take3_b, hwd]
        rw [hv] at hz hvb
        have hx : ldX E = if 1 ≤ wd ∧ wd ≤ 4 ∧ 3 + mm ≤ E.length ∧ okOs E2 wd (v + 1) = true ∧ 3 + mm + (offI E2 wd v).toNat ≤ E.length then some (osN E2 wd (v + 1), (E.drop (3 + mm)).take (offI E2 wd v).toNat, 3 + mm + (offI E2 wd v).toNat) else none := by
          unfold ldX
          rw [if_neg (by omega), hv, if_neg hz, hwd]
          simp only [hmm, ← he2]
        by_cases hh : 1 ≤ wd ∧ wd ≤ 4 ∧ 3 + mm ≤ E.length
        · obtain ⟨h1, h4, hfit⟩ := hh
          cases hok : okOs E2 wd (v + 1)
          · have hn : ldX E = none := by rw [hx, if_neg (by rw [hok]; simp)]
            exact (load_no A c E.length E (E.take 3) E2 w hE h8 rfl hE3 h83 (by simp; omega) h3 hm hc v hv3 hz hvb wd mm hw3 hmm h1 h4 hfit he2 hok).mono (bad hn)
          · have hge := (offs_ge E2 wd (v + 1) hok v (by omega)).1
            obtain ⟨ln, hln⟩ : ∃ ln : Nat, offI E2 wd v = ln := ⟨(offI E2 wd v).toNat, by omega⟩
            rw [hln, Int.toNat_natCast] at hx
            have hlb : ln < 4294967296 := by
              have h82 : Bytes8 E2 := fun u hu => h8 u (by rw [he2] at hu; exact List.mem_of_mem_drop (List.mem_of_mem_take hu))
              have := rdB_lt h82 wd (v * wd) h4
              unfold offI at hln
              omega
            rcases Nat.lt_or_ge E.length (3 + mm + ln) with hfar | hnear
            · have hn : ldX E = none := by rw [hx, if_neg (by omega)]
              exact (load_far A c E.length E (E.take 3) E2 w hE h8 rfl hE3 h83 (by simp; omega) h3 hm hc v hv3 hz hvb wd mm hw3 hmm h1 h4 hfit he2 hok ln hln hfar hlb).mono (bad hn)
            · rw [hx, if_pos ⟨h1, h4, hfit, hok, hnear⟩]
              exact load_ok A c E.length E (E.take 3) E2 w hE h8 rfl hE3 h83 (by simp; omega) h3 hm hc v hv3 hz hvb wd mm hw3 hmm h1 h4 hfit he2 hok ln hln hnear
        · have hn : ldX E = none := by rw [hx, if_neg (fun h => hh ⟨h.1, h.2.1, h.2.2.1⟩)]
          exact (load_bad_l A c E.length (E.take 3) w hE3 h83 (by simp; omega) h3 hm hc v hv3 hz hvb wd mm hw3 hmm (by omega)).mono (bad hn)
      · have hv : rsn (E.take 3) 2 0 (rd2 (E.take 3) 0) = rd2 E 0 := take3_rd2 h2
        have hn : ldX E = none := by
          unfold ldX
          rw [if_neg (by omega), if_neg hz]
          simp only
          rw [if_neg]
          intro h
          have : (1 + 1) * 1 ≤ (rd2 E 0 + 1) * byteAt E 2 := Nat.mul_le_mul (by omega) h.1
          omega
        exact (load_bad_s A c E.length (E.take 3) w hE3 h83 (by simp; omega) h3 hm hc _ hv (fun h => hz h.2) hvb).mono (bad hn)
set_option maxRecDepth 100000 in
theorem ixall_any (v : Value) (hv : v.oneCell' = true) (w : World) : Calls Try.prog 14 #[v] w fun e w' => ∃ k, e = .returned (.func (.func 32) #[] #[.pointer (some ⟨k, 0, none⟩)]) ∧ Blk w' k 24 #[v] ∧ Below w.heap.size w w' := by
  have K := Blk.new w 24 #[v]
  have B := (Below.refl w.heap.size w).alloc (Nat.le_refl _) (.cells #[v] 24)
  have hc : v.cells = #[v] := by cases v <;> first | rfl | simp [Value.oneCell'] at hv
  go_enter Try.func14, Try.ntmps14
  go_wp2
  go_ret
  exact ⟨_, rfl, K, B⟩
end Go.Proofs.Ytmckdeopljcdfaa

namespace Go.Proofs.Ytmckdeopljcdfaa
open Go Go.RowKit
set_option linter.unusedVariables false
set_option linter.unusedSimpArgs false

theorem own_capI {w : World} {base : Nat} {e : TypeId} {size n c : Nat} {A : Option Addr} {xs : List Value} (h : w.ownsRow base e size (.slice A n c) n xs) : c ≤ 9223372036854775807 := by
  rcases h.2 with ⟨h1, h2⟩ | ⟨g, cap, cur, h1, _, _, _, h2, _⟩
  · cases h1; decide
  · cases h1; exact h2
theorem gave_outI {w w' : World} {e : Ending} {L : List Value} {n : Nat} (h : Gave w L e w') (hn : L.length = n) : ∃ A c, e = .returned (.tuple #[.slice A n c, .int .i64 0]) ∧ Hid (Lists w' w'.heap.size A L) ∧ n ≤ c ∧ c ≤ 9223372036854775807 ∧ Below w.heap.size w w' := by
  subst hn
  obtain ⟨A, c, rfl, ho, hb⟩ := h
  have hc := own_capI ho
  obtain ⟨A', c', he, hl, hcc⟩ := own_lists ho
  cases he
  exact ⟨A, c, rfl, Lib.hid hl, hcc, hc, hb⟩
/-- What lives puts. -/
def LS0 : List (List Value) := [[.int .u8 97, .int .u8 98], []]
theorem ls0_len : (putIx LS0).length = 8 := by kernel_rfl
theorem ls0_ok : okIx LS0 = true := by kernel_rfl
theorem ls0_ld : ldX (putIx LS0) = some ([0, 2, 2], [.int .u8 97, .int .u8 98], 8) := by kernel_rfl
theorem one_ld : ldX [.int .u8 0] = none := by kernel_rfl
theorem ls0_str : (⟨((putIx LS0).map toU8).toArray⟩ : ByteArray) = ⟨#[0, 2, 1, 1, 3, 3, 97, 98]⟩ := by kernel_rfl
theorem ab_str : (⟨([Value.int .u8 97, Value.int .u8 98].map toU8).toArray⟩ : ByteArray) = ⟨#[97, 98]⟩ := by kernel_rfl
theorem ab_bytes : Bytes8 [Value.int .u8 97, Value.int .u8 98] := fun u hu => by
  simp at hu
  rcases hu with rfl | rfl
  · exact ⟨97, by decide, rfl⟩
  · exact ⟨98, by decide, rfl⟩
theorem lists_marked (w : World) (cs : List Value) (T : TypeId) (fz : Nat × Nat) : Lists (w.alloc (.cells cs.toArray T fz)) (w.heap.size + 1) (some ⟨w.heap.size, 0, none⟩) cs :=
  ⟨fun ha => (nomatch ha), fun a ha j u hu => by
    cases ha
    rw [addr_plain, Nat.zero_add]
    have e : (w.alloc (.cells cs.toArray T fz)).heap[w.heap.size]? = some (.cells cs.toArray T fz) := by
      show (w.heap.push _)[w.heap.size]? = _
      rw [Array.getElem?_push_size]
    exact (cell_of_row _ w.heap.size j cs.toArray T fz e).trans (by rw [List.getElem?_toArray]; exact hu), fun a ha _ => by cases ha; simp⟩
theorem rows0 (W : World) : RowsAt ((W.alloc (.cells #[.int .u8 97, .int .u8 98] 5 (2, 3))).alloc (.cells #[.slice (some ⟨W.heap.size, 0, none⟩) 2 2, .slice none 0 0] 22)) ((W.alloc (.cells #[.int .u8 97, .int .u8 98] 5 (2, 3))).alloc (.cells #[.slice (some ⟨W.heap.size, 0, none⟩) 2 2, .slice none 0 0] 22)).heap.size (some ⟨W.heap.size + 1, 0, none⟩) LS0 := ⟨fun i L h => by
  have c := fun j => World.cell?_alloc_new (W.alloc (.cells #[.int .u8 97, .int .u8 98] 5 (2, 3))) #[.slice (some ⟨W.heap.size, 0, none⟩) 2 2, .slice none 0 0] 22 j
  rw [World.size_alloc] at c
  match i, h with
  | 0, h =>
    simp [LS0] at h; subst h
    exact ⟨W.heap.size + 1, 0, some ⟨W.heap.size, 0, none⟩, 2, rfl, by simp, c 0, ((lists_marked W [.int .u8 97, .int .u8 98] 5 (2, 3)).alloc (by simp) _).more (by simp)⟩
  | 1, h =>
    simp [LS0] at h; subst h
    exact ⟨W.heap.size + 1, 0, none, 0, rfl, by simp, c 1, Lists.empty _ _ _⟩
  | i + 2, h => simp [LS0] at h⟩
theorem put0 (W : World) : Calls Try.prog 12 #[.slice (some ⟨W.heap.size + 1, 0, none⟩) 2 2] ((W.alloc (.cells #[.int .u8 97, .int .u8 98] 5 (2, 3))).alloc (.cells #[.slice (some ⟨W.heap.size, 0, none⟩) 2 2, .slice none 0 0] 22)) fun e w' => ∃ A c, e = .returned (.tuple #[.slice A 8 c, .int .i64 0]) ∧ Hid (Lists w' w'.heap.size A (putIx LS0)) ∧ 8 ≤ c ∧ c ≤ 9223372036854775807 ∧ Below W.heap.size W w' :=
  (put_any (some ⟨W.heap.size + 1, 0, none⟩) 2 LS0 ((W.alloc (.cells #[.int .u8 97, .int .u8 98] 5 (2, 3))).alloc (.cells #[.slice (some ⟨W.heap.size, 0, none⟩) 2 2, .slice none 0 0] 22)) (rows0 W) (fun L hL => by simp [LS0] at hL; rcases hL with rfl | rfl; exact ab_bytes; exact fun u hu => by simp at hu) (by decide) (fun _ => by decide)).mono fun e w' h => by
    obtain ⟨A, c, h1, h2, h3, h4, h5⟩ := gave_outI (h.1 ls0_ok) ls0_len
    exact ⟨A, c, h1, h2, h3, h4, (((Below.refl _ _).alloc (Nat.le_refl _) _).alloc (by simp) _).trans (h5.mono (by simp; omega))⟩
theorem beN_bytes (n : Nat) (x : Int) : Bytes8 (beN n x) := by
  have h3 : ∀ x, Bytes8 (be3 x) := fun x u hu => by
    simp [be3] at hu
    rcases hu with rfl | rfl | rfl
    · exact byte_of (x / 65536)
    · exact byte_of (x / 256)
    · exact byte_of x
  unfold beN
  split
  · exact be1_bytes x
  · exact be2_bytes x
  · exact h3 x
  · exact be4_bytes x
theorem putIx_bytes (Ls : List (List Value)) (h : ∀ L ∈ Ls, Bytes8 L) : Bytes8 (putIx Ls) := by
  have h1 : ∀ l : List Nat, Bytes8 (l.flatMap fun o => beN (wdN (1 + tot Ls)) ((o : Nat) : Int)) := fun l => by
    induction l with
    | nil => intro u hu; simp at hu
    | cons x l ih => rw [List.flatMap_cons]; exact (beN_bytes _ _).append ih
  unfold putIx
  refine Bytes8.append ?_ (fun u hu => ?_)
  · unfold hdE
    split
    · exact be2_bytes 0
    · unfold offE
      exact (be2_bytes _).append ((be1_bytes _).append (h1 _))
  · obtain ⟨L, hL, hu⟩ := List.mem_flatten.1 hu
    exact h L hL u hu
theorem putIx0_bytes : Bytes8 (putIx LS0) := putIx_bytes LS0 (fun L hL => by simp [LS0] at hL; rcases hL with rfl | rfl; exact ab_bytes; exact fun u hu => by simp at hu)
theorem load0 (A : Option Addr) (c : Nat) (W : World) (h : Hid (Lists W W.heap.size A (putIx LS0))) (hc : 8 ≤ c) : Calls Try.prog 8 #[.slice A 8 c] W (GotIx W [0, 2, 2] [.int .u8 97, .int .u8 98] 8) := by
  have h2 := load_any A c (putIx LS0) W h.out putIx0_bytes (by rw [ls0_len]; exact hc) (by rw [ls0_len]; decide)
  rw [ls0_len, ls0_ld] at h2
  exact h2
theorem load1 (W : World) : Calls Try.prog 8 #[.slice (some ⟨W.heap.size, 0, none⟩) 1 1] (W.alloc (.cells #[.int .u8 0] 5)) fun e w' => e = .returned (.tuple #[.pointer none, .int .i64 140]) ∧ Below W.heap.size W w' := by
  have h2 := load_any (some ⟨W.heap.size, 0, none⟩) 1 [.int .u8 0] (W.alloc (.cells #[.int .u8 0] 5)) ((lists_row W [.int .u8 0] 5).more (by simp)) (fun u hu => by simp at hu; exact ⟨0, by decide, hu⟩) (by decide) (by decide)
  rw [one_ld] at h2
  exact h2.mono fun e w' h => ⟨h.1, ((Below.refl _ _).alloc (Nat.le_refl _) _).trans (h.2.mono (by simp))⟩
theorem func_nilI (f : Fn) (a b : Array Value) (w : World) : (binOp .eql 40 (.func f a b) .nilFunc).run Try.prog w = .ok (.bool false) w := by
  have hu := Try.underlying40
  have key : ∀ (d : Nat) (w : World), (Op.equalIn (d + 1) 40 (.func f a b) .nilFunc).run Try.prog w = .ok false w := fun d w => by
    simp [Op.equalIn, run_underlying hu]
  simp only [binOp]
  simp [Op.equal, Op.maxDepth, key 9999]
theorem at0 (p : Nat) (W : World) (h : IxAt W p W.heap.size [0, 2, 2] [.int .u8 97, .int .u8 98] 8) : Calls Try.prog 15 #[.pointer (some ⟨p, 0, none⟩), .int .i64 0] W fun e w' => ∃ A c, e = .returned (.tuple #[.slice A 2 c, .int .i64 0]) ∧ Hid (Lists w' w'.heap.size A [.int .u8 97, .int .u8 98]) ∧ Below W.heap.size W w' :=
  ixat_any p W.heap.size [0, 2, 2] [.int .u8 97, .int .u8 98] 8 0 0 2 W h (Nat.le_refl _) (by decide) rfl rfl (by decide) (by decide)
theorem at2 (p : Nat) (W : World) (h : IxAt W p W.heap.size [0, 2, 2] [.int .u8 97, .int .u8 98] 8) : Calls Try.prog 15 #[.pointer (some ⟨p, 0, none⟩), .int .i64 2] W fun e w' => e = .returned (.tuple #[.slice none 0 0, .int .i64 4]) ∧ w' = W :=
  ixat_none p W.heap.size [0, 2, 2] [.int .u8 97, .int .u8 98] 8 2 W h (by decide) (.inr (by decide))
theorem len0 (p : Nat) (W : World) (h : IxAt W p W.heap.size [0, 2, 2] [.int .u8 97, .int .u8 98] 8) : Calls Try.prog 16 #[.pointer (some ⟨p, 0, none⟩)] W fun e w' => e = .returned (.int .i64 2) ∧ w' = W :=
  ixlen_any p W.heap.size [0, 2, 2] [.int .u8 97, .int .u8 98] 8 W h (by decide)
theorem IxAt.up {w w1 : World} {p : Nat} {os : List Nat} {D : List Value} {size : Int} (h : IxAt w p w.heap.size os D size) (b : Below w.heap.size w w1) : IxAt w1 p w1.heap.size os D size := (h.below b).more b.size
set_option maxRecDepth 100000 in
set_option maxHeartbeats 2000000 in
theorem lives14 (w : World) : Calls Try.prog 7 #[] w fun e w' => e = .returned (.bool true) ∧ Below w.heap.size w w' := by
  have FN := func_nilI
  have CV := fun W => Lib.run_convert_bytes_const (P := Try.prog) W 22 5 #[.int .u8 97, .int .u8 98] 2 2 Try.underlying22 Try.underlying5
  have CP := put0 w
  go_enter Try.func7, Try.ntmps7
  go_wp2_with (first
    | (go_at_call 12; ((with_reducible refine (CP).mono ?_); rintro e w1 ⟨A1, c1, rfl, l1, hc1, hm1, b1⟩; have C1 := load0 A1 c1 w1 l1 hc1))
    | (go_at_call 8; ((with_reducible refine (C1).mono ?_); rintro e w2 ⟨p, rfl, X2, b2⟩; have B2 := b1.trans (b2.mono b1.size)))
    | (go_at_call 8; ((with_reducible refine (load1 w2).mono ?_); rintro e w3 ⟨rfl, b3⟩; have B3 := B2.trans (b3.mono B2.size); have X3 := X2.up b3; have b13 := b2.trans (b3.mono b2.size); have q1 := conv_lists (c := c1) ((l1.out.below b13).more b13.size) ls0_len putIx0_bytes; rw [ls0_str] at q1))
    | (go_at_call 14; ((with_reducible refine (ixall_any (.pointer (some ⟨p, 0, none⟩)) rfl _).mono ?_); rintro e w4 ⟨k4, rfl, _, b4⟩; have B4 := B3.trans (b4.mono B3.size); have X4 := X3.up b4))
    | (go_at_call 15; ((with_reducible refine (at0 p w4 X4).mono ?_); rintro e w5 ⟨A5, c5, rfl, l5, b5⟩; have B5 := B4.trans (b5.mono B4.size); have X5 := X4.up b5; have q5 := conv_lists (n := 2) (c := c5) l5.out rfl ab_bytes; rw [ab_str] at q5))
    | (go_at_call 15; ((with_reducible refine (at2 p w5 X5).mono ?_); rintro e w6 ⟨rfl, rfl⟩))
    | (go_at_call 16; ((with_reducible refine (len0 p _ X5).mono ?_); rintro e w7 ⟨rfl, rfl⟩))
    | (go_at_call 17; ((with_reducible refine (ixsize_any p _ _ _ _ _ X5).mono ?_); rintro e w8 ⟨rfl, rfl⟩)))
  go_ret
  exact ⟨rfl, B5⟩
end Go.Proofs.Ytmckdeopljcdfaa

namespace Go.Proofs.Ytmckdeopljcdfaa
open Go Go.RowKit

theorem own_mono {w : World} {base : Nat} {e : TypeId} {size n : Nat} {v : Value} {xs : List Value} (h : w.ownsRow base e size v n xs) : w.ownsRow 0 e size v n xs :=
  ⟨h.1, h.2.imp id fun ⟨g, cap, cur, h1, _, h3⟩ => ⟨g, cap, cur, h1, Nat.zero_le _, h3⟩⟩

end Go.Proofs.Ytmckdeopljcdfaa

namespace Go.Proofs.Ytmckdeopljcdfaa
open Go Go.RowKit

theorem rbytes1_any (x : Int) (w : World) :
    Calls Try.prog 31 #[.int .i64 1, .int .i64 x] w fun e w' => e = .returned (.slice (some ⟨w.heap.size, 0, none⟩) 1 1) ∧ w' = w.alloc (.cells #[.int .u8 (x % 256)] 5) := by
  have hmk : ∀ w : World, (Instr.makeSlice 22 (.int .i64 1) (.int .i64 1)).run Try.prog w = .ok (.slice (some ⟨w.heap.size, 0, none⟩) 1 1) (w.alloc (.cells #[.int .u8 0] 5)) := fun w => by
    have h := run_make_row' (P := Try.prog) 22 5 (.int .u8 0) 1 Try.underlying22 u8Info rfl .i64 .i64 1 (by omega) (by omega) w
    rw [made_zeros] at h
    exact h
  go_enter Try.func31, Try.ntmps31
  go_wp2
  refine wp_loop_rounds 2 ?_
  rw [rounds_succ]
  go_wp2
  rw [rounds_succ]
  go_wp2
  go_ret
  exact ⟨rfl, rfl⟩
set_option maxRecDepth 100000 in
theorem rbytes2_any (x : Int) (w : World) :
    Calls Try.prog 31 #[.int .i64 2, .int .i64 x] w fun e w' => e = .returned (.slice (some ⟨w.heap.size, 0, none⟩) 2 2) ∧ w' = w.alloc (.cells #[.int .u8 (x / 256 % 256), .int .u8 (x % 256)] 5) := by
  have hmk : ∀ w : World, (Instr.makeSlice 22 (.int .i64 2) (.int .i64 2)).run Try.prog w = .ok (.slice (some ⟨w.heap.size, 0, none⟩) 2 2) (w.alloc (.cells #[.int .u8 0, .int .u8 0] 5)) := fun w => by
    have h := run_make_row' (P := Try.prog) 22 5 (.int .u8 0) 1 Try.underlying22 u8Info rfl .i64 .i64 2 (by omega) (by omega) w
    rw [made_zeros] at h
    exact h
  go_enter Try.func31, Try.ntmps31
  go_wp2
  refine wp_loop_rounds 3 ?_
  rw [rounds_succ]
  go_wp2
  rw [rounds_succ]
  go_wp2
  rw [rounds_succ]
  go_wp2
  go_ret
  exact ⟨rfl, rfl⟩
set_option maxRecDepth 100000 in
theorem rbytes4_any (x : Int) (w : World) :
    Calls Try.prog 31 #[.int .i64 4, .int .i64 x] w fun e w' => e = .returned (.slice (some ⟨w.heap.size, 0, none⟩) 4 4) ∧ w' = w.alloc (.cells #[.int .u8 (x / 16777216 % 256), .int .u8 (x / 65536 % 256), .int .u8 (x / 256 % 256), .int .u8 (x % 256)] 5) := by
  have hmk : ∀ w : World, (Instr.makeSlice 22 (.int .i64 4) (.int .i64 4)).run Try.prog w = .ok (.slice (some ⟨w.heap.size, 0, none⟩) 4 4) (w.alloc (.cells #[.int .u8 0, .int .u8 0, .int .u8 0, .int .u8 0] 5)) := fun w => by
    have h := run_make_row' (P := Try.prog) 22 5 (.int .u8 0) 1 Try.underlying22 u8Info rfl .i64 .i64 4 (by omega) (by omega) w
    rw [made_zeros] at h
    exact h
  go_enter Try.func31, Try.ntmps31
  go_wp2
  refine wp_loop_rounds 5 ?_
  rw [rounds_succ]
  go_wp2
  rw [rounds_succ]
  go_wp2
  rw [rounds_succ]
  go_wp2
  rw [rounds_succ]
  go_wp2
  rw [rounds_succ]
  go_wp2
  go_ret
  exact ⟨rfl, rfl⟩
end Go.Proofs.Ytmckdeopljcdfaa

namespace Go.Proofs.Ytmckdeopljcdfaa
open Go Go.RowKit Go.ChangeShapes Go.WideShapes Go.ChangeAt
set_option linter.unusedVariables false
set_option linter.unusedSimpArgs false

set_option maxRecDepth 100000 in
theorem rbytes3_any (x : Int) (w : World) :
    Calls Try.prog 31 #[.int .i64 3, .int .i64 x] w fun e w' => e = .returned (.slice (some ⟨w.heap.size, 0, none⟩) 3 3) ∧ w' = w.alloc (.cells #[.int .u8 (x / 65536 % 256), .int .u8 (x / 256 % 256), .int .u8 (x % 256)] 5) := by
  have hmk : ∀ w : World, (Instr.makeSlice 22 (.int .i64 3) (.int .i64 3)).run Try.prog w = .ok (.slice (some ⟨w.heap.size, 0, none⟩) 3 3) (w.alloc (.cells #[.int .u8 0, .int .u8 0, .int .u8 0] 5)) := fun w => by
    have h := run_make_row' (P := Try.prog) 22 5 (.int .u8 0) 1 Try.underlying22 u8Info rfl .i64 .i64 3 (by omega) (by omega) w
    rw [made_zeros] at h
    exact h
  go_enter Try.func31, Try.ntmps31
  go_wp2
  refine wp_loop_rounds 4 ?_
  rw [rounds_succ]
  go_wp2
  rw [rounds_succ]
  go_wp2
  rw [rounds_succ]
  go_wp2
  rw [rounds_succ]
  go_wp2
  go_ret
  exact ⟨rfl, rfl⟩

/-- Are lists too large to be looked at? -/
def bigI (Ls : List (List Value)) : Bool := (Ls.take 70000).any (fun L => decide (2097152 < L.length)) || (decide (70000 < Ls.length) || decide (4194304 < tot (Ls.take 70000)))
theorem bigI_no {Ls : List (List Value)} (h : bigI Ls = false) : Ls.length ≤ 70000 ∧ tot Ls ≤ 4194304 ∧ ∀ L ∈ Ls, L.length ≤ 2097152 := by
  unfold bigI at h
  simp only [Bool.or_eq_false_iff, decide_eq_false_iff_not, List.any_eq_false] at h
  obtain ⟨h1, h2, h3⟩ := h
  have h4 : Ls.take 70000 = Ls := List.take_of_length_le (by omega)
  rw [h4] at h1 h3
  refine ⟨by omega, by omega, fun L hL => ?_⟩
  have := h1 L hL
  simp at this
  exact this
set_option maxRecDepth 100000 in
set_option maxHeartbeats 1000000 in
theorem large_any (B : Nat) (A : Option Addr) (c : Nat) (Ls : List (List Value)) (w : World) (hB : B ≤ w.heap.size) (hl : RowsAt w B A Ls) (hm : ∀ L ∈ Ls, L.length ≤ 140737488355328) (hn : Ls.length ≤ 9223372036854775807) (r : Bool) (hr : bigI Ls = r) :
    Calls Try.prog 11 #[.slice A Ls.length c] w fun e w' => e = .returned (.bool r) ∧ w' = w := by
  have HL := Lib.hid hl
  have HM := Lib.hid hm
  have HR := Lib.hid hr
  obtain ⟨n, hnn⟩ : ∃ n, Ls.length = n := ⟨_, rfl⟩
  rw [hnn] at hn ⊢
  have HN := Lib.hid hnn
  clear hl hm hr hnn
  go_enter Try.func11, Try.ntmps11
  go_wp2
  go_loopw [3, 4] (fun sv iv wr => ∃ k : Nat, k ≤ n ∧ k ≤ 70000 ∧ iv = .int .i64 (k : Nat) ∧ sv = .int .i64 (tot (Ls.take k) : Nat) ∧ Hid (∀ L ∈ Ls.take k, L.length ≤ 2097152) ∧ Hid (tot (Ls.take k) ≤ k * 2097152) ∧ wr = w) (fun _ iv _ => n - (intOf iv).toNat)
  case atStart => exact ⟨0, Nat.zero_le _, by omega, rfl, rfl, Lib.hid (fun L h => by simp at h), Lib.hid (by simp [tot]), rfl⟩
  case round =>
    obtain ⟨k, hk, hk7, rfl, rfl, ha, ht, rfl⟩ := hrel
    have htb := ht.out
    by_cases hlt : k < n ∧ k < 70000
    · obtain ⟨hlt, hlt7⟩ := hlt
      have d1 : decide ((k : Int) < (n : Int)) = true := by simp; omega
      have d2 : decide ((k : Int) < 70000) = true := by simp; omega
      obtain ⟨M, hM⟩ : ∃ M, Ls[k]? = some M := ⟨Ls[k]'(by rw [HN.out]; exact hlt), List.getElem?_eq_getElem _⟩
      obtain ⟨b, o, Ai, ci, rfl, hbl, g0, _⟩ := HL.out.at' k M hM
      have hbr := Nat.lt_of_lt_of_le hbl hB
      have hmm := HM.out M (List.mem_of_getElem? hM)
      have hT : Ls.take (k + 1) = Ls.take k ++ [M] := by rw [List.take_add_one, hM]; rfl
      have HS := Lib.hid (show tot (Ls.take (k + 1)) = tot (Ls.take k) + M.length by rw [hT, tot_snoc])
      by_cases hbig : 2097152 < M.length
      · have HB := Lib.hid (show r = true by
          rw [← HR.out]
          unfold bigI
          rw [Bool.or_eq_true]
          left
          refine List.any_eq_true.2 ⟨M, ?_, by simpa using hbig⟩
          have h7 : (Ls.take 70000)[k]? = some M := by rw [List.getElem?_take, if_pos hlt7]; exact hM
          exact List.mem_of_getElem? h7)
        obtain ⟨ml, hml⟩ : ∃ ml, M.length = ml := ⟨_, rfl⟩
        rw [hml] at g0 hbig hmm
        have d3 : decide ((ml : Int) > 2097152) = true := by simp; omega
        clear hM hml hT HS
        go_wp2
        go_ret
        exact ⟨by rw [HB.out]; rfl, rfl⟩
      · have HA := Lib.hid (show ∀ L ∈ Ls.take (k + 1), L.length ≤ 2097152 from fun L hL => by
          rw [hT] at hL
          rcases List.mem_append.1 hL with h | h
          · exact ha.out L h
          · simp at h; subst h; omega)
        obtain ⟨ml, hml⟩ : ∃ ml, M.length = ml := ⟨_, rfl⟩
        rw [hml] at g0 hbig hmm HS
        have d3 : decide ((ml : Int) > 2097152) = false := by simp; omega
        generalize tot (Ls.take k) = tk at *
        have HT2 := Lib.hid (show tot (Ls.take (k + 1)) ≤ (k + 1) * 2097152 by rw [HS.out]; omega)
        clear hM hml hT
        go_wp2
        go_roundw
        case rel => exact ⟨k + 1, by omega, by omega, by go_num, by rw [HS.out]; go_num, HA, HT2, (by first | rfl | trivial)⟩
        case measure => simp [intOf]; omega
    · have HF := Lib.hid (show r = (decide (70000 < n) || decide (4194304 < tot (Ls.take k))) by
        rw [← HR.out]
        have hT7 : Ls.take 70000 = Ls.take k := by
          rcases Nat.lt_or_ge k 70000 with h | h
          · obtain rfl : k = n := by omega
            rw [List.take_of_length_le (by rw [HN.out]; omega), List.take_of_length_le (by rw [HN.out]; exact Nat.le_refl _)]
          · obtain rfl : k = 70000 := by omega
            rfl
        unfold bigI
        rw [hT7, HN.out]
        have h0 : (Ls.take k).any (fun L => decide (2097152 < L.length)) = false := by
          rw [List.any_eq_false]
          intro L hL
          have := ha.out L hL
          simp
          omega
        rw [h0, Bool.false_or])
      generalize tot (Ls.take k) = tk at *
      by_cases hA : k < n
      · have d1 : decide ((k : Int) < (n : Int)) = true := by simp; omega
        have d2 : decide ((k : Int) < 70000) = false := by simp; omega
        have d3 : decide ((n : Int) > 70000) = true := by simp; omega
        go_wp2
        go_ret
        refine ⟨?_, rfl⟩
        rw [HF.out, decide_eq_true (show 70000 < n by omega)]
        rfl
      · have d1 : decide ((k : Int) < (n : Int)) = false := by simp; omega
        have e70 : decide (70000 < n) = false := decide_eq_false (by omega)
        have d3 : decide ((n : Int) > 70000) = false := by simp; omega
        by_cases hs : 4194304 < tk
        all_goals
          go_wp2
          go_ret
          refine ⟨?_, rfl⟩
          rw [HF.out, e70]
          simp [hs]
          try omega
section
variable {H : Type} {enc : TypeId × Value → H} {P : Program}
theorem open_rows {w : World} {t u e : TypeId} {base : Nat} {spare : Nat → Bool} {held : Bool} {r : Reach} {b0 : Nat} {v : Value} {d : DataW H} {p : List MemPlace}
    (ht : P.underlying t = some (.slice u)) (hu : P.underlying u = some (.slice e)) (hcu : P.cellsOf u = 1) (he : P.underlying e = some (.int .u8)) (hC : P.cellsOf e = 1) (hb : P.bytesOf e = 1)
    (hv : Value.okWide P w r b0 t v) (h : DataW.Trod enc P w base spare held t v d p) (hz : ∀ m ∈ d.weights P t, m ≤ reachBytes) :
    ∃ (A : Option Addr) (c : Nat) (Ls : List (List Value)), v = .slice A Ls.length c ∧ RowsAt w w.heap.size A Ls ∧ (∀ L ∈ Ls, L.length ≤ 140737488351232 ∧ Bytes8 L) ∧ Ls.length ≤ 9223372036854775807 := by
  obtain ⟨a0, len, cap, rfl⟩ := okWide_slice ht hv
  obtain ⟨fuel, hf⟩ := h
  rcases Deep.open_slice ht hf with ⟨hcs, _⟩ | ⟨a, len', cap', m, n, D, Pl, hcs, hbb, hl, hm, hmm, hx, hi⟩
  · simp [Value.cells] at hcs
    obtain ⟨rfl, rfl, rfl⟩ := hcs
    exact ⟨none, 0, [], rfl, ⟨fun i L h => by simp at h⟩, fun L h => by simp at h, by simp⟩
  · simp [Value.cells] at hcs
    obtain ⟨rfl, rfl, rfl⟩ := hcs
    unfold maxLen at hm
    have hlm : len ≤ m := by split at hmm <;> omega
    obtain ⟨Ls, hLl, hLs⟩ := choose_list (n := len) (p := fun i (L : List Value) => (∃ Ai ci, w.cell? (a.add i) = some (.slice Ai L.length ci) ∧ Lists w w.heap.size Ai L) ∧ L.length ≤ 140737488351232 ∧ Bytes8 L) fun i hil => by
      obtain ⟨cs', hc, ht'⟩ := hi i (by omega)
      rw [hcu, Nat.mul_one] at hc
      obtain ⟨_, hcl, hat⟩ := World.cells?_some hc
      match cs', hcl with
      | [c0], _ =>
        obtain ⟨Ai, n', ci, zs, hv1, hlen, hnc, hcm, hL, hwf, hw⟩ := open_nums hu he hC ht'
        subst hv1
        have a0 : w.cell? (a.add i) = some (.slice Ai (zs.map (Value.int .u8)).length ci) := by
          have := hat 0 (by omega)
          rw [Go.Deep.add_add] at this
          rw [List.length_map, hlen]
          exact this
        have h2 := hw reachBytes fun m hm => hz m (by
          simp only [Prod.mk.injEq] at hx
          rw [hx.1]
          simp only [DataW.weights, ht]
          exact List.mem_cons_of_mem _ (List.mem_append_left _ (weights_all hm (List.mem_map.2 ⟨i, List.mem_range.2 hil, rfl⟩))))
        rw [hb] at h2
        have hr : reachBytes ≤ 140737488351232 := by decide
        exact ⟨zs.map (Value.int .u8), ⟨Ai, ci, a0, hL⟩, by rw [List.length_map]; omega, bytes_of_wf hwf⟩
    refine ⟨some a, cap, Ls, by rw [hLl], ⟨fun i L hL => ?_⟩, fun L hL => ?_, by omega⟩
    · obtain ⟨⟨Ai, ci, h1, h2⟩, _⟩ := hLs i L hL
      have hlt := cell_lt h1
      obtain ⟨b, o, s⟩ := a
      have hs : s = none := by
        obtain ⟨L0, hL0⟩ : ∃ L0, Ls[0]? = some L0 := ⟨Ls[0]'(by have := (List.getElem?_eq_some_iff.1 hL).1; omega), List.getElem?_eq_getElem _⟩
        obtain ⟨⟨_, _, h4, _⟩, _⟩ := hLs 0 L0 hL0
        simpa [Addr.add] using World.cell?_spot h4
      subst hs
      rw [addr_plain] at h1 hlt
      exact ⟨b, o, Ai, ci, rfl, hlt, h1, h2⟩
    · obtain ⟨i, hi⟩ := List.mem_iff_getElem?.1 hL
      exact (hLs i L hi).2
end
end Go.Proofs.Ytmckdeopljcdfaa

namespace Go.Proofs.Ytmckdeopljcdfaa
open Go Go.RowKit

section
variable {P : Program} (w : World)

theorem run_append_src_wide (base : Nat) (t ty e : TypeId) (i : TypeInfo) (z : Value) (size bytes : Nat) (ht : P.underlying t = some (.slice e)) (hi : P.info? e = some i) (hz : i.zero = some z)
    (hsize : i.size = size) (hby : i.bytes = bytes) (hzs : z.cells.size = size) (hsz : 0 < size) (v : Value) (n : Nat) (xs : List Value) (hown : w.ownsRow base e size v n xs)
    (B : Nat) (A : Option Addr) (m c : Nat) (news : List Value) (hr : Lists w B A news) (hl : news.length = m * size) (h1 : ∀ u ∈ news, u.oneCell' = true)
    (h63 : n + m ≤ maxLen) (hbytes : ((n + m) + (n + m) / 4 + 192) * bytes ≤ 281474976710656) (hbase : base ≤ w.heap.size) :
    ∃ v' w', (Builtin.append_ #[t, t] ty #[v, .slice A m c]).run P w = .ok v' w' ∧ w'.ownsRow base e size v' (n + m) (xs ++ news) ∧ w.grownBy w' v.ownBlock := by
  cases A with
  | none =>
    have hn : news = [] := hr.nil rfl
    subst hn
    have hm : m = 0 := by
      have : m * size = 0 := by simpa using hl.symm
      rcases Nat.mul_eq_zero.1 this with h | h
      · exact h
      · omega
    subst hm
    refine ⟨v, w, ?_, by simpa using hown, World.grownBy.refl w _⟩
    rcases hown.2 with ⟨rfl, rfl⟩ | ⟨g, cap, cur, rfl, _, _, hc, _⟩
    · simp [Builtin.append_, run_underlying ht, sizeOf, typeInfo, hi, Builtin.lenOf, Builtin.firstCells]
    · simp [Builtin.append_, run_underlying ht, sizeOf, typeInfo, hi, Builtin.lenOf, Builtin.firstCells, hc, storeCells]
  | some ad =>
    obtain ⟨v', w', hrun, h2, h3, _⟩ := run_append_own_wide (P := P) w base t ty e i z size bytes ht hi hz hsize hby hzs hsz v n xs hown ad m c news hl (hr.cell ad rfl) h1 h63 hbytes hbase
    exact ⟨v', w', hrun, h2, h3⟩

theorem wp_append_src_wide {o : Oper} {a : Act} {K : Act → World → Prop} {Q : Exit → Act → World → Prop} (s x : Operand) (t : TypeId)
    (ho : o.op = .call { callee := .builtin .append, args := #[s, x], argTypes := #[t, t] })
    (base : Nat) (e : TypeId) (i : TypeInfo) (z : Value) (size bytes : Nat) (ht : P.underlying t = some (.slice e)) (hi : P.info? e = some i) (hz : i.zero = some z)
    (hsize : i.size = size) (hby : i.bytes = bytes) (hzs : z.cells.size = size) (hsz : 0 < size)
    (v : Value) (n : Nat) (xs : List Value) (hs : a.eval s = v) (hown : w.ownsRow base e size v n xs)
    (B : Nat) (A : Option Addr) (m c : Nat) (news : List Value) (hx : a.eval x = .slice A m c) (hr : Lists w B A news) (hl : news.length = m * size) (h1 : ∀ u ∈ news, u.oneCell' = true)
    (h63 : n + m ≤ maxLen) (hbytes : ((n + m) + (n + m) / 4 + 192) * bytes ≤ 281474976710656) (hbase : base ≤ w.heap.size)
    (h : ∀ v' w', w'.ownsRow base e size v' (n + m) (xs ++ news) → w.grownBy w' v.ownBlock → K (a.put o.dst v') w') : o.wp P a w K Q := by
  obtain ⟨v', w', hrun, h2, h3⟩ := run_append_src_wide (P := P) w base t o.type e i z size bytes ht hi hz hsize hby hzs hsz v n xs hown B A m c news hr hl h1 h63 hbytes hbase
  unfold Oper.wp execOp
  simp only [ho, resolve, invoke, builtin, Sem.run_bind, Sem.run_pure, Result.andThen_ok, List.map_toArray, List.map_cons, List.map_nil, hs, hx, hrun]
  exact h v' w' h2 h3

theorem wpList_append_src_wide {ops : Array Oper} {rest : List Oper} {o : Oper} {a : Act} {Q : Exit → Act → World → Prop} (hgd : o.guard = none) (s x : Operand) (t : TypeId)
    (ho : o.op = .call { callee := .builtin .append, args := #[s, x], argTypes := #[t, t] })
    (base : Nat) (e : TypeId) (i : TypeInfo) (z : Value) (size bytes : Nat) (ht : P.underlying t = some (.slice e)) (hi : P.info? e = some i) (hz : i.zero = some z)
    (hsize : i.size = size) (hby : i.bytes = bytes) (hzs : z.cells.size = size) (hsz : 0 < size)
    (v : Value) (n : Nat) (xs : List Value) (hs : a.eval s = v) (hown : w.ownsRow base e size v n xs)
    (B : Nat) (A : Option Addr) (m c : Nat) (news : List Value) (hx : a.eval x = .slice A m c) (hr : Lists w B A news) (hl : news.length = m * size) (h1 : ∀ u ∈ news, u.oneCell' = true)
    (h63 : n + m ≤ maxLen) (hbytes : ((n + m) + (n + m) / 4 + 192) * bytes ≤ 281474976710656) (hbase : base ≤ w.heap.size)
    (h : ∀ v' w', w'.ownsRow base e size v' (n + m) (xs ++ news) → w.grownBy w' v.ownBlock → wpList P ops Q rest (a.put o.dst v') w') : wpList P ops Q (o :: rest) a w :=
  wpList_plain hgd fun _ hK => wp_append_src_wide w s x t ho base e i z size bytes ht hi hz hsize hby hzs hsz v n xs hs hown B A m c news hx hr hl h1 h63 hbytes hbase fun v' w' h2 h3 => hK _ _ (h v' w' h2 h3)
end

end Go.Proofs.Ytmckdeopljcdfaa

namespace Go.Proofs.Ytmckdeopljcdfaa
open Go Go.RowKit
set_option linter.unusedVariables false
set_option linter.unusedSimpArgs false

/-- A number's bytes in new memory. -/
def NewB (n : Nat) (x : Int) (w : World) (e : Ending) (w' : World) : Prop := ∃ b, e = .returned (.slice (some ⟨b, 0, none⟩) n n) ∧ w'.ownsRow w.heap.size 5 1 (.slice (some ⟨b, 0, none⟩) n n) n (beN n x) ∧ Lists w' w'.heap.size (some ⟨b, 0, none⟩) (beN n x) ∧ Below w.heap.size w w'
theorem newB_of (n : Nat) (x : Int) (w : World) (cs : List Value) (hn : cs.length = n) (hx : beN n x = cs) (e : Ending) (w' : World) (h : e = .returned (.slice (some ⟨w.heap.size, 0, none⟩) n n) ∧ w' = w.alloc (.cells cs.toArray 5)) (h3 : n ≤ 1000) : NewB n x w e w' := by
  obtain ⟨rfl, rfl⟩ := h
  refine ⟨w.heap.size, rfl, ?_, ?_, (Below.refl _ _).alloc (Nat.le_refl _) _⟩
  · rw [hx]
    exact ⟨by rw [hn, Nat.mul_one], .inr ⟨w.heap.size, n, cs.toArray, rfl, Nat.le_refl _, heap_alloc_new w _, Nat.le_refl _, by unfold maxLen; omega, by simp [hn], by rw [Nat.mul_one, ← hn]; simp⟩⟩
  · rw [hx]
    exact (lists_row w cs 5).more (by simp)
theorem rbytesN (n : Nat) (h1 : 1 ≤ n) (h3 : n ≤ 3) (x : Int) (w : World) : Calls Try.prog 31 #[.int .i64 (n : Nat), .int .i64 x] w (NewB n x w) := by
  match n, h1, h3 with
  | 1, _, _ => exact (rbytes1_any x w).mono fun e w' h => newB_of 1 x w [.int .u8 (x % 256)] rfl rfl e w' h (by decide)
  | 2, _, _ => exact (rbytes2_any x w).mono fun e w' h => newB_of 2 x w [.int .u8 (x / 256 % 256), .int .u8 (x % 256)] rfl rfl e w' h (by decide)
  | 3, _, _ => exact (rbytes3_any x w).mono fun e w' h => newB_of 3 x w [.int .u8 (x / 65536 % 256), .int .u8 (x / 256 % 256), .int .u8 (x % 256)] rfl rfl e w' h (by decide)
/-- What the reference's Put answers. -/
def RPost (w : World) (Ls : List (List Value)) (e : Ending) (w' : World) : Prop := (okIx Ls = true → ∃ A c, e = .returned (.tuple #[.slice A (putIx Ls).length c, .bool true]) ∧ Hid (Lists w' w'.heap.size A (putIx Ls)) ∧ Below w.heap.size w w') ∧ (okIx Ls = false → e = .returned (.tuple #[.slice none 0 0, .bool false]) ∧ Below w.heap.size w w')
theorem hd_len1 (Ls : List (List Value)) (h0 : Ls.length ≠ 0) (ht : tot Ls ≤ 8388608) : (hdE Ls).length = 3 + (Ls.length + 1) * wdN (1 + tot Ls) := by
  unfold hdE
  rw [if_neg h0]
  obtain ⟨h1, h3⟩ := wd_le (x := 1 + tot Ls) (by omega) (by omega)
  unfold offE
  generalize wdN (1 + tot Ls) = wd at *
  have hlen : ∀ l : List Nat, (l.flatMap fun o => beN wd ((o : Nat) : Int)).length = l.length * wd := fun l => by
    induction l with
    | nil => simp
    | cons x l ih => rw [List.flatMap_cons, List.length_append, ih, beN_len h1 h3, List.length_cons, Nat.add_mul]; omega
  rw [List.length_append, List.length_append, hlen, offT_len]
  simp [be2, be1]
  omega
set_option maxRecDepth 100000 in
theorem rput_many (A : Option Addr) (c n : Nat) (w : World) (hn : 65535 < n) : Calls Try.prog 13 #[.slice A n c] w fun e w' => e = .returned (.tuple #[.slice none 0 0, .bool false]) ∧ Below w.heap.size w w' := by
  have d0 : decide ((n : Int) > 65535) = true := by simp; omega
  go_enter Try.func13, Try.ntmps13
  go_wp2
  exact bodyPost_ret (v := .tuple #[.slice none 0 0, .bool false]) (by simp [results, Try.results13, go_sem]) rfl ⟨rfl, Below.refl _ _⟩
set_option maxRecDepth 100000 in
theorem rput_zero (A : Option Addr) (c : Nat) (w : World) : Calls Try.prog 13 #[.slice A 0 c] w fun e w' => ∃ A c, e = .returned (.tuple #[.slice A 2 c, .bool true]) ∧ Hid (Lists w' w'.heap.size A [.int .u8 0, .int .u8 0]) ∧ Below w.heap.size w w' := by
  have hl := Lib.hid ((lists_row w [.int .u8 0, .int .u8 0] 5).more (Nat.le_of_eq (show w.heap.size + 1 = (w.alloc (.cells [.int .u8 0, .int .u8 0].toArray 5)).heap.size by simp)))
  have B := (Below.refl w.heap.size w).alloc (Nat.le_refl _) (.cells #[.int .u8 0, .int .u8 0] 5)
  go_enter Try.func13, Try.ntmps13
  go_wp2
  exact bodyPost_ret (v := .tuple #[.slice (some ⟨w.heap.size, 0, none⟩) 2 2, .bool true]) (by simp [results, Try.results13, go_sem]) rfl ⟨some ⟨w.heap.size, 0, none⟩, 2, rfl, hl, B⟩
set_option maxRecDepth 100000 in
set_option maxHeartbeats 4000000 in
theorem rput_some (A : Option Addr) (c n : Nat) (Ls : List (List Value)) (w : World) (hl : RowsAt w w.heap.size A Ls) (h8 : ∀ L ∈ Ls, Bytes8 L) (hnn : Ls.length = n) (h0 : 0 < n) (hn : n ≤ 65535) (hm : ∀ L ∈ Ls, L.length ≤ 2097152) (ht : tot Ls ≤ 4194304) (Q : Ending → World → Prop)
    (hok : okIx Ls = true → ∀ A c w', Lists w' w'.heap.size A (putIx Ls) → Below w.heap.size w w' → Q (.returned (.tuple #[.slice A (putIx Ls).length c, .bool true])) w') (hno : okIx Ls = false → ∀ w', Below w.heap.size w w' → Q (.returned (.tuple #[.slice none 0 0, .bool false])) w') :
    Calls Try.prog 13 #[.slice A n c] w Q := by
  have hpl := putIx_len Ls
  have hhd := hd_len1 Ls (by omega) (by omega)
  obtain ⟨wd, hwd⟩ : ∃ wd, wdN (1 + tot Ls) = wd := ⟨_, rfl⟩
  have hw13 := wd_le (x := 1 + tot Ls) (by omega) (by omega)
  have hsz : (wd = 1 ∧ 1 + tot Ls < 256) ∨ (wd = 2 ∧ 256 ≤ 1 + tot Ls ∧ 1 + tot Ls < 65536) ∨ (wd = 3 ∧ 65536 ≤ 1 + tot Ls ∧ 1 + tot Ls < 16777216) := by
    rw [← hwd]
    unfold wdN
    repeat' split
    all_goals omega
  have hhE : hdE Ls = be2 (n : Nat) ++ be1 (wd : Nat) ++ (offT 1 Ls).flatMap fun o => beN wd ((o : Nat) : Int) := by unfold hdE offE; rw [hnn, if_neg (by omega), hwd, List.append_assoc]
  rw [hwd] at hw13 hhd
  rw [hnn] at hhd
  obtain ⟨mm, hmm⟩ : ∃ mm, (n + 1) * wd = mm := ⟨_, rfl⟩
  have hmi : ((n : Int) + 1) * (wd : Int) = (mm : Int) := by rw [← hmm]; push_cast; rfl
  have hmb : mm ≤ 196608 := by rw [← hmm]; exact Nat.le_trans (Nat.mul_le_mul (show n + 1 ≤ 65536 by omega) hw13.2) (by decide)
  rw [hmm] at hhd
  have hmlo : 2 ≤ mm := by rw [← hmm]; exact Nat.le_trans (show 2 ≤ 2 * 1 by decide) (Nat.mul_le_mul (by omega) hw13.1)
  have hokE : okIx Ls = decide (3 + mm + tot Ls ≤ 1048576) := by
    unfold okIx
    rw [hnn, hpl, hhd, decide_eq_true hn, Bool.true_and]
  have HL := Lib.hid hl
  have H8 := Lib.hid h8
  have HN := Lib.hid hnn
  have HM := Lib.hid hm
  have HT := Lib.hid ht
  have HOK := Lib.hid hok
  have HNO := Lib.hid hno
  have HE := Lib.hid hokE
  have HH := Lib.hid hhE
  have HW := Lib.hid hw13
  have HHD := Lib.hid hhd
  have HSZ := Lib.hid hsz
  have HMM := Lib.hid hmm
  clear hl h8 hnn hm hok hno hokE hhE hpl hhd hwd hsz hmm
  obtain ⟨i0, hi, hz0, hz1, hz2⟩ := info_parts u8Info
  have d0 : decide ((n : Int) > 65535) = false := by simp; omega
  have d00 : ((n : Int) == 0) = false := by simp; omega
  go_enter Try.func13, Try.ntmps13
  go_upto_block 0 with (fail)
  go_cut [4] from 11 (fun sv wx => sv = .int .i64 ((1 + tot Ls : Nat) : Int) ∧ wx = w)
  case first =>
    go_wp2
    go_loopw [4, 5] (fun sv iv wr => ∃ k : Nat, k ≤ n ∧ iv = .int .i64 (k : Nat) ∧ sv = .int .i64 ((1 + tot (Ls.take k) : Nat) : Int) ∧ wr = w) (fun _ iv _ => n - (intOf iv).toNat)
    case atStart => exact ⟨0, Nat.zero_le _, rfl, by simp [tot], rfl⟩
    case round =>
      obtain ⟨k, hk, rfl, rfl, rfl⟩ := hrel
      have htk := tot_take Ls k
      by_cases hlt : k < n
      · have d1 : decide ((k : Int) < (n : Int)) = true := by simp; omega
        obtain ⟨M, hM⟩ : ∃ M, Ls[k]? = some M := ⟨Ls[k]'(by rw [HN.out]; exact hlt), List.getElem?_eq_getElem _⟩
        obtain ⟨b, o, Ai, ci, rfl, hbr, g0, _⟩ := HL.out.at' k M hM
        have hmm2 := HM.out M (List.mem_of_getElem? hM)
        have hT : Ls.take (k + 1) = Ls.take k ++ [M] := by rw [List.take_add_one, hM]; rfl
        have HS := Lib.hid (show (1 + tot (Ls.take (k + 1)) : Nat) = 1 + tot (Ls.take k) + M.length by rw [hT, tot_snoc]; omega)
        have htl : tot (Ls.take k) + M.length ≤ tot Ls := by
          have := tot_take Ls (k + 1)
          rw [hT, tot_snoc] at this
          exact this
        obtain ⟨ml, hml⟩ : ∃ ml, M.length = ml := ⟨_, rfl⟩
        rw [hml] at g0 HS hmm2 htl
        obtain ⟨e0, he0⟩ : ∃ e0, 1 + tot (Ls.take k) = e0 := ⟨_, rfl⟩
        have HE0 := Lib.hid he0
        rw [he0] at HS ⊢
        have htt := HT.out
        have hb0 : e0 + ml ≤ 4194305 := by omega
        by_cases hA : 1048576 < ml
        · have HBad := Lib.hid (show okIx Ls = false by rw [HE.out]; exact decide_eq_false (by omega))
          have d3 : decide ((ml : Int) > 1048576) = true := by simp; omega
          clear hM hml hT he0 htk
          go_wp2
          exact HNO.out HBad.out _ (Below.refl _ _)
        · by_cases hB : 1048576 < e0
          · have HBad := Lib.hid (show okIx Ls = false by rw [HE.out]; exact decide_eq_false (by omega))
            have d3 : decide ((ml : Int) > 1048576) = false := by simp; omega
            have d4 : decide ((e0 : Int) > 1048576) = true := by simp; omega
            clear hM hml hT he0 htk
            go_wp2
            exact HNO.out HBad.out _ (Below.refl _ _)
          · have d3 : decide ((ml : Int) > 1048576) = false := by simp; omega
            have d4 : decide ((e0 : Int) > 1048576) = false := by simp; omega
            clear hM hml hT he0 htk
            go_wp2
            go_roundw
            case rel => exact ⟨k + 1, by omega, by go_num, by rw [HS.out]; go_num, (by first | rfl | trivial)⟩
            case measure => simp [intOf]; omega
      · obtain rfl : k = n := by omega
        have d1 : decide ((k : Int) < (k : Int)) = false := by simp
        have hTk : Ls.take k = Ls := List.take_of_length_le (by rw [HN.out]; exact Nat.le_refl _)
        rw [hTk]
        go_wp2
        go_meet
        case rel => exact ⟨rfl, rfl⟩
  case rest =>
  obtain ⟨rfl, hwx⟩ := hcut
  have hwx2 := hwx.symm
  subst hwx2
  obtain ⟨tt, htt⟩ : ∃ tt, tot Ls = tt := ⟨_, rfl⟩
  have HTT := Lib.hid htt
  have hbt := HT.out
  have hsz := HSZ.out
  rw [htt] at hbt hsz ⊢
  clear htt
  obtain ⟨S, hS⟩ : ∃ S : Int, ((1 + tt : Nat) : Int) = S := ⟨_, rfl⟩
  rw [hS]
  have HS := Lib.hid hS
  go_upto_block 2 with (fail)
  go_cut [6] from 11 (fun sv wx => sv = .int .i64 (wd : Nat) ∧ wx = w)
  case first =>
    rcases hsz with ⟨rfl, h1⟩ | ⟨rfl, h1, h2⟩ | ⟨rfl, h1, h2⟩
    · have e1 : S < 256 := by omega
      clear h1 hbt hS hmb hmi
      go_wp2
      refine wp_loop_rounds 1 ?_
      rw [rounds_succ]
      go_wp2
      go_meet
      case rel => exact ⟨rfl, rfl⟩
    · have e1 : (256 : Int) ≤ S := by omega
      have e2 : S < 65536 := by omega
      clear h1 h2 hbt hS hmb hmi
      go_wp2
      refine wp_loop_rounds 2 ?_
      rw [rounds_succ]
      go_wp2
      rw [rounds_succ]
      go_wp2
      go_meet
      case rel => exact ⟨rfl, rfl⟩
    · have e1 : (256 : Int) ≤ S := by omega
      have e2 : (65536 : Int) ≤ S := by omega
      have e3 : S < 16777216 := by omega
      clear h1 h2 hbt hS hmb hmi
      go_wp2
      refine wp_loop_rounds 3 ?_
      rw [rounds_succ]
      go_wp2
      rw [rounds_succ]
      go_wp2
      rw [rounds_succ]
      go_wp2
      go_meet
      case rel => exact ⟨rfl, rfl⟩
  case rest =>
  obtain ⟨rfl, hwx⟩ := hcut
  have hwx2 := hwx.symm
  subst hwx2
  have hEE := HE.out
  rw [HTT.out] at hEE
  by_cases hbad : ¬ 3 + mm + tt ≤ 1048576
  · have hgood := hbad
    have HBad := Lib.hid (show okIx Ls = false by rw [hEE]; exact decide_eq_false hgood)
    have d5 : decide ((3 : Int) + (mm : Int) + S - 1 > 1048576) = true := by simp; omega
    have hSb : S ≤ 4194305 := by omega
    have hSl : 1 ≤ S := by omega
    clear hEE hS
    go_wp2
    exact HNO.out HBad.out _ (Below.refl _ _)
  have hgood := Decidable.of_not_not hbad
  have HGood := Lib.hid (show okIx Ls = true by rw [hEE]; exact decide_eq_true hgood)
  have d5 : decide ((3 : Int) + (mm : Int) + S - 1 > 1048576) = false := by simp; omega
  have hSb : S ≤ 4194305 := by omega
  have hSl : 1 ≤ S := by omega
  clear hEE hw13 hsz hS
  have hlb : ∀ x : Int, (beN wd x).length = wd * 1 := fun x => by rw [Nat.mul_one]; exact beN_len HW.out.1 HW.out.2 x
  have HLB := Lib.hid hlb
  have RB2 : ∀ W, Calls Try.prog 31 #[.int .i64 2, .int .i64 (n : Nat)] W (NewB 2 (n : Nat) W) := fun W => rbytesN 2 (by decide) (by decide) (n : Nat) W
  have RBW : ∀ W x, Calls Try.prog 31 #[.int .i64 (wd : Nat), .int .i64 x] W (NewB wd x W) := fun W x => rbytesN wd HW.out.1 HW.out.2 x W
  clear hlb
  go_upto_block 4 with (first
    | (go_at_call 31; ((with_reducible refine (RB2 _).mono ?_); rintro e w1 ⟨b1, rfl, own1, l1, B1⟩))
    | (at_builtin; refine wpList_append_src_wide _ rfl (.tmp 64) (.tmp 67) 22 rfl w.heap.size 5 i0 (.int .u8 0) 1 1 Try.underlying22 hi hz0 hz1 hz2 rfl (by decide) (.slice (some ⟨b1, 0, none⟩) 2 2) 2 (beN 2 (n : Nat)) rfl (own_only own1 ((Only.refl w1 []).alloc _) (fun _ _ h => (nomatch h))) (w1.heap.size + 1) (some ⟨w1.heap.size, 0, none⟩) 1 1 [.int .u8 ((wd : Int) % 256)] rfl (lists_row w1 _ _) rfl (by simp [Value.oneCell']) (by simp only [maxLen]; omega) (by omega) (by have := B1.size; simp; omega) ?_; intro v2 w2 own2 hg2; have B2 := (B1.alloc B1.size (.cells #[.int .u8 ((wd : Int) % 256)] 5)).grown hg2 (by have := B1.size; simp; omega) (fun b hb => own_lowI own1 b (by simp [blk, hb])))
    | (go_at_call 31; ((with_reducible refine (RBW w2 1).mono ?_); rintro e w3 ⟨b3, rfl, own3, l3, B3⟩; have own2 := own_only own2 (Only.of_below B3 []) (fun _ _ h => (nomatch h)); have B23 := B2.trans (B3.mono B2.size)))
    | (at_builtin; refine wpList_append_src_wide _ rfl (.tmp 69) (.tmp 72) 22 rfl w.heap.size 5 i0 (.int .u8 0) 1 1 Try.underlying22 hi hz0 hz1 hz2 rfl (by decide) v2 3 _ rfl own2 w3.heap.size (some ⟨b3, 0, none⟩) wd wd (beN wd 1) rfl l3 (HLB.out 1) (beN_bytes wd 1).one (by have := HW.out; simp only [maxLen]; omega) (by have := HW.out; omega) B23.size ?_; intro v4 w4 own4 hg4; have B4 := B23.grown hg4 B23.size (fun b hb => own_lowI own2 b (by simp [blk, hb]))))
  have HX0 := Lib.hid (show hdE Ls = beN 2 (n : Nat) ++ [.int .u8 ((wd : Int) % 256)] ++ (offT 1 Ls).flatMap fun o => beN wd ((o : Nat) : Int) from HH.out)
  have hkw : ∀ k, k ≤ n → (k + 1) * wd ≤ 196608 := fun k hk => Nat.le_trans (Nat.mul_le_mul (show k + 1 ≤ 65536 by omega) HW.out.2) (by decide)
  have HKW := Lib.hid hkw
  clear hkw
  go_wp2
  go_loopw [7, 8, 9] (fun ov av iv wr => ∃ k m : Nat, k ≤ n ∧ iv = .int .i64 (k : Nat) ∧ av = .int .i64 ((1 + tot (Ls.take k) : Nat) : Int) ∧ wr.ownsRow w.heap.size 5 1 ov m (beN 2 (n : Nat) ++ [.int .u8 ((wd : Int) % 256)] ++ (offT 1 (Ls.take k)).flatMap fun o => beN wd ((o : Nat) : Int)) ∧ Hid (m = 3 + (k + 1) * wd) ∧ Below w.heap.size w wr) (fun _ _ iv _ => n - (intOf iv).toNat)
  case atStart => exact ⟨0, 3 + wd, Nat.zero_le _, rfl, by simp [tot], by simpa [offT] using own4, Lib.hid (by omega), B4⟩
  case round =>
    obtain ⟨k, m, hk, rfl, rfl, hown, hme, hb⟩ := hrel
    clear own4 own2 own1 l1 l3 own3
    by_cases hlt : k < n
    · have d1 : decide ((k : Int) < (n : Int)) = true := by simp; omega
      obtain ⟨M, hM⟩ : ∃ M, Ls[k]? = some M := ⟨Ls[k]'(by rw [HN.out]; exact hlt), List.getElem?_eq_getElem _⟩
      obtain ⟨b, o, Ai, ci, rfl, hbl, c0, _⟩ := HL.out.at' k M hM
      have g0 := (hb.cell (p := ⟨b, o + k, none⟩) hbl).trans c0
      have hbr := Nat.lt_of_lt_of_le hbl hb.size
      have hT : Ls.take (k + 1) = Ls.take k ++ [M] := by rw [List.take_add_one, hM]; rfl
      have HS2 := Lib.hid (show (1 + tot (Ls.take (k + 1)) : Nat) = 1 + tot (Ls.take k) + M.length by rw [hT, tot_snoc]; omega)
      have htl : 1 + tot (Ls.take k) + M.length ≤ 4194305 := by
        have h1 := tot_take Ls (k + 1)
        rw [hT, tot_snoc] at h1
        have h2 := HT.out
        omega
      have HO := Lib.hid (show (offT 1 (Ls.take (k + 1))).flatMap (fun o => beN wd ((o : Nat) : Int)) = ((offT 1 (Ls.take k)).flatMap fun o => beN wd ((o : Nat) : Int)) ++ beN wd ((1 + tot (Ls.take k) + M.length : Nat) : Int) by rw [hT, offT_snoc, List.flatMap_append]; simp)
      have hkw := HKW.out k hk
      have hm2 := hme.out
      have hmb2 : m ≤ 196611 := by omega
      have HM2 := Lib.hid (show m + wd = 3 + (k + 1 + 1) * wd by rw [hm2, Nat.add_mul (k + 1) 1 wd]; omega)
      generalize (offT 1 (Ls.take k)).flatMap (fun o => beN wd ((o : Nat) : Int)) = ys at *
      obtain ⟨e0, he0⟩ : ∃ e0, 1 + tot (Ls.take k) = e0 := ⟨_, rfl⟩
      obtain ⟨ml, hml⟩ : ∃ ml, M.length = ml := ⟨_, rfl⟩
      rw [hml] at c0 g0 HS2 HO htl
      rw [he0] at HS2 HO htl ⊢
      have s1 : ((e0 + ml : Nat) : Int) = (e0 : Int) + (ml : Int) := by omega
      rw [s1] at HO
      have hs0 := hb.size
      clear hT hM c0 hml he0 hm2 hkw s1
      go_wp2_with (first
        | (go_at_call 31; ((with_reducible refine (RBW wr _).mono ?_); rintro e w5 ⟨b5, rfl, own5, l5, B5⟩; have own6 := own_only hown (Only.of_below B5 []) (fun _ _ h => (nomatch h)); have B55 := hb.trans (B5.mono hb.size)))
        | (at_builtin; refine wpList_append_src_wide _ rfl (.tmp 87) (.tmp 90) 22 rfl w.heap.size 5 i0 (.int .u8 0) 1 1 Try.underlying22 hi hz0 hz1 hz2 rfl (by decide) u7 m _ rfl own6 w5.heap.size (some ⟨b5, 0, none⟩) wd wd _ rfl l5 (HLB.out _) (beN_bytes wd _).one (by have := HW.out; simp only [maxLen]; omega) (by have := HW.out; omega) B55.size ?_; intro v6 w6 own7 hg6; have B6 := B55.grown hg6 B55.size (fun b hb => own_lowI own6 b (by simp [blk, hb]))))
      go_roundw
      case rel => exact ⟨k + 1, m + wd, by omega, by go_num, by rw [HS2.out]; go_num, by rw [HO.out, ← List.append_assoc]; exact own7, HM2, B6⟩
      case measure => simp [intOf]; omega
    · obtain rfl : k = n := by omega
      have d1 : decide ((k : Int) < (k : Int)) = false := by simp
      have hTk : Ls.take k = Ls := List.take_of_length_le (by rw [HN.out]; exact Nat.le_refl _)
      rw [hTk] at hown ⊢
      rw [← HX0.out] at hown
      have hm3 : m = 3 + mm := by rw [hme.out, HMM.out]
      subst hm3
      have hown9 := hown
      have hb9 := hb
      clear hTk hme hown hb
      generalize 1 + tot Ls = tz
      go_wp2
      go_loopw [7, 10] (fun ov iv wr => ∃ j m : Nat, j ≤ k ∧ iv = .int .i64 (j : Nat) ∧ wr.ownsRow w.heap.size 5 1 ov m (hdE Ls ++ (Ls.take j).flatten) ∧ Hid (m = 3 + mm + tot (Ls.take j)) ∧ Below w.heap.size w wr) (fun _ iv _ => k - (intOf iv).toNat)
      case atStart => exact ⟨0, 3 + mm, Nat.zero_le _, rfl, by simpa using hown9, Lib.hid (by simp [tot]), hb9⟩
      case round =>
        obtain ⟨j, m, hj, rfl, hown, hme, hb⟩ := hrel
        clear hown9 hb9
        by_cases hlt : j < k
        · have d1 : decide ((j : Int) < (k : Int)) = true := by simp; omega
          obtain ⟨M, hM⟩ : ∃ M, Ls[j]? = some M := ⟨Ls[j]'(by rw [HN.out]; exact hlt), List.getElem?_eq_getElem _⟩
          obtain ⟨b, o, Ai, ci, rfl, hbl, c0, hE⟩ := HL.out.at' j M hM
          have g0 := (hb.cell (p := ⟨b, o + j, none⟩) hbl).trans c0
          have hbr := Nat.lt_of_lt_of_le hbl hb.size
          have HEl := Lib.hid (hE.below hb)
          have HM8 := Lib.hid (H8.out M (List.mem_of_getElem? hM))
          have hT : Ls.take (j + 1) = Ls.take j ++ [M] := by rw [List.take_add_one, hM]; rfl
          have htl : tot (Ls.take j) + M.length ≤ 4194304 := by
            have h1 := tot_take Ls (j + 1)
            rw [hT, tot_snoc] at h1
            have h2 := HT.out
            omega
          have hmb2 : m + M.length ≤ 4500000 := by have := hme.out; omega
          have HM2 := Lib.hid (show m + M.length = 3 + mm + tot (Ls.take (j + 1)) by rw [hT, tot_snoc]; have := hme.out; omega)
          have HF := Lib.hid (show (Ls.take (j + 1)).flatten = (Ls.take j).flatten ++ M by rw [hT, List.flatten_append]; simp)
          generalize (Ls.take j).flatten = fs at *
          obtain ⟨ml, hml⟩ : ∃ ml, M.length = ml := ⟨_, rfl⟩
          rw [hml] at c0 g0 hmb2 HM2
          have HML := Lib.hid (show M.length = ml * 1 by rw [hml, Nat.mul_one])
          clear hT hM c0 hE hml htl
          go_wp2_with (first
            | (at_builtin; refine wpList_append_src_wide _ rfl (.tmp 98) (.tmp 102) 22 rfl w.heap.size 5 i0 (.int .u8 0) 1 1 Try.underlying22 hi hz0 hz1 hz2 rfl (by decide) u7 m _ rfl hown w.heap.size Ai ml ci M rfl HEl.out HML.out HM8.out.one (by simp only [maxLen]; omega) (by omega) hb.size ?_; intro v6 w6 own7 hg6; have B6 := hb.grown hg6 hb.size (fun b hb => own_lowI hown b (by simp [blk, hb]))))
          go_roundw
          case rel => exact ⟨j + 1, m + ml, by omega, by go_num, by rw [HF.out, ← List.append_assoc]; exact own7, HM2, B6⟩
          case measure => simp [intOf]; omega
        · obtain rfl : j = k := by omega
          have d1 : decide ((j : Int) < (j : Int)) = false := by simp
          have hTk : Ls.take j = Ls := List.take_of_length_le (by rw [HN.out]; exact Nat.le_refl _)
          rw [hTk] at hown hme
          have hpm : m = (putIx Ls).length := by rw [putIx_len, HHD.out, hme.out]
          subst hpm
          have hown2 : wr.ownsRow w.heap.size 5 1 u7 (putIx Ls).length (putIx Ls) := hown
          obtain ⟨A9, c9, rfl, l9, _⟩ := own_lists hown2
          have HQ := Lib.hid (HOK.out HGood.out A9 c9 wr l9 hb)
          clear hown hown2 hTk hme l9
          go_wp2
          exact HQ.out
end Go.Proofs.Ytmckdeopljcdfaa

namespace Go.Proofs.Ytmckdeopljcdfaa
open Go Go.RowKit
set_option linter.unusedVariables false
set_option linter.unusedSimpArgs false

theorem rput_all (A : Option Addr) (c : Nat) (Ls : List (List Value)) (w : World) (hl : RowsAt w w.heap.size A Ls) (h8 : ∀ L ∈ Ls, Bytes8 L) (hn : Ls.length ≤ 70000) (hm : ∀ L ∈ Ls, L.length ≤ 2097152) (ht : tot Ls ≤ 4194304) :
    Calls Try.prog 13 #[.slice A Ls.length c] w (RPost w Ls) := by
  rcases Nat.lt_or_ge 65535 Ls.length with h | h
  · exact (rput_many A c _ w h).mono fun e w' k => ⟨fun hk => absurd (of_decide_eq_true (Bool.and_eq_true_iff.1 hk).1) (by omega), fun _ => k⟩
  · rcases Nat.eq_zero_or_pos Ls.length with h0 | h0
    · obtain rfl : Ls = [] := List.eq_nil_of_length_eq_zero h0
      have hp : putIx [] = [.int .u8 0, .int .u8 0] := by kernel_rfl
      exact (rput_zero A c w).mono fun e w' k => ⟨fun _ => by rw [hp]; exact k, fun hk => absurd hk (by decide)⟩
    · exact rput_some A c _ Ls w hl h8 rfl h0 h hm ht _ (fun hk A' c' w' h1 h2 => ⟨fun _ => ⟨A', c', rfl, Lib.hid h1, h2⟩, fun hk2 => by rw [hk] at hk2; cases hk2⟩) (fun hk w' h2 => ⟨(fun hk2 => by rw [hk] at hk2; cases hk2), fun _ => ⟨rfl, h2⟩⟩)
end Go.Proofs.Ytmckdeopljcdfaa
