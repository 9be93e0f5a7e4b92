/- Layer 3's program does what every program must. -/
import Derived.Test.YtdbnjlmkbmfhkaaRd4
import Derived.Test.YtdbnjlmkbmfhkaaWr5
import Derived.Test.YtdbnjlmkbmfhkaaRw3
import Derived.Laws.IdiomStrings
import Derived.Laws.BytesArg
import Derived.Outline
namespace Go.Proofs.Ytdbnjlmkbmfhkaa
open Go Go.RowKit

theorem rleft_any (p : Nat) (bs : List Value) (i : Nat) (w : World) (h : Rd w p bs i false) (hL : bs.length ≤ 4611686018427387904) :
    Calls Try.prog 62 #[.pointer (some ⟨p, 0, none⟩)] w fun e w' => e = .returned (.int .i64 ((bs.length - i : Nat) : Int)) ∧ Below w.heap.size w w' := by
  obtain ⟨A, c, hb, hl, h8, hi, _⟩ := h
  exact left_low p bs.length c i A w hb hL hi
theorem rat_any (p : Nat) (bs : List Value) (i : Nat) (bad : Bool) (w : World) (h : Rd w p bs i bad) :
    Calls Try.prog 64 #[.pointer (some ⟨p, 0, none⟩)] w fun e w' => e = .returned (.int .i64 (i : Nat)) ∧ w = w' := by
  obtain ⟨A, c, hb, _⟩ := h
  exact at_low p bs.length c i A bad w hb
theorem rdone_any (p : Nat) (bs : List Value) (i : Nat) (bad : Bool) (w : World) (h : Rd w p bs i bad) :
    Calls Try.prog 65 #[.pointer (some ⟨p, 0, none⟩)] w fun e w' => e = .returned (.int .i64 (if bad then 30 else 0)) ∧ w = w' := by
  obtain ⟨A, c, hb, _⟩ := h
  exact rdone_low p bs.length c i A bad w hb

/-- A cell of a byte, as a byte. -/
def toU8 : Value → UInt8
  | .int _ n => UInt8.ofNat n.toNat
  | _ => 0
/-- string(b) -/
theorem conv_lists {w : World} {B n c : Nat} {A : Option Addr} {E : List Value} (hl : Lists w B A E) (hn : E.length = n) (h8 : Bytes8 E) :
    ∀ dst, Try.prog.underlying dst = some .string → (convert 58 dst (.slice A n c)).run Try.prog w = .ok (.string ⟨(E.map toU8).toArray⟩) w := by
  intro dst hd
  cases A with
  | none =>
    rw [hl.nil rfl]
    exact run_convert_bytes_nil w 58 5 Try.underlying58 Try.underlying5 n c dst hd
  | some a =>
    have := run_convert_bytes_back (P := Try.prog) w 58 dst 5 a c (E.map toU8) Try.underlying58 Try.underlying5 hd (fun j hj => by
      rw [List.length_map] at hj
      obtain ⟨x, hx, he⟩ := h8 E[j] (List.getElem_mem hj)
      rw [hl.cell a rfl j E[j] (List.getElem?_eq_getElem hj)]
      simp only [List.getElem_map, he, toU8]
      congr 2
      rw [Int.toNat_natCast, UInt8.toNat_ofNat']
      congr 1
      omega)
    rw [List.length_map, hn] at this
    exact this
theorem pad42 : padN ([Value.int .u8 2, .int .u8 3] : List Value).length 4 = 2 := by decide
theorem conv5 {w : World} {base c : Nat} {A : Option Addr} (h : w.ownsRow base 5 1 (.slice A 5 c) 5 [.int .u8 2, .int .u8 3, .int .u8 0, .int .u8 0, .int .u8 7]) :
    ∀ dst, Try.prog.underlying dst = some .string → (convert 58 dst (.slice A 5 c)).run Try.prog w = .ok (.string ⟨#[2, 3, 0, 0, 7]⟩) w := by
  obtain ⟨A1, c1, hv, hl, _⟩ := own_lists h
  injection hv with h1 _ h3
  subst h1 h3
  have h8 : Bytes8 [.int .u8 2, .int .u8 3, .int .u8 0, .int .u8 0, .int .u8 7] := fun u hu => by
    simp only [List.mem_cons, List.not_mem_nil, or_false] at hu
    rcases hu with rfl | rfl | rfl | rfl | rfl
    · exact ⟨2, by omega, rfl⟩
    · exact ⟨3, by omega, rfl⟩
    · exact ⟨0, by omega, rfl⟩
    · exact ⟨0, by omega, rfl⟩
    · exact ⟨7, by omega, rfl⟩
  exact conv_lists hl rfl h8

set_option maxRecDepth 100000 in
set_option maxHeartbeats 4000000 in
theorem lives3 (w : World) : Calls Try.prog 37 #[] w fun e w' => e = .returned (.bool true) ∧ Below w.heap.size w w' := by
  have e3 : Bytes8 [.int .u8 1, .int .u8 2, .int .u8 3] := fun u hu => by
    simp only [List.mem_cons, List.not_mem_nil, or_false] at hu
    rcases hu with rfl | rfl | rfl
    · exact ⟨1, by omega, rfl⟩
    · exact ⟨2, by omega, rfl⟩
    · exact ⟨3, by omega, rfl⟩
  go_enter Try.func37, Try.ntmps37
  go_wp2_with (first | (go_at_call 61; ((refine (new_any _ 3 3 [.int .u8 1, .int .u8 2, .int .u8 3] _ (lists_new w _ _ [.int .u8 1, .int .u8 2, .int .u8 3] (fun j u hu => by simpa using hu)) rfl e3 (by omega)).mono ?_); rintro e w1 ⟨pr, rfl, hr, b1, hpr⟩; have B : Below w.heap.size w w1 := ((Below.refl _ _).alloc (Nat.le_refl _) _).trans (b1.mono (by simp)); have hpr : w.heap.size ≤ pr := by simp at hpr; omega)) | (go_at_call 38; ((refine (to_any 8 _).mono ?_); rintro e w2 ⟨pw, fpw, rfl, hw, b2, hfp⟩; have hlt := hr.lt; have hd : ∀ b ∈ fpw, b ∉ [pr] := (fun b hm e => by have := hfp b hm; simp at e; omega); have hlow : ∀ b ∈ fpw, w.heap.size ≤ b := (fun b hm => Nat.le_trans B.size (hfp b hm)); have hr := hr.below b2; have B := B.trans (b2.mono B.size))) | (go_at_call 62; ((refine (rleft_any pr [.int .u8 1, .int .u8 2, .int .u8 3] 0 _ hr (by simp)).mono ?_); rintro e w3 ⟨rfl, b3⟩; have hr := hr.below b3; have hw := hw.only (Only.of_below b3 []) (fun _ _ h => (nomatch h)); have B := B.trans (b3.mono B.size))) | (go_at_call 63; ((refine (rU16_ok pr [.int .u8 1, .int .u8 2, .int .u8 3] 0 1 2 _ hr (by simp) (by simp) rfl rfl (by omega) (by omega)).mono ?_); rintro e w4 ⟨rfl, hr4, o4⟩; have hw := hw.only o4 hd; have B := B.trans (o4.to_below B.size (fun b hm => by simp at hm; omega)); clear hr; have hr := hr4; clear hr4)) | (go_at_call 63; ((refine (rU16_short pr [.int .u8 1, .int .u8 2, .int .u8 3] 2 _ hr (by simp) (by simp)).mono ?_); rintro e w5 ⟨rfl, hr5, o5⟩; have hw := hw.only o5 hd; have B := B.trans (o5.to_below B.size (fun b hm => by simp at hm; omega)); clear hr; have hr := hr5; clear hr5)) | (go_at_call 64; ((refine (rat_any pr [.int .u8 1, .int .u8 2, .int .u8 3] 2 false _ hr).mono ?_); rintro e w' ⟨rfl, rfl⟩)) | (go_at_call 65; ((refine (rdone_any pr [.int .u8 1, .int .u8 2, .int .u8 3] 2 true _ hr).mono ?_); rintro e w' ⟨rfl, rfl⟩)) | (go_at_call 66; ((refine (wU16_any pw 8 false [] _ 515 _ hw (by omega)).mono ?_); rintro e w6 ⟨rfl, fq, hq, oq, mq⟩; (try rw [pad42] at hq); have hq : Wr w6 pw 8 false [.int .u8 2, .int .u8 3] fq := hq; have hlow1 : ∀ b ∈ fq, w.heap.size ≤ b := (fun b hm => (mq b hm).elim (hlow b) (fun h => Nat.le_trans B.size h)); have B := B.trans (oq.to_below B.size hlow); clear hw hlow mq; have hw := hq; have hlow := hlow1; clear hq hlow1)) | (go_at_call 67; ((refine (pad_any pw 8 false [.int .u8 2, .int .u8 3] _ 4 _ hw (by omega) (by omega) (by omega)).mono ?_); rintro e w7 ⟨rfl, fq, hq, oq, mq⟩; (try rw [pad42] at hq); have hq : Wr w7 pw 8 false [.int .u8 2, .int .u8 3, .int .u8 0, .int .u8 0] fq := hq; have hlow1 : ∀ b ∈ fq, w.heap.size ≤ b := (fun b hm => (mq b hm).elim (hlow b) (fun h => Nat.le_trans B.size h)); have B := B.trans (oq.to_below B.size hlow); clear hw hlow mq; have hw := hq; have hlow := hlow1; clear hq hlow1)) | (go_at_call 68; ((refine (wU8_any pw 8 false [.int .u8 2, .int .u8 3, .int .u8 0, .int .u8 0] _ 7 _ hw (by omega)).mono ?_); rintro e w8 ⟨rfl, fq, hq, oq, mq⟩; (try rw [pad42] at hq); have hq : Wr w8 pw 8 false [.int .u8 2, .int .u8 3, .int .u8 0, .int .u8 0, .int .u8 7] fq := hq; have hlow1 : ∀ b ∈ fq, w.heap.size ≤ b := (fun b hm => (mq b hm).elim (hlow b) (fun h => Nat.le_trans B.size h)); have B := B.trans (oq.to_below B.size hlow); clear hw hlow mq; have hw := hq; have hlow := hlow1; clear hq hlow1)) | (go_at_call 40; ((refine (wlen_any pw 8 false [.int .u8 2, .int .u8 3, .int .u8 0, .int .u8 0, .int .u8 7] _ _ hw (by omega)).mono ?_); rintro e w9 ⟨rfl, b9⟩; have hw := hw.only (Only.of_below b9 []) (fun _ _ h => (nomatch h)); have B := B.trans (b9.mono B.size))) | (go_at_call 41; ((refine (wdone_any pw 8 [.int .u8 2, .int .u8 3, .int .u8 0, .int .u8 0, .int .u8 7] _ _ hw (by omega)).mono ?_); rintro e w10 ⟨A10, c10, rfl, hown, b10⟩; have B := B.trans (b10.mono B.size); have cv : ∀ dst, Try.prog.underlying dst = some .string → (convert 58 dst (.slice A10 5 c10)).run Try.prog w10 = .ok (.string ⟨#[2, 3, 0, 0, 7]⟩) w10 := conv5 hown)))
  go_ret
  exact ⟨rfl, B⟩

end Go.Proofs.Ytdbnjlmkbmfhkaa
