/- One operation in both writers. -/
import Derived.Test.YtdbnjlmkbmfhkaaRw3
import Derived.Test.YtdbnjlmkbmfhkaaWr5
namespace Go.Proofs.Ytdbnjlmkbmfhkaa
open Go Go.RowKit

/-- Both writers have taken the same. -/
def Both (B : Nat) (w : World) (p q R : Nat) (F : Bool) (L : List Value) : Prop :=
  ∃ fp fq, Wr w p R F L fp ∧ RWr w q R F L fq ∧ (∀ b ∈ fp, b ∉ fq) ∧ (∀ b ∈ fp, B ≤ b) ∧ (∀ b ∈ fq, B ≤ b)
def Wrote (B : Nat) (w : World) (p q R : Nat) (e : Ending) (w' : World) : Prop :=
  e = .returned (.pointer (some ⟨p, 0, none⟩)) ∧ (∃ F L, Both B w' p q R F L) ∧ Below B w w'

theorem RPut.only {w w1 : World} {q R : Nat} {F : Bool} {L E : List Value} {fq : List Nat} (h : RPut w w1 q R F L fq E) : Only w w1 fq := by
  obtain ⟨_, _, o, _⟩ := h; exact o
theorem Wr.mem {w : World} {p R : Nat} {F : Bool} {L : List Value} {fp : List Nat} (h : Wr w p R F L fp) : p ∈ fp := by
  obtain ⟨D, G, dv, gv, _, _, _, _, _, _, _, rfl⟩ := h; simp
theorem both_mid {w w1 : World} {p q R : Nat} {F : Bool} {L E : List Value} {fp fq : List Nat} (hp : Wr w p R F L fp) (hd : ∀ b ∈ fp, b ∉ fq) (hr : RPut w w1 q R F L fq E) : Wr w1 p R F L fp := hp.only hr.only hd

theorem both_after {B : Nat} {w w1 w2 : World} {p q R : Nat} {F : Bool} {L E : List Value} {fp fq : List Nat} (hp : Wr w p R F L fp) (hd : ∀ b ∈ fp, b ∉ fq) (hlp : ∀ b ∈ fp, B ≤ b) (hlq : ∀ b ∈ fq, B ≤ b)
    (hB : B ≤ w.heap.size) (hr : RPut w w1 q R F L fq E) (hs : Put w1 w2 p R F L fp E) : Both B w2 p q R (putF R F L E) (putL R F L E) ∧ Below B w w2 := by
  obtain ⟨fq', hq', oq, mq⟩ := hr
  obtain ⟨fp', hp', op, mp⟩ := hs
  have lq := hq'.lt
  have lp := hp.lt
  have key : ∀ b ∈ fq', b ∉ fp := fun b hb e => by
    rcases mq b hb with h | h
    · exact hd b e h
    · have := lp b e; omega
  have hB1 := Nat.le_trans hB oq.size
  refine ⟨⟨fp', fq', hp', hq'.only op key, fun b hb e => ?_, fun b hb => ?_, fun b hb => ?_⟩, (oq.to_below hB hlq).trans (op.to_below hB1 hlp)⟩
  · rcases mp b hb with h | h
    · exact key b e h
    · have := lq b e; omega
  · rcases mp b hb with h | h
    · exact hlp b h
    · omega
  · rcases mq b hb with h | h
    · exact hlq b h
    · omega
theorem Both.wrote {B : Nat} {w w1 w2 : World} {p q R : Nat} {F : Bool} {L : List Value} (h : Both B w2 p q R F L ∧ Below B w1 w2) (hb : Below B w w1) : Wrote B w p q R (.returned (.pointer (some ⟨p, 0, none⟩))) w2 :=
  ⟨rfl, ⟨F, L, h.1⟩, hb.trans h.2⟩

set_option maxRecDepth 100000 in
theorem write1 (B p q R : Nat) (F : Bool) (L : List Value) (n k : Int) (A : Option Addr) (m c : Nat) (w : World) (hW : Both B w p q R F L) (hB : B ≤ w.heap.size) (hR : R ≤ 1099511627776) :
    Calls Try.prog 39 #[.pointer (some ⟨p, 0, none⟩), .pointer (some ⟨q, 0, none⟩), .agg #[.int .i64 1, .int .i64 n, .int .i64 k, .slice A m c]] w fun e w' => Wrote B w p q R e w' := by
  obtain ⟨fp, fq, hp0, hq0, hd, hlp, hlq⟩ := hW
  have hlt := hq0.lt
  have ba : Below w.heap.size w (w.alloc (.cells #[.int .i64 1, .int .i64 n, .int .i64 k, .slice A m c] 63)) := (Below.refl _ _).alloc (Nat.le_refl _) _
  have hp := hp0.only (Only.of_below ba []) (fun _ _ h => (nomatch h))
  have hq := hq0.only (Only.of_below ba []) (fun _ _ h => (nomatch h))
  have hbx : Blk (w.alloc (.cells #[.int .i64 1, .int .i64 n, .int .i64 k, .slice A m c] 63)) w.heap.size 63 #[.int .i64 1, .int .i64 n, .int .i64 k, .slice A m c] := Blk.new _ _ _
  have hbn : w.heap.size ∉ fq := fun h => by have := hlt _ h; omega
  have hBa : B ≤ (w.alloc (.cells #[.int .i64 1, .int .i64 n, .int .i64 k, .slice A m c] 63)).heap.size := Nat.le_trans hB ba.size
  have F0 := hbx.kb; simp only [KB, CellsAt, Nat.zero_add, Nat.reduceAdd, and_true] at F0
  go_enter Try.func39, Try.ntmps39
  go_wp2_with (first | (go_at_call 69; ((with_reducible refine (ru1_any q R F L fq n _ hq hR).mono ?_); rintro e w1 ⟨rfl, hr⟩; have hp2 := both_mid hp hd hr; have F1 := (hbx.only hr.only hbn).kb; simp only [KB, CellsAt, Nat.zero_add, Nat.reduceAdd, and_true] at F1; clear F0)) | (go_at_call 68; ((with_reducible refine (wU8_any p R F L fp n w1 hp2 hR).mono ?_); rintro e w2 ⟨rfl, hs⟩)))
  go_ret
  exact Both.wrote (both_after hp hd hlp hlq hBa hr hs) (ba.mono hB)

set_option maxRecDepth 100000 in
theorem write2 (B p q R : Nat) (F : Bool) (L : List Value) (n k : Int) (A : Option Addr) (m c : Nat) (w : World) (hW : Both B w p q R F L) (hB : B ≤ w.heap.size) (hR : R ≤ 1099511627776) :
    Calls Try.prog 39 #[.pointer (some ⟨p, 0, none⟩), .pointer (some ⟨q, 0, none⟩), .agg #[.int .i64 2, .int .i64 n, .int .i64 k, .slice A m c]] w fun e w' => Wrote B w p q R e w' := by
  obtain ⟨fp, fq, hp0, hq0, hd, hlp, hlq⟩ := hW
  have hlt := hq0.lt
  have ba : Below w.heap.size w (w.alloc (.cells #[.int .i64 2, .int .i64 n, .int .i64 k, .slice A m c] 63)) := (Below.refl _ _).alloc (Nat.le_refl _) _
  have hp := hp0.only (Only.of_below ba []) (fun _ _ h => (nomatch h))
  have hq := hq0.only (Only.of_below ba []) (fun _ _ h => (nomatch h))
  have hbx : Blk (w.alloc (.cells #[.int .i64 2, .int .i64 n, .int .i64 k, .slice A m c] 63)) w.heap.size 63 #[.int .i64 2, .int .i64 n, .int .i64 k, .slice A m c] := Blk.new _ _ _
  have hbn : w.heap.size ∉ fq := fun h => by have := hlt _ h; omega
  have hBa : B ≤ (w.alloc (.cells #[.int .i64 2, .int .i64 n, .int .i64 k, .slice A m c] 63)).heap.size := Nat.le_trans hB ba.size
  have F0 := hbx.kb; simp only [KB, CellsAt, Nat.zero_add, Nat.reduceAdd, and_true] at F0
  go_enter Try.func39, Try.ntmps39
  go_wp2_with (first | (go_at_call 69; ((with_reducible refine (ru2_any q R F L fq n _ hq hR).mono ?_); rintro e w1 ⟨rfl, hr⟩; have hp2 := both_mid hp hd hr; have F1 := (hbx.only hr.only hbn).kb; simp only [KB, CellsAt, Nat.zero_add, Nat.reduceAdd, and_true] at F1; clear F0)) | (go_at_call 66; ((with_reducible refine (wU16_any p R F L fp n w1 hp2 hR).mono ?_); rintro e w2 ⟨rfl, hs⟩)))
  go_ret
  exact Both.wrote (both_after hp hd hlp hlq hBa hr hs) (ba.mono hB)

set_option maxRecDepth 100000 in
theorem write3 (B p q R : Nat) (F : Bool) (L : List Value) (n k : Int) (A : Option Addr) (m c : Nat) (w : World) (hW : Both B w p q R F L) (hB : B ≤ w.heap.size) (hR : R ≤ 1099511627776) :
    Calls Try.prog 39 #[.pointer (some ⟨p, 0, none⟩), .pointer (some ⟨q, 0, none⟩), .agg #[.int .i64 3, .int .i64 n, .int .i64 k, .slice A m c]] w fun e w' => Wrote B w p q R e w' := by
  obtain ⟨fp, fq, hp0, hq0, hd, hlp, hlq⟩ := hW
  have hlt := hq0.lt
  have ba : Below w.heap.size w (w.alloc (.cells #[.int .i64 3, .int .i64 n, .int .i64 k, .slice A m c] 63)) := (Below.refl _ _).alloc (Nat.le_refl _) _
  have hp := hp0.only (Only.of_below ba []) (fun _ _ h => (nomatch h))
  have hq := hq0.only (Only.of_below ba []) (fun _ _ h => (nomatch h))
  have hbx : Blk (w.alloc (.cells #[.int .i64 3, .int .i64 n, .int .i64 k, .slice A m c] 63)) w.heap.size 63 #[.int .i64 3, .int .i64 n, .int .i64 k, .slice A m c] := Blk.new _ _ _
  have hbn : w.heap.size ∉ fq := fun h => by have := hlt _ h; omega
  have hBa : B ≤ (w.alloc (.cells #[.int .i64 3, .int .i64 n, .int .i64 k, .slice A m c] 63)).heap.size := Nat.le_trans hB ba.size
  have F0 := hbx.kb; simp only [KB, CellsAt, Nat.zero_add, Nat.reduceAdd, and_true] at F0
  go_enter Try.func39, Try.ntmps39
  go_wp2_with (first | (go_at_call 69; ((with_reducible refine (ru2_any q R F L fq n _ hq hR).mono ?_); rintro e w1 ⟨rfl, hr⟩; have hp2 := both_mid hp hd hr; have F1 := (hbx.only hr.only hbn).kb; simp only [KB, CellsAt, Nat.zero_add, Nat.reduceAdd, and_true] at F1; clear F0)) | (go_at_call 70; ((with_reducible refine (wI16_any p R F L fp n w1 hp2 hR).mono ?_); rintro e w2 ⟨rfl, hs⟩)))
  go_ret
  exact Both.wrote (both_after hp hd hlp hlq hBa hr hs) (ba.mono hB)

set_option maxRecDepth 100000 in
theorem write4 (B p q R : Nat) (F : Bool) (L : List Value) (n k : Int) (A : Option Addr) (m c : Nat) (w : World) (hW : Both B w p q R F L) (hB : B ≤ w.heap.size) (hR : R ≤ 1099511627776) :
    Calls Try.prog 39 #[.pointer (some ⟨p, 0, none⟩), .pointer (some ⟨q, 0, none⟩), .agg #[.int .i64 4, .int .i64 n, .int .i64 k, .slice A m c]] w fun e w' => Wrote B w p q R e w' := by
  obtain ⟨fp, fq, hp0, hq0, hd, hlp, hlq⟩ := hW
  have hlt := hq0.lt
  have ba : Below w.heap.size w (w.alloc (.cells #[.int .i64 4, .int .i64 n, .int .i64 k, .slice A m c] 63)) := (Below.refl _ _).alloc (Nat.le_refl _) _
  have hp := hp0.only (Only.of_below ba []) (fun _ _ h => (nomatch h))
  have hq := hq0.only (Only.of_below ba []) (fun _ _ h => (nomatch h))
  have hbx : Blk (w.alloc (.cells #[.int .i64 4, .int .i64 n, .int .i64 k, .slice A m c] 63)) w.heap.size 63 #[.int .i64 4, .int .i64 n, .int .i64 k, .slice A m c] := Blk.new _ _ _
  have hbn : w.heap.size ∉ fq := fun h => by have := hlt _ h; omega
  have hBa : B ≤ (w.alloc (.cells #[.int .i64 4, .int .i64 n, .int .i64 k, .slice A m c] 63)).heap.size := Nat.le_trans hB ba.size
  have F0 := hbx.kb; simp only [KB, CellsAt, Nat.zero_add, Nat.reduceAdd, and_true] at F0
  go_enter Try.func39, Try.ntmps39
  go_wp2_with (first | (go_at_call 69; ((with_reducible refine (ru4_any q R F L fq n _ hq hR).mono ?_); rintro e w1 ⟨rfl, hr⟩; have hp2 := both_mid hp hd hr; have F1 := (hbx.only hr.only hbn).kb; simp only [KB, CellsAt, Nat.zero_add, Nat.reduceAdd, and_true] at F1; clear F0)) | (go_at_call 71; ((with_reducible refine (wU32_any p R F L fp n w1 hp2 hR).mono ?_); rintro e w2 ⟨rfl, hs⟩)))
  go_ret
  exact Both.wrote (both_after hp hd hlp hlq hBa hr hs) (ba.mono hB)

set_option maxRecDepth 100000 in
theorem write6 (B p q R : Nat) (F : Bool) (L : List Value) (n k : Int) (A : Option Addr) (m c : Nat) (w : World) (hW : Both B w p q R F L) (hB : B ≤ w.heap.size) (hR : R ≤ 1099511627776) (h1 : -9223372036854775808 ≤ n) (h2 : n ≤ 9223372036854775807) :
    Calls Try.prog 39 #[.pointer (some ⟨p, 0, none⟩), .pointer (some ⟨q, 0, none⟩), .agg #[.int .i64 6, .int .i64 n, .int .i64 k, .slice A m c]] w fun e w' => Wrote B w p q R e w' := by
  obtain ⟨fp, fq, hp0, hq0, hd, hlp, hlq⟩ := hW
  have hlt := hq0.lt
  have ba : Below w.heap.size w (w.alloc (.cells #[.int .i64 6, .int .i64 n, .int .i64 k, .slice A m c] 63)) := (Below.refl _ _).alloc (Nat.le_refl _) _
  have hp := hp0.only (Only.of_below ba []) (fun _ _ h => (nomatch h))
  have hq := hq0.only (Only.of_below ba []) (fun _ _ h => (nomatch h))
  have hbx : Blk (w.alloc (.cells #[.int .i64 6, .int .i64 n, .int .i64 k, .slice A m c] 63)) w.heap.size 63 #[.int .i64 6, .int .i64 n, .int .i64 k, .slice A m c] := Blk.new _ _ _
  have hbn : w.heap.size ∉ fq := fun h => by have := hlt _ h; omega
  have hBa : B ≤ (w.alloc (.cells #[.int .i64 6, .int .i64 n, .int .i64 k, .slice A m c] 63)).heap.size := Nat.le_trans hB ba.size
  have F0 := hbx.kb; simp only [KB, CellsAt, Nat.zero_add, Nat.reduceAdd, and_true] at F0
  go_enter Try.func39, Try.ntmps39
  go_wp2_with (first | (go_at_call 74; ((with_reducible refine (rpad_any q R F L fq n _ hq hR h1 h2).mono ?_); rintro e w1 ⟨rfl, hr⟩; have hp2 := both_mid hp hd hr; have F1 := (hbx.only hr.only hbn).kb; simp only [KB, CellsAt, Nat.zero_add, Nat.reduceAdd, and_true] at F1; clear F0)) | (go_at_call 67; ((with_reducible refine (pad_any p R F L fp n w1 hp2 hR h1 h2).mono ?_); rintro e w2 ⟨rfl, hs⟩)))
  go_ret
  exact Both.wrote (both_after hp hd hlp hlq hBa hr hs) (ba.mono hB)

set_option maxRecDepth 100000 in
theorem write5 (B p q R : Nat) (F : Bool) (L : List Value) (n k : Int) (A : Option Addr) (m c : Nat) (E : List Value) (w : World) (hW : Both B w p q R F L) (hB : B ≤ w.heap.size) (hR : R ≤ 1099511627776) (hE : Lists w B A E) (hm : E.length = m) (h8 : Bytes8 E) (hm2 : m ≤ 140737488355328) :
    Calls Try.prog 39 #[.pointer (some ⟨p, 0, none⟩), .pointer (some ⟨q, 0, none⟩), .agg #[.int .i64 5, .int .i64 n, .int .i64 k, .slice A m c]] w fun e w' => Wrote B w p q R e w' := by
  obtain ⟨fp, fq, hp0, hq0, hd, hlp, hlq⟩ := hW
  have hlt := hq0.lt
  have ba : Below w.heap.size w (w.alloc (.cells #[.int .i64 5, .int .i64 n, .int .i64 k, .slice A m c] 63)) := (Below.refl _ _).alloc (Nat.le_refl _) _
  have hp := hp0.only (Only.of_below ba []) (fun _ _ h => (nomatch h))
  have hq := hq0.only (Only.of_below ba []) (fun _ _ h => (nomatch h))
  have hbx : Blk (w.alloc (.cells #[.int .i64 5, .int .i64 n, .int .i64 k, .slice A m c] 63)) w.heap.size 63 #[.int .i64 5, .int .i64 n, .int .i64 k, .slice A m c] := Blk.new _ _ _
  have hbn : w.heap.size ∉ fq := fun h => by have := hlt _ h; omega
  have hBa : B ≤ (w.alloc (.cells #[.int .i64 5, .int .i64 n, .int .i64 k, .slice A m c] 63)).heap.size := Nat.le_trans hB ba.size
  have F0 := hbx.kb; simp only [KB, CellsAt, Nat.zero_add, Nat.reduceAdd, and_true] at F0
  have hE1 := hE.below (ba.mono hB)
  have hm1 := Lib.hid (show E.length = m * 1 by rw [hm, Nat.mul_one])
  obtain ⟨i0, hi, hz0, hz1, hz2⟩ := info_parts u8Info
  have C := rdata_any q R F L fq A m c B E _ hq hR hE1 hm hBa h8
  have C2 := fun A2 c2 w2 hp3 lE hfar => data_any p R F L fp A2 m c2 w2.heap.size E w2 hp3 hR lE hm (Nat.le_refl _) h8 hfar
  clear hm
  go_enter Try.func39, Try.ntmps39
  go_wp2_with (first | (go_at_call 72; ((with_reducible refine C.mono ?_); rintro e w1 ⟨rfl, hr⟩; have hp2 := both_mid hp hd hr; have b1 := hr.only.to_below hBa hlq; have hB1 := Nat.le_trans hBa b1.size; have F1 := (hbx.only hr.only hbn).kb; simp only [KB, CellsAt, Nat.zero_add, Nat.reduceAdd, and_true] at F1; clear F0)) | (at_builtin; refine wpList_append_src _ rfl (.tmp 56) (.tmp 58) 58 rfl w1.heap.size 5 i0 (.int .u8 0) 1 1 Try.underlying58 hi hz0 hz1 hz2 rfl (by decide) (.slice (some ⟨w1.heap.size, 0, none⟩) 0 0) 0 [] rfl ⟨rfl, .inr ⟨w1.heap.size, 0, #[], rfl, Nat.le_refl _, heap_alloc_new w1 _, Nat.le_refl _, Nat.zero_le _, rfl, rfl⟩⟩ B A m c E rfl ((hE1.below b1).alloc hB1 _) (hm1.out) h8.one (by simp only [maxLen]; omega) (by omega) (by simp) ?_; intro v2 w2 hown hg2 hat2; rw [Nat.zero_add, List.nil_append] at hown; obtain ⟨A2, c2, rfl, lE, _⟩ := own_lists hown; have b2 : Below w1.heap.size w1 w2 := ((Below.refl _ _).alloc (Nat.le_refl _) _).grown hg2 (by simp) (fun j hj => by cases hj; exact Nat.le_refl _); have hp3 := hp2.only (Only.of_below b2 []) (fun _ _ h => (nomatch h)); have hpl := hp2.lt p hp2.mem; have hfar : ∀ a, A2 = some a → E ≠ [] → a.block ≠ p := (fun a ha _ => by subst ha; rcases hat2 with e | e <;> (simp [Value.ownBlock] at e; omega)); have F2 := ((hbx.only hr.only hbn).below b2).kb; simp only [KB, CellsAt, Nat.zero_add, Nat.reduceAdd, and_true] at F2) | (go_at_call 73; ((with_reducible refine (C2 _ _ _ hp3 lE hfar).mono ?_); rintro e w3 ⟨rfl, hs⟩)))
  go_ret
  exact Both.wrote (both_after hp hd hlp hlq hBa hr (hs.before b2)) (ba.mono hB)

set_option maxRecDepth 100000 in
theorem write0 (B p q R : Nat) (F : Bool) (L : List Value) (kd : Int) (n k : Int) (A : Option Addr) (m c : Nat) (w : World) (hW : Both B w p q R F L) (hB : B ≤ w.heap.size) (n1 : (kd == 1) = false) (n2 : (kd == 2) = false) (n3 : (kd == 3) = false) (n4 : (kd == 4) = false) (n5 : (kd == 5) = false) (n6 : (kd == 6) = false) :
    Calls Try.prog 39 #[.pointer (some ⟨p, 0, none⟩), .pointer (some ⟨q, 0, none⟩), .agg #[.int .i64 kd, .int .i64 n, .int .i64 k, .slice A m c]] w fun e w' => Wrote B w p q R e w' := by
  obtain ⟨fp, fq, hp0, hq0, hd, hlp, hlq⟩ := hW
  have hlt := hq0.lt
  have ba : Below w.heap.size w (w.alloc (.cells #[.int .i64 kd, .int .i64 n, .int .i64 k, .slice A m c] 63)) := (Below.refl _ _).alloc (Nat.le_refl _) _
  have hp := hp0.only (Only.of_below ba []) (fun _ _ h => (nomatch h))
  have hq := hq0.only (Only.of_below ba []) (fun _ _ h => (nomatch h))
  have hbx : Blk (w.alloc (.cells #[.int .i64 kd, .int .i64 n, .int .i64 k, .slice A m c] 63)) w.heap.size 63 #[.int .i64 kd, .int .i64 n, .int .i64 k, .slice A m c] := Blk.new _ _ _
  have hbn : w.heap.size ∉ fq := fun h => by have := hlt _ h; omega
  have hBa : B ≤ (w.alloc (.cells #[.int .i64 kd, .int .i64 n, .int .i64 k, .slice A m c] 63)).heap.size := Nat.le_trans hB ba.size
  have F0 := hbx.kb; simp only [KB, CellsAt, Nat.zero_add, Nat.reduceAdd, and_true] at F0
  clear hlt
  go_enter Try.func39, Try.ntmps39
  go_wp2
  go_ret
  exact Both.wrote ⟨⟨fp, fq, hp, hq, hd, hlp, hlq⟩, Below.refl _ _⟩ (ba.mono hB)

theorem write_any (B p q R : Nat) (F : Bool) (L : List Value) (kd n k : Int) (A : Option Addr) (m c : Nat) (E : List Value) (w : World) (hW : Both B w p q R F L) (hB : B ≤ w.heap.size) (hR : R ≤ 1099511627776)
    (h1 : -9223372036854775808 ≤ n) (h2 : n ≤ 9223372036854775807) (hE : Lists w B A E) (hm : E.length = m) (h8 : Bytes8 E) (hm2 : m ≤ 140737488355328) :
    Calls Try.prog 39 #[.pointer (some ⟨p, 0, none⟩), .pointer (some ⟨q, 0, none⟩), .agg #[.int .i64 kd, .int .i64 n, .int .i64 k, .slice A m c]] w fun e w' => Wrote B w p q R e w' := by
  by_cases e1 : kd = 1
  · subst e1; exact write1 B p q R F L n k A m c w hW hB hR
  by_cases e2 : kd = 2
  · subst e2; exact write2 B p q R F L n k A m c w hW hB hR
  by_cases e3 : kd = 3
  · subst e3; exact write3 B p q R F L n k A m c w hW hB hR
  by_cases e4 : kd = 4
  · subst e4; exact write4 B p q R F L n k A m c w hW hB hR
  by_cases e5 : kd = 5
  · subst e5; exact write5 B p q R F L n k A m c E w hW hB hR hE hm h8 hm2
  by_cases e6 : kd = 6
  · subst e6; exact write6 B p q R F L n k A m c w hW hB hR h1 h2
  exact write0 B p q R F L kd n k A m c w hW hB (by simpa using e1) (by simpa using e2) (by simpa using e3) (by simpa using e4) (by simpa using e5) (by simpa using e6)

end Go.Proofs.Ytdbnjlmkbmfhkaa
