/- Part 16 of the proof: OuUR, OuN, OuT, OuG. -/
import Derived.Test.YtlacjifnniahhaaCFl14

namespace Go.Proofs.Ytlacjifnniahhaa
open Go Go.RowKit

def cvCells (L : List Cv) : List Value := L.flatMap cvL
theorem cvCells_append (L M : List Cv) : cvCells (L ++ M) = cvCells L ++ cvCells M := by simp [cvCells]
theorem cvInfo : (Try.prog.info? 83).map (fun i => (i.zero, i.size, i.bytes)) = some (some (.agg #[.int .i64 0, .int .i64 0, .int .i64 0, .int .i64 0, .int .i64 0, .int .i64 0, .int .i64 0, .int .i64 0, .int .i64 0, .int .i64 0, .int .i64 0, .int .i64 0, .int .i64 0]), 13, 104) := by kernel_rfl
theorem lists_row1 (w : World) (cs : List Value) (T : TypeId) : Lists (w.alloc (.cells cs.toArray T)) (w.heap.size + 1) (some ⟨w.heap.size, 0, none⟩) cs :=
  ⟨fun ha => (nomatch ha), fun a ha j u hu => by
    cases ha
    rw [addr_plain, World.cell?_alloc_new, Nat.zero_add, ← hu]
    rw [List.getElem?_toArray], fun a ha _ => by cases ha; simp⟩
def rcv (L : List Pt) (k : Nat) : List Cv :=
  if kd L ((k : Int) + 1) == 1 then [(1, ringP L k, noP, noP, ringP L ((k : Int) + 1))]
  else if kd L ((k : Int) + 1) == 2 then [(2, ringP L k, ringP L ((k : Int) + 1), noP, ringP L ((k : Int) + 2))]
  else if kd L ((k : Int) + 1) == 3 then [(3, ringP L k, ringP L ((k : Int) + 1), ringP L ((k : Int) + 2), ringP L ((k : Int) + 3))]
  else []
def cvS (L : List Pt) (k : Nat) : List Cv := if kd L (k : Int) == 1 then rcv L k else []
def cvK (L : List Pt) (k : Nat) : List Cv := (List.range k).flatMap (cvS L)
def cvsOf (L : List Pt) : List Cv := cvK L L.length
theorem cvK_succ (L : List Pt) (k : Nat) : cvK L (k + 1) = cvK L k ++ cvS L k := by simp [cvK, List.range_succ]
theorem cvS_len (L : List Pt) (k : Nat) : (cvS L k).length ≤ 1 := by
  unfold cvS rcv
  repeat (first | (split; skip) | simp)
theorem cvK_len (L : List Pt) : ∀ k, (cvK L k).length ≤ k
  | 0 => by simp [cvK]
  | k + 1 => by
    have h1 := cvK_len L k
    have h2 := cvS_len L k
    rw [cvK_succ, List.length_append]
    omega
/-- What stays from call to call. -/
def IR (w1 : World) (pb : Nat) (x' y' kb : Int) (W : World) : Prop := Below w1.heap.size w1 W ∧ Blk W pb 25 #[.int .i64 x', .int .i64 y', .int .i64 kb]
theorem IR.b {w1 W : World} {pb : Nat} {x' y' kb : Int} (h : IR w1 pb x' y' kb W) : Below w1.heap.size w1 W := h.1
theorem IR.push {w1 W W1 w9 : World} {pb n size : Nat} {e : TypeId} {x' y' kb : Int} {v0 : Value} {xs : List Value} (h : IR w1 pb x' y' kb W) (ho : W.ownsRow w1.heap.size e size v0 n xs) (ha : Below W.heap.size W W1) (hg : W1.grownBy w9 v0.ownBlock) (hn : pb ∈ blk v0 → pb ≠ pb) : IR w1 pb x' y' kb w9 := by
  have hs := h.1.size
  have hs1 := ha.size
  refine ⟨(h.1.trans (ha.mono hs)).grown hg (by omega) (fun j hj => (ho.lt j hj).1), (h.2.below ha).only ((Only.refl _ (blk v0)).grown hg (fun b hb => .inl (by have hb' : v0.ownBlock = some b := hb; simp [blk, hb']))) (fun hm => hn hm rfl)⟩

set_option maxRecDepth 100000 in
set_option maxHeartbeats 4000000 in
theorem rcurves_any (B : Nat) (A : Option Addr) (c : Nat) (Ls : List (List Pt)) (w : World) (hB : B ≤ w.heap.size) (h : OutAt w B A Ls) (hs : Sm Ls) (hmay : ∀ L ∈ Ls, mayC L = true) (hE : ∀ L ∈ Ls.map rexE, 0 < L.length ∧ L.length ≤ 300000) (hT : ∀ k, (((Ls.map rexE).take k).flatMap cvsOf).length ≤ 1000000) :
    Calls Try.prog 44 #[.slice A Ls.length c] w fun e w' => ∃ v, e = .returned v ∧ w'.ownsRow w.heap.size 83 13 v ((Ls.map rexE).flatMap cvsOf).length (cvCells ((Ls.map rexE).flatMap cvsOf)) ∧ Below w.heap.size w w' := by
  have CE := rexplicits_any B A c Ls w hB h hs hmay
  have hn := hs.1
  obtain ⟨i1, hi1, hz1, hs1, hy1⟩ := info_parts1 cvInfo
  have HI1 := Lib.hid hi1
  have HZ1 := Lib.hid hz1
  have HS1 := Lib.hid hs1
  have HY1 := Lib.hid hy1
  have hlE : (Ls.map rexE).length = Ls.length := List.length_map _
  obtain ⟨Es, hEs⟩ : ∃ Es, Es = Ls.map rexE := ⟨_, rfl⟩
  rw [← hEs] at CE hE hT hlE ⊢
  obtain ⟨n, hn0⟩ : ∃ n, n = Ls.length := ⟨_, rfl⟩
  rw [← hn0] at CE hn hlE ⊢
  have HEL := Lib.hid hE
  have HTT := Lib.hid hT
  clear h hs hmay hi1 hz1 hs1 hy1 hEs hn0 hE hT
  go_enter Try.func44, Try.ntmps44
  go_wp2_with (first | (go_at_call 71; ((with_reducible refine (CE).mono ?_); rintro e w1 ⟨v1, rfl, own1, b1⟩; obtain ⟨A1, c1, rfl, o1⟩ := own1.out)))
  have HO := Lib.hid o1
  have hw1 := b1.size
  have HN := Lib.hid hlE.symm
  clear own1 o1 hlE CE
  go_loopw [3, 5] (fun v i wr => ∃ k m : Nat, k ≤ n ∧ i = .int .i64 k ∧ m = ((Es.take k).flatMap cvsOf).length ∧ wr.ownsRow w1.heap.size 83 13 v m (cvCells ((Es.take k).flatMap cvsOf)) ∧ Below w1.heap.size w1 wr) (fun _ i _ => n - (intOf i).toNat)
  case atStart => exact ⟨0, 0, Nat.zero_le _, rfl, by simp, World.ownsRow_nil _ _ _ _, Below.refl _ _⟩
  case round =>
    obtain ⟨k, m', hk, rfl, hm', hown', hb'⟩ := hrel
    by_cases hlt : k < n
    · have d1 : decide ((k : Int) < (n : Int)) = true := by simp; omega
      obtain ⟨L, hL⟩ := at_some (L := Es) (k := k) (by rw [← HN.out]; exact hlt)
      obtain ⟨b, o, Ai, ci, rfl, hbl, c0, hLi⟩ := HO.out.at' k L hL
      have f9 := (hb'.cell (p := ⟨b, o + k, none⟩) hbl).trans c0
      have f8 : b < wr.heap.size := by have := hb'.size; omega
      obtain ⟨hl0, hl⟩ := HEL.out L (List.mem_of_getElem? hL)
      have HT := Lib.hid (show (Es.take (k + 1)).flatMap cvsOf = (Es.take k).flatMap cvsOf ++ cvsOf L by rw [take_snoc1 hL]; simp)
      have HTL := Lib.hid (show ((Es.take k).flatMap cvsOf).length ≤ 1000000 from HTT.out k)
      have HLI := Lib.hid hLi
      have HX : ∀ j : Nat, cvK L (j + 1) = cvK L j ++ cvS L j := cvK_succ L
      have HXX := Lib.hid HX
      obtain ⟨m0, hm0⟩ : ∃ m0, m0 = L.length := ⟨_, rfl⟩
      rw [← hm0] at f9 hl0 hl
      have HM0 := Lib.hid hm0
      clear c0 hLi hL hm0 HX
      generalize (Es.take k).flatMap cvsOf = P at *
      go_wp2
      go_loopw [3, 7] (fun v i wr => ∃ j m : Nat, j ≤ m0 ∧ i = .int .i64 j ∧ m = (P ++ cvK L j).length ∧ wr.ownsRow w1.heap.size 83 13 v m (cvCells (P ++ cvK L j)) ∧ Below w1.heap.size w1 wr) (fun _ i _ => m0 - (intOf i).toNat)
      case atStart => exact ⟨0, m', Nat.zero_le _, rfl, by simpa [cvK] using hm', by simpa [cvK] using hown', hb'⟩
      case round =>
        clear hm' hown' hb' f9 f8
        obtain ⟨j, m, hj, rfl, hm, hown, hb⟩ := hrel
        by_cases hjm : j < m0
        · have d2 : decide ((j : Int) < (m0 : Int)) = true := by simp; omega
          have hwr := hb.size
          have C := fun (a : Int) (ha : 0 ≤ a) (ha2 : a ≤ 100000000) (W : World) (bW : Below w1.heap.size w1 W) => rat_any w1.heap.size Ai ci L a W bW.size (HLI.out.below bW) (by rw [← HM0.out]; exact hl0) (by rw [← HM0.out]; omega) (by rw [← HM0.out]; omega) ha2
          have C1 := C ((j : Int) + 1) (by omega) (by omega)
          have C2 := C ((j : Int) + 2) (by omega) (by omega)
          have C3 := C ((j : Int) + 3) (by omega) (by omega)
          have hml : m ≤ 1300000 := by rw [hm, List.length_append]; have := cvK_len L j; have := HTL.out; omega
          obtain ⟨p, hp⟩ := at_some (L := L) (k := j) (by rw [← HM0.out]; exact hjm)
          obtain ⟨fb, fo, rfl, hfb, f0, f1, f2⟩ := lists_pt HLI.out hp
          have p0 := ringP_nat hp
          have k0 : kd L (j : Int) = p.2.2 := by unfold kd; rw [p0]
          obtain ⟨x, y, z⟩ := p
          simp only at f0 f1 f2 k0
          have e2 : IntKind.i64.wrap ((j : Int) + 2) = (j : Int) + 2 := IntWalk.i64_in _ (by omega)
          have e3 : IntKind.i64.wrap ((j : Int) + 3) = (j : Int) + 3 := IntWalk.i64_in _ (by omega)
          have g2 := (hb.cell (p := ⟨fb, fo + j * 3 + 2, none⟩) hfb).trans f2
          have g3 : fb < wr.heap.size := by omega
          obtain ⟨v0, hv0⟩ : ∃ v0, v0 = u3 := ⟨_, rfl⟩
          subst hv0
          have HW := Lib.hid hown
          have HM := Lib.hid hm
          rw [← HM0.out] at C1 C2 C3
          clear hown hm C hp
          cases hz : (z == 1)
          · have hX2 : cvK L (j + 1) = cvK L j := by rw [HXX.out]; simp [cvS, k0]; exact fun h => absurd h (by simpa using hz)
            have HM1 := Lib.hid (show m = (P ++ cvK L (j + 1)).length by rw [hX2, ← HM.out])
            have HP1 := Lib.hid (show cvCells (P ++ cvK L (j + 1)) = cvCells (P ++ cvK L j) by rw [hX2])
            clear hX2 k0 p0
            go_wp2
            go_roundw
            case rel => exact ⟨j + 1, m, by omega, by go_num, HM1.out, by rw [HP1.out]; exact HW.out, hb⟩
            case measure => simp [intOf]; omega
          · obtain rfl : z = 1 := by simpa using hz
            clear hz
            have k1 : kd L ((j : Int) + 1) = (ringP L ((j : Int) + 1)).2.2 := rfl
            obtain ⟨q1, p1⟩ : ∃ q, ringP L ((j : Int) + 1) = q := ⟨_, rfl⟩
            obtain ⟨q2, p2⟩ : ∃ q, ringP L ((j : Int) + 2) = q := ⟨_, rfl⟩
            obtain ⟨q3, p3⟩ : ∃ q, ringP L ((j : Int) + 3) = q := ⟨_, rfl⟩
            rw [p1] at C1 k1
            rw [p2] at C2
            rw [p3] at C3
            obtain ⟨x', y', z'⟩ := q1
            obtain ⟨x2, y2, z2⟩ := q2
            obtain ⟨x3, y3, z3⟩ := q3
            simp only [ptV] at C1 C2 C3 k1
            obtain ⟨XS, hXS⟩ : ∃ XS, XS = cvCells (P ++ cvK L j) := ⟨_, rfl⟩
            rw [← hXS] at HW
            have HXS := Lib.hid hXS
            clear hXS
            by_cases h1 : z' = 1
            · subst h1
              have hX2 : cvK L (j + 1) = cvK L j ++ [(1, (x, y, 1), noP, noP, (x', y', 1))] := by rw [HXX.out]; simp [cvS, rcv, k0, k1, p0, p1]
              have HM1 := Lib.hid (show m + 1 = (P ++ cvK L (j + 1)).length by rw [hX2, ← List.append_assoc, List.length_append, ← HM.out]; rfl)
              have HP1 := Lib.hid (show cvCells (P ++ cvK L (j + 1)) = XS ++ [.int .i64 1, .int .i64 x, .int .i64 y, .int .i64 1, .int .i64 0, .int .i64 0, .int .i64 0, .int .i64 0, .int .i64 0, .int .i64 0, .int .i64 x', .int .i64 y', .int .i64 1] by rw [hX2, ← List.append_assoc, cvCells_append, ← HXS.out]; rfl)
              clear hX2 k0 k1 p0 p1 p2 p3
              go_wp2_with (first | (go_at_call 72; ((with_reducible refine (C1 _ hb).mono ?_); rintro e w3 ⟨rfl, b3⟩; have q0 := (Blk.new w3 25 #[.int .i64 x', .int .i64 y', .int .i64 1]).cell 2; simp only [List.getElem?_toArray, List.getElem?_cons_zero, List.getElem?_cons_succ] at q0)))
              obtain ⟨pb, hpb0⟩ : ∃ pb, pb = w3.heap.size := ⟨_, rfl⟩
              have HP4 : Blk (w3.alloc (.cells #[.int .i64 x', .int .i64 y', .int .i64 1] 25)) pb 25 #[.int .i64 x', .int .i64 y', .int .i64 1] := hpb0 ▸ Blk.new w3 _ _
              have HR4 : Below wr.heap.size wr (w3.alloc (.cells #[.int .i64 x', .int .i64 y', .int .i64 1] 25)) := b3.alloc b3.size _
              have HB4 := hb.trans (HR4.mono hb.size)
              have hpb : ∀ b ∈ blk v0, pb ≠ b := fun b hm e => by have := blk_lt HW.out b hm; have := b3.size; omega
              have HD : ∀ W, IR w1 pb x' y' 1 W → W.cell? ⟨fb, fo + j * 3, none⟩ = some (.int .i64 x) ∧ W.cell? ⟨fb, fo + j * 3 + 1, none⟩ = some (.int .i64 y) ∧ W.cell? ⟨fb, fo + j * 3 + 2, none⟩ = some (.int .i64 1) ∧ fb < W.heap.size ∧ W.cell? ⟨pb, 0, none⟩ = some (.int .i64 x') ∧ W.cell? ⟨pb, 1, none⟩ = some (.int .i64 y') ∧ W.cell? ⟨pb, 2, none⟩ = some (.int .i64 1) ∧ pb < W.heap.size ∧ j < m0 ∧ (0 : Nat) = 0 := fun W hW => by
                have hz := hW.1.size
                exact ⟨(hW.1.cell (p := ⟨fb, fo + j * 3, none⟩) hfb).trans f0, (hW.1.cell (p := ⟨fb, fo + j * 3 + 1, none⟩) hfb).trans f1, (hW.1.cell (p := ⟨fb, fo + j * 3 + 2, none⟩) hfb).trans f2, by omega, hW.2.cell 0, hW.2.cell 1, hW.2.cell 2, hW.2.lt, hjm, rfl⟩
              rw [← hpb0]
              generalize w3.alloc (.cells #[.int .i64 x', .int .i64 y', .int .i64 1] 25) = W4 at *
              clear hpb0
              have hI : IR w1 pb x' y' 1 W4.drew := ⟨HB4.drew, HP4.below ((Below.refl _ _).drew)⟩
              have own0 := own_stay HW.out (HR4.drew)
              refine wp_region_chain (IR w1 pb x' y' 1) [(0, false), (1, false), (2, false), (3, false), (4, false), (5, false), (6, false), (7, true), (8, true), (9, false)] (by kernel_rfl) (by kernel_rfl) hI ?_
              repeat (first
                | (refine ChainL.skip (o := ?_) ?_ ?_ ?_; rotate_left; (focus (first | (simp only [List.getElem?_toArray, List.getElem?_cons_succ, List.getElem?_cons_zero]; with_reducible rfl) | (simp only [List.getElem?_toArray, List.getElem?_cons_zero]; with_reducible rfl))); (focus rfl); simp only [Act.put, List.setIfInBounds_toArray, List.set_cons_zero, List.set_cons_succ])
                | (refine ChainL.val (o := ?_) (v := ?_) ?_ ?_ ?_ ?_ ?_; rotate_left 2; (focus (first | (simp only [List.getElem?_toArray, List.getElem?_cons_succ, List.getElem?_cons_zero]; with_reducible rfl) | (simp only [List.getElem?_toArray, List.getElem?_cons_zero]; with_reducible rfl))); (focus (intro _ _ h; cases h)); (focus rfl); (focus (intro w' hJ; obtain ⟨y1, y2, y3, y4, y5, y6, y7, y8, y9, y10⟩ := HD _ hJ; go_simp <;> with_reducible rfl)); simp only [Act.put, List.setIfInBounds_toArray, List.set_cons_zero, List.set_cons_succ]))
              refine ChainL.does (o := ?_) (v := ?_) (w1 := ?_) ?_ ?_ ?_ ?_ ?_
              rotate_left 3
              (focus (simp only [List.getElem?_toArray, List.getElem?_cons_succ, List.getElem?_cons_zero]; with_reducible rfl))
              (focus rfl)
              (focus (go_simp; (constructor <;> with_reducible rfl)))
              exact ⟨(hI.1.alloc hI.1.size _), hI.2.below ((Below.refl _ _).alloc (Nat.le_refl _) _)⟩
              simp only [Act.put, List.setIfInBounds_toArray, List.set_cons_zero, List.set_cons_succ]
              refine ChainL.append (o := ?_) ?_ ?_ (.tmp 41) (.tmp 48) 78 ?_ w1.heap.size 83 i1 (.agg #[.int .i64 0, .int .i64 0, .int .i64 0, .int .i64 0, .int .i64 0, .int .i64 0, .int .i64 0, .int .i64 0, .int .i64 0, .int .i64 0, .int .i64 0, .int .i64 0, .int .i64 0]) 13 104 Try.underlying78 HI1.out HZ1.out HS1.out HY1.out rfl (by decide) v0 m XS ?_ (own_stay own0 ((Below.refl _ _).alloc (Nat.le_refl _) _)) _ _ 1 1 ([.int .i64 1, .int .i64 x, .int .i64 y, .int .i64 1, .int .i64 0, .int .i64 0, .int .i64 0, .int .i64 0, .int .i64 0, .int .i64 0, .int .i64 x', .int .i64 y', .int .i64 1]) ?_ (lists_row1 W4.drew [.int .i64 1, .int .i64 x, .int .i64 y, .int .i64 1, .int .i64 0, .int .i64 0, .int .i64 0, .int .i64 0, .int .i64 0, .int .i64 0, .int .i64 x', .int .i64 y', .int .i64 1] _) rfl (by simp [Value.oneCell']) (by simp only [maxLen]; omega) (by omega) (Nat.le_trans hI.1.size (show (W4.drew).heap.size ≤ _ from ((Below.refl _ (W4.drew)).alloc (Nat.le_refl _) (.cells #[.int .i64 1, .int .i64 x, .int .i64 y, .int .i64 1, .int .i64 0, .int .i64 0, .int .i64 0, .int .i64 0, .int .i64 0, .int .i64 0, .int .i64 x', .int .i64 y', .int .i64 1] 83)).size)) ?_
              rotate_left 1
              (focus (simp only [List.getElem?_toArray, List.getElem?_cons_succ, List.getElem?_cons_zero]; with_reducible rfl))
              (focus rfl)
              (focus rfl)
              (focus rfl)
              (focus rfl)
              intro v1 w9 own9 hg9 hat9
              have I9 : IR w1 pb x' y' 1 w9 := IR.push hI own0 ((Below.refl _ _).alloc (Nat.le_refl _) (.cells #[.int .i64 1, .int .i64 x, .int .i64 y, .int .i64 1, .int .i64 0, .int .i64 0, .int .i64 0, .int .i64 0, .int .i64 0, .int .i64 0, .int .i64 x', .int .i64 y', .int .i64 1] 83)) hg9 (fun hm => hpb _ hm)
              refine ⟨I9, ?_⟩
              simp only [Act.put, List.setIfInBounds_toArray, List.set_cons_zero, List.set_cons_succ]
              repeat (first
                | (refine ChainL.skip (o := ?_) ?_ ?_ ?_; rotate_left; (focus (first | (simp only [List.getElem?_toArray, List.getElem?_cons_succ, List.getElem?_cons_zero]; with_reducible rfl) | (simp only [List.getElem?_toArray, List.getElem?_cons_zero]; with_reducible rfl))); (focus rfl); simp only [Act.put, List.setIfInBounds_toArray, List.set_cons_zero, List.set_cons_succ])
                | (refine ChainL.val (o := ?_) (v := ?_) ?_ ?_ ?_ ?_ ?_; rotate_left 2; (focus (first | (simp only [List.getElem?_toArray, List.getElem?_cons_succ, List.getElem?_cons_zero]; with_reducible rfl) | (simp only [List.getElem?_toArray, List.getElem?_cons_zero]; with_reducible rfl))); (focus (intro _ _ h; cases h)); (focus rfl); (focus (intro w' hJ; skip; go_simp <;> with_reducible rfl)); simp only [Act.put, List.setIfInBounds_toArray, List.set_cons_zero, List.set_cons_succ]))
              refine ChainL.nil ?_
              go_wp2
              go_roundw
              case rel => exact ⟨j + 1, m + 1, by omega, by go_num, HM1.out, by rw [HP1.out]; exact own9, I9.1⟩
              case measure => simp [intOf]; omega
            · by_cases h2 : z' = 2
              · subst h2
                have hX2 : cvK L (j + 1) = cvK L j ++ [(2, (x, y, 1), (x', y', 2), noP, (x2, y2, z2))] := by rw [HXX.out]; simp [cvS, rcv, k0, k1, p0, p1, p2]
                have HM1 := Lib.hid (show m + 1 = (P ++ cvK L (j + 1)).length by rw [hX2, ← List.append_assoc, List.length_append, ← HM.out]; rfl)
                have HP1 := Lib.hid (show cvCells (P ++ cvK L (j + 1)) = XS ++ [.int .i64 2, .int .i64 x, .int .i64 y, .int .i64 1, .int .i64 x', .int .i64 y', .int .i64 2, .int .i64 0, .int .i64 0, .int .i64 0, .int .i64 x2, .int .i64 y2, .int .i64 z2] by rw [hX2, ← List.append_assoc, cvCells_append, ← HXS.out]; rfl)
                clear hX2 k0 k1 p0 p1 p2 p3
                go_wp2_with (first | (go_at_call 72; ((with_reducible refine (C1 _ hb).mono ?_); rintro e w3 ⟨rfl, b3⟩; have q0 := (Blk.new w3 25 #[.int .i64 x', .int .i64 y', .int .i64 2]).cell 2; simp only [List.getElem?_toArray, List.getElem?_cons_zero, List.getElem?_cons_succ] at q0)))
                obtain ⟨pb, hpb0⟩ : ∃ pb, pb = w3.heap.size := ⟨_, rfl⟩
                have HP4 : Blk (w3.alloc (.cells #[.int .i64 x', .int .i64 y', .int .i64 2] 25)) pb 25 #[.int .i64 x', .int .i64 y', .int .i64 2] := hpb0 ▸ Blk.new w3 _ _
                have HR4 : Below wr.heap.size wr (w3.alloc (.cells #[.int .i64 x', .int .i64 y', .int .i64 2] 25)) := b3.alloc b3.size _
                have HB4 := hb.trans (HR4.mono hb.size)
                have hpb : ∀ b ∈ blk v0, pb ≠ b := fun b hm e => by have := blk_lt HW.out b hm; have := b3.size; omega
                have HD : ∀ W, IR w1 pb x' y' 2 W → W.cell? ⟨fb, fo + j * 3, none⟩ = some (.int .i64 x) ∧ W.cell? ⟨fb, fo + j * 3 + 1, none⟩ = some (.int .i64 y) ∧ W.cell? ⟨fb, fo + j * 3 + 2, none⟩ = some (.int .i64 1) ∧ fb < W.heap.size ∧ W.cell? ⟨pb, 0, none⟩ = some (.int .i64 x') ∧ W.cell? ⟨pb, 1, none⟩ = some (.int .i64 y') ∧ W.cell? ⟨pb, 2, none⟩ = some (.int .i64 2) ∧ pb < W.heap.size ∧ j < m0 ∧ (0 : Nat) = 0 := fun W hW => by
                  have hz := hW.1.size
                  exact ⟨(hW.1.cell (p := ⟨fb, fo + j * 3, none⟩) hfb).trans f0, (hW.1.cell (p := ⟨fb, fo + j * 3 + 1, none⟩) hfb).trans f1, (hW.1.cell (p := ⟨fb, fo + j * 3 + 2, none⟩) hfb).trans f2, by omega, hW.2.cell 0, hW.2.cell 1, hW.2.cell 2, hW.2.lt, hjm, rfl⟩
                rw [← hpb0]
                generalize w3.alloc (.cells #[.int .i64 x', .int .i64 y', .int .i64 2] 25) = W4 at *
                clear hpb0
                have hI : IR w1 pb x' y' 2 W4.drew := ⟨HB4.drew, HP4.below ((Below.refl _ _).drew)⟩
                have own0 := own_stay HW.out (HR4.drew)
                refine wp_region_chain (IR w1 pb x' y' 2) [(0, false), (1, false), (2, false), (3, false), (4, false), (5, false), (6, false), (7, false), (8, false), (9, true), (10, false), (11, true), (12, true), (13, false)] (by kernel_rfl) (by kernel_rfl) hI ?_
                repeat (first
                  | (refine ChainL.skip (o := ?_) ?_ ?_ ?_; rotate_left; (focus (first | (simp only [List.getElem?_toArray, List.getElem?_cons_succ, List.getElem?_cons_zero]; with_reducible rfl) | (simp only [List.getElem?_toArray, List.getElem?_cons_zero]; with_reducible rfl))); (focus rfl); simp only [Act.put, List.setIfInBounds_toArray, List.set_cons_zero, List.set_cons_succ])
                  | (refine ChainL.val (o := ?_) (v := ?_) ?_ ?_ ?_ ?_ ?_; rotate_left 2; (focus (first | (simp only [List.getElem?_toArray, List.getElem?_cons_succ, List.getElem?_cons_zero]; with_reducible rfl) | (simp only [List.getElem?_toArray, List.getElem?_cons_zero]; with_reducible rfl))); (focus (intro _ _ h; cases h)); (focus rfl); (focus (intro w' hJ; obtain ⟨y1, y2, y3, y4, y5, y6, y7, y8, y9, y10⟩ := HD _ hJ; go_simp <;> with_reducible rfl)); simp only [Act.put, List.setIfInBounds_toArray, List.set_cons_zero, List.set_cons_succ]))
                refine ChainL.call (o := ?_) (f := ?_) (args := ?_) ?_ ?_ ?_ ?_
                rotate_left 3
                (focus (simp only [List.getElem?_toArray, List.getElem?_cons_succ, List.getElem?_cons_zero]; with_reducible rfl))
                (focus rfl)
                (focus (go_simp; (constructor <;> with_reducible rfl)))
                with_reducible refine (C2 _ hI.b).mono ?_
                rintro e w5 ⟨rfl, b5⟩
                have I5 : IR w1 pb x' y' 2 w5 := ⟨hI.1.trans (b5.mono hI.1.size), hI.2.below b5⟩
                have own5 := own_stay own0 b5
                refine ⟨_, rfl, I5, ?_⟩
                simp only [Act.put, List.setIfInBounds_toArray, List.set_cons_zero, List.set_cons_succ]
                repeat (first
                  | (refine ChainL.skip (o := ?_) ?_ ?_ ?_; rotate_left; (focus (first | (simp only [List.getElem?_toArray, List.getElem?_cons_succ, List.getElem?_cons_zero]; with_reducible rfl) | (simp only [List.getElem?_toArray, List.getElem?_cons_zero]; with_reducible rfl))); (focus rfl); simp only [Act.put, List.setIfInBounds_toArray, List.set_cons_zero, List.set_cons_succ])
                  | (refine ChainL.val (o := ?_) (v := ?_) ?_ ?_ ?_ ?_ ?_; rotate_left 2; (focus (first | (simp only [List.getElem?_toArray, List.getElem?_cons_succ, List.getElem?_cons_zero]; with_reducible rfl) | (simp only [List.getElem?_toArray, List.getElem?_cons_zero]; with_reducible rfl))); (focus (intro _ _ h; cases h)); (focus rfl); (focus (intro w' hJ; obtain ⟨y1, y2, y3, y4, y5, y6, y7, y8, y9, y10⟩ := HD _ hJ; go_simp <;> with_reducible rfl)); simp only [Act.put, List.setIfInBounds_toArray, List.set_cons_zero, List.set_cons_succ]))
                refine ChainL.does (o := ?_) (v := ?_) (w1 := ?_) ?_ ?_ ?_ ?_ ?_
                rotate_left 3
                (focus (simp only [List.getElem?_toArray, List.getElem?_cons_succ, List.getElem?_cons_zero]; with_reducible rfl))
                (focus rfl)
                (focus (go_simp; (constructor <;> with_reducible rfl)))
                exact ⟨(I5.1.alloc I5.1.size _), I5.2.below ((Below.refl _ _).alloc (Nat.le_refl _) _)⟩
                simp only [Act.put, List.setIfInBounds_toArray, List.set_cons_zero, List.set_cons_succ]
                refine ChainL.append (o := ?_) ?_ ?_ (.tmp 52) (.tmp 63) 78 ?_ w1.heap.size 83 i1 (.agg #[.int .i64 0, .int .i64 0, .int .i64 0, .int .i64 0, .int .i64 0, .int .i64 0, .int .i64 0, .int .i64 0, .int .i64 0, .int .i64 0, .int .i64 0, .int .i64 0, .int .i64 0]) 13 104 Try.underlying78 HI1.out HZ1.out HS1.out HY1.out rfl (by decide) v0 m XS ?_ (own_stay own5 ((Below.refl _ _).alloc (Nat.le_refl _) _)) _ _ 1 1 ([.int .i64 2, .int .i64 x, .int .i64 y, .int .i64 1, .int .i64 x', .int .i64 y', .int .i64 2, .int .i64 0, .int .i64 0, .int .i64 0, .int .i64 x2, .int .i64 y2, .int .i64 z2]) ?_ (lists_row1 w5 [.int .i64 2, .int .i64 x, .int .i64 y, .int .i64 1, .int .i64 x', .int .i64 y', .int .i64 2, .int .i64 0, .int .i64 0, .int .i64 0, .int .i64 x2, .int .i64 y2, .int .i64 z2] _) rfl (by simp [Value.oneCell']) (by simp only [maxLen]; omega) (by omega) (Nat.le_trans I5.1.size (show (w5).heap.size ≤ _ from ((Below.refl _ (w5)).alloc (Nat.le_refl _) (.cells #[.int .i64 2, .int .i64 x, .int .i64 y, .int .i64 1, .int .i64 x', .int .i64 y', .int .i64 2, .int .i64 0, .int .i64 0, .int .i64 0, .int .i64 x2, .int .i64 y2, .int .i64 z2] 83)).size)) ?_
                rotate_left 1
                (focus (simp only [List.getElem?_toArray, List.getElem?_cons_succ, List.getElem?_cons_zero]; with_reducible rfl))
                (focus rfl)
                (focus rfl)
                (focus rfl)
                (focus rfl)
                intro v1 w9 own9 hg9 hat9
                have I9 : IR w1 pb x' y' 2 w9 := IR.push I5 own5 ((Below.refl _ _).alloc (Nat.le_refl _) (.cells #[.int .i64 2, .int .i64 x, .int .i64 y, .int .i64 1, .int .i64 x', .int .i64 y', .int .i64 2, .int .i64 0, .int .i64 0, .int .i64 0, .int .i64 x2, .int .i64 y2, .int .i64 z2] 83)) hg9 (fun hm => hpb _ hm)
                refine ⟨I9, ?_⟩
                simp only [Act.put, List.setIfInBounds_toArray, List.set_cons_zero, List.set_cons_succ]
                repeat (first
                  | (refine ChainL.skip (o := ?_) ?_ ?_ ?_; rotate_left; (focus (first | (simp only [List.getElem?_toArray, List.getElem?_cons_succ, List.getElem?_cons_zero]; with_reducible rfl) | (simp only [List.getElem?_toArray, List.getElem?_cons_zero]; with_reducible rfl))); (focus rfl); simp only [Act.put, List.setIfInBounds_toArray, List.set_cons_zero, List.set_cons_succ])
                  | (refine ChainL.val (o := ?_) (v := ?_) ?_ ?_ ?_ ?_ ?_; rotate_left 2; (focus (first | (simp only [List.getElem?_toArray, List.getElem?_cons_succ, List.getElem?_cons_zero]; with_reducible rfl) | (simp only [List.getElem?_toArray, List.getElem?_cons_zero]; with_reducible rfl))); (focus (intro _ _ h; cases h)); (focus rfl); (focus (intro w' hJ; skip; go_simp <;> with_reducible rfl)); simp only [Act.put, List.setIfInBounds_toArray, List.set_cons_zero, List.set_cons_succ]))
                refine ChainL.nil ?_
                go_wp2
                go_roundw
                case rel => exact ⟨j + 1, m + 1, by omega, by go_num, HM1.out, by rw [HP1.out]; exact own9, I9.1⟩
                case measure => simp [intOf]; omega
              · by_cases h3 : z' = 3
                · subst h3
                  have hX2 : cvK L (j + 1) = cvK L j ++ [(3, (x, y, 1), (x', y', 3), (x2, y2, z2), (x3, y3, z3))] := by rw [HXX.out]; simp [cvS, rcv, k0, k1, p0, p1, p2, p3]
                  have HM1 := Lib.hid (show m + 1 = (P ++ cvK L (j + 1)).length by rw [hX2, ← List.append_assoc, List.length_append, ← HM.out]; rfl)
                  have HP1 := Lib.hid (show cvCells (P ++ cvK L (j + 1)) = XS ++ [.int .i64 3, .int .i64 x, .int .i64 y, .int .i64 1, .int .i64 x', .int .i64 y', .int .i64 3, .int .i64 x2, .int .i64 y2, .int .i64 z2, .int .i64 x3, .int .i64 y3, .int .i64 z3] by rw [hX2, ← List.append_assoc, cvCells_append, ← HXS.out]; rfl)
                  clear hX2 k0 k1 p0 p1 p2 p3
                  go_wp2_with (first | (go_at_call 72; ((with_reducible refine (C1 _ hb).mono ?_); rintro e w3 ⟨rfl, b3⟩; have q0 := (Blk.new w3 25 #[.int .i64 x', .int .i64 y', .int .i64 3]).cell 2; simp only [List.getElem?_toArray, List.getElem?_cons_zero, List.getElem?_cons_succ] at q0)))
                  obtain ⟨pb, hpb0⟩ : ∃ pb, pb = w3.heap.size := ⟨_, rfl⟩
                  have HP4 : Blk (w3.alloc (.cells #[.int .i64 x', .int .i64 y', .int .i64 3] 25)) pb 25 #[.int .i64 x', .int .i64 y', .int .i64 3] := hpb0 ▸ Blk.new w3 _ _
                  have HR4 : Below wr.heap.size wr (w3.alloc (.cells #[.int .i64 x', .int .i64 y', .int .i64 3] 25)) := b3.alloc b3.size _
                  have HB4 := hb.trans (HR4.mono hb.size)
                  have hpb : ∀ b ∈ blk v0, pb ≠ b := fun b hm e => by have := blk_lt HW.out b hm; have := b3.size; omega
                  have HD : ∀ W, IR w1 pb x' y' 3 W → W.cell? ⟨fb, fo + j * 3, none⟩ = some (.int .i64 x) ∧ W.cell? ⟨fb, fo + j * 3 + 1, none⟩ = some (.int .i64 y) ∧ W.cell? ⟨fb, fo + j * 3 + 2, none⟩ = some (.int .i64 1) ∧ fb < W.heap.size ∧ W.cell? ⟨pb, 0, none⟩ = some (.int .i64 x') ∧ W.cell? ⟨pb, 1, none⟩ = some (.int .i64 y') ∧ W.cell? ⟨pb, 2, none⟩ = some (.int .i64 3) ∧ pb < W.heap.size ∧ j < m0 ∧ (0 : Nat) = 0 := fun W hW => by
                    have hz := hW.1.size
                    exact ⟨(hW.1.cell (p := ⟨fb, fo + j * 3, none⟩) hfb).trans f0, (hW.1.cell (p := ⟨fb, fo + j * 3 + 1, none⟩) hfb).trans f1, (hW.1.cell (p := ⟨fb, fo + j * 3 + 2, none⟩) hfb).trans f2, by omega, hW.2.cell 0, hW.2.cell 1, hW.2.cell 2, hW.2.lt, hjm, rfl⟩
                  rw [← hpb0]
                  generalize w3.alloc (.cells #[.int .i64 x', .int .i64 y', .int .i64 3] 25) = W4 at *
                  clear hpb0
                  have hI : IR w1 pb x' y' 3 W4.drew := ⟨HB4.drew, HP4.below ((Below.refl _ _).drew)⟩
                  have own0 := own_stay HW.out (HR4.drew)
                  refine wp_region_chain (IR w1 pb x' y' 3) [(0, false), (1, false), (2, false), (3, false), (4, false), (5, false), (6, false), (7, false), (8, false), (10, false), (11, false), (12, false), (9, true), (13, true), (14, false), (15, true), (16, true), (17, false)] (by kernel_rfl) (by kernel_rfl) hI ?_
                  repeat (first
                    | (refine ChainL.skip (o := ?_) ?_ ?_ ?_; rotate_left; (focus (first | (simp only [List.getElem?_toArray, List.getElem?_cons_succ, List.getElem?_cons_zero]; with_reducible rfl) | (simp only [List.getElem?_toArray, List.getElem?_cons_zero]; with_reducible rfl))); (focus rfl); simp only [Act.put, List.setIfInBounds_toArray, List.set_cons_zero, List.set_cons_succ])
                    | (refine ChainL.val (o := ?_) (v := ?_) ?_ ?_ ?_ ?_ ?_; rotate_left 2; (focus (first | (simp only [List.getElem?_toArray, List.getElem?_cons_succ, List.getElem?_cons_zero]; with_reducible rfl) | (simp only [List.getElem?_toArray, List.getElem?_cons_zero]; with_reducible rfl))); (focus (intro _ _ h; cases h)); (focus rfl); (focus (intro w' hJ; obtain ⟨y1, y2, y3, y4, y5, y6, y7, y8, y9, y10⟩ := HD _ hJ; go_simp <;> with_reducible rfl)); simp only [Act.put, List.setIfInBounds_toArray, List.set_cons_zero, List.set_cons_succ]))
                  refine ChainL.call (o := ?_) (f := ?_) (args := ?_) ?_ ?_ ?_ ?_
                  rotate_left 3
                  (focus (simp only [List.getElem?_toArray, List.getElem?_cons_succ, List.getElem?_cons_zero]; with_reducible rfl))
                  (focus rfl)
                  (focus (go_simp; (constructor <;> with_reducible rfl)))
                  with_reducible refine (C2 _ hI.b).mono ?_
                  rintro e w5 ⟨rfl, b5⟩
                  have I5 : IR w1 pb x' y' 3 w5 := ⟨hI.1.trans (b5.mono hI.1.size), hI.2.below b5⟩
                  have own5 := own_stay own0 b5
                  refine ⟨_, rfl, I5, ?_⟩
                  simp only [Act.put, List.setIfInBounds_toArray, List.set_cons_zero, List.set_cons_succ]
                  refine ChainL.call (o := ?_) (f := ?_) (args := ?_) ?_ ?_ ?_ ?_
                  rotate_left 3
                  (focus (simp only [List.getElem?_toArray, List.getElem?_cons_succ, List.getElem?_cons_zero]; with_reducible rfl))
                  (focus rfl)
                  (focus (go_simp; (constructor <;> with_reducible rfl)))
                  with_reducible refine (C3 _ I5.b).mono ?_
                  rintro e w6 ⟨rfl, b6⟩
                  have I6 : IR w1 pb x' y' 3 w6 := ⟨I5.1.trans (b6.mono I5.1.size), I5.2.below b6⟩
                  have own6 := own_stay own5 b6
                  refine ⟨_, rfl, I6, ?_⟩
                  simp only [Act.put, List.setIfInBounds_toArray, List.set_cons_zero, List.set_cons_succ]
                  repeat (first
                    | (refine ChainL.skip (o := ?_) ?_ ?_ ?_; rotate_left; (focus (first | (simp only [List.getElem?_toArray, List.getElem?_cons_succ, List.getElem?_cons_zero]; with_reducible rfl) | (simp only [List.getElem?_toArray, List.getElem?_cons_zero]; with_reducible rfl))); (focus rfl); simp only [Act.put, List.setIfInBounds_toArray, List.set_cons_zero, List.set_cons_succ])
                    | (refine ChainL.val (o := ?_) (v := ?_) ?_ ?_ ?_ ?_ ?_; rotate_left 2; (focus (first | (simp only [List.getElem?_toArray, List.getElem?_cons_succ, List.getElem?_cons_zero]; with_reducible rfl) | (simp only [List.getElem?_toArray, List.getElem?_cons_zero]; with_reducible rfl))); (focus (intro _ _ h; cases h)); (focus rfl); (focus (intro w' hJ; obtain ⟨y1, y2, y3, y4, y5, y6, y7, y8, y9, y10⟩ := HD _ hJ; go_simp <;> with_reducible rfl)); simp only [Act.put, List.setIfInBounds_toArray, List.set_cons_zero, List.set_cons_succ]))
                  refine ChainL.does (o := ?_) (v := ?_) (w1 := ?_) ?_ ?_ ?_ ?_ ?_
                  rotate_left 3
                  (focus (simp only [List.getElem?_toArray, List.getElem?_cons_succ, List.getElem?_cons_zero]; with_reducible rfl))
                  (focus rfl)
                  (focus (go_simp; (constructor <;> with_reducible rfl)))
                  exact ⟨(I6.1.alloc I6.1.size _), I6.2.below ((Below.refl _ _).alloc (Nat.le_refl _) _)⟩
                  simp only [Act.put, List.setIfInBounds_toArray, List.set_cons_zero, List.set_cons_succ]
                  refine ChainL.append (o := ?_) ?_ ?_ (.tmp 67) (.tmp 82) 78 ?_ w1.heap.size 83 i1 (.agg #[.int .i64 0, .int .i64 0, .int .i64 0, .int .i64 0, .int .i64 0, .int .i64 0, .int .i64 0, .int .i64 0, .int .i64 0, .int .i64 0, .int .i64 0, .int .i64 0, .int .i64 0]) 13 104 Try.underlying78 HI1.out HZ1.out HS1.out HY1.out rfl (by decide) v0 m XS ?_ (own_stay own6 ((Below.refl _ _).alloc (Nat.le_refl _) _)) _ _ 1 1 ([.int .i64 3, .int .i64 x, .int .i64 y, .int .i64 1, .int .i64 x', .int .i64 y', .int .i64 3, .int .i64 x2, .int .i64 y2, .int .i64 z2, .int .i64 x3, .int .i64 y3, .int .i64 z3]) ?_ (lists_row1 w6 [.int .i64 3, .int .i64 x, .int .i64 y, .int .i64 1, .int .i64 x', .int .i64 y', .int .i64 3, .int .i64 x2, .int .i64 y2, .int .i64 z2, .int .i64 x3, .int .i64 y3, .int .i64 z3] _) rfl (by simp [Value.oneCell']) (by simp only [maxLen]; omega) (by omega) (Nat.le_trans I6.1.size (show (w6).heap.size ≤ _ from ((Below.refl _ (w6)).alloc (Nat.le_refl _) (.cells #[.int .i64 3, .int .i64 x, .int .i64 y, .int .i64 1, .int .i64 x', .int .i64 y', .int .i64 3, .int .i64 x2, .int .i64 y2, .int .i64 z2, .int .i64 x3, .int .i64 y3, .int .i64 z3] 83)).size)) ?_
                  rotate_left 1
                  (focus (simp only [List.getElem?_toArray, List.getElem?_cons_succ, List.getElem?_cons_zero]; with_reducible rfl))
                  (focus rfl)
                  (focus rfl)
                  (focus rfl)
                  (focus rfl)
                  intro v1 w9 own9 hg9 hat9
                  have I9 : IR w1 pb x' y' 3 w9 := IR.push I6 own6 ((Below.refl _ _).alloc (Nat.le_refl _) (.cells #[.int .i64 3, .int .i64 x, .int .i64 y, .int .i64 1, .int .i64 x', .int .i64 y', .int .i64 3, .int .i64 x2, .int .i64 y2, .int .i64 z2, .int .i64 x3, .int .i64 y3, .int .i64 z3] 83)) hg9 (fun hm => hpb _ hm)
                  refine ⟨I9, ?_⟩
                  simp only [Act.put, List.setIfInBounds_toArray, List.set_cons_zero, List.set_cons_succ]
                  repeat (first
                    | (refine ChainL.skip (o := ?_) ?_ ?_ ?_; rotate_left; (focus (first | (simp only [List.getElem?_toArray, List.getElem?_cons_succ, List.getElem?_cons_zero]; with_reducible rfl) | (simp only [List.getElem?_toArray, List.getElem?_cons_zero]; with_reducible rfl))); (focus rfl); simp only [Act.put, List.setIfInBounds_toArray, List.set_cons_zero, List.set_cons_succ])
                    | (refine ChainL.val (o := ?_) (v := ?_) ?_ ?_ ?_ ?_ ?_; rotate_left 2; (focus (first | (simp only [List.getElem?_toArray, List.getElem?_cons_succ, List.getElem?_cons_zero]; with_reducible rfl) | (simp only [List.getElem?_toArray, List.getElem?_cons_zero]; with_reducible rfl))); (focus (intro _ _ h; cases h)); (focus rfl); (focus (intro w' hJ; skip; go_simp <;> with_reducible rfl)); simp only [Act.put, List.setIfInBounds_toArray, List.set_cons_zero, List.set_cons_succ]))
                  refine ChainL.nil ?_
                  go_wp2
                  go_roundw
                  case rel => exact ⟨j + 1, m + 1, by omega, by go_num, HM1.out, by rw [HP1.out]; exact own9, I9.1⟩
                  case measure => simp [intOf]; omega
                · have t1 : (z' == 1) = false := by simpa using h1
                  have t2 : (z' == 2) = false := by simpa using h2
                  have t3 : (z' == 3) = false := by simpa using h3
                  have hX2 : cvK L (j + 1) = cvK L j := by rw [HXX.out]; simp [cvS, rcv, k0, k1, t1, t2, t3]
                  have HM1 := Lib.hid (show m = (P ++ cvK L (j + 1)).length by rw [hX2, ← HM.out])
                  have HP1 := Lib.hid (show cvCells (P ++ cvK L (j + 1)) = XS by rw [hX2, ← HXS.out])
                  clear hX2 k0 k1 p0 p1 p2 p3 h1 h2 h3
                  go_wp2_with (first | (go_at_call 72; ((with_reducible refine (C1 _ hb).mono ?_); rintro e w3 ⟨rfl, b3⟩; have q0 := (Blk.new w3 25 #[.int .i64 x', .int .i64 y', .int .i64 z']).cell 2; simp only [List.getElem?_toArray, List.getElem?_cons_zero, List.getElem?_cons_succ] at q0)))
                  go_roundw
                  case rel => exact ⟨j + 1, m, by omega, by go_num, HM1.out, by rw [HP1.out]; exact own_stay HW.out (b3.alloc b3.size _), hb.trans ((b3.alloc b3.size _).mono hwr)⟩
                  case measure => simp [intOf]; omega
        · obtain rfl : j = m0 := by omega
          have d2 : decide ((j : Int) < (j : Int)) = false := by simp
          have HS := Lib.hid (show P ++ cvK L j = P ++ cvsOf L by unfold cvsOf; rw [HM0.out])
          go_wp2
          go_roundw
          case rel => exact ⟨k + 1, m, by omega, by go_num, by rw [HT.out, ← HS.out]; exact hm, by rw [HT.out, ← HS.out]; exact hown, hb⟩
          case measure => simp [intOf]; omega
    · obtain rfl : k = n := by omega
      have d1 : decide ((k : Int) < (k : Int)) = false := by simp
      have HS := Lib.hid (show (Es.take k).flatMap cvsOf = Es.flatMap cvsOf by rw [HN.out, List.take_length])
      rw [HS.out] at hown' hm'
      go_wp2
      go_ret
      exact ⟨_, rfl, by rw [← hm']; exact own_mono hown' hw1, b1.trans (hb'.mono hw1)⟩

end Go.Proofs.Ytlacjifnniahhaa

namespace Go.Proofs.Ytlacjifnniahhaa
open Go Go.RowKit

theorem ringP_shift (L : List Pt) (i q : Int) : ringP L (i + L.length * q) = ringP L i := by unfold ringP; rw [Int.add_mul_emod_self_left]
theorem kd_add (L : List Pt) (i : Int) : kd L (i + L.length) = kd L i := by unfold kd; rw [ringP_add]
theorem kd_shift (L : List Pt) (i q : Int) : kd L (i + L.length * q) = kd L i := by unfold kd; rw [ringP_shift]
/-- An index in the ring, and its place in the list. -/
theorem ring_index {L : List Pt} (h : 0 < L.length) (i : Int) : ∃ (m : Nat) (q : Int), i = (m : Int) + L.length * q ∧ m < L.length ∧ L[m]? = some (ringP L i) := by
  obtain ⟨m, h1, h2, h3⟩ := ring_some h i
  refine ⟨m, i / L.length, ?_, h2, h3⟩
  have := Int.emod_add_mul_ediv i L.length
  omega
theorem okA_ring {L : List Pt} (h : mayC L = true) (i : Int) : okP (ringP L i) = true ∧ (kd L i = 3 → pairK (kd L (i - 1)) (kd L (i + 1)) = true) := by
  have h0 := may_pos h
  unfold mayC at h
  rw [Bool.and_eq_true, allI_true] at h
  obtain ⟨m, q, hi, hm, hp⟩ := ring_index h0 i
  have := h.2 m _ hp
  unfold okA at this
  rw [Bool.and_eq_true] at this
  refine ⟨this.1, fun h3 => ?_⟩
  have h4 : ((ringP L i).2.2 == 3) = true := by unfold kd at h3; rw [h3]; rfl
  rw [h4, Bool.not_true, Bool.false_or] at this
  have h5 := this.2
  unfold pairB at h5
  rw [hi, show (m : Int) + L.length * q - 1 = ((m : Int) - 1) + L.length * q by omega, show (m : Int) + L.length * q + 1 = ((m : Int) + 1) + L.length * q by omega, kd_shift, kd_shift]
  exact h5
theorem pairK_iff {a b : Int} : pairK a b = true ↔ (a = 1 ∧ b = 3) ∨ (a = 3 ∧ b = 1) := by simp [pairK]
theorem may_cub {L : List Pt} (h : mayC L = true) (i : Int) (h3 : kd L i = 3) : cubK L.length (kd L (i - 1)) (kd L (i + 1)) (kd L (i + 2)) (kd L (i - 2)) = true := by
  have h0 := may_pos h
  have hp := pairK_iff.1 ((okA_ring h i).2 h3)
  have hn : ¬ L.length < 3 := by
    intro hn
    have e : L.length = 1 ∨ L.length = 2 := by omega
    rcases e with e | e
    · have e1 := kd_add L (i - 1)
      have e2 := kd_add L i
      rw [e] at e1 e2
      rw [show i - 1 + ((1 : Nat) : Int) = i by omega] at e1
      rw [show i + ((1 : Nat) : Int) = i + 1 by omega] at e2
      omega
    · have e1 := kd_add L (i - 1)
      rw [e, show i - 1 + ((2 : Nat) : Int) = i + 1 by omega] at e1
      omega
  unfold cubK
  rw [if_neg hn]
  rcases hp with ⟨a, b⟩ | ⟨a, b⟩
  · rw [if_pos (by rw [a, b]; rfl)]
    have h4 := pairK_iff.1 ((okA_ring h (i + 1)).2 b)
    rw [show i + 1 - 1 = i by omega, show i + 1 + 1 = i + 2 by omega] at h4
    have : kd L (i + 2) = 1 := by omega
    rw [this]; rfl
  · rw [if_neg (by rw [a, b]; decide)]
    have h4 := pairK_iff.1 ((okA_ring h (i - 1)).2 a)
    rw [show i - 1 - 1 = i - 2 by omega, show i - 1 + 1 = i by omega] at h4
    have : kd L (i - 2) = 1 := by omega
    rw [a, b, this]; rfl
theorem cub_pair {n : Nat} {a b p q : Int} (h : cubK n a b p q = true) : pairK a b = true := by
  unfold cubK at h
  split at h
  · cases h
  · split at h
    · rename_i h1
      simp at h1
      rw [pairK_iff]; exact .inl h1
    · simp at h
      rw [pairK_iff]; exact .inr ⟨h.1.1, h.1.2⟩
theorem may_same (L : List Pt) : mayC L = rmayC L := by
  rw [Bool.eq_iff_iff]
  constructor
  · intro h
    have hm := h
    unfold mayC at h
    unfold rmayC
    rw [Bool.and_eq_true, allI_true] at h ⊢
    refine ⟨h.1, fun j p hp => ?_⟩
    have h1 := h.2 j p hp
    unfold okA at h1
    unfold okC
    rw [Bool.and_eq_true] at h1 ⊢
    refine ⟨h1.1, ?_⟩
    cases h3 : (p.2.2 == 3)
    · rfl
    · rw [Bool.not_true, Bool.false_or]
      unfold cubB
      exact may_cub hm j (by unfold kd; rw [ringP_nat hp]; simpa using h3)
  · intro h
    unfold rmayC at h
    unfold mayC
    rw [Bool.and_eq_true, allI_true] at h ⊢
    refine ⟨h.1, fun j p hp => ?_⟩
    have h1 := h.2 j p hp
    unfold okC at h1
    unfold okA
    rw [Bool.and_eq_true] at h1 ⊢
    refine ⟨h1.1, ?_⟩
    have h2 := h1.2
    cases h3 : (p.2.2 == 3)
    · rfl
    · rw [h3, Bool.not_true, Bool.false_or] at h2
      rw [Bool.not_true, Bool.false_or]
      unfold cubB at h2
      unfold pairB
      exact cub_pair h2
theorem chk_same (Ls : List (List Pt)) : rchkE Ls = chkE Ls := by
  unfold rchkE chkE
  rw [show rmayC = mayC from funext fun L => (may_same L).symm]
theorem revL_twice (L : List Pt) : revL (revL L) = L := by cases L <;> simp [revL]
theorem rev_twice (Ls : List (List Pt)) : (Ls.map revL).map revL = Ls := by
  rw [List.map_map]
  exact (List.map_congr_left (fun L _ => revL_twice L)).trans (List.map_id' Ls)
theorem cntO_app (a b : List (List Pt)) : cntO (a ++ b) = cntO a + cntO b := by simp [cntO]
theorem join_many {a b : List (List Pt)} (ha : chkE a = 0) (hb : chkE b = 0) : joinE a b = if 256 < a.length + b.length ∨ 4096 < cntO a + cntO b then 100 else 0 := by
  unfold joinE
  rw [if_pos ha, if_pos hb]
  have h1 := (chk_zero ha).2.2
  have h2 := (chk_zero hb).2.2
  unfold chkE
  rw [List.length_append, cntO_app]
  have : (a ++ b).all mayC = true := by
    rw [List.all_eq_true]
    intro L hL
    rcases List.mem_append.1 hL with h | h
    · exact h1 L h
    · exact h2 L h
  rw [if_pos this]

end Go.Proofs.Ytlacjifnniahhaa

namespace Go.Proofs.Ytlacjifnniahhaa
open Go Go.RowKit

def mm (L : List Pt) (a : Int) : List Pt := if kd L (a - 1) == 2 && kd L a == 2 then [midP (ringP L (a - 1)) (ringP L a)] else []
theorem stepX_mm (L : List Pt) (a : Int) : stepX L a = mm L a ++ [ringP L a] := rfl
theorem rm_mm {L : List Pt} {n k : Nat} (h : k + 1 < n) : rm L n k = mm L ((st L : Int) + k + 1) := by
  unfold rm mm
  rw [show (st L : Int) + k + 1 - 1 = (st L : Int) + k by omega, show decide (k + 1 = n) = false by simp; omega]
  simp
theorem ex_shift (L : List Pt) : ∀ k, k < L.length → exK L (k + 1) = mm L (st L) ++ rexK L k ++ [ringP L ((st L : Int) + k)]
  | 0, _ => by
    rw [exK_succ, stepX_mm]
    simp [exK, rexK]
  | k + 1, h => by
    rw [exK_succ, ex_shift L k (by omega), rexK_succ, rm_mm h, stepX_mm, show ((st L : Int) + ((k + 1 : Nat) : Int)) = (st L : Int) + k + 1 by omega]
    simp
theorem st_on {L : List Pt} (h : hasOn L = true) : kd L (st L : Int) = 1 := by
  unfold st
  rw [if_pos h]
  have hlt : L.findIdx isOn < L.length := List.findIdx_lt_length.2 (by simpa [hasOn] using h)
  have := List.findIdx_getElem (w := hlt)
  unfold kd
  rw [ringP_nat (List.getElem?_eq_getElem hlt)]
  simpa [isOn] using this
theorem all_two {L : List Pt} (h : mayC L = true) (hO : hasOn L = false) (i : Int) : kd L i = 2 := by
  have hno : ∀ j : Int, kd L j ≠ 1 := fun j e => by
    obtain ⟨m, _, _, hp⟩ := ring_some (may_pos h) j
    have : hasOn L = true := List.any_eq_true.2 ⟨_, List.mem_of_getElem? hp, by unfold kd at e; simp [isOn, e]⟩
    rw [hO] at this; cases this
  obtain ⟨h1, h2⟩ := okA_ring h i
  have h3 : kd L i ≠ 3 := fun e => by
    rcases pairK_iff.1 (h2 e) with ⟨a, _⟩ | ⟨_, a⟩
    · exact hno _ a
    · exact hno _ a
  unfold okP at h1
  simp only [Bool.and_eq_true, decide_eq_true_eq] at h1
  have h4 := hno i
  have h5 : 1 ≤ kd L i ∧ kd L i ≤ 3 := ⟨h1.1.2, h1.2⟩
  omega
theorem ex_rex {L : List Pt} (h : mayC L = true) : exE L = rexE L := by
  obtain ⟨m, hm⟩ : ∃ m, L.length = m + 1 := ⟨L.length - 1, by have := may_pos h; omega⟩
  unfold exE rexE
  rw [hm, ex_shift L m (by omega), rexK_succ, hm]
  have e1 : (st L : Int) + m + 1 = (st L : Int) + L.length := by rw [hm]; omega
  cases hO : hasOn L
  · have h2 := all_two h hO
    have hs : st L = 0 := by unfold st; rw [hO]; rfl
    have a : mm L (st L : Int) = preR L := by
      unfold mm preR
      rw [h2, h2, hO, hs, show (((0 : Nat) : Int) - 1) = (((L.length : Int) - 1) - L.length) by omega, ringP_sub]
      rfl
    have b : rm L (m + 1) m = [] := by
      unfold rm
      rw [h2, h2, h2]
      simp
    rw [a, b]
    simp
  · have h1 := st_on hO
    have a : mm L (st L : Int) = preR L := by
      unfold mm preR
      rw [h1, hO]
      simp
    have b : rm L (m + 1) m = [] := by
      unfold rm
      rw [e1, kd_add, h1]
      simp
    rw [a, b]
    simp

/-- No two PointQuads follow one another. -/
def na : List Pt → Bool
  | p :: q :: r => !(p.2.2 == 2 && q.2.2 == 2) && na (q :: r)
  | _ => true
theorem na_append (x : Pt) (C : List Pt) : ∀ A : List Pt, na (A ++ [x]) = true → na (x :: C) = true → na (A ++ x :: C) = true
  | [], _, h => h
  | [p], h1, h2 => by
    simp only [List.singleton_append, na, Bool.and_true] at h1 ⊢
    rw [h1, h2]; rfl
  | p :: q :: A, h1, h2 => by
    simp only [List.cons_append, na, Bool.and_eq_true] at h1 ⊢
    exact ⟨h1.1, na_append x C (q :: A) h1.2 h2⟩
theorem na_at : ∀ (A : List Pt) (i : Nat) (p q : Pt), na A = true → A[i]? = some p → A[i + 1]? = some q → ¬ (p.2.2 = 2 ∧ q.2.2 = 2)
  | [], i, p, q, _, h, _ => by simp at h
  | [x], i, p, q, _, _, h => by simp at h
  | x :: y :: r, 0, p, q, h, hp, hq => by
    simp at hp hq
    subst hp hq
    simp only [na, Bool.and_eq_true] at h
    intro e
    rw [e.1, e.2] at h
    exact absurd h.1 (by decide)
  | x :: y :: r, i + 1, p, q, h, hp, hq => by
    simp only [na, Bool.and_eq_true] at h
    exact na_at (y :: r) i p q h.2 (by simpa using hp) (by simpa using hq)
def hd (L : List Pt) (a : Int) : Pt := if kd L (a - 1) == 2 && kd L a == 2 then midP (ringP L (a - 1)) (ringP L a) else ringP L a
theorem hd_add (L : List Pt) (a : Int) : hd L (a + L.length) = hd L a := by
  unfold hd
  rw [show a + (L.length : Int) - 1 = (a - 1) + L.length by omega, kd_add, kd_add, ringP_add, ringP_add]
theorem stepX_cases (L : List Pt) (a : Int) : (stepX L a = [hd L a] ∧ hd L a = ringP L a ∧ ¬ (kd L (a - 1) = 2 ∧ kd L a = 2)) ∨ (stepX L a = [hd L a, ringP L a] ∧ (hd L a).2.2 = 1 ∧ kd L (a - 1) = 2 ∧ kd L a = 2) := by
  unfold stepX hd
  by_cases h : kd L (a - 1) = 2 ∧ kd L a = 2
  · right
    have : (kd L (a - 1) == 2 && kd L a == 2) = true := by rw [h.1, h.2]; rfl
    rw [if_pos this, if_pos this]
    exact ⟨rfl, rfl, h⟩
  · left
    have : ¬ (kd L (a - 1) == 2 && kd L a == 2) = true := by simpa using h
    rw [if_neg this, if_neg this]
    exact ⟨rfl, rfl, h⟩
theorem ex_na (L : List Pt) : ∀ k, na (exK L k ++ [hd L ((st L : Int) + k)]) = true
  | 0 => by simp [exK, na]
  | k + 1 => by
    have ih := ex_na L k
    have hn : ((st L : Int) + ((k + 1 : Nat) : Int)) = (st L : Int) + k + 1 := by omega
    rw [exK_succ, hn]
    have next : ¬ (kd L ((st L : Int) + k) = 2 ∧ (hd L ((st L : Int) + k + 1)).2.2 = 2) := by
      rintro ⟨a, b⟩
      rcases stepX_cases L ((st L : Int) + k + 1) with ⟨_, h2, h3⟩ | ⟨_, h2, _⟩
      · rw [show (st L : Int) + k + 1 - 1 = (st L : Int) + k by omega] at h3
        rw [h2] at b
        exact h3 ⟨a, b⟩
      · omega
    have key : ∀ (p q : Pt), ¬ (p.2.2 = 2 ∧ q.2.2 = 2) → (!(p.2.2 == 2 && q.2.2 == 2)) = true := fun p q h => by
      cases h1 : (p.2.2 == 2) <;> cases h2 : (q.2.2 == 2) <;> first | rfl | exact absurd ⟨by simpa using h1, by simpa using h2⟩ h
    rcases stepX_cases L ((st L : Int) + k) with ⟨h1, h2, h3⟩ | ⟨h1, h2, h3, h4⟩
    · rw [h1, List.append_assoc]
      refine na_append _ _ _ ih ?_
      show (!((hd L ((st L : Int) + k)).2.2 == 2 && (hd L ((st L : Int) + k + 1)).2.2 == 2) && true) = true
      rw [Bool.and_true]
      exact key _ _ (by rw [h2]; exact next)
    · rw [h1, List.append_assoc]
      refine na_append _ _ _ ih ?_
      show (!((hd L ((st L : Int) + k)).2.2 == 2 && (ringP L ((st L : Int) + k)).2.2 == 2) && (!((ringP L ((st L : Int) + k)).2.2 == 2 && (hd L ((st L : Int) + k + 1)).2.2 == 2) && true)) = true
      rw [Bool.and_true, key _ _ (by rintro ⟨a, _⟩; omega), key _ _ next]
      rfl
theorem ex_head {L : List Pt} (h : mayC L = true) : (exE L)[0]? = some (hd L (st L)) ∧ (hd L (st L)).2.2 = 1 := by
  obtain ⟨m, hm⟩ : ∃ m, L.length = m + 1 := ⟨L.length - 1, by have := may_pos h; omega⟩
  constructor
  · have : ∀ k, (exK L (k + 1))[0]? = some (hd L (st L)) := fun k => by
      induction k with
      | zero =>
        rw [exK_succ]
        rcases stepX_cases L (st L : Int) with ⟨h1, _⟩ | ⟨h1, _⟩
        · simp [exK, h1]
        · simp [exK, h1]
      | succ k ih =>
        rw [exK_succ, List.getElem?_append_left]
        · exact ih
        · exact (List.getElem?_eq_some_iff.1 ih).1
    unfold exE
    rw [hm]; exact this m
  · cases hO : hasOn L
    · rcases stepX_cases L (st L : Int) with ⟨_, _, h3⟩ | ⟨_, h2, _⟩
      · exact absurd ⟨all_two h hO _, all_two h hO _⟩ h3
      · exact h2
    · have h1 := st_on hO
      rcases stepX_cases L (st L : Int) with ⟨_, h2, _⟩ | ⟨_, h2, _⟩
      · rw [h2]; exact h1
      · exact h2
theorem ex_pos {L : List Pt} (h : mayC L = true) : 0 < (exE L).length := (List.getElem?_eq_some_iff.1 (ex_head h).1).1
theorem ex_apart {L : List Pt} (h : mayC L = true) (k : Nat) (hk : k < (exE L).length) : ¬ (kd (exE L) ((k : Int) - 1) = 2 ∧ kd (exE L) k = 2) := by
  have hna := ex_na L L.length
  rw [hd_add] at hna
  obtain ⟨h0, h1⟩ := ex_head h
  change na (exE L ++ [hd L (st L)]) = true at hna
  generalize exE L = E at *
  obtain ⟨p, hp⟩ := at_some hk
  cases k with
  | zero =>
    rw [h0] at hp; cases hp
    intro e
    have : kd E ((0 : Nat) : Int) = 1 := by unfold kd; rw [ringP_nat h0]; exact h1
    omega
  | succ k =>
    obtain ⟨q, hq⟩ := at_some (L := E) (k := k) (by omega)
    have := na_at _ k q p hna (by rw [List.getElem?_append_left (by omega)]; exact hq) (by rw [List.getElem?_append_left (by omega)]; exact hp)
    rw [show (((k + 1 : Nat) : Int) - 1) = (k : Nat) by omega]
    unfold kd
    rw [ringP_nat hq, ringP_nat hp]
    exact this
theorem ex_stays {L : List Pt} (h : mayC L = true) : exE (exE L) = exE L := by
  have hap := ex_apart h
  obtain ⟨h0, h1⟩ := ex_head h
  generalize exE L = E at *
  have hst : st E = 0 := by
    obtain ⟨a, b⟩ := on_at h0 (by simp [isOn, h1]) (fun j q hj => absurd hj (Nat.not_lt_zero _))
    unfold st; rw [if_pos a, b]
  have key : ∀ k, k ≤ E.length → exK E k = E.take k := fun k => by
    induction k with
    | zero => intro _; simp [exK]
    | succ k ih =>
      intro hk
      obtain ⟨p, hp⟩ := at_some (L := E) (k := k) (by omega)
      rw [exK_succ, ih (by omega), hst, show (((0 : Nat) : Int) + (k : Int)) = (k : Int) by omega, take_snoc1 hp]
      rcases stepX_cases E (k : Int) with ⟨h2, h3, _⟩ | ⟨_, _, h3, h4⟩
      · rw [h2, h3, ringP_nat hp]
      · exact absurd ⟨h3, h4⟩ (hap k (by omega))
  unfold exE
  rw [key _ (Nat.le_refl _), List.take_length]

end Go.Proofs.Ytlacjifnniahhaa

namespace Go.Proofs.Ytlacjifnniahhaa
open Go Go.RowKit

theorem rexE_len (L : List Pt) : (rexE L).length ≤ 2 * L.length + 1 := by
  have h1 := rexK_len L L.length
  unfold rexE preR
  rw [List.length_append]
  split
  · simp; omega
  · simp; omega
theorem cvsOf_len (L : List Pt) : (cvsOf L).length ≤ L.length := cvK_len L L.length
theorem curves_len : ∀ (Ls : List (List Pt)), (∀ L ∈ Ls, 0 < L.length) → ∀ k, (((Ls.map rexE).take k).flatMap cvsOf).length ≤ 3 * cntO Ls
  | [], _, k => by simp
  | L :: Ls, h, 0 => by simp
  | L :: Ls, h, k + 1 => by
    have h1 := curves_len Ls (fun M hM => h M (by simp [hM])) k
    have h2 := cvsOf_len (rexE L)
    have h3 := rexE_len L
    have h4 := h L (by simp)
    have e : cntO (L :: Ls) = L.length + cntO Ls := by simp [cntO]
    rw [List.map_cons, List.take_succ_cons, List.flatMap_cons, List.length_append, e]
    omega
theorem len_cnt {Ls : List (List Pt)} {L : List Pt} (h : L ∈ Ls) : L.length ≤ cntO Ls := by
  induction Ls with
  | nil => simp at h
  | cons M Ls ih =>
    have e : cntO (M :: Ls) = M.length + cntO Ls := by simp [cntO]
    rcases List.mem_cons.1 h with rfl | h
    · omega
    · have := ih h; omega
theorem rcurves_pre {Ls : List (List Pt)} (h : chkE Ls = 0) : (∀ L ∈ Ls.map rexE, 0 < L.length ∧ L.length ≤ 300000) ∧ ∀ k, (((Ls.map rexE).take k).flatMap cvsOf).length ≤ 1000000 := by
  obtain ⟨_, hc, hm⟩ := chk_zero h
  refine ⟨fun E hE => ?_, fun k => ?_⟩
  · obtain ⟨L, hL, rfl⟩ := List.mem_map.1 hE
    have h1 := rexE_len L
    have h2 := len_cnt hL
    have h3 := ex_pos (hm L hL)
    rw [ex_rex (hm L hL)] at h3
    exact ⟨h3, by omega⟩
  · have := curves_len Ls (fun L hL => may_pos (hm L hL)) k
    omega

/-- All kinds lie between On and Cubic. -/
def Kinds (L : List Pt) : Prop := ∀ p ∈ L, p.2.2 = 1 ∨ p.2.2 = 2 ∨ p.2.2 = 3
theorem Kinds.ring {L : List Pt} (h : Kinds L) (h0 : 0 < L.length) (a : Int) : kd L a = 1 ∨ kd L a = 2 ∨ kd L a = 3 := by
  obtain ⟨m, _, _, hp⟩ := ring_some h0 a
  exact h _ (List.mem_of_getElem? hp)
theorem kinds_of {L : List Pt} (h : mayC L = true) : Kinds L := by
  intro p hp
  unfold mayC at h
  rw [Bool.and_eq_true, allI_true] at h
  obtain ⟨j, hj⟩ := List.mem_iff_getElem?.1 hp
  have := h.2 j p hj
  unfold okA okP at this
  simp only [Bool.and_eq_true, decide_eq_true_eq] at this
  omega
theorem ex_kinds {L : List Pt} (h : mayC L = true) : Kinds (exE L) := by
  intro p hp
  unfold exE exK at hp
  obtain ⟨i, _, hp⟩ := List.mem_flatMap.1 hp
  unfold stepX at hp
  rcases List.mem_append.1 hp with hp | hp
  · split at hp
    · simp at hp; subst hp; exact .inl rfl
    · simp at hp
  · simp at hp; subst hp
    exact (kinds_of h).ring (may_pos h) _
theorem cvS_at {L : List Pt} (h : Kinds L) (h0 : 0 < L.length) (k : Nat) : cvS L k = if kd L (k : Int) == 1 then [cvAt L k] else [] := by
  unfold cvS rcv cvAt
  rcases h.ring h0 ((k : Int) + 1) with e | e | e <;> simp [e]

end Go.Proofs.Ytlacjifnniahhaa
