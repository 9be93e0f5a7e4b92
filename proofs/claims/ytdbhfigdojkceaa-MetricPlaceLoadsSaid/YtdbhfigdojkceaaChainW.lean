/- In a chain region: append whose source is any slice, to nearly 2^48 bytes. -/
import Derived.Test.YtdbhfigdojkceaaChain
import Derived.Test.YtdbhfigdojkceaaWide
namespace Go.Proofs.Ytdbhfigdojkceaa
open Go Go.RowKit

section
variable {P : Program} {ops : Array Oper} {I : World → Prop} {E : Act → World → Prop} {i : Nat} {r : List (Nat × Bool)} {o : Oper} {a : Act} {w : World}
theorem ChainL.appendW (hi : ops[i]? = some o) (hw : Region.wanted o (yielded ops a.tmps) = true) (s x : Operand) (t : TypeId)
    (ho : o.op = .call { callee := .builtin .append, args := #[s, x], argTypes := #[t, t] })
    (base : Nat) (e : TypeId) (info : TypeInfo) (z : Value) (size bytes : Nat) (ht : P.underlying t = some (.slice e)) (hi' : P.info? e = some info) (hz : info.zero = some z)
    (hsize : info.size = size) (hby : info.bytes = bytes) (hzs : z.cells.size = size) (hsz : 0 < size)
    (v : Value) (n : Nat) (xs : List Value) (hs : a.eval s = v) (hown : w.ownsRow base e size v n xs)
    (B : Nat) (A : Option Addr) (m c : Nat) (news : List Value) (hx : a.eval x = .slice A m c) (hr : Lists w B A news) (hl : news.length = m * size) (h1 : ∀ u ∈ news, u.oneCell' = true)
    (h63 : n + m ≤ maxLen) (hbytes : ((n + m) + (n + m) / 4 + 192) * bytes ≤ 281474976710656) (hbase : base ≤ w.heap.size)
    (h : ∀ v' w', w'.ownsRow base e size v' (n + m) (xs ++ news) → w.grownBy w' v.ownBlock → I w' ∧ ChainL P ops E I r (a.put o.dst v') w') : ChainL P ops E I ((i, true) :: r) a w := by
  obtain ⟨v', w', hrun, h2, h3⟩ := run_append_src_wide (P := P) w base t o.type e info z size bytes ht hi' hz hsize hby hzs hsz v n xs hown B A m c news hr hl h1 h63 hbytes hbase
  refine ⟨o, hi, hw, .inl ⟨v', w', ?_, h v' w' h2 h3⟩⟩
  unfold execOp
  simp only [ho, resolve, invoke, builtin, Sem.run_bind, Sem.run_pure, Result.andThen_ok, List.map_toArray, List.map_cons, List.map_nil, hs, hx, hrun]
end
theorem own_new (w : World) : (w.alloc (.cells #[] 5)).ownsRow w.heap.size 5 1 (.slice (some ⟨w.heap.size, 0, none⟩) 0 0) 0 [] := ⟨rfl, .inr ⟨w.heap.size, 0, #[], rfl, Nat.le_refl _, heap_alloc_new w _, Nat.le_refl _, Nat.zero_le _, rfl, rfl⟩⟩
theorem own_new_at (w : World) (k : Nat) (hk : k = w.heap.size) : (w.alloc (.cells #[] 5)).ownsRow k 5 1 (.slice (some ⟨k, 0, none⟩) 0 0) 0 [] := hk ▸ own_new w

end Go.Proofs.Ytdbhfigdojkceaa
