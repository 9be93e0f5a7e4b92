/- A slice of bytes, as a text. -/
import Derived.Test.YtdbhfigdojkceaaRd4
import Derived.Test.YtdbhfigdojkceaaWr5
import Derived.Laws.IdiomStrings
import Derived.Laws.BytesArg
namespace Go.Proofs.Ytdbhfigdojkceaa
open Go Go.RowKit

/-- A cell of a byte, as a byte. -/
def toU8 : Value → UInt8
  | .int _ n => UInt8.ofNat n.toNat
  | _ => 0
/-- string(b) -/
theorem conv_lists {w : World} {B n c : Nat} {A : Option Addr} {E : List Value} (hl : Lists w B A E) (hn : E.length = n) (h8 : Bytes8 E) :
    ∀ dst, Try.prog.underlying dst = some .string → (convert 23 dst (.slice A n c)).run Try.prog w = .ok (.string ⟨(E.map toU8).toArray⟩) w := by
  intro dst hd
  cases A with
  | none =>
    rw [hl.nil rfl]
    exact run_convert_bytes_nil w 23 5 Try.underlying23 Try.underlying5 n c dst hd
  | some a =>
    have := run_convert_bytes_back (P := Try.prog) w 23 dst 5 a c (E.map toU8) Try.underlying23 Try.underlying5 hd (fun j hj => by
      rw [List.length_map] at hj
      obtain ⟨x, hx, he⟩ := h8 E[j] (List.getElem_mem hj)
      rw [hl.cell a rfl j E[j] (List.getElem?_eq_getElem hj)]
      simp only [List.getElem_map, he, toU8]
      congr 2
      rw [Int.toNat_natCast, UInt8.toNat_ofNat']
      congr 1
      omega)
    rw [List.length_map, hn] at this
    exact this

end Go.Proofs.Ytdbhfigdojkceaa
