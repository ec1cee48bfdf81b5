/-
  The program's own sha meets the contracts.
-/
import Derived.Test.YtkehcpjianadjaaDoorShaN
import Derived.Test.YtkehcpjianadjaaDoorShaY
import Derived.Test.YtkehcpjianadjaaDoorShaL
namespace Go.Proofs.YtkehcpjianadjaaDoor
open Go.RowKit

theorem hashOK : HashOK hashH where
  kept := fun {W W' p l O} h hk => by
    obtain ⟨rfl, o, h1⟩ := h
    exact ⟨rfl, o, h1.len, h1.rest, (hk p rfl).trans h1.row⟩
  lt := fun {W p l O k} h hk => by
    obtain ⟨rfl, o, h1⟩ := h
    rw [show k = p from hk]
    exact (Array.getElem?_eq_some_iff.1 h1.row).1
  new := fun w => vNew w
  write := fun W p l O v m hK h hv hO hl => by
    obtain ⟨rfl, o, h1⟩ := h
    refine (vWrite W p l o v m hK h1 hv hO hl).mono ?_
    rintro e w' ⟨rfl, ⟨o', h2⟩, hB⟩
    exact ⟨fun k => k = p, rfl, ⟨rfl, o', h2⟩, fun k hk => .inl hk, hB⟩
  sum := fun W p l O hK h hl => by
    obtain ⟨rfl, o, h1⟩ := h
    exact vSumH p l o hl W hK h1
  writeNil := fun W v m h => vWriteNil W v m h
  sumNil := fun W => vSumNil W
  sumAll := fun W v ls hK h hl => vSumAll W v ls hK h hl
  hex := fun W l hl => vHex W l hl
  parse := fun W l hl => vParse W l hl
end Go.Proofs.YtkehcpjianadjaaDoor
