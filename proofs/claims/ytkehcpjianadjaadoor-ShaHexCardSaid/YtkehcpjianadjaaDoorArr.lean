/-
  An array of bytes that came in by value: the bytes that it reads as.
-/
import Derived.Test.YtkehcpjianadjaaDoorMat
import Derived.Lib.LaidU8
import Derived.WideShapes
namespace Go.Proofs.YtkehcpjianadjaaDoor
open Go.RowKit Go.WideShapes

theorem okWide_array {P : Program} {w : World} {r : Reach} {base : Nat} {t : TypeId} {v : Value} {n : Nat} {e : TypeId} (ht : P.underlying t = some (.array n e)) (h : Value.okWide P w r base t v) : ∃ cs, v = .agg cs ∧ cs.size = P.cellsOf t := by
  simp only [Value.okWide, ht] at h
  obtain ⟨cs, h1, h2, _⟩ := h
  exact ⟨cs, h1, h2⟩
theorem open_arr {H : Type} {enc : TypeId × Value → H} {P : Program} {w : World} {base b0 : Nat} {r : Reach} {spare : Nat → Bool} {held : Bool} {t e : TypeId} {n : Nat} {v : Value} {d : DataW H} {ps : List MemPlace} (ht : P.underlying t = some (.array n e)) (he : P.underlying e = some (.int .u8)) (ce : P.cellsOf e = 1) (ct : P.cellsOf t = n)
    (hval : Value.okWide P w r b0 t v) (hd : DataW.Trod enc P w base spare held t v d ps) : ∃ l : List UInt8, l.length = n ∧ v = .agg (l.map bv).toArray := by
  obtain ⟨cs, rfl, hs⟩ := okWide_array ht hval
  obtain ⟨fuel, hf⟩ := hd
  have hag : ∃ ds, d = .agg ds := by
    cases fuel with
    | zero => simp [DataW.trod] at hf
    | succ fuel =>
      simp only [DataW.trod, ht] at hf
      split at hf
      · obtain ⟨xs, hm, hx⟩ := Option.map_eq_some_iff.1 hf
        exact ⟨_, (congrArg Prod.fst hx).symm⟩
      · cases hf
  obtain ⟨ds, rfl⟩ := hag
  have each : ∀ i, i < n → ∃ b : UInt8, cs.toList[i]? = some (bv b) := fun i hi => by
    obtain ⟨fuel', d', q, _, h2⟩ := Lib.array_elem ht hf i hi
    rw [ce] at h2
    obtain ⟨z, hcz, _, hw⟩ := DataW.trod_int he h2
    have h3 : (Value.agg cs).cells.toList[i]? = some (.int .u8 z) := by
      have := congrArg (·[0]?) hcz
      simpa [List.getElem?_take, List.getElem?_drop] using this
    obtain ⟨x, rfl⟩ := byte_of_u8 hw
    exact ⟨x, h3⟩
  obtain ⟨f, hff⟩ := choose_lt' 0 each
  refine ⟨(List.range n).map f, by simp, ?_⟩
  congr 1
  apply Array.ext'
  apply List.ext_getElem?
  intro i
  by_cases hi : i < n
  · rw [hff i hi]
    simp [hi]
  · rw [List.getElem?_eq_none (by simp; omega), List.getElem?_eq_none (by simp; omega)]
end Go.Proofs.YtkehcpjianadjaaDoor
