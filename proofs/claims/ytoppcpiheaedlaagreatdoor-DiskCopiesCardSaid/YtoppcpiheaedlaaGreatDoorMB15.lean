/-
  What the rows of this seat list (errors.errorType), as the walks ask it; and a start that meets it.
-/
import Derived.Test.YtoppcpiheaedlaaGreatDoorRows
import Derived.Test.YtoppcpiheaedlaaGreatDoorCards
import Derived.Test.YtoppcpiheaedlaaGreatDoorTie
import Derived.Test.YtoppcpiheaedlaaGreatDoorMB14
import Derived.ProofKit
import Derived.LaidLaws
import Derived.LaidHandle
import Derived.LaidMore
import Derived.OpenShut
import Derived.RowKitTokens
import Derived.Stop.Joined
import Derived.SevenTiedAt
namespace Go.Proofs.YtoppcpiheaedlaaGreatDoor
open Go
theorem ekName : Tryz.prog.globalNamed "errors.errorType" = some 0 := by kernel_rfl
theorem ekRtype : (Tryz.prog.cutTypes.find? (·.1 == "internal/reflectlite.rtype")).map (·.2) = some 179 := by kernel_rfl
theorem ekOne : ((List.range Tryz.prog.types.size).filter fun t => Tryz.prog.rowNamed t [101, 114, 114, 111, 114]) = [27] := by kernel_rfl
theorem ekHandle : typeHandle Tryz.prog 27 = .pointer (some ⟨1, 27, none⟩) := by kernel_rfl
theorem ekOf {W : World} (h : laidMetH Tryz.prog [("errors.errorType", Rows.laid_errors_errorType)] W) : EK W := by
 have h' : laidMet Tryz.prog [] W ∧ handlesMet Tryz.prog [("errors.errorType", Rows.laid_errors_errorType)] W := h
 obtain ⟨name, u, ty, e1, e2, e3, e4, e5⟩ := h'.2 _ (List.mem_singleton.2 rfl)
 have en : name = [101, 114, 114, 111, 114] := (Option.some.inj e1).symm
 subst en
 obtain rfl := Option.some.inj (ekRtype.symm.trans e2)
 have hm : ty ∈ (List.range Tryz.prog.types.size).filter fun t => Tryz.prog.rowNamed t [101, 114, 114, 111, 114] := List.mem_filter.2 ⟨List.mem_range.2 e3, e4⟩
 rw [ekOne] at hm
 obtain rfl := List.mem_singleton.1 hm
 rw [ekHandle] at e5
 have := World.var?_cell ekName e5 0
 simpa [EK] using this
noncomputable def ekWorld (os : Os) : World :=
 let w0 := World.holding Tryz.prog os ⟨#[], #[], []⟩
 { w0 with heap := w0.heap.modify 0 fun
    | .cells _ t frozen => .cells #[.iface 179 (.agg #[.pointer (some ⟨1, 27, none⟩)])] t frozen
    | o => o }
theorem ekWorld_met (os : Os) (args : Array Value) : laidMetH Tryz.prog [("errors.errorType", Rows.laid_errors_errorType)] ((ekWorld os).forCall (fun _ _ => 0) ⟨#[], args, []⟩).memory :=
 laidMetH_of_parts (laidMet_nil _ _) (by kernel_rfl)
end Go.Proofs.YtoppcpiheaedlaaGreatDoor
