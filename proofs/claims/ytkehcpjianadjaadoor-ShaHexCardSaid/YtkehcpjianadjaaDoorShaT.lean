/-
  What the rows of this seat list, as the walks ask it; and a start that meets it.
-/
import Derived.Test.YtkehcpjianadjaaDoorRows
import Derived.Test.YtkehcpjianadjaaDoorCards
import Derived.Test.YtkehcpjianadjaaDoorTie
import Derived.Test.YtkehcpjianadjaaDoorShaV
import Derived.ProofKit
import Derived.LaidMore
import Derived.OpenShut
import Derived.Stop.Joined
import Derived.Lib.LaidTab
import Derived.SevenTiedAt
namespace Go.Proofs.YtkehcpjianadjaaDoor
open Go

theorem rootsName : Tryd.prog.globalNamed ((Rows.shaSumsRow.laid.map (·.1)).headD default) = some 0 := by kernel_rfl
theorem rootsType : (Tryd.prog.globals[0]?).map (·.type) = some 68 := by kernel_rfl
theorem rootsCells : Tryd.prog.cellsOf 68 = 64 := by kernel_rfl
theorem wordCells : Tryd.prog.cellsOf 44 = 1 := by kernel_rfl
theorem rootsLaid : Rows.shaSumsRow.laid = [((Rows.shaSumsRow.laid.map (·.1)).headD default, Lib.tabData .u32 (kK.map fun x => (x.toNat : Int)))] := by kernel_rfl
/-- The door's own heap meets the condition. -/
theorem doorMet (os : Os) (args : Array Value) : laidMetH Tryd.prog Rows.shaSumsRow.laid ((World.doorLaid Tryd.prog 400 os).forCall (fun _ _ => 0) ⟨#[], args, []⟩).memory :=
  laidMetH_of_parts3 (fuel := 8) (laidMet_of_run' 8 (by kernel_rfl) (by kernel_rfl)) (by kernel_rfl) (by kernel_rfl)
theorem kwOf {W : World} (h : laidMetH Tryd.prog Rows.shaSumsRow.laid W) : KW W := by
  rw [MakeChecks.laidMetH_plain _ _ _ (by kernel_rfl), rootsLaid] at h
  have ht := Lib.tabIs_of_head rootsName rootsType Tryd.underlying68 Tryd.underlying44 wordCells rootsCells h
  refine ⟨fun i hi => ?_⟩
  have hc := World.var?_cell rootsName ht i
  rw [hc]
  have hl : i < kK.length := hi
  simp [hl, wn]
end Go.Proofs.YtkehcpjianadjaaDoor
