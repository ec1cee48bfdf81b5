/-
  The program's disk: a nil one.
-/
import Derived.Test.YtoppcpiheaedlaaGreatDoorPu
import Derived.Test.YtoppcpiheaedlaaGreatDoorAt
namespace Go.Proofs.YtoppcpiheaedlaaGreatDoor
open Go.RowKit Go.Maps
set_option linter.unusedVariables false
set_option linter.unusedSimpArgs false
attribute [local go_sem] sv nv mv pv

theorem nBegin (w : World) : Calls Tryz.prog 99 #[.pointer none] w fun e w' => e = .returned (.int .i64 7) ∧ w' = w := by
  go_enter Tryz.func99, Tryz.ntmps99
  go_wp2
  go_ret
  exact ⟨rfl, rfl⟩
theorem nBeginWith (nm : Nm) (w : World) : Calls Tryz.prog 102 #[.pointer none, sv nm] w fun e w' => e = .returned (.tuple #[.int .i64 0, .int .i64 7]) ∧ w' = w := by
  unfold sv
  have hB := Lib.hid (nBegin w)
  go_enter Tryz.func102, Tryz.ntmps102
  go_wp2_with fail
  refine hB.out.mono ?_
  rintro e w0 ⟨rfl, rfl⟩
  clear hB
  go_wp2
  go_ret2
  exact ⟨rfl, rfl⟩

theorem nCreateI (nm : Nm) ( w : World) : Calls Tryz.prog 73 #[.pointer none, sv nm] w fun e w' => e = .returned (.int .i64 7) ∧ w' = w := by
  unfold sv
  have hB := Lib.hid (nBegin w)
  skip
  go_enter Tryz.func73, Tryz.ntmps73
  go_wp2_with fail
  refine hB.out.mono ?_
  rintro e w0 ⟨rfl, rfl⟩
  clear hB
  go_wp2
  go_ret
  exact ⟨rfl, rfl⟩

theorem NCreate (nm : Nm) ( w : World) : Calls Tryz.prog 27 #[.pointer none, sv nm] w fun e w' => ∃ v, e = .returned v ∧ IsFault w' v opCreate nm 7 ∧ Grows w w' := by
  unfold sv
  have hI := Lib.hid (nCreateI nm w)
  unfold sv at hI
  have HF := Lib.hid (pFault opCreate nm 7 w)
  unfold sv at HF
  go_enter Tryz.func27, Tryz.ntmps27
  go_wp2_with fail
  refine hI.out.mono ?_
  rintro e w0 ⟨rfl, rfl⟩
  clear hI
  go_wp2_with fail
  refine HF.out.mono ?_
  rintro e w2 ⟨v, rfl, hF, hG⟩
  have HFa := Lib.hid hF
  have HG := Lib.hid hG
  clear hF hG HF
  go_wp2
  go_ret
  exact ⟨v, rfl, HFa.out, HG.out⟩

theorem nRemoveI (nm : Nm) ( w : World) : Calls Tryz.prog 80 #[.pointer none, sv nm] w fun e w' => e = .returned (.int .i64 7) ∧ w' = w := by
  unfold sv
  have hB := Lib.hid (nBeginWith nm w)
  unfold sv at hB
  go_enter Tryz.func80, Tryz.ntmps80
  go_wp2_with fail
  refine hB.out.mono ?_
  rintro e w0 ⟨rfl, rfl⟩
  clear hB
  go_wp2
  go_ret
  exact ⟨rfl, rfl⟩

theorem NRemove (nm : Nm) ( w : World) : Calls Tryz.prog 33 #[.pointer none, sv nm] w fun e w' => ∃ v, e = .returned v ∧ IsFault w' v opRemove nm 7 ∧ Grows w w' := by
  unfold sv
  have hI := Lib.hid (nRemoveI nm w)
  unfold sv at hI
  have HF := Lib.hid (pFault opRemove nm 7 w)
  unfold sv at HF
  go_enter Tryz.func33, Tryz.ntmps33
  go_wp2_with fail
  refine hI.out.mono ?_
  rintro e w0 ⟨rfl, rfl⟩
  clear hI
  go_wp2_with fail
  refine HF.out.mono ?_
  rintro e w2 ⟨v, rfl, hF, hG⟩
  have HFa := Lib.hid hF
  have HG := Lib.hid hG
  clear hF hG HF
  go_wp2
  go_ret
  exact ⟨v, rfl, HFa.out, HG.out⟩

theorem nRenameI (nm nb : Nm) ( w : World) : Calls Tryz.prog 85 #[.pointer none, sv nm, sv nb] w fun e w' => e = .returned (.int .i64 7) ∧ w' = w := by
  unfold sv
  have hB := Lib.hid (nBeginWith nm w)
  unfold sv at hB
  go_enter Tryz.func85, Tryz.ntmps85
  go_wp2_with fail
  refine hB.out.mono ?_
  rintro e w0 ⟨rfl, rfl⟩
  clear hB
  go_wp2
  go_ret
  exact ⟨rfl, rfl⟩

def opRename : List UInt8 := [114, 101, 110, 97, 109, 101]

theorem NRename (nm nb : Nm) ( w : World) : Calls Tryz.prog 38 #[.pointer none, sv nm, sv nb] w fun e w' => ∃ v, e = .returned v ∧ IsFault w' v opRename nm 7 ∧ Grows w w' := by
  unfold sv
  have hI := Lib.hid (nRenameI nm nb w)
  unfold sv at hI
  have HF := Lib.hid (pFault opRename nm 7 w)
  unfold sv at HF
  go_enter Tryz.func38, Tryz.ntmps38
  go_wp2_with fail
  refine hI.out.mono ?_
  rintro e w0 ⟨rfl, rfl⟩
  clear hI
  go_wp2_with fail
  refine HF.out.mono ?_
  rintro e w2 ⟨v, rfl, hF, hG⟩
  have HFa := Lib.hid hF
  have HG := Lib.hid hG
  clear hF hG HF
  go_wp2
  go_ret
  exact ⟨v, rfl, HFa.out, HG.out⟩

theorem nGrowI (nm : Nm) (n : Int) ( w : World) : Calls Tryz.prog 75 #[.pointer none, sv nm, .int .i64 n] w fun e w' => e = .returned (.int .i64 7) ∧ w' = w := by
  unfold sv
  have hB := Lib.hid (nBeginWith nm w)
  unfold sv at hB
  go_enter Tryz.func75, Tryz.ntmps75
  go_wp2_with fail
  refine hB.out.mono ?_
  rintro e w0 ⟨rfl, rfl⟩
  clear hB
  go_wp2
  go_ret
  exact ⟨rfl, rfl⟩

theorem NGrow (nm : Nm) (n : Int) ( w : World) : Calls Tryz.prog 29 #[.pointer none, sv nm, .int .i64 n] w fun e w' => ∃ v, e = .returned v ∧ IsFault w' v opGrow nm 7 ∧ Grows w w' := by
  unfold sv
  have hI := Lib.hid (nGrowI nm n w)
  unfold sv at hI
  have HF := Lib.hid (pFault opGrow nm 7 w)
  unfold sv at HF
  go_enter Tryz.func29, Tryz.ntmps29
  go_wp2_with fail
  refine hI.out.mono ?_
  rintro e w0 ⟨rfl, rfl⟩
  clear hI
  go_wp2_with fail
  refine HF.out.mono ?_
  rintro e w2 ⟨v, rfl, hF, hG⟩
  have HFa := Lib.hid hF
  have HG := Lib.hid hG
  clear hF hG HF
  go_wp2
  go_ret
  exact ⟨v, rfl, HFa.out, HG.out⟩

theorem nWriteI (nm : Nm) (n : Int) (ap : Option Addr) (lp cp : Nat) ( w : World) : Calls Tryz.prog 76 #[.pointer none, sv nm, .int .i64 n, .slice ap lp cp] w fun e w' => e = .returned (.int .i64 7) ∧ w' = w := by
  unfold sv
  have hB := Lib.hid (nBeginWith nm w)
  unfold sv at hB
  go_enter Tryz.func76, Tryz.ntmps76
  go_wp2_with fail
  refine hB.out.mono ?_
  rintro e w0 ⟨rfl, rfl⟩
  clear hB
  go_wp2
  go_ret
  exact ⟨rfl, rfl⟩

theorem NWrite (nm : Nm) (n : Int) (ap : Option Addr) (lp cp : Nat) ( w : World) : Calls Tryz.prog 30 #[.pointer none, sv nm, .int .i64 n, .slice ap lp cp] w fun e w' => ∃ v, e = .returned v ∧ IsFault w' v opWrite nm 7 ∧ Grows w w' := by
  unfold sv
  have hI := Lib.hid (nWriteI nm n ap lp cp w)
  unfold sv at hI
  have HF := Lib.hid (pFault opWrite nm 7 w)
  unfold sv at HF
  go_enter Tryz.func30, Tryz.ntmps30
  go_wp2_with fail
  refine hI.out.mono ?_
  rintro e w0 ⟨rfl, rfl⟩
  clear hI
  go_wp2_with fail
  refine HF.out.mono ?_
  rintro e w2 ⟨v, rfl, hF, hG⟩
  have HFa := Lib.hid hF
  have HG := Lib.hid hG
  clear hF hG HF
  go_wp2
  go_ret
  exact ⟨v, rfl, HFa.out, HG.out⟩

theorem nSyncI (nm : Nm) ( w : World) : Calls Tryz.prog 86 #[.pointer none, sv nm] w fun e w' => e = .returned (.int .i64 7) ∧ Grows w w' := by
  unfold sv
  have hB := Lib.hid (nBeginWith nm w)
  unfold sv at hB
  go_enter Tryz.func86, Tryz.ntmps86
  go_wp2_with fail
  refine hB.out.mono ?_
  rintro e w0 ⟨rfl, rfl⟩
  clear hB
  go_wp2
  go_ret
  exact ⟨rfl, Grows.alloc' _ _⟩

theorem NSync (nm : Nm) ( w : World) : Calls Tryz.prog 39 #[.pointer none, sv nm] w fun e w' => ∃ v, e = .returned v ∧ IsFault w' v opSync nm 7 ∧ Grows w w' := by
  unfold sv
  have hI := Lib.hid (nSyncI nm w)
  unfold sv at hI
  go_enter Tryz.func39, Tryz.ntmps39
  go_wp2_with fail
  refine hI.out.mono ?_
  rintro e w0 ⟨rfl, hG0⟩
  clear hI
  have HG0 := Lib.hid hG0
  clear hG0
  have HF := Lib.hid (pFault opSync nm 7 w0)
  unfold sv at HF
  go_wp2_with fail
  refine HF.out.mono ?_
  rintro e w2 ⟨v, rfl, hF, hG⟩
  have HFa := Lib.hid hF
  have HG := Lib.hid hG
  clear hF hG HF
  go_wp2
  go_ret
  exact ⟨v, rfl, HFa.out, Grows.trans' HG0.out HG.out⟩

theorem nSyncDirI ( w : World) : Calls Tryz.prog 74 #[.pointer none] w fun e w' => e = .returned (.int .i64 7) ∧ w' = w := by
  skip
  have hB := Lib.hid (nBegin w)
  skip
  go_enter Tryz.func74, Tryz.ntmps74
  go_wp2_with fail
  refine hB.out.mono ?_
  rintro e w0 ⟨rfl, rfl⟩
  clear hB
  go_wp2
  go_ret
  exact ⟨rfl, rfl⟩

theorem NSyncDir ( w : World) : Calls Tryz.prog 28 #[.pointer none] w fun e w' => ∃ v, e = .returned v ∧ IsFault w' v opSyncDir [] 7 ∧ Grows w w' := by
  skip
  have hI := Lib.hid (nSyncDirI  w)
  skip
  have HF := Lib.hid (pFault opSyncDir [] 7 w)
  unfold sv at HF
  go_enter Tryz.func28, Tryz.ntmps28
  go_wp2_with fail
  refine hI.out.mono ?_
  rintro e w0 ⟨rfl, rfl⟩
  clear hI
  go_wp2_with fail
  refine HF.out.mono ?_
  rintro e w2 ⟨v, rfl, hF, hG⟩
  have HFa := Lib.hid hF
  have HG := Lib.hid hG
  clear hF hG HF
  go_wp2
  go_ret
  exact ⟨v, rfl, HFa.out, HG.out⟩

theorem nReadI (nm : Nm) (n : Int) ( w : World) : Calls Tryz.prog 77 #[.pointer none, sv nm, .int .i64 n] w fun e w' => e = .returned (.tuple #[.slice none 0 0, .int .i64 7]) ∧ w' = w := by
  unfold sv
  have hB := Lib.hid (nBeginWith nm w)
  unfold sv at hB
  go_enter Tryz.func77, Tryz.ntmps77
  go_wp2_with fail
  refine hB.out.mono ?_
  rintro e w0 ⟨rfl, rfl⟩
  clear hB
  go_wp2
  go_ret2
  exact ⟨rfl, rfl⟩

theorem NRead (nm : Nm) (n : Int) (w : World) : Calls Tryz.prog 31 #[.pointer none, sv nm, .int .i64 n] w fun e w' => ∃ v, e = .returned (.tuple #[.slice none 0 0, v]) ∧ IsFault w' v opRead nm 7 ∧ Grows w w' := by
  unfold sv
  have hI := Lib.hid (nReadI nm n w)
  unfold sv at hI
  have HF := Lib.hid (pFault opRead nm 7 w)
  unfold sv at HF
  go_enter Tryz.func31, Tryz.ntmps31
  go_wp2_with fail
  refine hI.out.mono ?_
  rintro e w0 ⟨rfl, rfl⟩
  clear hI
  go_wp2_with fail
  refine HF.out.mono ?_
  rintro e w2 ⟨v, rfl, hF, hG⟩
  have HFa := Lib.hid hF
  have HG := Lib.hid hG
  clear hF hG HF
  go_wp2
  go_ret2
  exact ⟨v, rfl, HFa.out, HG.out⟩
def opLen : List UInt8 := [108, 101, 110]
theorem NLen (nm : Nm) (w : World) : Calls Tryz.prog 24 #[.pointer none, sv nm] w fun e w' => ∃ v, e = .returned (.tuple #[.int .i64 0, v]) ∧ IsFault w' v opLen nm 7 ∧ Grows w w' := by
  unfold sv
  have HF := Lib.hid (pFault opLen nm 7 w)
  unfold sv opLen at HF
  go_enter Tryz.func24, Tryz.ntmps24
  go_wp2_with fail
  refine HF.out.mono ?_
  rintro e w2 ⟨v, rfl, hF, hG⟩
  have HFa := Lib.hid hF
  have HG := Lib.hid hG
  clear hF hG HF
  go_wp2
  go_ret2
  exact ⟨v, rfl, HFa.out, HG.out⟩
theorem NPending (w : World) : Calls Tryz.prog 25 #[.pointer none] w fun e w' => e = .returned (.tuple #[.int .i64 0, .int .i64 0]) ∧ w' = w := by
  go_enter Tryz.func25, Tryz.ntmps25
  go_wp2
  go_ret2
  exact ⟨rfl, rfl⟩
theorem NNames (w : World) : Calls Tryz.prog 26 #[.pointer none] w fun e w' => e = .returned (.slice none 0 0) ∧ w' = w := by
  go_enter Tryz.func26, Tryz.ntmps26
  go_wp2
  go_ret
  exact ⟨rfl, rfl⟩
theorem NCopy (w : World) : Calls Tryz.prog 16 #[.pointer none] w fun e w' => e = .returned (.pointer none) ∧ w' = w := by
  go_enter Tryz.func16, Tryz.ntmps16
  go_wp2
  go_ret
  exact ⟨rfl, rfl⟩
theorem NArm (n c : Int) (w : World) : Calls Tryz.prog 23 #[.pointer none, .int .i64 n, .int .i64 c] w fun e w' => e = .returned (.tuple #[]) ∧ w' = w := by
  go_enter Tryz.func23, Tryz.ntmps23
  go_wp2
  refine bodyPost_ret (results_none rfl _ _ _) rfl ?_
  exact ⟨rfl, rfl⟩
theorem NCrash (n : Int) (a : Option Addr) (l c : Nat) (w : World) : Calls Tryz.prog 22 #[.pointer none, .int .i64 n, .slice a l c] w fun e w' => e = .returned (.tuple #[]) ∧ w' = w := by
  go_enter Tryz.func22, Tryz.ntmps22
  go_wp2
  refine bodyPost_ret (results_none rfl _ _ _) rfl ?_
  exact ⟨rfl, rfl⟩
end Go.Proofs.YtoppcpiheaedlaaGreatDoor
