/-
  The program's disk: its calls, with the errors that they answer.
-/
import Derived.Test.YtoppcpiheaedlaaGreatDoorPt
namespace Go.Proofs.YtoppcpiheaedlaaGreatDoor
open Go.RowKit Go.Maps Go.MapKept
set_option linter.unusedVariables false
set_option linter.unusedSimpArgs false
attribute [local go_sem] sv nv mv pv

/-- What a call answers, and makes of a disk. -/
def Does (q : Nat) (x : Px) (w : World) (op nm : List UInt8) (r : Int × Ps) (e : Ending) (w' : World) : Prop :=
  ∃ v, e = .returned v ∧ IsFault w' v op nm r.1 ∧ ∃ x', PD w' q x' ∧ x'.s = r.2 ∧ TurnP q x x' w w'
/-- A block that is not the disk's stays so. -/
theorem TurnP.keepOut {q : Nat} {x x' : Px} {w w' : World} (h : TurnP q x x' w w') {b : Nat} (hb : b < w.heap.size) (hn : ¬ mutP q x b) : ¬ mutP q x' b ∧ b < w'.heap.size :=
  ⟨fun hm => (h.muts b hm).elim hn (fun hl => by omega), Nat.lt_of_lt_of_le hb h.but.size⟩

def opCreate : List UInt8 := [99, 114, 101, 97, 116, 101]
set_option maxRecDepth 100000 in
theorem PCreate {w : World} {q : Nat} {x : Px} (h : PD w q x) (nm : Nm) (hn : okS nm) (hnl : True) (hsm : x.dirs.length < 1000000 ∧ x.made < 1000000 ∧ x.fs.length < 1000000) :
    Calls Tryz.prog 27 #[.pointer (some ⟨q, 0, none⟩), sv nm] w (Does q x w opCreate nm (createP x.s nm)) := by
  have HI := Lib.hid (pCreate h nm hn hnl hsm)
  obtain ⟨r, Hr⟩ : ∃ r, Hid (createP x.s nm = r) := ⟨_, rfl⟩
  rw [Hr.out] at HI ⊢
  unfold sv at HI ⊢
  clear h
  go_enter Tryz.func27, Tryz.ntmps27
  go_wp2_with fail
  refine HI.out.mono ?_
  rintro e w1 ⟨rfl, x', hP, hs, hT⟩
  have HP := Lib.hid hP
  have HS := Lib.hid hs
  have HT := Lib.hid hT
  clear hP hs hT
  have HF := Lib.hid (pFault opCreate nm r.1 w1)
  unfold sv at HF
  go_wp2_with fail
  refine HF.out.mono ?_
  rintro e w2 ⟨v, rfl, hF, hG⟩
  have HFa := Lib.hid hF
  have HG := Lib.hid hG
  clear hF hG HF HI
  go_wp2
  go_ret
  exact ⟨v, rfl, HFa.out, x', HP.out.grows HG.out, HS.out, HT.out.trans (TurnP.ofGrows HG.out)⟩

def opRemove : List UInt8 := [114, 101, 109, 111, 118, 101]
set_option maxRecDepth 100000 in
theorem PRemove {w : World} {q : Nat} {x : Px} (h : PD w q x) (nm : Nm) (hn : okS nm) (hsm : x.dirs.length < 1000000) :
    Calls Tryz.prog 33 #[.pointer (some ⟨q, 0, none⟩), sv nm] w (Does q x w opRemove nm (removeP x.s nm)) := by
  have HI := Lib.hid (pRemove h nm hn hsm)
  obtain ⟨r, Hr⟩ : ∃ r, Hid (removeP x.s nm = r) := ⟨_, rfl⟩
  rw [Hr.out] at HI ⊢
  unfold sv at HI ⊢
  clear h
  go_enter Tryz.func33, Tryz.ntmps33
  go_wp2_with fail
  refine HI.out.mono ?_
  rintro e w1 ⟨rfl, x', hP, hs, hT⟩
  have HP := Lib.hid hP
  have HS := Lib.hid hs
  have HT := Lib.hid hT
  clear hP hs hT
  have HF := Lib.hid (pFault opRemove nm r.1 w1)
  unfold sv at HF
  go_wp2_with fail
  refine HF.out.mono ?_
  rintro e w2 ⟨v, rfl, hF, hG⟩
  have HFa := Lib.hid hF
  have HG := Lib.hid hG
  clear hF hG HF HI
  go_wp2
  go_ret
  exact ⟨v, rfl, HFa.out, x', HP.out.grows HG.out, HS.out, HT.out.trans (TurnP.ofGrows HG.out)⟩

def opGrow : List UInt8 := [103, 114, 111, 119]
set_option maxRecDepth 100000 in
theorem PGrow {w : World} {q : Nat} {x : Px} (h : PD w q x) (nm : Nm) (hn : okS nm) (n : Int) (hnI : -9223372036854775808 ≤ n ∧ n ≤ 9223372036854775807) :
    Calls Tryz.prog 29 #[.pointer (some ⟨q, 0, none⟩), sv nm, .int .i64 n] w (Does q x w opGrow nm (growP x.s nm n)) := by
  have HI := Lib.hid (pGrow h nm hn n hnI)
  obtain ⟨r, Hr⟩ : ∃ r, Hid (growP x.s nm n = r) := ⟨_, rfl⟩
  rw [Hr.out] at HI ⊢
  unfold sv at HI ⊢
  clear h
  go_enter Tryz.func29, Tryz.ntmps29
  go_wp2_with fail
  refine HI.out.mono ?_
  rintro e w1 ⟨rfl, x', hP, hs, hT⟩
  have HP := Lib.hid hP
  have HS := Lib.hid hs
  have HT := Lib.hid hT
  clear hP hs hT
  have HF := Lib.hid (pFault opGrow nm r.1 w1)
  unfold sv at HF
  go_wp2_with fail
  refine HF.out.mono ?_
  rintro e w2 ⟨v, rfl, hF, hG⟩
  have HFa := Lib.hid hF
  have HG := Lib.hid hG
  clear hF hG HF HI
  go_wp2
  go_ret
  exact ⟨v, rfl, HFa.out, x', HP.out.grows HG.out, HS.out, HT.out.trans (TurnP.ofGrows HG.out)⟩

def opWrite : List UInt8 := [119, 114, 105, 116, 101]
set_option maxRecDepth 100000 in
theorem PWrite {w : World} {q : Nat} {x : Px} (h : PD w q x) (nm : Nm) (hn : okS nm) (n : Int) (hnI : -9223372036854775808 ≤ n ∧ n ≤ 9223372036854775807) (vp : Value) (p : List UInt8) (hp : Byt w vp p) (hout : Outside (mutP q x) vp) (hpl : p.length ≤ 1000000000000) (hsm : x.pend.length < 1000000) :
    Calls Tryz.prog 30 #[.pointer (some ⟨q, 0, none⟩), sv nm, .int .i64 n, vp] w (Does q x w opWrite nm (writeP x.s nm n p)) := by
  have HI := Lib.hid (pWriteI h nm hn n hnI vp p hp hout hpl hsm)
  obtain ⟨r, Hr⟩ : ∃ r, Hid (writeP x.s nm n p = r) := ⟨_, rfl⟩
  rw [Hr.out] at HI ⊢
  unfold sv at HI ⊢
  obtain ⟨ap, cp, rfl⟩ := hp.slice
  clear h hp hout
  go_enter Tryz.func30, Tryz.ntmps30
  go_wp2_with fail
  refine HI.out.mono ?_
  rintro e w1 ⟨rfl, x', hP, hs, hT⟩
  have HP := Lib.hid hP
  have HS := Lib.hid hs
  have HT := Lib.hid hT
  clear hP hs hT
  have HF := Lib.hid (pFault opWrite nm r.1 w1)
  unfold sv at HF
  go_wp2_with fail
  refine HF.out.mono ?_
  rintro e w2 ⟨v, rfl, hF, hG⟩
  have HFa := Lib.hid hF
  have HG := Lib.hid hG
  clear hF hG HF HI
  go_wp2
  go_ret
  exact ⟨v, rfl, HFa.out, x', HP.out.grows HG.out, HS.out, HT.out.trans (TurnP.ofGrows HG.out)⟩

def opSync : List UInt8 := [115, 121, 110, 99]
set_option maxRecDepth 100000 in
theorem PSync {w : World} {q : Nat} {x : Px} (h : PD w q x) (nm : Nm) (hn : okS nm) :
    Calls Tryz.prog 39 #[.pointer (some ⟨q, 0, none⟩), sv nm] w (Does q x w opSync nm (syncP x.s nm)) := by
  have HI := Lib.hid (pSyncI h nm hn)
  obtain ⟨r, Hr⟩ : ∃ r, Hid (syncP x.s nm = r) := ⟨_, rfl⟩
  rw [Hr.out] at HI ⊢
  unfold sv at HI ⊢
  clear h
  go_enter Tryz.func39, Tryz.ntmps39
  go_wp2_with fail
  refine HI.out.mono ?_
  rintro e w1 ⟨rfl, x', hP, hs, hT⟩
  have HP := Lib.hid hP
  have HS := Lib.hid hs
  have HT := Lib.hid hT
  clear hP hs hT
  have HF := Lib.hid (pFault opSync nm r.1 w1)
  unfold sv at HF
  go_wp2_with fail
  refine HF.out.mono ?_
  rintro e w2 ⟨v, rfl, hF, hG⟩
  have HFa := Lib.hid hF
  have HG := Lib.hid hG
  clear hF hG HF HI
  go_wp2
  go_ret
  exact ⟨v, rfl, HFa.out, x', HP.out.grows HG.out, HS.out, HT.out.trans (TurnP.ofGrows HG.out)⟩

def opSyncDir : List UInt8 := [115, 121, 110, 99, 100, 105, 114]
set_option maxRecDepth 100000 in
theorem PSyncDir {w : World} {q : Nat} {x : Px} (h : PD w q x)  :
    Calls Tryz.prog 28 #[.pointer (some ⟨q, 0, none⟩)] w (Does q x w opSyncDir [] (syncDirP x.s)) := by
  have HI := Lib.hid (pSyncDir h)
  obtain ⟨r, Hr⟩ : ∃ r, Hid (syncDirP x.s = r) := ⟨_, rfl⟩
  rw [Hr.out] at HI ⊢
  clear h
  go_enter Tryz.func28, Tryz.ntmps28
  go_wp2_with fail
  refine HI.out.mono ?_
  rintro e w1 ⟨rfl, x', hP, hs, hT⟩
  have HP := Lib.hid hP
  have HS := Lib.hid hs
  have HT := Lib.hid hT
  clear hP hs hT
  have HF := Lib.hid (pFault opSyncDir [] r.1 w1)
  unfold sv at HF
  go_wp2_with fail
  refine HF.out.mono ?_
  rintro e w2 ⟨v, rfl, hF, hG⟩
  have HFa := Lib.hid hF
  have HG := Lib.hid hG
  clear hF hG HF HI
  go_wp2
  go_ret
  exact ⟨v, rfl, HFa.out, x', HP.out.grows HG.out, HS.out, HT.out.trans (TurnP.ofGrows HG.out)⟩

def opRead : List UInt8 := [114, 101, 97, 100]
set_option maxRecDepth 100000 in
theorem PRead {w : World} {q : Nat} {x : Px} (h : PD w q x) (nm : Nm) (hn : okS nm) (n : Int) (hnI : -9223372036854775808 ≤ n ∧ n ≤ 9223372036854775807) :
    Calls Tryz.prog 31 #[.pointer (some ⟨q, 0, none⟩), sv nm, .int .i64 n] w fun e w' => ∃ v u, e = .returned (.tuple #[v, u]) ∧ Own 5 w.heap.size w' v (readP x.s nm n).1.1 ∧ IsFault w' u opRead nm (readP x.s nm n).1.2 ∧ PD w' q (beginX x) ∧ (beginX x).s = (readP x.s nm n).2 ∧ TurnP q x (beginX x) w w' := by
  have HI := Lib.hid (pReadI h nm hn n hnI)
  obtain ⟨r, Hr⟩ : ∃ r, Hid (readP x.s nm n = r) := ⟨_, rfl⟩
  rw [Hr.out] at HI ⊢
  unfold sv at HI ⊢
  clear h
  go_enter Tryz.func31, Tryz.ntmps31
  go_wp2_with fail
  refine HI.out.mono ?_
  rintro e w1 ⟨v, rfl, ho, hP, hs, hT⟩
  obtain ⟨av, cv, rfl⟩ := own_form ho
  have HO := Lib.hid ho
  have HP := Lib.hid hP
  have HS := Lib.hid hs
  have HT := Lib.hid hT
  obtain ⟨rl, Hrl⟩ : ∃ y, Hid (r.1.1.length = y) := ⟨_, rfl⟩
  rw [Hrl.out] at HO ⊢
  clear hP hs hT ho
  have HF := Lib.hid (pFault opRead nm r.1.2 w1)
  unfold sv at HF
  go_wp2_with fail
  refine HF.out.mono ?_
  rintro e w2 ⟨u, rfl, hF, hG⟩
  have HFa := Lib.hid hF
  have HG := Lib.hid hG
  clear hF hG HF HI
  go_wp2
  go_ret2
  exact ⟨_, _, rfl, Own.grows HO.out HG.out, HFa.out, HP.out.grows HG.out, HS.out, HT.out.trans (TurnP.ofGrows HG.out)⟩
end Go.Proofs.YtoppcpiheaedlaaGreatDoor
