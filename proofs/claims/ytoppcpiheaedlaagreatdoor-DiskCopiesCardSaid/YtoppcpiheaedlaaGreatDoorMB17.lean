/-
  What a fault is told as.
-/
import Derived.Test.YtoppcpiheaedlaaGreatDoorMB14
import Derived.Lib.IfaceEq
namespace Go.Proofs.YtoppcpiheaedlaaGreatDoor
open Go.RowKit Go.Extern.Stop Go.Stop Go.Extern
set_option linter.unusedVariables false
set_option linter.unusedSimpArgs false
attribute [local go_sem] sv nv
theorem IsFault.cells {w : World} {b : Nat} {op nm : List UInt8} {code : Int} (h : w.heap[b]? = some (.cells #[sv op, sv nm, .iface 53 (.int .i64 code)] 81 (0, 0))) :
 w.cell? ⟨b, 0, none⟩ = some (sv op) ∧ w.cell? ⟨b, 1, none⟩ = some (sv nm) ∧ w.cell? ⟨b, 2, none⟩ = some (.iface 53 (.int .i64 code)) :=
 ⟨by rw [cell_of_row w b 0 _ _ _ h]; rfl, by rw [cell_of_row w b 1 _ _ _ h]; rfl, by rw [cell_of_row w b 2 _ _ _ h]; rfl⟩
theorem errnoZero : ((Tryz.prog.info? 53).bind (fun i => i.zero)).map (fun z => z.cells) = some #[.int .i64 0] := by kernel_rfl
theorem pfZero : ((Tryz.prog.info? 77).bind (fun i => i.zero)).map (fun z => z.cells) = some #[.pointer none] := by kernel_rfl
theorem grows_new {w w1 w2 : World} {b : Nat} (h : Grows w w1) (hb : w.heap.size ≤ b) (g : But (fun k => k = b) w1 w2) : Grows w w2 :=
 ⟨g.os.trans h.os, g.tape.trans h.tape, g.output.trans h.output, Nat.le_trans h.size g.size, fun k hk => (g.block k (Nat.lt_of_lt_of_le hk h.size) (by omega)).trans (h.block k hk)⟩
set_option maxRecDepth 100000 in
set_option maxHeartbeats 2000000 in
theorem pCode (b : Nat) (c : Int) (w : World) (hg : EK w) (he : w.cell? ⟨b, 2, none⟩ = some (.iface 53 (.int .i64 c))) :
 Calls Tryz.prog 37 #[.iface 77 (.pointer (some ⟨b, 0, none⟩))] w fun e w' => e = .returned (.int .i64 c) ∧ Grows w w' := by
 obtain ⟨tb, Htb⟩ : ∃ y, Hid (w.heap.size = y) := ⟨_, rfl⟩
 have hnew := heap_alloc_new w (.cells #[.int .i64 0] 53)
 rw [Htb.out] at hnew
 have HG := Lib.hid (Grows.alloc' w (.cells #[.int .i64 0] 53))
 have HA := Lib.hid (as_errno b c ⟨tb, 0, none⟩ (.int .i64 0) (w.alloc (.cells #[.int .i64 0] 53)) (hg.grows HG.out) (HG.out.cell' he) (by rw [cell_of_row _ tb 0 _ _ _ hnew]; rfl) (frozen_of_row _ tb 0 _ _ hnew))
 clear hg he hnew
 go_enter Tryz.func37, Tryz.ntmps37
 go_wp2_with (first | (refine wpList_allocT rfl 53 rfl #[.int .i64 0] errnoZero ?_; rw [Htb.out]) | fail)
 refine HA.out.mono ?_
 rintro e w2 ⟨rfl, hc, hB⟩
 have HB : Hid (Grows w w2) := grows_new HG.out (by rw [Htb.out]; exact Nat.le_refl _) hB
 clear hB
 go_wp2
 go_ret
 exact ⟨rfl, HB.out⟩
set_option maxRecDepth 100000 in
theorem pTold0 (op nm : List UInt8) (w : World) :
 Calls Tryz.prog 12 #[.nilIface, sv op, sv nm] w fun e w' => e = .returned (.int .i64 0) ∧ Grows w w' := by
 unfold sv
 go_enter Tryz.func12, Tryz.ntmps12
 go_wp2
 go_ret
 exact ⟨rfl, Below.refl _ _⟩
set_option maxRecDepth 100000 in
set_option maxHeartbeats 2000000 in
theorem pTold (v : Value) (op nm : List UInt8) (code : Int) (w : World) (hg : EK w) (hv : IsFault w v op nm code) (hcr : -9223372036854775808 ≤ code ∧ code ≤ 9223372036854775807) :
 Calls Tryz.prog 12 #[v, sv op, sv nm] w fun e w' => e = .returned (.int .i64 code) ∧ Grows w w' := by
 rcases hv with ⟨rfl, rfl⟩ | ⟨h0, b, rfl, hb⟩
 · exact pTold0 op nm w
 · unfold sv
   obtain ⟨tb, Htb⟩ : ∃ y, Hid (w.heap.size = y) := ⟨_, rfl⟩
   have hbl : b < w.heap.size := (Array.getElem?_eq_some_iff.1 hb).1
   have hnew := heap_alloc_new w (.cells #[.pointer none] 77)
   rw [Htb.out] at hnew hbl
   have HG := Lib.hid (Grows.alloc' w (.cells #[.pointer none] 77))
   have HA := Lib.hid (as_fault ⟨b, 0, none⟩ ⟨tb, 0, none⟩ (.pointer none) (w.alloc (.cells #[.pointer none] 77)) (hg.grows HG.out) (by rw [cell_of_row _ tb 0 _ _ _ hnew]; rfl) (frozen_of_row _ tb 0 _ _ hnew))
   have HE := Lib.hid hg
   have Hb := Lib.hid hb
   have Hcr := Lib.hid hcr
   clear hg hb hnew h0 hbl hcr
   go_enter Tryz.func12, Tryz.ntmps12
   go_wp2_with (first | (refine wpList_allocT rfl 77 rfl #[.pointer none] pfZero ?_; rw [Htb.out]) | fail)
   refine HA.out.mono ?_
   rintro e w2 ⟨rfl, hc, hB⟩
   have HB : Hid (Grows w w2) := grows_new HG.out (by rw [Htb.out]; exact Nat.le_refl _) hB
   obtain ⟨k0, k1, k2⟩ := IsFault.cells (HB.out.heap' Hb.out)
   unfold sv at k0 k1
   have HC := Lib.hid (pCode b code w2 (HE.out.grows HB.out) k2)
   have hcr := Hcr.out
   clear hB k2
   go_wp2_with fail
   refine HC.out.mono ?_
   rintro e w3 ⟨rfl, hG3⟩
   have HG3 := Lib.hid (Grows.trans' HB.out hG3)
   clear hG3
   go_wp2
   go_ret
   exact ⟨rfl, HG3.out⟩
theorem h_comparable : ∃ F : Array Value → Sem Value, Extern.find Tryz.f167 = some F ∧ ∀ w, (F #[.agg #[.pointer (some ⟨1, 53, none⟩)]]).run Tryz.prog w = .ok (.bool true) w :=
 ⟨fun args => (Extern.ReflectliteType.method fun t => do Rtype.noPackHeld "Comparable" t; pure (.bool (← typeInfo t).comparable)) args, by kernel_rfl, fun w => by kernel_rfl⟩
theorem h_methodComparable (v : Value) (w : World) : (Go.method 363 179 v "Comparable").run Tryz.prog w = .ok (167, v) w := by kernel_rfl
theorem hF_noIs (v : Value) (xT : TypeId) (w : World) : (Instr.typeAssert (.iface 77 v) xT 181 true).run Tryz.prog w = .ok (.tuple #[.nilIface, .bool false]) w := run_typeAssert_lacksB Tryz.underlying181 (by kernel_rfl) (by kernel_rfl) v xT w
theorem h_compEN : (Tryz.prog.info? 53).map (·.comparable) = some true := by kernel_rfl
set_option maxRecDepth 100000 in
set_option maxHeartbeats 4000000 in
theorem pIs (b : Nat) (c : Int) (w : World) (he : w.cell? ⟨b, 2, none⟩ = some (.iface 53 (.int .i64 c))) :
 Calls Tryz.prog 32 #[.iface 77 (.pointer (some ⟨b, 0, none⟩)), .iface 53 (.int .i64 c)] w fun e w' => e = .returned (.bool true) ∧ w' = w := by
 obtain ⟨i, hi, hcmp⟩ := Option.map_eq_some_iff.1 h_compEN
 have h8 := @run_callFunc_extern Tryz.prog 78 _ Extern.ReflectliteType.typeOf Tryz.func78 (by kernel_rfl) (by kernel_rfl) (by kernel_rfl) (by kernel_rfl)
 obtain ⟨F, hF, cT⟩ := h_comparable
 have h32 := @run_callFunc_extern Tryz.prog 167 _ F Tryz.func167 (by kernel_rfl) (by kernel_rfl) (by kernel_rfl) hF
 clear hF
 have tT := hN_typeOf
 have mR := h_methodComparable
 have nE := hF_noIs
 have uW := hF_hasUnwrap
 have mU := h_methodUnwrap
 have hty := run_eql_iface_types (P := Tryz.prog) 77 53 (.pointer (some ⟨b, 0, none⟩)) (.int .i64 c) Tryz.underlying27 (by decide) w
 have heq := Lib.run_eql_iface_int (P := Tryz.prog) w (t := 27) (tx := 53) (k := .i64) (q := .i64) c c Tryz.underlying27 h_compEN Tryz.underlying53
 go_enter Tryz.func32, Tryz.ntmps32
 go_wp2
 refine wp_loop_rounds 2 ?_
 rw [rounds_succ]
 go_wp2
 rw [rounds_succ]
 go_wp2
 go_ret
 exact ⟨rfl, rfl⟩
end Go.Proofs.YtoppcpiheaedlaaGreatDoor
