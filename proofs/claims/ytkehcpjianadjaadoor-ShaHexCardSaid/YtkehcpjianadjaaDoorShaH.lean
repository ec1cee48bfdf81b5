/-
  Contracts of the document's own Hex and Parse of sha.
-/
import Derived.Test.YtkehcpjianadjaaDoorShaS
import Derived.Laws.Concat
namespace Go.Proofs.YtkehcpjianadjaaDoor
open Go.RowKit
set_option linter.unusedVariables false
set_option linter.unusedSimpArgs false

def hexd (q : Nat) : UInt8 := UInt8.ofNat (if q < 10 then 48 + q else 87 + q)
def hexF (l : List UInt8) : List UInt8 := l.flatMap fun b => [hexd (b.toNat / 16), hexd (b.toNat % 16)]
theorem hexF_snoc (l : List UInt8) (b : UInt8) : hexF (l ++ [b]) = hexF l ++ [hexd (b.toNat / 16)] ++ [hexd (b.toNat % 16)] := by simp [hexF]
theorem hexF_length (l : List UInt8) : (hexF l).length = 2 * l.length := by
  induction l with
  | nil => rfl
  | cons b l ih => simp only [hexF, List.flatMap_cons, List.length_append, List.length_cons, List.length_nil] at *; omega
theorem hex_extract (q : Nat) (hq : q < 16) : (ByteArray.mk #[48, 49, 50, 51, 52, 53, 54, 55, 56, 57, 97, 98, 99, 100, 101, 102]).extract q (q + 1) = ⟨([hexd q] : List UInt8).toArray⟩ := by
  match q, hq with
  | 0, _ => show _ = _; kernel_rfl
  | 1, _ => show _ = _; kernel_rfl
  | 2, _ => show _ = _; kernel_rfl
  | 3, _ => show _ = _; kernel_rfl
  | 4, _ => show _ = _; kernel_rfl
  | 5, _ => show _ = _; kernel_rfl
  | 6, _ => show _ = _; kernel_rfl
  | 7, _ => show _ = _; kernel_rfl
  | 8, _ => show _ = _; kernel_rfl
  | 9, _ => show _ = _; kernel_rfl
  | 10, _ => show _ = _; kernel_rfl
  | 11, _ => show _ = _; kernel_rfl
  | 12, _ => show _ = _; kernel_rfl
  | 13, _ => show _ = _; kernel_rfl
  | 14, _ => show _ = _; kernel_rfl
  | 15, _ => show _ = _; kernel_rfl
  | n + 16, h => exact absurd h (by omega)
theorem hexSlice (q : Nat) (hq : q < 16) (X : World) : (Instr.sliceAt 9 (.string { data := #[48, 49, 50, 51, 52, 53, 54, 55, 56, 57, 97, 98, 99, 100, 101, 102] }) (some (.int .u8 (q : Int))) (some (.int .u8 ((q : Int) + 1))) none).run Tryd.prog X = .ok (.string ⟨([hexd q] : List UInt8).toArray⟩) X := by
  rw [run_sliceAt_string _ _ _ _ _ _ Tryd.underlying9, run_slice_string X _ _ _ _ _ _ Tryd.underlying9 (by omega) (by omega) (by simp [ByteArray.size]; omega)]
  have e1 : ((q : Int)).toNat = q := by omega
  have e2 : ((q : Int) + 1).toNat = q + 1 := by omega
  rw [e1, e2, hex_extract q hq]

set_option maxRecDepth 100000 in
set_option maxHeartbeats 4000000 in
theorem refHex (l : List UInt8) (hl : l.length = 32) (w : World) :
    Calls Tryd.prog 17 #[.agg (l.map bv).toArray] w fun e w' => e = .returned (.string ⟨(hexF l).toArray⟩) ∧ Grows w w' := by
  have hmx : Tryd.prog.follows .mixedOrders = true := by kernel_rfl
  obtain ⟨Z, HZ⟩ : ∃ Z, Hid (Z = (l.map bv).toArray) := ⟨_, rfl⟩
  rw [← HZ.out]
  go_enter Tryd.func17, Tryd.ntmps17
  go_wp2_with (refine wpList_boxT rfl _ _ rfl Z rfl ?_)
  have hb0 : (w.alloc (.cells Z 24)).heap[w.heap.size]? = some (.cells Z 24 (0, 0)) := heap_alloc_new w _
  obtain ⟨w1, hw1⟩ : ∃ w1, w1 = w.alloc (.cells Z 24) := ⟨_, rfl⟩
  have hG1 : Grows w w1 := by rw [hw1]; exact Grows.alloc' _ _
  have hb1 : Hid (w1.heap[w.heap.size]? = some (.cells Z 24 (0, 0))) := by rw [hw1]; exact hb0
  rw [← hw1]
  clear hw1 hb0
  go_loopw [4, 5] (fun t4 t5 wr => ∃ i : Nat, i ≤ 32 ∧ t5 = .int .i64 i ∧ t4 = .string ⟨(hexF (l.take i)).toArray⟩ ∧ Grows w1 wr)
    (fun _ t5 _ => 32 - (intOf t5).toNat)
  case atStart => exact ⟨0, by omega, rfl, rfl, Below.refl _ _⟩
  case round =>
    obtain ⟨i, hi, rfl, rfl, hG⟩ := hrel
    by_cases hlt : i < 32
    · obtain ⟨b, Hb⟩ : ∃ b, Hid (l.getD i 0 = b) := ⟨_, rfl⟩
      have hcell : wr.cell? ⟨w.heap.size, i, none⟩ = some (.int .u8 (b.toNat : Int)) := by
        refine hG.cell' ?_
        rw [cell_of_row w1 w.heap.size i Z 24 (0, 0) hb1.out, HZ.out, ← Hb.out]
        simp [hl, hlt, bv]
      have hb256 := b.toNat_lt
      obtain ⟨q1, hq1⟩ : ∃ q : Nat, (b.toNat : Int) / 16 = (q : Int) := ⟨b.toNat / 16, by omega⟩
      obtain ⟨q2, hq2⟩ : ∃ q : Nat, (b.toNat : Int) % 16 = (q : Int) := ⟨b.toNat % 16, by omega⟩
      have h16a : (q1 : Int) < 16 := by omega
      have h16b : (q2 : Int) < 16 := by omega
      have hi3 : (i : Int) < 32 := by omega
      have Hi := Lib.hid hlt
      obtain ⟨pre, Hpre⟩ : ∃ p, Hid (hexF (l.take i) = p) := ⟨_, rfl⟩
      have Hpl : Hid ((pre.length : Int) ≤ 1000) := by
        show (pre.length : Int) ≤ 1000
        rw [← Hpre.out, hexF_length, List.length_take]
        omega
      have Hnx : Hid (hexF (l.take (i + 1)) = pre ++ [hexd q1] ++ [hexd q2]) := by
        show _ = _
        rw [take_snoc l i (by omega), hexF_snoc, Hpre.out, Hb.out, show b.toNat / 16 = q1 by omega, show b.toNat % 16 = q2 by omega]
      rw [Hpre.out]
      have HG := Lib.hid hG
      have HS1 := Lib.hid (fun X => hexSlice q1 (by omega) X)
      have HS2 := Lib.hid (fun X => hexSlice q2 (by omega) X)
      clear hlt hG hb256
      go_wp2
      refine specs_region
        #[[], [], [], [2], [2, 3], [2, 3, 4], [], [6], [6, 7], [6, 7, 8], [6, 7, 8, 9], [1, 2, 3, 4, 5, 6, 7, 8, 9, 10], [0, 1, 2, 3, 4, 5, 6, 7, 8, 9, 10, 11], [], [], [14], [14, 15], [14, 15, 16], [], [18], [18, 19], [18, 19, 20], [18, 19, 20, 21], [13, 14, 15, 16, 17, 18, 19, 20, 21, 22], [0, 1, 2, 3, 4, 5, 6, 7, 8, 9, 10, 11, 12, 13, 14, 15, 16, 17, 18, 19, 20, 21, 22, 23], [0, 1, 2, 3, 4, 5, 6, 7, 8, 9, 10, 11, 12, 13, 14, 15, 16, 17, 18, 19, 20, 21, 22, 23, 24]] #[[4], [3], [5], [1], [], [], [5], [1], [], [], [], [], [], [3], [5], [1], [], [], [5], [1], [], [], [], [], [], []] #[true, true, true, true, true, true, true, true, true, true, true, true, true, true, true, true, true, true, true, true, true, true, true, true, true, true]
        ((.val ?v0) :: (.val ?v1) :: (.val ?v2) :: (.val ?v3) :: (.val ?v4) :: (.val ?v5) :: (.val ?v6) :: (.val ?v7) :: (.val ?v8) :: (.val ?v9) :: (.val ?v10) :: (.val (.string ⟨([hexd q1] : List UInt8).toArray⟩)) :: (.val ?v12) :: (.val ?v13) :: (.val ?v14) :: (.val ?v15) :: (.val ?v16) :: (.val ?v17) :: (.val ?v18) :: (.val ?v19) :: (.val ?v20) :: (.val ?v21) :: (.val ?v22) :: (.val (.string ⟨([hexd q2] : List UInt8).toArray⟩)) :: (.val ?v24) :: (.val ?v25) :: []).toArray
        hmx ?chk ?grd ?stp ?rst
      case chk => rfl
      case stp =>
        refine ⟨?_, ?_, ?_, ?_, ?_, ?_, ?_, ?_, ?_, ?_, ?_, ?_, ?_, ?_, ?_, ?_, ?_, ?_, ?_, ?_, ?_, ?_, ?_, ?_, ?_, ?_, trivial⟩
        · refine step_intro rfl rfl fun ρ X hc hf hgl hX hp ho => ?_
          change StepOk _ { dst := _, op := Op.move (Operand.tmp 4), type := _, pos := _, after := _, guard := _ } _ _ _
          have k4 : ρ (.tmp 4) = .string ⟨pre.toArray⟩ := ho 4 (by decide)
          clear hp ho
          refine StepOk.of_run (v := ?v0) (w' := X) ?_ ⟨rfl, Below.refl _ _⟩
          clear hX
          go_simp
          all_goals try simp only [hq1, hq2]
          all_goals try go_bits
          all_goals try simp only [hq1, hq2]
          all_goals try simp only [IntWalk.iteOmega]
          all_goals try go_bits
          all_goals rfl
        · refine step_intro rfl rfl fun ρ X hc hf hgl hX hp ho => ?_
          change StepOk _ { dst := _, op := Op.move (Operand.tmp 3), type := _, pos := _, after := _, guard := _ } _ _ _
          have k3 : ρ (.tmp 3) = .string { data := #[48, 49, 50, 51, 52, 53, 54, 55, 56, 57, 97, 98, 99, 100, 101, 102] } := ho 3 (by decide)
          clear hp ho
          refine StepOk.of_run (v := ?v1) (w' := X) ?_ ⟨rfl, Below.refl _ _⟩
          clear hX
          go_simp
          all_goals try simp only [hq1, hq2]
          all_goals try go_bits
          all_goals try simp only [hq1, hq2]
          all_goals try simp only [IntWalk.iteOmega]
          all_goals try go_bits
          all_goals rfl
        · refine step_intro rfl rfl fun ρ X hc hf hgl hX hp ho => ?_
          change StepOk _ { dst := _, op := Op.move (Operand.tmp 5), type := _, pos := _, after := _, guard := _ } _ _ _
          have k5 : ρ (.tmp 5) = .int .i64 (i : Int) := ho 5 (by decide)
          clear hp ho
          refine StepOk.of_run (v := ?v2) (w' := X) ?_ ⟨rfl, Below.refl _ _⟩
          clear hX
          go_simp
          all_goals try simp only [hq1, hq2]
          all_goals try go_bits
          all_goals try simp only [hq1, hq2]
          all_goals try simp only [IntWalk.iteOmega]
          all_goals try go_bits
          all_goals rfl
        · refine step_intro rfl rfl fun ρ X hc hf hgl hX hp ho => ?_
          change StepOk _ { dst := _, op := Op.indexAddr 24 (Operand.tmp 1) (Operand.tmp 12), type := _, pos := _, after := _, guard := _ } _ _ _
          have k1 : ρ (.tmp 1) = .pointer (some ⟨w.heap.size, 0, none⟩) := ho 1 (by decide)
          have k12 : ρ (.tmp 12) = ?v2 := hp 2 (by decide)
          clear hp ho
          refine StepOk.of_run (v := ?v3) (w' := X) ?_ ⟨rfl, Below.refl _ _⟩
          clear hX
          go_simp
          all_goals try simp only [hq1, hq2]
          all_goals try go_bits
          all_goals try simp only [hq1, hq2]
          all_goals try simp only [IntWalk.iteOmega]
          all_goals try go_bits
          all_goals rfl
        · refine step_intro rfl rfl fun ρ X hc hf hgl hX hp ho => ?_
          change StepOk _ { dst := _, op := Op.load 5 (Operand.tmp 13), type := _, pos := _, after := _, guard := _ } _ _ _
          have k13 : ρ (.tmp 13) = ?v3 := hp 3 (by decide)
          have hcellX := Grows.cell' hX hcell
          clear hp ho
          refine StepOk.of_run (v := ?v4) (w' := X) ?_ ⟨rfl, Below.refl _ _⟩
          clear hX
          go_simp
          all_goals try simp only [hq1, hq2]
          all_goals try go_bits
          all_goals try simp only [hq1, hq2]
          all_goals try simp only [IntWalk.iteOmega]
          all_goals try go_bits
          all_goals rfl
        · refine step_intro rfl rfl fun ρ X hc hf hgl hX hp ho => ?_
          change StepOk _ { dst := _, op := Op.binOp BinOp.quo 5 (Operand.tmp 14) (Operand.const (Value.int IntKind.u8 16)) 5, type := _, pos := _, after := _, guard := _ } _ _ _
          have k14 : ρ (.tmp 14) = ?v4 := hp 4 (by decide)
          clear hp ho
          refine StepOk.of_run (v := ?v5) (w' := X) ?_ ⟨rfl, Below.refl _ _⟩
          clear hX
          go_simp
          all_goals try simp only [hq1, hq2]
          all_goals try go_bits
          all_goals try simp only [hq1, hq2]
          all_goals try simp only [IntWalk.iteOmega]
          all_goals try go_bits
          all_goals rfl
        · refine step_intro rfl rfl fun ρ X hc hf hgl hX hp ho => ?_
          change StepOk _ { dst := _, op := Op.move (Operand.tmp 5), type := _, pos := _, after := _, guard := _ } _ _ _
          have k5 : ρ (.tmp 5) = .int .i64 (i : Int) := ho 5 (by decide)
          clear hp ho
          refine StepOk.of_run (v := ?v6) (w' := X) ?_ ⟨rfl, Below.refl _ _⟩
          clear hX
          go_simp
          all_goals try simp only [hq1, hq2]
          all_goals try go_bits
          all_goals try simp only [hq1, hq2]
          all_goals try simp only [IntWalk.iteOmega]
          all_goals try go_bits
          all_goals rfl
        · refine step_intro rfl rfl fun ρ X hc hf hgl hX hp ho => ?_
          change StepOk _ { dst := _, op := Op.indexAddr 24 (Operand.tmp 1) (Operand.tmp 16), type := _, pos := _, after := _, guard := _ } _ _ _
          have k1 : ρ (.tmp 1) = .pointer (some ⟨w.heap.size, 0, none⟩) := ho 1 (by decide)
          have k16 : ρ (.tmp 16) = ?v6 := hp 6 (by decide)
          clear hp ho
          refine StepOk.of_run (v := ?v7) (w' := X) ?_ ⟨rfl, Below.refl _ _⟩
          clear hX
          go_simp
          all_goals try simp only [hq1, hq2]
          all_goals try go_bits
          all_goals try simp only [hq1, hq2]
          all_goals try simp only [IntWalk.iteOmega]
          all_goals try go_bits
          all_goals rfl
        · refine step_intro rfl rfl fun ρ X hc hf hgl hX hp ho => ?_
          change StepOk _ { dst := _, op := Op.load 5 (Operand.tmp 17), type := _, pos := _, after := _, guard := _ } _ _ _
          have k17 : ρ (.tmp 17) = ?v7 := hp 7 (by decide)
          have hcellX := Grows.cell' hX hcell
          clear hp ho
          refine StepOk.of_run (v := ?v8) (w' := X) ?_ ⟨rfl, Below.refl _ _⟩
          clear hX
          go_simp
          all_goals try simp only [hq1, hq2]
          all_goals try go_bits
          all_goals try simp only [hq1, hq2]
          all_goals try simp only [IntWalk.iteOmega]
          all_goals try go_bits
          all_goals rfl
        · refine step_intro rfl rfl fun ρ X hc hf hgl hX hp ho => ?_
          change StepOk _ { dst := _, op := Op.binOp BinOp.quo 5 (Operand.tmp 18) (Operand.const (Value.int IntKind.u8 16)) 5, type := _, pos := _, after := _, guard := _ } _ _ _
          have k18 : ρ (.tmp 18) = ?v8 := hp 8 (by decide)
          clear hp ho
          refine StepOk.of_run (v := ?v9) (w' := X) ?_ ⟨rfl, Below.refl _ _⟩
          clear hX
          go_simp
          all_goals try simp only [hq1, hq2]
          all_goals try go_bits
          all_goals try simp only [hq1, hq2]
          all_goals try simp only [IntWalk.iteOmega]
          all_goals try go_bits
          all_goals rfl
        · refine step_intro rfl rfl fun ρ X hc hf hgl hX hp ho => ?_
          change StepOk _ { dst := _, op := Op.binOp BinOp.add 5 (Operand.tmp 19) (Operand.const (Value.int IntKind.u8 1)) 5, type := _, pos := _, after := _, guard := _ } _ _ _
          have k19 : ρ (.tmp 19) = ?v9 := hp 9 (by decide)
          clear hp ho
          refine StepOk.of_run (v := ?v10) (w' := X) ?_ ⟨rfl, Below.refl _ _⟩
          clear hX
          go_simp
          all_goals try simp only [hq1, hq2]
          all_goals try go_bits
          all_goals try simp only [hq1, hq2]
          all_goals try simp only [IntWalk.iteOmega]
          all_goals try go_bits
          all_goals rfl
        · refine step_intro rfl rfl fun ρ X hc hf hgl hX hp ho => ?_
          change StepOk _ { dst := _, op := Op.slice 9 (Operand.tmp 11) (some (Operand.tmp 15)) (some (Operand.tmp 20)) none, type := _, pos := _, after := _, guard := _ } _ _ _
          have k11 : ρ (.tmp 11) = ?v1 := hp 1 (by decide)
          have k15 : ρ (.tmp 15) = ?v5 := hp 5 (by decide)
          have k20 : ρ (.tmp 20) = ?v10 := hp 10 (by decide)
          clear hp ho
          refine StepOk.of_run (v := .string ⟨([hexd q1] : List UInt8).toArray⟩) (w' := X) ?_ ⟨rfl, Below.refl _ _⟩
          simp only [execOp, Option.map_some, Option.map_none, k11, k15, k20, HS1.out, Sem.run_bind, Sem.run_pure, Result.andThen_ok]
        · refine step_intro rfl rfl fun ρ X hc hf hgl hX hp ho => ?_
          change StepOk _ { dst := _, op := Op.binOp BinOp.add 9 (Operand.tmp 10) (Operand.tmp 21) 9, type := _, pos := _, after := _, guard := _ } _ _ _
          have k10 : ρ (.tmp 10) = ?v0 := hp 0 (by decide)
          have k21 : ρ (.tmp 21) = (.string ⟨([hexd q1] : List UInt8).toArray⟩) := hp 11 (by decide)
          clear hp ho
          have hr := run_string_add_lists (P := Tryd.prog) X pre [hexd q1] (by have := Hpl.out; omega) (by simp)
          refine StepOk.of_run (v := ?v12) (w' := X) ?_ ⟨rfl, Below.refl _ _⟩
          clear hX
          go_simp
          all_goals try simp only [hq1, hq2]
          all_goals try go_bits
          all_goals try simp only [hq1, hq2]
          all_goals try simp only [IntWalk.iteOmega]
          all_goals try go_bits
          all_goals rfl
        · refine step_intro rfl rfl fun ρ X hc hf hgl hX hp ho => ?_
          change StepOk _ { dst := _, op := Op.move (Operand.tmp 3), type := _, pos := _, after := _, guard := _ } _ _ _
          have k3 : ρ (.tmp 3) = .string { data := #[48, 49, 50, 51, 52, 53, 54, 55, 56, 57, 97, 98, 99, 100, 101, 102] } := ho 3 (by decide)
          clear hp ho
          refine StepOk.of_run (v := ?v13) (w' := X) ?_ ⟨rfl, Below.refl _ _⟩
          clear hX
          go_simp
          all_goals try simp only [hq1, hq2]
          all_goals try go_bits
          all_goals try simp only [hq1, hq2]
          all_goals try simp only [IntWalk.iteOmega]
          all_goals try go_bits
          all_goals rfl
        · refine step_intro rfl rfl fun ρ X hc hf hgl hX hp ho => ?_
          change StepOk _ { dst := _, op := Op.move (Operand.tmp 5), type := _, pos := _, after := _, guard := _ } _ _ _
          have k5 : ρ (.tmp 5) = .int .i64 (i : Int) := ho 5 (by decide)
          clear hp ho
          refine StepOk.of_run (v := ?v14) (w' := X) ?_ ⟨rfl, Below.refl _ _⟩
          clear hX
          go_simp
          all_goals try simp only [hq1, hq2]
          all_goals try go_bits
          all_goals try simp only [hq1, hq2]
          all_goals try simp only [IntWalk.iteOmega]
          all_goals try go_bits
          all_goals rfl
        · refine step_intro rfl rfl fun ρ X hc hf hgl hX hp ho => ?_
          change StepOk _ { dst := _, op := Op.indexAddr 24 (Operand.tmp 1) (Operand.tmp 24), type := _, pos := _, after := _, guard := _ } _ _ _
          have k1 : ρ (.tmp 1) = .pointer (some ⟨w.heap.size, 0, none⟩) := ho 1 (by decide)
          have k24 : ρ (.tmp 24) = ?v14 := hp 14 (by decide)
          clear hp ho
          refine StepOk.of_run (v := ?v15) (w' := X) ?_ ⟨rfl, Below.refl _ _⟩
          clear hX
          go_simp
          all_goals try simp only [hq1, hq2]
          all_goals try go_bits
          all_goals try simp only [hq1, hq2]
          all_goals try simp only [IntWalk.iteOmega]
          all_goals try go_bits
          all_goals rfl
        · refine step_intro rfl rfl fun ρ X hc hf hgl hX hp ho => ?_
          change StepOk _ { dst := _, op := Op.load 5 (Operand.tmp 25), type := _, pos := _, after := _, guard := _ } _ _ _
          have k25 : ρ (.tmp 25) = ?v15 := hp 15 (by decide)
          have hcellX := Grows.cell' hX hcell
          clear hp ho
          refine StepOk.of_run (v := ?v16) (w' := X) ?_ ⟨rfl, Below.refl _ _⟩
          clear hX
          go_simp
          all_goals try simp only [hq1, hq2]
          all_goals try go_bits
          all_goals try simp only [hq1, hq2]
          all_goals try simp only [IntWalk.iteOmega]
          all_goals try go_bits
          all_goals rfl
        · refine step_intro rfl rfl fun ρ X hc hf hgl hX hp ho => ?_
          change StepOk _ { dst := _, op := Op.binOp BinOp.rem 5 (Operand.tmp 26) (Operand.const (Value.int IntKind.u8 16)) 5, type := _, pos := _, after := _, guard := _ } _ _ _
          have k26 : ρ (.tmp 26) = ?v16 := hp 16 (by decide)
          clear hp ho
          refine StepOk.of_run (v := ?v17) (w' := X) ?_ ⟨rfl, Below.refl _ _⟩
          clear hX
          go_simp
          all_goals try simp only [hq1, hq2]
          all_goals try go_bits
          all_goals try simp only [hq1, hq2]
          all_goals try simp only [IntWalk.iteOmega]
          all_goals try go_bits
          all_goals rfl
        · refine step_intro rfl rfl fun ρ X hc hf hgl hX hp ho => ?_
          change StepOk _ { dst := _, op := Op.move (Operand.tmp 5), type := _, pos := _, after := _, guard := _ } _ _ _
          have k5 : ρ (.tmp 5) = .int .i64 (i : Int) := ho 5 (by decide)
          clear hp ho
          refine StepOk.of_run (v := ?v18) (w' := X) ?_ ⟨rfl, Below.refl _ _⟩
          clear hX
          go_simp
          all_goals try simp only [hq1, hq2]
          all_goals try go_bits
          all_goals try simp only [hq1, hq2]
          all_goals try simp only [IntWalk.iteOmega]
          all_goals try go_bits
          all_goals rfl
        · refine step_intro rfl rfl fun ρ X hc hf hgl hX hp ho => ?_
          change StepOk _ { dst := _, op := Op.indexAddr 24 (Operand.tmp 1) (Operand.tmp 28), type := _, pos := _, after := _, guard := _ } _ _ _
          have k1 : ρ (.tmp 1) = .pointer (some ⟨w.heap.size, 0, none⟩) := ho 1 (by decide)
          have k28 : ρ (.tmp 28) = ?v18 := hp 18 (by decide)
          clear hp ho
          refine StepOk.of_run (v := ?v19) (w' := X) ?_ ⟨rfl, Below.refl _ _⟩
          clear hX
          go_simp
          all_goals try simp only [hq1, hq2]
          all_goals try go_bits
          all_goals try simp only [hq1, hq2]
          all_goals try simp only [IntWalk.iteOmega]
          all_goals try go_bits
          all_goals rfl
        · refine step_intro rfl rfl fun ρ X hc hf hgl hX hp ho => ?_
          change StepOk _ { dst := _, op := Op.load 5 (Operand.tmp 29), type := _, pos := _, after := _, guard := _ } _ _ _
          have k29 : ρ (.tmp 29) = ?v19 := hp 19 (by decide)
          have hcellX := Grows.cell' hX hcell
          clear hp ho
          refine StepOk.of_run (v := ?v20) (w' := X) ?_ ⟨rfl, Below.refl _ _⟩
          clear hX
          go_simp
          all_goals try simp only [hq1, hq2]
          all_goals try go_bits
          all_goals try simp only [hq1, hq2]
          all_goals try simp only [IntWalk.iteOmega]
          all_goals try go_bits
          all_goals rfl
        · refine step_intro rfl rfl fun ρ X hc hf hgl hX hp ho => ?_
          change StepOk _ { dst := _, op := Op.binOp BinOp.rem 5 (Operand.tmp 30) (Operand.const (Value.int IntKind.u8 16)) 5, type := _, pos := _, after := _, guard := _ } _ _ _
          have k30 : ρ (.tmp 30) = ?v20 := hp 20 (by decide)
          clear hp ho
          refine StepOk.of_run (v := ?v21) (w' := X) ?_ ⟨rfl, Below.refl _ _⟩
          clear hX
          go_simp
          all_goals try simp only [hq1, hq2]
          all_goals try go_bits
          all_goals try simp only [hq1, hq2]
          all_goals try simp only [IntWalk.iteOmega]
          all_goals try go_bits
          all_goals rfl
        · refine step_intro rfl rfl fun ρ X hc hf hgl hX hp ho => ?_
          change StepOk _ { dst := _, op := Op.binOp BinOp.add 5 (Operand.tmp 31) (Operand.const (Value.int IntKind.u8 1)) 5, type := _, pos := _, after := _, guard := _ } _ _ _
          have k31 : ρ (.tmp 31) = ?v21 := hp 21 (by decide)
          clear hp ho
          refine StepOk.of_run (v := ?v22) (w' := X) ?_ ⟨rfl, Below.refl _ _⟩
          clear hX
          go_simp
          all_goals try simp only [hq1, hq2]
          all_goals try go_bits
          all_goals try simp only [hq1, hq2]
          all_goals try simp only [IntWalk.iteOmega]
          all_goals try go_bits
          all_goals rfl
        · refine step_intro rfl rfl fun ρ X hc hf hgl hX hp ho => ?_
          change StepOk _ { dst := _, op := Op.slice 9 (Operand.tmp 23) (some (Operand.tmp 27)) (some (Operand.tmp 32)) none, type := _, pos := _, after := _, guard := _ } _ _ _
          have k23 : ρ (.tmp 23) = ?v13 := hp 13 (by decide)
          have k27 : ρ (.tmp 27) = ?v17 := hp 17 (by decide)
          have k32 : ρ (.tmp 32) = ?v22 := hp 22 (by decide)
          clear hp ho
          refine StepOk.of_run (v := .string ⟨([hexd q2] : List UInt8).toArray⟩) (w' := X) ?_ ⟨rfl, Below.refl _ _⟩
          simp only [execOp, Option.map_some, Option.map_none, k23, k27, k32, HS2.out, Sem.run_bind, Sem.run_pure, Result.andThen_ok]
        · refine step_intro rfl rfl fun ρ X hc hf hgl hX hp ho => ?_
          change StepOk _ { dst := _, op := Op.binOp BinOp.add 9 (Operand.tmp 22) (Operand.tmp 33) 9, type := _, pos := _, after := _, guard := _ } _ _ _
          have k22 : ρ (.tmp 22) = ?v12 := hp 12 (by decide)
          have k33 : ρ (.tmp 33) = (.string ⟨([hexd q2] : List UInt8).toArray⟩) := hp 23 (by decide)
          clear hp ho
          have hr := run_string_add_lists (P := Tryd.prog) X (pre ++ [hexd q1]) [hexd q2] (by have := Hpl.out; simp; omega) (by simp)
          refine StepOk.of_run (v := ?v24) (w' := X) ?_ ⟨rfl, Below.refl _ _⟩
          clear hX
          go_simp
          all_goals try simp only [hq1, hq2]
          all_goals try go_bits
          all_goals try simp only [hq1, hq2]
          all_goals try simp only [IntWalk.iteOmega]
          all_goals try go_bits
          all_goals rfl
        · refine step_intro rfl rfl fun ρ X hc hf hgl hX hp ho => ?_
          change StepOk _ { dst := _, op := Op.assign (Operand.tmp 34), type := _, pos := _, after := _, guard := _ } _ _ _
          have k34 : ρ (.tmp 34) = ?v24 := hp 24 (by decide)
          clear hp ho
          refine StepOk.of_run (v := ?v25) (w' := X) ?_ ⟨rfl, Below.refl _ _⟩
          clear hX
          go_simp
          all_goals try simp only [hq1, hq2]
          all_goals try go_bits
          all_goals try simp only [hq1, hq2]
          all_goals try simp only [IntWalk.iteOmega]
          all_goals try go_bits
          all_goals rfl
      case grd => rfl
      case rst =>
        intro a0 X hb
        have hfr := hb.frame ((4, ?v25) :: (10, ?v0) :: (11, ?v1) :: (12, ?v2) :: (13, ?v3) :: (14, ?v4) :: (15, ?v5) :: (16, ?v6) :: (17, ?v7) :: (18, ?v8) :: (19, ?v9) :: (20, ?v10) :: (21, (.string ⟨([hexd q1] : List UInt8).toArray⟩)) :: (22, ?v12) :: (23, ?v13) :: (24, ?v14) :: (25, ?v15) :: (26, ?v16) :: (27, ?v17) :: (28, ?v18) :: (29, ?v19) :: (30, ?v20) :: (31, ?v21) :: (32, ?v22) :: (33, (.string ⟨([hexd q2] : List UInt8).toArray⟩)) :: (34, ?v24) :: []) rfl ⟨hb.done' 25 4 rfl rfl, hb.done' 0 10 rfl rfl, hb.done' 1 11 rfl rfl, hb.done' 2 12 rfl rfl, hb.done' 3 13 rfl rfl, hb.done' 4 14 rfl rfl, hb.done' 5 15 rfl rfl, hb.done' 6 16 rfl rfl, hb.done' 7 17 rfl rfl, hb.done' 8 18 rfl rfl, hb.done' 9 19 rfl rfl, hb.done' 10 20 rfl rfl, hb.done' 11 21 rfl rfl, hb.done' 12 22 rfl rfl, hb.done' 13 23 rfl rfl, hb.done' 14 24 rfl rfl, hb.done' 15 25 rfl rfl, hb.done' 16 26 rfl rfl, hb.done' 17 27 rfl rfl, hb.done' 18 28 rfl rfl, hb.done' 19 29 rfl rfl, hb.done' 20 30 rfl rfl, hb.done' 21 31 rfl rfl, hb.done' 22 32 rfl rfl, hb.done' 23 33 rfl rfl, hb.done' 24 34 rfl rfl, trivial⟩
        simp only [updL, ↓reduceIte, Nat.reduceEqDiff, Nat.reduceAdd, Nat.zero_add] at hfr
        have HX := Lib.hid hb.ext
        clear hb
        subst hfr
        clear hcell
        go_wp2
        go_roundw
        case rel => exact ⟨i + 1, Hi.out, by simp, by rw [Hnx.out]; simp, Grows.trans' HG.out HX.out⟩
        case measure => have := Hi.out; simp [intOf]; omega
    · have h32 : i = 32 := by omega
      go_wp2
      go_ret
      rw [h32, List.take_of_length_le (by omega)]
      exact ⟨rfl, Grows.trans' hG1 hG⟩
end Go.Proofs.YtkehcpjianadjaaDoor
