/-
  The contract of parts.
-/
import Derived.Test.YtfgnniajancpcaaPgB
namespace Go.Proofs.Ytfgnniajancpcaa
open Go.RowKit
set_option linter.unusedVariables false
set_option linter.unusedSimpArgs false

set_option maxRecDepth 100000 in
theorem vParts (g o c : Nat) (hc : 252 ≤ c) (w : World) :
    Calls Try.prog 15 #[.slice (some ⟨g, o, none⟩) 252 c] w fun e w' => e = .returned (.tuple #[.slice (some ⟨g, o, none⟩) 1 1, .slice (some ⟨g, o + 1, none⟩) 8 8, .slice (some ⟨g, o + 9, none⟩) 243 243]) ∧ Grows w w' := by
  have hmx : Try.prog.follows .mixedOrders = true := by kernel_rfl
  have h1 : (1 : Int) ≤ (c : Int) := by omega
  have h2 : (9 : Int) ≤ (c : Int) := by omega
  have h3 : (252 : Int) ≤ (c : Int) := by omega
  go_enter Try.func15, Try.ntmps15
  go_wp2_with fail
  refine specs_region
    #[[], [0], [], [2], [], [4], [0, 1], [0, 1, 2, 3, 6], [0, 1, 2, 3, 4, 5, 6, 7]] #[[0], [], [0], [], [0], [], [], [], []] #[true, true, true, true, true, true, true, true, true]
    ((.val ?v0) :: (.val ?v1) :: (.val ?v2) :: (.val ?v3) :: (.val ?v4) :: (.val ?v5) :: (.val ?v6) :: (.val ?v7) :: (.val ?v8) :: []).toArray
    hmx ?chk ?grd ?stp ?rst
  case chk => rfl
  case stp =>
    refine ⟨?_, ?_, ?_, ?_, ?_, ?_, ?_, ?_, ?_, trivial⟩
    · refine step_intro rfl rfl fun ρ X hc hf hgl hX hp ho => ?_
      change StepOk _ { dst := _, op := Op.move (Operand.tmp 0), type := _, pos := _, after := _, guard := _ } _ _ _
      have k0 : ρ (.tmp 0) = .slice (some ⟨g, o, none⟩) 252 c := ho 0 (by decide)
      clear hp ho
      refine StepOk.of_run (v := ?v0) (w' := X) ?_ ⟨rfl, Below.refl _ _⟩
      clear hX
      go_simp
      all_goals try go_bits
      all_goals try simp only [IntWalk.iteOmega]
      all_goals try go_bits
      all_goals rfl
    · refine step_intro rfl rfl fun ρ X hc hf hgl hX hp ho => ?_
      change StepOk _ { dst := _, op := Op.slice 23 (Operand.tmp 5) none (some (Operand.const (Value.int IntKind.i64 1))) (some (Operand.const (Value.int IntKind.i64 1))), type := _, pos := _, after := _, guard := _ } _ _ _
      have k5 : ρ (.tmp 5) = ?v0 := hp 0 (by decide)
      clear hp ho
      refine StepOk.of_run (v := ?v1) (w' := X) ?_ ⟨rfl, Below.refl _ _⟩
      clear hX
      go_simp
      all_goals try go_bits
      all_goals try simp only [IntWalk.iteOmega]
      all_goals try go_bits
      all_goals rfl
    · refine step_intro rfl rfl fun ρ X hc hf hgl hX hp ho => ?_
      change StepOk _ { dst := _, op := Op.move (Operand.tmp 0), type := _, pos := _, after := _, guard := _ } _ _ _
      have k0 : ρ (.tmp 0) = .slice (some ⟨g, o, none⟩) 252 c := ho 0 (by decide)
      clear hp ho
      refine StepOk.of_run (v := ?v2) (w' := X) ?_ ⟨rfl, Below.refl _ _⟩
      clear hX
      go_simp
      all_goals try go_bits
      all_goals try simp only [IntWalk.iteOmega]
      all_goals try go_bits
      all_goals rfl
    · refine step_intro rfl rfl fun ρ X hc hf hgl hX hp ho => ?_
      change StepOk _ { dst := _, op := Op.slice 23 (Operand.tmp 7) (some (Operand.const (Value.int IntKind.i64 1))) (some (Operand.const (Value.int IntKind.i64 9))) (some (Operand.const (Value.int IntKind.i64 9))), type := _, pos := _, after := _, guard := _ } _ _ _
      have k7 : ρ (.tmp 7) = ?v2 := hp 2 (by decide)
      clear hp ho
      refine StepOk.of_run (v := ?v3) (w' := X) ?_ ⟨rfl, Below.refl _ _⟩
      clear hX
      go_simp
      all_goals try go_bits
      all_goals try simp only [IntWalk.iteOmega]
      all_goals try go_bits
      all_goals rfl
    · refine step_intro rfl rfl fun ρ X hc hf hgl hX hp ho => ?_
      change StepOk _ { dst := _, op := Op.move (Operand.tmp 0), type := _, pos := _, after := _, guard := _ } _ _ _
      have k0 : ρ (.tmp 0) = .slice (some ⟨g, o, none⟩) 252 c := ho 0 (by decide)
      clear hp ho
      refine StepOk.of_run (v := ?v4) (w' := X) ?_ ⟨rfl, Below.refl _ _⟩
      clear hX
      go_simp
      all_goals try go_bits
      all_goals try simp only [IntWalk.iteOmega]
      all_goals try go_bits
      all_goals rfl
    · refine step_intro rfl rfl fun ρ X hc hf hgl hX hp ho => ?_
      change StepOk _ { dst := _, op := Op.slice 23 (Operand.tmp 9) (some (Operand.const (Value.int IntKind.i64 9))) (some (Operand.const (Value.int IntKind.i64 252))) (some (Operand.const (Value.int IntKind.i64 252))), type := _, pos := _, after := _, guard := _ } _ _ _
      have k9 : ρ (.tmp 9) = ?v4 := hp 4 (by decide)
      clear hp ho
      refine StepOk.of_run (v := ?v5) (w' := X) ?_ ⟨rfl, Below.refl _ _⟩
      clear hX
      go_simp
      all_goals try go_bits
      all_goals try simp only [IntWalk.iteOmega]
      all_goals try go_bits
      all_goals rfl
    · refine step_intro rfl rfl fun ρ X hc hf hgl hX hp ho => ?_
      change StepOk _ { dst := _, op := Op.assign (Operand.tmp 6), type := _, pos := _, after := _, guard := _ } _ _ _
      have k6 : ρ (.tmp 6) = ?v1 := hp 1 (by decide)
      clear hp ho
      refine StepOk.of_run (v := ?v6) (w' := X) ?_ ⟨rfl, Below.refl _ _⟩
      clear hX
      go_simp
      all_goals try go_bits
      all_goals try simp only [IntWalk.iteOmega]
      all_goals try go_bits
      all_goals rfl
    · refine step_intro rfl rfl fun ρ X hc hf hgl hX hp ho => ?_
      change StepOk _ { dst := _, op := Op.assign (Operand.tmp 8), type := _, pos := _, after := _, guard := _ } _ _ _
      have k8 : ρ (.tmp 8) = ?v3 := hp 3 (by decide)
      clear hp ho
      refine StepOk.of_run (v := ?v7) (w' := X) ?_ ⟨rfl, Below.refl _ _⟩
      clear hX
      go_simp
      all_goals try go_bits
      all_goals try simp only [IntWalk.iteOmega]
      all_goals try go_bits
      all_goals rfl
    · refine step_intro rfl rfl fun ρ X hc hf hgl hX hp ho => ?_
      change StepOk _ { dst := _, op := Op.assign (Operand.tmp 10), type := _, pos := _, after := _, guard := _ } _ _ _
      have k10 : ρ (.tmp 10) = ?v5 := hp 5 (by decide)
      clear hp ho
      refine StepOk.of_run (v := ?v8) (w' := X) ?_ ⟨rfl, Below.refl _ _⟩
      clear hX
      go_simp
      all_goals try go_bits
      all_goals try simp only [IntWalk.iteOmega]
      all_goals try go_bits
      all_goals rfl
  case grd => rfl
  case rst =>
    intro a0 X hb
    have hfr := hb.frame ((2, ?v6) :: (3, ?v7) :: (4, ?v8) :: (5, ?v0) :: (6, ?v1) :: (7, ?v2) :: (8, ?v3) :: (9, ?v4) :: (10, ?v5) :: []) rfl ⟨hb.done' 6 2 rfl rfl, hb.done' 7 3 rfl rfl, hb.done' 8 4 rfl rfl, hb.done' 0 5 rfl rfl, hb.done' 1 6 rfl rfl, hb.done' 2 7 rfl rfl, hb.done' 3 8 rfl rfl, hb.done' 4 9 rfl rfl, hb.done' 5 10 rfl rfl, trivial⟩
    simp only [updL, ↓reduceIte, Nat.reduceEqDiff, Nat.reduceAdd, Nat.zero_add] at hfr
    have HX := Lib.hid hb.ext
    clear hb
    subst hfr
    go_wp2
    exact bodyPost_ret (v := .tuple #[.slice (some ⟨g, o, none⟩) 1 1, .slice (some ⟨g, o + 1, none⟩) 8 8, .slice (some ⟨g, o + 9, none⟩) 243 243]) (by simp [results, Try.results15, go_sem]) rfl ⟨rfl, HX.out⟩
end Go.Proofs.Ytfgnniajancpcaa
