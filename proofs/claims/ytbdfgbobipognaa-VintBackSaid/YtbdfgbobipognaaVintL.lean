/-
  The contract of 'live': it answers true.
-/
import Derived.Test.YtbdfgbobipognaaVintV
namespace Go.Proofs.Ytbdfgbobipognaa
open Go.RowKit
set_option linter.unusedVariables false
set_option linter.unusedSimpArgs false

theorem byt_lit (e : TypeId) (W : World) (l : List UInt8) (hl : l.length ≤ maxLen) : Byt (W.alloc (.cells (l.map bv).toArray e)) (.slice (some ⟨W.heap.size, 0, none⟩) l.length l.length) l :=
  (Own.lit e 0 W l (Nat.zero_le _) hl).byt

set_option maxRecDepth 100000 in
set_option maxHeartbeats 1000000 in
theorem live_any (w : World) : Calls Try.prog 12 #[] w fun e w' => e = .returned (.bool true) ∧ Grows w w' := by
  have hmx : Try.prog.follows .mixedOrders = true := by kernel_rfl
  have g1 : get [172, 2, 9] = (300, 2, 0) := by decide
  have g2 : get [128, 0] = (0, 0, 12) := by decide
  have g3 : getB [2, 7, 8, 9] = ([7, 8], 3, 0) := by decide
  have G1 := Lib.hid g1
  have G2 := Lib.hid g2
  have G3 := Lib.hid g3
  clear g1 g2 g3
  go_enter Try.func12, Try.ntmps12
  go_wp2_with fail
  refine (vGet _ [172, 2, 9] _ (byt_lit 5 w [172, 2, 9] (by decide))).mono ?_
  rintro e w1 ⟨rfl, hg1⟩
  rw [G1.out]
  unfold got
  have H1 := Lib.hid (Grows.trans' (Grows.alloc' _ _) hg1)
  clear hg1
  go_wp2_with fail
  refine (vGet _ [128, 0] _ (byt_lit 5 w1 [128, 0] (by decide))).mono ?_
  rintro e w2 ⟨rfl, hg2⟩
  rw [G2.out]
  unfold got
  have H2 := Lib.hid (Grows.trans' H1.out (Grows.trans' (Grows.alloc' _ _) hg2))
  clear hg2
  go_wp2_with fail
  refine (vGetBytes _ [2, 7, 8, 9] _ (byt_lit 5 w2 [2, 7, 8, 9] (by decide)) (by decide)).mono ?_
  rw [G3.out]
  rintro e w3 ⟨v3, rfl, ho3, hg3⟩
  have hb3 := ho3.byt
  have H3 := Lib.hid (Grows.trans' H2.out (Grows.trans' (Grows.alloc' _ _) hg3))
  clear hg3 ho3
  go_wp2_with fail
  refine specs_region
    #[[], [0], [], [2], [0, 1, 2, 3], [0, 1, 2, 3, 4], [0, 1, 2, 3, 4, 5], [0, 1, 2, 3, 4, 5, 6], [0, 1, 2, 3, 4, 5, 6, 7], [0, 1, 2, 3, 4, 5, 6, 7, 8], [0, 1, 2, 3, 4, 5, 6, 7, 8, 9], [0, 1, 2, 3, 4, 5, 6, 7, 8, 9, 10], [0, 1, 2, 3, 4, 5, 6, 7, 8, 9, 10, 11], [0, 1, 2, 3, 4, 5, 6, 7, 8, 9, 10, 11, 12], [0, 1, 2, 3, 4, 5, 6, 7, 8, 9, 10, 11, 12, 13], [0, 1, 2, 3, 4, 5, 6, 7, 8, 9, 10, 11, 12, 13, 14], [0, 1, 2, 3, 4, 5, 6, 7, 8, 9, 10, 11, 12, 13, 14, 15], [0, 1, 2, 3, 4, 5, 6, 7, 8, 9, 10, 11, 12, 13, 14, 15, 16], [0, 1, 2, 3, 4, 5, 6, 7, 8, 9, 10, 11, 12, 13, 14, 15, 16, 17], [0, 1, 2, 3, 4, 5, 6, 7, 8, 9, 10, 11, 12, 13, 14, 15, 16, 17, 18], [0, 1, 2, 3, 4, 5, 6, 7, 8, 9, 10, 11, 12, 13, 14, 15, 16, 17, 18, 19], [0, 1, 2, 3, 4, 5, 6, 7, 8, 9, 10, 11, 12, 13, 14, 15, 16, 17, 18, 19, 20], [0, 1, 2, 3, 4, 5, 6, 7, 8, 9, 10, 11, 12, 13, 14, 15, 16, 17, 18, 19, 20, 21], [0, 1, 2, 3, 4, 5, 6, 7, 8, 9, 10, 11, 12, 13, 14, 15, 16, 17, 18, 19, 20, 21, 22], [0, 1, 2, 3, 4, 5, 6, 7, 8, 9, 10, 11, 12, 13, 14, 15, 16, 17, 18, 19, 20, 21, 22, 23], [0, 1, 2, 3, 4, 5, 6, 7, 8, 9, 10, 11, 12, 13, 14, 15, 16, 17, 18, 19, 20, 21, 22, 23, 24], [0, 1, 2, 3, 4, 5, 6, 7, 8, 9, 10, 11, 12, 13, 14, 15, 16, 17, 18, 19, 20, 21, 22, 23], [0, 1, 2, 3, 4, 5, 6, 7, 8, 9, 10, 11, 12, 13, 14, 15, 16, 17, 18, 19, 20, 21, 22, 23, 26], [0, 1, 2, 3, 4, 5, 6, 7, 8, 9, 10, 11, 12, 13, 14, 15, 16, 17, 18, 19, 20, 21, 22, 23, 24, 25, 26, 27], [0, 1, 2, 3, 4, 5, 6, 7, 8, 9, 10, 11, 12, 13, 14, 15, 16, 17, 18, 19, 20, 21, 22, 23, 24, 25, 26, 27, 28], [0, 1, 2, 3, 4, 5, 6, 7, 8, 9, 10, 11, 12, 13, 14, 15, 16, 17, 18, 19, 20, 21, 22, 23, 24, 25, 26, 27, 28, 29], [0, 1, 2, 3, 4, 5, 6, 7, 8, 9, 10, 11, 12, 13, 14, 15, 16, 17, 18, 19, 20, 21, 22, 23, 24, 25, 26, 27, 28, 29, 30], [0, 1, 2, 3, 4, 5, 6, 7, 8, 9, 10, 11, 12, 13, 14, 15, 16, 17, 18, 19, 20, 21, 22, 23, 24, 25, 26, 27, 28, 29, 30, 31], [0, 1, 2, 3, 4, 5, 6, 7, 8, 9, 10, 11, 12, 13, 14, 15, 16, 17, 18, 19, 20, 21, 22, 23, 24, 25, 26, 27, 28, 29, 30, 31, 32], [0, 1, 2, 3, 4, 5, 6, 7, 8, 9, 10, 11, 12, 13, 14, 15, 16, 17, 18, 19, 20, 21, 22, 23, 24, 25, 26, 27, 28, 29, 30, 31, 32, 33], [0, 1, 2, 3, 4, 5, 6, 7, 8, 9, 10, 11, 12, 13, 14, 15, 16, 17, 18, 19, 20, 21, 22, 23, 24, 25, 26, 27, 28, 29, 30, 31, 32, 33, 34], [0, 1, 2, 3, 4, 5, 6, 7, 8, 9, 10, 11, 12, 13, 14, 15, 16, 17, 18, 19, 20, 21, 22, 23, 24, 25, 26, 27, 28, 29, 30, 31, 32, 33, 34, 35], [0, 1, 2, 3, 4, 5, 6, 7, 8, 9, 10, 11, 12, 13, 14, 15, 16, 17, 18, 19, 20, 21, 22, 23, 24, 25, 26, 27, 28, 29, 30, 31, 32, 33, 34, 35, 36], [0, 1, 2, 3, 4, 5, 6, 7, 8, 9, 10, 11, 12, 13, 14, 15, 16, 17, 18, 19, 20, 21, 22, 23, 24, 25, 26, 27, 28, 29, 30, 31, 32, 33, 34, 35], [0, 1, 2, 3, 4, 5, 6, 7, 8, 9, 10, 11, 12, 13, 14, 15, 16, 17, 18, 19, 20, 21, 22, 23, 24, 25, 26, 27, 28, 29, 30, 31, 32, 33, 34, 35, 38], [0, 1, 2, 3, 4, 5, 6, 7, 8, 9, 10, 11, 12, 13, 14, 15, 16, 17, 18, 19, 20, 21, 22, 23, 24, 25, 26, 27, 28, 29, 30, 31, 32, 33, 34, 35, 36, 37, 38, 39], [0, 1, 2, 3, 4, 5, 6, 7, 8, 9, 10, 11, 12, 13, 14, 15, 16, 17, 18, 19, 20, 21, 22, 23, 24, 25, 26, 27, 28, 29, 30, 31, 32, 33, 34, 35, 36, 37, 38, 39, 40], [0, 1, 2, 3, 4, 5, 6, 7, 8, 9, 10, 11, 12, 13, 14, 15, 16, 17, 18, 19, 20, 21, 22, 23, 24, 25, 26, 27, 28, 29, 30, 31, 32, 33, 34, 35, 36, 37, 38, 39, 40, 41], [0, 1, 2, 3, 4, 5, 6, 7, 8, 9, 10, 11, 12, 13, 14, 15, 16, 17, 18, 19, 20, 21, 22, 23, 24, 25, 26, 27, 28, 29, 30, 31, 32, 33, 34, 35, 36, 37, 38, 39, 40, 41, 42], [0, 1, 2, 3, 4, 5, 6, 7, 8, 9, 10, 11, 12, 13, 14, 15, 16, 17, 18, 19, 20, 21, 22, 23, 24, 25, 26, 27, 28, 29, 30, 31, 32, 33, 34, 35, 36, 37, 38, 39, 40, 41, 42, 43], [0, 1, 2, 3, 4, 5, 6, 7, 8, 9, 10, 11, 12, 13, 14, 15, 16, 17, 18, 19, 20, 21, 22, 23, 24, 25, 26, 27, 28, 29, 30, 31, 32, 33, 34, 35, 36, 37, 38, 39, 40, 41, 42, 43, 44], [0, 1, 2, 3, 4, 5, 6, 7, 8, 9, 10, 11, 12, 13, 14, 15, 16, 17, 18, 19, 20, 21, 22, 23, 24, 25, 26, 27, 28, 29, 30, 31, 32, 33, 34, 35, 36, 37, 38, 39, 40, 41, 42, 43, 44, 45], [0, 1, 2, 3, 4, 5, 6, 7, 8, 9, 10, 11, 12, 13, 14, 15, 16, 17, 18, 19, 20, 21, 22, 23, 24, 25, 26, 27, 28, 29, 30, 31, 32, 33, 34, 35, 36, 37, 38, 39, 40, 41, 42, 43, 44, 45, 46], [0, 1, 2, 3, 4, 5, 6, 7, 8, 9, 10, 11, 12, 13, 14, 15, 16, 17, 18, 19, 20, 21, 22, 23, 24, 25, 26, 27, 28, 29, 30, 31, 32, 33, 34, 35, 36, 37, 38, 39, 40, 41, 42, 43, 44, 45, 46, 47], [0, 1, 2, 3, 4, 5, 6, 7, 8, 9, 10, 11, 12, 13, 14, 15, 16, 17, 18, 19, 20, 21, 22, 23, 24, 25, 26, 27, 28, 29, 30, 31, 32, 33, 34, 35, 36, 37, 38, 39, 40, 41, 42, 43, 44, 45, 46, 47, 48], [0, 1, 2, 3, 4, 5, 6, 7, 8, 9, 10, 11, 12, 13, 14, 15, 16, 17, 18, 19, 20, 21, 22, 23, 24, 25, 26, 27, 28, 29, 30, 31, 32, 33, 34, 35, 36, 37, 38, 39, 40, 41, 42, 43, 44, 45, 46, 47, 48, 49], [0, 1, 2, 3, 4, 5, 6, 7, 8, 9, 10, 11, 12, 13, 14, 15, 16, 17, 18, 19, 20, 21, 22, 23, 24, 25, 26, 27, 28, 29, 30, 31, 32, 33, 34, 35, 36, 37, 38, 39, 40, 41, 42, 43, 44, 45, 46, 47, 48, 49, 50], [0, 1, 2, 3, 4, 5, 6, 7, 8, 9, 10, 11, 12, 13, 14, 15, 16, 17, 18, 19, 20, 21, 22, 23, 24, 25, 26, 27, 28, 29, 30, 31, 32, 33, 34, 35, 36, 37, 38, 39, 40, 41, 42, 43, 44, 45, 46, 47, 48, 49, 50, 51], [0, 1, 2, 3, 4, 5, 6, 7, 8, 9, 10, 11, 12, 13, 14, 15, 16, 17, 18, 19, 20, 21, 22, 23, 24, 25, 26, 27, 28, 29, 30, 31, 32, 33, 34, 35, 36, 37, 38, 39, 40, 41, 42, 43, 44, 45, 46, 47, 48, 49, 50, 51, 52], [0, 1, 2, 3, 4, 5, 6, 7, 8, 9, 10, 11, 12, 13, 14, 15, 16, 17, 18, 19, 20, 21, 22, 23, 24, 25, 26, 27, 28, 29, 30, 31, 32, 33, 34, 35, 36, 37, 38, 39, 40, 41, 42, 43, 44, 45, 46, 47, 48, 49, 50, 51, 52, 53], [0, 1, 2, 3, 4, 5, 6, 7, 8, 9, 10, 11, 12, 13, 14, 15, 16, 17, 18, 19, 20, 21, 22, 23, 24, 25, 26, 27, 28, 29, 30, 31, 32, 33, 34, 35, 36, 37, 38, 39, 40, 41, 42, 43, 44, 45, 46, 47, 48, 49, 50, 51], [0, 1, 2, 3, 4, 5, 6, 7, 8, 9, 10, 11, 12, 13, 14, 15, 16, 17, 18, 19, 20, 21, 22, 23, 24, 25, 26, 27, 28, 29, 30, 31, 32, 33, 34, 35, 36, 37, 38, 39, 40, 41, 42, 43, 44, 45, 46, 47, 48, 49, 50, 51, 55], [0, 1, 2, 3, 4, 5, 6, 7, 8, 9, 10, 11, 12, 13, 14, 15, 16, 17, 18, 19, 20, 21, 22, 23, 24, 25, 26, 27, 28, 29, 30, 31, 32, 33, 34, 35, 36, 37, 38, 39, 40, 41, 42, 43, 44, 45, 46, 47, 48, 49, 50, 51, 52, 53, 54, 55, 56], [0, 1, 2, 3, 4, 5, 6, 7, 8, 9, 10, 11, 12, 13, 14, 15, 16, 17, 18, 19, 20, 21, 22, 23, 24, 25, 26, 27, 28, 29, 30, 31, 32, 33, 34, 35, 36, 37, 38, 39, 40, 41, 42, 43, 44, 45, 46, 47, 48, 49, 50, 51, 52, 53, 54, 55, 56, 57], [0, 1, 2, 3, 4, 5, 6, 7, 8, 9, 10, 11, 12, 13, 14, 15, 16, 17, 18, 19, 20, 21, 22, 23, 24, 25, 26, 27, 28, 29, 30, 31, 32, 33, 34, 35, 36, 37, 38, 39, 40, 41, 42, 43, 44, 45, 46, 47, 48, 49, 50, 51, 52, 53, 54, 55, 56, 57, 58]]
    #[[], [], [], [], [], [], [1], [], [], [], [2], [], [], [], [3], [], [], [], [], [6], [], [], [], [], [], [], [], [], [], [], [], [], [], [], [], [], [7], [], [], [], [], [], [], [8], [], [], [], [9], [], [], [], [], [], [], [], [], [], [], [], []]
    #[true, true, true, true, true, true, true, true, true, true, true, true, true, true, true, true, true, true, true, true, true, true, true, true, true, true, true, true, true, true, true, true, true, true, true, true, true, true, true, true, true, true, true, true, true, true, true, true, true, true, true, true, true, true, true, true, true, true, true, true]
    #[.byt ([172, 2]), .val (.string ⟨([172, 2] : List UInt8).toArray⟩), .byt ([172, 2]), .val (.string ⟨([172, 2] : List UInt8).toArray⟩), .val (.bool true), .val (.bool true), .val (.int .u64 300), .val (.bool true), .val (.bool true), .val (.bool true), .val (.int .i64 2), .val (.bool true), .val (.bool true), .val (.bool true), .val (.int .i64 0), .val (.int .i64 0), .val (.bool true), .val (.bool true), .val (.bool true), .val (.int .i64 12), .val (.int .i64 12), .val (.bool true), .val (.bool true), .val (.bool true), .byt ([1, 2]), .val (.string ⟨([1, 2] : List UInt8).toArray⟩), .byt ([1, 2]), .val (.string ⟨([1, 2] : List UInt8).toArray⟩), .val (.bool true), .val (.bool true), .val (.bool true), .byt ([1, 2]), .val (.int .u64 258), .val (.bool true), .val (.bool true), .val (.bool true), .byt ([7, 8]), .val (.string ⟨([7, 8] : List UInt8).toArray⟩), .byt ([7, 8]), .val (.string ⟨([7, 8] : List UInt8).toArray⟩), .val (.bool true), .val (.bool true), .val (.bool true), .val (.int .i64 3), .val (.bool true), .val (.bool true), .val (.bool true), .val (.int .i64 0), .val (.int .i64 0), .val (.bool true), .val (.bool true), .val (.bool true), .byt ([5]), .byt ([1, 5]), .val (.string ⟨([1, 5] : List UInt8).toArray⟩), .byt ([1, 5]), .val (.string ⟨([1, 5] : List UInt8).toArray⟩), .val (.bool true), .val (.bool true), .val (.bool true)]
    hmx ?_ ?_ ?_ ?_
  · rfl
  · rfl
  · refine ⟨?_, ?_, ?_, ?_, ?_, ?_, ?_, ?_, ?_, ?_, ?_, ?_, ?_, ?_, ?_, ?_, ?_, ?_, ?_, ?_, ?_, ?_, ?_, ?_, ?_, ?_, ?_, ?_, ?_, ?_, ?_, ?_, ?_, ?_, ?_, ?_, ?_, ?_, ?_, ?_, ?_, ?_, ?_, ?_, ?_, ?_, ?_, ?_, ?_, ?_, ?_, ?_, ?_, ?_, ?_, ?_, ?_, ?_, ?_, ?_, trivial⟩
    · refine step_intro rfl rfl fun ρ X hc hf hgl hX hp ho => ?_
      change StepOk _ { dst := _, op := Op.call { callee := Callee.value (Operand.func 10), args := #[Operand.const (Value.int IntKind.u64 300)], argTypes := #[22] }, type := _, pos := _, after := _, guard := _ } _ _ _
      refine StepOk.of_call (f := 10) (args := #[.int .u64 300]) (w' := X) ?_ (vPut 300 (by decide) X) ?_
      · simp [go_sem, execOp, hc, hf]
      · rintro e w'' ⟨v, rfl, ho', hg'⟩; exact ⟨v, rfl, (show Byt w'' v [172, 2] from ho'.byt), hg'⟩
    · refine step_intro rfl rfl fun ρ X hc hf hgl hX hp ho => ?_
      change StepOk _ { dst := _, op := Op.convert 23 9 (Operand.tmp 28), type := _, pos := _, after := _, guard := _ } _ _ _
      have k28 : Byt X (ρ (.tmp 28)) [172, 2] := hp 0 (by decide)
      refine StepOk.of_run (v := .string ⟨([172, 2] : List UInt8).toArray⟩) (w' := X) ?_ ⟨rfl, Below.refl _ _⟩
      have hr := run_string (P := Try.prog) (T := 23) (e := 5) (S := 9) rfl rfl rfl k28
      simp only [execOp, Sem.run_bind, hr, Result.andThen_ok, Sem.run_pure]
    · refine step_intro rfl rfl fun ρ X hc hf hgl hX hp ho => ?_
      change StepOk _ { dst := _, op := Op.buildSlice 23 2 #[(0, Operand.const (Value.int IntKind.u8 172)), (1, Operand.const (Value.int IntKind.u8 2))], type := _, pos := _, after := _, guard := _ } _ _ _
      refine StepOk.of_run (v := .slice (some ⟨X.heap.size, 0, none⟩) 2 2) (w' := X.alloc (.cells (([172, 2] : List UInt8).map bv).toArray 5)) ?_ ⟨(Own.lit 5 0 X [172, 2] (Nat.zero_le _) (by decide)).byt, Grows.alloc' _ _⟩
      simp [go_sem, execOp, hc, bv]
    · refine step_intro rfl rfl fun ρ X hc hf hgl hX hp ho => ?_
      change StepOk _ { dst := _, op := Op.convert 23 9 (Operand.tmp 30), type := _, pos := _, after := _, guard := _ } _ _ _
      have k30 : Byt X (ρ (.tmp 30)) [172, 2] := hp 2 (by decide)
      refine StepOk.of_run (v := .string ⟨([172, 2] : List UInt8).toArray⟩) (w' := X) ?_ ⟨rfl, Below.refl _ _⟩
      have hr := run_string (P := Try.prog) (T := 23) (e := 5) (S := 9) rfl rfl rfl k30
      simp only [execOp, Sem.run_bind, hr, Result.andThen_ok, Sem.run_pure]
    · refine step_intro rfl rfl fun ρ X hc hf hgl hX hp ho => ?_
      change StepOk _ { dst := _, op := Op.binOp BinOp.eql 9 (Operand.tmp 29) (Operand.tmp 31) 9, type := _, pos := _, after := _, guard := _ } _ _ _
      have k29 : ρ (.tmp 29) = .string ⟨([172, 2] : List UInt8).toArray⟩ := hp 1 (by decide)
      have k31 : ρ (.tmp 31) = .string ⟨([172, 2] : List UInt8).toArray⟩ := hp 3 (by decide)
      refine StepOk.of_run (v := .bool true) (w' := X) ?_ ⟨rfl, Below.refl _ _⟩
      simp [go_sem, execOp, hc, hf, k29, k31]
    · refine step_intro rfl rfl fun ρ X hc hf hgl hX hp ho => ?_
      change StepOk _ { dst := _, op := Op.move (Operand.tmp 32), type := _, pos := _, after := _, guard := _ } _ _ _
      have k32 : ρ (.tmp 32) = .bool true := hp 4 (by decide)
      refine StepOk.of_run (v := .bool true) (w' := X) ?_ ⟨rfl, Below.refl _ _⟩
      simp [go_sem, execOp, hc, hf, k32]
    · refine step_intro rfl rfl fun ρ X hc hf hgl hX hp ho => ?_
      change StepOk _ { dst := _, op := Op.move (Operand.tmp 1), type := _, pos := _, after := _, guard := _ } _ _ _
      have e1 : ρ (.tmp 1) = .int .u64 300 := ho 1 (by decide)
      have k1 := e1
      refine StepOk.of_run (v := .int .u64 300) (w' := X) ?_ ⟨rfl, Below.refl _ _⟩
      simp [go_sem, execOp, hc, hf, k1]
    · refine step_intro rfl rfl fun ρ X hc hf hgl hX hp ho => ?_
      change StepOk _ { dst := _, op := Op.binOp BinOp.eql 22 (Operand.tmp 34) (Operand.const (Value.int IntKind.u64 300)) 22, type := _, pos := _, after := _, guard := _ } _ _ _
      have k34 : ρ (.tmp 34) = .int .u64 300 := hp 6 (by decide)
      refine StepOk.of_run (v := .bool true) (w' := X) ?_ ⟨rfl, Below.refl _ _⟩
      simp [go_sem, execOp, hc, hf, k34]
    · refine step_intro rfl rfl fun ρ X hc hf hgl hX hp ho => ?_
      change StepOk _ { dst := _, op := Op.pick (Operand.tmp 33) (Operand.tmp 35) (Operand.const (Value.bool false)), type := _, pos := _, after := _, guard := _ } _ _ _
      have k33 : ρ (.tmp 33) = .bool true := hp 5 (by decide)
      have k35 : ρ (.tmp 35) = .bool true := hp 7 (by decide)
      refine StepOk.of_run (v := .bool true) (w' := X) ?_ ⟨rfl, Below.refl _ _⟩
      simp [go_sem, execOp, hc, hf, k33, k35]
    · refine step_intro rfl rfl fun ρ X hc hf hgl hX hp ho => ?_
      change StepOk _ { dst := _, op := Op.move (Operand.tmp 36), type := _, pos := _, after := _, guard := _ } _ _ _
      have k36 : ρ (.tmp 36) = .bool true := hp 8 (by decide)
      refine StepOk.of_run (v := .bool true) (w' := X) ?_ ⟨rfl, Below.refl _ _⟩
      simp [go_sem, execOp, hc, hf, k36]
    · refine step_intro rfl rfl fun ρ X hc hf hgl hX hp ho => ?_
      change StepOk _ { dst := _, op := Op.move (Operand.tmp 2), type := _, pos := _, after := _, guard := _ } _ _ _
      have e2 : ρ (.tmp 2) = .int .i64 2 := ho 2 (by decide)
      have k2 := e2
      refine StepOk.of_run (v := .int .i64 2) (w' := X) ?_ ⟨rfl, Below.refl _ _⟩
      simp [go_sem, execOp, hc, hf, k2]
    · refine step_intro rfl rfl fun ρ X hc hf hgl hX hp ho => ?_
      change StepOk _ { dst := _, op := Op.binOp BinOp.eql 3 (Operand.tmp 38) (Operand.const (Value.int IntKind.i64 2)) 3, type := _, pos := _, after := _, guard := _ } _ _ _
      have k38 : ρ (.tmp 38) = .int .i64 2 := hp 10 (by decide)
      refine StepOk.of_run (v := .bool true) (w' := X) ?_ ⟨rfl, Below.refl _ _⟩
      simp [go_sem, execOp, hc, hf, k38]
    · refine step_intro rfl rfl fun ρ X hc hf hgl hX hp ho => ?_
      change StepOk _ { dst := _, op := Op.pick (Operand.tmp 37) (Operand.tmp 39) (Operand.const (Value.bool false)), type := _, pos := _, after := _, guard := _ } _ _ _
      have k37 : ρ (.tmp 37) = .bool true := hp 9 (by decide)
      have k39 : ρ (.tmp 39) = .bool true := hp 11 (by decide)
      refine StepOk.of_run (v := .bool true) (w' := X) ?_ ⟨rfl, Below.refl _ _⟩
      simp [go_sem, execOp, hc, hf, k37, k39]
    · refine step_intro rfl rfl fun ρ X hc hf hgl hX hp ho => ?_
      change StepOk _ { dst := _, op := Op.move (Operand.tmp 40), type := _, pos := _, after := _, guard := _ } _ _ _
      have k40 : ρ (.tmp 40) = .bool true := hp 12 (by decide)
      refine StepOk.of_run (v := .bool true) (w' := X) ?_ ⟨rfl, Below.refl _ _⟩
      simp [go_sem, execOp, hc, hf, k40]
    · refine step_intro rfl rfl fun ρ X hc hf hgl hX hp ho => ?_
      change StepOk _ { dst := _, op := Op.move (Operand.tmp 3), type := _, pos := _, after := _, guard := _ } _ _ _
      have e3 : ρ (.tmp 3) = .int .i64 0 := ho 3 (by decide)
      have k3 := e3
      refine StepOk.of_run (v := .int .i64 0) (w' := X) ?_ ⟨rfl, Below.refl _ _⟩
      simp [go_sem, execOp, hc, hf, k3]
    · refine step_intro rfl rfl fun ρ X hc hf hgl hX hp ho => ?_
      change StepOk _ { dst := _, op := Op.call { callee := Callee.value (Operand.func 15), args := #[Operand.tmp 42], argTypes := #[27] }, type := _, pos := _, after := _, guard := _ } _ _ _
      have k42 : ρ (.tmp 42) = .int .i64 0 := hp 14 (by decide)
      refine StepOk.of_call (f := 15) (args := #[.int .i64 0]) (w' := X) ?_ (num_any _ X) ?_
      · simp [go_sem, execOp, hc, hf, k42]
      · rintro e w'' ⟨rfl, rfl⟩; exact ⟨_, rfl, rfl, Below.refl _ _⟩
    · refine step_intro rfl rfl fun ρ X hc hf hgl hX hp ho => ?_
      change StepOk _ { dst := _, op := Op.binOp BinOp.eql 3 (Operand.tmp 43) (Operand.const (Value.int IntKind.i64 0)) 3, type := _, pos := _, after := _, guard := _ } _ _ _
      have k43 : ρ (.tmp 43) = .int .i64 0 := hp 15 (by decide)
      refine StepOk.of_run (v := .bool true) (w' := X) ?_ ⟨rfl, Below.refl _ _⟩
      simp [go_sem, execOp, hc, hf, k43]
    · refine step_intro rfl rfl fun ρ X hc hf hgl hX hp ho => ?_
      change StepOk _ { dst := _, op := Op.pick (Operand.tmp 41) (Operand.tmp 44) (Operand.const (Value.bool false)), type := _, pos := _, after := _, guard := _ } _ _ _
      have k41 : ρ (.tmp 41) = .bool true := hp 13 (by decide)
      have k44 : ρ (.tmp 44) = .bool true := hp 16 (by decide)
      refine StepOk.of_run (v := .bool true) (w' := X) ?_ ⟨rfl, Below.refl _ _⟩
      simp [go_sem, execOp, hc, hf, k41, k44]
    · refine step_intro rfl rfl fun ρ X hc hf hgl hX hp ho => ?_
      change StepOk _ { dst := _, op := Op.move (Operand.tmp 45), type := _, pos := _, after := _, guard := _ } _ _ _
      have k45 : ρ (.tmp 45) = .bool true := hp 17 (by decide)
      refine StepOk.of_run (v := .bool true) (w' := X) ?_ ⟨rfl, Below.refl _ _⟩
      simp [go_sem, execOp, hc, hf, k45]
    · refine step_intro rfl rfl fun ρ X hc hf hgl hX hp ho => ?_
      change StepOk _ { dst := _, op := Op.move (Operand.tmp 6), type := _, pos := _, after := _, guard := _ } _ _ _
      have e6 : ρ (.tmp 6) = .int .i64 12 := ho 6 (by decide)
      have k6 := e6
      refine StepOk.of_run (v := .int .i64 12) (w' := X) ?_ ⟨rfl, Below.refl _ _⟩
      simp [go_sem, execOp, hc, hf, k6]
    · refine step_intro rfl rfl fun ρ X hc hf hgl hX hp ho => ?_
      change StepOk _ { dst := _, op := Op.call { callee := Callee.value (Operand.func 15), args := #[Operand.tmp 47], argTypes := #[27] }, type := _, pos := _, after := _, guard := _ } _ _ _
      have k47 : ρ (.tmp 47) = .int .i64 12 := hp 19 (by decide)
      refine StepOk.of_call (f := 15) (args := #[.int .i64 12]) (w' := X) ?_ (num_any _ X) ?_
      · simp [go_sem, execOp, hc, hf, k47]
      · rintro e w'' ⟨rfl, rfl⟩; exact ⟨_, rfl, rfl, Below.refl _ _⟩
    · refine step_intro rfl rfl fun ρ X hc hf hgl hX hp ho => ?_
      change StepOk _ { dst := _, op := Op.binOp BinOp.eql 3 (Operand.tmp 48) (Operand.const (Value.int IntKind.i64 12)) 3, type := _, pos := _, after := _, guard := _ } _ _ _
      have k48 : ρ (.tmp 48) = .int .i64 12 := hp 20 (by decide)
      refine StepOk.of_run (v := .bool true) (w' := X) ?_ ⟨rfl, Below.refl _ _⟩
      simp [go_sem, execOp, hc, hf, k48]
    · refine step_intro rfl rfl fun ρ X hc hf hgl hX hp ho => ?_
      change StepOk _ { dst := _, op := Op.pick (Operand.tmp 46) (Operand.tmp 49) (Operand.const (Value.bool false)), type := _, pos := _, after := _, guard := _ } _ _ _
      have k46 : ρ (.tmp 46) = .bool true := hp 18 (by decide)
      have k49 : ρ (.tmp 49) = .bool true := hp 21 (by decide)
      refine StepOk.of_run (v := .bool true) (w' := X) ?_ ⟨rfl, Below.refl _ _⟩
      simp [go_sem, execOp, hc, hf, k46, k49]
    · refine step_intro rfl rfl fun ρ X hc hf hgl hX hp ho => ?_
      change StepOk _ { dst := _, op := Op.move (Operand.tmp 50), type := _, pos := _, after := _, guard := _ } _ _ _
      have k50 : ρ (.tmp 50) = .bool true := hp 22 (by decide)
      refine StepOk.of_run (v := .bool true) (w' := X) ?_ ⟨rfl, Below.refl _ _⟩
      simp [go_sem, execOp, hc, hf, k50]
    · refine step_intro rfl rfl fun ρ X hc hf hgl hX hp ho => ?_
      change StepOk _ { dst := _, op := Op.call { callee := Callee.value (Operand.func 16), args := #[Operand.const (Value.int IntKind.u64 258), Operand.const (Value.int IntKind.i64 2)], argTypes := #[22, 3] }, type := _, pos := _, after := _, guard := _ } _ _ _
      refine StepOk.of_call (f := 16) (args := #[.int .u64 258, .int .i64 2]) (w' := X) ?_ (vFixed 258 2 (by decide) X) ?_
      · simp [go_sem, execOp, hc, hf]
      · rintro e w'' ⟨v, rfl, ho', hg'⟩; exact ⟨v, rfl, (show Byt w'' v [1, 2] from ho'.byt), hg'⟩
    · refine step_intro rfl rfl fun ρ X hc hf hgl hX hp ho => ?_
      change StepOk _ { dst := _, op := Op.convert 23 9 (Operand.tmp 52), type := _, pos := _, after := _, guard := _ } _ _ _
      have k52 : Byt X (ρ (.tmp 52)) [1, 2] := hp 24 (by decide)
      refine StepOk.of_run (v := .string ⟨([1, 2] : List UInt8).toArray⟩) (w' := X) ?_ ⟨rfl, Below.refl _ _⟩
      have hr := run_string (P := Try.prog) (T := 23) (e := 5) (S := 9) rfl rfl rfl k52
      simp only [execOp, Sem.run_bind, hr, Result.andThen_ok, Sem.run_pure]
    · refine step_intro rfl rfl fun ρ X hc hf hgl hX hp ho => ?_
      change StepOk _ { dst := _, op := Op.buildSlice 23 2 #[(0, Operand.const (Value.int IntKind.u8 1)), (1, Operand.const (Value.int IntKind.u8 2))], type := _, pos := _, after := _, guard := _ } _ _ _
      refine StepOk.of_run (v := .slice (some ⟨X.heap.size, 0, none⟩) 2 2) (w' := X.alloc (.cells (([1, 2] : List UInt8).map bv).toArray 5)) ?_ ⟨(Own.lit 5 0 X [1, 2] (Nat.zero_le _) (by decide)).byt, Grows.alloc' _ _⟩
      simp [go_sem, execOp, hc, bv]
    · refine step_intro rfl rfl fun ρ X hc hf hgl hX hp ho => ?_
      change StepOk _ { dst := _, op := Op.convert 23 9 (Operand.tmp 54), type := _, pos := _, after := _, guard := _ } _ _ _
      have k54 : Byt X (ρ (.tmp 54)) [1, 2] := hp 26 (by decide)
      refine StepOk.of_run (v := .string ⟨([1, 2] : List UInt8).toArray⟩) (w' := X) ?_ ⟨rfl, Below.refl _ _⟩
      have hr := run_string (P := Try.prog) (T := 23) (e := 5) (S := 9) rfl rfl rfl k54
      simp only [execOp, Sem.run_bind, hr, Result.andThen_ok, Sem.run_pure]
    · refine step_intro rfl rfl fun ρ X hc hf hgl hX hp ho => ?_
      change StepOk _ { dst := _, op := Op.binOp BinOp.eql 9 (Operand.tmp 53) (Operand.tmp 55) 9, type := _, pos := _, after := _, guard := _ } _ _ _
      have k53 : ρ (.tmp 53) = .string ⟨([1, 2] : List UInt8).toArray⟩ := hp 25 (by decide)
      have k55 : ρ (.tmp 55) = .string ⟨([1, 2] : List UInt8).toArray⟩ := hp 27 (by decide)
      refine StepOk.of_run (v := .bool true) (w' := X) ?_ ⟨rfl, Below.refl _ _⟩
      simp [go_sem, execOp, hc, hf, k53, k55]
    · refine step_intro rfl rfl fun ρ X hc hf hgl hX hp ho => ?_
      change StepOk _ { dst := _, op := Op.pick (Operand.tmp 51) (Operand.tmp 56) (Operand.const (Value.bool false)), type := _, pos := _, after := _, guard := _ } _ _ _
      have k51 : ρ (.tmp 51) = .bool true := hp 23 (by decide)
      have k56 : ρ (.tmp 56) = .bool true := hp 28 (by decide)
      refine StepOk.of_run (v := .bool true) (w' := X) ?_ ⟨rfl, Below.refl _ _⟩
      simp [go_sem, execOp, hc, hf, k51, k56]
    · refine step_intro rfl rfl fun ρ X hc hf hgl hX hp ho => ?_
      change StepOk _ { dst := _, op := Op.move (Operand.tmp 57), type := _, pos := _, after := _, guard := _ } _ _ _
      have k57 : ρ (.tmp 57) = .bool true := hp 29 (by decide)
      refine StepOk.of_run (v := .bool true) (w' := X) ?_ ⟨rfl, Below.refl _ _⟩
      simp [go_sem, execOp, hc, hf, k57]
    · refine step_intro rfl rfl fun ρ X hc hf hgl hX hp ho => ?_
      change StepOk _ { dst := _, op := Op.buildSlice 23 2 #[(0, Operand.const (Value.int IntKind.u8 1)), (1, Operand.const (Value.int IntKind.u8 2))], type := _, pos := _, after := _, guard := _ } _ _ _
      refine StepOk.of_run (v := .slice (some ⟨X.heap.size, 0, none⟩) 2 2) (w' := X.alloc (.cells (([1, 2] : List UInt8).map bv).toArray 5)) ?_ ⟨(Own.lit 5 0 X [1, 2] (Nat.zero_le _) (by decide)).byt, Grows.alloc' _ _⟩
      simp [go_sem, execOp, hc, bv]
    · refine step_intro rfl rfl fun ρ X hc hf hgl hX hp ho => ?_
      change StepOk _ { dst := _, op := Op.call { callee := Callee.value (Operand.func 18), args := #[Operand.tmp 59], argTypes := #[23] }, type := _, pos := _, after := _, guard := _ } _ _ _
      have k59 : Byt X (ρ (.tmp 59)) [1, 2] := hp 31 (by decide)
      refine StepOk.of_call (f := 18) (args := #[ρ (.tmp 59)]) (w' := X) ?_ (vNumber _ [1, 2] X k59) ?_
      · simp [go_sem, execOp, hc, hf]
      · rintro e w'' ⟨rfl, rfl⟩; exact ⟨_, rfl, rfl, Below.refl _ _⟩
    · refine step_intro rfl rfl fun ρ X hc hf hgl hX hp ho => ?_
      change StepOk _ { dst := _, op := Op.binOp BinOp.eql 22 (Operand.tmp 60) (Operand.const (Value.int IntKind.u64 258)) 22, type := _, pos := _, after := _, guard := _ } _ _ _
      have k60 : ρ (.tmp 60) = .int .u64 258 := hp 32 (by decide)
      refine StepOk.of_run (v := .bool true) (w' := X) ?_ ⟨rfl, Below.refl _ _⟩
      simp [go_sem, execOp, hc, hf, k60]
    · refine step_intro rfl rfl fun ρ X hc hf hgl hX hp ho => ?_
      change StepOk _ { dst := _, op := Op.pick (Operand.tmp 58) (Operand.tmp 61) (Operand.const (Value.bool false)), type := _, pos := _, after := _, guard := _ } _ _ _
      have k58 : ρ (.tmp 58) = .bool true := hp 30 (by decide)
      have k61 : ρ (.tmp 61) = .bool true := hp 33 (by decide)
      refine StepOk.of_run (v := .bool true) (w' := X) ?_ ⟨rfl, Below.refl _ _⟩
      simp [go_sem, execOp, hc, hf, k58, k61]
    · refine step_intro rfl rfl fun ρ X hc hf hgl hX hp ho => ?_
      change StepOk _ { dst := _, op := Op.move (Operand.tmp 62), type := _, pos := _, after := _, guard := _ } _ _ _
      have k62 : ρ (.tmp 62) = .bool true := hp 34 (by decide)
      refine StepOk.of_run (v := .bool true) (w' := X) ?_ ⟨rfl, Below.refl _ _⟩
      simp [go_sem, execOp, hc, hf, k62]
    · refine step_intro rfl rfl fun ρ X hc hf hgl hX hp ho => ?_
      change StepOk _ { dst := _, op := Op.move (Operand.tmp 7), type := _, pos := _, after := _, guard := _ } _ _ _
      have e7 : ρ (.tmp 7) = v3 := ho 7 (by decide)
      have k7 : Byt X (ρ (.tmp 7)) [7, 8] := by rw [e7]; exact Byt.grows (hb3) hX
      refine StepOk.of_run (v := ρ (.tmp 7)) (w' := X) ?_ ⟨k7, Below.refl _ _⟩
      simp [go_sem, execOp]
    · refine step_intro rfl rfl fun ρ X hc hf hgl hX hp ho => ?_
      change StepOk _ { dst := _, op := Op.convert 23 9 (Operand.tmp 64), type := _, pos := _, after := _, guard := _ } _ _ _
      have k64 : Byt X (ρ (.tmp 64)) [7, 8] := hp 36 (by decide)
      refine StepOk.of_run (v := .string ⟨([7, 8] : List UInt8).toArray⟩) (w' := X) ?_ ⟨rfl, Below.refl _ _⟩
      have hr := run_string (P := Try.prog) (T := 23) (e := 5) (S := 9) rfl rfl rfl k64
      simp only [execOp, Sem.run_bind, hr, Result.andThen_ok, Sem.run_pure]
    · refine step_intro rfl rfl fun ρ X hc hf hgl hX hp ho => ?_
      change StepOk _ { dst := _, op := Op.buildSlice 23 2 #[(0, Operand.const (Value.int IntKind.u8 7)), (1, Operand.const (Value.int IntKind.u8 8))], type := _, pos := _, after := _, guard := _ } _ _ _
      refine StepOk.of_run (v := .slice (some ⟨X.heap.size, 0, none⟩) 2 2) (w' := X.alloc (.cells (([7, 8] : List UInt8).map bv).toArray 5)) ?_ ⟨(Own.lit 5 0 X [7, 8] (Nat.zero_le _) (by decide)).byt, Grows.alloc' _ _⟩
      simp [go_sem, execOp, hc, bv]
    · refine step_intro rfl rfl fun ρ X hc hf hgl hX hp ho => ?_
      change StepOk _ { dst := _, op := Op.convert 23 9 (Operand.tmp 66), type := _, pos := _, after := _, guard := _ } _ _ _
      have k66 : Byt X (ρ (.tmp 66)) [7, 8] := hp 38 (by decide)
      refine StepOk.of_run (v := .string ⟨([7, 8] : List UInt8).toArray⟩) (w' := X) ?_ ⟨rfl, Below.refl _ _⟩
      have hr := run_string (P := Try.prog) (T := 23) (e := 5) (S := 9) rfl rfl rfl k66
      simp only [execOp, Sem.run_bind, hr, Result.andThen_ok, Sem.run_pure]
    · refine step_intro rfl rfl fun ρ X hc hf hgl hX hp ho => ?_
      change StepOk _ { dst := _, op := Op.binOp BinOp.eql 9 (Operand.tmp 65) (Operand.tmp 67) 9, type := _, pos := _, after := _, guard := _ } _ _ _
      have k65 : ρ (.tmp 65) = .string ⟨([7, 8] : List UInt8).toArray⟩ := hp 37 (by decide)
      have k67 : ρ (.tmp 67) = .string ⟨([7, 8] : List UInt8).toArray⟩ := hp 39 (by decide)
      refine StepOk.of_run (v := .bool true) (w' := X) ?_ ⟨rfl, Below.refl _ _⟩
      simp [go_sem, execOp, hc, hf, k65, k67]
    · refine step_intro rfl rfl fun ρ X hc hf hgl hX hp ho => ?_
      change StepOk _ { dst := _, op := Op.pick (Operand.tmp 63) (Operand.tmp 68) (Operand.const (Value.bool false)), type := _, pos := _, after := _, guard := _ } _ _ _
      have k63 : ρ (.tmp 63) = .bool true := hp 35 (by decide)
      have k68 : ρ (.tmp 68) = .bool true := hp 40 (by decide)
      refine StepOk.of_run (v := .bool true) (w' := X) ?_ ⟨rfl, Below.refl _ _⟩
      simp [go_sem, execOp, hc, hf, k63, k68]
    · refine step_intro rfl rfl fun ρ X hc hf hgl hX hp ho => ?_
      change StepOk _ { dst := _, op := Op.move (Operand.tmp 69), type := _, pos := _, after := _, guard := _ } _ _ _
      have k69 : ρ (.tmp 69) = .bool true := hp 41 (by decide)
      refine StepOk.of_run (v := .bool true) (w' := X) ?_ ⟨rfl, Below.refl _ _⟩
      simp [go_sem, execOp, hc, hf, k69]
    · refine step_intro rfl rfl fun ρ X hc hf hgl hX hp ho => ?_
      change StepOk _ { dst := _, op := Op.move (Operand.tmp 8), type := _, pos := _, after := _, guard := _ } _ _ _
      have e8 : ρ (.tmp 8) = .int .i64 3 := ho 8 (by decide)
      have k8 := e8
      refine StepOk.of_run (v := .int .i64 3) (w' := X) ?_ ⟨rfl, Below.refl _ _⟩
      simp [go_sem, execOp, hc, hf, k8]
    · refine step_intro rfl rfl fun ρ X hc hf hgl hX hp ho => ?_
      change StepOk _ { dst := _, op := Op.binOp BinOp.eql 3 (Operand.tmp 71) (Operand.const (Value.int IntKind.i64 3)) 3, type := _, pos := _, after := _, guard := _ } _ _ _
      have k71 : ρ (.tmp 71) = .int .i64 3 := hp 43 (by decide)
      refine StepOk.of_run (v := .bool true) (w' := X) ?_ ⟨rfl, Below.refl _ _⟩
      simp [go_sem, execOp, hc, hf, k71]
    · refine step_intro rfl rfl fun ρ X hc hf hgl hX hp ho => ?_
      change StepOk _ { dst := _, op := Op.pick (Operand.tmp 70) (Operand.tmp 72) (Operand.const (Value.bool false)), type := _, pos := _, after := _, guard := _ } _ _ _
      have k70 : ρ (.tmp 70) = .bool true := hp 42 (by decide)
      have k72 : ρ (.tmp 72) = .bool true := hp 44 (by decide)
      refine StepOk.of_run (v := .bool true) (w' := X) ?_ ⟨rfl, Below.refl _ _⟩
      simp [go_sem, execOp, hc, hf, k70, k72]
    · refine step_intro rfl rfl fun ρ X hc hf hgl hX hp ho => ?_
      change StepOk _ { dst := _, op := Op.move (Operand.tmp 73), type := _, pos := _, after := _, guard := _ } _ _ _
      have k73 : ρ (.tmp 73) = .bool true := hp 45 (by decide)
      refine StepOk.of_run (v := .bool true) (w' := X) ?_ ⟨rfl, Below.refl _ _⟩
      simp [go_sem, execOp, hc, hf, k73]
    · refine step_intro rfl rfl fun ρ X hc hf hgl hX hp ho => ?_
      change StepOk _ { dst := _, op := Op.move (Operand.tmp 9), type := _, pos := _, after := _, guard := _ } _ _ _
      have e9 : ρ (.tmp 9) = .int .i64 0 := ho 9 (by decide)
      have k9 := e9
      refine StepOk.of_run (v := .int .i64 0) (w' := X) ?_ ⟨rfl, Below.refl _ _⟩
      simp [go_sem, execOp, hc, hf, k9]
    · refine step_intro rfl rfl fun ρ X hc hf hgl hX hp ho => ?_
      change StepOk _ { dst := _, op := Op.call { callee := Callee.value (Operand.func 15), args := #[Operand.tmp 75], argTypes := #[27] }, type := _, pos := _, after := _, guard := _ } _ _ _
      have k75 : ρ (.tmp 75) = .int .i64 0 := hp 47 (by decide)
      refine StepOk.of_call (f := 15) (args := #[.int .i64 0]) (w' := X) ?_ (num_any _ X) ?_
      · simp [go_sem, execOp, hc, hf, k75]
      · rintro e w'' ⟨rfl, rfl⟩; exact ⟨_, rfl, rfl, Below.refl _ _⟩
    · refine step_intro rfl rfl fun ρ X hc hf hgl hX hp ho => ?_
      change StepOk _ { dst := _, op := Op.binOp BinOp.eql 3 (Operand.tmp 76) (Operand.const (Value.int IntKind.i64 0)) 3, type := _, pos := _, after := _, guard := _ } _ _ _
      have k76 : ρ (.tmp 76) = .int .i64 0 := hp 48 (by decide)
      refine StepOk.of_run (v := .bool true) (w' := X) ?_ ⟨rfl, Below.refl _ _⟩
      simp [go_sem, execOp, hc, hf, k76]
    · refine step_intro rfl rfl fun ρ X hc hf hgl hX hp ho => ?_
      change StepOk _ { dst := _, op := Op.pick (Operand.tmp 74) (Operand.tmp 77) (Operand.const (Value.bool false)), type := _, pos := _, after := _, guard := _ } _ _ _
      have k74 : ρ (.tmp 74) = .bool true := hp 46 (by decide)
      have k77 : ρ (.tmp 77) = .bool true := hp 49 (by decide)
      refine StepOk.of_run (v := .bool true) (w' := X) ?_ ⟨rfl, Below.refl _ _⟩
      simp [go_sem, execOp, hc, hf, k74, k77]
    · refine step_intro rfl rfl fun ρ X hc hf hgl hX hp ho => ?_
      change StepOk _ { dst := _, op := Op.move (Operand.tmp 78), type := _, pos := _, after := _, guard := _ } _ _ _
      have k78 : ρ (.tmp 78) = .bool true := hp 50 (by decide)
      refine StepOk.of_run (v := .bool true) (w' := X) ?_ ⟨rfl, Below.refl _ _⟩
      simp [go_sem, execOp, hc, hf, k78]
    · refine step_intro rfl rfl fun ρ X hc hf hgl hX hp ho => ?_
      change StepOk _ { dst := _, op := Op.buildSlice 23 1 #[(0, Operand.const (Value.int IntKind.u8 5))], type := _, pos := _, after := _, guard := _ } _ _ _
      refine StepOk.of_run (v := .slice (some ⟨X.heap.size, 0, none⟩) 1 1) (w' := X.alloc (.cells (([5] : List UInt8).map bv).toArray 5)) ?_ ⟨(Own.lit 5 0 X [5] (Nat.zero_le _) (by decide)).byt, Grows.alloc' _ _⟩
      simp [go_sem, execOp, hc, bv]
    · refine step_intro rfl rfl fun ρ X hc hf hgl hX hp ho => ?_
      change StepOk _ { dst := _, op := Op.call { callee := Callee.value (Operand.func 22), args := #[Operand.tmp 80], argTypes := #[23] }, type := _, pos := _, after := _, guard := _ } _ _ _
      have k80 : Byt X (ρ (.tmp 80)) [5] := hp 52 (by decide)
      refine StepOk.of_call (f := 22) (args := #[ρ (.tmp 80)]) (w' := X) ?_ (vPutBytes _ [5] X k80 (by decide)) ?_
      · simp [go_sem, execOp, hc, hf]
      · rintro e w'' ⟨v, rfl, ho', hg'⟩; exact ⟨v, rfl, (show Byt w'' v [1, 5] from ho'.byt), hg'⟩
    · refine step_intro rfl rfl fun ρ X hc hf hgl hX hp ho => ?_
      change StepOk _ { dst := _, op := Op.convert 23 9 (Operand.tmp 81), type := _, pos := _, after := _, guard := _ } _ _ _
      have k81 : Byt X (ρ (.tmp 81)) [1, 5] := hp 53 (by decide)
      refine StepOk.of_run (v := .string ⟨([1, 5] : List UInt8).toArray⟩) (w' := X) ?_ ⟨rfl, Below.refl _ _⟩
      have hr := run_string (P := Try.prog) (T := 23) (e := 5) (S := 9) rfl rfl rfl k81
      simp only [execOp, Sem.run_bind, hr, Result.andThen_ok, Sem.run_pure]
    · refine step_intro rfl rfl fun ρ X hc hf hgl hX hp ho => ?_
      change StepOk _ { dst := _, op := Op.buildSlice 23 2 #[(0, Operand.const (Value.int IntKind.u8 1)), (1, Operand.const (Value.int IntKind.u8 5))], type := _, pos := _, after := _, guard := _ } _ _ _
      refine StepOk.of_run (v := .slice (some ⟨X.heap.size, 0, none⟩) 2 2) (w' := X.alloc (.cells (([1, 5] : List UInt8).map bv).toArray 5)) ?_ ⟨(Own.lit 5 0 X [1, 5] (Nat.zero_le _) (by decide)).byt, Grows.alloc' _ _⟩
      simp [go_sem, execOp, hc, bv]
    · refine step_intro rfl rfl fun ρ X hc hf hgl hX hp ho => ?_
      change StepOk _ { dst := _, op := Op.convert 23 9 (Operand.tmp 83), type := _, pos := _, after := _, guard := _ } _ _ _
      have k83 : Byt X (ρ (.tmp 83)) [1, 5] := hp 55 (by decide)
      refine StepOk.of_run (v := .string ⟨([1, 5] : List UInt8).toArray⟩) (w' := X) ?_ ⟨rfl, Below.refl _ _⟩
      have hr := run_string (P := Try.prog) (T := 23) (e := 5) (S := 9) rfl rfl rfl k83
      simp only [execOp, Sem.run_bind, hr, Result.andThen_ok, Sem.run_pure]
    · refine step_intro rfl rfl fun ρ X hc hf hgl hX hp ho => ?_
      change StepOk _ { dst := _, op := Op.binOp BinOp.eql 9 (Operand.tmp 82) (Operand.tmp 84) 9, type := _, pos := _, after := _, guard := _ } _ _ _
      have k82 : ρ (.tmp 82) = .string ⟨([1, 5] : List UInt8).toArray⟩ := hp 54 (by decide)
      have k84 : ρ (.tmp 84) = .string ⟨([1, 5] : List UInt8).toArray⟩ := hp 56 (by decide)
      refine StepOk.of_run (v := .bool true) (w' := X) ?_ ⟨rfl, Below.refl _ _⟩
      simp [go_sem, execOp, hc, hf, k82, k84]
    · refine step_intro rfl rfl fun ρ X hc hf hgl hX hp ho => ?_
      change StepOk _ { dst := _, op := Op.pick (Operand.tmp 79) (Operand.tmp 85) (Operand.const (Value.bool false)), type := _, pos := _, after := _, guard := _ } _ _ _
      have k79 : ρ (.tmp 79) = .bool true := hp 51 (by decide)
      have k85 : ρ (.tmp 85) = .bool true := hp 57 (by decide)
      refine StepOk.of_run (v := .bool true) (w' := X) ?_ ⟨rfl, Below.refl _ _⟩
      simp [go_sem, execOp, hc, hf, k79, k85]
    · refine step_intro rfl rfl fun ρ X hc hf hgl hX hp ho => ?_
      change StepOk _ { dst := _, op := Op.assign (Operand.tmp 86), type := _, pos := _, after := _, guard := _ } _ _ _
      have k86 : ρ (.tmp 86) = .bool true := hp 58 (by decide)
      refine StepOk.of_run (v := .bool true) (w' := X) ?_ ⟨rfl, Below.refl _ _⟩
      simp [go_sem, execOp, hc, hf, k86]
  · intro a W hb
    have k0 : a.tmps.getD 0 undef = .bool true := hb.done' 59 0 rfl rfl
    have hd := hb.defers
    have He := Lib.hid hb.ext
    clear hb
    go_wp2_with fail
    exact bodyPost_ret (results_tmp rfl _ _ _) hd ⟨by rw [k0], Grows.trans' H3.out He.out⟩
end Go.Proofs.Ytbdfgbobipognaa
