/-
  The walks of the laws CrcSums, CrcMore, CrcParts.
-/
import Derived.Test.YtfndkkcfanacbaaCrcL
namespace Go.Proofs.Ytfndkkcfanacbaa
open Go.RowKit
set_option linter.unusedVariables false
set_option linter.unusedSimpArgs false


set_option maxRecDepth 100000 in
theorem walkMore (c : Nat) (hc : c < 4294967296) (v : Value) (l : List UInt8) (w : World) (h : Byt w v l) :
    Calls Try.prog 5 #[.int .u32 c, v] w fun e w' => e = .returned (.bool true) ∧ Grows w w' := by
  have H := Lib.hid h
  have Hc := Lib.hid hc
  obtain ⟨a, cap, rfl⟩ := h.slice
  clear h hc
  by_cases hl : 3000 < l.length
  · have hl' : (3000 : Int) < (l.length : Int) := by omega
    clear hl
    go_enter Try.func5, Try.ntmps5
    go_wp2_with (go_at_call 8; refine (live_any _).mono ?_; rintro e w4 ⟨rfl, hg4⟩)
    go_ret
    exact ⟨rfl, hg4⟩
  · have hl' : ¬ (3000 : Int) < (l.length : Int) := by omega
    clear hl
    go_enter Try.func5, Try.ntmps5
    go_wp2_with fail
    refine (vMoreC c Hc.out _ l _ H.out).mono ?_
    rintro e w1 ⟨rfl, hg1⟩
    have HG1 := Lib.hid hg1
    clear hg1
    go_wp2_with fail
    refine (refMore c Hc.out _ l _ (H.out.grows HG1.out)).mono ?_
    rintro e w2 ⟨rfl, rfl⟩
    go_wp2_with (go_at_call 8; refine (live_any _).mono ?_; rintro e w4 ⟨rfl, hg4⟩)
    go_ret
    exact ⟨rfl, Grows.trans' HG1.out hg4⟩

set_option maxRecDepth 100000 in
set_option maxHeartbeats 1000000 in
theorem walkSums (v u : Value) (l m : List UInt8) (w : World) (h : Byt w v l) (h' : Byt w u m) :
    Calls Try.prog 3 #[v, u] w fun e w' => e = .returned (.bool true) ∧ Grows w w' := by
  obtain ⟨i0, hi, hz0, hz1, hz2⟩ := info_parts info5
  have hmx : Try.prog.follows .mixedOrders = true := by kernel_rfl
  have H := Lib.hid h
  obtain ⟨a, cap, rfl⟩ := h.slice
  have H' := Lib.hid h'
  obtain ⟨a', cap', rfl⟩ := h'.slice
  clear h h'
  by_cases hl : 3000 < l.length
  · have hl' : (3000 : Int) < (l.length : Int) := by omega
    clear hl
    go_enter Try.func3, Try.ntmps3
    go_wp2_with (go_at_call 8; refine (live_any _).mono ?_; rintro e w4 ⟨rfl, hg4⟩)
    go_ret
    exact ⟨rfl, hg4⟩
  · have hl' : ¬ (3000 : Int) < (l.length : Int) := by omega
    by_cases hm : 3000 < m.length
    · have hm' : (3000 : Int) < (m.length : Int) := by omega
      clear hl hm
      go_enter Try.func3, Try.ntmps3
      go_wp2_with (go_at_call 8; refine (live_any _).mono ?_; rintro e w4 ⟨rfl, hg4⟩)
      go_ret
      exact ⟨rfl, hg4⟩
    · have hm' : ¬ (3000 : Int) < (m.length : Int) := by omega
      go_enter Try.func3, Try.ntmps3
      go_wp2_with (at_builtin; refine wpList_app rfl _ _ 22 5 i0 rfl Try.underlying22 hi hz0 hz1 hz2 w.heap.size _ _ [] m rfl (Own.empty _ _ _ (Nat.le_refl _)) rfl (H'.out.grows (Grows.alloc' _ _)) (by simp; omega) (by simp) ?_; intro v1 w1 hown' hgrow)
      have hb1 : Byt w1 v1 m := by simpa using hown'.byt
      have H1 := Lib.hid (grows_app ((Below.refl _ _).alloc (Nat.le_refl _) _) (Own.empty 5 _ _ (Nat.le_refl _)) (by simp) hgrow)
      clear hown' hgrow
      refine (vCheckC _ m _ hb1 (by omega)).mono ?_
      rintro e w2 ⟨v3, rfl, ho3, hg2⟩
      have H2 := Lib.hid (Grows.trans' H1.out hg2)
      have Hb3 := Lib.hid ho3
      clear hb1 hg2 ho3
      go_wp2_with fail
      refine (refCheckC _ m _ (H'.out.grows H2.out) (by omega)).mono ?_
      rintro e w3 ⟨v4, rfl, ho4, hg3⟩
      have H4 := Lib.hid (Grows.trans' H2.out hg3)
      have hb3 := Hb3.out.grows hg3
      have hb4 := ho4
      clear hg3 ho4
      go_wp2_with fail
      refine specs_region
        #[[], [0], [0, 1], [], [0, 1, 2, 3], [0, 1, 2, 3, 4], [0, 1, 2, 3, 4, 5], [0, 1, 2, 3, 4, 5, 6], [0, 1, 2, 3, 4, 5, 6, 7], [0, 1, 2, 3, 4, 5, 6, 7, 8], [0, 1, 2, 3, 4, 5, 6], [0, 1, 2, 3, 4, 5, 6, 7, 8, 10], [0, 1, 2, 3, 4, 5, 6, 7, 8, 10, 11], [0, 1, 2, 3, 4, 5, 6, 7, 8, 9, 10, 11, 12], [0, 1, 2, 3, 4, 5, 6, 7, 8, 9, 10, 11, 12, 13], [0, 1, 2, 3, 4, 5, 6, 7, 8, 9, 10, 11, 12, 13, 14], [0, 1, 2, 3, 4, 5, 6, 7, 8, 9, 10, 11, 12, 13, 14, 15], [0, 1, 2, 3, 4, 5, 6, 7, 8, 9, 10, 11, 12, 13, 14, 15, 16], [0, 1, 2, 3, 4, 5, 6, 7, 8, 9, 10, 11, 12, 13, 14, 15], [0, 1, 2, 3, 4, 5, 6, 7, 8, 9, 10, 11, 12, 13, 14, 15, 18], [0, 1, 2, 3, 4, 5, 6, 7, 8, 9, 10, 11, 12, 13, 14, 15, 16, 17, 18, 19], [0, 1, 2, 3, 4, 5, 6, 7, 8, 9, 10, 11, 12, 13, 14, 15, 16, 17, 18, 19, 20], [0, 1, 2, 3, 4, 5, 6, 7, 8, 9, 10, 11, 12, 13, 14, 15, 16, 17, 18, 19, 20, 21], [0, 1, 2, 3, 4, 5, 6, 7, 8, 9, 10, 11, 12, 13, 14, 15, 16, 17, 18, 19, 20, 21, 22], [0, 1, 2, 3, 4, 5, 6, 7, 8, 9, 10, 11, 12, 13, 14, 15, 16, 17, 18, 19, 20, 21, 22], [0, 1, 2, 3, 4, 5, 6, 7, 8, 9, 10, 11, 12, 13, 14, 15, 16, 17, 18, 19, 20, 21, 22, 23, 24], [0, 1, 2, 3, 4, 5, 6, 7, 8, 9, 10, 11, 12, 13, 14, 15, 16, 17, 18, 19, 20, 21, 22, 23, 24, 25], [0, 1, 2, 3, 4, 5, 6, 7, 8, 9, 10, 11, 12, 13, 14, 15, 16, 17, 18, 19, 20, 21, 22, 23, 24, 25, 26], [0, 1, 2, 3, 4, 5, 6, 7, 8, 9, 10, 11, 12, 13, 14, 15, 16, 17, 18, 19, 20, 21, 22, 23, 24, 25, 26, 27], [0, 1, 2, 3, 4, 5, 6, 7, 8, 9, 10, 11, 12, 13, 14, 15, 16, 17, 18, 19, 20, 21, 22, 23, 24, 25, 26, 27, 28], [0, 1, 2, 3, 4, 5, 6, 7, 8, 9, 10, 11, 12, 13, 14, 15, 16, 17, 18, 19, 20, 21, 22, 23, 24, 25, 26, 27, 28, 29]]
        #[[0], [], [], [0], [], [], [], [0], [], [], [0], [], [], [], [], [], [5], [], [7], [], [], [], [], [6], [8], [], [], [], [], [], []]
        #[true, true, true, true, true, true, true, true, true, true, true, true, true, true, true, true, true, true, true, true, true, true, true, true, true, true, true, true, true, true, true]
        #[.byt (l), .bytl (([l] : List (List UInt8))), .val (.int .u32 (sumC l : Nat)), .byt (l), .val (.int .u32 (sumC l : Nat)), .val (.bool true), .val (.bool true), .byt (l), .byt ((putC l)), .val (.string ⟨((putC l) : List UInt8).toArray⟩), .byt (l), .byt ((putC l)), .val (.string ⟨((putC l) : List UInt8).toArray⟩), .val (.bool true), .val (.bool true), .val (.bool true), .byt ((checkC m).1), .val (.string ⟨((checkC m).1 : List UInt8).toArray⟩), .byt ((checkC m).1), .val (.string ⟨((checkC m).1 : List UInt8).toArray⟩), .val (.bool true), .val (.bool true), .val (.bool true), .val (.bool (checkC m).2), .val (.bool (checkC m).2), .val (.bool true), .val (.bool true), .val (.bool true), .val (.bool true), .val (.bool true), .val (.bool true)]
        hmx ?_ ?_ ?_ ?_
      · rfl
      · rfl
      · refine ⟨?_, ?_, ?_, ?_, ?_, ?_, ?_, ?_, ?_, ?_, ?_, ?_, ?_, ?_, ?_, ?_, ?_, ?_, ?_, ?_, ?_, ?_, ?_, ?_, ?_, ?_, ?_, ?_, ?_, ?_, ?_, trivial⟩
        · refine step_intro rfl rfl fun ρ X hc hf hgl hX hp ho => ?_
          change StepOk _ { dst := _, op := Op.move (Operand.tmp 0), type := _, pos := _, after := _, guard := _ } _ _ _
          have e0 : ρ (.tmp 0) = .slice a l.length cap := ho 0 (by decide)
          have k0 : Byt X (ρ (.tmp 0)) l := by rw [e0]; exact Byt.grows (H.out.grows H4.out) hX
          refine StepOk.of_run (v := ρ (.tmp 0)) (w' := X) ?_ ⟨k0, Below.refl _ _⟩
          simp [go_sem, execOp]
        · refine step_intro rfl rfl fun ρ X hc hf hgl hX hp ho => ?_
          change StepOk _ { dst := _, op := Op.buildSlice 31 1 #[(0, Operand.tmp 30)], type := _, pos := _, after := _, guard := _ } _ _ _
          have k30 : Byt X (ρ (.tmp 30)) l := hp 0 (by decide)
          obtain ⟨aa30, cc30, ee30⟩ := k30.slice
          refine StepOk.of_run (v := .slice (some ⟨X.heap.size, 0, none⟩) 1 1) (w' := X.alloc (.cells ([ρ (.tmp 30)] : List Value).toArray 22)) ?_ ⟨BytL.lit X 22 [ρ (.tmp 30)] [l] rfl (by simp [maxLen]) (fun i hi => match i, hi with | 0, _ => k30 | _ + 1, h => absurd h (by simp)), Grows.alloc' _ _⟩
          simp [go_sem, execOp, hc, ee30]
        · refine step_intro rfl rfl fun ρ X hc hf hgl hX hp ho => ?_
          change StepOk _ { dst := _, op := Op.call { callee := Callee.value (Operand.func 11), args := #[Operand.tmp 31], argTypes := #[31] }, type := _, pos := _, after := _, guard := _ } _ _ _
          have k31 : BytL X (ρ (.tmp 31)) ([l] : List (List UInt8)) := hp 1 (by decide)
          refine StepOk.of_call (f := 11) (args := #[ρ (.tmp 31)]) (w' := X) ?_ (vSum1 _ l X k31) ?_
          · simp [go_sem, execOp, hc, hf]
          · rintro e w'' ⟨rfl, hg'⟩; exact ⟨_, rfl, rfl, hg'⟩
        · refine step_intro rfl rfl fun ρ X hc hf hgl hX hp ho => ?_
          change StepOk _ { dst := _, op := Op.move (Operand.tmp 0), type := _, pos := _, after := _, guard := _ } _ _ _
          have e0 : ρ (.tmp 0) = .slice a l.length cap := ho 0 (by decide)
          have k0 : Byt X (ρ (.tmp 0)) l := by rw [e0]; exact Byt.grows (H.out.grows H4.out) hX
          refine StepOk.of_run (v := ρ (.tmp 0)) (w' := X) ?_ ⟨k0, Below.refl _ _⟩
          simp [go_sem, execOp]
        · refine step_intro rfl rfl fun ρ X hc hf hgl hX hp ho => ?_
          change StepOk _ { dst := _, op := Op.call { callee := Callee.value (Operand.func 12), args := #[Operand.tmp 33], argTypes := #[22] }, type := _, pos := _, after := _, guard := _ } _ _ _
          have k33 : Byt X (ρ (.tmp 33)) l := hp 3 (by decide)
          refine StepOk.of_call (f := 12) (args := #[ρ (.tmp 33)]) (w' := X) ?_ (refSum _ l X k33) ?_
          · simp [go_sem, execOp, hc, hf]
          · rintro e w'' ⟨rfl, rfl⟩; exact ⟨_, rfl, rfl, Below.refl _ _⟩
        · refine step_intro rfl rfl fun ρ X hc hf hgl hX hp ho => ?_
          change StepOk _ { dst := _, op := Op.binOp BinOp.eql 26 (Operand.tmp 32) (Operand.tmp 34) 26, type := _, pos := _, after := _, guard := _ } _ _ _
          have k32 : ρ (.tmp 32) = .int .u32 (sumC l : Nat) := hp 2 (by decide)
          have k34 : ρ (.tmp 34) = .int .u32 (sumC l : Nat) := hp 4 (by decide)
          refine StepOk.of_run (v := .bool true) (w' := X) ?_ ⟨rfl, Below.refl _ _⟩
          simp [go_sem, execOp, hc, hf, k32, k34]
        · refine step_intro rfl rfl fun ρ X hc hf hgl hX hp ho => ?_
          change StepOk _ { dst := _, op := Op.move (Operand.tmp 35), type := _, pos := _, after := _, guard := _ } _ _ _
          have k35 : ρ (.tmp 35) = .bool true := hp 5 (by decide)
          refine StepOk.of_run (v := .bool true) (w' := X) ?_ ⟨rfl, Below.refl _ _⟩
          simp [go_sem, execOp, hc, hf, k35]
        · refine step_intro rfl rfl fun ρ X hc hf hgl hX hp ho => ?_
          change StepOk _ { dst := _, op := Op.move (Operand.tmp 0), type := _, pos := _, after := _, guard := _ } _ _ _
          have e0 : ρ (.tmp 0) = .slice a l.length cap := ho 0 (by decide)
          have k0 : Byt X (ρ (.tmp 0)) l := by rw [e0]; exact Byt.grows (H.out.grows H4.out) hX
          refine StepOk.of_run (v := ρ (.tmp 0)) (w' := X) ?_ ⟨k0, Below.refl _ _⟩
          simp [go_sem, execOp]
        · refine step_intro rfl rfl fun ρ X hc hf hgl hX hp ho => ?_
          change StepOk _ { dst := _, op := Op.call { callee := Callee.value (Operand.func 13), args := #[Operand.tmp 37], argTypes := #[22] }, type := _, pos := _, after := _, guard := _ } _ _ _
          have k37 : Byt X (ρ (.tmp 37)) l := hp 7 (by decide)
          refine StepOk.of_call (f := 13) (args := #[ρ (.tmp 37)]) (w' := X) ?_ (vPutC _ l X k37 (by omega)) ?_
          · simp [go_sem, execOp, hc, hf]
          · rintro e w'' ⟨v, rfl, ho', hg'⟩; exact ⟨v, rfl, (show Byt w'' v (putC l) from ho'.byt), hg'⟩
        · refine step_intro rfl rfl fun ρ X hc hf hgl hX hp ho => ?_
          change StepOk _ { dst := _, op := Op.convert 22 9 (Operand.tmp 38), type := _, pos := _, after := _, guard := _ } _ _ _
          have k38 : Byt X (ρ (.tmp 38)) (putC l) := hp 8 (by decide)
          refine StepOk.of_run (v := .string ⟨((putC l) : List UInt8).toArray⟩) (w' := X) ?_ ⟨rfl, Below.refl _ _⟩
          have hr := run_string (P := Try.prog) (T := 22) (e := 5) (S := 9) rfl rfl rfl k38
          simp only [execOp, Sem.run_bind, hr, Result.andThen_ok, Sem.run_pure]
        · refine step_intro rfl rfl fun ρ X hc hf hgl hX hp ho => ?_
          change StepOk _ { dst := _, op := Op.move (Operand.tmp 0), type := _, pos := _, after := _, guard := _ } _ _ _
          have e0 : ρ (.tmp 0) = .slice a l.length cap := ho 0 (by decide)
          have k0 : Byt X (ρ (.tmp 0)) l := by rw [e0]; exact Byt.grows (H.out.grows H4.out) hX
          refine StepOk.of_run (v := ρ (.tmp 0)) (w' := X) ?_ ⟨k0, Below.refl _ _⟩
          simp [go_sem, execOp]
        · refine step_intro rfl rfl fun ρ X hc hf hgl hX hp ho => ?_
          change StepOk _ { dst := _, op := Op.call { callee := Callee.value (Operand.func 14), args := #[Operand.tmp 40], argTypes := #[22] }, type := _, pos := _, after := _, guard := _ } _ _ _
          have k40 : Byt X (ρ (.tmp 40)) l := hp 10 (by decide)
          refine StepOk.of_call (f := 14) (args := #[ρ (.tmp 40)]) (w' := X) ?_ (refPutC _ l X k40 (by omega)) ?_
          · simp [go_sem, execOp, hc, hf]
          · rintro e w'' ⟨v, rfl, ho', hg'⟩; exact ⟨v, rfl, (show Byt w'' v (putC l) from ho'.byt), hg'⟩
        · refine step_intro rfl rfl fun ρ X hc hf hgl hX hp ho => ?_
          change StepOk _ { dst := _, op := Op.convert 22 9 (Operand.tmp 41), type := _, pos := _, after := _, guard := _ } _ _ _
          have k41 : Byt X (ρ (.tmp 41)) (putC l) := hp 11 (by decide)
          refine StepOk.of_run (v := .string ⟨((putC l) : List UInt8).toArray⟩) (w' := X) ?_ ⟨rfl, Below.refl _ _⟩
          have hr := run_string (P := Try.prog) (T := 22) (e := 5) (S := 9) rfl rfl rfl k41
          simp only [execOp, Sem.run_bind, hr, Result.andThen_ok, Sem.run_pure]
        · refine step_intro rfl rfl fun ρ X hc hf hgl hX hp ho => ?_
          change StepOk _ { dst := _, op := Op.binOp BinOp.eql 9 (Operand.tmp 39) (Operand.tmp 42) 9, type := _, pos := _, after := _, guard := _ } _ _ _
          have k39 : ρ (.tmp 39) = .string ⟨((putC l) : List UInt8).toArray⟩ := hp 9 (by decide)
          have k42 : ρ (.tmp 42) = .string ⟨((putC l) : List UInt8).toArray⟩ := hp 12 (by decide)
          refine StepOk.of_run (v := .bool true) (w' := X) ?_ ⟨rfl, Below.refl _ _⟩
          simp [go_sem, execOp, hc, hf, k39, k42]
        · refine step_intro rfl rfl fun ρ X hc hf hgl hX hp ho => ?_
          change StepOk _ { dst := _, op := Op.pick (Operand.tmp 36) (Operand.tmp 43) (Operand.const (Value.bool false)), type := _, pos := _, after := _, guard := _ } _ _ _
          have k36 : ρ (.tmp 36) = .bool true := hp 6 (by decide)
          have k43 : ρ (.tmp 43) = .bool true := hp 13 (by decide)
          refine StepOk.of_run (v := .bool true) (w' := X) ?_ ⟨rfl, Below.refl _ _⟩
          simp [go_sem, execOp, hc, hf, k36, k43]
        · refine step_intro rfl rfl fun ρ X hc hf hgl hX hp ho => ?_
          change StepOk _ { dst := _, op := Op.move (Operand.tmp 44), type := _, pos := _, after := _, guard := _ } _ _ _
          have k44 : ρ (.tmp 44) = .bool true := hp 14 (by decide)
          refine StepOk.of_run (v := .bool true) (w' := X) ?_ ⟨rfl, Below.refl _ _⟩
          simp [go_sem, execOp, hc, hf, k44]
        · refine step_intro rfl rfl fun ρ X hc hf hgl hX hp ho => ?_
          change StepOk _ { dst := _, op := Op.move (Operand.tmp 5), type := _, pos := _, after := _, guard := _ } _ _ _
          have e5 : ρ (.tmp 5) = v3 := ho 5 (by decide)
          have k5 : Byt X (ρ (.tmp 5)) (checkC m).1 := by rw [e5]; exact Byt.grows (hb3) hX
          refine StepOk.of_run (v := ρ (.tmp 5)) (w' := X) ?_ ⟨k5, Below.refl _ _⟩
          simp [go_sem, execOp]
        · refine step_intro rfl rfl fun ρ X hc hf hgl hX hp ho => ?_
          change StepOk _ { dst := _, op := Op.convert 22 9 (Operand.tmp 46), type := _, pos := _, after := _, guard := _ } _ _ _
          have k46 : Byt X (ρ (.tmp 46)) (checkC m).1 := hp 16 (by decide)
          refine StepOk.of_run (v := .string ⟨((checkC m).1 : List UInt8).toArray⟩) (w' := X) ?_ ⟨rfl, Below.refl _ _⟩
          have hr := run_string (P := Try.prog) (T := 22) (e := 5) (S := 9) rfl rfl rfl k46
          simp only [execOp, Sem.run_bind, hr, Result.andThen_ok, Sem.run_pure]
        · refine step_intro rfl rfl fun ρ X hc hf hgl hX hp ho => ?_
          change StepOk _ { dst := _, op := Op.move (Operand.tmp 7), type := _, pos := _, after := _, guard := _ } _ _ _
          have e7 : ρ (.tmp 7) = v4 := ho 7 (by decide)
          have k7 : Byt X (ρ (.tmp 7)) (checkC m).1 := by rw [e7]; exact Byt.grows (hb4) hX
          refine StepOk.of_run (v := ρ (.tmp 7)) (w' := X) ?_ ⟨k7, Below.refl _ _⟩
          simp [go_sem, execOp]
        · refine step_intro rfl rfl fun ρ X hc hf hgl hX hp ho => ?_
          change StepOk _ { dst := _, op := Op.convert 22 9 (Operand.tmp 48), type := _, pos := _, after := _, guard := _ } _ _ _
          have k48 : Byt X (ρ (.tmp 48)) (checkC m).1 := hp 18 (by decide)
          refine StepOk.of_run (v := .string ⟨((checkC m).1 : List UInt8).toArray⟩) (w' := X) ?_ ⟨rfl, Below.refl _ _⟩
          have hr := run_string (P := Try.prog) (T := 22) (e := 5) (S := 9) rfl rfl rfl k48
          simp only [execOp, Sem.run_bind, hr, Result.andThen_ok, Sem.run_pure]
        · refine step_intro rfl rfl fun ρ X hc hf hgl hX hp ho => ?_
          change StepOk _ { dst := _, op := Op.binOp BinOp.eql 9 (Operand.tmp 47) (Operand.tmp 49) 9, type := _, pos := _, after := _, guard := _ } _ _ _
          have k47 : ρ (.tmp 47) = .string ⟨((checkC m).1 : List UInt8).toArray⟩ := hp 17 (by decide)
          have k49 : ρ (.tmp 49) = .string ⟨((checkC m).1 : List UInt8).toArray⟩ := hp 19 (by decide)
          refine StepOk.of_run (v := .bool true) (w' := X) ?_ ⟨rfl, Below.refl _ _⟩
          simp [go_sem, execOp, hc, hf, k47, k49]
        · refine step_intro rfl rfl fun ρ X hc hf hgl hX hp ho => ?_
          change StepOk _ { dst := _, op := Op.pick (Operand.tmp 45) (Operand.tmp 50) (Operand.const (Value.bool false)), type := _, pos := _, after := _, guard := _ } _ _ _
          have k45 : ρ (.tmp 45) = .bool true := hp 15 (by decide)
          have k50 : ρ (.tmp 50) = .bool true := hp 20 (by decide)
          refine StepOk.of_run (v := .bool true) (w' := X) ?_ ⟨rfl, Below.refl _ _⟩
          simp [go_sem, execOp, hc, hf, k45, k50]
        · refine step_intro rfl rfl fun ρ X hc hf hgl hX hp ho => ?_
          change StepOk _ { dst := _, op := Op.move (Operand.tmp 51), type := _, pos := _, after := _, guard := _ } _ _ _
          have k51 : ρ (.tmp 51) = .bool true := hp 21 (by decide)
          refine StepOk.of_run (v := .bool true) (w' := X) ?_ ⟨rfl, Below.refl _ _⟩
          simp [go_sem, execOp, hc, hf, k51]
        · refine step_intro rfl rfl fun ρ X hc hf hgl hX hp ho => ?_
          change StepOk _ { dst := _, op := Op.move (Operand.tmp 6), type := _, pos := _, after := _, guard := _ } _ _ _
          have e6 : ρ (.tmp 6) = .bool (checkC m).2 := ho 6 (by decide)
          have k6 := e6
          refine StepOk.of_run (v := .bool (checkC m).2) (w' := X) ?_ ⟨rfl, Below.refl _ _⟩
          simp [go_sem, execOp, hc, hf, k6]
        · refine step_intro rfl rfl fun ρ X hc hf hgl hX hp ho => ?_
          change StepOk _ { dst := _, op := Op.move (Operand.tmp 8), type := _, pos := _, after := _, guard := _ } _ _ _
          have e8 : ρ (.tmp 8) = .bool (checkC m).2 := ho 8 (by decide)
          have k8 := e8
          refine StepOk.of_run (v := .bool (checkC m).2) (w' := X) ?_ ⟨rfl, Below.refl _ _⟩
          simp [go_sem, execOp, hc, hf, k8]
        · refine step_intro rfl rfl fun ρ X hc hf hgl hX hp ho => ?_
          change StepOk _ { dst := _, op := Op.binOp BinOp.eql 4 (Operand.tmp 53) (Operand.tmp 54) 4, type := _, pos := _, after := _, guard := _ } _ _ _
          have k53 : ρ (.tmp 53) = .bool (checkC m).2 := hp 23 (by decide)
          have k54 : ρ (.tmp 54) = .bool (checkC m).2 := hp 24 (by decide)
          refine StepOk.of_run (v := .bool true) (w' := X) ?_ ⟨rfl, Below.refl _ _⟩
          simp [go_sem, execOp, hc, hf, k53, k54]
        · refine step_intro rfl rfl fun ρ X hc hf hgl hX hp ho => ?_
          change StepOk _ { dst := _, op := Op.pick (Operand.tmp 52) (Operand.tmp 55) (Operand.const (Value.bool false)), type := _, pos := _, after := _, guard := _ } _ _ _
          have k52 : ρ (.tmp 52) = .bool true := hp 22 (by decide)
          have k55 : ρ (.tmp 55) = .bool true := hp 25 (by decide)
          refine StepOk.of_run (v := .bool true) (w' := X) ?_ ⟨rfl, Below.refl _ _⟩
          simp [go_sem, execOp, hc, hf, k52, k55]
        · refine step_intro rfl rfl fun ρ X hc hf hgl hX hp ho => ?_
          change StepOk _ { dst := _, op := Op.move (Operand.tmp 56), type := _, pos := _, after := _, guard := _ } _ _ _
          have k56 : ρ (.tmp 56) = .bool true := hp 26 (by decide)
          refine StepOk.of_run (v := .bool true) (w' := X) ?_ ⟨rfl, Below.refl _ _⟩
          simp [go_sem, execOp, hc, hf, k56]
        · refine step_intro rfl rfl fun ρ X hc hf hgl hX hp ho => ?_
          change StepOk _ { dst := _, op := Op.call { callee := Callee.value (Operand.func 8), args := #[], argTypes := #[] }, type := _, pos := _, after := _, guard := _ } _ _ _
          refine StepOk.of_call (f := 8) (args := #[]) (w' := X) ?_ (live_any X) ?_
          · simp [go_sem, execOp, hc, hf]
          · rintro e w'' ⟨rfl, hg'⟩; exact ⟨_, rfl, rfl, hg'⟩
        · refine step_intro rfl rfl fun ρ X hc hf hgl hX hp ho => ?_
          change StepOk _ { dst := _, op := Op.pick (Operand.tmp 57) (Operand.tmp 58) (Operand.const (Value.bool false)), type := _, pos := _, after := _, guard := _ } _ _ _
          have k57 : ρ (.tmp 57) = .bool true := hp 27 (by decide)
          have k58 : ρ (.tmp 58) = .bool true := hp 28 (by decide)
          refine StepOk.of_run (v := .bool true) (w' := X) ?_ ⟨rfl, Below.refl _ _⟩
          simp [go_sem, execOp, hc, hf, k57, k58]
        · refine step_intro rfl rfl fun ρ X hc hf hgl hX hp ho => ?_
          change StepOk _ { dst := _, op := Op.assign (Operand.tmp 59), type := _, pos := _, after := _, guard := _ } _ _ _
          have k59 : ρ (.tmp 59) = .bool true := hp 29 (by decide)
          refine StepOk.of_run (v := .bool true) (w' := X) ?_ ⟨rfl, Below.refl _ _⟩
          simp [go_sem, execOp, hc, hf, k59]
      · intro a W hb
        have k0 : a.tmps.getD 4 undef = .bool true := hb.done' 30 4 rfl rfl
        have hd := hb.defers
        have He := Lib.hid hb.ext
        clear hb hb3 hb4
        go_wp2_with fail
        exact retTrue rfl hd k0 (Grows.trans' H4.out He.out)

theorem takeL (l : List (List UInt8)) (k : Nat) (hk : k < l.length) : l.take (k + 1) = l.take k ++ [l.getD k []] := by
  rw [List.take_succ_eq_append_getElem hk]; simp [List.getD, hk]

set_option maxRecDepth 100000 in
set_option maxHeartbeats 2000000 in
theorem walkParts_some (b off cap : Nat) (ls : List (List UInt8)) (v : Value) (q : List UInt8) (w : World) (hL : BytL w (.slice (some ⟨b, off, none⟩) ls.length cap) ls)
    (hc : ∀ i, i < ls.length → ∃ u, w.cell? ⟨b, off + i, none⟩ = some u ∧ Byt w u (ls.getD i [])) (h : Byt w v q) (hl : ls.length ≤ 50) (hq : q.length ≤ 3000) :
    Calls Try.prog 4 #[.slice (some ⟨b, off, none⟩) ls.length cap, v] w fun e w' => e = .returned (.bool true) ∧ Grows w w' := by
  obtain ⟨i0, hi, hz0, hz1, hz2⟩ := info_parts info5
  have H := Lib.hid h
  have HL := Lib.hid hL
  obtain ⟨a', cap', rfl⟩ := h.slice
  have hl' : ¬ (50 : Int) < (ls.length : Int) := by omega
  have hq' : ¬ (3000 : Int) < (q.length : Int) := by omega
  have Hq := Lib.hid hq
  clear h hL hl hq
  go_enter Try.func4, Try.ntmps4
  go_wp2_with fail
  go_loopw [5, 6, 7] (fun t5 t6 t7 wr => ∃ (k c : Nat) (all : List UInt8) (a5 : Option Addr) (c5 : Nat), k ≤ ls.length ∧ t7 = .int .i64 k ∧ t6 = .int .u32 c ∧ t5 = .slice a5 all.length c5 ∧ Hid (c = sumC all) ∧ Hid (all = (ls.take k).flatten) ∧ all.length ≤ 6000 ∧ Own 5 w.heap.size wr (.slice a5 all.length c5) all ∧ Grows w wr)
    (fun _ _ t7 _ => ls.length - (intOf t7).toNat)
  case atStart => exact ⟨0, 0, [], none, 0, by omega, rfl, rfl, rfl, (by show 0 = sumC []; decide +kernel), rfl, by simp, Own.nil _ _ _, Below.refl _ _⟩
  case round =>
    obtain ⟨k, c, all, a5, c5, hk, rfl, rfl, rfl, Hc, Hall, hal, hown, hB⟩ := hrel
    by_cases hlt : k < ls.length
    · obtain ⟨u, hck, hbk⟩ := hc k hlt
      obtain ⟨n, Hn⟩ : ∃ n, Hid (ls.getD k [] = n) := ⟨_, rfl⟩
      rw [Hn.out] at hbk
      have hckw := hck
      have hck := Grows.cell' hB hckw
      obtain ⟨au, cu, rfl⟩ := hbk.slice
      have Hbkw := Lib.hid hbk
      have hbk := hbk.grows hB
      clear hc
      by_cases h1 : 3000 < n.length
      · have h1' : (3000 : Int) < (n.length : Int) := by omega
        clear hown hbk h1
        go_wp2_with (go_at_call 8; refine (live_any _).mono ?_; rintro e w4 ⟨rfl, hg4⟩)
        go_ret
        exact ⟨rfl, Grows.trans' hB hg4⟩
      · have h1' : ¬ (3000 : Int) < (n.length : Int) := by omega
        by_cases h2 : 3000 < all.length
        · have h2' : (3000 : Int) < (all.length : Int) := by omega
          clear hown hbk h1 h2
          go_wp2_with (go_at_call 8; refine (live_any _).mono ?_; rintro e w4 ⟨rfl, hg4⟩)
          go_ret
          exact ⟨rfl, Grows.trans' hB hg4⟩
        · have h2' : ¬ (3000 : Int) < (all.length : Int) := by omega
          have hsum : all.length + n.length ≤ 6000 := by omega
          have Hsum := Lib.hid hsum
          have Hown := Lib.hid hown
          have Hbk := Lib.hid hbk
          have HB := Lib.hid hB
          clear hown hbk hB hsum h1 h2
          go_wp2_with (at_builtin; refine wpList_app rfl _ _ 22 5 i0 rfl Try.underlying22 hi hz0 hz1 hz2 w.heap.size _ _ all n rfl Hown.out rfl Hbk.out (by have := Hsum.out; omega) HB.out.size ?_; intro v2 w2 hown2 hgrow2; have HG2 := Lib.hid (grows_app HB.out Hown.out HB.out.size hgrow2); have Hgr := Lib.hid hgrow2; have Hown2 := Lib.hid hown2; clear hgrow2 hown2; have hck2 := Grows.cell' HG2.out hckw; clear hck hckw)
          refine (vMoreC c (by rw [Hc.out]; exact sumC_lt _) _ n _ (Hbkw.out.grows HG2.out)).mono ?_
          rintro e w3 ⟨rfl, hg3⟩
          obtain ⟨a6, c6, hv2⟩ := Hown2.out.byt.slice
          subst hv2
          have Hown3 := Lib.hid (Hown2.out.grows hg3)
          have HG3 := Lib.hid (Grows.trans' HG2.out hg3)
          clear hg3 hck2
          go_wp2_with fail
          go_roundw
          case rel =>
            refine ⟨k + 1, moreC c n, all ++ n, a6, c6, by omega, by simp, rfl, by simp, ?_, ?_, by have := Hsum.out; simp; omega, Hown3.out, HG3.out⟩
            · show _ = _
              rw [Hc.out, sumC_app]
            · show _ = _
              rw [Hall.out, takeL ls k hlt, Hn.out, List.flatten_append]
              simp
          case measure => simp [intOf]; omega
    · have hfull : ls.take k = ls := List.take_of_length_le (by omega)
      have Hall' : Hid (all = ls.flatten) := by have := Hall.out; rw [hfull] at this; exact this
      have Hown := Lib.hid hown
      have HB := Lib.hid hB
      clear hown hB hc hfull
      go_wp2_with fail
      refine (vSumC _ ls _ (HL.out.grows HB.out)).mono ?_
      rw [← Hall'.out]
      rintro e w1 ⟨rfl, hg1⟩
      have HB1 := Lib.hid (Grows.trans' HB.out hg1)
      have Hown1 := Lib.hid (Hown.out.grows hg1)
      clear hg1
      go_wp2_with fail
      refine (refSum _ all _ Hown1.out.byt).mono ?_
      rintro e w2 ⟨rfl, rfl⟩
      go_wp2_with fail
      refine (refSum _ all _ Hown1.out.byt).mono ?_
      rintro e w2 ⟨rfl, rfl⟩
      have hcs : ((c : Int) == (sumC all : Int)) = true := by rw [beq_iff_eq, Hc.out]
      go_wp2_with fail
      refine (vMoreC c (by rw [Hc.out]; exact sumC_lt _) _ q _ (H.out.grows HB1.out)).mono ?_
      rintro e w2 ⟨rfl, hg2⟩
      have HB2 := Lib.hid (Grows.trans' HB1.out hg2)
      have Hown2 := Lib.hid (Hown1.out.grows hg2)
      clear hg2 hcs
      go_wp2_with (at_builtin; refine wpList_app_g rfl _ _ 22 5 i0 rfl Try.underlying22 hi hz0 hz1 hz2 w.heap.size _ _ all q rfl Hown2.out rfl (H.out.grows HB2.out) (by have := Hq.out; omega) HB2.out.size ?_; intro v3 w3 hown3 hgrow3; have HB3 := Lib.hid (grows_app HB2.out Hown2.out HB2.out.size hgrow3); have Hb3 := Lib.hid hown3.byt; clear hgrow3 hown3)
      refine (refSum _ (all ++ q) _ Hb3.out).mono ?_
      rintro e w4 ⟨rfl, rfl⟩
      have hcs : ((moreC c q : Int) == (sumC (all ++ q) : Int)) = true := by rw [beq_iff_eq, Hc.out, sumC_app]
      go_wp2_with (go_at_call 8; refine (live_any _).mono ?_; rintro e w5 ⟨rfl, hg5⟩)
      go_ret
      exact ⟨rfl, Grows.trans' HB3.out hg5⟩

theorem sum_nil : sumC [] = 0 := by decide +kernel
set_option maxRecDepth 100000 in
set_option maxHeartbeats 1000000 in
theorem walkParts_nil (a : Option Addr) (cap : Nat) (v : Value) (q : List UInt8) (w : World) (hL : BytL w (.slice a 0 cap) []) (h : Byt w v q) (hq : q.length ≤ 3000) :
    Calls Try.prog 4 #[.slice a 0 cap, v] w fun e w' => e = .returned (.bool true) ∧ Grows w w' := by
  obtain ⟨i0, hi, hz0, hz1, hz2⟩ := info_parts info5
  have H := Lib.hid h
  have HL := Lib.hid hL
  obtain ⟨a', cap', rfl⟩ := h.slice
  have hq' : ¬ (3000 : Int) < (q.length : Int) := by omega
  have Hq := Lib.hid hq
  clear h hL hq
  go_enter Try.func4, Try.ntmps4
  go_wp2_with fail
  refine wp_loop_rounds 1 ?_
  rw [rounds_succ]
  go_wp2_with fail
  refine (vSumC _ [] _ HL.out).mono ?_
  rw [show sumC (List.flatten []) = 0 from sum_nil]
  rintro e w1 ⟨rfl, hg1⟩
  have HB1 := Lib.hid hg1
  clear hg1
  go_wp2_with fail
  refine (refSum _ [] _ (Byt.nil _)).mono ?_
  rw [sum_nil]
  rintro e w2 ⟨rfl, rfl⟩
  go_wp2_with fail
  refine (refSum _ [] _ (Byt.nil _)).mono ?_
  rw [sum_nil]
  rintro e w2 ⟨rfl, rfl⟩
  go_wp2_with fail
  refine (vMoreC 0 (by omega) _ q _ (H.out.grows HB1.out)).mono ?_
  rintro e w2 ⟨rfl, hg2⟩
  have HB2 := Lib.hid (Grows.trans' HB1.out hg2)
  clear hg2
  go_wp2_with (at_builtin; refine wpList_app_g rfl _ _ 22 5 i0 rfl Try.underlying22 hi hz0 hz1 hz2 w.heap.size _ _ [] q rfl (Own.nil _ _ _) rfl (H.out.grows HB2.out) (by have := Hq.out; simp; omega) HB2.out.size ?_; intro v3 w3 hown3 hgrow3; have HB3 := Lib.hid (grows_app HB2.out (Own.nil 5 _ _) HB2.out.size hgrow3); have Hb3 := Lib.hid hown3.byt; clear hgrow3 hown3)
  refine (refSum _ ([] ++ q) _ Hb3.out).mono ?_
  rintro e w4 ⟨rfl, rfl⟩
  have hcs : ((moreC 0 q : Int) == (sumC ([] ++ q) : Int)) = true := by rw [beq_iff_eq]; rfl
  go_wp2_with (go_at_call 8; refine (live_any _).mono ?_; rintro e w5 ⟨rfl, hg5⟩)
  go_ret
  exact ⟨rfl, Grows.trans' HB3.out hg5⟩

set_option maxRecDepth 100000 in
theorem walkParts (u v : Value) (ls : List (List UInt8)) (q : List UInt8) (w : World) (hL : BytL w u ls) (h : Byt w v q) :
    Calls Try.prog 4 #[u, v] w fun e w' => e = .returned (.bool true) ∧ Grows w w' := by
  obtain ⟨a, cap, rfl, h1, h2, h3, h4⟩ := hL
  by_cases hl : 50 < ls.length
  · have hl' : (50 : Int) < (ls.length : Int) := by omega
    clear hl h h1 h2 h3 h4
    go_enter Try.func4, Try.ntmps4
    go_wp2_with (go_at_call 8; refine (live_any _).mono ?_; rintro e w4 ⟨rfl, hg4⟩)
    go_ret
    exact ⟨rfl, hg4⟩
  · by_cases hq : 3000 < q.length
    · have hl' : ¬ (50 : Int) < (ls.length : Int) := by omega
      have hq' : (3000 : Int) < (q.length : Int) := by omega
      obtain ⟨a', cap', rfl⟩ := h.slice
      clear hl hq h h1 h2 h3 h4
      go_enter Try.func4, Try.ntmps4
      go_wp2_with (go_at_call 8; refine (live_any _).mono ?_; rintro e w4 ⟨rfl, hg4⟩)
      go_ret
      exact ⟨rfl, hg4⟩
    · rcases h4 with rfl | ⟨b, off, rfl, h4⟩
      · exact walkParts_nil a cap v q w ⟨a, cap, rfl, h1, h2, h3, .inl rfl⟩ h (by omega)
      · exact walkParts_some b off cap ls v q w ⟨_, cap, rfl, h1, h2, h3, .inr ⟨b, off, rfl, h4⟩⟩ h4 h (by omega) (by omega)
end Go.Proofs.Ytfndkkcfanacbaa
