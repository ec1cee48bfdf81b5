/-
  The walks of the laws VintPuts, VintGets, VintFixed, VintTexts.
-/
import Derived.Test.YtbdfgbobipognaaVintL
namespace Go.Proofs.Ytbdfgbobipognaa
open Go.RowKit
set_option linter.unusedVariables false
set_option linter.unusedSimpArgs false

theorem retTrue {P : Program} {fn : Func} {t : Tmp} {a : Act} {w0 W : World} (hr : fn.results = #[.tmp t]) (hd : a.defers = []) (h0 : a.tmps.getD t undef = .bool true) (hg : Grows w0 W) :
    bodyPost P fn (fun e w' => e = .returned (.bool true) ∧ Grows w0 w') .ret a W :=
  bodyPost_ret (results_tmp hr _ _ _) hd ⟨by rw [h0], hg⟩

set_option maxRecDepth 100000 in
theorem walkPuts (n : Nat) (hn : n < 18446744073709551616) (w : World) : Calls Try.prog 3 #[.int .u64 n] w fun e w' => e = .returned (.bool true) ∧ Grows w w' := by
  have hmx : Try.prog.follows .mixedOrders = true := by kernel_rfl
  have Hn := Lib.hid hn
  clear hn
  go_enter Try.func3, Try.ntmps3
  go_wp2_with fail
  have hn := Hn.out
  refine specs_region
    #[[], [0], [0, 1], [], [0, 1, 3], [0, 1, 3, 4], [0, 1, 2, 3, 4, 5], [0, 1, 2, 3, 4, 5, 6], [0, 1, 2, 3, 4, 5, 6, 7], [0, 1, 2, 3, 4, 5, 6, 7, 8], [0, 1, 2, 3, 4, 5, 6, 7, 8, 9]]
    #[[0], [], [], [0], [], [], [], [], [], [], []]
    #[true, true, true, true, true, true, true, true, true, true, true]
    #[.val (.int .u64 (n : Int)), .byt ((put n)), .val (.string ⟨((put n) : List UInt8).toArray⟩), .val (.int .u64 (n : Int)), .byt ((put n)), .val (.string ⟨((put n) : List UInt8).toArray⟩), .val (.bool true), .val (.bool true), .val (.bool true), .val (.bool true), .val (.bool true)]
    hmx ?_ ?_ ?_ ?_
  · rfl
  · rfl
  · refine ⟨?_, ?_, ?_, ?_, ?_, ?_, ?_, ?_, ?_, ?_, ?_, trivial⟩
    · refine step_intro rfl rfl fun ρ X hc hf hgl hX hp ho => ?_
      change StepOk _ { dst := _, op := Op.move (Operand.tmp 0), type := _, pos := _, after := _, guard := _ } _ _ _
      have e0 : ρ (.tmp 0) = .int .u64 (n : Int) := ho 0 (by decide)
      have k0 := e0
      refine StepOk.of_run (v := .int .u64 (n : Int)) (w' := X) ?_ ⟨rfl, Below.refl _ _⟩
      simp [go_sem, execOp, hc, hf, k0]
    · refine step_intro rfl rfl fun ρ X hc hf hgl hX hp ho => ?_
      change StepOk _ { dst := _, op := Op.call { callee := Callee.value (Operand.func 10), args := #[Operand.tmp 3], argTypes := #[22] }, type := _, pos := _, after := _, guard := _ } _ _ _
      have k3 : ρ (.tmp 3) = .int .u64 (n : Int) := hp 0 (by decide)
      refine StepOk.of_call (f := 10) (args := #[.int .u64 (n : Int)]) (w' := X) ?_ (vPut n hn X) ?_
      · simp [go_sem, execOp, hc, hf, k3]
      · rintro e w'' ⟨v, rfl, ho', hg'⟩; exact ⟨v, rfl, (show Byt w'' v (put n) from ho'.byt), hg'⟩
    · refine step_intro rfl rfl fun ρ X hc hf hgl hX hp ho => ?_
      change StepOk _ { dst := _, op := Op.convert 23 9 (Operand.tmp 4), type := _, pos := _, after := _, guard := _ } _ _ _
      have k4 : Byt X (ρ (.tmp 4)) (put n) := hp 1 (by decide)
      refine StepOk.of_run (v := .string ⟨((put n) : List UInt8).toArray⟩) (w' := X) ?_ ⟨rfl, Below.refl _ _⟩
      have hr := run_string (P := Try.prog) (T := 23) (e := 5) (S := 9) rfl rfl rfl k4
      simp only [execOp, Sem.run_bind, hr, Result.andThen_ok, Sem.run_pure]
    · refine step_intro rfl rfl fun ρ X hc hf hgl hX hp ho => ?_
      change StepOk _ { dst := _, op := Op.move (Operand.tmp 0), type := _, pos := _, after := _, guard := _ } _ _ _
      have e0 : ρ (.tmp 0) = .int .u64 (n : Int) := ho 0 (by decide)
      have k0 := e0
      refine StepOk.of_run (v := .int .u64 (n : Int)) (w' := X) ?_ ⟨rfl, Below.refl _ _⟩
      simp [go_sem, execOp, hc, hf, k0]
    · refine step_intro rfl rfl fun ρ X hc hf hgl hX hp ho => ?_
      change StepOk _ { dst := _, op := Op.call { callee := Callee.value (Operand.func 11), args := #[Operand.tmp 6], argTypes := #[22] }, type := _, pos := _, after := _, guard := _ } _ _ _
      have k6 : ρ (.tmp 6) = .int .u64 (n : Int) := hp 3 (by decide)
      refine StepOk.of_call (f := 11) (args := #[.int .u64 (n : Int)]) (w' := X) ?_ (refPut n hn X) ?_
      · simp [go_sem, execOp, hc, hf, k6]
      · rintro e w'' ⟨v, rfl, ho', hg'⟩; exact ⟨v, rfl, (show Byt w'' v (put n) from ho'.byt), hg'⟩
    · refine step_intro rfl rfl fun ρ X hc hf hgl hX hp ho => ?_
      change StepOk _ { dst := _, op := Op.convert 23 9 (Operand.tmp 7), type := _, pos := _, after := _, guard := _ } _ _ _
      have k7 : Byt X (ρ (.tmp 7)) (put n) := hp 4 (by decide)
      refine StepOk.of_run (v := .string ⟨((put n) : List UInt8).toArray⟩) (w' := X) ?_ ⟨rfl, Below.refl _ _⟩
      have hr := run_string (P := Try.prog) (T := 23) (e := 5) (S := 9) rfl rfl rfl k7
      simp only [execOp, Sem.run_bind, hr, Result.andThen_ok, Sem.run_pure]
    · refine step_intro rfl rfl fun ρ X hc hf hgl hX hp ho => ?_
      change StepOk _ { dst := _, op := Op.binOp BinOp.eql 9 (Operand.tmp 5) (Operand.tmp 8) 9, type := _, pos := _, after := _, guard := _ } _ _ _
      have k5 : ρ (.tmp 5) = .string ⟨((put n) : List UInt8).toArray⟩ := hp 2 (by decide)
      have k8 : ρ (.tmp 8) = .string ⟨((put n) : List UInt8).toArray⟩ := hp 5 (by decide)
      refine StepOk.of_run (v := .bool true) (w' := X) ?_ ⟨rfl, Below.refl _ _⟩
      simp [go_sem, execOp, hc, hf, k5, k8]
    · refine step_intro rfl rfl fun ρ X hc hf hgl hX hp ho => ?_
      change StepOk _ { dst := _, op := Op.move (Operand.tmp 9), type := _, pos := _, after := _, guard := _ } _ _ _
      have k9 : ρ (.tmp 9) = .bool true := hp 6 (by decide)
      refine StepOk.of_run (v := .bool true) (w' := X) ?_ ⟨rfl, Below.refl _ _⟩
      simp [go_sem, execOp, hc, hf, k9]
    · refine step_intro rfl rfl fun ρ X hc hf hgl hX hp ho => ?_
      change StepOk _ { dst := _, op := Op.call { callee := Callee.value (Operand.func 12), args := #[], argTypes := #[] }, type := _, pos := _, after := _, guard := _ } _ _ _
      refine StepOk.of_call (f := 12) (args := #[]) (w' := X) ?_ (live_any X) ?_
      · simp [go_sem, execOp, hc, hf]
      · rintro e w'' ⟨rfl, hg'⟩; exact ⟨_, rfl, rfl, hg'⟩
    · refine step_intro rfl rfl fun ρ X hc hf hgl hX hp ho => ?_
      change StepOk _ { dst := _, op := Op.pick (Operand.tmp 10) (Operand.tmp 11) (Operand.const (Value.bool false)), type := _, pos := _, after := _, guard := _ } _ _ _
      have k10 : ρ (.tmp 10) = .bool true := hp 7 (by decide)
      have k11 : ρ (.tmp 11) = .bool true := hp 8 (by decide)
      refine StepOk.of_run (v := .bool true) (w' := X) ?_ ⟨rfl, Below.refl _ _⟩
      simp [go_sem, execOp, hc, hf, k10, k11]
    · refine step_intro rfl rfl fun ρ X hc hf hgl hX hp ho => ?_
      change StepOk _ { dst := _, op := Op.assign (Operand.tmp 12), type := _, pos := _, after := _, guard := _ } _ _ _
      have k12 : ρ (.tmp 12) = .bool true := hp 9 (by decide)
      refine StepOk.of_run (v := .bool true) (w' := X) ?_ ⟨rfl, Below.refl _ _⟩
      simp [go_sem, execOp, hc, hf, k12]
  · intro a W hb
    have k0 : a.tmps.getD 2 undef = .bool true := hb.done' 10 2 rfl rfl
    have hd := hb.defers
    have He := Lib.hid hb.ext
    clear hb hn
    go_wp2_with fail
    exact retTrue rfl hd k0 He.out

set_option maxRecDepth 100000 in
set_option maxHeartbeats 1000000 in
theorem walkGets (v : Value) (l : List UInt8) (w : World) (h : Byt w v l) : Calls Try.prog 4 #[v] w fun e w' => e = .returned (.bool true) ∧ Grows w w' := by
  obtain ⟨i0, hi, hz0, hz1, hz2⟩ := info_parts info5
  have H := Lib.hid h
  obtain ⟨a, cap, rfl⟩ := h.slice
  clear h
  by_cases hl : 5000 < l.length
  · have hl' : (5000 : Int) < (l.length : Int) := by omega
    clear hl
    go_enter Try.func4, Try.ntmps4
    go_wp2_with (go_at_call 12; refine (live_any _).mono ?_; rintro e w4 ⟨rfl, hg4⟩)
    go_ret
    exact ⟨rfl, hg4⟩
  · have hl' : ¬ (5000 : Int) < (l.length : Int) := by omega
    go_enter Try.func4, Try.ntmps4
    go_wp2_with (at_builtin; refine wpList_app rfl _ _ 23 5 i0 rfl Try.underlying23 hi hz0 hz1 hz2 w.heap.size _ _ [] l rfl (Own.empty _ _ _ (Nat.le_refl _)) rfl (H.out.grows (Grows.alloc' _ _)) (by simp; omega) (by simp) ?_; intro v1 w1 hown' hgrow)
    have hb1 : Byt w1 v1 l := by simpa using hown'.byt
    have H1 := Lib.hid (grows_app ((Below.refl _ _).alloc (Nat.le_refl _) _) (Own.empty 5 _ _ (Nat.le_refl _)) (by simp) hgrow)
    clear hown' hgrow
    refine (vGet _ l _ hb1).mono ?_
    rintro e w2 ⟨rfl, hg2⟩
    have H2 := Lib.hid (Grows.trans' H1.out hg2)
    clear hb1 hg2
    unfold got
    go_wp2_with fail
    refine (refGet _ l _ (H.out.grows H2.out)).mono ?_
    rintro e w3 ⟨rfl, rfl⟩
    unfold got
    go_wp2_with (first | (go_at_call 15; refine (num_any _ _).mono ?_; rintro e w3 ⟨rfl, rfl⟩) | (go_at_call 12; refine (live_any _).mono ?_; rintro e w4 ⟨rfl, hg4⟩))
    go_ret
    exact ⟨rfl, Grows.trans' H2.out hg4⟩

set_option maxRecDepth 100000 in
theorem walkFixed (n : Nat) (hn : n < 18446744073709551616) (size : Int) (v : Value) (l : List UInt8) (w : World) (h : Byt w v l) :
    Calls Try.prog 5 #[.int .u64 n, .int .i64 size, v] w fun e w' => e = .returned (.bool true) ∧ Grows w w' := by
  have hmx : Try.prog.follows .mixedOrders = true := by kernel_rfl
  have H := Lib.hid h
  obtain ⟨a, cap, rfl⟩ := h.slice
  clear h
  by_cases hl : 5000 < l.length
  · have hl' : (5000 : Int) < (l.length : Int) := by omega
    clear hl hn
    go_enter Try.func5, Try.ntmps5
    go_wp2_with (go_at_call 12; refine (live_any _).mono ?_; rintro e w4 ⟨rfl, hg4⟩)
    go_ret
    exact ⟨rfl, hg4⟩
  · have hl' : ¬ (5000 : Int) < (l.length : Int) := by omega
    have Hn := Lib.hid hn
    clear hn
    go_enter Try.func5, Try.ntmps5
    go_wp2_with fail
    have hn := Hn.out
    refine specs_region
      #[[], [], [0, 1], [0, 1, 2], [], [], [0, 1, 2, 4, 5], [0, 1, 2, 4, 5, 6], [0, 1, 2, 3, 4, 5, 6, 7], [0, 1, 2, 3, 4, 5, 6, 7, 8], [0, 1, 2, 3, 4, 5, 6, 7, 8, 9], [0, 1, 2, 3, 4, 5, 6, 7, 8, 9, 10], [0, 1, 2, 3, 4, 5, 6, 7, 8, 9], [0, 1, 2, 3, 4, 5, 6, 7, 8, 9, 10, 11, 12], [0, 1, 2, 3, 4, 5, 6, 7, 8, 9, 10, 11, 12, 13], [0, 1, 2, 3, 4, 5, 6, 7, 8, 9, 10, 11, 12, 13, 14], [0, 1, 2, 3, 4, 5, 6, 7, 8, 9, 10, 11, 12, 13, 14, 15], [0, 1, 2, 3, 4, 5, 6, 7, 8, 9, 10, 11, 12, 13, 14, 15, 16], [0, 1, 2, 3, 4, 5, 6, 7, 8, 9, 10, 11, 12, 13, 14, 15, 16, 17], [0, 1, 2, 3, 4, 5, 6, 7, 8, 9, 10, 11, 12, 13, 14, 15, 16, 17, 18]]
      #[[0], [1], [], [], [0], [1], [], [], [], [], [2], [], [2], [], [], [], [], [], [], []]
      #[true, true, true, true, true, true, true, true, true, true, true, true, true, true, true, true, true, true, true, true]
      #[.val (.int .u64 (n : Int)), .val (.int .i64 size), .byt ((fixed n size)), .val (.string ⟨((fixed n size) : List UInt8).toArray⟩), .val (.int .u64 (n : Int)), .val (.int .i64 size), .byt ((fixed n size)), .val (.string ⟨((fixed n size) : List UInt8).toArray⟩), .val (.bool true), .val (.bool true), .byt (l), .val (.int .u64 (number l : Int)), .byt (l), .val (.int .u64 (number l : Int)), .val (.bool true), .val (.bool true), .val (.bool true), .val (.bool true), .val (.bool true), .val (.bool true)]
      hmx ?_ ?_ ?_ ?_
    · rfl
    · rfl
    · refine ⟨?_, ?_, ?_, ?_, ?_, ?_, ?_, ?_, ?_, ?_, ?_, ?_, ?_, ?_, ?_, ?_, ?_, ?_, ?_, ?_, trivial⟩
      · refine step_intro rfl rfl fun ρ X hc hf hgl hX hp ho => ?_
        change StepOk _ { dst := _, op := Op.move (Operand.tmp 0), type := _, pos := _, after := _, guard := _ } _ _ _
        have e0 : ρ (.tmp 0) = .int .u64 (n : Int) := ho 0 (by decide)
        have k0 := e0
        refine StepOk.of_run (v := .int .u64 (n : Int)) (w' := X) ?_ ⟨rfl, Below.refl _ _⟩
        simp [go_sem, execOp, hc, hf, k0]
      · refine step_intro rfl rfl fun ρ X hc hf hgl hX hp ho => ?_
        change StepOk _ { dst := _, op := Op.move (Operand.tmp 1), type := _, pos := _, after := _, guard := _ } _ _ _
        have e1 : ρ (.tmp 1) = .int .i64 size := ho 1 (by decide)
        have k1 := e1
        refine StepOk.of_run (v := .int .i64 size) (w' := X) ?_ ⟨rfl, Below.refl _ _⟩
        simp [go_sem, execOp, hc, hf, k1]
      · refine step_intro rfl rfl fun ρ X hc hf hgl hX hp ho => ?_
        change StepOk _ { dst := _, op := Op.call { callee := Callee.value (Operand.func 16), args := #[Operand.tmp 11, Operand.tmp 12], argTypes := #[22, 3] }, type := _, pos := _, after := _, guard := _ } _ _ _
        have k11 : ρ (.tmp 11) = .int .u64 (n : Int) := hp 0 (by decide)
        have k12 : ρ (.tmp 12) = .int .i64 size := hp 1 (by decide)
        refine StepOk.of_call (f := 16) (args := #[.int .u64 (n : Int), .int .i64 size]) (w' := X) ?_ (vFixed n size hn X) ?_
        · simp [go_sem, execOp, hc, hf, k11, k12]
        · rintro e w'' ⟨v, rfl, ho', hg'⟩; exact ⟨v, rfl, (show Byt w'' v (fixed n size) from ho'.byt), hg'⟩
      · refine step_intro rfl rfl fun ρ X hc hf hgl hX hp ho => ?_
        change StepOk _ { dst := _, op := Op.convert 23 9 (Operand.tmp 13), type := _, pos := _, after := _, guard := _ } _ _ _
        have k13 : Byt X (ρ (.tmp 13)) (fixed n size) := hp 2 (by decide)
        refine StepOk.of_run (v := .string ⟨((fixed n size) : List UInt8).toArray⟩) (w' := X) ?_ ⟨rfl, Below.refl _ _⟩
        have hr := run_string (P := Try.prog) (T := 23) (e := 5) (S := 9) rfl rfl rfl k13
        simp only [execOp, Sem.run_bind, hr, Result.andThen_ok, Sem.run_pure]
      · refine step_intro rfl rfl fun ρ X hc hf hgl hX hp ho => ?_
        change StepOk _ { dst := _, op := Op.move (Operand.tmp 0), type := _, pos := _, after := _, guard := _ } _ _ _
        have e0 : ρ (.tmp 0) = .int .u64 (n : Int) := ho 0 (by decide)
        have k0 := e0
        refine StepOk.of_run (v := .int .u64 (n : Int)) (w' := X) ?_ ⟨rfl, Below.refl _ _⟩
        simp [go_sem, execOp, hc, hf, k0]
      · refine step_intro rfl rfl fun ρ X hc hf hgl hX hp ho => ?_
        change StepOk _ { dst := _, op := Op.move (Operand.tmp 1), type := _, pos := _, after := _, guard := _ } _ _ _
        have e1 : ρ (.tmp 1) = .int .i64 size := ho 1 (by decide)
        have k1 := e1
        refine StepOk.of_run (v := .int .i64 size) (w' := X) ?_ ⟨rfl, Below.refl _ _⟩
        simp [go_sem, execOp, hc, hf, k1]
      · refine step_intro rfl rfl fun ρ X hc hf hgl hX hp ho => ?_
        change StepOk _ { dst := _, op := Op.call { callee := Callee.value (Operand.func 17), args := #[Operand.tmp 15, Operand.tmp 16], argTypes := #[22, 3] }, type := _, pos := _, after := _, guard := _ } _ _ _
        have k15 : ρ (.tmp 15) = .int .u64 (n : Int) := hp 4 (by decide)
        have k16 : ρ (.tmp 16) = .int .i64 size := hp 5 (by decide)
        refine StepOk.of_call (f := 17) (args := #[.int .u64 (n : Int), .int .i64 size]) (w' := X) ?_ (refFixed n size hn X) ?_
        · simp [go_sem, execOp, hc, hf, k15, k16]
        · rintro e w'' ⟨v, rfl, ho', hg'⟩; exact ⟨v, rfl, (show Byt w'' v (fixed n size) from ho'.byt), hg'⟩
      · refine step_intro rfl rfl fun ρ X hc hf hgl hX hp ho => ?_
        change StepOk _ { dst := _, op := Op.convert 23 9 (Operand.tmp 17), type := _, pos := _, after := _, guard := _ } _ _ _
        have k17 : Byt X (ρ (.tmp 17)) (fixed n size) := hp 6 (by decide)
        refine StepOk.of_run (v := .string ⟨((fixed n size) : List UInt8).toArray⟩) (w' := X) ?_ ⟨rfl, Below.refl _ _⟩
        have hr := run_string (P := Try.prog) (T := 23) (e := 5) (S := 9) rfl rfl rfl k17
        simp only [execOp, Sem.run_bind, hr, Result.andThen_ok, Sem.run_pure]
      · refine step_intro rfl rfl fun ρ X hc hf hgl hX hp ho => ?_
        change StepOk _ { dst := _, op := Op.binOp BinOp.eql 9 (Operand.tmp 14) (Operand.tmp 18) 9, type := _, pos := _, after := _, guard := _ } _ _ _
        have k14 : ρ (.tmp 14) = .string ⟨((fixed n size) : List UInt8).toArray⟩ := hp 3 (by decide)
        have k18 : ρ (.tmp 18) = .string ⟨((fixed n size) : List UInt8).toArray⟩ := hp 7 (by decide)
        refine StepOk.of_run (v := .bool true) (w' := X) ?_ ⟨rfl, Below.refl _ _⟩
        simp [go_sem, execOp, hc, hf, k14, k18]
      · refine step_intro rfl rfl fun ρ X hc hf hgl hX hp ho => ?_
        change StepOk _ { dst := _, op := Op.move (Operand.tmp 19), type := _, pos := _, after := _, guard := _ } _ _ _
        have k19 : ρ (.tmp 19) = .bool true := hp 8 (by decide)
        refine StepOk.of_run (v := .bool true) (w' := X) ?_ ⟨rfl, Below.refl _ _⟩
        simp [go_sem, execOp, hc, hf, k19]
      · refine step_intro rfl rfl fun ρ X hc hf hgl hX hp ho => ?_
        change StepOk _ { dst := _, op := Op.move (Operand.tmp 2), type := _, pos := _, after := _, guard := _ } _ _ _
        have e2 : ρ (.tmp 2) = .slice a l.length cap := ho 2 (by decide)
        have k2 : Byt X (ρ (.tmp 2)) l := by rw [e2]; exact Byt.grows (H.out) hX
        refine StepOk.of_run (v := ρ (.tmp 2)) (w' := X) ?_ ⟨k2, Below.refl _ _⟩
        simp [go_sem, execOp]
      · refine step_intro rfl rfl fun ρ X hc hf hgl hX hp ho => ?_
        change StepOk _ { dst := _, op := Op.call { callee := Callee.value (Operand.func 18), args := #[Operand.tmp 21], argTypes := #[23] }, type := _, pos := _, after := _, guard := _ } _ _ _
        have k21 : Byt X (ρ (.tmp 21)) l := hp 10 (by decide)
        refine StepOk.of_call (f := 18) (args := #[ρ (.tmp 21)]) (w' := X) ?_ (vNumber _ l X k21) ?_
        · simp [go_sem, execOp, hc, hf]
        · rintro e w'' ⟨rfl, rfl⟩; exact ⟨_, rfl, rfl, Below.refl _ _⟩
      · refine step_intro rfl rfl fun ρ X hc hf hgl hX hp ho => ?_
        change StepOk _ { dst := _, op := Op.move (Operand.tmp 2), type := _, pos := _, after := _, guard := _ } _ _ _
        have e2 : ρ (.tmp 2) = .slice a l.length cap := ho 2 (by decide)
        have k2 : Byt X (ρ (.tmp 2)) l := by rw [e2]; exact Byt.grows (H.out) hX
        refine StepOk.of_run (v := ρ (.tmp 2)) (w' := X) ?_ ⟨k2, Below.refl _ _⟩
        simp [go_sem, execOp]
      · refine step_intro rfl rfl fun ρ X hc hf hgl hX hp ho => ?_
        change StepOk _ { dst := _, op := Op.call { callee := Callee.value (Operand.func 19), args := #[Operand.tmp 23], argTypes := #[23] }, type := _, pos := _, after := _, guard := _ } _ _ _
        have k23 : Byt X (ρ (.tmp 23)) l := hp 12 (by decide)
        refine StepOk.of_call (f := 19) (args := #[ρ (.tmp 23)]) (w' := X) ?_ (refNumber _ l X k23) ?_
        · simp [go_sem, execOp, hc, hf]
        · rintro e w'' ⟨rfl, rfl⟩; exact ⟨_, rfl, rfl, Below.refl _ _⟩
      · refine step_intro rfl rfl fun ρ X hc hf hgl hX hp ho => ?_
        change StepOk _ { dst := _, op := Op.binOp BinOp.eql 22 (Operand.tmp 22) (Operand.tmp 24) 22, type := _, pos := _, after := _, guard := _ } _ _ _
        have k22 : ρ (.tmp 22) = .int .u64 (number l : Int) := hp 11 (by decide)
        have k24 : ρ (.tmp 24) = .int .u64 (number l : Int) := hp 13 (by decide)
        refine StepOk.of_run (v := .bool true) (w' := X) ?_ ⟨rfl, Below.refl _ _⟩
        simp [go_sem, execOp, hc, hf, k22, k24]
      · refine step_intro rfl rfl fun ρ X hc hf hgl hX hp ho => ?_
        change StepOk _ { dst := _, op := Op.pick (Operand.tmp 20) (Operand.tmp 25) (Operand.const (Value.bool false)), type := _, pos := _, after := _, guard := _ } _ _ _
        have k20 : ρ (.tmp 20) = .bool true := hp 9 (by decide)
        have k25 : ρ (.tmp 25) = .bool true := hp 14 (by decide)
        refine StepOk.of_run (v := .bool true) (w' := X) ?_ ⟨rfl, Below.refl _ _⟩
        simp [go_sem, execOp, hc, hf, k20, k25]
      · refine step_intro rfl rfl fun ρ X hc hf hgl hX hp ho => ?_
        change StepOk _ { dst := _, op := Op.move (Operand.tmp 26), type := _, pos := _, after := _, guard := _ } _ _ _
        have k26 : ρ (.tmp 26) = .bool true := hp 15 (by decide)
        refine StepOk.of_run (v := .bool true) (w' := X) ?_ ⟨rfl, Below.refl _ _⟩
        simp [go_sem, execOp, hc, hf, k26]
      · refine step_intro rfl rfl fun ρ X hc hf hgl hX hp ho => ?_
        change StepOk _ { dst := _, op := Op.call { callee := Callee.value (Operand.func 12), args := #[], argTypes := #[] }, type := _, pos := _, after := _, guard := _ } _ _ _
        refine StepOk.of_call (f := 12) (args := #[]) (w' := X) ?_ (live_any X) ?_
        · simp [go_sem, execOp, hc, hf]
        · rintro e w'' ⟨rfl, hg'⟩; exact ⟨_, rfl, rfl, hg'⟩
      · refine step_intro rfl rfl fun ρ X hc hf hgl hX hp ho => ?_
        change StepOk _ { dst := _, op := Op.pick (Operand.tmp 27) (Operand.tmp 28) (Operand.const (Value.bool false)), type := _, pos := _, after := _, guard := _ } _ _ _
        have k27 : ρ (.tmp 27) = .bool true := hp 16 (by decide)
        have k28 : ρ (.tmp 28) = .bool true := hp 17 (by decide)
        refine StepOk.of_run (v := .bool true) (w' := X) ?_ ⟨rfl, Below.refl _ _⟩
        simp [go_sem, execOp, hc, hf, k27, k28]
      · refine step_intro rfl rfl fun ρ X hc hf hgl hX hp ho => ?_
        change StepOk _ { dst := _, op := Op.assign (Operand.tmp 29), type := _, pos := _, after := _, guard := _ } _ _ _
        have k29 : ρ (.tmp 29) = .bool true := hp 18 (by decide)
        refine StepOk.of_run (v := .bool true) (w' := X) ?_ ⟨rfl, Below.refl _ _⟩
        simp [go_sem, execOp, hc, hf, k29]
    · intro a W hb
      have k0 : a.tmps.getD 6 undef = .bool true := hb.done' 19 6 rfl rfl
      have hd := hb.defers
      have He := Lib.hid hb.ext
      clear hb hn
      go_wp2_with fail
      exact retTrue rfl hd k0 He.out

set_option maxRecDepth 100000 in
set_option maxHeartbeats 1000000 in
theorem walkTexts (v u : Value) (l m : List UInt8) (w : World) (h : Byt w v l) (h' : Byt w u m) :
    Calls Try.prog 6 #[v, u] w fun e w' => e = .returned (.bool true) ∧ Grows w w' := by
  obtain ⟨i0, hi, hz0, hz1, hz2⟩ := info_parts info5
  have hmx : Try.prog.follows .mixedOrders = true := by kernel_rfl
  have H := Lib.hid h
  obtain ⟨a, cap, rfl⟩ := h.slice
  have H' := Lib.hid h'
  obtain ⟨a', cap', rfl⟩ := h'.slice
  clear h h'
  by_cases hl : 5000 < l.length
  · have hl' : (5000 : Int) < (l.length : Int) := by omega
    clear hl
    go_enter Try.func6, Try.ntmps6
    go_wp2_with (go_at_call 12; refine (live_any _).mono ?_; rintro e w4 ⟨rfl, hg4⟩)
    go_ret
    exact ⟨rfl, hg4⟩
  · have hl' : ¬ (5000 : Int) < (l.length : Int) := by omega
    by_cases hm : 5000 < m.length
    · have hm' : (5000 : Int) < (m.length : Int) := by omega
      clear hl hm
      go_enter Try.func6, Try.ntmps6
      go_wp2_with (go_at_call 12; refine (live_any _).mono ?_; rintro e w4 ⟨rfl, hg4⟩)
      go_ret
      exact ⟨rfl, hg4⟩
    · have hm' : ¬ (5000 : Int) < (m.length : Int) := by omega
      go_enter Try.func6, Try.ntmps6
      go_wp2_with (at_builtin; refine wpList_app rfl _ _ 23 5 i0 rfl Try.underlying23 hi hz0 hz1 hz2 w.heap.size _ _ [] m rfl (Own.empty _ _ _ (Nat.le_refl _)) rfl (H'.out.grows (Grows.alloc' _ _)) (by simp; omega) (by simp) ?_; intro v1 w1 hown' hgrow)
      have hb1 : Byt w1 v1 m := by simpa using hown'.byt
      have H1 := Lib.hid (grows_app ((Below.refl _ _).alloc (Nat.le_refl _) _) (Own.empty 5 _ _ (Nat.le_refl _)) (by simp) hgrow)
      clear hown' hgrow
      refine (vGetBytes _ m _ hb1 (by omega)).mono ?_
      rintro e w2 ⟨v3, rfl, ho3, hg2⟩
      have H2 := Lib.hid (Grows.trans' H1.out hg2)
      have Hb3 := Lib.hid ho3.byt
      clear hb1 hg2 ho3
      go_wp2_with fail
      refine (refGetBytes _ m _ (H'.out.grows H2.out) (by omega)).mono ?_
      rintro e w3 ⟨v4, rfl, ho4, hg3⟩
      have H4 := Lib.hid (Grows.trans' H2.out hg3)
      have hb3 := Hb3.out.grows hg3
      have hb4 := ho4.byt
      clear hg3 ho4
      go_wp2_with fail
      refine specs_region
        #[[], [0], [0, 1], [], [0, 1, 3], [0, 1, 3, 4], [0, 1, 2, 3, 4, 5], [0, 1, 2, 3, 4, 5, 6], [0, 1, 2, 3, 4, 5, 6, 7], [0, 1, 2, 3, 4, 5, 6, 7, 8], [0, 1, 2, 3, 4, 5, 6, 7], [0, 1, 2, 3, 4, 5, 6, 7, 10], [0, 1, 2, 3, 4, 5, 6, 7, 8, 9, 10, 11], [0, 1, 2, 3, 4, 5, 6, 7, 8, 9, 10, 11, 12], [0, 1, 2, 3, 4, 5, 6, 7, 8, 9, 10, 11, 12, 13], [0, 1, 2, 3, 4, 5, 6, 7, 8, 9, 10, 11, 12, 13, 14], [0, 1, 2, 3, 4, 5, 6, 7, 8, 9, 10, 11, 12, 13, 14], [0, 1, 2, 3, 4, 5, 6, 7, 8, 9, 10, 11, 12, 13, 14, 15, 16], [0, 1, 2, 3, 4, 5, 6, 7, 8, 9, 10, 11, 12, 13, 14, 15, 16, 17], [0, 1, 2, 3, 4, 5, 6, 7, 8, 9, 10, 11, 12, 13, 14, 15, 16, 17, 18], [0, 1, 2, 3, 4, 5, 6, 7, 8, 9, 10, 11, 12, 13, 14, 15, 16, 17, 18, 19], [0, 1, 2, 3, 4, 5, 6, 7, 8, 9, 10, 11, 12, 13, 14, 15, 16, 17, 18, 19, 20], [0, 1, 2, 3, 4, 5, 6, 7, 8, 9, 10, 11, 12, 13, 14, 15, 16, 17, 18, 19], [0, 1, 2, 3, 4, 5, 6, 7, 8, 9, 10, 11, 12, 13, 14, 15, 16, 17, 18, 19, 20, 21, 22], [0, 1, 2, 3, 4, 5, 6, 7, 8, 9, 10, 11, 12, 13, 14, 15, 16, 17, 18, 19, 20, 21, 22, 23], [0, 1, 2, 3, 4, 5, 6, 7, 8, 9, 10, 11, 12, 13, 14, 15, 16, 17, 18, 19, 20, 21, 22, 23, 24], [0, 1, 2, 3, 4, 5, 6, 7, 8, 9, 10, 11, 12, 13, 14, 15, 16, 17, 18, 19, 20, 21, 22, 23, 24, 25], [0, 1, 2, 3, 4, 5, 6, 7, 8, 9, 10, 11, 12, 13, 14, 15, 16, 17, 18, 19, 20, 21, 22, 23, 24, 25, 26], [0, 1, 2, 3, 4, 5, 6, 7, 8, 9, 10, 11, 12, 13, 14, 15, 16, 17, 18, 19, 20, 21, 22, 23, 24, 25, 26, 27]]
        #[[0], [], [], [0], [], [], [], [], [5], [], [8], [], [], [], [], [6], [9], [], [], [], [7], [], [10], [], [], [], [], [], []]
        #[true, true, true, true, true, true, true, true, true, true, true, true, true, true, true, true, true, true, true, true, true, true, true, true, true, true, true, true, true]
        #[.byt (l), .byt ((putB l)), .val (.string ⟨((putB l) : List UInt8).toArray⟩), .byt (l), .byt ((putB l)), .val (.string ⟨((putB l) : List UInt8).toArray⟩), .val (.bool true), .val (.bool true), .byt ((getB m).1), .val (.string ⟨((getB m).1 : List UInt8).toArray⟩), .byt ((getB m).1), .val (.string ⟨((getB m).1 : List UInt8).toArray⟩), .val (.bool true), .val (.bool true), .val (.bool true), .val (.int .i64 ((getB m).2.1 : Int)), .val (.int .i64 ((getB m).2.1 : Int)), .val (.bool true), .val (.bool true), .val (.bool true), .val (.int .i64 ((getB m).2.2 : Int)), .val (.int .i64 ((getB m).2.2 : Int)), .val (.int .i64 ((getB m).2.2 : Int)), .val (.bool true), .val (.bool true), .val (.bool true), .val (.bool true), .val (.bool true), .val (.bool true)]
        hmx ?_ ?_ ?_ ?_
      · rfl
      · rfl
      · refine ⟨?_, ?_, ?_, ?_, ?_, ?_, ?_, ?_, ?_, ?_, ?_, ?_, ?_, ?_, ?_, ?_, ?_, ?_, ?_, ?_, ?_, ?_, ?_, ?_, ?_, ?_, ?_, ?_, ?_, trivial⟩
        · refine step_intro rfl rfl fun ρ X hc hf hgl hX hp ho => ?_
          change StepOk _ { dst := _, op := Op.move (Operand.tmp 0), type := _, pos := _, after := _, guard := _ } _ _ _
          have e0 : ρ (.tmp 0) = .slice a l.length cap := ho 0 (by decide)
          have k0 : Byt X (ρ (.tmp 0)) l := by rw [e0]; exact Byt.grows (H.out.grows H4.out) hX
          refine StepOk.of_run (v := ρ (.tmp 0)) (w' := X) ?_ ⟨k0, Below.refl _ _⟩
          simp [go_sem, execOp]
        · refine step_intro rfl rfl fun ρ X hc hf hgl hX hp ho => ?_
          change StepOk _ { dst := _, op := Op.call { callee := Callee.value (Operand.func 22), args := #[Operand.tmp 34], argTypes := #[23] }, type := _, pos := _, after := _, guard := _ } _ _ _
          have k34 : Byt X (ρ (.tmp 34)) l := hp 0 (by decide)
          refine StepOk.of_call (f := 22) (args := #[ρ (.tmp 34)]) (w' := X) ?_ (vPutBytes _ l X k34 (by omega)) ?_
          · simp [go_sem, execOp, hc, hf]
          · rintro e w'' ⟨v, rfl, ho', hg'⟩; exact ⟨v, rfl, (show Byt w'' v (putB l) from ho'.byt), hg'⟩
        · refine step_intro rfl rfl fun ρ X hc hf hgl hX hp ho => ?_
          change StepOk _ { dst := _, op := Op.convert 23 9 (Operand.tmp 35), type := _, pos := _, after := _, guard := _ } _ _ _
          have k35 : Byt X (ρ (.tmp 35)) (putB l) := hp 1 (by decide)
          refine StepOk.of_run (v := .string ⟨((putB l) : List UInt8).toArray⟩) (w' := X) ?_ ⟨rfl, Below.refl _ _⟩
          have hr := run_string (P := Try.prog) (T := 23) (e := 5) (S := 9) rfl rfl rfl k35
          simp only [execOp, Sem.run_bind, hr, Result.andThen_ok, Sem.run_pure]
        · refine step_intro rfl rfl fun ρ X hc hf hgl hX hp ho => ?_
          change StepOk _ { dst := _, op := Op.move (Operand.tmp 0), type := _, pos := _, after := _, guard := _ } _ _ _
          have e0 : ρ (.tmp 0) = .slice a l.length cap := ho 0 (by decide)
          have k0 : Byt X (ρ (.tmp 0)) l := by rw [e0]; exact Byt.grows (H.out.grows H4.out) hX
          refine StepOk.of_run (v := ρ (.tmp 0)) (w' := X) ?_ ⟨k0, Below.refl _ _⟩
          simp [go_sem, execOp]
        · refine step_intro rfl rfl fun ρ X hc hf hgl hX hp ho => ?_
          change StepOk _ { dst := _, op := Op.call { callee := Callee.value (Operand.func 23), args := #[Operand.tmp 37], argTypes := #[23] }, type := _, pos := _, after := _, guard := _ } _ _ _
          have k37 : Byt X (ρ (.tmp 37)) l := hp 3 (by decide)
          refine StepOk.of_call (f := 23) (args := #[ρ (.tmp 37)]) (w' := X) ?_ (refPutBytes _ l X k37 (by omega)) ?_
          · simp [go_sem, execOp, hc, hf]
          · rintro e w'' ⟨v, rfl, ho', hg'⟩; exact ⟨v, rfl, (show Byt w'' v (putB l) from ho'.byt), hg'⟩
        · refine step_intro rfl rfl fun ρ X hc hf hgl hX hp ho => ?_
          change StepOk _ { dst := _, op := Op.convert 23 9 (Operand.tmp 38), type := _, pos := _, after := _, guard := _ } _ _ _
          have k38 : Byt X (ρ (.tmp 38)) (putB l) := hp 4 (by decide)
          refine StepOk.of_run (v := .string ⟨((putB l) : List UInt8).toArray⟩) (w' := X) ?_ ⟨rfl, Below.refl _ _⟩
          have hr := run_string (P := Try.prog) (T := 23) (e := 5) (S := 9) rfl rfl rfl k38
          simp only [execOp, Sem.run_bind, hr, Result.andThen_ok, Sem.run_pure]
        · refine step_intro rfl rfl fun ρ X hc hf hgl hX hp ho => ?_
          change StepOk _ { dst := _, op := Op.binOp BinOp.eql 9 (Operand.tmp 36) (Operand.tmp 39) 9, type := _, pos := _, after := _, guard := _ } _ _ _
          have k36 : ρ (.tmp 36) = .string ⟨((putB l) : List UInt8).toArray⟩ := hp 2 (by decide)
          have k39 : ρ (.tmp 39) = .string ⟨((putB l) : List UInt8).toArray⟩ := hp 5 (by decide)
          refine StepOk.of_run (v := .bool true) (w' := X) ?_ ⟨rfl, Below.refl _ _⟩
          simp [go_sem, execOp, hc, hf, k36, k39]
        · refine step_intro rfl rfl fun ρ X hc hf hgl hX hp ho => ?_
          change StepOk _ { dst := _, op := Op.move (Operand.tmp 40), type := _, pos := _, after := _, guard := _ } _ _ _
          have k40 : ρ (.tmp 40) = .bool true := hp 6 (by decide)
          refine StepOk.of_run (v := .bool true) (w' := X) ?_ ⟨rfl, Below.refl _ _⟩
          simp [go_sem, execOp, hc, hf, k40]
        · refine step_intro rfl rfl fun ρ X hc hf hgl hX hp ho => ?_
          change StepOk _ { dst := _, op := Op.move (Operand.tmp 5), type := _, pos := _, after := _, guard := _ } _ _ _
          have e5 : ρ (.tmp 5) = v3 := ho 5 (by decide)
          have k5 : Byt X (ρ (.tmp 5)) (getB m).1 := by rw [e5]; exact Byt.grows (hb3) hX
          refine StepOk.of_run (v := ρ (.tmp 5)) (w' := X) ?_ ⟨k5, Below.refl _ _⟩
          simp [go_sem, execOp]
        · refine step_intro rfl rfl fun ρ X hc hf hgl hX hp ho => ?_
          change StepOk _ { dst := _, op := Op.convert 23 9 (Operand.tmp 42), type := _, pos := _, after := _, guard := _ } _ _ _
          have k42 : Byt X (ρ (.tmp 42)) (getB m).1 := hp 8 (by decide)
          refine StepOk.of_run (v := .string ⟨((getB m).1 : List UInt8).toArray⟩) (w' := X) ?_ ⟨rfl, Below.refl _ _⟩
          have hr := run_string (P := Try.prog) (T := 23) (e := 5) (S := 9) rfl rfl rfl k42
          simp only [execOp, Sem.run_bind, hr, Result.andThen_ok, Sem.run_pure]
        · refine step_intro rfl rfl fun ρ X hc hf hgl hX hp ho => ?_
          change StepOk _ { dst := _, op := Op.move (Operand.tmp 8), type := _, pos := _, after := _, guard := _ } _ _ _
          have e8 : ρ (.tmp 8) = v4 := ho 8 (by decide)
          have k8 : Byt X (ρ (.tmp 8)) (getB m).1 := by rw [e8]; exact Byt.grows (hb4) hX
          refine StepOk.of_run (v := ρ (.tmp 8)) (w' := X) ?_ ⟨k8, Below.refl _ _⟩
          simp [go_sem, execOp]
        · refine step_intro rfl rfl fun ρ X hc hf hgl hX hp ho => ?_
          change StepOk _ { dst := _, op := Op.convert 23 9 (Operand.tmp 44), type := _, pos := _, after := _, guard := _ } _ _ _
          have k44 : Byt X (ρ (.tmp 44)) (getB m).1 := hp 10 (by decide)
          refine StepOk.of_run (v := .string ⟨((getB m).1 : List UInt8).toArray⟩) (w' := X) ?_ ⟨rfl, Below.refl _ _⟩
          have hr := run_string (P := Try.prog) (T := 23) (e := 5) (S := 9) rfl rfl rfl k44
          simp only [execOp, Sem.run_bind, hr, Result.andThen_ok, Sem.run_pure]
        · refine step_intro rfl rfl fun ρ X hc hf hgl hX hp ho => ?_
          change StepOk _ { dst := _, op := Op.binOp BinOp.eql 9 (Operand.tmp 43) (Operand.tmp 45) 9, type := _, pos := _, after := _, guard := _ } _ _ _
          have k43 : ρ (.tmp 43) = .string ⟨((getB m).1 : List UInt8).toArray⟩ := hp 9 (by decide)
          have k45 : ρ (.tmp 45) = .string ⟨((getB m).1 : List UInt8).toArray⟩ := hp 11 (by decide)
          refine StepOk.of_run (v := .bool true) (w' := X) ?_ ⟨rfl, Below.refl _ _⟩
          simp [go_sem, execOp, hc, hf, k43, k45]
        · refine step_intro rfl rfl fun ρ X hc hf hgl hX hp ho => ?_
          change StepOk _ { dst := _, op := Op.pick (Operand.tmp 41) (Operand.tmp 46) (Operand.const (Value.bool false)), type := _, pos := _, after := _, guard := _ } _ _ _
          have k41 : ρ (.tmp 41) = .bool true := hp 7 (by decide)
          have k46 : ρ (.tmp 46) = .bool true := hp 12 (by decide)
          refine StepOk.of_run (v := .bool true) (w' := X) ?_ ⟨rfl, Below.refl _ _⟩
          simp [go_sem, execOp, hc, hf, k41, k46]
        · refine step_intro rfl rfl fun ρ X hc hf hgl hX hp ho => ?_
          change StepOk _ { dst := _, op := Op.move (Operand.tmp 47), type := _, pos := _, after := _, guard := _ } _ _ _
          have k47 : ρ (.tmp 47) = .bool true := hp 13 (by decide)
          refine StepOk.of_run (v := .bool true) (w' := X) ?_ ⟨rfl, Below.refl _ _⟩
          simp [go_sem, execOp, hc, hf, k47]
        · refine step_intro rfl rfl fun ρ X hc hf hgl hX hp ho => ?_
          change StepOk _ { dst := _, op := Op.move (Operand.tmp 6), type := _, pos := _, after := _, guard := _ } _ _ _
          have e6 : ρ (.tmp 6) = .int .i64 ((getB m).2.1 : Int) := ho 6 (by decide)
          have k6 := e6
          refine StepOk.of_run (v := .int .i64 ((getB m).2.1 : Int)) (w' := X) ?_ ⟨rfl, Below.refl _ _⟩
          simp [go_sem, execOp, hc, hf, k6]
        · refine step_intro rfl rfl fun ρ X hc hf hgl hX hp ho => ?_
          change StepOk _ { dst := _, op := Op.move (Operand.tmp 9), type := _, pos := _, after := _, guard := _ } _ _ _
          have e9 : ρ (.tmp 9) = .int .i64 ((getB m).2.1 : Int) := ho 9 (by decide)
          have k9 := e9
          refine StepOk.of_run (v := .int .i64 ((getB m).2.1 : Int)) (w' := X) ?_ ⟨rfl, Below.refl _ _⟩
          simp [go_sem, execOp, hc, hf, k9]
        · refine step_intro rfl rfl fun ρ X hc hf hgl hX hp ho => ?_
          change StepOk _ { dst := _, op := Op.binOp BinOp.eql 3 (Operand.tmp 49) (Operand.tmp 50) 3, type := _, pos := _, after := _, guard := _ } _ _ _
          have k49 : ρ (.tmp 49) = .int .i64 ((getB m).2.1 : Int) := hp 15 (by decide)
          have k50 : ρ (.tmp 50) = .int .i64 ((getB m).2.1 : Int) := hp 16 (by decide)
          refine StepOk.of_run (v := .bool true) (w' := X) ?_ ⟨rfl, Below.refl _ _⟩
          simp [go_sem, execOp, hc, hf, k49, k50]
        · refine step_intro rfl rfl fun ρ X hc hf hgl hX hp ho => ?_
          change StepOk _ { dst := _, op := Op.pick (Operand.tmp 48) (Operand.tmp 51) (Operand.const (Value.bool false)), type := _, pos := _, after := _, guard := _ } _ _ _
          have k48 : ρ (.tmp 48) = .bool true := hp 14 (by decide)
          have k51 : ρ (.tmp 51) = .bool true := hp 17 (by decide)
          refine StepOk.of_run (v := .bool true) (w' := X) ?_ ⟨rfl, Below.refl _ _⟩
          simp [go_sem, execOp, hc, hf, k48, k51]
        · refine step_intro rfl rfl fun ρ X hc hf hgl hX hp ho => ?_
          change StepOk _ { dst := _, op := Op.move (Operand.tmp 52), type := _, pos := _, after := _, guard := _ } _ _ _
          have k52 : ρ (.tmp 52) = .bool true := hp 18 (by decide)
          refine StepOk.of_run (v := .bool true) (w' := X) ?_ ⟨rfl, Below.refl _ _⟩
          simp [go_sem, execOp, hc, hf, k52]
        · refine step_intro rfl rfl fun ρ X hc hf hgl hX hp ho => ?_
          change StepOk _ { dst := _, op := Op.move (Operand.tmp 7), type := _, pos := _, after := _, guard := _ } _ _ _
          have e7 : ρ (.tmp 7) = .int .i64 ((getB m).2.2 : Int) := ho 7 (by decide)
          have k7 := e7
          refine StepOk.of_run (v := .int .i64 ((getB m).2.2 : Int)) (w' := X) ?_ ⟨rfl, Below.refl _ _⟩
          simp [go_sem, execOp, hc, hf, k7]
        · refine step_intro rfl rfl fun ρ X hc hf hgl hX hp ho => ?_
          change StepOk _ { dst := _, op := Op.call { callee := Callee.value (Operand.func 15), args := #[Operand.tmp 54], argTypes := #[27] }, type := _, pos := _, after := _, guard := _ } _ _ _
          have k54 : ρ (.tmp 54) = .int .i64 ((getB m).2.2 : Int) := hp 20 (by decide)
          refine StepOk.of_call (f := 15) (args := #[.int .i64 ((getB m).2.2 : Int)]) (w' := X) ?_ (num_any _ X) ?_
          · simp [go_sem, execOp, hc, hf, k54]
          · rintro e w'' ⟨rfl, rfl⟩; exact ⟨_, rfl, rfl, Below.refl _ _⟩
        · refine step_intro rfl rfl fun ρ X hc hf hgl hX hp ho => ?_
          change StepOk _ { dst := _, op := Op.move (Operand.tmp 10), type := _, pos := _, after := _, guard := _ } _ _ _
          have e10 : ρ (.tmp 10) = .int .i64 ((getB m).2.2 : Int) := ho 10 (by decide)
          have k10 := e10
          refine StepOk.of_run (v := .int .i64 ((getB m).2.2 : Int)) (w' := X) ?_ ⟨rfl, Below.refl _ _⟩
          simp [go_sem, execOp, hc, hf, k10]
        · refine step_intro rfl rfl fun ρ X hc hf hgl hX hp ho => ?_
          change StepOk _ { dst := _, op := Op.binOp BinOp.eql 3 (Operand.tmp 55) (Operand.tmp 56) 3, type := _, pos := _, after := _, guard := _ } _ _ _
          have k55 : ρ (.tmp 55) = .int .i64 ((getB m).2.2 : Int) := hp 21 (by decide)
          have k56 : ρ (.tmp 56) = .int .i64 ((getB m).2.2 : Int) := hp 22 (by decide)
          refine StepOk.of_run (v := .bool true) (w' := X) ?_ ⟨rfl, Below.refl _ _⟩
          simp [go_sem, execOp, hc, hf, k55, k56]
        · refine step_intro rfl rfl fun ρ X hc hf hgl hX hp ho => ?_
          change StepOk _ { dst := _, op := Op.pick (Operand.tmp 53) (Operand.tmp 57) (Operand.const (Value.bool false)), type := _, pos := _, after := _, guard := _ } _ _ _
          have k53 : ρ (.tmp 53) = .bool true := hp 19 (by decide)
          have k57 : ρ (.tmp 57) = .bool true := hp 23 (by decide)
          refine StepOk.of_run (v := .bool true) (w' := X) ?_ ⟨rfl, Below.refl _ _⟩
          simp [go_sem, execOp, hc, hf, k53, k57]
        · refine step_intro rfl rfl fun ρ X hc hf hgl hX hp ho => ?_
          change StepOk _ { dst := _, op := Op.move (Operand.tmp 58), type := _, pos := _, after := _, guard := _ } _ _ _
          have k58 : ρ (.tmp 58) = .bool true := hp 24 (by decide)
          refine StepOk.of_run (v := .bool true) (w' := X) ?_ ⟨rfl, Below.refl _ _⟩
          simp [go_sem, execOp, hc, hf, k58]
        · refine step_intro rfl rfl fun ρ X hc hf hgl hX hp ho => ?_
          change StepOk _ { dst := _, op := Op.call { callee := Callee.value (Operand.func 12), args := #[], argTypes := #[] }, type := _, pos := _, after := _, guard := _ } _ _ _
          refine StepOk.of_call (f := 12) (args := #[]) (w' := X) ?_ (live_any X) ?_
          · simp [go_sem, execOp, hc, hf]
          · rintro e w'' ⟨rfl, hg'⟩; exact ⟨_, rfl, rfl, hg'⟩
        · refine step_intro rfl rfl fun ρ X hc hf hgl hX hp ho => ?_
          change StepOk _ { dst := _, op := Op.pick (Operand.tmp 59) (Operand.tmp 60) (Operand.const (Value.bool false)), type := _, pos := _, after := _, guard := _ } _ _ _
          have k59 : ρ (.tmp 59) = .bool true := hp 25 (by decide)
          have k60 : ρ (.tmp 60) = .bool true := hp 26 (by decide)
          refine StepOk.of_run (v := .bool true) (w' := X) ?_ ⟨rfl, Below.refl _ _⟩
          simp [go_sem, execOp, hc, hf, k59, k60]
        · refine step_intro rfl rfl fun ρ X hc hf hgl hX hp ho => ?_
          change StepOk _ { dst := _, op := Op.assign (Operand.tmp 61), type := _, pos := _, after := _, guard := _ } _ _ _
          have k61 : ρ (.tmp 61) = .bool true := hp 27 (by decide)
          refine StepOk.of_run (v := .bool true) (w' := X) ?_ ⟨rfl, Below.refl _ _⟩
          simp [go_sem, execOp, hc, hf, k61]
      · intro a W hb
        have k0 : a.tmps.getD 4 undef = .bool true := hb.done' 28 4 rfl rfl
        have hd := hb.defers
        have He := Lib.hid hb.ext
        clear hb hb3 hb4
        go_wp2_with fail
        exact retTrue rfl hd k0 (Grows.trans' H4.out He.out)
end Go.Proofs.Ytbdfgbobipognaa
