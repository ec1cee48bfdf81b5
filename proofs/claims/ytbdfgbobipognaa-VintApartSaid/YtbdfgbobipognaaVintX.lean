/-
  The walks of the laws VintApart, VintWords, VintBack.
-/
import Derived.Test.YtbdfgbobipognaaVintW
namespace Go.Proofs.Ytbdfgbobipognaa
open Go.RowKit
set_option linter.unusedVariables false
set_option linter.unusedSimpArgs false

set_option maxRecDepth 100000 in
set_option maxHeartbeats 1000000 in
theorem walkApart (m n : Nat) (hm : m < 18446744073709551616) (hn : n < 18446744073709551616) (w : World) :
    Calls Try.prog 9 #[.int .u64 m, .int .u64 n] w fun e w' => e = .returned (.bool true) ∧ Grows w w' := by
  obtain ⟨i0, hi, hz0, hz1, hz2⟩ := info_parts info5
  have hmx : Try.prog.follows .mixedOrders = true := by kernel_rfl
  have hput1 := Lib.hid (fun w => vPut m hm w)
  have hput2 := Lib.hid (fun w => vPut n hn w)
  have Hm := Lib.hid hm
  have Hn := Lib.hid hn
  clear hm hn
  obtain ⟨hl1, hl2⟩ := put_len m
  obtain ⟨hl3, hl4⟩ := put_len n
  go_enter Try.func9, Try.ntmps9
  go_wp2_with fail
  refine (hput1.out _).mono ?_
  rintro e w1 ⟨v1, rfl, ho1, hg1⟩
  go_wp2_with fail
  refine (hput2.out _).mono ?_
  rintro e w2 ⟨v2, rfl, ho2, hg2⟩
  have H2 := Lib.hid (Grows.trans' hg1 hg2)
  have Hb1 := Lib.hid (ho1.byt.grows hg2)
  have Hb2 := Lib.hid ho2.byt
  obtain ⟨a1, c1, rfl⟩ := ho1.byt.slice
  obtain ⟨a2, c2, rfl⟩ := ho2.byt.slice
  clear ho1 ho2 hg1 hg2 hput1 hput2
  have t1 : ¬ ((put m).length : Int) < 1 := by omega
  have t2 : ¬ (10 : Int) < ((put m).length : Int) := by omega
  have t3 : ¬ ((put n).length : Int) < 1 := by omega
  have t4 : ¬ (10 : Int) < ((put n).length : Int) := by omega
  by_cases hmn : m = n
  · have e1 : ((m : Int) == (n : Int)) = true := by rw [beq_iff_eq]; omega
    have Hb2' : Hid (Byt w2 (.slice a2 (put n).length c2) (put m)) := by rw [hmn]; exact Hb2.out
    clear hmn hl1 hl2 hl3 hl4
    go_wp2_with (first | (go_at_call 12; refine (live_any _).mono ?_; rintro e w4 ⟨rfl, hg4⟩) | (refine wpList_conv rfl _ 23 5 9 rfl rfl rfl rfl (.slice a1 (put m).length c1) (put m) rfl Hb1.out ?_) | (refine wpList_conv rfl _ 23 5 9 rfl rfl rfl rfl (.slice a2 (put n).length c2) (put m) rfl Hb2'.out ?_))
    go_ret
    exact ⟨rfl, Grows.trans' H2.out hg4⟩
  · have e1 : ((m : Int) == (n : Int)) = false := by rw [beq_eq_false_iff_ne]; omega
    by_cases hlt : (put n).length < (put m).length
    · have hlt' : ((put n).length : Int) < ((put m).length : Int) := by omega
      have Hl := Lib.hid hlt
      have hne := take_ne m n Hm.out Hn.out hmn
      have Hne := Lib.hid hne
      clear hmn hl1 hl2 hl3 hl4 hlt hne
      go_wp2_with fail
      have hne := Hne.out
      refine specs_region
        #[[], [], [1], [0, 1, 2], [0, 1, 2, 3], [], [5], [0, 1, 2, 3, 4, 5, 6], [0, 1, 2, 3, 4, 5, 6, 7], [0, 1, 2, 3, 4, 5, 6, 7, 8], [0, 1, 2, 3, 4, 5, 6, 7, 8, 9], [0, 1, 2, 3, 4, 5, 6, 7, 8, 9, 10]]
        #[[5], [6], [], [], [], [6], [], [], [], [], [], []]
        #[true, true, true, true, true, true, true, true, true, true, true, true]
        #[.byt ((put m)), .byt ((put n)), .val (.int .i64 (((put n) : List UInt8).length : Int)), .byt ((((put m) : List UInt8).take (((put n) : List UInt8).length))), .val (.string ⟨((((put m) : List UInt8).take (((put n) : List UInt8).length)) : List UInt8).toArray⟩), .byt ((put n)), .val (.string ⟨((put n) : List UInt8).toArray⟩), .val (.bool true), .val (.bool true), .val (.bool true), .val (.bool true), .val (.bool true)]
        hmx ?_ ?_ ?_ ?_
      · rfl
      · rfl
      · refine ⟨?_, ?_, ?_, ?_, ?_, ?_, ?_, ?_, ?_, ?_, ?_, ?_, trivial⟩
        · refine step_intro rfl rfl fun ρ X hc hf hgl hX hp ho => ?_
          change StepOk _ { dst := _, op := Op.move (Operand.tmp 5), type := _, pos := _, after := _, guard := _ } _ _ _
          have e5 : ρ (.tmp 5) = .slice a1 (put m).length c1 := ho 5 (by decide)
          have k5 : Byt X (ρ (.tmp 5)) (put m) := by rw [e5]; exact Byt.grows (Hb1.out) hX
          refine StepOk.of_run (v := ρ (.tmp 5)) (w' := X) ?_ ⟨k5, Below.refl _ _⟩
          simp [go_sem, execOp]
        · refine step_intro rfl rfl fun ρ X hc hf hgl hX hp ho => ?_
          change StepOk _ { dst := _, op := Op.move (Operand.tmp 6), type := _, pos := _, after := _, guard := _ } _ _ _
          have e6 : ρ (.tmp 6) = .slice a2 (put n).length c2 := ho 6 (by decide)
          have k6 : Byt X (ρ (.tmp 6)) (put n) := by rw [e6]; exact Byt.grows (Hb2.out) hX
          refine StepOk.of_run (v := ρ (.tmp 6)) (w' := X) ?_ ⟨k6, Below.refl _ _⟩
          simp [go_sem, execOp]
        · refine step_intro rfl rfl fun ρ X hc hf hgl hX hp ho => ?_
          change StepOk _ { dst := _, op := Op.call { callee := Callee.builtin Builtin.len, args := #[Operand.tmp 46], argTypes := #[23] }, type := _, pos := _, after := _, guard := _ } _ _ _
          have k46 : Byt X (ρ (.tmp 46)) (put n) := hp 1 (by decide)
          obtain ⟨aa, cc, ee, _⟩ := k46
          refine StepOk.of_run (v := .int .i64 (((put n) : List UInt8).length : Int)) (w' := X) ?_ ⟨rfl, Below.refl _ _⟩
          simp [go_sem, execOp, ee]
        · refine step_intro rfl rfl fun ρ X hc hf hgl hX hp ho => ?_
          change StepOk _ { dst := _, op := Op.slice 23 (Operand.tmp 45) none (some (Operand.tmp 47)) none, type := _, pos := _, after := _, guard := _ } _ _ _
          have k45 : Byt X (ρ (.tmp 45)) (put m) := hp 0 (by decide)
          have k47 : ρ (.tmp 47) = .int .i64 (((put n) : List UInt8).length : Int) := hp 2 (by decide)
          obtain ⟨aa, cc, hr, hbb⟩ := sliceTo_byt (P := Try.prog) (T := 23) (H := ((put n) : List UInt8).length) (kh := .i64) rfl hi hz1 k45 (by have := Hl.out; omega)
          refine StepOk.of_run (v := .slice aa (((put n) : List UInt8).length) cc) (w' := X) ?_ ⟨hbb, Below.refl _ _⟩
          simp only [execOp, Option.map_some, Option.map_none, k47, hr, Sem.run_bind, Sem.run_pure, Result.andThen_ok]
        · refine step_intro rfl rfl fun ρ X hc hf hgl hX hp ho => ?_
          change StepOk _ { dst := _, op := Op.convert 23 9 (Operand.tmp 48), type := _, pos := _, after := _, guard := _ } _ _ _
          have k48 : Byt X (ρ (.tmp 48)) (((put m) : List UInt8).take (((put n) : List UInt8).length)) := hp 3 (by decide)
          refine StepOk.of_run (v := .string ⟨((((put m) : List UInt8).take (((put n) : List UInt8).length)) : List UInt8).toArray⟩) (w' := X) ?_ ⟨rfl, Below.refl _ _⟩
          have hr := run_string (P := Try.prog) (T := 23) (e := 5) (S := 9) rfl rfl rfl k48
          simp only [execOp, Sem.run_bind, hr, Result.andThen_ok, Sem.run_pure]
        · refine step_intro rfl rfl fun ρ X hc hf hgl hX hp ho => ?_
          change StepOk _ { dst := _, op := Op.move (Operand.tmp 6), type := _, pos := _, after := _, guard := _ } _ _ _
          have e6 : ρ (.tmp 6) = .slice a2 (put n).length c2 := ho 6 (by decide)
          have k6 : Byt X (ρ (.tmp 6)) (put n) := by rw [e6]; exact Byt.grows (Hb2.out) hX
          refine StepOk.of_run (v := ρ (.tmp 6)) (w' := X) ?_ ⟨k6, Below.refl _ _⟩
          simp [go_sem, execOp]
        · refine step_intro rfl rfl fun ρ X hc hf hgl hX hp ho => ?_
          change StepOk _ { dst := _, op := Op.convert 23 9 (Operand.tmp 50), type := _, pos := _, after := _, guard := _ } _ _ _
          have k50 : Byt X (ρ (.tmp 50)) (put n) := hp 5 (by decide)
          refine StepOk.of_run (v := .string ⟨((put n) : List UInt8).toArray⟩) (w' := X) ?_ ⟨rfl, Below.refl _ _⟩
          have hr := run_string (P := Try.prog) (T := 23) (e := 5) (S := 9) rfl rfl rfl k50
          simp only [execOp, Sem.run_bind, hr, Result.andThen_ok, Sem.run_pure]
        · refine step_intro rfl rfl fun ρ X hc hf hgl hX hp ho => ?_
          change StepOk _ { dst := _, op := Op.binOp BinOp.neq 9 (Operand.tmp 49) (Operand.tmp 51) 9, type := _, pos := _, after := _, guard := _ } _ _ _
          have k49 : ρ (.tmp 49) = .string ⟨((((put m) : List UInt8).take (((put n) : List UInt8).length)) : List UInt8).toArray⟩ := hp 4 (by decide)
          have k51 : ρ (.tmp 51) = .string ⟨((put n) : List UInt8).toArray⟩ := hp 6 (by decide)
          refine StepOk.of_run (v := .bool true) (w' := X) ?_ ⟨rfl, Below.refl _ _⟩
          simp [go_sem, execOp, hc, hf, k49, k51, hne]
        · refine step_intro rfl rfl fun ρ X hc hf hgl hX hp ho => ?_
          change StepOk _ { dst := _, op := Op.move (Operand.tmp 52), type := _, pos := _, after := _, guard := _ } _ _ _
          have k52 : ρ (.tmp 52) = .bool true := hp 7 (by decide)
          refine StepOk.of_run (v := .bool true) (w' := X) ?_ ⟨rfl, Below.refl _ _⟩
          simp [go_sem, execOp, hc, hf, k52]
        · refine step_intro rfl rfl fun ρ X hc hf hgl hX hp ho => ?_
          change StepOk _ { dst := _, op := Op.call { callee := Callee.value (Operand.func 12), args := #[], argTypes := #[] }, type := _, pos := _, after := _, guard := _ } _ _ _
          refine StepOk.of_call (f := 12) (args := #[]) (w' := X) ?_ (live_any X) ?_
          · simp [go_sem, execOp, hc, hf]
          · rintro e w'' ⟨rfl, hg'⟩; exact ⟨_, rfl, rfl, hg'⟩
        · refine step_intro rfl rfl fun ρ X hc hf hgl hX hp ho => ?_
          change StepOk _ { dst := _, op := Op.pick (Operand.tmp 53) (Operand.tmp 54) (Operand.const (Value.bool false)), type := _, pos := _, after := _, guard := _ } _ _ _
          have k53 : ρ (.tmp 53) = .bool true := hp 8 (by decide)
          have k54 : ρ (.tmp 54) = .bool true := hp 9 (by decide)
          refine StepOk.of_run (v := .bool true) (w' := X) ?_ ⟨rfl, Below.refl _ _⟩
          simp [go_sem, execOp, hc, hf, k53, k54]
        · refine step_intro rfl rfl fun ρ X hc hf hgl hX hp ho => ?_
          change StepOk _ { dst := _, op := Op.assign (Operand.tmp 55), type := _, pos := _, after := _, guard := _ } _ _ _
          have k55 : ρ (.tmp 55) = .bool true := hp 10 (by decide)
          refine StepOk.of_run (v := .bool true) (w' := X) ?_ ⟨rfl, Below.refl _ _⟩
          simp [go_sem, execOp, hc, hf, k55]
      · intro a W hb
        have k0 : a.tmps.getD 4 undef = .bool true := hb.done' 11 4 rfl rfl
        have hd := hb.defers
        have He := Lib.hid hb.ext
        clear hb hne
        go_wp2_with fail
        exact retTrue rfl hd k0 (Grows.trans' H2.out He.out)
    · have hlt' : ¬ ((put n).length : Int) < ((put m).length : Int) := by omega
      have Hl := Lib.hid hlt
      have hne := take_ne n m Hn.out Hm.out (fun e => hmn e.symm)
      have Hne := Lib.hid hne
      clear hmn hl1 hl2 hl3 hl4 hlt hne
      go_wp2_with fail
      have hne := Hne.out
      refine specs_region
        #[[], [], [1], [0, 1, 2], [0, 1, 2, 3], [], [5], [0, 1, 2, 3, 4, 5, 6], [0, 1, 2, 3, 4, 5, 6, 7], [0, 1, 2, 3, 4, 5, 6, 7, 8], [0, 1, 2, 3, 4, 5, 6, 7, 8, 9], [0, 1, 2, 3, 4, 5, 6, 7, 8, 9, 10]]
        #[[6], [5], [], [], [], [5], [], [], [], [], [], []]
        #[true, true, true, true, true, true, true, true, true, true, true, true]
        #[.byt ((put n)), .byt ((put m)), .val (.int .i64 (((put m) : List UInt8).length : Int)), .byt ((((put n) : List UInt8).take (((put m) : List UInt8).length))), .val (.string ⟨((((put n) : List UInt8).take (((put m) : List UInt8).length)) : List UInt8).toArray⟩), .byt ((put m)), .val (.string ⟨((put m) : List UInt8).toArray⟩), .val (.bool true), .val (.bool true), .val (.bool true), .val (.bool true), .val (.bool true)]
        hmx ?_ ?_ ?_ ?_
      · rfl
      · rfl
      · refine ⟨?_, ?_, ?_, ?_, ?_, ?_, ?_, ?_, ?_, ?_, ?_, ?_, trivial⟩
        · refine step_intro rfl rfl fun ρ X hc hf hgl hX hp ho => ?_
          change StepOk _ { dst := _, op := Op.move (Operand.tmp 6), type := _, pos := _, after := _, guard := _ } _ _ _
          have e6 : ρ (.tmp 6) = .slice a2 (put n).length c2 := ho 6 (by decide)
          have k6 : Byt X (ρ (.tmp 6)) (put n) := by rw [e6]; exact Byt.grows (Hb2.out) hX
          refine StepOk.of_run (v := ρ (.tmp 6)) (w' := X) ?_ ⟨k6, Below.refl _ _⟩
          simp [go_sem, execOp]
        · refine step_intro rfl rfl fun ρ X hc hf hgl hX hp ho => ?_
          change StepOk _ { dst := _, op := Op.move (Operand.tmp 5), type := _, pos := _, after := _, guard := _ } _ _ _
          have e5 : ρ (.tmp 5) = .slice a1 (put m).length c1 := ho 5 (by decide)
          have k5 : Byt X (ρ (.tmp 5)) (put m) := by rw [e5]; exact Byt.grows (Hb1.out) hX
          refine StepOk.of_run (v := ρ (.tmp 5)) (w' := X) ?_ ⟨k5, Below.refl _ _⟩
          simp [go_sem, execOp]
        · refine step_intro rfl rfl fun ρ X hc hf hgl hX hp ho => ?_
          change StepOk _ { dst := _, op := Op.call { callee := Callee.builtin Builtin.len, args := #[Operand.tmp 57], argTypes := #[23] }, type := _, pos := _, after := _, guard := _ } _ _ _
          have k57 : Byt X (ρ (.tmp 57)) (put m) := hp 1 (by decide)
          obtain ⟨aa, cc, ee, _⟩ := k57
          refine StepOk.of_run (v := .int .i64 (((put m) : List UInt8).length : Int)) (w' := X) ?_ ⟨rfl, Below.refl _ _⟩
          simp [go_sem, execOp, ee]
        · refine step_intro rfl rfl fun ρ X hc hf hgl hX hp ho => ?_
          change StepOk _ { dst := _, op := Op.slice 23 (Operand.tmp 56) none (some (Operand.tmp 58)) none, type := _, pos := _, after := _, guard := _ } _ _ _
          have k56 : Byt X (ρ (.tmp 56)) (put n) := hp 0 (by decide)
          have k58 : ρ (.tmp 58) = .int .i64 (((put m) : List UInt8).length : Int) := hp 2 (by decide)
          obtain ⟨aa, cc, hr, hbb⟩ := sliceTo_byt (P := Try.prog) (T := 23) (H := ((put m) : List UInt8).length) (kh := .i64) rfl hi hz1 k56 (by have := Hl.out; omega)
          refine StepOk.of_run (v := .slice aa (((put m) : List UInt8).length) cc) (w' := X) ?_ ⟨hbb, Below.refl _ _⟩
          simp only [execOp, Option.map_some, Option.map_none, k58, hr, Sem.run_bind, Sem.run_pure, Result.andThen_ok]
        · refine step_intro rfl rfl fun ρ X hc hf hgl hX hp ho => ?_
          change StepOk _ { dst := _, op := Op.convert 23 9 (Operand.tmp 59), type := _, pos := _, after := _, guard := _ } _ _ _
          have k59 : Byt X (ρ (.tmp 59)) (((put n) : List UInt8).take (((put m) : List UInt8).length)) := hp 3 (by decide)
          refine StepOk.of_run (v := .string ⟨((((put n) : List UInt8).take (((put m) : List UInt8).length)) : List UInt8).toArray⟩) (w' := X) ?_ ⟨rfl, Below.refl _ _⟩
          have hr := run_string (P := Try.prog) (T := 23) (e := 5) (S := 9) rfl rfl rfl k59
          simp only [execOp, Sem.run_bind, hr, Result.andThen_ok, Sem.run_pure]
        · refine step_intro rfl rfl fun ρ X hc hf hgl hX hp ho => ?_
          change StepOk _ { dst := _, op := Op.move (Operand.tmp 5), type := _, pos := _, after := _, guard := _ } _ _ _
          have e5 : ρ (.tmp 5) = .slice a1 (put m).length c1 := ho 5 (by decide)
          have k5 : Byt X (ρ (.tmp 5)) (put m) := by rw [e5]; exact Byt.grows (Hb1.out) hX
          refine StepOk.of_run (v := ρ (.tmp 5)) (w' := X) ?_ ⟨k5, Below.refl _ _⟩
          simp [go_sem, execOp]
        · refine step_intro rfl rfl fun ρ X hc hf hgl hX hp ho => ?_
          change StepOk _ { dst := _, op := Op.convert 23 9 (Operand.tmp 61), type := _, pos := _, after := _, guard := _ } _ _ _
          have k61 : Byt X (ρ (.tmp 61)) (put m) := hp 5 (by decide)
          refine StepOk.of_run (v := .string ⟨((put m) : List UInt8).toArray⟩) (w' := X) ?_ ⟨rfl, Below.refl _ _⟩
          have hr := run_string (P := Try.prog) (T := 23) (e := 5) (S := 9) rfl rfl rfl k61
          simp only [execOp, Sem.run_bind, hr, Result.andThen_ok, Sem.run_pure]
        · refine step_intro rfl rfl fun ρ X hc hf hgl hX hp ho => ?_
          change StepOk _ { dst := _, op := Op.binOp BinOp.neq 9 (Operand.tmp 60) (Operand.tmp 62) 9, type := _, pos := _, after := _, guard := _ } _ _ _
          have k60 : ρ (.tmp 60) = .string ⟨((((put n) : List UInt8).take (((put m) : List UInt8).length)) : List UInt8).toArray⟩ := hp 4 (by decide)
          have k62 : ρ (.tmp 62) = .string ⟨((put m) : List UInt8).toArray⟩ := hp 6 (by decide)
          refine StepOk.of_run (v := .bool true) (w' := X) ?_ ⟨rfl, Below.refl _ _⟩
          simp [go_sem, execOp, hc, hf, k60, k62, hne]
        · refine step_intro rfl rfl fun ρ X hc hf hgl hX hp ho => ?_
          change StepOk _ { dst := _, op := Op.move (Operand.tmp 63), type := _, pos := _, after := _, guard := _ } _ _ _
          have k63 : ρ (.tmp 63) = .bool true := hp 7 (by decide)
          refine StepOk.of_run (v := .bool true) (w' := X) ?_ ⟨rfl, Below.refl _ _⟩
          simp [go_sem, execOp, hc, hf, k63]
        · refine step_intro rfl rfl fun ρ X hc hf hgl hX hp ho => ?_
          change StepOk _ { dst := _, op := Op.call { callee := Callee.value (Operand.func 12), args := #[], argTypes := #[] }, type := _, pos := _, after := _, guard := _ } _ _ _
          refine StepOk.of_call (f := 12) (args := #[]) (w' := X) ?_ (live_any X) ?_
          · simp [go_sem, execOp, hc, hf]
          · rintro e w'' ⟨rfl, hg'⟩; exact ⟨_, rfl, rfl, hg'⟩
        · refine step_intro rfl rfl fun ρ X hc hf hgl hX hp ho => ?_
          change StepOk _ { dst := _, op := Op.pick (Operand.tmp 64) (Operand.tmp 65) (Operand.const (Value.bool false)), type := _, pos := _, after := _, guard := _ } _ _ _
          have k64 : ρ (.tmp 64) = .bool true := hp 8 (by decide)
          have k65 : ρ (.tmp 65) = .bool true := hp 9 (by decide)
          refine StepOk.of_run (v := .bool true) (w' := X) ?_ ⟨rfl, Below.refl _ _⟩
          simp [go_sem, execOp, hc, hf, k64, k65]
        · refine step_intro rfl rfl fun ρ X hc hf hgl hX hp ho => ?_
          change StepOk _ { dst := _, op := Op.assign (Operand.tmp 66), type := _, pos := _, after := _, guard := _ } _ _ _
          have k66 : ρ (.tmp 66) = .bool true := hp 10 (by decide)
          refine StepOk.of_run (v := .bool true) (w' := X) ?_ ⟨rfl, Below.refl _ _⟩
          simp [go_sem, execOp, hc, hf, k66]
      · intro a W hb
        have k0 : a.tmps.getD 4 undef = .bool true := hb.done' 11 4 rfl rfl
        have hd := hb.defers
        have He := Lib.hid hb.ext
        clear hb hne
        go_wp2_with fail
        exact retTrue rfl hd k0 (Grows.trans' H2.out He.out)
end Go.Proofs.Ytbdfgbobipognaa
