/-
  Contracts of the program's own small functions of sha: a word turned, a word out of four bytes, the 64 words of a block.
-/
import Derived.Test.YtkehcpjianadjaaDoorShaF
import Derived.Test.YtkehcpjianadjaaDoorShaI
namespace Go.Proofs.YtkehcpjianadjaaDoor
open Go.RowKit
set_option linter.unusedVariables false
set_option linter.unusedSimpArgs false

attribute [local go_sem] wn_add wn_xor wn_and wn_or wn_not wn_byte wn_low shl24 shl16 shl8

theorem negTurn : ∀ n : Nat, n < 32 → 1 ≤ n → bits .and .u64 (IntKind.u64.wrap (-(n : Int))) 31 = ((32 - n : Nat) : Int) := by decide +kernel

theorem vRotl (x : UInt32) (n : Nat) (h1 : 1 ≤ n) (h2 : n < 32) (w : World) :
    Calls Tryd.prog 41 #[.int .u32 (wn x), .int .i64 (-(n : Int))] w fun e w' => e = .returned (.int .u32 (wn (rotr x n))) ∧ w' = w := by
  obtain ⟨m, hm⟩ : ∃ m : Nat, 32 - n = m := ⟨_, rfl⟩
  have e0 := negTurn n h2 h1
  rw [hm] at e0
  have e1 := wn_shr x n h2
  have e2 := wn_shl x m (by omega)
  have e3 := wn_or (x <<< UInt32.ofNat m) (x >>> UInt32.ofNat n)
  have e4 : rotr x n = x <<< UInt32.ofNat m ||| x >>> UInt32.ofNat n := by unfold rotr; rw [hm, UInt32.or_comm]
  have e5 : (32 : Int) - (m : Int) = (n : Int) := by omega
  have e6 : IntKind.u64.wrap (n : Int) = (n : Int) := wrap_u64 _ (by omega) (by omega)
  rw [e4]
  obtain ⟨c, hc⟩ : ∃ c : Int, IntKind.u64.wrap (-(n : Int)) = c := ⟨_, rfl⟩
  rw [hc] at e0
  go_enter Tryd.func41, Tryd.ntmps41
  go_wp2
  go_ret
  exact ⟨rfl, rfl⟩

theorem vTurned (x : UInt32) (n : Nat) (h1 : 1 ≤ n) (h2 : n < 32) (w : World) :
    Calls Tryd.prog 37 #[.int .u32 (wn x), .int .i64 (n : Int)] w fun e w' => e = .returned (.int .u32 (wn (rotr x n))) ∧ w' = w := by
  go_enter Tryd.func37, Tryd.ntmps37
  go_wp2_with fail
  refine (vRotl x n h1 h2 _).mono ?_
  rintro e w' ⟨rfl, rfl⟩
  go_wp2
  go_ret
  exact ⟨rfl, rfl⟩

theorem vThrice (x : UInt32) (i j k : Nat) (hi : 1 ≤ i ∧ i < 32) (hj : 1 ≤ j ∧ j < 32) (hk : 1 ≤ k ∧ k < 32) (w : World) :
    Calls Tryd.prog 30 #[.int .u32 (wn x), .int .i64 (i : Int), .int .i64 (j : Int), .int .i64 (k : Int)] w fun e w' => e = .returned (.int .u32 (wn (rotr x i ^^^ rotr x j ^^^ rotr x k))) ∧ w' = w := by
  go_enter Tryd.func30, Tryd.ntmps30
  go_wp2_with fail
  refine (vTurned x i hi.1 hi.2 _).mono ?_
  rintro e w' ⟨rfl, rfl⟩
  go_wp2_with fail
  refine (vTurned x j hj.1 hj.2 _).mono ?_
  rintro e w' ⟨rfl, rfl⟩
  go_wp2_with fail
  refine (vTurned x k hk.1 hk.2 _).mono ?_
  rintro e w' ⟨rfl, rfl⟩
  go_wp2
  go_ret
  exact ⟨rfl, rfl⟩

set_option maxRecDepth 100000 in
theorem vTwice (x : UInt32) (i j k : Nat) (hi : 1 ≤ i ∧ i < 32) (hj : 1 ≤ j ∧ j < 32) (hk : 1 ≤ k ∧ k < 32) (w : World) :
    Calls Tryd.prog 36 #[.int .u32 (wn x), .int .i64 (i : Int), .int .i64 (j : Int), .int .i64 (k : Int)] w fun e w' => e = .returned (.int .u32 (wn (rotr x i ^^^ rotr x j ^^^ x >>> UInt32.ofNat k))) ∧ Grows w w' := by
  have hmx : Tryd.prog.follows .mixedOrders = true := by kernel_rfl
  have e1 := wn_shr x k hk.2
  have hk0 : ¬ ((k : Int) < 0) := by omega
  have hk32 : ¬ (32 ≤ (k : Int)) := by omega
  go_enter Tryd.func36, Tryd.ntmps36
  go_wp2_with fail
  refine specs_region
    #[[], [], [0, 1], [], [], [0, 1, 2, 3, 4], [0, 1, 2, 3, 4, 5], [], [], [7, 8], [0, 1, 2, 3, 4, 5, 6, 7, 8, 9], [0, 1, 2, 3, 4, 5, 6, 7, 8, 9, 10]] #[[0], [1], [], [0], [2], [], [], [0], [3], [], [], []] #[true, true, true, true, true, true, true, true, true, true, true, true]
    ((.val ?v0) :: (.val ?v1) :: (.val ?v2) :: (.val ?v3) :: (.val ?v4) :: (.val ?v5) :: (.val ?v6) :: (.val ?v7) :: (.val ?v8) :: (.val ?v9) :: (.val ?v10) :: (.val ?v11) :: []).toArray
    hmx ?chk ?grd ?stp ?rst
  case chk => rfl
  case stp =>
    refine ⟨?_, ?_, ?_, ?_, ?_, ?_, ?_, ?_, ?_, ?_, ?_, ?_, trivial⟩
    · refine step_intro rfl rfl fun ρ X hc hf hgl hX hp ho => ?_
      change StepOk _ { dst := _, op := Op.move (Operand.tmp 0), type := _, pos := _, after := _, guard := _ } _ _ _
      have k0 : ρ (.tmp 0) = .int .u32 (wn x) := ho 0 (by decide)
      clear hp ho
      refine StepOk.of_run (v := ?v0) (w' := X) ?_ ⟨rfl, Below.refl _ _⟩
      clear hX
      go_simp
      all_goals try go_bits
      all_goals try simp only [IntWalk.iteOmega]
      all_goals try go_bits
      all_goals rfl
    · refine step_intro rfl rfl fun ρ X hc hf hgl hX hp ho => ?_
      change StepOk _ { dst := _, op := Op.move (Operand.tmp 1), type := _, pos := _, after := _, guard := _ } _ _ _
      have k1 : ρ (.tmp 1) = .int .i64 (i : Int) := ho 1 (by decide)
      clear hp ho
      refine StepOk.of_run (v := ?v1) (w' := X) ?_ ⟨rfl, Below.refl _ _⟩
      clear hX
      go_simp
      all_goals try go_bits
      all_goals try simp only [IntWalk.iteOmega]
      all_goals try go_bits
      all_goals rfl
    · refine step_intro rfl rfl fun ρ X hc hf hgl hX hp ho => ?_
      change StepOk _ { dst := _, op := Op.call { callee := Callee.value (Operand.func 37), args := #[Operand.tmp 9, Operand.tmp 10], argTypes := #[44, 3] }, type := _, pos := _, after := _, guard := _ } _ _ _
      have k9 : ρ (.tmp 9) = ?v0 := hp 0 (by decide)
      have k10 : ρ (.tmp 10) = ?v1 := hp 1 (by decide)
      clear hp ho
      refine StepOk.of_call (f := 37) (args := #[?v0, ?v1]) (w' := X) ?_ (vTurned x i hi.1 hi.2 _) ?_
      · go_simp
        all_goals try go_bits
        all_goals try rfl
      · rintro e w'' ⟨rfl, rfl⟩; refine ⟨_, rfl, ?_, Below.refl _ _⟩; show _ = ?v2; rfl
    · refine step_intro rfl rfl fun ρ X hc hf hgl hX hp ho => ?_
      change StepOk _ { dst := _, op := Op.move (Operand.tmp 0), type := _, pos := _, after := _, guard := _ } _ _ _
      have k0 : ρ (.tmp 0) = .int .u32 (wn x) := ho 0 (by decide)
      clear hp ho
      refine StepOk.of_run (v := ?v3) (w' := X) ?_ ⟨rfl, Below.refl _ _⟩
      clear hX
      go_simp
      all_goals try go_bits
      all_goals try simp only [IntWalk.iteOmega]
      all_goals try go_bits
      all_goals rfl
    · refine step_intro rfl rfl fun ρ X hc hf hgl hX hp ho => ?_
      change StepOk _ { dst := _, op := Op.move (Operand.tmp 2), type := _, pos := _, after := _, guard := _ } _ _ _
      have k2 : ρ (.tmp 2) = .int .i64 (j : Int) := ho 2 (by decide)
      clear hp ho
      refine StepOk.of_run (v := ?v4) (w' := X) ?_ ⟨rfl, Below.refl _ _⟩
      clear hX
      go_simp
      all_goals try go_bits
      all_goals try simp only [IntWalk.iteOmega]
      all_goals try go_bits
      all_goals rfl
    · refine step_intro rfl rfl fun ρ X hc hf hgl hX hp ho => ?_
      change StepOk _ { dst := _, op := Op.call { callee := Callee.value (Operand.func 37), args := #[Operand.tmp 12, Operand.tmp 13], argTypes := #[44, 3] }, type := _, pos := _, after := _, guard := _ } _ _ _
      have k12 : ρ (.tmp 12) = ?v3 := hp 3 (by decide)
      have k13 : ρ (.tmp 13) = ?v4 := hp 4 (by decide)
      clear hp ho
      refine StepOk.of_call (f := 37) (args := #[?v3, ?v4]) (w' := X) ?_ (vTurned x j hj.1 hj.2 _) ?_
      · go_simp
        all_goals try go_bits
        all_goals try rfl
      · rintro e w'' ⟨rfl, rfl⟩; refine ⟨_, rfl, ?_, Below.refl _ _⟩; show _ = ?v5; rfl
    · refine step_intro rfl rfl fun ρ X hc hf hgl hX hp ho => ?_
      change StepOk _ { dst := _, op := Op.binOp BinOp.xor 44 (Operand.tmp 11) (Operand.tmp 14) 44, type := _, pos := _, after := _, guard := _ } _ _ _
      have k11 : ρ (.tmp 11) = ?v2 := hp 2 (by decide)
      have k14 : ρ (.tmp 14) = ?v5 := hp 5 (by decide)
      clear hp ho
      refine StepOk.of_run (v := ?v6) (w' := X) ?_ ⟨rfl, Below.refl _ _⟩
      clear hX
      go_simp
      all_goals try go_bits
      all_goals try simp only [IntWalk.iteOmega]
      all_goals try go_bits
      all_goals rfl
    · refine step_intro rfl rfl fun ρ X hc hf hgl hX hp ho => ?_
      change StepOk _ { dst := _, op := Op.move (Operand.tmp 0), type := _, pos := _, after := _, guard := _ } _ _ _
      have k0 : ρ (.tmp 0) = .int .u32 (wn x) := ho 0 (by decide)
      clear hp ho
      refine StepOk.of_run (v := ?v7) (w' := X) ?_ ⟨rfl, Below.refl _ _⟩
      clear hX
      go_simp
      all_goals try go_bits
      all_goals try simp only [IntWalk.iteOmega]
      all_goals try go_bits
      all_goals rfl
    · refine step_intro rfl rfl fun ρ X hc hf hgl hX hp ho => ?_
      change StepOk _ { dst := _, op := Op.move (Operand.tmp 3), type := _, pos := _, after := _, guard := _ } _ _ _
      have k3 : ρ (.tmp 3) = .int .i64 (k : Int) := ho 3 (by decide)
      clear hp ho
      refine StepOk.of_run (v := ?v8) (w' := X) ?_ ⟨rfl, Below.refl _ _⟩
      clear hX
      go_simp
      all_goals try go_bits
      all_goals try simp only [IntWalk.iteOmega]
      all_goals try go_bits
      all_goals rfl
    · refine step_intro rfl rfl fun ρ X hc hf hgl hX hp ho => ?_
      change StepOk _ { dst := _, op := Op.binOp BinOp.shr 44 (Operand.tmp 16) (Operand.tmp 17) 3, type := _, pos := _, after := _, guard := _ } _ _ _
      have k16 : ρ (.tmp 16) = ?v7 := hp 7 (by decide)
      have k17 : ρ (.tmp 17) = ?v8 := hp 8 (by decide)
      clear hp ho
      refine StepOk.of_run (v := ?v9) (w' := X) ?_ ⟨rfl, Below.refl _ _⟩
      clear hX
      go_simp
      all_goals try go_bits
      all_goals try simp only [IntWalk.iteOmega]
      all_goals try go_bits
      all_goals rfl
    · refine step_intro rfl rfl fun ρ X hc hf hgl hX hp ho => ?_
      change StepOk _ { dst := _, op := Op.binOp BinOp.xor 44 (Operand.tmp 15) (Operand.tmp 18) 44, type := _, pos := _, after := _, guard := _ } _ _ _
      have k15 : ρ (.tmp 15) = ?v6 := hp 6 (by decide)
      have k18 : ρ (.tmp 18) = ?v9 := hp 9 (by decide)
      clear hp ho
      refine StepOk.of_run (v := ?v10) (w' := X) ?_ ⟨rfl, Below.refl _ _⟩
      clear hX
      go_simp
      all_goals try go_bits
      all_goals try simp only [IntWalk.iteOmega]
      all_goals try go_bits
      all_goals rfl
    · refine step_intro rfl rfl fun ρ X hc hf hgl hX hp ho => ?_
      change StepOk _ { dst := _, op := Op.assign (Operand.tmp 19), type := _, pos := _, after := _, guard := _ } _ _ _
      have k19 : ρ (.tmp 19) = ?v10 := hp 10 (by decide)
      clear hp ho
      refine StepOk.of_run (v := ?v11) (w' := X) ?_ ⟨rfl, Below.refl _ _⟩
      clear hX
      go_simp
      all_goals try go_bits
      all_goals try simp only [IntWalk.iteOmega]
      all_goals try go_bits
      all_goals rfl
  case grd => rfl
  case rst =>
    intro a0 X hb
    have hfr := hb.frame ((8, ?v11) :: (9, ?v0) :: (10, ?v1) :: (11, ?v2) :: (12, ?v3) :: (13, ?v4) :: (14, ?v5) :: (15, ?v6) :: (16, ?v7) :: (17, ?v8) :: (18, ?v9) :: (19, ?v10) :: []) rfl ⟨hb.done' 11 8 rfl rfl, hb.done' 0 9 rfl rfl, hb.done' 1 10 rfl rfl, hb.done' 2 11 rfl rfl, hb.done' 3 12 rfl rfl, hb.done' 4 13 rfl rfl, hb.done' 5 14 rfl rfl, hb.done' 6 15 rfl rfl, hb.done' 7 16 rfl rfl, hb.done' 8 17 rfl rfl, hb.done' 9 18 rfl rfl, hb.done' 10 19 rfl rfl, trivial⟩
    simp only [updL, ↓reduceIte, Nat.reduceEqDiff, Nat.reduceAdd, Nat.zero_add] at hfr
    have HX := Lib.hid hb.ext
    clear hb
    subst hfr
    go_wp2
    go_ret
    exact ⟨rfl, HX.out⟩

set_option maxRecDepth 100000 in
theorem vWordAt (b off n cap : Nat) (l : List UInt8) (k : Nat) (w : World) (hn : n = 64) (hk : k < 16) (hb : ∀ i, i < 64 → w.cell? ⟨b, off + i, none⟩ = some (.int .u8 ((l.getD i 0).toNat : Int))) :
    Calls Tryd.prog 35 #[.slice (some ⟨b, off, none⟩) n cap, .int .i64 ((4 * k : Nat) : Int)] w fun e w' => e = .returned (.int .u32 (wn (wordAt l k))) ∧ Grows w w' := by
  subst hn
  have hmx : Tryd.prog.follows .mixedOrders = true := by kernel_rfl
  obtain ⟨q0, hq0⟩ : ∃ q : Nat, 4 * k = q := ⟨_, rfl⟩
  obtain ⟨q1, hq1⟩ : ∃ q : Nat, (q0 : Int) + 1 = (q : Int) := ⟨q0 + 1, by omega⟩
  obtain ⟨q2, hq2⟩ : ∃ q : Nat, (q0 : Int) + 2 = (q : Int) := ⟨q0 + 2, by omega⟩
  obtain ⟨q3, hq3⟩ : ∃ q : Nat, (q0 : Int) + 3 = (q : Int) := ⟨q0 + 3, by omega⟩
  have b0 : ¬ 64 ≤ (q0 : Int) := by omega
  have b1 : ¬ 64 ≤ (q1 : Int) := by omega
  have b2 : ¬ 64 ≤ (q2 : Int) := by omega
  have b3 : ¬ 64 ≤ (q3 : Int) := by omega
  have Hword : Hid (wordAt l k = word4 (l.getD q0 0) (l.getD q1 0) (l.getD q2 0) (l.getD q3 0)) := by
    show _ = _
    unfold wordAt
    rw [show 4 * k = q0 by omega, show q0 + 1 = q1 by omega, show q0 + 2 = q2 by omega, show q0 + 3 = q3 by omega]
  have c0 := hb q0 (by omega)
  have c1 := hb q1 (by omega)
  have c2 := hb q2 (by omega)
  have c3 := hb q3 (by omega)
  obtain ⟨d0, Hd0⟩ : ∃ d, Hid (l.getD q0 0 = d) := ⟨_, rfl⟩
  obtain ⟨d1, Hd1⟩ : ∃ d, Hid (l.getD q1 0 = d) := ⟨_, rfl⟩
  obtain ⟨d2, Hd2⟩ : ∃ d, Hid (l.getD q2 0 = d) := ⟨_, rfl⟩
  obtain ⟨d3, Hd3⟩ : ∃ d, Hid (l.getD q3 0 = d) := ⟨_, rfl⟩
  rw [Hd0.out] at c0 Hword
  rw [Hd1.out] at c1 Hword
  rw [Hd2.out] at c2 Hword
  rw [Hd3.out] at c3 Hword
  clear hb hk
  rw [hq0]
  clear hq0
  go_enter Tryd.func35, Tryd.ntmps35
  go_wp2_with fail
  refine specs_region
    #[[], [], [0, 1], [0, 1, 2], [0, 1, 2, 3], [0, 1, 2, 3, 4], [], [], [7], [6, 7, 8], [6, 7, 8, 9], [6, 7, 8, 9, 10], [6, 7, 8, 9, 10, 11], [0, 1, 2, 3, 4, 5, 6, 7, 8, 9, 10, 11, 12], [], [], [15], [14, 15, 16], [14, 15, 16, 17], [14, 15, 16, 17, 18], [14, 15, 16, 17, 18, 19], [0, 1, 2, 3, 4, 5, 6, 7, 8, 9, 10, 11, 12, 13, 14, 15, 16, 17, 18, 19, 20], [], [], [23], [22, 23, 24], [22, 23, 24, 25], [22, 23, 24, 25, 26], [0, 1, 2, 3, 4, 5, 6, 7, 8, 9, 10, 11, 12, 13, 14, 15, 16, 17, 18, 19, 20, 21, 22, 23, 24, 25, 26, 27], [0, 1, 2, 3, 4, 5, 6, 7, 8, 9, 10, 11, 12, 13, 14, 15, 16, 17, 18, 19, 20, 21, 22, 23, 24, 25, 26, 27, 28]] #[[0], [1], [], [], [], [], [0], [1], [], [], [], [], [], [], [0], [1], [], [], [], [], [], [], [0], [1], [], [], [], [], [], []] #[true, true, true, true, true, true, true, true, true, true, true, true, true, true, true, true, true, true, true, true, true, true, true, true, true, true, true, true, true, true]
    ((.val ?v0) :: (.val ?v1) :: (.val ?v2) :: (.val ?v3) :: (.val ?v4) :: (.val ?v5) :: (.val ?v6) :: (.val ?v7) :: (.val ?v8) :: (.val ?v9) :: (.val ?v10) :: (.val ?v11) :: (.val ?v12) :: (.val ?v13) :: (.val ?v14) :: (.val ?v15) :: (.val ?v16) :: (.val ?v17) :: (.val ?v18) :: (.val ?v19) :: (.val ?v20) :: (.val ?v21) :: (.val ?v22) :: (.val ?v23) :: (.val ?v24) :: (.val ?v25) :: (.val ?v26) :: (.val ?v27) :: (.val ?v28) :: (.val ?v29) :: []).toArray
    hmx ?chk ?grd ?stp ?rst
  case chk => rfl
  case stp =>
    refine ⟨?_, ?_, ?_, ?_, ?_, ?_, ?_, ?_, ?_, ?_, ?_, ?_, ?_, ?_, ?_, ?_, ?_, ?_, ?_, ?_, ?_, ?_, ?_, ?_, ?_, ?_, ?_, ?_, ?_, ?_, trivial⟩
    · refine step_intro rfl rfl fun ρ X hc hf hgl hX hp ho => ?_
      change StepOk _ { dst := _, op := Op.move (Operand.tmp 0), type := _, pos := _, after := _, guard := _ } _ _ _
      have k0 : ρ (.tmp 0) = .slice (some ⟨b, off, none⟩) 64 cap := ho 0 (by decide)
      clear hp ho
      refine StepOk.of_run (v := ?v0) (w' := X) ?_ ⟨rfl, Below.refl _ _⟩
      clear hX
      go_simp
      all_goals try go_bits
      all_goals try simp only [IntWalk.iteOmega]
      all_goals try go_bits
      all_goals rfl
    · refine step_intro rfl rfl fun ρ X hc hf hgl hX hp ho => ?_
      change StepOk _ { dst := _, op := Op.move (Operand.tmp 1), type := _, pos := _, after := _, guard := _ } _ _ _
      have k1 : ρ (.tmp 1) = .int .i64 (q0 : Int) := ho 1 (by decide)
      clear hp ho
      refine StepOk.of_run (v := ?v1) (w' := X) ?_ ⟨rfl, Below.refl _ _⟩
      clear hX
      go_simp
      all_goals try go_bits
      all_goals try simp only [IntWalk.iteOmega]
      all_goals try go_bits
      all_goals rfl
    · refine step_intro rfl rfl fun ρ X hc hf hgl hX hp ho => ?_
      change StepOk _ { dst := _, op := Op.indexAddr 22 (Operand.tmp 5) (Operand.tmp 6), type := _, pos := _, after := _, guard := _ } _ _ _
      have k5 : ρ (.tmp 5) = ?v0 := hp 0 (by decide)
      have k6 : ρ (.tmp 6) = ?v1 := hp 1 (by decide)
      clear hp ho
      refine StepOk.of_run (v := ?v2) (w' := X) ?_ ⟨rfl, Below.refl _ _⟩
      clear hX
      go_simp
      all_goals try go_bits
      all_goals try simp only [IntWalk.iteOmega]
      all_goals try go_bits
      all_goals rfl
    · refine step_intro rfl rfl fun ρ X hc hf hgl hX hp ho => ?_
      change StepOk _ { dst := _, op := Op.load 5 (Operand.tmp 7), type := _, pos := _, after := _, guard := _ } _ _ _
      have k7 : ρ (.tmp 7) = ?v2 := hp 2 (by decide)
      have c0X := Grows.cell' hX c0
      have c1X := Grows.cell' hX c1
      have c2X := Grows.cell' hX c2
      have c3X := Grows.cell' hX c3
      clear hp ho
      refine StepOk.of_run (v := ?v3) (w' := X) ?_ ⟨rfl, Below.refl _ _⟩
      clear hX
      go_simp
      all_goals try go_bits
      all_goals try simp only [IntWalk.iteOmega]
      all_goals try go_bits
      all_goals rfl
    · refine step_intro rfl rfl fun ρ X hc hf hgl hX hp ho => ?_
      change StepOk _ { dst := _, op := Op.convert 5 44 (Operand.tmp 8), type := _, pos := _, after := _, guard := _ } _ _ _
      have k8 : ρ (.tmp 8) = ?v3 := hp 3 (by decide)
      clear hp ho
      refine StepOk.of_run (v := ?v4) (w' := X) ?_ ⟨rfl, Below.refl _ _⟩
      clear hX
      go_simp
      all_goals try go_bits
      all_goals try simp only [IntWalk.iteOmega]
      all_goals try go_bits
      all_goals rfl
    · refine step_intro rfl rfl fun ρ X hc hf hgl hX hp ho => ?_
      change StepOk _ { dst := _, op := Op.binOp BinOp.shl 44 (Operand.tmp 9) (Operand.const (Value.int IntKind.u64 24)) 57, type := _, pos := _, after := _, guard := _ } _ _ _
      have k9 : ρ (.tmp 9) = ?v4 := hp 4 (by decide)
      clear hp ho
      refine StepOk.of_run (v := ?v5) (w' := X) ?_ ⟨rfl, Below.refl _ _⟩
      clear hX
      go_simp
      all_goals try go_bits
      all_goals try simp only [IntWalk.iteOmega]
      all_goals try go_bits
      all_goals rfl
    · refine step_intro rfl rfl fun ρ X hc hf hgl hX hp ho => ?_
      change StepOk _ { dst := _, op := Op.move (Operand.tmp 0), type := _, pos := _, after := _, guard := _ } _ _ _
      have k0 : ρ (.tmp 0) = .slice (some ⟨b, off, none⟩) 64 cap := ho 0 (by decide)
      clear hp ho
      refine StepOk.of_run (v := ?v6) (w' := X) ?_ ⟨rfl, Below.refl _ _⟩
      clear hX
      go_simp
      all_goals try go_bits
      all_goals try simp only [IntWalk.iteOmega]
      all_goals try go_bits
      all_goals rfl
    · refine step_intro rfl rfl fun ρ X hc hf hgl hX hp ho => ?_
      change StepOk _ { dst := _, op := Op.move (Operand.tmp 1), type := _, pos := _, after := _, guard := _ } _ _ _
      have k1 : ρ (.tmp 1) = .int .i64 (q0 : Int) := ho 1 (by decide)
      clear hp ho
      refine StepOk.of_run (v := ?v7) (w' := X) ?_ ⟨rfl, Below.refl _ _⟩
      clear hX
      go_simp
      all_goals try go_bits
      all_goals try simp only [IntWalk.iteOmega]
      all_goals try go_bits
      all_goals rfl
    · refine step_intro rfl rfl fun ρ X hc hf hgl hX hp ho => ?_
      change StepOk _ { dst := _, op := Op.binOp BinOp.add 3 (Operand.tmp 12) (Operand.const (Value.int IntKind.i64 1)) 3, type := _, pos := _, after := _, guard := _ } _ _ _
      have k12 : ρ (.tmp 12) = ?v7 := hp 7 (by decide)
      clear hp ho
      refine StepOk.of_run (v := ?v8) (w' := X) ?_ ⟨rfl, Below.refl _ _⟩
      clear hX
      go_simp
      all_goals try go_bits
      all_goals try simp only [IntWalk.iteOmega]
      all_goals try go_bits
      all_goals rfl
    · refine step_intro rfl rfl fun ρ X hc hf hgl hX hp ho => ?_
      change StepOk _ { dst := _, op := Op.indexAddr 22 (Operand.tmp 11) (Operand.tmp 13), type := _, pos := _, after := _, guard := _ } _ _ _
      have k11 : ρ (.tmp 11) = ?v6 := hp 6 (by decide)
      have k13 : ρ (.tmp 13) = ?v8 := hp 8 (by decide)
      clear hp ho
      refine StepOk.of_run (v := ?v9) (w' := X) ?_ ⟨rfl, Below.refl _ _⟩
      clear hX
      go_simp
      all_goals try go_bits
      all_goals try simp only [IntWalk.iteOmega]
      all_goals try go_bits
      all_goals rfl
    · refine step_intro rfl rfl fun ρ X hc hf hgl hX hp ho => ?_
      change StepOk _ { dst := _, op := Op.load 5 (Operand.tmp 14), type := _, pos := _, after := _, guard := _ } _ _ _
      have k14 : ρ (.tmp 14) = ?v9 := hp 9 (by decide)
      have c0X := Grows.cell' hX c0
      have c1X := Grows.cell' hX c1
      have c2X := Grows.cell' hX c2
      have c3X := Grows.cell' hX c3
      clear hp ho
      refine StepOk.of_run (v := ?v10) (w' := X) ?_ ⟨rfl, Below.refl _ _⟩
      clear hX
      go_simp
      all_goals try go_bits
      all_goals try simp only [IntWalk.iteOmega]
      all_goals try go_bits
      all_goals rfl
    · refine step_intro rfl rfl fun ρ X hc hf hgl hX hp ho => ?_
      change StepOk _ { dst := _, op := Op.convert 5 44 (Operand.tmp 15), type := _, pos := _, after := _, guard := _ } _ _ _
      have k15 : ρ (.tmp 15) = ?v10 := hp 10 (by decide)
      clear hp ho
      refine StepOk.of_run (v := ?v11) (w' := X) ?_ ⟨rfl, Below.refl _ _⟩
      clear hX
      go_simp
      all_goals try go_bits
      all_goals try simp only [IntWalk.iteOmega]
      all_goals try go_bits
      all_goals rfl
    · refine step_intro rfl rfl fun ρ X hc hf hgl hX hp ho => ?_
      change StepOk _ { dst := _, op := Op.binOp BinOp.shl 44 (Operand.tmp 16) (Operand.const (Value.int IntKind.u64 16)) 57, type := _, pos := _, after := _, guard := _ } _ _ _
      have k16 : ρ (.tmp 16) = ?v11 := hp 11 (by decide)
      clear hp ho
      refine StepOk.of_run (v := ?v12) (w' := X) ?_ ⟨rfl, Below.refl _ _⟩
      clear hX
      go_simp
      all_goals try go_bits
      all_goals try simp only [IntWalk.iteOmega]
      all_goals try go_bits
      all_goals rfl
    · refine step_intro rfl rfl fun ρ X hc hf hgl hX hp ho => ?_
      change StepOk _ { dst := _, op := Op.binOp BinOp.or 44 (Operand.tmp 10) (Operand.tmp 17) 44, type := _, pos := _, after := _, guard := _ } _ _ _
      have k10 : ρ (.tmp 10) = ?v5 := hp 5 (by decide)
      have k17 : ρ (.tmp 17) = ?v12 := hp 12 (by decide)
      clear hp ho
      refine StepOk.of_run (v := ?v13) (w' := X) ?_ ⟨rfl, Below.refl _ _⟩
      clear hX
      go_simp
      all_goals try go_bits
      all_goals try simp only [IntWalk.iteOmega]
      all_goals try go_bits
      all_goals rfl
    · refine step_intro rfl rfl fun ρ X hc hf hgl hX hp ho => ?_
      change StepOk _ { dst := _, op := Op.move (Operand.tmp 0), type := _, pos := _, after := _, guard := _ } _ _ _
      have k0 : ρ (.tmp 0) = .slice (some ⟨b, off, none⟩) 64 cap := ho 0 (by decide)
      clear hp ho
      refine StepOk.of_run (v := ?v14) (w' := X) ?_ ⟨rfl, Below.refl _ _⟩
      clear hX
      go_simp
      all_goals try go_bits
      all_goals try simp only [IntWalk.iteOmega]
      all_goals try go_bits
      all_goals rfl
    · refine step_intro rfl rfl fun ρ X hc hf hgl hX hp ho => ?_
      change StepOk _ { dst := _, op := Op.move (Operand.tmp 1), type := _, pos := _, after := _, guard := _ } _ _ _
      have k1 : ρ (.tmp 1) = .int .i64 (q0 : Int) := ho 1 (by decide)
      clear hp ho
      refine StepOk.of_run (v := ?v15) (w' := X) ?_ ⟨rfl, Below.refl _ _⟩
      clear hX
      go_simp
      all_goals try go_bits
      all_goals try simp only [IntWalk.iteOmega]
      all_goals try go_bits
      all_goals rfl
    · refine step_intro rfl rfl fun ρ X hc hf hgl hX hp ho => ?_
      change StepOk _ { dst := _, op := Op.binOp BinOp.add 3 (Operand.tmp 20) (Operand.const (Value.int IntKind.i64 2)) 3, type := _, pos := _, after := _, guard := _ } _ _ _
      have k20 : ρ (.tmp 20) = ?v15 := hp 15 (by decide)
      clear hp ho
      refine StepOk.of_run (v := ?v16) (w' := X) ?_ ⟨rfl, Below.refl _ _⟩
      clear hX
      go_simp
      all_goals try go_bits
      all_goals try simp only [IntWalk.iteOmega]
      all_goals try go_bits
      all_goals rfl
    · refine step_intro rfl rfl fun ρ X hc hf hgl hX hp ho => ?_
      change StepOk _ { dst := _, op := Op.indexAddr 22 (Operand.tmp 19) (Operand.tmp 21), type := _, pos := _, after := _, guard := _ } _ _ _
      have k19 : ρ (.tmp 19) = ?v14 := hp 14 (by decide)
      have k21 : ρ (.tmp 21) = ?v16 := hp 16 (by decide)
      clear hp ho
      refine StepOk.of_run (v := ?v17) (w' := X) ?_ ⟨rfl, Below.refl _ _⟩
      clear hX
      go_simp
      all_goals try go_bits
      all_goals try simp only [IntWalk.iteOmega]
      all_goals try go_bits
      all_goals rfl
    · refine step_intro rfl rfl fun ρ X hc hf hgl hX hp ho => ?_
      change StepOk _ { dst := _, op := Op.load 5 (Operand.tmp 22), type := _, pos := _, after := _, guard := _ } _ _ _
      have k22 : ρ (.tmp 22) = ?v17 := hp 17 (by decide)
      have c0X := Grows.cell' hX c0
      have c1X := Grows.cell' hX c1
      have c2X := Grows.cell' hX c2
      have c3X := Grows.cell' hX c3
      clear hp ho
      refine StepOk.of_run (v := ?v18) (w' := X) ?_ ⟨rfl, Below.refl _ _⟩
      clear hX
      go_simp
      all_goals try go_bits
      all_goals try simp only [IntWalk.iteOmega]
      all_goals try go_bits
      all_goals rfl
    · refine step_intro rfl rfl fun ρ X hc hf hgl hX hp ho => ?_
      change StepOk _ { dst := _, op := Op.convert 5 44 (Operand.tmp 23), type := _, pos := _, after := _, guard := _ } _ _ _
      have k23 : ρ (.tmp 23) = ?v18 := hp 18 (by decide)
      clear hp ho
      refine StepOk.of_run (v := ?v19) (w' := X) ?_ ⟨rfl, Below.refl _ _⟩
      clear hX
      go_simp
      all_goals try go_bits
      all_goals try simp only [IntWalk.iteOmega]
      all_goals try go_bits
      all_goals rfl
    · refine step_intro rfl rfl fun ρ X hc hf hgl hX hp ho => ?_
      change StepOk _ { dst := _, op := Op.binOp BinOp.shl 44 (Operand.tmp 24) (Operand.const (Value.int IntKind.u64 8)) 57, type := _, pos := _, after := _, guard := _ } _ _ _
      have k24 : ρ (.tmp 24) = ?v19 := hp 19 (by decide)
      clear hp ho
      refine StepOk.of_run (v := ?v20) (w' := X) ?_ ⟨rfl, Below.refl _ _⟩
      clear hX
      go_simp
      all_goals try go_bits
      all_goals try simp only [IntWalk.iteOmega]
      all_goals try go_bits
      all_goals rfl
    · refine step_intro rfl rfl fun ρ X hc hf hgl hX hp ho => ?_
      change StepOk _ { dst := _, op := Op.binOp BinOp.or 44 (Operand.tmp 18) (Operand.tmp 25) 44, type := _, pos := _, after := _, guard := _ } _ _ _
      have k18 : ρ (.tmp 18) = ?v13 := hp 13 (by decide)
      have k25 : ρ (.tmp 25) = ?v20 := hp 20 (by decide)
      clear hp ho
      refine StepOk.of_run (v := ?v21) (w' := X) ?_ ⟨rfl, Below.refl _ _⟩
      clear hX
      go_simp
      all_goals try go_bits
      all_goals try simp only [IntWalk.iteOmega]
      all_goals try go_bits
      all_goals rfl
    · refine step_intro rfl rfl fun ρ X hc hf hgl hX hp ho => ?_
      change StepOk _ { dst := _, op := Op.move (Operand.tmp 0), type := _, pos := _, after := _, guard := _ } _ _ _
      have k0 : ρ (.tmp 0) = .slice (some ⟨b, off, none⟩) 64 cap := ho 0 (by decide)
      clear hp ho
      refine StepOk.of_run (v := ?v22) (w' := X) ?_ ⟨rfl, Below.refl _ _⟩
      clear hX
      go_simp
      all_goals try go_bits
      all_goals try simp only [IntWalk.iteOmega]
      all_goals try go_bits
      all_goals rfl
    · refine step_intro rfl rfl fun ρ X hc hf hgl hX hp ho => ?_
      change StepOk _ { dst := _, op := Op.move (Operand.tmp 1), type := _, pos := _, after := _, guard := _ } _ _ _
      have k1 : ρ (.tmp 1) = .int .i64 (q0 : Int) := ho 1 (by decide)
      clear hp ho
      refine StepOk.of_run (v := ?v23) (w' := X) ?_ ⟨rfl, Below.refl _ _⟩
      clear hX
      go_simp
      all_goals try go_bits
      all_goals try simp only [IntWalk.iteOmega]
      all_goals try go_bits
      all_goals rfl
    · refine step_intro rfl rfl fun ρ X hc hf hgl hX hp ho => ?_
      change StepOk _ { dst := _, op := Op.binOp BinOp.add 3 (Operand.tmp 28) (Operand.const (Value.int IntKind.i64 3)) 3, type := _, pos := _, after := _, guard := _ } _ _ _
      have k28 : ρ (.tmp 28) = ?v23 := hp 23 (by decide)
      clear hp ho
      refine StepOk.of_run (v := ?v24) (w' := X) ?_ ⟨rfl, Below.refl _ _⟩
      clear hX
      go_simp
      all_goals try go_bits
      all_goals try simp only [IntWalk.iteOmega]
      all_goals try go_bits
      all_goals rfl
    · refine step_intro rfl rfl fun ρ X hc hf hgl hX hp ho => ?_
      change StepOk _ { dst := _, op := Op.indexAddr 22 (Operand.tmp 27) (Operand.tmp 29), type := _, pos := _, after := _, guard := _ } _ _ _
      have k27 : ρ (.tmp 27) = ?v22 := hp 22 (by decide)
      have k29 : ρ (.tmp 29) = ?v24 := hp 24 (by decide)
      clear hp ho
      refine StepOk.of_run (v := ?v25) (w' := X) ?_ ⟨rfl, Below.refl _ _⟩
      clear hX
      go_simp
      all_goals try go_bits
      all_goals try simp only [IntWalk.iteOmega]
      all_goals try go_bits
      all_goals rfl
    · refine step_intro rfl rfl fun ρ X hc hf hgl hX hp ho => ?_
      change StepOk _ { dst := _, op := Op.load 5 (Operand.tmp 30), type := _, pos := _, after := _, guard := _ } _ _ _
      have k30 : ρ (.tmp 30) = ?v25 := hp 25 (by decide)
      have c0X := Grows.cell' hX c0
      have c1X := Grows.cell' hX c1
      have c2X := Grows.cell' hX c2
      have c3X := Grows.cell' hX c3
      clear hp ho
      refine StepOk.of_run (v := ?v26) (w' := X) ?_ ⟨rfl, Below.refl _ _⟩
      clear hX
      go_simp
      all_goals try go_bits
      all_goals try simp only [IntWalk.iteOmega]
      all_goals try go_bits
      all_goals rfl
    · refine step_intro rfl rfl fun ρ X hc hf hgl hX hp ho => ?_
      change StepOk _ { dst := _, op := Op.convert 5 44 (Operand.tmp 31), type := _, pos := _, after := _, guard := _ } _ _ _
      have k31 : ρ (.tmp 31) = ?v26 := hp 26 (by decide)
      clear hp ho
      refine StepOk.of_run (v := ?v27) (w' := X) ?_ ⟨rfl, Below.refl _ _⟩
      clear hX
      go_simp
      all_goals try go_bits
      all_goals try simp only [IntWalk.iteOmega]
      all_goals try go_bits
      all_goals rfl
    · refine step_intro rfl rfl fun ρ X hc hf hgl hX hp ho => ?_
      change StepOk _ { dst := _, op := Op.binOp BinOp.or 44 (Operand.tmp 26) (Operand.tmp 32) 44, type := _, pos := _, after := _, guard := _ } _ _ _
      have k26 : ρ (.tmp 26) = ?v21 := hp 21 (by decide)
      have k32 : ρ (.tmp 32) = ?v27 := hp 27 (by decide)
      clear hp ho
      refine StepOk.of_run (v := ?v28) (w' := X) ?_ ⟨rfl, Below.refl _ _⟩
      clear hX
      go_simp
      all_goals try go_bits
      all_goals try simp only [IntWalk.iteOmega]
      all_goals try go_bits
      all_goals rfl
    · refine step_intro rfl rfl fun ρ X hc hf hgl hX hp ho => ?_
      change StepOk _ { dst := _, op := Op.assign (Operand.tmp 33), type := _, pos := _, after := _, guard := _ } _ _ _
      have k33 : ρ (.tmp 33) = ?v28 := hp 28 (by decide)
      clear hp ho
      refine StepOk.of_run (v := ?v29) (w' := X) ?_ ⟨rfl, Below.refl _ _⟩
      clear hX
      go_simp
      all_goals try go_bits
      all_goals try simp only [IntWalk.iteOmega]
      all_goals try go_bits
      all_goals rfl
  case grd => rfl
  case rst =>
    intro a0 X hb
    have hfr := hb.frame ((4, ?v29) :: (5, ?v0) :: (6, ?v1) :: (7, ?v2) :: (8, ?v3) :: (9, ?v4) :: (10, ?v5) :: (11, ?v6) :: (12, ?v7) :: (13, ?v8) :: (14, ?v9) :: (15, ?v10) :: (16, ?v11) :: (17, ?v12) :: (18, ?v13) :: (19, ?v14) :: (20, ?v15) :: (21, ?v16) :: (22, ?v17) :: (23, ?v18) :: (24, ?v19) :: (25, ?v20) :: (26, ?v21) :: (27, ?v22) :: (28, ?v23) :: (29, ?v24) :: (30, ?v25) :: (31, ?v26) :: (32, ?v27) :: (33, ?v28) :: []) rfl ⟨hb.done' 29 4 rfl rfl, hb.done' 0 5 rfl rfl, hb.done' 1 6 rfl rfl, hb.done' 2 7 rfl rfl, hb.done' 3 8 rfl rfl, hb.done' 4 9 rfl rfl, hb.done' 5 10 rfl rfl, hb.done' 6 11 rfl rfl, hb.done' 7 12 rfl rfl, hb.done' 8 13 rfl rfl, hb.done' 9 14 rfl rfl, hb.done' 10 15 rfl rfl, hb.done' 11 16 rfl rfl, hb.done' 12 17 rfl rfl, hb.done' 13 18 rfl rfl, hb.done' 14 19 rfl rfl, hb.done' 15 20 rfl rfl, hb.done' 16 21 rfl rfl, hb.done' 17 22 rfl rfl, hb.done' 18 23 rfl rfl, hb.done' 19 24 rfl rfl, hb.done' 20 25 rfl rfl, hb.done' 21 26 rfl rfl, hb.done' 22 27 rfl rfl, hb.done' 23 28 rfl rfl, hb.done' 24 29 rfl rfl, hb.done' 25 30 rfl rfl, hb.done' 26 31 rfl rfl, hb.done' 27 32 rfl rfl, hb.done' 28 33 rfl rfl, trivial⟩
    simp only [updL, ↓reduceIte, Nat.reduceEqDiff, Nat.reduceAdd, Nat.zero_add] at hfr
    have HX := Lib.hid hb.ext
    clear hb
    subst hfr
    go_wp2
    go_ret
    exact ⟨by rw [Hword.out]; rfl, HX.out⟩
end Go.Proofs.YtkehcpjianadjaaDoor
