/-
  What a deed makes of both bodies; whether they are alike; the walk of SlotDoes.
-/
import Derived.Test.YtpodbhimkbadhaaSlY
namespace Go.Proofs.Ytpodbhimkbadhaa
open Go.RowKit
set_option linter.unusedVariables false
set_option linter.unusedSimpArgs false

theorem rInsert {w : World} {B q : Nat} {vL : Value} {t : Nat} {L : List Ce} (h : RB w B q vL t L) (hw : Wf (abs_ t L)) (i : Int) (v : Value) (c : List UInt8) (hv : Byt w v c) (ho : Outside (OR q vL) v) :
    Calls Try.prog 23 #[.pointer (some ⟨q, 0, none⟩), .int .i64 i, v] w fun e w' => e = .returned (.int .i64 (insE (abs_ t L) i c)) ∧ RBIn w' B q (insS (abs_ t L) i c) ∧ But (OR q vL) w w' := by
  unfold insE insS
  rw [abs_len]
  by_cases h1 : i < 0 ∨ (L.length : Int) < i
  · rw [if_pos h1, if_neg (by omega)]
    refine (rInsNone h i h1 v).mono ?_
    rintro e w' ⟨rfl, rfl⟩
    exact ⟨rfl, ⟨_, _, _, h, rfl⟩, But.refl' _ _⟩
  · rw [if_neg h1]
    obtain ⟨j, rfl⟩ := Int.eq_ofNat_of_zero_le (show 0 ≤ i by omega)
    by_cases h2 : 78 < c.length
    · obtain ⟨a, cap, rfl⟩ := hv.slice
      rw [if_pos h2, if_neg (by omega)]
      refine (rInsLong h j (by omega) a _ cap h2).mono ?_
      rintro e w' ⟨rfl, rfl⟩
      exact ⟨rfl, ⟨_, _, _, h, rfl⟩, But.refl' _ _⟩
    · rw [if_neg h2]
      by_cases h3 : freeA (abs_ t L) < 2 + c.length
      · obtain ⟨a, cap, rfl⟩ := hv.slice
        rw [if_pos h3, if_neg (by omega)]
        refine (rInsRoom h hw j (by omega) a _ cap (by omega) h3).mono ?_
        rintro e w' ⟨rfl, hg⟩
        exact ⟨rfl, ⟨_, _, _, h.grows hg, rfl⟩, But.ofGrows hg⟩
      · rw [if_neg h3, if_pos (by omega)]
        exact rInsOk h hw j (by omega) v c hv ho (by omega) (by omega)
theorem rDelete {w : World} {B q : Nat} {vL : Value} {t : Nat} {L : List Ce} (h : RB w B q vL t L) (hw : Wf (abs_ t L)) (i : Int) :
    Calls Try.prog 24 #[.pointer (some ⟨q, 0, none⟩), .int .i64 i] w fun e w' => e = .returned (.int .i64 (delE (abs_ t L) i)) ∧ RBIn w' B q (delS (abs_ t L) i) ∧ But (OR q vL) w w' := by
  unfold delE delS
  rw [abs_len]
  by_cases h1 : i < 0 ∨ (L.length : Int) ≤ i
  · rw [if_pos h1, if_neg (by omega)]
    refine (rDelNo h i h1).mono ?_
    rintro e w' ⟨rfl, rfl⟩
    exact ⟨rfl, ⟨_, _, _, h, rfl⟩, But.refl' _ _⟩
  · rw [if_neg h1, if_pos (by omega)]
    obtain ⟨j, rfl⟩ := Int.eq_ofNat_of_zero_le (show 0 ≤ i by omega)
    exact rDelYes h hw j (by omega)
set_option maxRecDepth 100000 in
set_option maxHeartbeats 2000000 in
theorem vAlike {w : World} {g : Nat} {f : Raw} {A : Bo} (hh : Has w g f A) {B q : Nat} {vL : Value} {t : Nat} {L : List Ce} (h : RB w B q vL t L) (hA : abs_ t L = A) :
    Calls Try.prog 12 #[pb g, .pointer (some ⟨q, 0, none⟩)] w fun e w' => e = .returned (.bool true) ∧ Grows w w' := by
  have hmx : Try.prog.follows .mixedOrders = true := by kernel_rfl
  have hw : Wf (abs_ t L) := by rw [hA]; exact hh.wf
  obtain ⟨n, Hn⟩ : ∃ n, Hid (L.length = n) := ⟨_, rfl⟩
  have HnA : Hid (A.l.length = n) := by show _ = _; rw [← hA, abs_len, Hn.out]
  obtain ⟨r, Hr⟩ : ∃ r, Hid (freeA A = r) := ⟨_, rfl⟩
  obtain ⟨ho, Ho⟩ : ∃ y, Hid (holesA A = y) := ⟨_, rfl⟩
  obtain ⟨Y, HY⟩ : ∃ y, Hid (rowOf (bytesA A) 243 = y) := ⟨_, rfl⟩
  have hn120 : n ≤ 120 := by rw [← HnA.out]; exact hh.wf.ntop.1
  have HLg : Hid (∀ X, Grows w X → Calls Try.prog 18 #[pb g] X fun e w' => e = .returned (.int .i64 (n : Int)) ∧ X = w') := Lib.hid (fun X hX => by rw [← HnA.out]; exact hLen (hh.grows hX))
  have HFg : Hid (∀ X, Grows w X → Calls Try.prog 19 #[pb g] X fun e w' => e = .returned (.int .i64 (r : Int)) ∧ Grows X w') := Lib.hid (fun X hX => by rw [← Hr.out]; exact hFree (hh.grows hX))
  have HFq : Hid (∀ X, Grows w X → Calls Try.prog 26 #[.pointer (some ⟨q, 0, none⟩)] X fun e w' => e = .returned (.int .i64 (r : Int)) ∧ Grows X w') := Lib.hid (fun X hX => by rw [← Hr.out, ← hA]; exact rFree (h.grows hX) hw)
  have HHg : Hid (∀ X, Grows w X → Calls Try.prog 17 #[pb g] X fun e w' => e = .returned (.int .i64 (ho : Int)) ∧ Grows X w') := Lib.hid (fun X hX => by rw [← Ho.out]; exact hHoles (hh.grows hX))
  have HHq : Hid (∀ X, Grows w X → Calls Try.prog 27 #[.pointer (some ⟨q, 0, none⟩)] X fun e w' => e = .returned (.int .i64 (ho : Int)) ∧ Grows X w') := Lib.hid (fun X hX => by rw [← Ho.out, ← hA]; exact rHoles (h.grows hX) hw)
  have HBg : Hid (∀ X, Grows w X → Calls Try.prog 22 #[pb g] X fun e w' => ∃ v, e = .returned v ∧ Byt w' v Y ∧ Grows X w') := Lib.hid (fun X hX => by rw [← HY.out]; exact hBytes (hh.grows hX))
  have HBq : Hid (∀ X, Grows w X → Calls Try.prog 28 #[.pointer (some ⟨q, 0, none⟩)] X fun e w' => ∃ v, e = .returned v ∧ Byt w' v Y ∧ Grows X w') := Lib.hid (fun X hX => by rw [← HY.out, ← hA]; exact rBytes (h.grows hX) hw)
  have HC1 : Hid (∀ X, Grows w X → Calls Try.prog 20 #[pb g, .int .i64 (-1)] X fun e w' => e = .returned (.slice none 0 0) ∧ X = w') := Lib.hid (fun X hX => hCellNo (hh.grows hX) (-1) (.inl (by omega)))
  have HCn : Hid (∀ X, Grows w X → Calls Try.prog 20 #[pb g, .int .i64 (n : Int)] X fun e w' => e = .returned (.slice none 0 0) ∧ X = w') := Lib.hid (fun X hX => hCellNo (hh.grows hX) n (.inr (by rw [HnA.out]; exact Int.le_refl _)))
  have HA := Lib.hid hA
  have Hh := Lib.hid hh
  obtain ⟨la, lc, rfl⟩ := h.form
  rw [Hn.out] at h
  have HR := Lib.hid h
  obtain ⟨c0, c1⟩ := h.cells
  unfold pb at *
  clear h hh hA hw c0
  go_enter Try.func12, Try.ntmps12
  go_wp2
  refine specs_region
    (([] :: [0] :: [] :: [2] :: [2, 3] :: [2, 3, 4] :: [2, 3, 4, 5] :: [0, 1, 2, 3, 4, 5, 6] :: [0, 1, 2, 3, 4, 5, 6, 7] :: [0, 1, 2, 3, 4, 5, 6, 7, 8] :: [0, 1, 2, 3, 4, 5, 6, 7, 8, 9] :: [0, 1, 2, 3, 4, 5, 6, 7, 8] :: [0, 1, 2, 3, 4, 5, 6, 7, 8, 9, 10, 11] :: [0, 1, 2, 3, 4, 5, 6, 7, 8, 9, 10, 11, 12] :: [0, 1, 2, 3, 4, 5, 6, 7, 8, 9, 10, 11, 12, 13] :: [0, 1, 2, 3, 4, 5, 6, 7, 8, 9, 10, 11, 12, 13, 14] :: [0, 1, 2, 3, 4, 5, 6, 7, 8, 9, 10, 11, 12, 13, 14, 15] :: [0, 1, 2, 3, 4, 5, 6, 7, 8, 9, 10, 11, 12, 13, 14, 15, 16] :: [0, 1, 2, 3, 4, 5, 6, 7, 8, 9, 10, 11, 12, 13, 14, 15] :: [0, 1, 2, 3, 4, 5, 6, 7, 8, 9, 10, 11, 12, 13, 14, 15, 16, 17, 18] :: [0, 1, 2, 3, 4, 5, 6, 7, 8, 9, 10, 11, 12, 13, 14, 15, 16, 17, 18, 19] :: [0, 1, 2, 3, 4, 5, 6, 7, 8, 9, 10, 11, 12, 13, 14, 15, 16, 17, 18, 19, 20] :: [0, 1, 2, 3, 4, 5, 6, 7, 8, 9, 10, 11, 12, 13, 14, 15, 16, 17, 18, 19, 20, 21] :: [0, 1, 2, 3, 4, 5, 6, 7, 8, 9, 10, 11, 12, 13, 14, 15, 16, 17, 18, 19, 20, 21, 22] :: [0, 1, 2, 3, 4, 5, 6, 7, 8, 9, 10, 11, 12, 13, 14, 15, 16, 17, 18, 19, 20, 21, 22, 23] :: [0, 1, 2, 3, 4, 5, 6, 7, 8, 9, 10, 11, 12, 13, 14, 15, 16, 17, 18, 19, 20, 21, 22, 23, 24] :: [0, 1, 2, 3, 4, 5, 6, 7, 8, 9, 10, 11, 12, 13, 14, 15, 16, 17, 18, 19, 20, 21, 22] :: [0, 1, 2, 3, 4, 5, 6, 7, 8, 9, 10, 11, 12, 13, 14, 15, 16, 17, 18, 19, 20, 21, 22, 23, 24, 26] :: [0, 1, 2, 3, 4, 5, 6, 7, 8, 9, 10, 11, 12, 13, 14, 15, 16, 17, 18, 19, 20, 21, 22, 23, 24, 26, 27] :: [0, 1, 2, 3, 4, 5, 6, 7, 8, 9, 10, 11, 12, 13, 14, 15, 16, 17, 18, 19, 20, 21, 22, 23, 24, 25, 26, 27, 28] :: [0, 1, 2, 3, 4, 5, 6, 7, 8, 9, 10, 11, 12, 13, 14, 15, 16, 17, 18, 19, 20, 21, 22, 23, 24, 25, 26, 27, 28, 29] :: (0 :: 1 :: 2 :: 3 :: 4 :: 5 :: 6 :: 7 :: 8 :: 9 :: 10 :: 11 :: 12 :: 13 :: 14 :: 15 :: 16 :: 17 :: 18 :: 19 :: 20 :: 21 :: 22 :: 23 :: 24 :: 25 :: 26 :: 27 :: 28 :: 29 :: 30 :: []) :: (0 :: 1 :: 2 :: 3 :: 4 :: 5 :: 6 :: 7 :: 8 :: 9 :: 10 :: 11 :: 12 :: 13 :: 14 :: 15 :: 16 :: 17 :: 18 :: 19 :: 20 :: 21 :: 22 :: 23 :: 24 :: 25 :: 26 :: 27 :: 28 :: 29 :: 30 :: 31 :: []) :: (0 :: 1 :: 2 :: 3 :: 4 :: 5 :: 6 :: 7 :: 8 :: 9 :: 10 :: 11 :: 12 :: 13 :: 14 :: 15 :: 16 :: 17 :: 18 :: 19 :: 20 :: 21 :: 22 :: 23 :: 24 :: 25 :: 26 :: 27 :: 28 :: 29 :: 30 :: 31 :: 32 :: []) :: (0 :: 1 :: 2 :: 3 :: 4 :: 5 :: 6 :: 7 :: 8 :: 9 :: 10 :: 11 :: 12 :: 13 :: 14 :: 15 :: 16 :: 17 :: 18 :: 19 :: 20 :: 21 :: 22 :: 23 :: 24 :: 25 :: 26 :: 27 :: 28 :: 29 :: 30 :: 31 :: 32 :: 33 :: []) :: (0 :: 1 :: 2 :: 3 :: 4 :: 5 :: 6 :: 7 :: 8 :: 9 :: 10 :: 11 :: 12 :: 13 :: 14 :: 15 :: 16 :: 17 :: 18 :: 19 :: 20 :: 21 :: 22 :: 23 :: 24 :: 25 :: 26 :: 27 :: 28 :: 29 :: 30 :: 31 :: 32 :: 33 :: 34 :: []) :: (0 :: 1 :: 2 :: 3 :: 4 :: 5 :: 6 :: 7 :: 8 :: 9 :: 10 :: 11 :: 12 :: 13 :: 14 :: 15 :: 16 :: 17 :: 18 :: 19 :: 20 :: 21 :: 22 :: 23 :: 24 :: 25 :: 26 :: 27 :: 28 :: 29 :: 30 :: 31 :: 32 :: 33 :: 34 :: 35 :: []) :: (0 :: 1 :: 2 :: 3 :: 4 :: 5 :: 6 :: 7 :: 8 :: 9 :: 10 :: 11 :: 12 :: 13 :: 14 :: 15 :: 16 :: 17 :: 18 :: 19 :: 20 :: 21 :: 22 :: 23 :: 24 :: 25 :: 26 :: 27 :: 28 :: 29 :: 30 :: 31 :: 32 :: 33 :: 34 :: 35 :: 36 :: []) :: (0 :: 1 :: 2 :: 3 :: 4 :: 5 :: 6 :: 7 :: 8 :: 9 :: 10 :: 11 :: 12 :: 13 :: 14 :: 15 :: 16 :: 17 :: 18 :: 19 :: 20 :: 21 :: 22 :: 23 :: 24 :: 25 :: 26 :: 27 :: 28 :: 29 :: 30 :: 31 :: 32 :: 33 :: 34 :: 35 :: 36 :: 37 :: []) :: (0 :: 1 :: 2 :: 3 :: 4 :: 5 :: 6 :: 7 :: 8 :: 9 :: 10 :: 11 :: 12 :: 13 :: 14 :: 15 :: 16 :: 17 :: 18 :: 19 :: 20 :: 21 :: 22 :: 23 :: 24 :: 25 :: 26 :: 27 :: 28 :: 29 :: 30 :: 31 :: 32 :: 33 :: 34 :: 35 :: 36 :: 37 :: []) :: (0 :: 1 :: 2 :: 3 :: 4 :: 5 :: 6 :: 7 :: 8 :: 9 :: 10 :: 11 :: 12 :: 13 :: 14 :: 15 :: 16 :: 17 :: 18 :: 19 :: 20 :: 21 :: 22 :: 23 :: 24 :: 25 :: 26 :: 27 :: 28 :: 29 :: 30 :: 31 :: 32 :: 33 :: 34 :: 35 :: 36 :: 37 :: 39 :: []) :: (0 :: 1 :: 2 :: 3 :: 4 :: 5 :: 6 :: 7 :: 8 :: 9 :: 10 :: 11 :: 12 :: 13 :: 14 :: 15 :: 16 :: 17 :: 18 :: 19 :: 20 :: 21 :: 22 :: 23 :: 24 :: 25 :: 26 :: 27 :: 28 :: 29 :: 30 :: 31 :: 32 :: 33 :: 34 :: 35 :: 36 :: 37 :: 39 :: 40 :: []) :: (0 :: 1 :: 2 :: 3 :: 4 :: 5 :: 6 :: 7 :: 8 :: 9 :: 10 :: 11 :: 12 :: 13 :: 14 :: 15 :: 16 :: 17 :: 18 :: 19 :: 20 :: 21 :: 22 :: 23 :: 24 :: 25 :: 26 :: 27 :: 28 :: 29 :: 30 :: 31 :: 32 :: 33 :: 34 :: 35 :: 36 :: 37 :: 39 :: 40 :: 41 :: []) :: (0 :: 1 :: 2 :: 3 :: 4 :: 5 :: 6 :: 7 :: 8 :: 9 :: 10 :: 11 :: 12 :: 13 :: 14 :: 15 :: 16 :: 17 :: 18 :: 19 :: 20 :: 21 :: 22 :: 23 :: 24 :: 25 :: 26 :: 27 :: 28 :: 29 :: 30 :: 31 :: 32 :: 33 :: 34 :: 35 :: 36 :: 37 :: 39 :: 40 :: 41 :: 42 :: []) :: (0 :: 1 :: 2 :: 3 :: 4 :: 5 :: 6 :: 7 :: 8 :: 9 :: 10 :: 11 :: 12 :: 13 :: 14 :: 15 :: 16 :: 17 :: 18 :: 19 :: 20 :: 21 :: 22 :: 23 :: 24 :: 25 :: 26 :: 27 :: 28 :: 29 :: 30 :: 31 :: 32 :: 33 :: 34 :: 35 :: 36 :: 37 :: 38 :: 39 :: 40 :: 41 :: 42 :: 43 :: []) :: (0 :: 1 :: 2 :: 3 :: 4 :: 5 :: 6 :: 7 :: 8 :: 9 :: 10 :: 11 :: 12 :: 13 :: 14 :: 15 :: 16 :: 17 :: 18 :: 19 :: 20 :: 21 :: 22 :: 23 :: 24 :: 25 :: 26 :: 27 :: 28 :: 29 :: 30 :: 31 :: 32 :: 33 :: 34 :: 35 :: 36 :: 37 :: 38 :: 39 :: 40 :: 41 :: 42 :: 43 :: 44 :: []) :: (0 :: 1 :: 2 :: 3 :: 4 :: 5 :: 6 :: 7 :: 8 :: 9 :: 10 :: 11 :: 12 :: 13 :: 14 :: 15 :: 16 :: 17 :: 18 :: 19 :: 20 :: 21 :: 22 :: 23 :: 24 :: 25 :: 26 :: 27 :: 28 :: 29 :: 30 :: 31 :: 32 :: 33 :: 34 :: 35 :: 36 :: 37 :: 38 :: 39 :: 40 :: 41 :: 42 :: 43 :: 44 :: 45 :: []) :: (0 :: 1 :: 2 :: 3 :: 4 :: 5 :: 6 :: 7 :: 8 :: 9 :: 10 :: 11 :: 12 :: 13 :: 14 :: 15 :: 16 :: 17 :: 18 :: 19 :: 20 :: 21 :: 22 :: 23 :: 24 :: 25 :: 26 :: 27 :: 28 :: 29 :: 30 :: 31 :: 32 :: 33 :: 34 :: 35 :: 36 :: 37 :: 38 :: 39 :: 40 :: 41 :: 42 :: 43 :: 44 :: 45 :: 46 :: []) :: []).toArray) (([0] :: [] :: [1] :: [] :: [] :: [] :: [] :: [] :: [] :: [0] :: [] :: [1] :: [] :: [] :: [] :: [] :: [0] :: [] :: [1] :: [] :: [] :: [] :: [] :: [0] :: [] :: [] :: [1] :: [] :: [] :: [] :: [] :: [] :: [0] :: [] :: [] :: [] :: [] :: [] :: [0] :: [1] :: [] :: [] :: [] :: [] :: [] :: [] :: [] :: [] :: []).toArray) ((true :: true :: true :: true :: true :: true :: true :: true :: true :: true :: true :: true :: true :: true :: true :: true :: true :: true :: true :: true :: true :: true :: true :: true :: true :: true :: true :: true :: true :: true :: true :: true :: true :: true :: true :: true :: true :: true :: true :: true :: true :: true :: true :: true :: true :: true :: true :: true :: []).toArray)
    ((.val ?va0) :: (.val ?va1) :: (.val ?va2) :: (.val ?va3) :: (.val ?va4) :: (.val ?va5) :: (.val ?va6) :: (.val ?va7) :: (.val ?va8) :: (.val ?va9) :: (.val ?va10) :: (.val ?va11) :: (.val ?va12) :: (.val ?va13) :: (.val ?va14) :: (.val ?va15) :: (.val ?va16) :: (.val ?va17) :: (.val ?va18) :: (.val ?va19) :: (.val ?va20) :: (.val ?va21) :: (.val ?va22) :: (.val ?va23) :: (.byt (Y)) :: (.val (.string ⟨(Y : List UInt8).toArray⟩)) :: (.val ?va26) :: (.byt (Y)) :: (.val (.string ⟨(Y : List UInt8).toArray⟩)) :: (.val ?va29) :: (.val ?va30) :: (.val ?va31) :: (.val ?va32) :: (.val ?va33) :: (.val ?va34) :: (.val ?va35) :: (.val ?va36) :: (.val ?va37) :: (.val ?va38) :: (.val ?va39) :: (.val ?va40) :: (.val ?va41) :: (.val ?va42) :: (.val ?va43) :: (.val ?va44) :: (.val ?va45) :: (.val ?va46) :: (.val ?va47) :: []).toArray
    hmx ?chka ?grda ?stpa ?rsta
  case chka => rfl
  case stpa =>
    refine ⟨?_, ?_, ?_, ?_, ?_, ?_, ?_, ?_, ?_, ?_, ?_, ?_, ?_, ?_, ?_, ?_, ?_, ?_, ?_, ?_, ?_, ?_, ?_, ?_, ?_, ?_, ?_, ?_, ?_, ?_, ?_, ?_, ?_, ?_, ?_, ?_, ?_, ?_, ?_, ?_, ?_, ?_, ?_, ?_, ?_, ?_, ?_, ?_, trivial⟩
    · refine step_intro rfl rfl fun ρ X hc hf hgl hX hp ho => ?_
      change StepOk _ { dst := _, op := Op.move (Operand.tmp 0), type := _, pos := _, after := _, guard := _ } _ _ _
      have k0 : ρ (.tmp 0) = .pointer (some ⟨g, 0, none⟩) := ho 0 (by decide)
      clear hp ho
      refine StepOk.of_run (v := ?va0) (w' := X) ?_ ⟨rfl, Below.refl _ _⟩
      clear hX
      go_simp
      all_goals try go_bits
      all_goals try simp only [IntWalk.iteOmega]
      all_goals try go_bits
      all_goals rfl
    · refine step_intro rfl rfl fun ρ X hc hf hgl hX hp ho => ?_
      change StepOk _ { dst := _, op := Op.call { callee := Callee.value (Operand.func 18), args := #[Operand.tmp 6], argTypes := #[25] }, type := _, pos := _, after := _, guard := _ } _ _ _
      have k6 : ρ (.tmp 6) = ?va0 := hp 0 (by decide)
      clear hp ho
      refine StepOk.of_call (f := 18) (args := #[?va0]) (w' := X) ?_ (HLg.out X hX) ?_
      · go_simp
        all_goals try go_bits
        all_goals try rfl
      · rintro e w'' ⟨rfl, rfl⟩; refine ⟨_, rfl, ?_, Below.refl _ _⟩; show _ = ?va1; rfl
    · refine step_intro rfl rfl fun ρ X hc hf hgl hX hp ho => ?_
      change StepOk _ { dst := _, op := Op.move (Operand.tmp 1), type := _, pos := _, after := _, guard := _ } _ _ _
      have k1 : ρ (.tmp 1) = .pointer (some ⟨q, 0, none⟩) := ho 1 (by decide)
      clear hp ho
      refine StepOk.of_run (v := ?va2) (w' := X) ?_ ⟨rfl, Below.refl _ _⟩
      clear hX
      go_simp
      all_goals try go_bits
      all_goals try simp only [IntWalk.iteOmega]
      all_goals try go_bits
      all_goals rfl
    · refine step_intro rfl rfl fun ρ X hc hf hgl hX hp ho => ?_
      change StepOk _ { dst := _, op := Op.nilCheck (Operand.tmp 8), type := _, pos := _, after := _, guard := _ } _ _ _
      have k8 : ρ (.tmp 8) = ?va2 := hp 2 (by decide)
      clear hp ho
      refine StepOk.of_run (v := ?va3) (w' := X) ?_ ⟨rfl, Below.refl _ _⟩
      clear hX
      go_simp
      all_goals try go_bits
      all_goals try simp only [IntWalk.iteOmega]
      all_goals try go_bits
      all_goals rfl
    · refine step_intro rfl rfl fun ρ X hc hf hgl hX hp ho => ?_
      change StepOk _ { dst := _, op := Op.fieldAddr 50 (Operand.tmp 9) 1, type := _, pos := _, after := _, guard := _ } _ _ _
      have k9 : ρ (.tmp 9) = ?va3 := hp 3 (by decide)
      clear hp ho
      refine StepOk.of_run (v := ?va4) (w' := X) ?_ ⟨rfl, Below.refl _ _⟩
      clear hX
      go_simp
      all_goals try go_bits
      all_goals try simp only [IntWalk.iteOmega]
      all_goals try go_bits
      all_goals rfl
    · refine step_intro rfl rfl fun ρ X hc hf hgl hX hp ho => ?_
      change StepOk _ { dst := _, op := Op.load 48 (Operand.tmp 10), type := _, pos := _, after := _, guard := _ } _ _ _
      have k10 : ρ (.tmp 10) = ?va4 := hp 4 (by decide)
      have c1X := Grows.cell' hX c1
      clear hp ho
      refine StepOk.of_run (v := ?va5) (w' := X) ?_ ⟨rfl, Below.refl _ _⟩
      clear hX
      go_simp
      all_goals try go_bits
      all_goals try simp only [IntWalk.iteOmega]
      all_goals try go_bits
      all_goals rfl
    · refine step_intro rfl rfl fun ρ X hc hf hgl hX hp ho => ?_
      change StepOk _ { dst := _, op := Op.call { callee := Callee.builtin Builtin.len, args := #[Operand.tmp 11], argTypes := #[48] }, type := _, pos := _, after := _, guard := _ } _ _ _
      have k11 : ρ (.tmp 11) = ?va5 := hp 5 (by decide)
      clear hp ho
      refine StepOk.of_run (v := ?va6) (w' := X) ?_ ⟨rfl, Below.refl _ _⟩
      clear hX
      go_simp
      all_goals try go_bits
      all_goals try simp only [IntWalk.iteOmega]
      all_goals try go_bits
      all_goals rfl
    · refine step_intro rfl rfl fun ρ X hc hf hgl hX hp ho => ?_
      change StepOk _ { dst := _, op := Op.binOp BinOp.neq 3 (Operand.tmp 7) (Operand.tmp 12) 3, type := _, pos := _, after := _, guard := _ } _ _ _
      have k7 : ρ (.tmp 7) = ?va1 := hp 1 (by decide)
      have k12 : ρ (.tmp 12) = ?va6 := hp 6 (by decide)
      clear hp ho
      refine StepOk.of_run (v := ?va7) (w' := X) ?_ ⟨rfl, Below.refl _ _⟩
      clear hX
      go_simp
      all_goals try go_bits
      all_goals try simp only [IntWalk.iteOmega]
      all_goals try go_bits
      all_goals rfl
    · refine step_intro rfl rfl fun ρ X hc hf hgl hX hp ho => ?_
      change StepOk _ { dst := _, op := Op.move (Operand.tmp 13), type := _, pos := _, after := _, guard := _ } _ _ _
      have k13 : ρ (.tmp 13) = ?va7 := hp 7 (by decide)
      clear hp ho
      refine StepOk.of_run (v := ?va8) (w' := X) ?_ ⟨rfl, Below.refl _ _⟩
      clear hX
      go_simp
      all_goals try go_bits
      all_goals try simp only [IntWalk.iteOmega]
      all_goals try go_bits
      all_goals rfl
    · refine step_intro rfl rfl fun ρ X hc hf hgl hX hp ho => ?_
      change StepOk _ { dst := _, op := Op.move (Operand.tmp 0), type := _, pos := _, after := _, guard := _ } _ _ _
      have k0 : ρ (.tmp 0) = .pointer (some ⟨g, 0, none⟩) := ho 0 (by decide)
      clear hp ho
      refine StepOk.of_run (v := ?va9) (w' := X) ?_ ⟨rfl, Below.refl _ _⟩
      clear hX
      go_simp
      all_goals try go_bits
      all_goals try simp only [IntWalk.iteOmega]
      all_goals try go_bits
      all_goals rfl
    · refine step_intro rfl rfl fun ρ X hc hf hgl hX hp ho => ?_
      change StepOk _ { dst := _, op := Op.call { callee := Callee.value (Operand.func 19), args := #[Operand.tmp 15], argTypes := #[25] }, type := _, pos := _, after := _, guard := _ } _ _ _
      have k15 : ρ (.tmp 15) = ?va9 := hp 9 (by decide)
      clear hp ho
      refine StepOk.of_call (f := 19) (args := #[?va9]) (w' := X) ?_ (HFg.out X hX) ?_
      · go_simp
        all_goals try go_bits
        all_goals try rfl
      · rintro e w'' ⟨rfl, hg'⟩; refine ⟨_, rfl, ?_, hg'⟩; show _ = ?va10; rfl
    · refine step_intro rfl rfl fun ρ X hc hf hgl hX hp ho => ?_
      change StepOk _ { dst := _, op := Op.move (Operand.tmp 1), type := _, pos := _, after := _, guard := _ } _ _ _
      have k1 : ρ (.tmp 1) = .pointer (some ⟨q, 0, none⟩) := ho 1 (by decide)
      clear hp ho
      refine StepOk.of_run (v := ?va11) (w' := X) ?_ ⟨rfl, Below.refl _ _⟩
      clear hX
      go_simp
      all_goals try go_bits
      all_goals try simp only [IntWalk.iteOmega]
      all_goals try go_bits
      all_goals rfl
    · refine step_intro rfl rfl fun ρ X hc hf hgl hX hp ho => ?_
      change StepOk _ { dst := _, op := Op.call { callee := Callee.value (Operand.func 26), args := #[Operand.tmp 17], argTypes := #[27] }, type := _, pos := _, after := _, guard := _ } _ _ _
      have k17 : ρ (.tmp 17) = ?va11 := hp 11 (by decide)
      clear hp ho
      refine StepOk.of_call (f := 26) (args := #[?va11]) (w' := X) ?_ (HFq.out X hX) ?_
      · go_simp
        all_goals try go_bits
        all_goals try rfl
      · rintro e w'' ⟨rfl, hg'⟩; refine ⟨_, rfl, ?_, hg'⟩; show _ = ?va12; rfl
    · refine step_intro rfl rfl fun ρ X hc hf hgl hX hp ho => ?_
      change StepOk _ { dst := _, op := Op.binOp BinOp.neq 3 (Operand.tmp 16) (Operand.tmp 18) 3, type := _, pos := _, after := _, guard := _ } _ _ _
      have k16 : ρ (.tmp 16) = ?va10 := hp 10 (by decide)
      have k18 : ρ (.tmp 18) = ?va12 := hp 12 (by decide)
      clear hp ho
      refine StepOk.of_run (v := ?va13) (w' := X) ?_ ⟨rfl, Below.refl _ _⟩
      clear hX
      go_simp
      all_goals try go_bits
      all_goals try simp only [IntWalk.iteOmega]
      all_goals try go_bits
      all_goals rfl
    · refine step_intro rfl rfl fun ρ X hc hf hgl hX hp ho => ?_
      change StepOk _ { dst := _, op := Op.pick (Operand.tmp 14) (Operand.const (Value.bool true)) (Operand.tmp 19), type := _, pos := _, after := _, guard := _ } _ _ _
      have k14 : ρ (.tmp 14) = ?va8 := hp 8 (by decide)
      have k19 : ρ (.tmp 19) = ?va13 := hp 13 (by decide)
      clear hp ho
      refine StepOk.of_run (v := ?va14) (w' := X) ?_ ⟨rfl, Below.refl _ _⟩
      clear hX
      go_simp
      all_goals try go_bits
      all_goals try simp only [IntWalk.iteOmega]
      all_goals try go_bits
      all_goals rfl
    · refine step_intro rfl rfl fun ρ X hc hf hgl hX hp ho => ?_
      change StepOk _ { dst := _, op := Op.move (Operand.tmp 20), type := _, pos := _, after := _, guard := _ } _ _ _
      have k20 : ρ (.tmp 20) = ?va14 := hp 14 (by decide)
      clear hp ho
      refine StepOk.of_run (v := ?va15) (w' := X) ?_ ⟨rfl, Below.refl _ _⟩
      clear hX
      go_simp
      all_goals try go_bits
      all_goals try simp only [IntWalk.iteOmega]
      all_goals try go_bits
      all_goals rfl
    · refine step_intro rfl rfl fun ρ X hc hf hgl hX hp ho => ?_
      change StepOk _ { dst := _, op := Op.move (Operand.tmp 0), type := _, pos := _, after := _, guard := _ } _ _ _
      have k0 : ρ (.tmp 0) = .pointer (some ⟨g, 0, none⟩) := ho 0 (by decide)
      clear hp ho
      refine StepOk.of_run (v := ?va16) (w' := X) ?_ ⟨rfl, Below.refl _ _⟩
      clear hX
      go_simp
      all_goals try go_bits
      all_goals try simp only [IntWalk.iteOmega]
      all_goals try go_bits
      all_goals rfl
    · refine step_intro rfl rfl fun ρ X hc hf hgl hX hp ho => ?_
      change StepOk _ { dst := _, op := Op.call { callee := Callee.value (Operand.func 17), args := #[Operand.tmp 22], argTypes := #[25] }, type := _, pos := _, after := _, guard := _ } _ _ _
      have k22 : ρ (.tmp 22) = ?va16 := hp 16 (by decide)
      clear hp ho
      refine StepOk.of_call (f := 17) (args := #[?va16]) (w' := X) ?_ (HHg.out X hX) ?_
      · go_simp
        all_goals try go_bits
        all_goals try rfl
      · rintro e w'' ⟨rfl, hg'⟩; refine ⟨_, rfl, ?_, hg'⟩; show _ = ?va17; rfl
    · refine step_intro rfl rfl fun ρ X hc hf hgl hX hp ho => ?_
      change StepOk _ { dst := _, op := Op.move (Operand.tmp 1), type := _, pos := _, after := _, guard := _ } _ _ _
      have k1 : ρ (.tmp 1) = .pointer (some ⟨q, 0, none⟩) := ho 1 (by decide)
      clear hp ho
      refine StepOk.of_run (v := ?va18) (w' := X) ?_ ⟨rfl, Below.refl _ _⟩
      clear hX
      go_simp
      all_goals try go_bits
      all_goals try simp only [IntWalk.iteOmega]
      all_goals try go_bits
      all_goals rfl
    · refine step_intro rfl rfl fun ρ X hc hf hgl hX hp ho => ?_
      change StepOk _ { dst := _, op := Op.call { callee := Callee.value (Operand.func 27), args := #[Operand.tmp 24], argTypes := #[27] }, type := _, pos := _, after := _, guard := _ } _ _ _
      have k24 : ρ (.tmp 24) = ?va18 := hp 18 (by decide)
      clear hp ho
      refine StepOk.of_call (f := 27) (args := #[?va18]) (w' := X) ?_ (HHq.out X hX) ?_
      · go_simp
        all_goals try go_bits
        all_goals try rfl
      · rintro e w'' ⟨rfl, hg'⟩; refine ⟨_, rfl, ?_, hg'⟩; show _ = ?va19; rfl
    · refine step_intro rfl rfl fun ρ X hc hf hgl hX hp ho => ?_
      change StepOk _ { dst := _, op := Op.binOp BinOp.neq 3 (Operand.tmp 23) (Operand.tmp 25) 3, type := _, pos := _, after := _, guard := _ } _ _ _
      have k23 : ρ (.tmp 23) = ?va17 := hp 17 (by decide)
      have k25 : ρ (.tmp 25) = ?va19 := hp 19 (by decide)
      clear hp ho
      refine StepOk.of_run (v := ?va20) (w' := X) ?_ ⟨rfl, Below.refl _ _⟩
      clear hX
      go_simp
      all_goals try go_bits
      all_goals try simp only [IntWalk.iteOmega]
      all_goals try go_bits
      all_goals rfl
    · refine step_intro rfl rfl fun ρ X hc hf hgl hX hp ho => ?_
      change StepOk _ { dst := _, op := Op.pick (Operand.tmp 21) (Operand.const (Value.bool true)) (Operand.tmp 26), type := _, pos := _, after := _, guard := _ } _ _ _
      have k21 : ρ (.tmp 21) = ?va15 := hp 15 (by decide)
      have k26 : ρ (.tmp 26) = ?va20 := hp 20 (by decide)
      clear hp ho
      refine StepOk.of_run (v := ?va21) (w' := X) ?_ ⟨rfl, Below.refl _ _⟩
      clear hX
      go_simp
      all_goals try go_bits
      all_goals try simp only [IntWalk.iteOmega]
      all_goals try go_bits
      all_goals rfl
    · refine step_intro rfl rfl fun ρ X hc hf hgl hX hp ho => ?_
      change StepOk _ { dst := _, op := Op.move (Operand.tmp 27), type := _, pos := _, after := _, guard := _ } _ _ _
      have k27 : ρ (.tmp 27) = ?va21 := hp 21 (by decide)
      clear hp ho
      refine StepOk.of_run (v := ?va22) (w' := X) ?_ ⟨rfl, Below.refl _ _⟩
      clear hX
      go_simp
      all_goals try go_bits
      all_goals try simp only [IntWalk.iteOmega]
      all_goals try go_bits
      all_goals rfl
    · refine step_intro rfl rfl fun ρ X hc hf hgl hX hp ho => ?_
      change StepOk _ { dst := _, op := Op.move (Operand.tmp 0), type := _, pos := _, after := _, guard := _ } _ _ _
      have k0 : ρ (.tmp 0) = .pointer (some ⟨g, 0, none⟩) := ho 0 (by decide)
      clear hp ho
      refine StepOk.of_run (v := ?va23) (w' := X) ?_ ⟨rfl, Below.refl _ _⟩
      clear hX
      go_simp
      all_goals try go_bits
      all_goals try simp only [IntWalk.iteOmega]
      all_goals try go_bits
      all_goals rfl
    · refine step_intro rfl rfl fun ρ X hc hf hgl hX hp ho => ?_
      change StepOk _ { dst := _, op := Op.call { callee := Callee.value (Operand.func 22), args := #[Operand.tmp 29], argTypes := #[25] }, type := _, pos := _, after := _, guard := _ } _ _ _
      have k29 : ρ (.tmp 29) = ?va23 := hp 23 (by decide)
      clear hp ho
      refine StepOk.of_call (f := 22) (args := #[.pointer (some ⟨g, 0, none⟩)]) (w' := X) ?_ (HBg.out X hX) ?_
      · go_simp
        all_goals try rfl
      · rintro e w'' ⟨v, rfl, hb', hg'⟩; exact ⟨v, rfl, hb', hg'⟩
    · refine step_intro rfl rfl fun ρ X hc hf hgl hX hp ho => ?_
      change StepOk _ { dst := _, op := Op.convert 30 9 (Operand.tmp 30), type := _, pos := _, after := _, guard := _ } _ _ _
      have k30 := hp 24 (by decide)
      clear hp ho
      have hr := run_string (P := Try.prog) (T := 30) (e := 5) (S := 9) rfl rfl rfl k30
      refine StepOk.of_run (v := .string ⟨(Y : List UInt8).toArray⟩) (w' := X) ?_ ⟨rfl, Below.refl _ _⟩
      simp only [execOp, Sem.run_bind, hr, Result.andThen_ok, Sem.run_pure]
    · refine step_intro rfl rfl fun ρ X hc hf hgl hX hp ho => ?_
      change StepOk _ { dst := _, op := Op.move (Operand.tmp 1), type := _, pos := _, after := _, guard := _ } _ _ _
      have k1 : ρ (.tmp 1) = .pointer (some ⟨q, 0, none⟩) := ho 1 (by decide)
      clear hp ho
      refine StepOk.of_run (v := ?va26) (w' := X) ?_ ⟨rfl, Below.refl _ _⟩
      clear hX
      go_simp
      all_goals try go_bits
      all_goals try simp only [IntWalk.iteOmega]
      all_goals try go_bits
      all_goals rfl
    · refine step_intro rfl rfl fun ρ X hc hf hgl hX hp ho => ?_
      change StepOk _ { dst := _, op := Op.call { callee := Callee.value (Operand.func 28), args := #[Operand.tmp 32], argTypes := #[27] }, type := _, pos := _, after := _, guard := _ } _ _ _
      have k32 : ρ (.tmp 32) = ?va26 := hp 26 (by decide)
      clear hp ho
      refine StepOk.of_call (f := 28) (args := #[.pointer (some ⟨q, 0, none⟩)]) (w' := X) ?_ (HBq.out X hX) ?_
      · go_simp
        all_goals try rfl
      · rintro e w'' ⟨v, rfl, hb', hg'⟩; exact ⟨v, rfl, hb', hg'⟩
    · refine step_intro rfl rfl fun ρ X hc hf hgl hX hp ho => ?_
      change StepOk _ { dst := _, op := Op.convert 30 9 (Operand.tmp 33), type := _, pos := _, after := _, guard := _ } _ _ _
      have k33 := hp 27 (by decide)
      clear hp ho
      have hr := run_string (P := Try.prog) (T := 30) (e := 5) (S := 9) rfl rfl rfl k33
      refine StepOk.of_run (v := .string ⟨(Y : List UInt8).toArray⟩) (w' := X) ?_ ⟨rfl, Below.refl _ _⟩
      simp only [execOp, Sem.run_bind, hr, Result.andThen_ok, Sem.run_pure]
    · refine step_intro rfl rfl fun ρ X hc hf hgl hX hp ho => ?_
      change StepOk _ { dst := _, op := Op.binOp BinOp.neq 9 (Operand.tmp 31) (Operand.tmp 34) 9, type := _, pos := _, after := _, guard := _ } _ _ _
      have k31 : ρ (.tmp 31) = (.string ⟨(Y : List UInt8).toArray⟩) := hp 25 (by decide)
      have k34 : ρ (.tmp 34) = (.string ⟨(Y : List UInt8).toArray⟩) := hp 28 (by decide)
      clear hp ho
      refine StepOk.of_run (v := ?va29) (w' := X) ?_ ⟨rfl, Below.refl _ _⟩
      clear hX
      go_simp
      all_goals try go_bits
      all_goals try simp only [IntWalk.iteOmega]
      all_goals try go_bits
      all_goals rfl
    · refine step_intro rfl rfl fun ρ X hc hf hgl hX hp ho => ?_
      change StepOk _ { dst := _, op := Op.pick (Operand.tmp 28) (Operand.const (Value.bool true)) (Operand.tmp 35), type := _, pos := _, after := _, guard := _ } _ _ _
      have k28 : ρ (.tmp 28) = ?va22 := hp 22 (by decide)
      have k35 : ρ (.tmp 35) = ?va29 := hp 29 (by decide)
      clear hp ho
      refine StepOk.of_run (v := ?va30) (w' := X) ?_ ⟨rfl, Below.refl _ _⟩
      clear hX
      go_simp
      all_goals try go_bits
      all_goals try simp only [IntWalk.iteOmega]
      all_goals try go_bits
      all_goals rfl
    · refine step_intro rfl rfl fun ρ X hc hf hgl hX hp ho => ?_
      change StepOk _ { dst := _, op := Op.move (Operand.tmp 36), type := _, pos := _, after := _, guard := _ } _ _ _
      have k36 : ρ (.tmp 36) = ?va30 := hp 30 (by decide)
      clear hp ho
      refine StepOk.of_run (v := ?va31) (w' := X) ?_ ⟨rfl, Below.refl _ _⟩
      clear hX
      go_simp
      all_goals try go_bits
      all_goals try simp only [IntWalk.iteOmega]
      all_goals try go_bits
      all_goals rfl
    · refine step_intro rfl rfl fun ρ X hc hf hgl hX hp ho => ?_
      change StepOk _ { dst := _, op := Op.move (Operand.tmp 0), type := _, pos := _, after := _, guard := _ } _ _ _
      have k0 : ρ (.tmp 0) = .pointer (some ⟨g, 0, none⟩) := ho 0 (by decide)
      clear hp ho
      refine StepOk.of_run (v := ?va32) (w' := X) ?_ ⟨rfl, Below.refl _ _⟩
      clear hX
      go_simp
      all_goals try go_bits
      all_goals try simp only [IntWalk.iteOmega]
      all_goals try go_bits
      all_goals rfl
    · refine step_intro rfl rfl fun ρ X hc hf hgl hX hp ho => ?_
      change StepOk _ { dst := _, op := Op.call { callee := Callee.value (Operand.func 20), args := #[Operand.tmp 38, Operand.const (Value.int IntKind.i64 (-1))], argTypes := #[25, 3] }, type := _, pos := _, after := _, guard := _ } _ _ _
      have k38 : ρ (.tmp 38) = ?va32 := hp 32 (by decide)
      clear hp ho
      refine StepOk.of_call (f := 20) (args := #[?va32, .int .i64 (-1)]) (w' := X) ?_ (HC1.out X hX) ?_
      · go_simp
        all_goals try go_bits
        all_goals try rfl
      · rintro e w'' ⟨rfl, rfl⟩; refine ⟨_, rfl, ?_, Below.refl _ _⟩; show _ = ?va33; rfl
    · refine step_intro rfl rfl fun ρ X hc hf hgl hX hp ho => ?_
      change StepOk _ { dst := _, op := Op.call { callee := Callee.builtin Builtin.len, args := #[Operand.tmp 39], argTypes := #[30] }, type := _, pos := _, after := _, guard := _ } _ _ _
      have k39 : ρ (.tmp 39) = ?va33 := hp 33 (by decide)
      clear hp ho
      refine StepOk.of_run (v := ?va34) (w' := X) ?_ ⟨rfl, Below.refl _ _⟩
      clear hX
      go_simp
      all_goals try go_bits
      all_goals try simp only [IntWalk.iteOmega]
      all_goals try go_bits
      all_goals rfl
    · refine step_intro rfl rfl fun ρ X hc hf hgl hX hp ho => ?_
      change StepOk _ { dst := _, op := Op.binOp BinOp.neq 3 (Operand.tmp 40) (Operand.const (Value.int IntKind.i64 0)) 3, type := _, pos := _, after := _, guard := _ } _ _ _
      have k40 : ρ (.tmp 40) = ?va34 := hp 34 (by decide)
      clear hp ho
      refine StepOk.of_run (v := ?va35) (w' := X) ?_ ⟨rfl, Below.refl _ _⟩
      clear hX
      go_simp
      all_goals try go_bits
      all_goals try simp only [IntWalk.iteOmega]
      all_goals try go_bits
      all_goals rfl
    · refine step_intro rfl rfl fun ρ X hc hf hgl hX hp ho => ?_
      change StepOk _ { dst := _, op := Op.pick (Operand.tmp 37) (Operand.const (Value.bool true)) (Operand.tmp 41), type := _, pos := _, after := _, guard := _ } _ _ _
      have k37 : ρ (.tmp 37) = ?va31 := hp 31 (by decide)
      have k41 : ρ (.tmp 41) = ?va35 := hp 35 (by decide)
      clear hp ho
      refine StepOk.of_run (v := ?va36) (w' := X) ?_ ⟨rfl, Below.refl _ _⟩
      clear hX
      go_simp
      all_goals try go_bits
      all_goals try simp only [IntWalk.iteOmega]
      all_goals try go_bits
      all_goals rfl
    · refine step_intro rfl rfl fun ρ X hc hf hgl hX hp ho => ?_
      change StepOk _ { dst := _, op := Op.move (Operand.tmp 42), type := _, pos := _, after := _, guard := _ } _ _ _
      have k42 : ρ (.tmp 42) = ?va36 := hp 36 (by decide)
      clear hp ho
      refine StepOk.of_run (v := ?va37) (w' := X) ?_ ⟨rfl, Below.refl _ _⟩
      clear hX
      go_simp
      all_goals try go_bits
      all_goals try simp only [IntWalk.iteOmega]
      all_goals try go_bits
      all_goals rfl
    · refine step_intro rfl rfl fun ρ X hc hf hgl hX hp ho => ?_
      change StepOk _ { dst := _, op := Op.move (Operand.tmp 0), type := _, pos := _, after := _, guard := _ } _ _ _
      have k0 : ρ (.tmp 0) = .pointer (some ⟨g, 0, none⟩) := ho 0 (by decide)
      clear hp ho
      refine StepOk.of_run (v := ?va38) (w' := X) ?_ ⟨rfl, Below.refl _ _⟩
      clear hX
      go_simp
      all_goals try go_bits
      all_goals try simp only [IntWalk.iteOmega]
      all_goals try go_bits
      all_goals rfl
    · refine step_intro rfl rfl fun ρ X hc hf hgl hX hp ho => ?_
      change StepOk _ { dst := _, op := Op.move (Operand.tmp 1), type := _, pos := _, after := _, guard := _ } _ _ _
      have k1 : ρ (.tmp 1) = .pointer (some ⟨q, 0, none⟩) := ho 1 (by decide)
      clear hp ho
      refine StepOk.of_run (v := ?va39) (w' := X) ?_ ⟨rfl, Below.refl _ _⟩
      clear hX
      go_simp
      all_goals try go_bits
      all_goals try simp only [IntWalk.iteOmega]
      all_goals try go_bits
      all_goals rfl
    · refine step_intro rfl rfl fun ρ X hc hf hgl hX hp ho => ?_
      change StepOk _ { dst := _, op := Op.nilCheck (Operand.tmp 45), type := _, pos := _, after := _, guard := _ } _ _ _
      have k45 : ρ (.tmp 45) = ?va39 := hp 39 (by decide)
      clear hp ho
      refine StepOk.of_run (v := ?va40) (w' := X) ?_ ⟨rfl, Below.refl _ _⟩
      clear hX
      go_simp
      all_goals try go_bits
      all_goals try simp only [IntWalk.iteOmega]
      all_goals try go_bits
      all_goals rfl
    · refine step_intro rfl rfl fun ρ X hc hf hgl hX hp ho => ?_
      change StepOk _ { dst := _, op := Op.fieldAddr 50 (Operand.tmp 46) 1, type := _, pos := _, after := _, guard := _ } _ _ _
      have k46 : ρ (.tmp 46) = ?va40 := hp 40 (by decide)
      clear hp ho
      refine StepOk.of_run (v := ?va41) (w' := X) ?_ ⟨rfl, Below.refl _ _⟩
      clear hX
      go_simp
      all_goals try go_bits
      all_goals try simp only [IntWalk.iteOmega]
      all_goals try go_bits
      all_goals rfl
    · refine step_intro rfl rfl fun ρ X hc hf hgl hX hp ho => ?_
      change StepOk _ { dst := _, op := Op.load 48 (Operand.tmp 47), type := _, pos := _, after := _, guard := _ } _ _ _
      have k47 : ρ (.tmp 47) = ?va41 := hp 41 (by decide)
      have c1X := Grows.cell' hX c1
      clear hp ho
      refine StepOk.of_run (v := ?va42) (w' := X) ?_ ⟨rfl, Below.refl _ _⟩
      clear hX
      go_simp
      all_goals try go_bits
      all_goals try simp only [IntWalk.iteOmega]
      all_goals try go_bits
      all_goals rfl
    · refine step_intro rfl rfl fun ρ X hc hf hgl hX hp ho => ?_
      change StepOk _ { dst := _, op := Op.call { callee := Callee.builtin Builtin.len, args := #[Operand.tmp 48], argTypes := #[48] }, type := _, pos := _, after := _, guard := _ } _ _ _
      have k48 : ρ (.tmp 48) = ?va42 := hp 42 (by decide)
      clear hp ho
      refine StepOk.of_run (v := ?va43) (w' := X) ?_ ⟨rfl, Below.refl _ _⟩
      clear hX
      go_simp
      all_goals try go_bits
      all_goals try simp only [IntWalk.iteOmega]
      all_goals try go_bits
      all_goals rfl
    · refine step_intro rfl rfl fun ρ X hc hf hgl hX hp ho => ?_
      change StepOk _ { dst := _, op := Op.call { callee := Callee.value (Operand.func 20), args := #[Operand.tmp 44, Operand.tmp 49], argTypes := #[25, 3] }, type := _, pos := _, after := _, guard := _ } _ _ _
      have k44 : ρ (.tmp 44) = ?va38 := hp 38 (by decide)
      have k49 : ρ (.tmp 49) = ?va43 := hp 43 (by decide)
      clear hp ho
      refine StepOk.of_call (f := 20) (args := #[?va38, ?va43]) (w' := X) ?_ (HCn.out X hX) ?_
      · go_simp
        all_goals try go_bits
        all_goals try rfl
      · rintro e w'' ⟨rfl, rfl⟩; refine ⟨_, rfl, ?_, Below.refl _ _⟩; show _ = ?va44; rfl
    · refine step_intro rfl rfl fun ρ X hc hf hgl hX hp ho => ?_
      change StepOk _ { dst := _, op := Op.call { callee := Callee.builtin Builtin.len, args := #[Operand.tmp 50], argTypes := #[30] }, type := _, pos := _, after := _, guard := _ } _ _ _
      have k50 : ρ (.tmp 50) = ?va44 := hp 44 (by decide)
      clear hp ho
      refine StepOk.of_run (v := ?va45) (w' := X) ?_ ⟨rfl, Below.refl _ _⟩
      clear hX
      go_simp
      all_goals try go_bits
      all_goals try simp only [IntWalk.iteOmega]
      all_goals try go_bits
      all_goals rfl
    · refine step_intro rfl rfl fun ρ X hc hf hgl hX hp ho => ?_
      change StepOk _ { dst := _, op := Op.binOp BinOp.neq 3 (Operand.tmp 51) (Operand.const (Value.int IntKind.i64 0)) 3, type := _, pos := _, after := _, guard := _ } _ _ _
      have k51 : ρ (.tmp 51) = ?va45 := hp 45 (by decide)
      clear hp ho
      refine StepOk.of_run (v := ?va46) (w' := X) ?_ ⟨rfl, Below.refl _ _⟩
      clear hX
      go_simp
      all_goals try go_bits
      all_goals try simp only [IntWalk.iteOmega]
      all_goals try go_bits
      all_goals rfl
    · refine step_intro rfl rfl fun ρ X hc hf hgl hX hp ho => ?_
      change StepOk _ { dst := _, op := Op.pick (Operand.tmp 43) (Operand.const (Value.bool true)) (Operand.tmp 52), type := _, pos := _, after := _, guard := _ } _ _ _
      have k43 : ρ (.tmp 43) = ?va37 := hp 37 (by decide)
      have k52 : ρ (.tmp 52) = ?va46 := hp 46 (by decide)
      clear hp ho
      refine StepOk.of_run (v := ?va47) (w' := X) ?_ ⟨rfl, Below.refl _ _⟩
      clear hX
      go_simp
      all_goals try go_bits
      all_goals try simp only [IntWalk.iteOmega]
      all_goals try go_bits
      all_goals rfl
  case grda => rfl
  case rsta =>
    intro a0 X hb
    obtain ⟨x30, hx30⟩ : ∃ x, a0.tmps.getD 30 undef = x := ⟨_, rfl⟩
    have p30 := hb.done' 24 30 rfl rfl
    rw [hx30] at p30
    obtain ⟨x33, hx33⟩ : ∃ x, a0.tmps.getD 33 undef = x := ⟨_, rfl⟩
    have p33 := hb.done' 27 33 rfl rfl
    rw [hx33] at p33
    have hfr := hb.frame ((6, ?va0) :: (7, ?va1) :: (8, ?va2) :: (9, ?va3) :: (10, ?va4) :: (11, ?va5) :: (12, ?va6) :: (13, ?va7) :: (14, ?va8) :: (15, ?va9) :: (16, ?va10) :: (17, ?va11) :: (18, ?va12) :: (19, ?va13) :: (20, ?va14) :: (21, ?va15) :: (22, ?va16) :: (23, ?va17) :: (24, ?va18) :: (25, ?va19) :: (26, ?va20) :: (27, ?va21) :: (28, ?va22) :: (29, ?va23) :: (30, x30) :: (31, (.string ⟨(Y : List UInt8).toArray⟩)) :: (32, ?va26) :: (33, x33) :: (34, (.string ⟨(Y : List UInt8).toArray⟩)) :: (35, ?va29) :: (36, ?va30) :: (37, ?va31) :: (38, ?va32) :: (39, ?va33) :: (40, ?va34) :: (41, ?va35) :: (42, ?va36) :: (43, ?va37) :: (44, ?va38) :: (45, ?va39) :: (46, ?va40) :: (47, ?va41) :: (48, ?va42) :: (49, ?va43) :: (50, ?va44) :: (51, ?va45) :: (52, ?va46) :: (53, ?va47) :: []) rfl ⟨hb.done' 0 6 rfl rfl, hb.done' 1 7 rfl rfl, hb.done' 2 8 rfl rfl, hb.done' 3 9 rfl rfl, hb.done' 4 10 rfl rfl, hb.done' 5 11 rfl rfl, hb.done' 6 12 rfl rfl, hb.done' 7 13 rfl rfl, hb.done' 8 14 rfl rfl, hb.done' 9 15 rfl rfl, hb.done' 10 16 rfl rfl, hb.done' 11 17 rfl rfl, hb.done' 12 18 rfl rfl, hb.done' 13 19 rfl rfl, hb.done' 14 20 rfl rfl, hb.done' 15 21 rfl rfl, hb.done' 16 22 rfl rfl, hb.done' 17 23 rfl rfl, hb.done' 18 24 rfl rfl, hb.done' 19 25 rfl rfl, hb.done' 20 26 rfl rfl, hb.done' 21 27 rfl rfl, hb.done' 22 28 rfl rfl, hb.done' 23 29 rfl rfl, hx30, hb.done' 25 31 rfl rfl, hb.done' 26 32 rfl rfl, hx33, hb.done' 28 34 rfl rfl, hb.done' 29 35 rfl rfl, hb.done' 30 36 rfl rfl, hb.done' 31 37 rfl rfl, hb.done' 32 38 rfl rfl, hb.done' 33 39 rfl rfl, hb.done' 34 40 rfl rfl, hb.done' 35 41 rfl rfl, hb.done' 36 42 rfl rfl, hb.done' 37 43 rfl rfl, hb.done' 38 44 rfl rfl, hb.done' 39 45 rfl rfl, hb.done' 40 46 rfl rfl, hb.done' 41 47 rfl rfl, hb.done' 42 48 rfl rfl, hb.done' 43 49 rfl rfl, hb.done' 44 50 rfl rfl, hb.done' 45 51 rfl rfl, hb.done' 46 52 rfl rfl, hb.done' 47 53 rfl rfl, trivial⟩
    simp only [updL, ↓reduceIte, Nat.reduceEqDiff, Nat.reduceAdd, Nat.zero_add] at hfr
    have HX := Lib.hid hb.ext
    clear hb
    subst hfr
    have HG1 := HX
    clear c1
    go_wp2
    go_loopw [5] (fun t5 wq => ∃ j : Nat, j ≤ n ∧ t5 = .int .i64 j ∧ Hid (Grows w wq)) (fun t5 _ => n - (intOf t5).toNat)
    case atStart => exact ⟨0, by omega, rfl, HG1⟩
    case round =>
      obtain ⟨j, hj, rfl, Hgj⟩ := hrel
      have HRj := Lib.hid (HR.out.grows Hgj.out)
      obtain ⟨_, cq⟩ := HRj.out.cells
      by_cases hjl : j < n
      · have hjl' : (j : Int) < (n : Int) := by omega
        obtain ⟨gl, rfl, _, cp, _⟩ := HRj.out.cell Hn.out j hjl
        have hjL : j < L.length := by rw [Hn.out]; exact hjl
        have hbp := (HRj.out.ps _ (ce_mem L j hjL)).byt
        obtain ⟨pa, pc, hpv⟩ := own_form (HRj.out.ps _ (ce_mem L j hjL))
        obtain ⟨c, Hcc⟩ : ∃ c, Hid ((cl A.l j).p = c) := ⟨_, rfl⟩
        have hce : (ce L j).c.p = c := by rw [← abs_cl t L j hjL, HA.out, Hcc.out]
        rw [hce] at hbp hpv
        rw [hpv] at cp hbp
        have Hbp := Lib.hid hbp
        have HCg : Hid (∀ X, Grows wr X → Calls Try.prog 20 #[.pointer (some ⟨g, 0, none⟩), .int .i64 (j : Int)] X fun e w' => ∃ v, e = .returned v ∧ Byt w' v c ∧ Grows X w') := Lib.hid (fun X hX => hCellB (Hh.out.grows (Grows.trans' Hgj.out hX)) j (by rw [HnA.out]; exact hjl) c Hcc.out)
        clear hbp hpv hce
        go_wp2
        refine specs_region
          #[[], [], [0, 1], [0, 1, 2], [], [4], [4, 5], [4, 5, 6], [], [4, 5, 6, 7, 8], [4, 5, 6, 7, 8, 9], [4, 5, 6, 7, 8, 9, 10], [4, 5, 6, 7, 8, 9, 10, 11], [0, 1, 2, 3, 4, 5, 6, 7, 8, 9, 10, 11, 12]] #[[0], [5], [], [], [1], [], [], [], [5], [], [], [], [], []] #[true, true, true, true, true, true, true, true, true, true, true, true, true, true]
          ((.val ?vd0) :: (.val ?vd1) :: (.byt (c)) :: (.val (.string ⟨(c : List UInt8).toArray⟩)) :: (.val ?vd4) :: (.val ?vd5) :: (.val ?vd6) :: (.val ?vd7) :: (.val ?vd8) :: (.val ?vd9) :: (.val ?vd10) :: (.val ?vd11) :: (.val (.string ⟨(c : List UInt8).toArray⟩)) :: (.val ?vd13) :: []).toArray
          hmx ?chkd ?grdd ?stpd ?rstd
        case chkd => rfl
        case stpd =>
          refine ⟨?_, ?_, ?_, ?_, ?_, ?_, ?_, ?_, ?_, ?_, ?_, ?_, ?_, ?_, trivial⟩
          · refine step_intro rfl rfl fun ρ X hc hf hgl hX hp ho => ?_
            change StepOk _ { dst := _, op := Op.move (Operand.tmp 0), type := _, pos := _, after := _, guard := _ } _ _ _
            have k0 : ρ (.tmp 0) = .pointer (some ⟨g, 0, none⟩) := ho 0 (by decide)
            clear hp ho
            refine StepOk.of_run (v := ?vd0) (w' := X) ?_ ⟨rfl, Below.refl _ _⟩
            clear hX
            go_simp
            all_goals try go_bits
            all_goals try simp only [IntWalk.iteOmega]
            all_goals try go_bits
            all_goals rfl
          · refine step_intro rfl rfl fun ρ X hc hf hgl hX hp ho => ?_
            change StepOk _ { dst := _, op := Op.move (Operand.tmp 5), type := _, pos := _, after := _, guard := _ } _ _ _
            have k5 : ρ (.tmp 5) = .int .i64 (j : Int) := ho 5 (by decide)
            clear hp ho
            refine StepOk.of_run (v := ?vd1) (w' := X) ?_ ⟨rfl, Below.refl _ _⟩
            clear hX
            go_simp
            all_goals try go_bits
            all_goals try simp only [IntWalk.iteOmega]
            all_goals try go_bits
            all_goals rfl
          · refine step_intro rfl rfl fun ρ X hc hf hgl hX hp ho => ?_
            change StepOk _ { dst := _, op := Op.call { callee := Callee.value (Operand.func 20), args := #[Operand.tmp 63, Operand.tmp 64], argTypes := #[25, 3] }, type := _, pos := _, after := _, guard := _ } _ _ _
            have k63 : ρ (.tmp 63) = ?vd0 := hp 0 (by decide)
            have k64 : ρ (.tmp 64) = ?vd1 := hp 1 (by decide)
            clear hp ho
            refine StepOk.of_call (f := 20) (args := #[.pointer (some ⟨g, 0, none⟩), .int .i64 (j : Int)]) (w' := X) ?_ (HCg.out X hX) ?_
            · go_simp
              all_goals try rfl
            · rintro e w'' ⟨v, rfl, hb', hg'⟩; exact ⟨v, rfl, hb', hg'⟩
          · refine step_intro rfl rfl fun ρ X hc hf hgl hX hp ho => ?_
            change StepOk _ { dst := _, op := Op.convert 30 9 (Operand.tmp 65), type := _, pos := _, after := _, guard := _ } _ _ _
            have k65 := hp 2 (by decide)
            clear hp ho
            have hr := run_string (P := Try.prog) (T := 30) (e := 5) (S := 9) rfl rfl rfl k65
            refine StepOk.of_run (v := .string ⟨(c : List UInt8).toArray⟩) (w' := X) ?_ ⟨rfl, Below.refl _ _⟩
            simp only [execOp, Sem.run_bind, hr, Result.andThen_ok, Sem.run_pure]
          · refine step_intro rfl rfl fun ρ X hc hf hgl hX hp ho => ?_
            change StepOk _ { dst := _, op := Op.move (Operand.tmp 1), type := _, pos := _, after := _, guard := _ } _ _ _
            have k1 : ρ (.tmp 1) = .pointer (some ⟨q, 0, none⟩) := ho 1 (by decide)
            clear hp ho
            refine StepOk.of_run (v := ?vd4) (w' := X) ?_ ⟨rfl, Below.refl _ _⟩
            clear hX
            go_simp
            all_goals try go_bits
            all_goals try simp only [IntWalk.iteOmega]
            all_goals try go_bits
            all_goals rfl
          · refine step_intro rfl rfl fun ρ X hc hf hgl hX hp ho => ?_
            change StepOk _ { dst := _, op := Op.nilCheck (Operand.tmp 67), type := _, pos := _, after := _, guard := _ } _ _ _
            have k67 : ρ (.tmp 67) = ?vd4 := hp 4 (by decide)
            clear hp ho
            refine StepOk.of_run (v := ?vd5) (w' := X) ?_ ⟨rfl, Below.refl _ _⟩
            clear hX
            go_simp
            all_goals try go_bits
            all_goals try simp only [IntWalk.iteOmega]
            all_goals try go_bits
            all_goals rfl
          · refine step_intro rfl rfl fun ρ X hc hf hgl hX hp ho => ?_
            change StepOk _ { dst := _, op := Op.fieldAddr 50 (Operand.tmp 68) 1, type := _, pos := _, after := _, guard := _ } _ _ _
            have k68 : ρ (.tmp 68) = ?vd5 := hp 5 (by decide)
            clear hp ho
            refine StepOk.of_run (v := ?vd6) (w' := X) ?_ ⟨rfl, Below.refl _ _⟩
            clear hX
            go_simp
            all_goals try go_bits
            all_goals try simp only [IntWalk.iteOmega]
            all_goals try go_bits
            all_goals rfl
          · refine step_intro rfl rfl fun ρ X hc hf hgl hX hp ho => ?_
            change StepOk _ { dst := _, op := Op.load 48 (Operand.tmp 69), type := _, pos := _, after := _, guard := _ } _ _ _
            have k69 : ρ (.tmp 69) = ?vd6 := hp 6 (by decide)
            have cqX := Grows.cell' hX cq
            have cpX := Grows.cell' hX cp
            clear hp ho
            refine StepOk.of_run (v := ?vd7) (w' := X) ?_ ⟨rfl, Below.refl _ _⟩
            clear hX
            go_simp
            all_goals try go_bits
            all_goals try simp only [IntWalk.iteOmega]
            all_goals try go_bits
            all_goals rfl
          · refine step_intro rfl rfl fun ρ X hc hf hgl hX hp ho => ?_
            change StepOk _ { dst := _, op := Op.move (Operand.tmp 5), type := _, pos := _, after := _, guard := _ } _ _ _
            have k5 : ρ (.tmp 5) = .int .i64 (j : Int) := ho 5 (by decide)
            clear hp ho
            refine StepOk.of_run (v := ?vd8) (w' := X) ?_ ⟨rfl, Below.refl _ _⟩
            clear hX
            go_simp
            all_goals try go_bits
            all_goals try simp only [IntWalk.iteOmega]
            all_goals try go_bits
            all_goals rfl
          · refine step_intro rfl rfl fun ρ X hc hf hgl hX hp ho => ?_
            change StepOk _ { dst := _, op := Op.indexAddr 48 (Operand.tmp 70) (Operand.tmp 71), type := _, pos := _, after := _, guard := _ } _ _ _
            have k70 : ρ (.tmp 70) = ?vd7 := hp 7 (by decide)
            have k71 : ρ (.tmp 71) = ?vd8 := hp 8 (by decide)
            clear hp ho
            refine StepOk.of_run (v := ?vd9) (w' := X) ?_ ⟨rfl, Below.refl _ _⟩
            clear hX
            go_simp
            all_goals try go_bits
            all_goals try simp only [IntWalk.iteOmega]
            all_goals try go_bits
            all_goals rfl
          · refine step_intro rfl rfl fun ρ X hc hf hgl hX hp ho => ?_
            change StepOk _ { dst := _, op := Op.fieldAddr 54 (Operand.tmp 72) 1, type := _, pos := _, after := _, guard := _ } _ _ _
            have k72 : ρ (.tmp 72) = ?vd9 := hp 9 (by decide)
            clear hp ho
            refine StepOk.of_run (v := ?vd10) (w' := X) ?_ ⟨rfl, Below.refl _ _⟩
            clear hX
            go_simp
            all_goals try go_bits
            all_goals try simp only [IntWalk.iteOmega]
            all_goals try go_bits
            all_goals rfl
          · refine step_intro rfl rfl fun ρ X hc hf hgl hX hp ho => ?_
            change StepOk _ { dst := _, op := Op.load 30 (Operand.tmp 73), type := _, pos := _, after := _, guard := _ } _ _ _
            have k73 : ρ (.tmp 73) = ?vd10 := hp 10 (by decide)
            have cqX := Grows.cell' hX cq
            have cpX := Grows.cell' hX cp
            clear hp ho
            refine StepOk.of_run (v := ?vd11) (w' := X) ?_ ⟨rfl, Below.refl _ _⟩
            clear hX
            go_simp
            all_goals try go_bits
            all_goals try simp only [IntWalk.iteOmega]
            all_goals try go_bits
            all_goals rfl
          · refine step_intro rfl rfl fun ρ X hc hf hgl hX hp ho => ?_
            change StepOk _ { dst := _, op := Op.convert 30 9 (Operand.tmp 74), type := _, pos := _, after := _, guard := _ } _ _ _
            have k74 : ρ (.tmp 74) = ?vd11 := hp 11 (by decide)
            clear hp ho
            have hr := run_string (P := Try.prog) (T := 30) (e := 5) (S := 9) rfl rfl rfl (Hbp.out.grows hX)
            refine StepOk.of_run (v := .string ⟨(c : List UInt8).toArray⟩) (w' := X) ?_ ⟨rfl, Below.refl _ _⟩
            simp only [execOp, k74, Sem.run_bind, hr, Result.andThen_ok, Sem.run_pure]
          · refine step_intro rfl rfl fun ρ X hc hf hgl hX hp ho => ?_
            change StepOk _ { dst := _, op := Op.binOp BinOp.neq 9 (Operand.tmp 66) (Operand.tmp 75) 9, type := _, pos := _, after := _, guard := _ } _ _ _
            have k66 : ρ (.tmp 66) = (.string ⟨(c : List UInt8).toArray⟩) := hp 3 (by decide)
            have k75 : ρ (.tmp 75) = (.string ⟨(c : List UInt8).toArray⟩) := hp 12 (by decide)
            clear hp ho
            refine StepOk.of_run (v := ?vd13) (w' := X) ?_ ⟨rfl, Below.refl _ _⟩
            clear hX
            go_simp
            all_goals try go_bits
            all_goals try simp only [IntWalk.iteOmega]
            all_goals try go_bits
            all_goals rfl
        case grdd => rfl
        case rstd =>
          intro a0 X hb
          obtain ⟨x65, hx65⟩ : ∃ x, a0.tmps.getD 65 undef = x := ⟨_, rfl⟩
          have p65 := hb.done' 2 65 rfl rfl
          rw [hx65] at p65
          have hfr := hb.frame ((63, ?vd0) :: (64, ?vd1) :: (65, x65) :: (66, (.string ⟨(c : List UInt8).toArray⟩)) :: (67, ?vd4) :: (68, ?vd5) :: (69, ?vd6) :: (70, ?vd7) :: (71, ?vd8) :: (72, ?vd9) :: (73, ?vd10) :: (74, ?vd11) :: (75, (.string ⟨(c : List UInt8).toArray⟩)) :: (76, ?vd13) :: []) rfl ⟨hb.done' 0 63 rfl rfl, hb.done' 1 64 rfl rfl, hx65, hb.done' 3 66 rfl rfl, hb.done' 4 67 rfl rfl, hb.done' 5 68 rfl rfl, hb.done' 6 69 rfl rfl, hb.done' 7 70 rfl rfl, hb.done' 8 71 rfl rfl, hb.done' 9 72 rfl rfl, hb.done' 10 73 rfl rfl, hb.done' 11 74 rfl rfl, hb.done' 12 75 rfl rfl, hb.done' 13 76 rfl rfl, trivial⟩
          simp only [updL, ↓reduceIte, Nat.reduceEqDiff, Nat.reduceAdd, Nat.zero_add] at hfr
          have HX := Lib.hid hb.ext
          clear hb
          subst hfr
          have HgX := Lib.hid (Grows.trans' Hgj.out HX.out)
          clear cq cp
          go_wp2
          go_roundw
          case rel => exact ⟨j + 1, by omega, by simp, HgX⟩
          case measure => simp [intOf]; omega
      · have hjl' : ¬ (j : Int) < (n : Int) := by omega
        go_wp2
        go_ret
        exact ⟨rfl, Hgj.out⟩
end Go.Proofs.Ytpodbhimkbadhaa
