/-
  Contracts of the small functions of vint and of the document's own answers.
-/
import Derived.Test.YtbdfgbobipognaaVintP
import Derived.LoopTactic
import Derived.Outline
namespace Go.Proofs.Ytbdfgbobipognaa
open Go.RowKit
set_option linter.unusedVariables false

theorem num_any (n : Int) (w : World) : Calls Try.prog 15 #[.int .i64 n] w fun e w' => e = .returned (.int .i64 n) ∧ w = w' := by
  go_enter Try.func15, Try.ntmps15
  go_wp2
  go_ret
  exact ⟨rfl, rfl⟩

/-- The three answers of Get, as values. -/
def got (x : Nat × Nat × Nat) : Value := .tuple #[.int .u64 x.1, .int .i64 x.2.1, .int .i64 x.2.2]

theorem refGet_nil (a : Option Addr) (cap : Nat) (w : World) :
    Calls Try.prog 14 #[.slice a 0 cap] w fun e w' => e = .returned (got (0, 0, 10)) ∧ w = w' := by
  go_enter Try.func14, Try.ntmps14
  go_wp2
  refine wp_loop_rounds 1 ?_
  rw [rounds_succ]
  go_wp2
  go_ret3
  exact ⟨rfl, rfl⟩

theorem get_drop (l : List UInt8) (k : Nat) (hk : k < l.length) : l.drop k = l.getD k 0 :: l.drop (k + 1) := by
  rw [List.drop_eq_getElem_cons hk]; simp [List.getD, hk]

theorem getF_cons (k : Nat) (c : UInt8) (r : List UInt8) (i acc : Nat) : getF (k + 1) (c :: r) i acc =
    if i = 9 ∧ 1 < c.toNat then (0, 0, 11)
    else if c.toNat < 128 then (if 0 < i ∧ c.toNat = 0 then (0, 0, 12) else (acc + c.toNat % 128 * 128 ^ i, i + 1, 0))
    else getF k r (i + 1) (acc + c.toNat % 128 * 128 ^ i) := rfl

set_option maxRecDepth 100000 in
set_option maxHeartbeats 1000000 in
theorem refGet_some (b off cap : Nat) (l : List UInt8) (w : World) (hc : ∀ i, i < l.length → w.cell? ⟨b, off + i, none⟩ = some (bv (l.getD i 0))) (hlc : l.length ≤ cap) (hm : cap ≤ maxLen) :
    Calls Try.prog 14 #[.slice (some ⟨b, off, none⟩) l.length cap] w fun e w' => e = .returned (got (get l)) ∧ w = w' := by
  unfold maxLen at hm
  go_enter Try.func14, Try.ntmps14
  go_wp2
  go_loop [5, 6, 7] (fun t5 t6 t7 => ∃ k acc M : Nat, k ≤ 9 ∧ k ≤ l.length ∧ t5 = .int .u64 acc ∧ t6 = .int .u64 M ∧ t7 = .int .i64 k ∧ Hid (M = 128 ^ k) ∧ Hid (acc < 128 ^ k) ∧ Hid (get l = getF (10 - k) (l.drop k) k acc))
    (fun _ _ t7 => 10 - (intOf t7).toNat)
  case atStart => exact ⟨0, 0, 1, by omega, by omega, rfl, rfl, rfl, rfl, by show 0 < 1; omega, rfl⟩
  case round =>
    obtain ⟨k, acc, M, hk9, hkl, rfl, rfl, rfl, HM, Hacc, Hget⟩ := hrel
    obtain ⟨fu, Hfu⟩ : ∃ fu, Hid (10 - k = fu + 1) := ⟨9 - k, by show 10 - k = 9 - k + 1; omega⟩
    by_cases hlt : k < l.length
    · have hck := hc k hlt
      obtain ⟨c, Hc⟩ : ∃ c, Hid (l.getD k 0 = c) := ⟨_, rfl⟩
      rw [Hc.out] at hck
      unfold bv at hck
      clear hc
      have hc256 := c.toNat_lt
      have Hg2 : Hid (get l = getF (fu + 1) (c :: l.drop (k + 1)) k acc) := by
        show _ = _
        rw [Hget.out, Hfu.out, get_drop l k hlt, Hc.out]
      clear Hget
      obtain ⟨p, Hp⟩ : ∃ p, Hid (p = c.toNat % 128 * M) := ⟨_, rfl⟩
      have key : k ≤ 8 ∨ c.toNat ≤ 1 → IntKind.u64.wrap ((c.toNat : Int) % 128 * (M : Int)) = (p : Int) ∧ IntKind.u64.wrap ((acc : Int) + (p : Int)) = (acc : Int) + (p : Int) ∧ (k ≤ 8 → IntKind.u64.wrap ((M : Int) * 128) = (M : Int) * 128) := fun h => by
        have h1 : (p : Int) = (c.toNat : Int) % 128 * (M : Int) := by rw [Hp.out]; simp
        have ha : acc < M := by rw [HM.out]; exact Hacc.out
        have hM8 : k ≤ 8 → M ≤ 2 ^ 56 := fun h8 => by rw [HM.out, pow_128]; exact Nat.pow_le_pow_right (by omega) (by omega)
        have hM9 : M ≤ 2 ^ 63 := by rw [HM.out, pow_128]; exact Nat.pow_le_pow_right (by omega) (by omega)
        have hb : acc + p < 2 ^ 64 := by
          rcases h with h | h
          · have := hM8 h
            have : p ≤ 127 * 2 ^ 56 := by rw [Hp.out]; exact Nat.mul_le_mul (by omega) (hM8 h)
            omega
          · have : p ≤ 1 * 2 ^ 63 := by rw [Hp.out]; exact Nat.mul_le_mul (by omega) hM9
            omega
        rw [← h1]
        exact ⟨wrap_u64 _ (by omega) (by omega), wrap_u64 _ (by omega) (by omega), fun h8 => wrap_u64 _ (by omega) (by have := hM8 h8; omega)⟩
      by_cases h9 : k = 9
      · have e9 : ((k : Int) == 9) = true := by rw [beq_iff_eq]; omega
        have H9 := Lib.hid h9
        have h8k : 8 < k := by omega
        clear h9
        by_cases h1 : 1 < c.toNat
        · have h1' : (1 : Int) < (c.toNat : Int) := by omega
          clear key
          go_wp2
          go_ret3
          exact ⟨by rw [Hg2.out, getF_cons, if_pos ⟨H9.out, h1⟩]; rfl, rfl⟩
        · obtain ⟨hw1, hw2, _⟩ := key (.inr (by omega))
          have h1' : ¬ (1 : Int) < (c.toNat : Int) := by omega
          have h128 : (c.toNat : Int) < 128 := by omega
          have hk0 : (0 : Int) < (k : Int) := by omega
          by_cases hz : c.toNat = 0
          · have hz' : ((c.toNat : Int) == 0) = true := by rw [beq_iff_eq]; omega
            have Hz := Lib.hid hz
            clear key hz
            go_wp2
            go_ret3
            exact ⟨by rw [Hg2.out, getF_cons, if_neg (by have := Hz.out; omega), if_pos (by have := Hz.out; omega), if_pos ⟨by omega, Hz.out⟩]; rfl, rfl⟩
          · have hz' : ((c.toNat : Int) == 0) = false := by rw [beq_eq_false_iff_ne]; omega
            clear key
            go_wp2
            go_ret3
            exact ⟨by rw [Hg2.out, getF_cons, if_neg (by omega), if_pos (by omega), if_neg (by omega), ← HM.out, ← Hp.out]; simp [got], rfl⟩
      · have e9 : ((k : Int) == 9) = false := by rw [beq_eq_false_iff_ne]; omega
        obtain ⟨hw1, hw2, hw3⟩ := key (.inl (by omega))
        have hw3 := hw3 (by omega)
        by_cases h128 : c.toNat < 128
        · have h128' : (c.toNat : Int) < 128 := by omega
          by_cases hk0 : k = 0
          · have hk0' : ¬ (0 : Int) < (k : Int) := by omega
            have Hk0 := Lib.hid hk0
            clear key hk0
            go_wp2
            go_ret3
            exact ⟨by have := Hk0.out; rw [Hg2.out, getF_cons, if_neg (by omega), if_pos (by omega), if_neg (by omega), ← HM.out, ← Hp.out]; simp [got], rfl⟩
          · have hk0' : (0 : Int) < (k : Int) := by omega
            by_cases hz : c.toNat = 0
            · have hz' : ((c.toNat : Int) == 0) = true := by rw [beq_iff_eq]; omega
              have Hz := Lib.hid hz
              clear key hz
              go_wp2
              go_ret3
              exact ⟨by rw [Hg2.out, getF_cons, if_neg (by have := Hz.out; omega), if_pos (by have := Hz.out; omega), if_pos ⟨by omega, Hz.out⟩]; rfl, rfl⟩
            · have hz' : ((c.toNat : Int) == 0) = false := by rw [beq_eq_false_iff_ne]; omega
              clear key
              go_wp2
              go_ret3
              exact ⟨by rw [Hg2.out, getF_cons, if_neg (by omega), if_pos (by omega), if_neg (by omega), ← HM.out, ← Hp.out]; simp [got], rfl⟩
        · have h128' : ¬ (c.toNat : Int) < 128 := by omega
          clear key
          go_wp2
          go_round
          case rel =>
            refine ⟨k + 1, acc + p, M * 128, by omega, by omega, by simp, by simp, by simp, ?_, ?_, ?_⟩
            · show M * 128 = 128 ^ (k + 1)
              rw [Nat.pow_succ, HM.out]
            · show acc + p < 128 ^ (k + 1)
              have ha := Hacc.out
              have : p ≤ 127 * 128 ^ k := by rw [Hp.out, HM.out]; exact Nat.mul_le_mul_right _ (by omega)
              rw [Nat.pow_succ]
              omega
            · show get l = _
              rw [Hg2.out, getF_cons, if_neg (by omega), if_neg h128, Hp.out, HM.out, show 10 - (k + 1) = fu by have := Hfu.out; omega]
          case measure => simp [intOf]; omega
    · go_wp2
      go_ret3
      exact ⟨by rw [Hget.out, Hfu.out, List.drop_of_length_le (by omega)]; rfl, rfl⟩

theorem refGet (v : Value) (l : List UInt8) (w : World) (h : Byt w v l) :
    Calls Try.prog 14 #[v] w fun e w' => e = .returned (got (get l)) ∧ w = w' := by
  obtain ⟨a, cap, rfl, h1, h2, _, rfl | ⟨b, off, rfl, hc⟩⟩ := h
  · exact refGet_nil a cap w
  · exact refGet_some b off cap l w hc h1 h2
end Go.Proofs.Ytbdfgbobipognaa
