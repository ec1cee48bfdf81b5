/-
  Contracts of the document's own Number and Fixed (layer 1).
-/
import Derived.Test.YtfgnniajancpcaaVn
namespace Go.Proofs.Ytfgnniajancpcaa
open Go.RowKit
set_option linter.unusedVariables false

set_option maxRecDepth 100000 in
set_option maxHeartbeats 1000000 in
theorem refNumber_long (a : Option Addr) (n cap : Nat) (hn : 8 < n) (w : World) :
    Calls Try.prog 24 #[.slice a n cap] w fun e w' => e = .returned (.int .u64 0) ∧ w = w' := by
  have h8 : (8 : Int) < (n : Int) := by omega
  go_enter Try.func24, Try.ntmps24
  go_wp2
  go_ret
  exact ⟨rfl, rfl⟩

theorem refNumber_nil (a : Option Addr) (cap : Nat) (w : World) :
    Calls Try.prog 24 #[.slice a 0 cap] w fun e w' => e = .returned (.int .u64 0) ∧ w = w' := by
  go_enter Try.func24, Try.ntmps24
  go_wp2
  refine wp_loop_rounds 1 ?_
  rw [rounds_succ]
  go_wp2
  go_ret
  exact ⟨rfl, rfl⟩

set_option maxRecDepth 100000 in
set_option maxHeartbeats 1000000 in
theorem refNumber_some (b off cap : Nat) (l : List UInt8) (w : World) (hc : ∀ i, i < l.length → w.cell? ⟨b, off + i, none⟩ = some (bv (l.getD i 0))) (h8 : l.length ≤ 8) :
    Calls Try.prog 24 #[.slice (some ⟨b, off, none⟩) l.length cap] w fun e w' => e = .returned (.int .u64 (numG l)) ∧ w = w' := by
  have h8' : ¬ (8 : Int) < (l.length : Int) := by omega
  go_enter Try.func24, Try.ntmps24
  go_wp2
  go_loop [3, 4] (fun t3 t4 => ∃ k n : Nat, k ≤ l.length ∧ t3 = .int .u64 n ∧ t4 = .int .i64 k ∧ Hid (n = numG (l.take k)))
    (fun _ t4 => l.length - (intOf t4).toNat)
  case atStart => exact ⟨0, 0, by omega, rfl, rfl, rfl⟩
  case round =>
    obtain ⟨k, n, hk, rfl, rfl, Hn⟩ := hrel
    by_cases hlt : k < l.length
    · have hck := hc k hlt
      obtain ⟨c, Hc⟩ : ∃ c, Hid (l.getD k 0 = c) := ⟨_, rfl⟩
      rw [Hc.out] at hck
      unfold bv at hck
      clear hc
      have hc256 := c.toNat_lt
      have hnb : n < 256 ^ 7 := by
        have h1 := numG_lt (l.take k)
        rw [← Hn.out, List.length_take, Nat.min_eq_left hk] at h1
        exact Nat.lt_of_lt_of_le h1 (Nat.pow_le_pow_right (by omega) (by omega))
      have hw1 : IntKind.u64.wrap ((n : Int) * 256) = (n : Int) * 256 := wrap_u64 _ (by omega) (by omega)
      have hw2 : IntKind.u64.wrap ((n : Int) * 256 + (c.toNat : Int)) = (n : Int) * 256 + (c.toNat : Int) := wrap_u64 _ (by omega) (by omega)
      clear hnb
      go_wp2
      go_round
      case rel => exact ⟨k + 1, n * 256 + c.toNat, by omega, by simp, by simp, by show _ = _; rw [take_snoc l k hlt, numG_snoc, ← Hn.out, Hc.out]⟩
      case measure => simp [intOf]; omega
    · go_wp2
      go_ret
      exact ⟨by rw [Hn.out, List.take_of_length_le (by omega)]; rfl, rfl⟩

theorem refNumber (v : Value) (l : List UInt8) (w : World) (h : Byt w v l) :
    Calls Try.prog 24 #[v] w fun e w' => e = .returned (.int .u64 (number l)) ∧ w = w' := by
  obtain ⟨a, cap, rfl, h1, h2, _, h4⟩ := h
  unfold number
  by_cases h8 : 8 < l.length
  · rw [if_pos h8]; exact refNumber_long a _ cap h8 w
  · rw [if_neg h8]
    rcases h4 with rfl | ⟨b, off, rfl, hc⟩
    · exact refNumber_nil a cap w
    · exact refNumber_some b off cap l w hc (by omega)

theorem refFixed_none (n : Int) (size : Int) (w : World) (h : size < 1 ∨ 8 < size) :
    Calls Try.prog 19 #[.int .u64 n, .int .i64 size] w fun e w' => e = .returned (.slice none 0 0) ∧ w = w' := by
  rcases h with h | h
  · go_enter Try.func19, Try.ntmps19
    go_wp2
    go_ret
    exact ⟨rfl, rfl⟩
  · have h' : ¬ size < 1 := by omega
    go_enter Try.func19, Try.ntmps19
    go_wp2
    go_ret
    exact ⟨rfl, rfl⟩

set_option maxRecDepth 100000 in
set_option maxHeartbeats 1000000 in
theorem refFixed_some (n s : Nat) (hn : n < 18446744073709551616) (h1 : 1 ≤ s) (h8 : s ≤ 8) (w : World) :
    Calls Try.prog 19 #[.int .u64 n, .int .i64 s] w fun e w' => ∃ v, e = .returned v ∧ Own 5 w.heap.size w' v (fixG s n) ∧ Grows w w' := by
  obtain ⟨i0, hi, hz0, hz1, hz2⟩ := info_parts info5
  have Hn := Lib.hid hn
  clear hn
  have h1' : ¬ (s : Int) < 1 := by omega
  have h8' : ¬ (8 : Int) < (s : Int) := by omega
  go_enter Try.func19, Try.ntmps19
  go_wp2_with (at_make; refine wpList_make_full _ rfl _ _ 23 rfl w.heap.size 5 i0 (.int .u8 0) 1 Try.underlying23 hi hz0 hz1 .i64 .i64 _ _ s rfl rfl rfl rfl (by rw [hz2]; omega) (by unfold maxLen; omega) (Nat.le_refl _) ?_; intro w1 hown hgrow)
  go_loopw [0, 6] (fun t0 t6 wr => ∃ (k m : Nat) (i : Int), k ≤ s ∧ t0 = .int .u64 m ∧ t6 = .int .i64 i ∧ Hid (i = s - 1 - k) ∧ i < s ∧ -1 ≤ i ∧ Hid (m = n / 256 ^ k) ∧
      wr.ownsRow w.heap.size 5 1 (.slice (some ⟨w.heap.size, 0, none⟩) s s) s ((List.replicate (s - k) 0 ++ fixG k n).map bv) ∧ Grows w wr)
    (fun _ t6 _ => ((intOf t6) + 1).toNat)
  case atStart => exact ⟨0, n, _, by omega, rfl, rfl, by show (s : Int) - 1 = s - 1 - (0 : Nat); omega, by omega, by omega, by show n = _; simp, by simpa [toList_madeCells_one, Value.cells, fixG, bv] using hown, (Below.refl _ _).grown hgrow (Nat.le_refl _) (fun _ h => by cases h)⟩
  case round =>
    obtain ⟨k, m, i, hk, rfl, rfl, Hi, his, hi1, Hm, hown, hB⟩ := hrel
    by_cases h0 : 0 ≤ i
    · obtain ⟨j, rfl⟩ := Int.eq_ofNat_of_zero_le h0
      have hjs : j < s := by omega
      have hjk : s - k = j + 1 := by have := Hi.out; omega
      have hcl : wr.cell? ⟨w.heap.size, j, none⟩ = some (bv 0) := by
        rw [hown.cellAt j (by omega), hjk]
        simp [List.getElem?_append]
      have hfr : wr.frozen? ⟨w.heap.size, j, none⟩ = false := hown.frozenAt j
      have hst := (hown.stored j (bv (UInt8.ofNat m))).1
      rw [hjk, set_mid] at hst
      have hmb : m < 18446744073709551616 := by rw [Hm.out]; exact Nat.lt_of_le_of_lt (Nat.div_le_self _ _) Hn.out
      have hw : IntKind.u64.wrap ((m : Int) / 256) = (m : Int) / 256 := wrap_u64 _ (by omega) (by omega)
      have Hst := Lib.hid hst
      clear hst hmb hjk
      go_wp2
      go_roundw
      case rel =>
        refine ⟨k + 1, m / 256, (j : Int) - 1, by have := Hi.out; omega, by simp, rfl, by show (j : Int) - 1 = s - 1 - (k + 1 : Nat); have := Hi.out; omega, by omega, by omega, by show _ = _; rw [Hm.out, Nat.div_div_eq_div_mul, Nat.pow_succ], ?_, ?_⟩
        · rw [← bvE, show s - (k + 1) = j by have := Hi.out; omega, fixG_cons, ← Hm.out]
          exact Hst.out
        · exact hB.setCell (Nat.le_refl _) _
      case measure => simp [intOf]
    · go_wp2
      go_ret
      have hks : k = s := by have := Hi.out; omega
      refine ⟨_, rfl, own_snoc hown (by rw [fixG_length]) ?_, hB⟩
      subst hks
      simp

theorem refFixed (n : Nat) (size : Int) (hn : n < 18446744073709551616) (w : World) :
    Calls Try.prog 19 #[.int .u64 n, .int .i64 size] w fun e w' => ∃ v, e = .returned v ∧ Own 5 w.heap.size w' v (fixed n size) ∧ Grows w w' := by
  unfold fixed
  by_cases h : size < 1 ∨ 8 < size
  · rw [if_pos h]
    exact (refFixed_none n size w h).mono fun e w' ⟨he, hw⟩ => ⟨_, he, hw ▸ Own.nil _ _ _, hw ▸ Below.refl _ _⟩
  · rw [if_neg h]
    obtain ⟨s, rfl⟩ := Int.eq_ofNat_of_zero_le (show 0 ≤ size by omega)
    exact refFixed_some n s hn (by omega) (by omega) w
end Go.Proofs.Ytfgnniajancpcaa
