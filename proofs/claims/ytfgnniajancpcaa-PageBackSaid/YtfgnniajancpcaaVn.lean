/-
  Contracts of the program's own Number and Fixed of vint, and of bytes.Clone.
-/
import Derived.Test.YtfgnniajancpcaaGen
import Derived.Test.YtfgnniajancpcaaVintF
import Derived.Laws.BitsAllLaws
import Derived.Laws.MakeOwn
import Derived.WalkSpells
import Derived.Outline
namespace Go.Proofs.Ytfgnniajancpcaa
open Go.RowKit
set_option linter.unusedVariables false
set_option linter.unusedSimpArgs false

theorem vNumber_long (a : Option Addr) (n cap : Nat) (hn : 8 < n) (w : World) :
    Calls Try.prog 22 #[.slice a n cap] w fun e w' => e = .returned (.int .u64 0) ∧ w = w' := by
  have h8 : (8 : Int) < (n : Int) := by omega
  go_enter Try.func22, Try.ntmps22
  go_wp2
  go_ret
  exact ⟨rfl, rfl⟩

theorem vNumber_nil (a : Option Addr) (cap : Nat) (w : World) :
    Calls Try.prog 22 #[.slice a 0 cap] w fun e w' => e = .returned (.int .u64 0) ∧ w = w' := by
  go_enter Try.func22, Try.ntmps22
  go_wp2
  refine wp_loop_rounds 1 ?_
  rw [rounds_succ]
  go_wp2
  go_ret
  exact ⟨rfl, rfl⟩

set_option maxRecDepth 100000 in
set_option maxHeartbeats 1000000 in
theorem vNumber_some (b off cap : Nat) (l : List UInt8) (w : World) (hc : ∀ i, i < l.length → w.cell? ⟨b, off + i, none⟩ = some (bv (l.getD i 0))) (h8 : l.length ≤ 8) :
    Calls Try.prog 22 #[.slice (some ⟨b, off, none⟩) l.length cap] w fun e w' => e = .returned (.int .u64 (numG l)) ∧ w = w' := by
  have h8' : ¬ (8 : Int) < (l.length : Int) := by omega
  go_enter Try.func22, Try.ntmps22
  go_wp2
  go_loop [3, 11] (fun t3 t4 => ∃ k n : Nat, k ≤ l.length ∧ t3 = .int .u64 n ∧ t4 = .int .i64 k ∧ Hid (n = numG (l.take k)))
    (fun _ t4 => l.length - (intOf t4).toNat)
  case atStart => exact ⟨0, 0, by omega, rfl, rfl, rfl⟩
  case round =>
    obtain ⟨k, n, hk, rfl, rfl, Hn⟩ := hrel
    by_cases hlt : k < l.length
    · have hck := hc k hlt
      obtain ⟨c, Hc⟩ : ∃ c, Hid (l.getD k 0 = c) := ⟨_, rfl⟩
      rw [Hc.out] at hck
      unfold bv at hck
      clear hc
      have hc256 := c.toNat_lt
      have hnb : n < 256 ^ 7 := by
        have h1 := numG_lt (l.take k)
        rw [← Hn.out, List.length_take, Nat.min_eq_left hk] at h1
        exact Nat.lt_of_lt_of_le h1 (Nat.pow_le_pow_right (by omega) (by omega))
      have hw1 : IntKind.u64.wrap ((n : Int) * 256) = (n : Int) * 256 := wrap_u64 _ (by omega) (by omega)
      have hw2 : bits BinOp.or IntKind.u64 ((n : Int) * 256) (c.toNat : Int) = (n : Int) * 256 + (c.toNat : Int) := by
        have h1 := u64_or_nat (n * 256) c.toNat (by omega) (by omega)
        rw [nat_join 8 (n * 256) c.toNat (by omega) (by omega)] at h1
        simpa using h1
      clear hnb
      go_wp2
      go_round
      case rel => exact ⟨k + 1, n * 256 + c.toNat, by omega, by simp, by simp, by show _ = _; rw [take_snoc l k hlt, numG_snoc, ← Hn.out, Hc.out]⟩
      case measure => simp [intOf]; omega
    · go_wp2
      go_ret
      exact ⟨by rw [Hn.out, List.take_of_length_le (by omega)]; rfl, rfl⟩

theorem vNumber (v : Value) (l : List UInt8) (w : World) (h : Byt w v l) :
    Calls Try.prog 22 #[v] w fun e w' => e = .returned (.int .u64 (number l)) ∧ w = w' := by
  obtain ⟨a, cap, rfl, h1, h2, _, h4⟩ := h
  unfold number
  by_cases h8 : 8 < l.length
  · rw [if_pos h8]; exact vNumber_long a _ cap h8 w
  · rw [if_neg h8]
    rcases h4 with rfl | ⟨b, off, rfl, hc⟩
    · exact vNumber_nil a cap w
    · exact vNumber_some b off cap l w hc (by omega)

theorem vFixed_none (n : Int) (size : Int) (w : World) (h : size < 1 ∨ 8 < size) :
    Calls Try.prog 16 #[.int .u64 n, .int .i64 size] w fun e w' => e = .returned (.slice none 0 0) ∧ w = w' := by
  rcases h with h | h
  · go_enter Try.func16, Try.ntmps16
    go_wp2
    go_ret
    exact ⟨rfl, rfl⟩
  · have h' : ¬ size < 1 := by omega
    go_enter Try.func16, Try.ntmps16
    go_wp2
    go_ret
    exact ⟨rfl, rfl⟩

set_option maxRecDepth 100000 in
set_option maxHeartbeats 1000000 in
theorem vFixed_some (n s : Nat) (hn : n < 18446744073709551616) (h1 : 1 ≤ s) (h8 : s ≤ 8) (w : World) :
    Calls Try.prog 16 #[.int .u64 n, .int .i64 s] w fun e w' => ∃ v, e = .returned v ∧ Own 5 w.heap.size w' v (fixG s n) ∧ Grows w w' := by
  obtain ⟨i0, hi, hz0, hz1, hz2⟩ := info_parts info5
  have Hn := Lib.hid hn
  clear hn
  have h1' : ¬ (s : Int) < 1 := by omega
  have h8' : ¬ (8 : Int) < (s : Int) := by omega
  go_enter Try.func16, Try.ntmps16
  go_wp2_with (at_make; refine wpList_make_full _ rfl _ _ 23 rfl w.heap.size 5 i0 (.int .u8 0) 1 Try.underlying23 hi hz0 hz1 .i64 .i64 _ _ s rfl rfl rfl rfl (by rw [hz2]; omega) (by unfold maxLen; omega) (Nat.le_refl _) ?_; intro w1 hown hgrow)
  go_loopw [17] (fun t17 wr => ∃ (k : Nat), k ≤ s ∧ t17 = .int .i64 k ∧
      wr.ownsRow w.heap.size 5 1 (.slice (some ⟨w.heap.size, 0, none⟩) s s) s ((List.replicate (s - k) 0 ++ fixG k n).map bv) ∧ Grows w wr)
    (fun t17 _ => s - (intOf t17).toNat)
  case atStart => exact ⟨0, by omega, rfl, by simpa [toList_madeCells_one, Value.cells, fixG, bv] using hown, (Below.refl _ _).grown hgrow (Nat.le_refl _) (fun _ h => by cases h)⟩
  case round =>
    obtain ⟨k, hk, rfl, hown, hB⟩ := hrel
    by_cases h0 : k < s
    · obtain ⟨j, Hj⟩ : ∃ j, Hid (s - k = j + 1) := ⟨s - k - 1, by show s - k = s - k - 1 + 1; omega⟩
      have hjs : j < s := by have := Hj.out; omega
      have hcl : wr.cell? ⟨w.heap.size, j, none⟩ = some (bv 0) := by
        rw [hown.cellAt j (by omega), Hj.out]
        simp [List.getElem?_append]
      have hfr : wr.frozen? ⟨w.heap.size, j, none⟩ = false := hown.frozenAt j
      have hst := (hown.stored j (bv (UInt8.ofNat (n / 256 ^ k)))).1
      rw [Hj.out, set_mid] at hst
      have Hst := Lib.hid hst
      have hjI : (s : Int) - 1 - (k : Int) = (j : Int) := by have := Hj.out; omega
      clear hst
      go_wp2
      go_roundw
      case rel =>
        refine ⟨k + 1, by omega, by simp, ?_, hB.setCell (Nat.le_refl _) _⟩
        rw [show ((n : Int) / 2 ^ (8 * k) % 256) = (((n / 256 ^ k : Nat) : Int) % 256) by rw [show (256 : Nat) = 2 ^ 8 from rfl, ← Nat.pow_mul]; simp, ← bvE, show s - (k + 1) = j by have := Hj.out; omega, fixG_cons]
        exact Hst.out
      case measure => simp [intOf]; omega
    · go_wp2
      go_ret
      obtain rfl : k = s := by omega
      refine ⟨_, rfl, own_snoc hown (by rw [fixG_length]) ?_, hB⟩
      simp

theorem vFixed (n : Nat) (size : Int) (hn : n < 18446744073709551616) (w : World) :
    Calls Try.prog 16 #[.int .u64 n, .int .i64 size] w fun e w' => ∃ v, e = .returned v ∧ Own 5 w.heap.size w' v (fixed n size) ∧ Grows w w' := by
  unfold fixed
  by_cases h : size < 1 ∨ 8 < size
  · rw [if_pos h]
    exact (vFixed_none n size w h).mono fun e w' ⟨he, hw⟩ => ⟨_, he, hw ▸ Own.nil _ _ _, hw ▸ Below.refl _ _⟩
  · rw [if_neg h]
    obtain ⟨s, rfl⟩ := Int.eq_ofNat_of_zero_le (show 0 ≤ size by omega)
    exact vFixed_some n s hn (by omega) (by omega) w


set_option maxRecDepth 100000 in
theorem clone_any (v : Value) (l : List UInt8) (w : World) (h : Byt w v l) (hl : l.length ≤ 140737488355328) :
    Calls Try.prog 29 #[v] w fun e w' => ∃ v', e = .returned v' ∧ Own 5 w.heap.size w' v' l ∧ Grows w w' := by
  obtain ⟨i0, hi, hz0, hz1, hz2⟩ := info_parts info5
  have H := Lib.hid h
  obtain ⟨a, cap, rfl, h1, h2, h3, h4⟩ := h
  cases a with
  | none =>
    have hl0 : l = [] := by
      have := h3 rfl
      exact List.eq_nil_of_length_eq_zero (by omega)
    subst hl0
    obtain rfl := h3 rfl
    have hq := Lib.run_eql_slice_nil (P := Try.prog)
    go_enter Try.func29, Try.ntmps29
    go_wp2
    go_ret
    exact ⟨_, rfl, Own.nil _ _ _, Below.refl _ _⟩
  | some x =>
    have hq := Lib.run_eql_slice_nil (P := Try.prog)
    have Hl := Lib.hid hl
    clear h1 h2 h3 h4 hl
    go_enter Try.func29, Try.ntmps29
    go_wp2_with (at_builtin; refine wpList_app rfl _ _ 23 5 i0 rfl Try.underlying23 hi hz0 hz1 hz2 w.heap.size _ _ [] l rfl (Own.empty _ _ _ (Nat.le_refl _)) rfl (H.out.grows (Grows.alloc' _ _)) (by have := Hl.out; simp; omega) (by simp) ?_; intro v' w1 hown' hgrow)
    go_ret
    exact ⟨_, rfl, by simpa using hown', grows_app ((Below.refl _ _).alloc (Nat.le_refl _) _) (Own.empty _ _ _ (Nat.le_refl _)) (by simp) hgrow⟩

end Go.Proofs.Ytfgnniajancpcaa
