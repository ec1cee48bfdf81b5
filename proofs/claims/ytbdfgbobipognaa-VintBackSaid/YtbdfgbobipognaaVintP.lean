/-
  Contracts of Put, of the program and of the document's own answer.
-/
import Derived.Test.YtbdfgbobipognaaChecked
import Derived.Test.YtbdfgbobipognaaByt
import Derived.Test.YtbdfgbobipognaaVintF
import Derived.Maps.AppendAt
namespace Go.Proofs.Ytbdfgbobipognaa
open Go.RowKit

theorem info5 : (Try.prog.info? 5).map (fun i => (i.zero, i.size, i.bytes)) = some (some (.int .u8 0), 1, 1) := by kernel_rfl

theorem own_snoc {e : TypeId} {B : Nat} {W : World} {v : Value} {n : Nat} {xs : List Value} {l : List UInt8} (h : W.ownsRow B e 1 v n xs) (hn : n = l.length) (hx : xs = l.map bv) : Own e B W v l := by
  subst hn; subst hx; exact h

set_option maxRecDepth 100000 in
set_option maxHeartbeats 400000 in
theorem refPut (n : Nat) (hn : n < 18446744073709551616) (w : World) :
    Calls Try.prog 11 #[.int .u64 n] w fun e w' => ∃ v, e = .returned v ∧ Own 5 w.heap.size w' v (put n) ∧ Grows w w' := by
  obtain ⟨i0, hi, hz0, hz1, hz2⟩ := info_parts info5
  have Hn := Lib.hid hn
  clear hn
  go_enter Try.func11, Try.ntmps11
  go_wp2_with fail
  go_loopw [0, 3] (fun t v wr => ∃ (k m : Nat) (pre : List UInt8), t = .int .u64 m ∧ m ≤ n ∧ k ≤ 9 ∧ pre.length + k = 9 ∧ put n = pre ++ putL k m ∧ m < 128 ^ (k + 1) ∧ Own 5 w.heap.size wr v pre ∧ Grows w wr)
    (fun t _ _ => (intOf t).toNat)
  case atStart => exact ⟨9, n, [], rfl, Nat.le_refl _, Nat.le_refl _, rfl, rfl, by have := Hn.out; omega, Own.nil _ _ _, Below.refl _ _⟩
  case round =>
    obtain ⟨k, m, pre, rfl, hm, hk, hpk, hput, hmk, hown, hB⟩ := hrel
    by_cases h : m < 128
    · go_wp2_with (at_builtin; refine wpList_push rfl _ _ 23 5 i0 rfl Try.underlying23 hi hz0 hz1 hz2 w.heap.size _ pre rfl (hown.alloc _) wr.heap.size 1 rfl _ (cell_lit _ _ _) (UInt8.ofNat m) (byteE m _ (by omega) (by omega)) (by omega) (by have := hB.size; simp; omega) ?_; intro v' w1 hown' hgrow)
      go_ret
      exact ⟨_, rfl, by rw [hput, putL_lt _ _ h]; exact hown', grows_push hB hown hB.size hgrow⟩
    · have hk1 : 1 ≤ k := by
        rcases k with _ | k
        · simp at hmk; omega
        · omega
      obtain ⟨k, rfl⟩ : ∃ j, k = j + 1 := ⟨k - 1, by omega⟩
      have hw : IntKind.u64.wrap ((m : Int) / 128) = (m : Int) / 128 := wrap_u64 _ (by omega) (by have := Hn.out; omega)
      go_wp2_with (at_builtin; refine wpList_push rfl _ _ 23 5 i0 rfl Try.underlying23 hi hz0 hz1 hz2 w.heap.size _ pre rfl (hown.alloc _) wr.heap.size 1 rfl _ (cell_lit _ _ _) (UInt8.ofNat (m % 128 + 128)) (byteE (m % 128 + 128) _ (by omega) (by omega)) (by omega) (by have := hB.size; simp; omega) ?_; intro v' w1 hown' hgrow)
      go_roundw
      case rel => exact ⟨k, m / 128, pre ++ [UInt8.ofNat (m % 128 + 128)], by simp, by omega, by omega, by simp; omega, by rw [hput, putL_ge _ _ h]; simp, by rw [Nat.pow_succ] at hmk; omega, hown', grows_push hB hown hB.size hgrow⟩
      case measure => simp [intOf]; omega
end Go.Proofs.Ytbdfgbobipognaa
