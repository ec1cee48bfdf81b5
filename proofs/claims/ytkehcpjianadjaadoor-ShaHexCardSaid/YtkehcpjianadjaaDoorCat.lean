/-
  Contracts of vint.Fixed, and of slices.Grow and slices.Concat on bytes.
-/
import Derived.Test.YtkehcpjianadjaaDoorGen
import Derived.Test.YtkehcpjianadjaaDoorVintF
import Derived.Laws.BitsAllLaws
import Derived.Laws.MakeOwn
import Derived.WalkSpells
import Derived.Outline
import Derived.Lib.AppendZeros
namespace Go.Proofs.YtkehcpjianadjaaDoor
open Go.RowKit
set_option linter.unusedVariables false
set_option linter.unusedSimpArgs false

theorem vFixed_none (n : Int) (size : Int) (w : World) (h : size < 1 ∨ 8 < size) :
    Calls Tryd.prog 32 #[.int .u64 n, .int .i64 size] w fun e w' => e = .returned (.slice none 0 0) ∧ w = w' := by
  rcases h with h | h
  · go_enter Tryd.func32, Tryd.ntmps32
    go_wp2
    go_ret
    exact ⟨rfl, rfl⟩
  · have h' : ¬ size < 1 := by omega
    go_enter Tryd.func32, Tryd.ntmps32
    go_wp2
    go_ret
    exact ⟨rfl, rfl⟩

set_option maxRecDepth 100000 in
set_option maxHeartbeats 1000000 in
theorem vFixed_some (n s : Nat) (hn : n < 18446744073709551616) (h1 : 1 ≤ s) (h8 : s ≤ 8) (w : World) :
    Calls Tryd.prog 32 #[.int .u64 n, .int .i64 s] w fun e w' => ∃ v, e = .returned v ∧ Own 5 w.heap.size w' v (fixG s n) ∧ Grows w w' := by
  obtain ⟨i0, hi, hz0, hz1, hz2⟩ := info_parts info5
  have Hn := Lib.hid hn
  clear hn
  have h1' : ¬ (s : Int) < 1 := by omega
  have h8' : ¬ (8 : Int) < (s : Int) := by omega
  go_enter Tryd.func32, Tryd.ntmps32
  go_wp2_with (at_make; refine wpList_make_full _ rfl _ _ 22 rfl w.heap.size 5 i0 (.int .u8 0) 1 Tryd.underlying22 hi hz0 hz1 .i64 .i64 _ _ s rfl rfl rfl rfl (by rw [hz2]; omega) (by unfold maxLen; omega) (Nat.le_refl _) ?_; intro w1 hown hgrow)
  go_loopw [17] (fun t17 wr => ∃ (k : Nat), k ≤ s ∧ t17 = .int .i64 k ∧
      wr.ownsRow w.heap.size 5 1 (.slice (some ⟨w.heap.size, 0, none⟩) s s) s ((List.replicate (s - k) 0 ++ fixG k n).map bv) ∧ Grows w wr)
    (fun t17 _ => s - (intOf t17).toNat)
  case atStart => exact ⟨0, by omega, rfl, by simpa [toList_madeCells_one, Value.cells, fixG, bv] using hown, (Below.refl _ _).grown hgrow (Nat.le_refl _) (fun _ h => by cases h)⟩
  case round =>
    obtain ⟨k, hk, rfl, hown, hB⟩ := hrel
    by_cases h0 : k < s
    · obtain ⟨j, Hj⟩ : ∃ j, Hid (s - k = j + 1) := ⟨s - k - 1, by show s - k = s - k - 1 + 1; omega⟩
      have hjs : j < s := by have := Hj.out; omega
      have hcl : wr.cell? ⟨w.heap.size, j, none⟩ = some (bv 0) := by
        rw [hown.cellAt j (by omega), Hj.out]
        simp [List.getElem?_append]
      have hfr : wr.frozen? ⟨w.heap.size, j, none⟩ = false := hown.frozenAt j
      have hst := (hown.stored j (bv (UInt8.ofNat (n / 256 ^ k)))).1
      rw [Hj.out, set_mid] at hst
      have Hst := Lib.hid hst
      have hjI : (s : Int) - 1 - (k : Int) = (j : Int) := by have := Hj.out; omega
      clear hst
      go_wp2
      go_roundw
      case rel =>
        refine ⟨k + 1, by omega, by simp, ?_, hB.setCell (Nat.le_refl _) _⟩
        rw [show ((n : Int) / 2 ^ (8 * k) % 256) = (((n / 256 ^ k : Nat) : Int) % 256) by rw [show (256 : Nat) = 2 ^ 8 from rfl, ← Nat.pow_mul]; simp, ← bvE, show s - (k + 1) = j by have := Hj.out; omega, fixG_cons]
        exact Hst.out
      case measure => simp [intOf]; omega
    · go_wp2
      go_ret
      obtain rfl : k = s := by omega
      refine ⟨_, rfl, own_snoc hown (by rw [fixG_length]) ?_, hB⟩
      simp

theorem vFixed (n : Nat) (size : Int) (hn : n < 18446744073709551616) (w : World) :
    Calls Tryd.prog 32 #[.int .u64 n, .int .i64 size] w fun e w' => ∃ v, e = .returned v ∧ Own 5 w.heap.size w' v (fixed n size) ∧ Grows w w' := by
  unfold fixed
  by_cases h : size < 1 ∨ 8 < size
  · rw [if_pos h]
    exact (vFixed_none n size w h).mono fun e w' ⟨he, hw⟩ => ⟨_, he, hw ▸ Own.nil _ _ _, hw ▸ Below.refl _ _⟩
  · rw [if_neg h]
    obtain ⟨s, rfl⟩ := Int.eq_ofNat_of_zero_le (show 0 ≤ size by omega)
    exact vFixed_some n s hn (by omega) (by omega) w


theorem flat_snocL (ls : List (List UInt8)) (k : Nat) (hk : k < ls.length) : (ls.take (k + 1)).flatten = (ls.take k).flatten ++ ls.getD k [] := by
  rw [List.take_succ_eq_append_getElem hk]
  rw [List.flatten_append]
  simp [List.getD, hk]
set_option maxRecDepth 100000 in
theorem vGrow (n : Nat) (hn : n ≤ 140737488355328) (w : World) :
    Calls Tryd.prog 38 #[.slice none 0 0, .int .i64 n] w fun e w' => ∃ v', e = .returned v' ∧ Own 5 w.heap.size w' v' [] ∧ Grows w w' := by
  obtain ⟨i0, hi, hz0, hz1, hz2⟩ := info_parts info5
  by_cases h0 : n = 0
  · subst h0
    go_enter Tryd.func38, Tryd.ntmps38
    go_wp2
    go_ret
    exact ⟨_, rfl, Own.nil _ _ _, Below.refl _ _⟩
  · have h1 : ¬ ((n : Int) < 0) := by omega
    have h2 : (n : Int) > 0 := by omega
    have hrz := fun ty => Lib.run_append_nil_zeros (P := Tryd.prog) w 22 3 ty 5 i0 (.int .u8 0) .i64 .i64 Tryd.underlying22 Tryd.underlying3 hi hz0 n (by omega) (by omega) (by omega) (by rw [hz2]; omega)
    have hge := grownCap_ge w n 0 5
    have hle := grownCap_le_maxLen w n 0 5 (by unfold maxLen; omega)
    obtain ⟨G, hG⟩ : ∃ G, G = grownCap w n 0 5 := ⟨_, rfl⟩
    rw [← hG] at hrz hge hle
    have Hle := Lib.hid hle
    unfold maxLen at hle
    clear hG
    go_enter Tryd.func38, Tryd.ntmps38
    go_wp2_with (at_builtin; refine Lib.wpList_append_run _ rfl _ _ _ _ rfl _ _ rfl rfl _ _ (hrz _) ?_)
    go_ret
    refine ⟨_, rfl, ⟨by simp, .inr ⟨w.heap.size, G, _, rfl, Nat.le_refl _, heap_alloc_new w.drew _, Nat.zero_le _, Hle.out, ?_, by simp⟩⟩, (Below.refl _ _).drew.alloc (Nat.le_refl _) _⟩
    simp [Value.cells, Builtin.zeroCells]
    omega

theorem len_snocL (ls : List (List UInt8)) (k : Nat) (hk : k < ls.length) : (ls.take (k + 1)).flatten.length = (ls.take k).flatten.length + (ls.getD k []).length := by
  rw [flat_snocL ls k hk, List.length_append]
theorem len_takeL (ls : List (List UInt8)) (k : Nat) : (ls.take k).flatten.length ≤ ls.flatten.length := by
  have h : ls.flatten = (ls.take k).flatten ++ (ls.drop k).flatten := by rw [← List.flatten_append, List.take_append_drop]
  rw [h, List.length_append]
  omega

set_option maxRecDepth 100000 in
set_option maxHeartbeats 2000000 in
theorem vConcat_some (b off cap : Nat) (ls : List (List UInt8)) (w : World) (hl : ls.length ≤ maxLen) (ht : ls.flatten.length ≤ 140737488355328) (hcl : ∀ i, i < ls.length → ∃ u, w.cell? ⟨b, off + i, none⟩ = some u ∧ Byt w u (ls.getD i [])) :
    Calls Tryd.prog 31 #[.slice (some ⟨b, off, none⟩) ls.length cap] w fun e w' => ∃ v', e = .returned v' ∧ Own 5 w.heap.size w' v' ls.flatten ∧ Grows w w' := by
  obtain ⟨i0, hi, hz0, hz1, hz2⟩ := info_parts info5
  unfold maxLen at hl
  have HC := Lib.hid hcl
  have Ht := Lib.hid ht
  clear hcl ht
  go_enter Tryd.func31, Tryd.ntmps31
  go_wp2
  go_loop [3, 11] (fun t3 t11 => ∃ k s : Nat, k ≤ ls.length ∧ s ≤ 140737488355328 ∧ t3 = .int .i64 s ∧ t11 = .int .i64 k ∧ Hid (s = (ls.take k).flatten.length))
    (fun _ t11 => ls.length - (intOf t11).toNat)
  case atStart => exact ⟨0, 0, by omega, by omega, rfl, rfl, rfl⟩
  case round =>
    obtain ⟨k, s, hk, hs, rfl, rfl, Hs⟩ := hrel
    by_cases hlt : k < ls.length
    · obtain ⟨u, hu, hby⟩ := HC.out k hlt
      have hsn : s + (ls.getD k []).length ≤ 140737488355328 := by
        have h1 := len_snocL ls k hlt
        have h2 := len_takeL ls (k + 1)
        have h3 := Ht.out
        rw [Hs.out]
        omega
      have Hsn : Hid (s + (ls.getD k []).length = (ls.take (k + 1)).flatten.length) := by show _ = _; rw [len_snocL ls k hlt, ← Hs.out]
      obtain ⟨l, Hl⟩ : ∃ l, Hid (ls.getD k [] = l) := ⟨_, rfl⟩
      rw [Hl.out] at hby hsn Hsn
      obtain ⟨a', cap', rfl, h1, h2, h3, h4⟩ := hby
      clear h1 h2 h3 h4
      have hneg : ¬ ((s : Int) + (l.length : Int) < 0) := by omega
      go_wp2
      go_round
      case rel => exact ⟨k + 1, s + l.length, by omega, hsn, by simp, by simp, Hsn.out⟩
      case measure => simp [intOf]; omega
    · have Hs2 : Hid (s = ls.flatten.length) := by show _ = _; rw [Hs.out, List.take_of_length_le (by omega)]
      have HG := Lib.hid (vGrow s hs w)
      clear hs
      go_wp2_with fail
      refine HG.out.mono ?_
      rintro e w1 ⟨v1, rfl, hown, hg⟩
      go_wp2
      go_loopw [6, 27] (fun t6 t27 wr => ∃ k : Nat, k ≤ ls.length ∧ t27 = .int .i64 k ∧ Own 5 w.heap.size wr t6 (ls.take k).flatten ∧ Grows w wr)
        (fun _ t27 _ => ls.length - (intOf t27).toNat)
      case atStart => exact ⟨0, by omega, rfl, by simpa using hown, hg⟩
      case round =>
        obtain ⟨j, hj, rfl, hownj, hgj⟩ := hrel
        by_cases hjl : j < ls.length
        · obtain ⟨u, hu, hby⟩ := HC.out j hjl
          have hu' := hgj.cell' hu
          have hby' := hby.grows hgj
          have Hlen : Hid ((ls.take j).flatten.length + (ls.getD j []).length ≤ 140737488355328) := by
            have h1 := len_snocL ls j hjl
            have h2 := len_takeL ls (j + 1)
            have h3 := Ht.out
            show _ ≤ _
            omega
          have Hfl := Lib.hid (flat_snocL ls j hjl)
          have Hgj := Lib.hid hgj
          have Hby := Lib.hid hby'
          have Hown := Lib.hid hownj
          clear hu hby hby' hgj hownj
          go_wp2_with (at_builtin; refine wpList_app rfl _ _ 22 5 i0 rfl Tryd.underlying22 hi hz0 hz1 hz2 w.heap.size _ _ _ _ rfl Hown.out rfl Hby.out Hlen.out Hgj.out.size ?_; intro v' w2 hown' hgrow)
          go_roundw
          case rel => exact ⟨j + 1, by omega, by simp, by rw [Hfl.out]; exact hown', grows_app Hgj.out Hown.out Hgj.out.size hgrow⟩
          case measure => simp [intOf]; omega
        · go_wp2
          go_ret
          refine ⟨_, rfl, ?_, hgj⟩
          rw [List.take_of_length_le (by omega)] at hownj
          exact hownj

theorem vConcat (v : Value) (ls : List (List UInt8)) (w : World) (h : BytL w v ls) (hne : ls ≠ []) (ht : ls.flatten.length ≤ 140737488355328) :
    Calls Tryd.prog 31 #[v] w fun e w' => ∃ v', e = .returned v' ∧ Own 5 w.heap.size w' v' ls.flatten ∧ Grows w w' := by
  obtain ⟨a, cap, rfl, h1, h2, h3, h4⟩ := h
  obtain ⟨b, off, rfl, h5⟩ := h4.resolve_left hne
  exact vConcat_some b off cap ls w (by omega) ht h5
theorem Own.base {e : TypeId} {B B' : Nat} {W : World} {v : Value} {l : List UInt8} (h : Own e B W v l) (hb : B' ≤ B) : Own e B' W v l := by
  refine ⟨h.1, ?_⟩
  rcases h.2 with h' | ⟨g, cap, cur, e1, hg, rest⟩
  · exact .inl h'
  · exact .inr ⟨g, cap, cur, e1, by omega, rest⟩
end Go.Proofs.YtkehcpjianadjaaDoor
