/-
  The contract of small.
-/
import Derived.Test.YtpodbhimkbadhaaSlO
namespace Go.Proofs.Ytpodbhimkbadhaa
open Go.RowKit
set_option linter.unusedVariables false
set_option linter.unusedSimpArgs false

def SmRet (l : List De) (e : Ending) : Prop := ∃ b : Bool, e = .returned (.bool b) ∧ (b = true ↔ Sm l)
set_option maxRecDepth 100000 in
theorem vSmall (w : World) (v : Value) (l : List De) (h : DeS w v l) : Calls Try.prog 7 #[v] w fun e w' => SmRet l e ∧ w = w' := by
  obtain ⟨⟨a, cap, rfl, hm, hc⟩, ho⟩ := h
  obtain ⟨n, Hn⟩ : ∃ n, Hid (l.length = n) := ⟨_, rfl⟩
  rw [Hn.out] at hm hc ⊢
  have hmI : (n : Int) ≤ 9223372036854775807 := by unfold maxLen at hm; omega
  have Hc := Lib.hid hc
  have Ho := Lib.hid ho
  clear hc ho hm
  go_enter Try.func7, Try.ntmps7
  go_wp2
  go_loop [3] (fun t3 => ∃ k : Nat, k ≤ n ∧ k ≤ 121 ∧ t3 = .int .i64 k ∧ Hid (∀ j, j < k → (dx l j).p.length ≤ 2000)) (fun t3 => n - (intOf t3).toNat)
  case atStart => exact ⟨0, by omega, by omega, rfl, Lib.hid (fun j hj => by omega)⟩
  case round =>
    obtain ⟨k, hk, hk2, rfl, HS⟩ := hrel
    by_cases hlt : k < n
    · have hlt' : (k : Int) < (n : Int) := by omega
      by_cases h120 : k ≤ 120
      · have h120' : (k : Int) ≤ 120 := by omega
        obtain ⟨b, off, rfl, hcl⟩ := Hc.out.resolve_left (by rintro rfl; have := Hn.out; simp at this; omega)
        have c2 := (hcl k hlt).2.2
        obtain ⟨pa, pc, hp⟩ := (Ho.out k).p.slice
        rw [hp] at c2
        obtain ⟨m, Hm⟩ : ∃ m, Hid ((dx l k).p.length = m) := ⟨_, rfl⟩
        rw [Hm.out] at c2
        clear hcl hp
        by_cases hbig : 2000 < m
        · have hbig' : (2000 : Int) < (m : Int) := by omega
          go_wp2
          go_ret
          refine ⟨⟨_, rfl, ⟨fun h => (by cases h), fun h => ?_⟩⟩, rfl⟩
          have := h.2 k
          have := Hm.out
          omega
        · have hbig' : ¬ (2000 : Int) < (m : Int) := by omega
          go_wp2
          refine ⟨⟨k + 1, by omega, by omega, by simp, Lib.hid (fun j hj => ?_)⟩, by simp [intOf]; omega⟩
          by_cases e : j = k
          · rw [e, Hm.out]; omega
          · exact HS.out j (by omega)
      · have h120' : ¬ (k : Int) ≤ 120 := by omega
        have hn' : ¬ (n : Int) ≤ 120 := by omega
        go_wp2
        go_ret
        refine ⟨⟨_, rfl, ⟨fun h => (by simp at h <;> omega), fun h => ?_⟩⟩, rfl⟩
        have := h.1
        have := Hn.out
        omega
    · have hlt' : ¬ (k : Int) < (n : Int) := by omega
      have hkn : k = n := by omega
      by_cases hn : n ≤ 120
      · have hn' : (n : Int) ≤ 120 := by omega
        go_wp2
        go_ret
        refine ⟨⟨_, rfl, ⟨fun _ => ⟨by rw [Hn.out]; exact hn, fun j => ?_⟩, fun _ => (by simp <;> omega)⟩⟩, rfl⟩
        by_cases hj : j < k
        · exact HS.out j hj
        · rw [dx_out l j (by rw [Hn.out]; omega)]; simp [deZ]
      · have hn' : ¬ (n : Int) ≤ 120 := by omega
        go_wp2
        go_ret
        refine ⟨⟨_, rfl, ⟨fun h => (by simp at h <;> omega), fun h => ?_⟩⟩, rfl⟩
        have := h.1
        have := Hn.out
        omega
end Go.Proofs.Ytpodbhimkbadhaa
