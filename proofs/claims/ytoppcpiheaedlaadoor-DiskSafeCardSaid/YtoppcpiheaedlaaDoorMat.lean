/-
  What came in as a slice of slices of bytes, by the lists of bytes that it reads as.
-/
import Derived.Test.YtoppcpiheaedlaaDoorGen
import Derived.Deep.Matrix
namespace Go.Proofs.YtoppcpiheaedlaaDoor
open Go.RowKit
set_option linter.unusedVariables false

theorem choose_lt' {α : Type} {n : Nat} {R : Nat → α → Prop} (d : α) (h : ∀ r, r < n → ∃ y, R r y) : ∃ f : Nat → α, ∀ r, r < n → R r (f r) := by
  induction n with
  | zero => exact ⟨fun _ => d, fun r hr => by omega⟩
  | succ n ih =>
    obtain ⟨f, hf⟩ := ih fun r hr => h r (by omega)
    obtain ⟨y, hy⟩ := h n (by omega)
    refine ⟨fun r => if r = n then y else f r, fun r hr => ?_⟩
    by_cases e : r = n
    · subst e; simpa using hy
    · simpa [e] using hf r (by omega)
theorem bytL_of_rows {w : World} {a : Option Addr} {len cap : Nat}
    (h : (a = none ∧ len = 0 ∧ cap = 0) ∨ ∃ (x : Addr) (A : Nat → Option Addr) (L C : Nat → Nat) (Z : Nat → List Int), a = some x ∧ len ≤ cap ∧ cap ≤ maxLen ∧
      ∀ r, r < cap → w.cell? (x.add r) = some (.slice (A r) (L r) (C r)) ∧ L r ≤ C r ∧ C r ≤ maxLen ∧ (Z r).length = C r ∧ (∀ n ∈ Z r, (Lit.int .u8 n).wf = true) ∧ (A r = none → C r = 0) ∧ ∀ a', A r = some a' → ∀ c, c < C r → w.cell? (a'.add c) = some (.int .u8 ((Z r).getD c 0))) :
    ∃ ls : List (List UInt8), len = ls.length ∧ BytL w (.slice a len cap) ls := by
  rcases h with ⟨rfl, rfl, rfl⟩ | ⟨x, A, L, C, Z, rfl, h1, h2, h3⟩
  · exact ⟨[], rfl, none, 0, rfl, Nat.le_refl _, by simp [maxLen], fun _ => rfl, .inl rfl⟩
  · have each : ∀ r, r < cap → ∃ l : List UInt8, w.cell? (x.add r) = some (.slice (A r) (L r) (C r)) ∧ Byt w (.slice (A r) (L r) (C r)) l := fun r hr => by
      obtain ⟨c1, c2, c3, c4, c5, c6, c7⟩ := h3 r hr
      have hrow : (A r = none ∧ L r = 0 ∧ C r = 0 ∧ Z r = []) ∨ ∃ y, A r = some y ∧ L r ≤ C r ∧ C r ≤ maxLen ∧ (Z r).length = C r ∧ (∀ i, i < (Z r).length → w.cell? (y.add i) = some (.int .u8 ((Z r).getD i 0))) ∧ ∀ n ∈ Z r, (Lit.int .u8 n).wf = true := by
        cases hA : A r with
        | none =>
          have h0 := c6 hA
          exact .inl ⟨rfl, by omega, h0, List.eq_nil_of_length_eq_zero (by omega)⟩
        | some y => exact .inr ⟨y, rfl, c2, c3, c4, fun i hi => c7 y hA i (by omega), c5⟩
      obtain ⟨l, hl, hb⟩ := byt_of_row hrow
      exact ⟨l, c1, hb⟩
    obtain ⟨f, hf⟩ := choose_lt' [] each
    refine ⟨(List.range len).map f, by simp, some x, cap, by simp, by simpa using h1, h2, (fun h => by cases h), ?_⟩
    by_cases h0 : len = 0
    · left; subst h0; rfl
    · right
      obtain ⟨b, off, spot⟩ := x
      have hc := (hf 0 (by omega)).1
      have hspot : spot = none := by simpa [Addr.add] using World.cell?_spot hc
      subst hspot
      refine ⟨b, off, rfl, fun i hi => ?_⟩
      have hi' : i < len := by simpa using hi
      have hfi := hf i (by omega)
      have h5 := hfi.1
      rw [Addr.add_lit] at h5
      refine ⟨_, h5, ?_⟩
      have e : ((List.range len).map f).getD i [] = f i := by simp [List.getD, hi']
      rw [e]
      exact hfi.2
end Go.Proofs.YtoppcpiheaedlaaDoor
