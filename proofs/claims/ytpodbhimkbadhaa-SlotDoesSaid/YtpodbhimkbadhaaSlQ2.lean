/-
  What a deed makes of a body; what came in does not lie in what is made.
-/
import Derived.Test.YtpodbhimkbadhaaSlQ
namespace Go.Proofs.Ytpodbhimkbadhaa
open Go.RowKit
set_option linter.unusedVariables false
set_option linter.unusedSimpArgs false

theorem byt_out {w : World} {v : Value} {l : List UInt8} {g : Nat} (h : Byt w v l) (hg : w.heap.size ≤ g) : Outside (At g) v := by
  intro b o sp n c e hn hb
  obtain ⟨a, cap, rfl, _, _, _, h4⟩ := h
  simp only [Value.slice.injEq] at e
  obtain ⟨rfl, rfl, rfl⟩ := e
  rcases h4 with h4 | ⟨b', off, e, hc⟩
  · rw [h4] at hn; exact hn rfl
  · simp only [Option.some.injEq, Addr.mk.injEq] at e
    have := World.block_lt_of_cell? _ _ (hc 0 (by omega))
    have hb' : b = g := hb
    simp at this
    omega
/-- What an insert makes of a body, and answers. -/
def insS (A : Bo) (i : Int) (c : List UInt8) : Bo := if 0 ≤ i ∧ i ≤ (A.l.length : Int) ∧ c.length ≤ 78 ∧ 2 + c.length ≤ freeA A then insA A i.toNat c else A
def insE (A : Bo) (i : Int) (c : List UInt8) : Int := if i < 0 ∨ (A.l.length : Int) < i then 7 else if 78 < c.length then 1 else if freeA A < 2 + c.length then 60 else 0
def delS (A : Bo) (i : Int) : Bo := if 0 ≤ i ∧ i < (A.l.length : Int) then delA A i.toNat else A
def delE (A : Bo) (i : Int) : Int := if i < 0 ∨ (A.l.length : Int) ≤ i then 7 else 0
def HasIn (w' : World) (g : Nat) (A : Bo) : Prop := ∃ f', Has w' g f' A
theorem hInsert {w : World} {g : Nat} {f : Raw} {A : Bo} (h : Has w g f A) (i : Int) (v : Value) (c : List UInt8) (hv : Byt w v c) (ho : Outside (At g) v) :
    Calls Try.prog 14 #[pb g, .int .i64 i, v] w fun e w' => e = .returned (.int .i64 (insE A i c)) ∧ HasIn w' g (insS A i c) ∧ But (At g) w w' := by
  unfold insE insS
  by_cases h1 : i < 0 ∨ (A.l.length : Int) < i
  · rw [if_pos h1, if_neg (by omega)]
    refine (hInsNone h i h1 v).mono ?_
    rintro e w' ⟨rfl, rfl⟩
    exact ⟨rfl, ⟨f, h⟩, But.refl' _ _⟩
  · rw [if_neg h1]
    obtain ⟨j, rfl⟩ := Int.eq_ofNat_of_zero_le (show 0 ≤ i by omega)
    obtain ⟨a, cap, rfl⟩ := hv.slice
    by_cases h2 : 78 < c.length
    · rw [if_pos h2, if_neg (by omega)]
      refine (hInsLong h j (by omega) a _ cap h2).mono ?_
      rintro e w' ⟨rfl, rfl⟩
      exact ⟨rfl, ⟨f, h⟩, But.refl' _ _⟩
    · rw [if_neg h2]
      by_cases h3 : freeA A < 2 + c.length
      · rw [if_pos h3, if_neg (by omega)]
        refine (hInsRoom h j (by omega) a _ cap (by omega) h3).mono ?_
        rintro e w' ⟨rfl, hg⟩
        exact ⟨rfl, ⟨f, h.grows hg⟩, But.ofGrows hg⟩
      · rw [if_neg h3, if_pos (by omega)]
        exact hInsOk h j (by omega) _ c hv ho (by omega) (by omega)
theorem hDelete {w : World} {g : Nat} {f : Raw} {A : Bo} (h : Has w g f A) (i : Int) :
    Calls Try.prog 15 #[pb g, .int .i64 i] w fun e w' => e = .returned (.int .i64 (delE A i)) ∧ HasIn w' g (delS A i) ∧ But (At g) w w' := by
  unfold delE delS
  by_cases h1 : i < 0 ∨ (A.l.length : Int) ≤ i
  · rw [if_pos h1, if_neg (by omega)]
    refine (hDelNo h i h1).mono ?_
    rintro e w' ⟨rfl, rfl⟩
    exact ⟨rfl, ⟨f, h⟩, But.refl' _ _⟩
  · rw [if_neg h1, if_pos (by omega)]
    obtain ⟨j, rfl⟩ := Int.eq_ofNat_of_zero_le (show 0 ≤ i by omega)
    exact hDelYes h j (by omega)
theorem free_norm (A : Bo) : freeA (normA A) = freeA A := by
  unfold freeA normA
  rw [normL_length, sum_norm]
theorem hCellB {w : World} {g : Nat} {f : Raw} {A : Bo} (h : Has w g f A) (j : Nat) (hj : j < A.l.length) (c : List UInt8) (hc : (cl A.l j).p = c) :
    Calls Try.prog 20 #[pb g, .int .i64 (j : Int)] w fun e w' => ∃ v, e = .returned v ∧ Byt w' v c ∧ Grows w w' := by
  subst hc
  exact (hCellYes h j hj).mono (fun e w' ⟨v, he, ho, hg⟩ => ⟨v, he, ho.byt, hg⟩)
theorem norm_len (A : Bo) : (normA A).l.length = A.l.length := normL_length _ _
theorem norm_p (A : Bo) (j : Nat) (h : j < A.l.length) : (cl (normA A).l j).p = (cl A.l j).p := cl_norm_p _ _ _ h
end Go.Proofs.Ytpodbhimkbadhaa
