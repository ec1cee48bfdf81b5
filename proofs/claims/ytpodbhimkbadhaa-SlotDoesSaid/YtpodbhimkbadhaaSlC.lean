/-
  The contract of bytes.Clone.
-/
import Derived.Test.YtpodbhimkbadhaaSlA
import Derived.Laws.MakeOwn
import Derived.WalkSpells
import Derived.Outline
namespace Go.Proofs.Ytpodbhimkbadhaa
open Go.RowKit
set_option linter.unusedVariables false
set_option linter.unusedSimpArgs false

theorem info_parts {P : Program} {t : TypeId} {z : Value} {a b : Nat} (h : (P.info? t).map (fun i => (i.zero, i.size, i.bytes)) = some (some z, a, b)) : ∃ i, P.info? t = some i ∧ i.zero = some z ∧ i.size = a ∧ i.bytes = b := by
  obtain ⟨i, h1, h2⟩ := Option.map_eq_some_iff.1 h
  simp only [Prod.mk.injEq] at h2
  exact ⟨i, h1, h2.1, h2.2.1, h2.2.2⟩
theorem Own.base {e : TypeId} {B B' : Nat} {W : World} {v : Value} {l : List UInt8} (h : Own e B W v l) (hb : B' ≤ B) : Own e B' W v l := by
  refine ⟨h.1, ?_⟩
  rcases h.2 with h' | ⟨g, cap, cur, e1, hg, rest⟩
  · exact .inl h'
  · exact .inr ⟨g, cap, cur, e1, by omega, rest⟩
set_option maxRecDepth 100000 in
theorem clone_any (v : Value) (l : List UInt8) (w : World) (h : Byt w v l) (hl : l.length ≤ 140737488355328) :
    Calls Try.prog 37 #[v] w fun e w' => ∃ v', e = .returned v' ∧ Own 5 w.heap.size w' v' l ∧ Grows w w' := by
  obtain ⟨i0, hi, hz0, hz1, hz2⟩ := info_parts info5
  have H := Lib.hid h
  obtain ⟨a, cap, rfl, h1, h2, h3, h4⟩ := h
  cases a with
  | none =>
    have hl0 : l = [] := by
      have := h3 rfl
      exact List.eq_nil_of_length_eq_zero (by omega)
    subst hl0
    obtain rfl := h3 rfl
    have hq := Lib.run_eql_slice_nil (P := Try.prog)
    go_enter Try.func37, Try.ntmps37
    go_wp2
    go_ret
    exact ⟨_, rfl, Own.nil _ _ _, Below.refl _ _⟩
  | some x =>
    have hq := Lib.run_eql_slice_nil (P := Try.prog)
    have Hl := Lib.hid hl
    clear h1 h2 h3 h4 hl
    go_enter Try.func37, Try.ntmps37
    go_wp2_with (at_builtin; refine wpList_app rfl _ _ 30 5 i0 rfl Try.underlying30 hi hz0 hz1 hz2 w.heap.size _ _ [] l rfl (Own.empty _ _ _ (Nat.le_refl _)) rfl (H.out.grows (Grows.alloc' _ _)) (by have := Hl.out; simp; omega) (by simp) ?_; intro v' w1 hown' hgrow)
    go_ret
    exact ⟨_, rfl, by simpa using hown', grows_app ((Below.refl _ _).alloc (Nat.le_refl _) _) (Own.empty _ _ _ (Nat.le_refl _)) (by simp) hgrow⟩

end Go.Proofs.Ytpodbhimkbadhaa
