/-
  'copy(d, s)' into the middle of a row.
-/
import Derived.Test.YtpodbhimkbadhaaGen
import Derived.Laws.CopyRow
namespace Go.Proofs.Ytpodbhimkbadhaa
open Go.RowKit
set_option linter.unusedVariables false
set_option linter.unusedSimpArgs false

/-- 'copy(d, s)' into the middle of a row. -/
theorem wpList_copyMid {P : Program} {w : World} {ops : Array Oper} {rest : List Oper} {o : Oper} {a : Act} {Q : Exit → Act → World → Prop} (hgd : o.guard = none) (x y : Operand) (T e : TypeId)
    (ho : o.op = .call { callee := .builtin .copy, args := #[x, y], argTypes := #[T, T] }) (hT : P.underlying T = some (.slice e)) (hs : (P.info? e).map (·.size) = some 1)
    (g off dn dc : Nat) (hx : a.eval x = .slice (some ⟨g, off, none⟩) dn dc) (cur : Array Value) (t : TypeId) (hg : w.heap[g]? = some (.cells cur t (0, 0))) (hfit : off + dn ≤ cur.size)
    (ad : Option Addr) (n cap : Nat) (m : List UInt8) (hn : n = m.length) (hy : a.eval y = .slice ad n cap) (hv : Byt w (.slice ad n cap) m) (k : Nat) (hk : min n dn = k)
    (new : Array Value) (hnew : (cur.toList.take off ++ (m.take k).map bv ++ cur.toList.drop (off + k)).toArray = new)
    (h : wpList P ops Q rest (a.put o.dst (.int .i64 k)) (w.setRow g new)) : wpList P ops Q (o :: rest) a w := by
  subst hn
  refine wpList_plain hgd fun K hK => ?_
  have hr : (Builtin.copy_ #[T, T] o.type #[.slice (some ⟨g, off, none⟩) dn dc, .slice ad m.length cap]).run P w = .ok (goInt k) (w.setRow g new) := by
    obtain ⟨ad0, cap0, e0, h1, h2, h3, h4⟩ := hv
    simp only [Value.slice.injEq, true_and] at e0
    obtain ⟨rfl, rfl⟩ := e0
    by_cases h0 : m = []
    · subst h0
      have hk0 : k = 0 := by simp at hk; omega
      subst hk0
      have hnw : new = cur := by rw [← hnew]; simp
      rw [hnw, setRow_self w g cur t (0, 0) hg]
      cases ad with
      | none =>
        obtain rfl := h3 rfl
        exact run_copy_nil P w T T o.type e ⟨g, off, none⟩ dn dc hT (by rw [hs]; rfl)
      | some z =>
        have := run_copy_row P w T T o.type e g off dn dc z 0 cap cur t [] hT hs hg (by simp) (by simp) (by simp; omega) (by simp)
        simp only [List.append_nil, List.length_nil, Nat.add_zero, List.take_append_drop, Array.toArray_toList] at this
        rw [setRow_self w g cur t (0, 0) hg] at this
        exact this
    · obtain ⟨b, of, rfl, hc⟩ := h4.resolve_left h0
      have hkl : ((m.take k).map bv).length = k := by rw [List.length_map, List.length_take]; omega
      have := run_copy_row P w T T o.type e g off dn dc ⟨b, of, none⟩ m.length cap cur t ((m.take k).map bv) hT hs hg (by rw [hkl]; exact hk.symm) (fun j v hj => by
        have hjk : j < k := by have := (List.getElem?_eq_some_iff.1 hj).1; rw [hkl] at this; exact this
        rw [Addr.add_lit, hc j (by omega), ← hj]
        simp [List.getD, hjk, show j < m.length by omega]) (by rw [hkl]; omega) (fun v hv => by
        obtain ⟨z, _, rfl⟩ := List.mem_map.1 hv
        rfl)
      rw [hkl, hnew] at this
      exact this
  unfold Oper.wp execOp
  simp only [ho, resolve, invoke, builtin, Sem.run_bind, Sem.run_pure, Result.andThen_ok, List.map_toArray, List.map_cons, List.map_nil, hx, hy, hr]
  exact hK _ _ h

theorem sizeU8 : (Try.prog.info? 5).map (·.size) = some 1 := by kernel_rfl
end Go.Proofs.Ytpodbhimkbadhaa
