/-
  Values of several cells, stored into the middle of a row; rows of such values, copied.
-/
import Derived.Test.YtoppcpiheaedlaaGreatDoorOwn
import Derived.Deep.MidRow
namespace Go.Proofs.YtoppcpiheaedlaaGreatDoor
open Go.RowKit
set_option linter.unusedVariables false
set_option linter.unusedSimpArgs false

/-- A row with these cells written in it, from o on. -/
def ovr (cur : Array Value) (o : Nat) (cs : List Value) : Array Value := (cur.toList.take o ++ cs ++ cur.toList.drop (o + cs.length)).toArray
theorem ovr_size {cur : Array Value} {o : Nat} {cs : List Value} (h : o + cs.length ≤ cur.size) : (ovr cur o cs).size = cur.size := by
  unfold ovr
  simp
  omega
theorem run_storePart {P : Program} (w : World) (g o : Nat) (t ty : TypeId) (cur : Array Value) (cs : List Value) (hg : w.heap[g]? = some (.cells cur t (0, 0))) (hl : o + cs.length ≤ cur.size) (hi : (P.info? ty).map (·.size) = some cs.length) (h1 : ∀ v ∈ cs, v.oneCell' = true) :
    (storeVar ty ⟨g, o, none⟩ (.agg cs.toArray)).run P w = .ok () (w.setRow g (ovr cur o cs)) := by
  have := run_storeCells_at P g o t cs 0 cur w hg (by simpa using hl) h1
  cases hq : P.info? ty with
  | none => simp [hq] at hi
  | some i =>
    have hs : cs.length = i.size := by simp [hq] at hi; omega
    simp only [Nat.add_zero] at this
    simp [storeVar, sizeOf, typeInfo, hq, Value.cells, hs, this]
    unfold ovr
    rw [hs, List.append_assoc]
theorem wpList_storePart {P : Program} {w : World} {ops : Array Oper} {rest : List Oper} {o : Oper} {a : Act} {Q : Exit → Act → World → Prop} (hgd : o.guard = none) (ty : TypeId) (x y : Operand) (ho : o.op = .store ty x y)
    (g of : Nat) (t : TypeId) (cur : Array Value) (cs : List Value) (C : Array Value) (hC : cs.toArray = C) (hx : a.eval x = .pointer (some ⟨g, of, none⟩)) (hy : a.eval y = .agg C) (hg : w.heap[g]? = some (.cells cur t (0, 0))) (hl : of + cs.length ≤ cur.size) (hi : (P.info? ty).map (·.size) = some cs.length)
    (h1 : ∀ v ∈ cs, v.oneCell' = true) (h : wpList P ops Q rest (a.put o.dst undef) (w.setRow g (ovr cur of cs))) : wpList P ops Q (o :: rest) a w := by
  subst hC
  refine wpList_plain hgd fun K hK => ?_
  unfold Oper.wp execOp
  simp only [ho, hx, hy, Instr.storeAt, Instr.sureAddr, Sem.run_bind, Sem.run_pure, Result.andThen_ok, run_storePart w g of t ty cur cs hg hl hi h1]
  exact hK _ _ h
theorem stepOk_storePart {P : Program} {w : World} {o : Oper} {ρ : Operand → Value} {Ψ : Value → World → Prop} (ty : TypeId) (x y : Operand) (ho : o.op = .store ty x y)
    (g of : Nat) (t : TypeId) (cur : Array Value) (cs : List Value) (C : Array Value) (hC : cs.toArray = C) (hx : ρ x = .pointer (some ⟨g, of, none⟩)) (hy : ρ y = .agg C) (hg : w.heap[g]? = some (.cells cur t (0, 0))) (hl : of + cs.length ≤ cur.size) (hi : (P.info? ty).map (·.size) = some cs.length)
    (h1 : ∀ v ∈ cs, v.oneCell' = true) (h : Ψ undef (w.setRow g (ovr cur of cs))) : StepOk P o ρ w Ψ := by
  subst hC
  unfold StepOk execOp
  simp only [ho, hx, hy, Instr.storeAt, Instr.sureAddr, Sem.run_bind, Sem.run_pure, Result.andThen_ok, run_storePart w g of t ty cur cs hg hl hi h1]
  exact h
theorem stepOk_loadPart {P : Program} {w : World} {o : Oper} {ρ : Operand → Value} {Ψ : Value → World → Prop} (ty : TypeId) (x : Operand) (ho : o.op = .load ty x)
    (g of : Nat) (cs : List Value) (d : TypeDesc) (hx : ρ x = .pointer (some ⟨g, of, none⟩)) (hc : w.rangeAt g of cs) (hu : P.underlying ty = some d) (hd : d.isRow = true) (hi : (P.info? ty).map (·.size) = some cs.length)
    (h : Ψ (.agg cs.toArray) w) : StepOk P o ρ w Ψ := by
  unfold StepOk execOp
  simp only [ho, hx, run_loadAt_mid w g of ty cs d hc hu hd hi, Sem.run_bind, Sem.run_pure, Result.andThen_ok]
  exact h
/-- 'copy(dst, src)', elements of k cells, as many on both sides. -/
theorem run_copyK {P : Program} (w : World) (dT sT ty elem : TypeId) (k : Nat) (g n dCap : Nat) (a : Addr) (sCap : Nat) (cur : Array Value) (t : TypeId) (cs : List Value)
    (hu : P.underlying dT = some (.slice elem)) (hs : (P.info? elem).map (·.size) = some k)
    (hg : w.heap[g]? = some (.cells cur t (0, 0))) (hn : cs.length = n * k) (hsrc : ∀ j v, cs[j]? = some v → w.cell? (a.add j) = some v) (hfit : cs.length ≤ cur.size) (h1 : ∀ v ∈ cs, v.oneCell' = true) :
    (Builtin.copy_ #[dT, sT] ty #[.slice (some ⟨g, 0, none⟩) n dCap, .slice (some a) n sCap]).run P w = .ok (goInt n) (w.setRow g (ovr cur 0 cs)) := by
  have hl := run_loadCells_list (P := P) w a cs hsrc
  have hst := run_storeCells_at P g 0 t cs 0 cur w hg (by simpa using hfit) h1
  simp only [Nat.zero_add] at hst
  cases hq : P.info? elem with
  | none => simp [hq] at hs
  | some i =>
    have hi : i.size = k := by simpa [hq] using hs
    have hmin : Nat.min n n = n := Nat.min_self n
    simp [Builtin.copy_, run_underlying hu, Builtin.lenOf, Builtin.firstCells, sizeOf, typeInfo, hq, hi, hmin, ← hn, hl, hst, ovr]
theorem run_copy00 {P : Program} (w : World) (dT sT ty elem : TypeId) (a b : Option Addr) (dCap sCap : Nat) (hu : P.underlying dT = some (.slice elem)) (hs : ((P.info? elem).map (·.size)).isSome = true) :
    (Builtin.copy_ #[dT, sT] ty #[.slice a 0 dCap, .slice b 0 sCap]).run P w = .ok (goInt 0) w := by
  cases hq : P.info? elem with
  | none => simp [hq] at hs
  | some i =>
    have h0 : ∀ x, (loadCells x 0).run P w = .ok #[] w := fun x => by
      have := run_loadCells_list (P := P) w x [] (fun j v hv => by simp at hv)
      simpa using this
    have hf : (Builtin.firstCells i.size 0 (Value.slice b 0 sCap)).run P w = .ok #[] w := by
      cases b with
      | none => rfl
      | some x => simp [Builtin.firstCells, h0]
    cases a <;> simp [Builtin.copy_, run_underlying hu, Builtin.lenOf, sizeOf, typeInfo, hq, hf, storeCells]
/-- A row that is owned, with its first cells written anew. -/
theorem own_ovr {W : World} {B e k n g cap : Nat} {xs ys : List Value} (h : W.ownsRow B e k (.slice (some ⟨g, 0, none⟩) n cap) n xs) (o : Nat) (hl : o + ys.length ≤ n * k) :
    ∃ cur, W.heap[g]? = some (.cells cur e (0, 0)) ∧ o + ys.length ≤ cur.size ∧ (W.setRow g (ovr cur o ys)).ownsRow B e k (.slice (some ⟨g, 0, none⟩) n cap) n (xs.take o ++ ys ++ xs.drop (o + ys.length)) := by
  rcases h.2 with ⟨h0, _⟩ | ⟨g', cap', cur, h0, hb, hg, hnc, hcm, hcs, ht⟩
  · cases h0
  · simp only [Value.slice.injEq, Option.some.injEq, Addr.mk.injEq] at h0
    obtain ⟨⟨rfl, -⟩, -, rfl⟩ := h0
    have hnk : n * k ≤ cap * k := Nat.mul_le_mul_right _ hnc
    have hfit : o + ys.length ≤ cur.size := by omega
    refine ⟨cur, hg, hfit, ?_, .inr ⟨g, cap, _, rfl, hb, setRow_heap W g cur _ e _ hg, hnc, hcm, by rw [ovr_size hfit]; exact hcs, ?_⟩⟩
    · simp only [List.length_append, List.length_take, List.length_drop, h.1]
      omega
    · rw [← ht]
      unfold ovr
      apply List.ext_getElem?
      intro i
      simp only [List.getElem?_append, List.getElem?_take, List.getElem?_drop, List.length_append, List.length_take, List.length_drop, Array.length_toList, List.toList_toArray, List.append_assoc]
      have hn1 : cur.toList.length = cur.size := rfl
      by_cases h1 : i < o
      · simp [h1, show i < n * k by omega, show i < min o cur.size by omega, show i < min o (n * k) by omega, show min (n * k) cur.size = n * k by omega]
      · by_cases h2 : i < o + ys.length
        · simp [h1, show i < n * k by omega, show ¬ i < min o cur.size by omega, show min o cur.size = o by omega, show min o (min (n * k) cur.size) = o by omega, show i - o < ys.length by omega]
        · simp [h1, show min o cur.size = o by omega, show min o (min (n * k) cur.size) = o by omega, show ¬ i - o < ys.length by omega]
          by_cases h3 : i < n * k
          · simp [h3, show o + ys.length + (i - o - ys.length) = i by omega]
          · simp [h3, show ¬ o + ys.length + (i - o - ys.length) < n * k by omega]
end Go.Proofs.YtoppcpiheaedlaaGreatDoor
