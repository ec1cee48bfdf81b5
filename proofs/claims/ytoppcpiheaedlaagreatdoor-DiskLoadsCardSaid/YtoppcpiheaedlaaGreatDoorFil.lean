/-
  Values that are built of parts of several cells.
-/
import Derived.Test.YtoppcpiheaedlaaGreatDoorPart
import Derived.Great.BuildSlice
namespace Go.Proofs.YtoppcpiheaedlaaGreatDoor
open Go.RowKit
set_option linter.unusedVariables false
set_option linter.unusedSimpArgs false

theorem ovr_nil (cur : Array Value) (o : Nat) : ovr cur o [] = cur := by
  unfold ovr
  simp
theorem ovr_cons (cur : Array Value) (o : Nat) (v : Value) (l : List Value) (h : o + (l.length + 1) ≤ cur.size) : ovr (cur.setIfInBounds o v) (o + 1) l = ovr cur o (v :: l) := by
  unfold ovr
  have e : (cur.setIfInBounds o v).toList = cur.toList.set o v := Array.toList_setIfInBounds ..
  have hn : cur.toList.length = cur.size := rfl
  apply Array.ext'
  simp only [e, List.toList_toArray]
  apply List.ext_getElem?
  intro i
  simp only [List.getElem?_append, List.getElem?_take, List.getElem?_drop, List.length_append, List.length_take, List.length_drop, List.length_set, List.length_cons, List.getElem?_set, List.append_assoc, hn]
  by_cases h1 : i < o
  · simp [h1, show i < o + 1 by omega, show i < min (o + 1) cur.size by omega, show i < min o cur.size by omega, show ¬ o = i by omega]
  · by_cases h2 : i = o
    · subst h2
      simp [show i < min (i + 1) cur.size by omega, show min i cur.size = i by omega, show i < cur.size by omega]
    · have h3 : o + 1 ≤ i := by omega
      simp only [show min (o + 1) cur.size = o + 1 by omega, show min o cur.size = o by omega, show ¬ i < o + 1 by omega, show ¬ i < o by omega, if_false]
      by_cases h4 : i - (o + 1) < l.length
      · simp only [h4, show i - o < l.length + 1 by omega, if_true]
        rw [show i - o = (i - (o + 1)) + 1 by omega, List.getElem?_cons_succ]
      · simp only [h4, show ¬ i - o < l.length + 1 by omega, if_false]
        rw [show o + 1 + l.length + (i - (o + 1) - l.length) = i by omega, show o + (l.length + 1) + (i - o - (l.length + 1)) = i by omega]
        simp [show ¬ o = i by omega]
theorem fold_ovr (off : Nat) : ∀ (l : List Value) (k : Nat) (cells : Array Value), off + k + l.length ≤ cells.size → (l.zipIdx k).foldl (fun cs (x : Value × Nat) => cs.setIfInBounds (off + x.2) x.1) cells = ovr cells (off + k) l
  | [], k, cells, _ => (ovr_nil _ _).symm
  | v :: l, k, cells, h => by
    simp only [List.length_cons] at h
    rw [List.zipIdx_cons, List.foldl_cons, fold_ovr off l (k + 1) _ (by simp; omega)]
    exact ovr_cons cells (off + k) v l (by omega)
theorem fill_step {place : Nat → Option (Nat × Nat)} {cells : Array Value} {i off size : Nat} {v : Value} {rest : List (Nat × Value)} (hp : place i = some (off, size)) (hv : v.cells.size = size) (hf : off + size ≤ cells.size) :
    Instr.fill place cells ((i, v) :: rest) = Instr.fill place (ovr cells off v.cells.toList) rest := by
  have e : v.cells.zipIdx.foldl (fun cs (x : Value × Nat) => cs.setIfInBounds (off + x.2) x.1) cells = ovr cells off v.cells.toList := by
    rw [← Array.foldl_toList, Array.toList_zipIdx]
    exact fold_ovr off v.cells.toList 0 cells (by simp; omega)
  conv => lhs; unfold Instr.fill
  rw [hp]
  simp only [hv, ne_eq, not_true_eq_false, decide_false, Bool.false_or, decide_eq_true_eq]
  rw [if_neg (by omega)]
  exact congrArg (fun c => Instr.fill place c rest) e
theorem ovr_all {cur : Array Value} {l : List Value} (h : l.length = cur.size) : ovr cur 0 l = l.toArray := by
  unfold ovr
  have : cur.toList.drop (0 + l.length) = [] := List.drop_eq_nil_of_le (by simp; omega)
  rw [this]
  simp
/-- A literal of one element, of several cells. -/
theorem run_buildSlice1 {P : Program} (w : World) (t e : TypeId) (ie : TypeInfo) (z : Value) (k : Nat) (cs : List Value) (hu : P.underlying t = some (.slice e)) (hie : P.info? e = some ie) (hz : ie.zero = some z) (hk : ie.size = k) (hs : cs.length = k) (h0 : 0 < k) (h1 : k ≤ 1000000) :
    (Instr.buildSlice t 1 #[(0, .agg cs.toArray)]).run P w = .ok (.slice (some ⟨w.heap.size, 0, none⟩) 1 1) (w.alloc (.cells cs.toArray e)) := by
  refine run_buildSlice w t e 1 _ _ ie z hu hie hz (by omega) (by omega) ?_
  show Instr.fill _ _ [(0, Value.agg cs.toArray)] = _
  rw [fill_step (off := 0) (size := k) (by simp [hk]) (by show cs.toArray.size = k; simp [hs]) (by simp; omega)]
  show some (ovr _ 0 cs.toArray.toList) = _
  rw [ovr_all]
  simp
  omega
end Go.Proofs.YtoppcpiheaedlaaGreatDoor
