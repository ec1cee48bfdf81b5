/-
  Maps: a block that is a map with these entries, no key twice, whatever their order; what is looked up, stored, taken away, counted, copied; a range over it, by what is still to come.
-/
import Derived.Test.YtoppcpiheaedlaaGreatDoorRow
import Derived.Maps.RangeWalk
namespace Go.Proofs.YtoppcpiheaedlaaGreatDoor
open Go.RowKit Go.Maps Go.MapKept
open Go.ChangeMaps (setBlock heap_setBlock_same heap_setBlock_other)
set_option linter.unusedSectionVars false
set_option linter.unusedVariables false
set_option linter.unusedSimpArgs false

section
variable {α β : Type} [DecidableEq α]

/-- What stands at a key. -/
def findA : List (α × β) → α → Option β
  | [], _ => none
  | p :: r, a => if p.1 = a then some p.2 else findA r a
def delA (l : List (α × β)) (a : α) : List (α × β) := l.filter fun p => decide (p.1 ≠ a)
def putA (l : List (α × β)) (a : α) (b : β) : List (α × β) := delA l a ++ [(a, b)]

theorem findA_none : ∀ {l : List (α × β)} {a : α}, (∀ p ∈ l, p.1 ≠ a) → findA l a = none
  | [], _, _ => rfl
  | p :: r, a, h => by
    unfold findA
    rw [if_neg (h p (by simp)), findA_none fun q hq => h q (by simp [hq])]
theorem findA_none_iff {l : List (α × β)} {a : α} : findA l a = none ↔ ∀ p ∈ l, p.1 ≠ a := by
  refine ⟨fun h => ?_, findA_none⟩
  induction l with
  | nil => simp
  | cons p r ih =>
    unfold findA at h
    split at h
    · cases h
    · rename_i hp
      intro q hq
      rcases List.mem_cons.1 hq with rfl | hq
      · exact hp
      · exact ih h q hq
theorem findA_mem : ∀ {l : List (α × β)} {a : α} {b : β}, findA l a = some b → (a, b) ∈ l
  | [], _, _, h => by simp [findA] at h
  | p :: r, a, b, h => by
    unfold findA at h
    split at h
    · rename_i hp
      have : p = (a, b) := by
        obtain ⟨x, y⟩ := p
        simp at h hp
        rw [hp, h]
      rw [this]
      exact List.mem_cons_self
    · exact List.mem_cons_of_mem _ (findA_mem h)
theorem findA_of_mem : ∀ {l : List (α × β)} {a : α} {b : β}, (l.map (·.1)).Nodup → (a, b) ∈ l → findA l a = some b
  | [], _, _, _, h => by simp at h
  | p :: r, a, b, hn, h => by
    rw [List.map_cons, List.nodup_cons] at hn
    unfold findA
    rcases List.mem_cons.1 h with h | h
    · subst h; simp
    · have : p.1 ≠ a := fun e => hn.1 (by rw [e]; exact List.mem_map.2 ⟨_, h, rfl⟩)
      rw [if_neg this]
      exact findA_of_mem hn.2 h
theorem findA_perm {l l' : List (α × β)} (hp : l.Perm l') (hn : (l.map (·.1)).Nodup) (a : α) : findA l a = findA l' a := by
  have hn' : (l'.map (·.1)).Nodup := (hp.map (·.1)).nodup_iff.1 hn
  cases h : findA l a with
  | none => exact (findA_none fun p hp' => findA_none_iff.1 h p (hp.mem_iff.2 hp')).symm
  | some b => exact (findA_of_mem hn' (hp.mem_iff.1 (findA_mem h))).symm

/-- BLOCK b IS A MAP WITH THESE ENTRIES (kv: a key as a value, vv: an element as one). -/
def MapA (kv : α → Value) (vv : β → Value) (W : World) (b : Nat) (l : List (α × β)) : Prop :=
  ∃ es clock, W.heap[b]? = some (.map es clock) ∧ Stamped es clock ∧ es.size ≤ maxLen ∧ (es.toList.map fun e => (e.key, e.val)).Perm (l.map fun p => (kv p.1, vv p.2))

/-- How keys are read. -/
structure KeyA (P : Program) (k : TypeId) (kv : α → Value) (ok : α → Prop) : Prop where
  key : Keyed P k
  reads : ∀ a, ok a → ∃ l, keyOf P k (kv a) = some l
  inj : ∀ a b, kv a = kv b → a = b

variable {P : Program} {k : TypeId} {kv : α → Value} {vv : β → Value} {ok : α → Prop} {W : World} {b r : Nat} {l todo : List (α × β)}

theorem MapA.lt (h : MapA kv vv W b l) : b < W.heap.size := by
  obtain ⟨es, clock, hb, _⟩ := h
  exact (Array.getElem?_eq_some_iff.1 hb).1
theorem MapA.kept {W' : World} (h : MapA kv vv W b l) (hk : W'.heap[b]? = W.heap[b]?) : MapA kv vv W' b l := by
  obtain ⟨es, clock, hb, r⟩ := h
  exact ⟨es, clock, hk.trans hb, r⟩
theorem MapA.grows {W' : World} (h : MapA kv vv W b l) (g : Grows W W') : MapA kv vv W' b l := h.kept (g.block b h.lt)
theorem MapA.perm {l' : List (α × β)} (h : MapA kv vv W b l) (hp : l.Perm l') : MapA kv vv W b l' := by
  obtain ⟨es, clock, hb, hs, hm, h2⟩ := h
  exact ⟨es, clock, hb, hs, hm, h2.trans (hp.map _)⟩
theorem MapA.made (W : World) : MapA kv vv (W.alloc (.map #[] 0)) W.heap.size ([] : List (α × β)) :=
  ⟨#[], 0, heap_alloc_new W _, stamped_empty 0, by simp [maxLen], by simp⟩
theorem MapA.size_le (h : MapA kv vv W b l) : l.length ≤ maxLen := by
  obtain ⟨es, clock, hb, hs, hm, h2⟩ := h
  have := h2.length_eq
  simp at this
  omega
theorem MapA.nodup (h : MapA kv vv W b l) : (l.map (·.1)).Nodup := by
  obtain ⟨es, clock, hb, hs, hm, h2⟩ := h
  have h3 : ((l.map fun p => (kv p.1, vv p.2)).map (·.1)).Nodup := ((h2.map (·.1)).nodup_iff).1 (by simpa [Function.comp_def] using hs.2.2)
  rw [List.map_map] at h3
  rw [List.Nodup, List.pairwise_map] at h3 ⊢
  exact h3.imp fun h e => h (by simp [e])

/-- What a key finds among the entries. -/
theorem MapA.findKey (h : MapA kv vv W b l) (K : KeyA P k kv ok) (hok : ∀ p ∈ l, ok p.1) (a : α) (ha : ok a) :
    ∃ es clock, W.heap[b]? = some (.map es clock) ∧ Stamped es clock ∧ es.size ≤ maxLen ∧ (es.toList.map fun e => (e.key, e.val)).Perm (l.map fun p => (kv p.1, vv p.2)) ∧
      (((Instr.findKey k (kv a) es.toList).run P W = .ok none W ∧ (∀ e ∈ es.toList, e.key ≠ kv a) ∧ findA l a = none) ∨
       ∃ j e c, (Instr.findKey k (kv a) es.toList).run P W = .ok (some (j, vv c)) W ∧ es.toList[j]? = some e ∧ e.key = kv a ∧ e.val = vv c ∧ findA l a = some c) := by
  have hn := h.nodup
  obtain ⟨es, clock, hb, hs, hm, h2⟩ := h
  obtain ⟨lx, hlx⟩ := K.reads a ha
  have hin : ∀ e ∈ es.toList, ∃ p ∈ l, kv p.1 = e.key ∧ vv p.2 = e.val := fun e he => by
    have := h2.mem_iff.1 (List.mem_map.2 ⟨e, he, rfl⟩)
    obtain ⟨p, hp, e1⟩ := List.mem_map.1 this
    simp only [Prod.mk.injEq] at e1
    exact ⟨p, hp, e1⟩
  have hrd : ∀ e ∈ es.toList, ∃ l, keyOf P k e.key = some l := fun e he => by
    obtain ⟨p, hp, h1, _⟩ := hin e he
    rw [← h1]
    exact K.reads p.1 (hok p hp)
  refine ⟨es, clock, hb, hs, hm, h2, ?_⟩
  rcases K.key.find W hlx es.toList hrd with ⟨h3, h4⟩ | ⟨j, e, h3, h4, h5⟩
  · refine .inl ⟨h3, h4, findA_none fun p hp he => ?_⟩
    have := h2.symm.mem_iff.1 (List.mem_map.2 ⟨p, hp, rfl⟩)
    obtain ⟨e, he', e1⟩ := List.mem_map.1 this
    simp only [Prod.mk.injEq] at e1
    exact h4 e he' (by rw [e1.1, he])
  · obtain ⟨p, hp, h6, h7⟩ := hin e (List.mem_of_getElem? h4)
    have hpa : p.1 = a := K.inj _ _ (h6.trans h5)
    refine .inr ⟨j, e, p.2, by rw [h7]; exact h3, h4, h5, h7.symm, findA_of_mem hn ?_⟩
    rw [← hpa]
    exact hp

/-- 'm[k]', with 'ok' or without. -/
theorem MapA.look {t e : TypeId} (h : MapA kv vv W b l) (K : KeyA P k kv ok) (hok : ∀ p ∈ l, ok p.1) (ht : P.underlying t = some (.map k e)) {z : Value} (hz : (zeroValue e).run P W = .ok z W) (c : Bool) (a : α) (ha : ok a) :
    (Instr.lookup t (.map (some b)) (kv a) c).run P W = .ok (match findA l a with
      | some x => if c then .tuple #[vv x, .bool true] else vv x
      | none => if c then .tuple #[z, .bool false] else z) W := by
  obtain ⟨es, clock, hb, hs, hm, h2, h3⟩ := h.findKey K hok a ha
  obtain ⟨lx, hlx⟩ := K.reads a ha
  rcases h3 with ⟨h3, _, h4⟩ | ⟨j, e0, x, h3, _, _, _, h4⟩
  · rw [h4]
    simp [Instr.lookup, run_underlying ht, MapKept.run_getObj_map hb, K.key.check W _ hlx, h3, hz, Result.andThen]
  · rw [h4]
    simp [Instr.lookup, run_underlying ht, MapKept.run_getObj_map hb, K.key.check W _ hlx, h3, Result.andThen]

/-- 'len(m)'. -/
theorem MapA.len {t e : TypeId} (h : MapA kv vv W b l) (ht : P.underlying t = some (.map k e)) (ty : TypeId) : (Builtin.len_ #[t] ty #[.map (some b)]).run P W = .ok (.int .i64 (l.length : Int)) W := by
  obtain ⟨es, clock, hb, hs, hm, h2⟩ := h
  have := h2.length_eq
  simp at this
  simp [Builtin.len_, run_underlying ht, MapKept.run_getObj_map hb, goInt, Result.andThen, this]

open Classical in
theorem perm_filter_key (K : ∀ a b, kv a = kv b → a = b) {E : List (Value × Value)} {l : List (α × β)} (h : E.Perm (l.map fun p => (kv p.1, vv p.2))) (a : α) :
    (E.filter fun e => decide (e.1 ≠ kv a)).Perm ((delA l a).map fun p => (kv p.1, vv p.2)) := by
  refine (h.filter _).trans ?_
  rw [List.filter_map]
  unfold delA
  have : (l.filter ((fun e : Value × Value => decide (e.1 ≠ kv a)) ∘ fun p => (kv p.1, vv p.2))) = l.filter fun p => decide (p.1 ≠ a) := by
    refine List.filter_congr fun p _ => ?_
    simp only [Function.comp_apply, decide_eq_decide]
    exact ⟨fun h e => h (by rw [e]), fun h e => h (K _ _ e)⟩
  rw [this]

open Classical in
theorem eraseIdx_filter : ∀ {es : List MapEntry} {j : Nat} {e : MapEntry}, es.Pairwise (fun x y => x.key ≠ y.key) → es[j]? = some e → es.eraseIdx j = es.filter fun x => decide (x.key ≠ e.key)
  | [], _, _, _, h => by simp at h
  | x :: r, 0, e, hp, h => by
    simp at h
    subst h
    obtain ⟨h1, _⟩ := List.pairwise_cons.1 hp
    rw [List.eraseIdx_cons_zero, List.filter_cons_of_neg (by simp)]
    exact (List.filter_eq_self.2 fun y hy => by simpa using (h1 y hy).symm).symm
  | x :: r, j + 1, e, hp, h => by
    obtain ⟨h1, h2⟩ := List.pairwise_cons.1 hp
    have h' : r[j]? = some e := by simpa using h
    have hne : x.key ≠ e.key := h1 e (List.mem_of_getElem? h')
    rw [List.eraseIdx_cons_succ, List.filter_cons_of_pos (by simpa using hne), eraseIdx_filter h2 h']

theorem setBlock_grown {es : Array MapEntry} {clock : Nat} (hb : W.heap[b]? = some (.map es clock)) (es' : Array MapEntry) (clock' : Nat) : W.grownBy (setBlock W b (.map es' clock')) (some b) :=
  ⟨rfl, rfl, rfl, by simp [setBlock], fun i _ hi => heap_setBlock_other hb _ (fun e => hi (by rw [e]))⟩

open Classical in
/-- 'm[k] = v'. -/
theorem MapA.put {t e : TypeId} (h : MapA kv vv W b l) (K : KeyA P k kv ok) (hok : ∀ p ∈ l, ok p.1) (ht : P.underlying t = some (.map k e)) (hn : l.length < maxLen) (a : α) (ha : ok a) (c : β) :
    ∃ W', (Instr.mapUpdate t (.map (some b)) (kv a) (vv c)).run P W = .ok () W' ∧ MapA kv vv W' b (putA l a c) ∧ W.grownBy W' (some b) ∧ W'.heap.size = W.heap.size := by
  obtain ⟨es, clock, hb, hs, hm, h2, h3⟩ := h.findKey K hok a ha
  obtain ⟨lx, hlx⟩ := K.reads a ha
  have hlen : es.size = l.length := by have := h2.length_eq; simpa using this
  have hst := (stamped_iff es clock).1 hs
  have hfil := perm_filter_key (vv := vv) K.inj h2 a
  rw [List.filter_map] at hfil
  rcases h3 with ⟨h3, h4, h5⟩ | ⟨j, e0, x, h3, h4, h5, h6, h7⟩
  · refine ⟨setBlock W b (.map (es.push ⟨kv a, vv c, clock⟩) (clock + 1)), by simp [Instr.mapUpdate, run_underlying ht, MapKept.run_getObj_map hb, K.key.check W false hlx, h3, MapKept.run_setObj_map _ hb, Result.andThen, setBlock],
      ⟨_, _, heap_setBlock_same hb _, stamped_push hs h4, by simp; omega, ?_⟩, setBlock_grown hb _ _, by simp [setBlock]⟩
    have hall : (es.toList.filter ((fun e : Value × Value => decide (e.1 ≠ kv a)) ∘ fun e => (e.key, e.val))) = es.toList := List.filter_eq_self.2 fun y hy => by simpa using h4 y hy
    rw [hall] at hfil
    simp only [Array.toList_push, List.map_append, List.map_cons, List.map_nil, putA]
    exact hfil.append_right _
  · have hj : es[j]? = some e0 := by simpa using h4
    have hjl : j < es.toList.length := (List.getElem?_eq_some_iff.1 h4).1
    have hkeyf : ∀ e', es[j]? = some e' → ({ e' with key := kv a, val := vv c } : MapEntry).key = e'.key := fun e' he' => by rw [hj] at he'; cases he'; exact h5.symm
    have hlist : (es.modify j (fun e' => { e' with key := kv a, val := vv c })).toList = es.toList.set j { e0 with key := kv a, val := vv c } := by rw [Array.toList_modify, Go.ChangeMaps.modify_eq_set _ _ _ _ h4]
    refine ⟨setBlock W b (.map (es.modify j fun e' => { e' with key := kv a, val := vv c }) clock), by simp [Instr.mapUpdate, run_underlying ht, MapKept.run_getObj_map hb, K.key.check W false hlx, h3, hj, h5, K.key.stays W hlx, MapKept.run_setObj_map _ hb, Result.andThen, setBlock],
      ⟨_, _, heap_setBlock_same hb _, stamped_modify hs _ _ (fun _ _ => rfl) (fun e' _ he' => hkeyf e' he'), by simpa using hm, ?_⟩, setBlock_grown hb _ _, by simp [setBlock]⟩
    rw [hlist, List.map_set]
    have he := eraseIdx_filter hst.2.2 h4
    have hp1 := Go.ChangeMaps.set_perm (es.toList.map fun e => (e.key, e.val)) j (by simpa using hjl) (kv a, vv c)
    refine hp1.trans ?_
    rw [← Go.ChangeMaps.map_eraseIdx, he, h5]
    simp only [putA, List.map_append, List.map_cons, List.map_nil]
    exact (hfil.cons _).trans (List.perm_append_singleton _ _).symm

open Classical in
/-- 'delete(m, k)'. -/
theorem MapA.drop {t e : TypeId} (h : MapA kv vv W b l) (K : KeyA P k kv ok) (hok : ∀ p ∈ l, ok p.1) (ht : P.underlying t = some (.map k e)) (a : α) (ha : ok a) (ty : TypeId) :
    ∃ W', (Builtin.delete_ #[t, k] ty #[.map (some b), kv a]).run P W = .ok (.tuple #[]) W' ∧ MapA kv vv W' b (delA l a) ∧ W.grownBy W' (some b) ∧ W'.heap.size = W.heap.size := by
  obtain ⟨es, clock, hb, hs, hm, h2, h3⟩ := h.findKey K hok a ha
  obtain ⟨lx, hlx⟩ := K.reads a ha
  have hst := (stamped_iff es clock).1 hs
  have hfil := perm_filter_key (vv := vv) K.inj h2 a
  rw [List.filter_map] at hfil
  rcases h3 with ⟨h3, h4, h5⟩ | ⟨j, e0, x, h3, h4, h5, h6, h7⟩
  · refine ⟨setBlock W b (.map es clock), by simp [Builtin.delete_, run_underlying ht, MapKept.run_getObj_map hb, K.key.check W _ hlx, h3, MapKept.run_setObj_map _ hb, Result.andThen, setBlock],
      ⟨_, _, heap_setBlock_same hb _, hs, hm, ?_⟩, setBlock_grown hb _ _, by simp [setBlock]⟩
    have hall : (es.toList.filter ((fun e : Value × Value => decide (e.1 ≠ kv a)) ∘ fun e => (e.key, e.val))) = es.toList := List.filter_eq_self.2 fun y hy => by simpa using h4 y hy
    rwa [hall] at hfil
  · have hjl : j < es.toList.length := (List.getElem?_eq_some_iff.1 h4).1
    have hsub : (es.eraseIdxIfInBounds j).toList = es.toList.eraseIdx j := by
      unfold Array.eraseIdxIfInBounds
      rw [dif_pos (by simpa using hjl)]
      simp
    refine ⟨setBlock W b (.map (es.eraseIdxIfInBounds j) clock), by simp [Builtin.delete_, run_underlying ht, MapKept.run_getObj_map hb, K.key.check W _ hlx, h3, MapKept.run_setObj_map _ hb, Result.andThen, setBlock],
      ⟨_, _, heap_setBlock_same hb _, stamped_erase hs j, Nat.le_trans (MapFrom.size_erase es j) hm, ?_⟩, setBlock_grown hb _ _, by simp [setBlock]⟩
    rw [hsub, eraseIdx_filter hst.2.2 h4, h5]
    exact hfil

/-- A RANGE OVER A MAP: what is still to come (iterator in block r). -/
def RangeA (kv : α → Value) (vv : β → Value) (W : World) (b r : Nat) (l todo : List (α × β)) : Prop :=
  ∃ es clock since seen c0, W.heap[b]? = some (.map es clock) ∧ Stamped es clock ∧ es.size ≤ maxLen ∧ (es.toList.map fun e => (e.key, e.val)).Perm (l.map fun p => (kv p.1, vv p.2)) ∧
    W.heap[r]? = some (.mapIter (some b) since seen c0) ∧ (∀ x ∈ es.toList, x.born < since) ∧ since ≤ c0 ∧ since ≤ clock ∧
    ((leftOf es seen).toList.map fun e => (e.key, e.val)).Perm (todo.map fun p => (kv p.1, vv p.2))

theorem RangeA.map (h : RangeA kv vv W b r l todo) : MapA kv vv W b l := by
  obtain ⟨es, clock, since, seen, c0, hb, hs, hm, h2, _⟩ := h
  exact ⟨es, clock, hb, hs, hm, h2⟩
theorem RangeA.lt (h : RangeA kv vv W b r l todo) : r < W.heap.size := by
  obtain ⟨es, clock, since, seen, c0, hb, hs, hm, h2, hr, _⟩ := h
  exact (Array.getElem?_eq_some_iff.1 hr).1
theorem RangeA.ne (h : RangeA kv vv W b r l todo) : r ≠ b := by
  obtain ⟨es, clock, since, seen, c0, hb, hs, hm, h2, hr, _⟩ := h
  intro e
  rw [e, hb] at hr
  cases hr
/-- The iterator is no row of cells. -/
theorem RangeA.cells {cs : Array Value} {T : TypeId} {fr : Nat × Nat} (h : RangeA kv vv W b r l todo) {j : Nat} (hj : W.heap[j]? = some (.cells cs T fr)) : r ≠ j := by
  obtain ⟨es, clock, since, seen, c0, hb, hs, hm, h2, hr, _⟩ := h
  intro e
  rw [e, hj] at hr
  cases hr
theorem MapA.cells {cs : Array Value} {T : TypeId} {fr : Nat × Nat} (h : MapA kv vv W b l) {j : Nat} (hj : W.heap[j]? = some (.cells cs T fr)) : b ≠ j := by
  obtain ⟨es, clock, hb, _⟩ := h
  intro e
  rw [e, hj] at hb
  cases hb
theorem RangeA.kept {W' : World} (h : RangeA kv vv W b r l todo) (hk : W'.heap[b]? = W.heap[b]?) (hr : W'.heap[r]? = W.heap[r]?) : RangeA kv vv W' b r l todo := by
  obtain ⟨es, clock, since, seen, c0, hb, hs, hm, h2, h3, rest⟩ := h
  exact ⟨es, clock, since, seen, c0, hk.trans hb, hs, hm, h2, hr.trans h3, rest⟩
theorem RangeA.grows {W' : World} (h : RangeA kv vv W b r l todo) (g : Grows W W') : RangeA kv vv W' b r l todo := h.kept (g.block b h.map.lt) (g.block r h.lt)

/-- 'range m'. -/
theorem MapA.range {t e : TypeId} (h : MapA kv vv W b l) (ht : P.underlying t = some (.map k e)) :
    ∃ W', (Instr.range t (.map (some b))).run P W = .ok (.pointer (some ⟨W.heap.size, 0, none⟩)) W' ∧ RangeA kv vv W' b W.heap.size l l ∧ Grows W W' ∧ W'.heap.size = W.heap.size + 1 := by
  have hlt := h.lt
  obtain ⟨es, clock, hb, hs, hm, h2⟩ := h
  refine ⟨_, run_range_map W t k e b es clock ht hb, ⟨es, clock, clock, #[], clock, ((MapKept.heap_alloc W _).2 b hlt).trans hb, hs, hm, h2, (MapKept.heap_alloc W _).1, hs.1, Nat.le_refl _, Nat.le_refl _, ?_⟩, Grows.alloc' W _, by simp⟩
  have e : (leftOf es #[]).toList = es.toList := by
    unfold leftOf
    rw [Array.toList_filter]
    exact List.filter_eq_self.2 fun x _ => by simp
  rw [e]
  exact h2

theorem perm_split {E : List (Value × Value)} {A B : List (Value × Value)} {x : Value × Value} {todo : List (α × β)} (h : (A ++ x :: B).Perm (todo.map fun p => (kv p.1, vv p.2))) :
    ∃ p todo', todo.Perm (p :: todo') ∧ (kv p.1, vv p.2) = x ∧ (A ++ B).Perm (todo'.map fun p => (kv p.1, vv p.2)) := by
  have hm : x ∈ todo.map fun p => (kv p.1, vv p.2) := h.mem_iff.1 (by simp)
  obtain ⟨p, hp, e⟩ := List.mem_map.1 hm
  obtain ⟨s, t, rfl⟩ := List.append_of_mem hp
  refine ⟨p, s ++ t, List.perm_middle, e, ?_⟩
  have h1 : (x :: (A ++ B)).Perm (x :: ((s ++ t).map fun p => (kv p.1, vv p.2))) := by
    refine (List.perm_middle (l₁ := A) (l₂ := B) (a := x)).symm.trans (h.trans ?_)
    rw [List.map_append, List.map_cons, e, List.map_append]
    exact List.perm_middle
  exact h1.cons_inv

/-- A step of the range: nothing is left, or one that is left comes. -/
theorem RangeA.next (h : RangeA kv vv W b r l todo) (ty : TypeId) :
    (todo = [] ∧ (Instr.next (.pointer (some ⟨r, 0, none⟩)) false ty).run P W = .ok (.tuple #[.bool false]) W) ∨
    ∃ p todo' W', todo.Perm (p :: todo') ∧ (Instr.next (.pointer (some ⟨r, 0, none⟩)) false ty).run P W = .ok (.tuple #[.bool true, kv p.1, vv p.2]) W' ∧ RangeA kv vv W' b r l todo' ∧ W.grownBy W' (some r) ∧ W'.heap.size = W.heap.size ∧
      (Instr.entry (.pointer (some ⟨r, 0, none⟩))).run P W' = .ok (.tuple #[kv p.1, vv p.2]) W' := by
  have hne := h.ne
  obtain ⟨es, clock, since, seen, c0, hb, hs, hm, h2, hr, hold, hsc, hsk, hl⟩ := h
  rcases run_next_at (P := P) W ty r b since c0 seen es clock hr hb hold hsc with ⟨h0, hrun⟩ | ⟨e, he, w1, hal, hrun⟩
  · left
    refine ⟨?_, hrun⟩
    have hE : leftOf es seen = #[] := Array.eq_empty_of_size_eq_zero h0
    rw [hE] at hl
    simpa using hl.length_eq.symm
  · right
    obtain ⟨hem, hes⟩ := mem_left he
    have hst := (stamped_iff es clock).1 hs
    obtain ⟨A, B, hAB⟩ := List.append_of_mem he
    have hl' := hl
    rw [hAB, List.map_append, List.map_cons] at hl'
    obtain ⟨p, todo', hp1, hp2, hp3⟩ := perm_split (E := []) hl'
    simp only [Prod.mk.injEq] at hp2
    have hr1 : w1.heap[r]? = some (.mapIter (some b) since seen c0) := by rcases hal with rfl | rfl <;> exact hr
    have hb1 : w1.heap[b]? = some (.map es clock) := by rcases hal with rfl | rfl <;> exact hb
    have hset := heap_set (o' := .mapIter (some b) since (seen.push e.born) clock) hr1
    have hb' : (setBlock w1 r (.mapIter (some b) since (seen.push e.born) clock)).heap[b]? = some (.map es clock) := (hset.2 b (fun e1 => hne e1.symm)).trans hb1
    refine ⟨p, todo', setBlock w1 r (.mapIter (some b) since (seen.push e.born) clock), hp1, ?_, ⟨es, clock, since, seen.push e.born, clock, hb', hs, hm, h2, hset.1, hold, hsk, hsk, ?_⟩, ?_, ?_, ?_⟩
    · rw [hp2.1, hp2.2]; exact hrun
    · have hnb : ((leftOf es seen).toList.map (·.born)).Nodup := by
        unfold leftOf
        rw [Array.toList_filter]
        exact (List.filter_sublist.map _).nodup hst.2.1
      have hsub : (leftOf es (seen.push e.born)).toList = A ++ B := by
        have h1 : (leftOf es (seen.push e.born)).toList = (leftOf es seen).toList.filter fun x => !(x.born == e.born) := by
          unfold leftOf
          rw [Array.toList_filter, Array.toList_filter, List.filter_filter]
          refine List.filter_congr fun x _ => ?_
          rw [contains_push]
          cases seen.contains x.born <;> cases (x.born == e.born) <;> rfl
        rw [h1, hAB]
        rw [hAB, List.map_append, List.map_cons, List.nodup_append] at hnb
        obtain ⟨n1, n2, n3⟩ := hnb
        rw [List.nodup_cons] at n2
        rw [List.filter_append, List.filter_cons_of_neg (by simp)]
        rw [List.filter_eq_self.2 fun x hx => ?_, List.filter_eq_self.2 fun x hx => ?_]
        · have : x.born ≠ e.born := fun e1 => n2.1 (by rw [← e1]; exact List.mem_map.2 ⟨x, hx, rfl⟩)
          simpa using this
        · have : x.born ≠ e.born := fun e1 => n3 x.born (List.mem_map.2 ⟨x, hx, rfl⟩) e.born (by simp) e1
          simpa using this
      rw [hsub, List.map_append]
      exact hp3
    · rcases hal with rfl | rfl <;> exact ⟨rfl, rfl, rfl, by simp [setBlock], fun i _ hi => hset.2 i (fun e1 => hi (by rw [e1]))⟩
    · rcases hal with rfl | rfl <;> simp [setBlock]
    · rw [hp2.1, hp2.2]
      exact run_entry_at _ r b since seen es clock e hset.1 hb' hem hst.2.1

/-- A map's copy. -/
theorem MapA.cloned (h : MapA kv vv W b l) : ∃ es clock, W.heap[b]? = some (.map es clock) ∧ MapA kv vv (W.alloc (.map es clock)) W.heap.size l := by
  obtain ⟨es, clock, hb, hs, hm, h2⟩ := h
  exact ⟨es, clock, hb, es, clock, heap_alloc_new W _, hs, hm, h2⟩
end

/-! At the operation. -/
section
variable {α β : Type} [DecidableEq α] {P : Program} {k : TypeId} {kv : α → Value} {vv : β → Value} {ok : α → Prop} {w : World} {b : Nat} {l : List (α × β)} {ops : Array Oper} {rest : List Oper} {o : Oper} {a : Act} {Q : Exit → Act → World → Prop}

theorem wpList_lookA (hg : o.guard = none) (m x : Operand) (t e : TypeId) (c : Bool) (hop : o.op = Op.lookup t m x c) (h : MapA kv vv w b l) (K : KeyA P k kv ok) (hok : ∀ p ∈ l, ok p.1) (ht : P.underlying t = some (.map k e)) (z : Value) (hz : (zeroValue e).run P w = .ok z w)
    (y : α) (ha : ok y) (hm : a.eval m = .map (some b)) (hx : a.eval x = kv y) (v : Value) (hv : (match findA l y with
      | some x => if c then .tuple #[vv x, .bool true] else vv x
      | none => if c then .tuple #[z, .bool false] else z) = v)
    (hK : wpList P ops Q rest (a.put o.dst v) w) : wpList P ops Q (o :: rest) a w := by
  subst hv
  refine wpList_plain hg fun K' hK' => ?_
  have hrun := h.look K hok ht hz c y ha
  unfold Oper.wp
  simp [execOp, hop, hm, hx, hrun, Result.andThen]
  exact hK' _ _ hK
theorem wpList_putA (hg : o.guard = none) (m x v : Operand) (t e : TypeId) (hop : o.op = Op.mapUpdate t m x v) (h : MapA kv vv w b l) (K : KeyA P k kv ok) (hok : ∀ p ∈ l, ok p.1) (ht : P.underlying t = some (.map k e)) (hn : l.length < maxLen)
    (y : α) (ha : ok y) (c : β) (hm : a.eval m = .map (some b)) (hx : a.eval x = kv y) (hv : a.eval v = vv c)
    (hK : ∀ w', MapA kv vv w' b (putA l y c) → w.grownBy w' (some b) → w'.heap.size = w.heap.size → wpList P ops Q rest (a.put o.dst undef) w') : wpList P ops Q (o :: rest) a w := by
  refine wpList_plain hg fun K' hK' => ?_
  obtain ⟨w', hrun, h1, h2, h3⟩ := h.put K hok ht hn y ha c
  unfold Oper.wp
  simp [execOp, hop, hm, hx, hv, hrun, Result.andThen]
  exact hK' _ _ (hK w' h1 h2 h3)
theorem wpList_dropA (hg : o.guard = none) (m x : Operand) (t e : TypeId) (hop : o.op = Op.call { callee := Callee.builtin Builtin.delete, args := #[m, x], argTypes := #[t, k] }) (h : MapA kv vv w b l) (K : KeyA P k kv ok) (hok : ∀ p ∈ l, ok p.1) (ht : P.underlying t = some (.map k e))
    (y : α) (ha : ok y) (hm : a.eval m = .map (some b)) (hx : a.eval x = kv y)
    (hK : ∀ w', MapA kv vv w' b (delA l y) → w.grownBy w' (some b) → w'.heap.size = w.heap.size → wpList P ops Q rest (a.put o.dst (.tuple #[])) w') : wpList P ops Q (o :: rest) a w := by
  refine wpList_plain hg fun K' hK' => ?_
  obtain ⟨w', hrun, h1, h2, h3⟩ := h.drop K hok ht y ha o.type
  unfold Oper.wp
  simp [execOp, hop, resolve, invoke, builtin, hm, hx, hrun, Result.andThen]
  exact hK' _ _ (hK w' h1 h2 h3)
theorem wpList_lenA (hg : o.guard = none) (m : Operand) (t e : TypeId) (hop : o.op = Op.call { callee := Callee.builtin Builtin.len, args := #[m], argTypes := #[t] }) (h : MapA kv vv w b l) (ht : P.underlying t = some (.map k e)) (hm : a.eval m = .map (some b))
    (hK : wpList P ops Q rest (a.put o.dst (.int .i64 (l.length : Int))) w) : wpList P ops Q (o :: rest) a w := by
  refine wpList_plain hg fun K' hK' => ?_
  have hrun := h.len ht o.type
  unfold Oper.wp
  simp [execOp, hop, resolve, invoke, builtin, hm, hrun, Result.andThen]
  exact hK' _ _ hK
theorem wpList_rangeA (hg : o.guard = none) (m : Operand) (t e : TypeId) (hop : o.op = Op.range t m) (h : MapA kv vv w b l) (ht : P.underlying t = some (.map k e)) (hm : a.eval m = .map (some b))
    (hK : ∀ w', RangeA kv vv w' b w.heap.size l l → Grows w w' → w'.heap.size = w.heap.size + 1 → wpList P ops Q rest (a.put o.dst (.pointer (some ⟨w.heap.size, 0, none⟩))) w') : wpList P ops Q (o :: rest) a w := by
  refine wpList_plain hg fun K' hK' => ?_
  obtain ⟨w', hrun, h1, h2, h3⟩ := h.range (P := P) ht
  unfold Oper.wp
  simp [execOp, hop, hm, hrun, Result.andThen]
  exact hK' _ _ (hK w' h1 h2 h3)
theorem wpList_nextA (hg : o.guard = none) (it : Operand) (hop : o.op = Op.next it false) (r : Nat) (todo : List (α × β)) (h : RangeA kv vv w b r l todo) (hit : a.eval it = .pointer (some ⟨r, 0, none⟩))
    (hDone : todo = [] → wpList P ops Q rest (a.put o.dst (.tuple #[.bool false])) w)
    (hMore : ∀ p todo' w', todo.Perm (p :: todo') → RangeA kv vv w' b r l todo' → w.grownBy w' (some r) → w'.heap.size = w.heap.size → (Instr.entry (.pointer (some ⟨r, 0, none⟩))).run P w' = .ok (.tuple #[kv p.1, vv p.2]) w' →
      wpList P ops Q rest (a.put o.dst (.tuple #[.bool true, kv p.1, vv p.2])) w') : wpList P ops Q (o :: rest) a w := by
  refine wpList_plain hg fun K' hK' => ?_
  unfold Oper.wp
  rcases h.next (P := P) o.type with ⟨h0, hrun⟩ | ⟨p, todo', w', h1, hrun, h2, h3, h4, h5⟩
  · simp [execOp, hop, hit, hrun, Result.andThen]
    exact hK' _ _ (hDone h0)
  · simp [execOp, hop, hit, hrun, Result.andThen]
    exact hK' _ _ (hMore p todo' w' h1 h2 h3 h4 h5)
end

/-! Keys that are strings, or numbers. -/
def okS (s : List UInt8) : Prop := s.length ≤ maxLen
def okI (n : Nat) : Prop := n < 9223372036854775808
theorem sv_inj (a b : List UInt8) (h : sv a = sv b) : a = b := by
  unfold sv at h
  simp at h
  exact h
theorem nv_inj (a b : Nat) (h : nv a = nv b) : a = b := by
  unfold nv at h
  simp at h
  omega
theorem keyS {P : Program} {k : TypeId} (hk : P.underlying k = some .string) : KeyA P k sv okS where
  key := string_keyed hk
  reads := fun a ha => ⟨_, Go.WideMaps.keyOf_string_mk hk (s := ⟨a.toArray⟩) (by show a.toArray.size ≤ maxLen; simpa [okS] using ha)⟩
  inj := sv_inj
theorem keyI {P : Program} {k : TypeId} (hk : P.underlying k = some (.int .i64)) : KeyA P k nv okI where
  key := int_keyed hk
  reads := fun a ha => ⟨_, keyOf_int_mk hk (by unfold okI at ha; simp [Lit.wf, IntKind.min, IntKind.max, IntKind.bits, IntKind.signed]; omega)⟩
  inj := nv_inj
end Go.Proofs.YtoppcpiheaedlaaGreatDoor
