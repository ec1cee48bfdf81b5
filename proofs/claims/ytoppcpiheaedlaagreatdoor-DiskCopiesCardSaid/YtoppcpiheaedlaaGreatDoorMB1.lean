import Derived.WalkKit
import Derived.ProofKit
import Derived.OpenShut
import Derived.ShutString
import Derived.ChangeOld
import Derived.Below
import Derived.Orders
import Derived.OrdersIn
import Derived.TacticsIn
import Derived.Lib.Hide
import Derived.KernelRfl
import Derived.Laws.AppendOwn
import Derived.Laws.AppendOwnNone
import Derived.Laws.OwnMore
import Derived.Laws.BytesString
import Derived.Laws.Slices
import Derived.Test.YtoppcpiheaedlaaGreatDoorChecked
import Derived.Laws.Rows
import Derived.Laws.Tables
import Derived.Deep.MidRow
import Derived.Maps.AppendAt
import Derived.Laws.ResultCell
import Derived.Laws.CopyRow
import Derived.Maps.RangeWalk
section
/-
  The verifier's own kit, over whatever program: regions whose order is drawn, by one fact an operation ('wp_region_facts'); what a slice of bytes reads as ('Byt', 'Own').
-/
namespace Go.Proofs.YtoppcpiheaedlaaGreatDoor
open Go.RowKit
abbrev Grows (w w' : World) : Prop := Below w.heap.size w w'
theorem Grows.rfl' (w : World) : Grows w w := Below.refl _ _
theorem Grows.trans' {a b c : World} (h : Grows a b) (k : Grows b c) : Grows a c := Below.trans h (Below.mono k h.size)
theorem Grows.drew' (w : World) : Grows w w.drew := (Below.refl _ _).drew
theorem Grows.alloc' (w : World) (o : Obj) : Grows w (w.alloc o) := (Below.refl _ _).alloc (Nat.le_refl _) _
theorem Grows.cell' {a b : World} (h : Grows a b) {p : Addr} {v : Value} (hc : a.cell? p = some v) : b.cell? p = some v :=
 (h.cell (World.block_lt_of_cell? a p hc)).trans hc
def StepOk (P : Program) (o : Oper) (ρ : Operand → Value) (w : World) (Ψ : Value → World → Prop) : Prop :=
 match (execOp ρ o).run P w with
 | .ok (.value v) w' => Ψ v w'
 | .ok .skip w' => Ψ undef w'
 | .ok (.enter f args) w' => Calls P f args w' fun e w'' => ∃ v, e = .returned v ∧ Ψ v w''
 | _ => False
theorem StepOk.wp {P : Program} {o : Oper} {a : Act} {w : World} {Ψ : Value → World → Prop} {K : Act → World → Prop} {Q : Exit → Act → World → Prop}
 (h : StepOk P o a.eval w Ψ) (hK : ∀ v w', Ψ v w' → K (a.put o.dst v) w') : o.wp P a w K Q := by
 unfold Oper.wp
 unfold StepOk at h
 generalize (execOp a.eval o).run P w = r at *
 cases r with
 | ok n w' =>
  cases n <;> simp only at h <;> simp only [Oper.upon] <;> first
   | exact hK _ _ h
   | exact Calls.mono h (fun e w'' he => by obtain ⟨v, rfl, hv⟩ := he; exact hK _ _ hv)
 | halt x w' => simp only at h
theorem StepOk.mono {P : Program} {o : Oper} {ρ : Operand → Value} {w : World} {Ψ Ψ' : Value → World → Prop} (h : StepOk P o ρ w Ψ) (hK : ∀ v w', Ψ v w' → Ψ' v w') : StepOk P o ρ w Ψ' := by
 unfold StepOk at *
 generalize (execOp ρ o).run P w = r at *
 cases r with
 | ok n w' =>
  cases n <;> simp only at h ⊢ <;> first
   | exact hK _ _ h
   | exact Calls.mono h (fun e w'' he => by obtain ⟨v, rfl, hv⟩ := he; exact ⟨v, rfl, hK _ _ hv⟩)
 | halt x w' => simp only at h
theorem StepOk.of_run {P : Program} {o : Oper} {ρ : Operand → Value} {w w' : World} {v : Value} {Ψ : Value → World → Prop} (h : (execOp ρ o).run P w = .ok (.value v) w') (hv : Ψ v w') : StepOk P o ρ w Ψ := by
 unfold StepOk; rw [h]; exact hv
theorem StepOk.of_call {P : Program} {o : Oper} {ρ : Operand → Value} {w w' : World} {f : FuncId} {args : Array Value} {R : Ending → World → Prop} {Ψ : Value → World → Prop} (h : (execOp ρ o).run P w = .ok (.enter f args) w')
 (hc : Calls P f args w' R) (hv : ∀ e w'', R e w'' → ∃ v, e = .returned v ∧ Ψ v w'') : StepOk P o ρ w Ψ := by
 unfold StepOk; rw [h]; exact hc.mono hv
def regionChk (ops : Array Oper) (n last : Nat) (pre org : Array (List Nat)) (run : Array Bool) : Bool :=
 ((List.range ops.size).all fun j => j == last || decide (ops.size ≤ last) || (pre.getD last []).contains j) &&
 (match ops[last]? with | some o => o.guard.isNone | none => true) &&
 (List.range ops.size).all fun i => match ops[i]? with
  | none => true
  | some o =>
   (o.after.toList.all fun e => !Region.binds .any e || decide (e.on < i)) &&
   (match o.dst with
    | none => true
    | some d => decide (d < n) && (List.range ops.size).all fun j => j == i || (match ops[j]? with | some oj => oj.dst != some d | none => true)) &&
   ((pre.getD i []).all fun j => o.after.toList.any fun e => Region.binds .any e && (e.on == j || (pre.getD e.on []).contains j)) &&
   ((org.getD i []).all fun t => (List.range ops.size).all fun j => match ops[j]? with
     | some oj => oj.dst != some t || j == i || (pre.getD j []).contains i
     | none => true) &&
   (match o.guard with
    | none => run.getD i false
    | some (g, _) => o.after.toList.any (fun e => Region.binds .any e && e.on == g) && ((ops[g]?).bind (·.dst)).isSome)
structure RInv (ops : Array Oper) (last : Nat) (pre : Array (List Nat)) (Φ : Nat → Value → World → Prop) (a0 : Act) (w0 : World) (S : Array Bool) (a : Act) (w : World) : Prop where
 ext : Grows w0 w
 defers : a.defers = a0.defers
 size : a.tmps.size = a0.tmps.size
 done : ∀ i o d, S.getD i false = true → ops[i]? = some o → o.dst = some d → Φ i (a.tmps.getD d undef) w
 orig : ∀ t, (∀ i o, S.getD i false = true → ops[i]? = some o → o.dst ≠ some t) → a.tmps.getD t undef = a0.tmps.getD t undef
 clo : ∀ i, S.getD i false = true → ∀ j ∈ pre.getD i [], S.getD j false = true
 still : S.getD last false = false
def StepReq (P : Program) (ops : Array Oper) (pre org : Array (List Nat)) (run : Array Bool) (Φ : Nat → Value → World → Prop) (a0 : Act) (w0 : World) (i : Nat) : Prop :=
 match ops[i]? with
 | none => True
 | some o => ∀ (ρ : Operand → Value) (W : World), (∀ v, ρ (.const v) = v) → (∀ f, ρ (.func f) = .func (.func f) #[] #[]) → (∀ g, ρ (.global g) = .pointer (some ⟨g, 0, none⟩)) → Grows w0 W →
  (∀ j ∈ pre.getD i [], match (ops[j]?).bind (·.dst) with | some d => Φ j (ρ (.tmp d)) W | none => True) →
  (∀ t ∈ org.getD i [], ρ (.tmp t) = a0.tmps.getD t undef) →
  (if run.getD i false then StepOk P o ρ W (fun v W' => Φ i v W' ∧ Grows W W') else Φ i undef W)
theorem step_intro {P : Program} {ops : Array Oper} {pre org : Array (List Nat)} {run : Array Bool} {Φ : Nat → Value → World → Prop} {a0 : Act} {w0 : World} {i last : Nat} {o : Oper} (ho : ops[i]? = some o) (hr : run.getD i false = true)
 (h : ∀ (ρ : Operand → Value) (W : World), (∀ v, ρ (.const v) = v) → (∀ f, ρ (.func f) = .func (.func f) #[] #[]) → (∀ g, ρ (.global g) = .pointer (some ⟨g, 0, none⟩)) → Grows w0 W →
  (∀ j ∈ pre.getD i [], match (ops[j]?).bind (·.dst) with | some d => Φ j (ρ (.tmp d)) W | none => True) →
  (∀ t ∈ org.getD i [], ρ (.tmp t) = a0.tmps.getD t undef) → StepOk P o ρ W (fun v W' => Φ i v W' ∧ Grows W W')) :
 if i = last then True else StepReq P ops pre org run Φ a0 w0 i := by
 split
 · trivial
 · unfold StepReq
   rw [ho]
   intro ρ W hc hf hgl hW hp hq
   rw [if_pos hr]
   exact h ρ W hc hf hgl hW hp hq
theorem step_skip {P : Program} {ops : Array Oper} {pre org : Array (List Nat)} {run : Array Bool} {Φ : Nat → Value → World → Prop} {a0 : Act} {w0 : World} {i last : Nat} {o : Oper} (ho : ops[i]? = some o) (hr : run.getD i false = false)
 (h : ∀ (W : World), Grows w0 W → Φ i undef W) : if i = last then True else StepReq P ops pre org run Φ a0 w0 i := by
 split
 · trivial
 · unfold StepReq
   rw [ho]
   intro ρ W _ _ _ hW _ _
   rw [if_neg (by rw [hr]; simp)]
   exact h W hW
theorem last_intro {R : Prop} {i last : Nat} (h : i = last) : if i = last then True else R := by
 rw [if_pos h]; trivial
def boolOf : Value → Option Bool
 | .bool b => some b
 | _ => none
def GuardReq (ops : Array Oper) (run : Array Bool) (Φ : Nat → Value → World → Prop) (i : Nat) : Prop :=
 match ops[i]? with
 | none => True
 | some o => match o.guard with
  | none => True
  | some (g, b) => ∀ v W, Φ g v W → (boolOf v == some b) = run.getD i false
def AllReq (R : Nat → Prop) : List Nat → Prop
 | [] => True
 | i :: r => R i ∧ AllReq R r
theorem AllReq.mem {R : Nat → Prop} : ∀ {l : List Nat}, AllReq R l → ∀ i ∈ l, R i
 | [], _, _, hm => by cases hm
 | _ :: _, h, i, hm => by
  rcases List.mem_cons.1 hm with rfl | hm
  · exact h.1
  · exact AllReq.mem h.2 i hm
def anyOf (ops : Array Oper) (opP : Nat → (Act → World → Prop) → Act → World → Prop) (Q : Act → World → Prop) : Nat → Array Bool → Act → World → Prop
 | 0, listed, a, w => Region.ready .any ops listed = [] ∧ Q a w
 | fuel + 1, listed, a, w =>
  (Region.ready .any ops listed = [] → Q a w) ∧
  ∀ i ∈ Region.ready .any ops listed, opP i (anyOf ops opP Q fuel (listed.setIfInBounds i true)) a w
theorem anyOf_wpAny (P : Program) (ops : Array Oper) (Q : Exit → Act → World → Prop) : ∀ (fuel : Nat), wpAny P .any ops Q fuel = anyOf ops (wpOp P ops Q) (Q .normal) fuel
 | 0 => rfl
 | fuel + 1 => by
  funext S a w
  simp only [wpAny, anyOf, anyOf_wpAny P ops Q fuel]
structure OpRule (P : Program) (ops : Array Oper) (opP : Nat → (Act → World → Prop) → Act → World → Prop) : Prop where
 does : ∀ (i : Nat) (o : Oper) (a : Act) (W : World) (Ψ : Value → World → Prop) (K : Act → World → Prop), ops[i]? = some o → Region.wanted o (yielded ops a.tmps) = true → StepOk P o a.eval W Ψ → (∀ v w', Ψ v w' → K (a.put o.dst v) w') → opP i K a W
 skips : ∀ (i : Nat) (o : Oper) (a : Act) (W : World) (K : Act → World → Prop), ops[i]? = some o → Region.wanted o (yielded ops a.tmps) = false → K (a.put o.dst undef) W → opP i K a W
theorem opRule_plain (P : Program) (ops : Array Oper) (Q : Exit → Act → World → Prop) : OpRule P ops (wpOp P ops Q) where
 does := fun i o a W Ψ K ho hw h hK => by
   unfold wpOp
   simp only [ho, hw, if_true]
   exact .inl (StepOk.wp h hK)
 skips := fun i o a W K ho hw h => by
  unfold wpOp
  simp only [ho, hw]
  exact h
section
variable {P : Program} {ops : Array Oper} {pre org : Array (List Nat)} {run : Array Bool} {Φ : Nat → Value → World → Prop} {a0 : Act} {w0 : World} {Q : Exit → Act → World → Prop}
theorem getD_set (S : Array Bool) (i j : Nat) (hi : i < S.size) : (S.setIfInBounds i true).getD j false = if i = j then true else S.getD j false := by
 by_cases h : i = j
 · subst h; simp [hi]
 · simp [h, Array.getElem?_setIfInBounds_ne h]
theorem count_set_lt (S : Array Bool) (i : Nat) (h : S.getD i true = false) : (S.setIfInBounds i true).count false + 1 = S.count false := by
 have hi : i < S.size := by
  rcases Nat.lt_or_ge i S.size with h' | h'
  · exact h'
  · simp [Array.getElem?_eq_none h'] at h
 have hv : S[i] = false := by simpa [hi] using h
 have hm : false ∈ S := by rw [← hv]; exact Array.getElem_mem hi
 have hp : 0 < S.count false := Array.count_pos_iff.2 hm
 rw [Array.setIfInBounds_def, dif_pos hi, Array.count_set]
 simp [hv]
 omega
theorem all_listed {S : Array Bool} (hS : S.size = ops.size) (hback : ∀ (i : Nat) (o : Oper), ops[i]? = some o → ∀ e ∈ o.after, Region.binds .any e = true → e.on < i) (hr : Region.ready .any ops S = []) :
 ∀ i, i < ops.size → S.getD i false = true := by
 intro i
 induction i using Nat.strongRecOn with
 | _ i ih =>
  intro hi
  cases h : S.getD i false with
  | true => rfl
  | false =>
   exfalso
   have : i ∈ Region.ready .any ops S := by
    rw [mem_ready]
    refine ⟨?_, ops[i], by simp [hi], fun e he hb => ?_⟩
    · simpa [hS, hi] using h
    · have hlt := hback i ops[i] (by simp [hi]) e he hb
      exact ih e.on hlt (by omega)
   rw [hr] at this
   cases this
theorem anyOf_done {opP : Nat → (Act → World → Prop) → Act → World → Prop} {Qn : Act → World → Prop} {S : Array Bool} {a : Act} {W : World} (hr : Region.ready .any ops S = []) (h : Qn a W) : ∀ fuel, anyOf ops opP Qn fuel S a W
 | 0 => ⟨hr, h⟩
 | _ + 1 => ⟨fun _ => h, by rw [hr]; simp⟩
structure AllBut (ops : Array Oper) (last : Nat) (Φ : Nat → Value → World → Prop) (a0 : Act) (w0 : World) (a : Act) (W : World) : Prop where
 ext : Grows w0 W
 defers : a.defers = a0.defers
 size : a.tmps.size = a0.tmps.size
 done : ∀ i o d, i ≠ last → ops[i]? = some o → o.dst = some d → Φ i (a.tmps.getD d undef) W
 orig : ∀ t, (∀ (i : Nat) (o : Oper), i ≠ last → ops[i]? = some o → o.dst ≠ some t) → a.tmps.getD t undef = a0.tmps.getD t undef
theorem facts_any {opP : Nat → (Act → World → Prop) → Act → World → Prop} {Qn : Act → World → Prop} {last : Nat} (hop : OpRule P ops opP) (hchk : regionChk ops a0.tmps.size last pre org run = true)
 (hst : ∀ i v W W', Grows W W' → Φ i v W → Φ i v W')
 (hg : AllReq (GuardReq ops run Φ) (List.range ops.size))
 (hs : AllReq (fun i => if i = last then True else StepReq P ops pre org run Φ a0 w0 i) (List.range ops.size))
 (hlast : ∀ o, ops[last]? = some o → ∀ a W, AllBut ops last Φ a0 w0 a W → StepOk P o a.eval W (fun v W' => Qn (a.put o.dst v) W'))
 (hQ : ops.size ≤ last → ∀ a W, AllBut ops last Φ a0 w0 a W → Qn a W) :
 ∀ (fuel : Nat) (S : Array Bool) (a : Act) (W : World), S.size = ops.size → S.count false ≤ fuel → RInv ops last pre Φ a0 w0 S a W → anyOf ops opP Qn fuel S a W := by
 simp only [regionChk, Bool.and_eq_true] at hchk
 obtain ⟨⟨hlast1, hlast2⟩, hchk⟩ := hchk
 have hall : ∀ (i : Nat) (o : Oper), ops[i]? = some o → _ := fun i o ho => List.all_eq_true.1 hchk i (List.mem_range.2 (Array.getElem?_eq_some_iff.1 ho).1)
 have hback : ∀ (i : Nat) (o : Oper), ops[i]? = some o → ∀ e ∈ o.after, Region.binds .any e = true → e.on < i := fun i o ho e he hb => by
  have h := hall i o ho
  simp only [ho, Bool.and_eq_true] at h
  have h1 := List.all_eq_true.1 h.1.1.1.1 e (Array.mem_toList_iff.2 he)
  simpa [hb] using h1
 have hdst : ∀ (i : Nat) (o : Oper) (d : Nat), ops[i]? = some o → o.dst = some d → d < a0.tmps.size ∧ ∀ (j : Nat) (oj : Oper), ops[j]? = some oj → j ≠ i → oj.dst ≠ some d := fun i o d ho hd => by
  have h := hall i o ho
  simp only [ho, Bool.and_eq_true, hd] at h
  have h1 := h.1.1.1.2
  refine ⟨of_decide_eq_true h1.1, fun j oj hj hne => ?_⟩
  have h2 := List.all_eq_true.1 h1.2 j (List.mem_range.2 (Array.getElem?_eq_some_iff.1 hj).1)
  simpa [hj, hne] using h2
 have hpre : ∀ (i : Nat) (o : Oper), ops[i]? = some o → ∀ j ∈ pre.getD i [], ∃ e ∈ o.after, Region.binds .any e = true ∧ (e.on = j ∨ j ∈ pre.getD e.on []) := fun i o ho j hj => by
  have h := hall i o ho
  simp only [ho, Bool.and_eq_true] at h
  have h1 := List.all_eq_true.1 h.1.1.2 j hj
  obtain ⟨e, he, hb⟩ := List.any_eq_true.1 h1
  simp only [Bool.and_eq_true, Bool.or_eq_true, beq_iff_eq, List.contains_iff_mem] at hb
  exact ⟨e, Array.mem_toList_iff.1 he, hb.1, hb.2⟩
 have horg : ∀ (i : Nat) (o : Oper), ops[i]? = some o → ∀ t ∈ org.getD i [], ∀ (j : Nat) (oj : Oper), ops[j]? = some oj → oj.dst = some t → j = i ∨ i ∈ pre.getD j [] := fun i o ho t ht j oj hj hd => by
  have h := hall i o ho
  simp only [ho, Bool.and_eq_true] at h
  have h1 := List.all_eq_true.1 (List.all_eq_true.1 h.1.2 t ht) j (List.mem_range.2 (Array.getElem?_eq_some_iff.1 hj).1)
  simp only [hj, hd, Bool.or_eq_true, bne_self_eq_false, Bool.false_eq_true, false_or, beq_iff_eq, List.contains_iff_mem] at h1
  exact h1
 have hguard : ∀ (i : Nat) (o : Oper) (g : Nat) (b : Bool), ops[i]? = some o → o.guard = some (g, b) → (∃ e ∈ o.after, Region.binds .any e = true ∧ e.on = g) ∧ ∃ og d, ops[g]? = some og ∧ og.dst = some d := fun i o g b ho hgd => by
  have h := hall i o ho
  simp only [ho, Bool.and_eq_true, hgd] at h
  obtain ⟨h1, h2⟩ := h.2
  obtain ⟨e, he, hb⟩ := List.any_eq_true.1 h1
  simp only [Bool.and_eq_true, beq_iff_eq] at hb
  refine ⟨⟨e, Array.mem_toList_iff.1 he, hb.1, hb.2⟩, ?_⟩
  cases hog : ops[g]? with
  | none => simp [hog] at h2
  | some og =>
   simp [hog] at h2
   obtain ⟨d, hd⟩ := Option.isSome_iff_exists.1 h2
   exact ⟨og, d, rfl, hd⟩
 have hrun0 : ∀ (i : Nat) (o : Oper), ops[i]? = some o → o.guard = none → run.getD i false = true := fun i o ho hgd => by
  have h := hall i o ho
  simp only [ho, Bool.and_eq_true, hgd] at h
  exact h.2
 have hlastpre : ∀ j, j < ops.size → j ≠ last → last < ops.size → j ∈ pre.getD last [] := fun j hj hne hl => by
  have h := List.all_eq_true.1 hlast1 j (List.mem_range.2 hj)
  simp only [Bool.or_eq_true, beq_iff_eq, decide_eq_true_eq, List.contains_iff_mem] at h
  rcases h with (h | h) | h
  · exact absurd h hne
  · omega
  · exact h
 have finish : ∀ (S : Array Bool) (a : Act) (W : World), S.size = ops.size → RInv ops last pre Φ a0 w0 S a W → Region.ready .any ops S = [] → Qn a W := fun S a W hS hI hr => by
  have hl := all_listed hS hback hr
  have hge : ops.size ≤ last := by
   rcases Nat.lt_or_ge last ops.size with h | h
   · have := hl last h; rw [hI.still] at this; cases this
   · exact h
  refine hQ hge a W ⟨hI.ext, hI.defers, hI.size, fun i o d _ ho hd => hI.done i o d (hl i (Array.getElem?_eq_some_iff.1 ho).1) ho hd, fun t ht => hI.orig t fun i o hi ho => ht i o ?_ ho⟩
  have := (Array.getElem?_eq_some_iff.1 ho).1
  omega
 intro fuel
 induction fuel with
 | zero =>
  intro S a W hS hc hI
  have hr : Region.ready .any ops S = [] := by
   rw [List.eq_nil_iff_forall_not_mem]
   intro i hi
   have h0 := (mem_ready.1 hi).1
   have := count_set_lt S i h0
   omega
  exact ⟨hr, finish S a W hS hI hr⟩
 | succ fuel ih =>
  intro S a W hS hc hI
  refine ⟨fun hr => finish S a W hS hI hr, fun i hi => ?_⟩
  obtain ⟨h0, o, ho, hed⟩ := mem_ready.1 hi
  have hiS : i < S.size := by rw [hS]; exact (Array.getElem?_eq_some_iff.1 ho).1
  have hcnt := count_set_lt S i h0
  have hun : S.getD i false = false := by simpa [hiS] using h0
  have hprel : ∀ j ∈ pre.getD i [], S.getD j false = true := fun j hj => by
   obtain ⟨e, he, hb, rfl | hjk⟩ := hpre i o ho j hj
   · exact hed e he hb
   · exact hI.clo _ (hed e he hb) j hjk
  have hsee : (∀ j ∈ pre.getD i [], match (ops[j]?).bind (·.dst) with | some d => Φ j (a.eval (.tmp d)) W | none => True) := fun j hj => by
   cases hoj : ops[j]? with
   | none => simp
   | some oj =>
    cases hd : oj.dst with
    | none => simp [hd]
    | some d => simpa [hd, Act.eval] using hI.done j oj d (hprel j hj) hoj hd
  have horgl : ∀ t ∈ org.getD i [], a.eval (.tmp t) = a0.tmps.getD t undef := fun t ht => by
   refine hI.orig t fun j oj hj hoj hd => ?_
   rcases horg i o ho t ht j oj hoj hd with rfl | hin
   · rw [hun] at hj; cases hj
   · have := hI.clo j hj i hin
     rw [hun] at this; cases this
  by_cases hil : i = last
  · subst hil
    have hlisted : ∀ j, j < ops.size → j ≠ i → S.getD j false = true := fun j hj hne => hprel j (hlastpre j hj hne (Array.getElem?_eq_some_iff.1 ho).1)
    have hbut : AllBut ops i Φ a0 w0 a W := ⟨hI.ext, hI.defers, hI.size, fun j oj d hne hoj hd => hI.done j oj d (hlisted j (Array.getElem?_eq_some_iff.1 hoj).1 hne) hoj hd,
     fun t ht => hI.orig t fun j oj hj hoj => ht j oj (fun e => by subst e; rw [hun] at hj; cases hj) hoj⟩
    have hwant : Region.wanted o (yielded ops a.tmps) = true := by
     simp only [ho] at hlast2
     unfold Region.wanted
     rw [Option.isNone_iff_eq_none.1 hlast2]
    refine hop.does i o a W _ _ ho hwant (hlast o ho a W hbut) fun v w' hq => anyOf_done ?_ hq fuel
    rw [List.eq_nil_iff_forall_not_mem]
    intro j hj
    obtain ⟨hj0, oj, hoj, _⟩ := mem_ready.1 hj
    have hjl := (Array.getElem?_eq_some_iff.1 hoj).1
    by_cases hij : i = j
    · subst hij; simp [hiS] at hj0
    · rw [getD_set_ne true hij] at hj0
      have h1 := hlisted j hjl (fun e => hij e.symm)
      rw [← hS] at hjl
      simp [hjl] at h1 hj0
      rw [h1] at hj0
      cases hj0
  have hreq := AllReq.mem hs i (List.mem_range.2 (Array.getElem?_eq_some_iff.1 ho).1)
  simp only [if_neg hil, StepReq, ho] at hreq
  have hreq' := hreq a.eval W (fun _ => rfl) (fun _ => rfl) (fun _ => rfl) hI.ext hsee horgl
  have hwant : Region.wanted o (yielded ops a.tmps) = run.getD i false := by
   unfold Region.wanted
   cases hgd : o.guard with
   | none => simp [hrun0 i o ho hgd]
   | some gb =>
    obtain ⟨g, b⟩ := gb
    obtain ⟨⟨e, he, hb, rfl⟩, og, d, hog, hd⟩ := hguard i o g b ho hgd
    have hgr := AllReq.mem hg i (List.mem_range.2 (Array.getElem?_eq_some_iff.1 ho).1)
    simp only [GuardReq, ho, hgd] at hgr
    have hgv := hgr _ W (hI.done e.on og d (hed e he hb) hog hd)
    have hdl : d < a.tmps.size := by rw [hI.size]; exact (hdst _ og d hog hd).1
    have hy : yielded ops a.tmps e.on = boolOf (a.tmps.getD d undef) := by
     unfold yielded
     simp [hog, hd, hdl]
     cases a.tmps[d] <;> rfl
    simp only [hy]
    exact hgv
  -- what comes behind
  have next : ∀ v W', Φ i v W' → Grows W W' → anyOf ops opP Qn fuel (S.setIfInBounds i true) (a.put o.dst v) W' := fun v W' hv hW => by
   refine ih _ _ _ (by simpa using hS) (by omega) ⟨Grows.trans' hI.ext hW, ?_, ?_, ?_, ?_, ?_, by rw [getD_set S i last hiS, if_neg hil]; exact hI.still⟩
   · rw [← hI.defers]; cases o.dst <;> rfl
   · rw [← hI.size]; cases o.dst <;> simp [Act.put]
   · intro j oj d hj hoj hd
     rw [getD_set S i j hiS] at hj
     by_cases hij : i = j
     · subst hij
       rw [ho] at hoj
       obtain rfl := Option.some.inj hoj
       have hdl : d < a.tmps.size := by rw [hI.size]; exact (hdst i o d ho hd).1
       simpa [Act.put, hd, hdl] using hv
     · rw [if_neg hij] at hj
       have hold := hst j _ W W' hW (hI.done j oj d hj hoj hd)
       have hne : o.dst ≠ some d := (hdst j oj d hoj hd).2 i o ho hij
       cases hod : o.dst with
       | none => simpa [Act.put] using hold
       | some d' =>
        have hdd : d' ≠ d := fun e => hne (by rw [hod, e])
        simpa [Act.put, Array.getElem?_setIfInBounds_ne hdd] using hold
   · intro t ht
     have h1 := ht i o (by rw [getD_set S i i hiS]; simp) ho
     rw [← hI.orig t fun j oj hj hoj => ht j oj (by rw [getD_set S i j hiS]; simp [hj]) hoj]
     cases hod : o.dst with
     | none => rfl
     | some d' =>
      have hdd : d' ≠ t := fun e => h1 (by rw [hod, e])
      simp [Act.put, Array.getElem?_setIfInBounds_ne hdd]
   · intro j hj k hk
     rw [getD_set S i j hiS] at hj
     rw [getD_set S i k hiS]
     by_cases hik : i = k
     · simp [hik]
     · rw [if_neg hik]
       by_cases hij : i = j
       · subst hij; exact hprel k hk
       · rw [if_neg hij] at hj; exact hI.clo j hj k hk
  cases hrn : run.getD i false with
  | true =>
   simp only [hrn, if_true] at hreq'
   exact hop.does i o a W _ _ ho (by rw [hwant, hrn]) hreq' fun v W' ⟨h1, h2⟩ => next v W' h1 h2
  | false =>
   simp only [hrn] at hreq'
   exact hop.skips i o a W _ ho (by rw [hwant, hrn]) (next undef W (by simpa using hreq') (Below.refl _ _))
theorem rinv0 {last : Nat} : RInv ops last pre Φ a0 w0 (Array.replicate ops.size false) a0 { w0 with drawn := w0.drawn + 1 } := by
 refine ⟨(Below.refl _ _).drew, rfl, rfl, ?_, ?_, ?_, ?_⟩
 · intro i o d hi
   simp [Array.getElem?_replicate] at hi
   split at hi <;> simp at hi
 · intro t _; rfl
 · intro i hi
   simp [Array.getElem?_replicate] at hi
   split at hi <;> simp at hi
 · simp [Array.getElem?_replicate]
   split <;> simp
theorem AllBut.done' {last : Nat} {a : Act} {W : World} (h : AllBut ops last Φ a0 w0 a W) (i : Nat) (t : Tmp) (hi : (i != last) = true) (ho : (ops[i]?).bind (·.dst) = some t) : Φ i (a.tmps.getD t undef) W := by
 cases hoi : ops[i]? with
 | none => simp [hoi] at ho
 | some o => exact h.done i o t (by simpa using hi) hoi (by simpa [hoi] using ho)
def updL : List Value → Nat → List (Nat × Value) → List Value
 | [], _, _ => []
 | x :: l, _, [] => x :: l
 | x :: l, k, (d, v) :: r => if k = d then v :: updL l (k + 1) r else x :: updL l (k + 1) ((d, v) :: r)
def sortedD : Nat → List (Nat × Value) → Bool
 | _, [] => true
 | k, (d, _) :: r => decide (k ≤ d) && sortedD (d + 1) r
theorem updL_length : ∀ (l : List Value) (k : Nat) (dv : List (Nat × Value)), (updL l k dv).length = l.length
 | [], _, _ => rfl
 | _ :: _, _, [] => rfl
 | x :: l, k, (d, v) :: r => by
  unfold updL
  split <;> simp [updL_length l]
def SlotsV (f : Array Value) : List (Nat × Value) → Prop
 | [] => True
 | (d, v) :: r => f.getD d undef = v ∧ SlotsV f r
theorem updL_get (f : Array Value) : ∀ (l : List Value) (k : Nat) (dv : List (Nat × Value)), sortedD k dv = true → SlotsV f dv →
 (∀ i, i < l.length → (∀ v, (k + i, v) ∉ dv) → f.getD (k + i) undef = l.getD i undef) → ∀ i, i < l.length → f.getD (k + i) undef = (updL l k dv).getD i undef
 | [], _, _, _, _, _, i, hi => by simp at hi
 | x :: l, k, [], _, _, h, i, hi => h i hi (by simp)
 | x :: l, k, (d, v) :: r, hs, hv, h, i, hi => by
  simp only [sortedD, Bool.and_eq_true, decide_eq_true_eq] at hs
  have above : ∀ (r : List (Nat × Value)) (e : Nat), sortedD e r = true → ∀ j u, (j, u) ∈ r → e ≤ j := by
   intro r
   induction r with
   | nil => intro e _ j u hj; cases hj
   | cons y r ih =>
    intro e he j u hj
    simp only [sortedD, Bool.and_eq_true, decide_eq_true_eq] at he
    rcases List.mem_cons.1 hj with rfl | hj
    · exact he.1
    · have := ih _ he.2 j u hj
      omega
  unfold updL
  by_cases e : k = d
  · rw [if_pos e]
    subst e
    cases i with
    | zero => simpa using hv.1
    | succ i =>
     have := updL_get f l (k + 1) r hs.2 hv.2 (fun i hi hn => by
      have h1 := h (i + 1) (by simpa using hi) (fun u hu => by
       rcases List.mem_cons.1 hu with hu | hu
       · simp only [Prod.mk.injEq] at hu; omega
       · exact hn u (by rwa [show k + 1 + i = k + (i + 1) by omega]))
      rw [show k + 1 + i = k + (i + 1) by omega, h1]
      simp) i (by simpa using hi)
     rw [show k + (i + 1) = k + 1 + i by omega, this]
     simp
  · rw [if_neg e]
    cases i with
    | zero =>
     have h1 := h 0 (by simp) (fun u hu => by
      rcases List.mem_cons.1 hu with hu | hu
      · simp only [Prod.mk.injEq] at hu; omega
      · have := above r _ hs.2 _ _ hu; omega)
     rw [h1]; simp
    | succ i =>
     have := updL_get f l (k + 1) ((d, v) :: r) (by simp only [sortedD, Bool.and_eq_true, decide_eq_true_eq]; exact ⟨by omega, hs.2⟩) hv (fun i hi hn => by
      have h1 := h (i + 1) (by simpa using hi) (fun u hu => hn u (by rwa [show k + 1 + i = k + (i + 1) by omega]))
      rw [show k + 1 + i = k + (i + 1) by omega, h1]
      simp) i (by simpa using hi)
     rw [show k + (i + 1) = k + 1 + i by omega, this]
     simp
theorem AllBut.frame {ops : Array Oper} {last : Nat} {Φ : Nat → Value → World → Prop} {l : List Value} {ds : List Deferred} {w0 : World} {a : Act} {W : World} (h : AllBut ops last Φ { tmps := l.toArray, defers := ds } w0 a W) (dv : List (Nat × Value))
 (hc : (sortedD 0 dv && ops.toList.all fun o => match o.dst with | none => true | some d => dv.any fun p => p.1 == d) = true) (hv : SlotsV a.tmps dv) : a = { tmps := (updL l 0 dv).toArray, defers := ds } := by
 simp only [Bool.and_eq_true] at hc
 obtain ⟨hc1, hc2⟩ := hc
 obtain ⟨f, d'⟩ := a
 have hd : d' = ds := h.defers
 have hs : f.size = l.length := by simpa using h.size
 subst hd
 congr 1
 apply Array.ext
 · simp [updL_length, hs]
 · intro i h1 h2
   have key := updL_get f l 0 dv hc1 hv (fun i hi hn => by
    have := h.orig (0 + i) (fun j o _ ho hd => by
     have h3 := List.all_eq_true.1 hc2 o (Array.mem_toList_iff.2 (Array.mem_of_getElem? ho))
     simp only [hd] at h3
     obtain ⟨p, hp, hpd⟩ := List.any_eq_true.1 h3
     have : p.1 = 0 + i := by simpa using hpd
     exact hn p.2 (by rw [← this]; exact hp))
    have h4 : (0 : Nat) + i = i := by omega
    rw [h4] at this ⊢
    simpa using this) i (by omega)
   have h3 : i < (updL l 0 dv).length := by simpa using h2
   rw [show 0 + i = i by omega] at key
   simpa [h1, h3] using key
theorem wp_region_facts {id : Nat} (pre org : Array (List Nat)) (run : Array Bool) (Φ : Nat → Value → World → Prop) (hm : P.follows .mixedOrders = true) (hchk : regionChk ops a0.tmps.size ops.size pre org run = true)
 (hst : ∀ i v W W', Grows W W' → Φ i v W → Φ i v W')
 (hg : AllReq (GuardReq ops run Φ) (List.range ops.size))
 (hs : AllReq (fun i => if i = ops.size then True else StepReq P ops pre org run Φ a0 w0 i) (List.range ops.size))
 (hQ : ∀ a W, AllBut ops ops.size Φ a0 w0 a W → Q .normal a W) :
 (Code.region id ops true).wp P Q a0 w0 := by
 refine wp_region_any hm ?_
 rw [anyOf_wpAny]
 exact facts_any (last := ops.size) (opRule_plain P ops Q) hchk hst hg hs (fun o ho => by simp at ho) (fun _ => hQ) ops.size _ a0 _ (by simp) (by simp) rinv0
theorem wp_region_facts_last {id : Nat} (last : Nat) (pre org : Array (List Nat)) (run : Array Bool) (Φ : Nat → Value → World → Prop) (hm : P.follows .mixedOrders = true) (hchk : regionChk ops a0.tmps.size last pre org run = true)
 (hst : ∀ i v W W', Grows W W' → Φ i v W → Φ i v W')
 (hg : AllReq (GuardReq ops run Φ) (List.range ops.size))
 (hs : AllReq (fun i => if i = last then True else StepReq P ops pre org run Φ a0 w0 i) (List.range ops.size))
 (hlast : ∀ o, ops[last]? = some o → ∀ a W, AllBut ops last Φ a0 w0 a W → StepOk P o a.eval W (fun v W' => Q .normal (a.put o.dst v) W'))
 (hQ : ops.size ≤ last → ∀ a W, AllBut ops last Φ a0 w0 a W → Q .normal a W) :
 (Code.region id ops true).wp P Q a0 w0 := by
 refine wp_region_any hm ?_
 rw [anyOf_wpAny]
 exact facts_any (last := last) (opRule_plain P ops Q) hchk hst hg hs hlast hQ ops.size _ a0 _ (by simp) (by simp) rinv0
end
theorem stepR {P : Program} {ops : Array Oper} {pre org : Array (List Nat)} {run : Array Bool} {Φ : Nat → Value → World → Prop} {a0 : Act} {w0 : World} {i last : Nat} {o : Oper} (v : Value) (ho : ops[i]? = some o) (hr : run.getD i false = true) (hΦ : ∀ X, Φ i v X)
 (h : ∀ (ρ : Operand → Value) (X : World), (∀ v, ρ (.const v) = v) → (∀ f, ρ (.func f) = .func (.func f) #[] #[]) → (∀ g, ρ (.global g) = .pointer (some ⟨g, 0, none⟩)) → Grows w0 X →
  (∀ j ∈ pre.getD i [], match (ops[j]?).bind (·.dst) with | some d => Φ j (ρ (.tmp d)) X | none => True) →
  (∀ t ∈ org.getD i [], ρ (.tmp t) = a0.tmps.getD t undef) → (execOp ρ o).run P X = .ok (.value v) X) :
 if i = last then True else StepReq P ops pre org run Φ a0 w0 i :=
 step_intro ho hr fun ρ X h1 h2 h3 h4 h5 h6 => StepOk.of_run (h ρ X h1 h2 h3 h4 h5 h6) ⟨hΦ X, Below.refl _ _⟩
theorem stepO {P : Program} {ops : Array Oper} {pre org : Array (List Nat)} {run : Array Bool} {Φ : Nat → Value → World → Prop} {a0 : Act} {w0 : World} {i last : Nat} {o : Oper} (t : Nat) (v : Value) (ho : ops[i]? = some o) (hop : ∀ ρ X, (execOp ρ o).run P X = .ok (.value (ρ (.tmp t))) X) (hr : run.getD i false = true) (hΦ : ∀ X, Φ i v X) (ht : t ∈ org.getD i []) (hv : a0.tmps.getD t undef = v) :
 if i = last then True else StepReq P ops pre org run Φ a0 w0 i :=
 stepR v ho hr hΦ fun ρ X _ _ _ _ _ h => by rw [hop, h t ht, hv]
theorem stepP {P : Program} {ops : Array Oper} {pre org : Array (List Nat)} {run : Array Bool} {Φ : Nat → Value → World → Prop} {a0 : Act} {w0 : World} {i last : Nat} {o : Oper} (t j : Nat) (u v : Value) (ho : ops[i]? = some o) (hop : ∀ ρ X, (execOp ρ o).run P X = .ok (.value (ρ (.tmp t))) X) (hr : run.getD i false = true) (hΦ : ∀ X, Φ i v X) (hj : j ∈ pre.getD i []) (hd : (ops[j]?).bind (·.dst) = some t) (hu : ∀ u' X, Φ j u' X → u' = u) (hv : u = v) :
 if i = last then True else StepReq P ops pre org run Φ a0 w0 i :=
 stepR v ho hr hΦ fun ρ X _ _ _ _ h _ => by have := h j hj; rw [hd] at this; rw [hop, hu _ _ this, hv]
end Go.Proofs.YtoppcpiheaedlaaGreatDoor
end
section
/-
  The verifier's own kit, over whatever program: what a slice of bytes reads as ('Byt'), what a call owns ('Own'); conversions to strings, appends, literals, slices of slices of bytes, by what they read as.
-/
namespace Go.Proofs.YtoppcpiheaedlaaGreatDoor
open Go.RowKit
def bv (b : UInt8) : Value := .int .u8 (b.toNat : Int)
def Byt (W : World) (v : Value) (l : List UInt8) : Prop :=
 ∃ a cap, v = .slice a l.length cap ∧ l.length ≤ cap ∧ cap ≤ maxLen ∧ (a = none → cap = 0) ∧
  (l = [] ∨ ∃ b off, a = some ⟨b, off, none⟩ ∧ ∀ i, i < l.length → W.cell? ⟨b, off + i, none⟩ = some (bv (l.getD i 0)))
theorem Byt.grows {W W' : World} {v : Value} {l : List UInt8} (h : Byt W v l) (g : Grows W W') : Byt W' v l := by
 obtain ⟨a, cap, e, h1, h2, h3, h4⟩ := h
 refine ⟨a, cap, e, h1, h2, h3, h4.imp id ?_⟩
 rintro ⟨b, off, e, hc⟩
 exact ⟨b, off, e, fun i hi => Grows.cell' g (hc i hi)⟩
def BytL (W : World) (v : Value) (ls : List (List UInt8)) : Prop :=
 ∃ a cap, v = .slice a ls.length cap ∧ ls.length ≤ cap ∧ cap ≤ maxLen ∧ (a = none → cap = 0) ∧
  (ls = [] ∨ ∃ b off, a = some ⟨b, off, none⟩ ∧ ∀ i, i < ls.length → ∃ u, W.cell? ⟨b, off + i, none⟩ = some u ∧ Byt W u (ls.getD i []))
theorem BytL.grows {W W' : World} {v : Value} {ls : List (List UInt8)} (h : BytL W v ls) (g : Grows W W') : BytL W' v ls := by
 obtain ⟨a, cap, e, h1, h2, h3, h4⟩ := h
 refine ⟨a, cap, e, h1, h2, h3, h4.imp id ?_⟩
 rintro ⟨b, off, e, hc⟩
 refine ⟨b, off, e, fun i hi => ?_⟩
 obtain ⟨u, h5, h6⟩ := hc i hi
 exact ⟨u, Grows.cell' g h5, h6.grows g⟩
theorem BytL.slice {W : World} {v : Value} {ls : List (List UInt8)} (h : BytL W v ls) : ∃ a cap, v = .slice a ls.length cap := by
 obtain ⟨a, cap, e, _⟩ := h
 exact ⟨a, cap, e⟩
theorem BytL.lit (W : World) (e : TypeId) (vs : List Value) (ls : List (List UInt8)) (hn : vs.length = ls.length) (hm : ls.length ≤ maxLen) (h : ∀ i, i < ls.length → Byt W (vs.getD i undef) (ls.getD i [])) :
 BytL (W.alloc (.cells vs.toArray e)) (.slice (some ⟨W.heap.size, 0, none⟩) ls.length ls.length) ls := by
 refine ⟨_, _, rfl, Nat.le_refl _, hm, fun h => (by cases h), .inr ⟨_, _, rfl, fun i hi => ⟨vs.getD i undef, ?_, (h i hi).grows (Grows.alloc' _ _)⟩⟩⟩
 rw [World.cell?_alloc_at _ _ _ _ rfl]
 simp [List.getD, show i < vs.length by omega]
inductive Spec where
 | val (v : Value)
 | byt (l : List UInt8)
 | bytl (ls : List (List UInt8))
 | any
 | pred (p : Value → World → Prop) (h : ∀ v W W', Grows W W' → p v W → p v W')
def Spec.holds : Spec → Value → World → Prop
 | .val v, u, _ => u = v
 | .byt l, u, W => Byt W u l
 | .bytl ls, u, W => BytL W u ls
 | .any, _, _ => True
 | .pred p _, u, W => p u W
theorem Spec.grows {W W' : World} {v : Value} : ∀ {s : Spec}, Grows W W' → s.holds v W → s.holds v W'
 | .val _, _, h => h
 | .byt _, g, h => Byt.grows h g
 | .bytl _, g, h => BytL.grows h g
 | .any, _, _ => trivial
 | .pred _ h, g, hp => h _ _ _ g hp
def Spec.yields : Spec → Option (Option Bool)
 | .val v => some (boolOf v)
 | _ => none
theorem Spec.yields_holds {s : Spec} {y : Option Bool} (h : s.yields = some y) {v : Value} {W : World} (hv : s.holds v W) : boolOf v = y := by
 cases s with
 | val u =>
  obtain rfl : v = u := hv
  simpa [Spec.yields] using h
 | byt l => simp [Spec.yields] at h
 | bytl l => simp [Spec.yields] at h
 | any => simp [Spec.yields] at h
 | pred p q => simp [Spec.yields] at h
def phi (specs : Array Spec) (i : Nat) (v : Value) (W : World) : Prop := (specs.getD i Spec.any).holds v W
def guardChk (ops : Array Oper) (run : Array Bool) (specs : Array Spec) : Bool :=
 (List.range ops.size).all fun i => match ops[i]? with
  | none => true
  | some o => match o.guard with
   | none => true
   | some (g, b) => match (specs.getD g Spec.any).yields with
    | some y => (y == some b) == run.getD i false
    | none => false
theorem allReq_of {R : Nat → Prop} : ∀ {l : List Nat}, (∀ i ∈ l, R i) → AllReq R l
 | [], _ => trivial
 | i :: _, h => ⟨h i List.mem_cons_self, allReq_of fun j hj => h j (List.mem_cons_of_mem _ hj)⟩
theorem guards_ok {ops : Array Oper} {run : Array Bool} {specs : Array Spec} (h : guardChk ops run specs = true) : AllReq (GuardReq ops run (phi specs)) (List.range ops.size) := by
 refine allReq_of fun i hi => ?_
 have h1 := List.all_eq_true.1 h i hi
 unfold GuardReq
 cases ho : ops[i]? with
 | none => trivial
 | some o =>
  simp only [ho] at h1 ⊢
  cases hg : o.guard with
  | none => trivial
  | some gb =>
   obtain ⟨g, b⟩ := gb
   simp only [hg] at h1 ⊢
   intro v W hv
   cases hs : (specs.getD g Spec.any).yields with
   | none => rw [hs] at h1; cases h1
   | some c =>
    rw [hs] at h1
    rw [Spec.yields_holds hs hv]
    simpa using h1
theorem specs_region {P : Program} {ops : Array Oper} {a0 : Act} {w0 : World} {Q : Exit → Act → World → Prop} {id : Nat} (pre org : Array (List Nat)) (run : Array Bool) (specs : Array Spec) (hm : P.follows .mixedOrders = true) (hchk : regionChk ops a0.tmps.size ops.size pre org run = true)
 (hg : guardChk ops run specs = true)
 (hs : AllReq (fun i => if i = ops.size then True else StepReq P ops pre org run (phi specs) a0 w0 i) (List.range ops.size))
 (hQ : ∀ a W, AllBut ops ops.size (phi specs) a0 w0 a W → Q .normal a W) :
 (Code.region id ops true).wp P Q a0 w0 :=
 wp_region_facts pre org run (phi specs) hm hchk (fun _ _ _ _ g h => Spec.grows g h) (guards_ok hg) hs hQ
theorem specs_last {P : Program} {ops : Array Oper} {a0 : Act} {w0 : World} {Q : Exit → Act → World → Prop} {id : Nat} (last : Nat) (pre org : Array (List Nat)) (run : Array Bool) (specs : Array Spec) (hm : P.follows .mixedOrders = true) (hchk : regionChk ops a0.tmps.size last pre org run = true)
 (hg : guardChk ops run specs = true) {o : Oper} (ho : ops[last]? = some o)
 (hs : AllReq (fun i => if i = last then True else StepReq P ops pre org run (phi specs) a0 w0 i) (List.range ops.size))
 (hlast : ∀ a W, AllBut ops last (phi specs) a0 w0 a W → StepOk P o a.eval W (fun v W' => Q .normal (a.put o.dst v) W')) :
 (Code.region id ops true).wp P Q a0 w0 :=
 wp_region_facts_last last pre org run (phi specs) hm hchk (fun _ _ _ _ g h => Spec.grows g h) (guards_ok hg) hs (fun o' ho' => by rw [ho] at ho'; obtain rfl := Option.some.inj ho'; exact hlast) (fun h => by have := (Array.getElem?_eq_some_iff.1 ho).1; omega)
def Own (e : TypeId) (B : Nat) (W : World) (v : Value) (l : List UInt8) : Prop := W.ownsRow B e 1 v l.length (l.map bv)
theorem Own.byt {e : TypeId} {B : Nat} {W : World} {v : Value} {l : List UInt8} (h : Own e B W v l) : Byt W v l := by
 rcases h.2 with ⟨rfl, h0⟩ | ⟨g, cap, cur, rfl, hb, hg, hn, hm, hs, ht⟩
 · have : l = [] := List.eq_nil_of_length_eq_zero h0
   subst this
   exact ⟨none, 0, rfl, Nat.le_refl _, by simp [maxLen], fun _ => rfl, .inl rfl⟩
 · refine ⟨some ⟨g, 0, none⟩, cap, rfl, hn, hm, fun h => (by cases h), .inr ⟨g, 0, rfl, fun i hi => ?_⟩⟩
   rw [cell_of_row W g (0 + i) cur e (0, 0) hg]
   have h1 : (cur.toList.take (l.length * 1))[i]? = (l.map bv)[i]? := by rw [ht]
   rw [List.getElem?_take, if_pos (by omega)] at h1
   rw [Nat.zero_add, ← Array.getElem?_toList, h1]
   simp [hi, List.getD]
theorem Own.grows {e : TypeId} {B : Nat} {W W' : World} {v : Value} {l : List UInt8} (h : Own e B W v l) (g : Grows W W') : Own e B W' v l := by
 refine ⟨h.1, ?_⟩
 rcases h.2 with h' | ⟨b, cap, cur, e1, hb, hg, rest⟩
 · exact .inl h'
 · exact .inr ⟨b, cap, cur, e1, hb, (g.block b (Array.getElem?_eq_some_iff.1 hg).1).trans hg, rest⟩
theorem Own.mono {e : TypeId} {B B' : Nat} {W : World} {v : Value} {l : List UInt8} (h : Own e B W v l) (hB : B' ≤ B) : Own e B' W v l := by
 refine ⟨h.1, ?_⟩
 rcases h.2 with h' | ⟨b, cap, cur, e1, hb, rest⟩
 · exact .inl h'
 · exact .inr ⟨b, cap, cur, e1, by omega, rest⟩
theorem Own.nil (e : TypeId) (B : Nat) (W : World) : Own e B W (.slice none 0 0) [] := World.ownsRow_nil _ _ _ _
theorem Byt.nil (W : World) : Byt W (.slice none 0 0) [] := ⟨none, 0, rfl, Nat.le_refl _, by simp [maxLen], fun _ => rfl, .inl rfl⟩
theorem Byt.len {W : World} {a : Option Addr} {n cap : Nat} {l : List UInt8} (h : Byt W (.slice a n cap) l) : n = l.length := by
 obtain ⟨_, _, e, _⟩ := h
 simp at e
 exact e.2.1
theorem Byt.cell {W : World} {b off n cap : Nat} {l : List UInt8} (h : Byt W (.slice (some ⟨b, off, none⟩) n cap) l) (i : Nat) (hi : i < l.length) : W.cell? ⟨b, off + i, none⟩ = some (bv (l.getD i 0)) := by
 obtain ⟨a, c, e, _, _, _, h4⟩ := h
 simp at e
 rcases h4 with rfl | ⟨b', off', ha, hc⟩
 · simp at hi
 · have := e.1.trans ha
   simp at this
   obtain ⟨rfl, rfl⟩ := this
   exact hc i hi
theorem Own.lit (e : TypeId) (B : Nat) (W : World) (l : List UInt8) (hB : B ≤ W.heap.size) (hl : l.length ≤ maxLen) :
 Own e B (W.alloc (.cells (l.map bv).toArray e)) (.slice (some ⟨W.heap.size, 0, none⟩) l.length l.length) l := by
 have := World.ownsRow_lit (base := B) (e := e) (size := 1) W (l.map bv).toArray l.length hB hl (by simp)
 simpa [Own] using this
section
variable {P : Program} {T e S : TypeId}
theorem loadCells_byt {W : World} {b off n : Nat} {l : List UInt8} (hn : n = l.length) (hc : ∀ i, i < l.length → W.cell? ⟨b, off + i, none⟩ = some (bv (l.getD i 0))) :
 (loadCells ⟨b, off, none⟩ n).run P W = .ok (l.map bv).toArray W := by
 have := run_loadCells_list (P := P) W ⟨b, off, none⟩ (l.map bv) (fun j v hv => by
  have hj : j < l.length := by simpa using (List.getElem?_eq_some_iff.1 hv).1
  rw [Addr.add_lit, hc j hj]
  simpa [hj, List.getD] using hv)
 simpa [hn] using this
theorem foldl_push (l : List UInt8) : ∀ (s : ByteArray), (l.map fun b => (b.toNat : Int)).foldl (fun r n => r.push (UInt8.ofNat n.toNat)) s = ⟨s.data ++ l.toArray⟩ := by
 induction l with
 | nil => intro s; simp
 | cons b l ih =>
  intro s
  simp only [List.map_cons, List.foldl_cons, ih]
  congr 1
  apply Array.ext'
  simp [ByteArray.push]
theorem run_string {W : World} {v : Value} {l : List UInt8} (hT : P.underlying T = some (.slice e)) (he : P.underlying e = some (.int .u8)) (hS : P.underlying S = some .string) (h : Byt W v l) :
 (convert T S v).run P W = .ok (.string ⟨l.toArray⟩) W := by
 obtain ⟨a, cap, rfl, h1, h2, h3, h4⟩ := h
 rw [run_convert_bytes_string W T S e a l.length cap hT he hS]
 cases a with
 | none =>
  have hl : l = [] := by
   have := h3 rfl
   exact List.eq_nil_of_length_eq_zero (by omega)
  subst hl
  rfl
 | some x =>
  rcases h4 with rfl | ⟨b, off, hx, hc⟩
  · have hload : (loadCells x 0).run P W = .ok (([] : List Int).map (Value.int .u8)).toArray W := by
     have := run_loadCells_list (P := P) W x [] (fun j v hv => by simp at hv)
     simpa using this
    rw [show ([] : List UInt8).length = 0 from rfl, run_bytesToString W x 0 cap [] hload]
    rfl
  · obtain rfl := Option.some.inj hx
    have hload := loadCells_byt (P := P) (W := W) (b := b) (off := off) (n := l.length) (l := l) rfl hc
    rw [run_bytesToString W _ l.length cap (l.map fun b => (b.toNat : Int)) (by rw [hload]; simp [bv, Function.comp_def])]
    rw [foldl_push]
    refine congrArg (fun x => Result.ok (Value.string x) W) ?_
    apply congrArg ByteArray.mk
    simp [ByteArray.empty, ByteArray.emptyWithCapacity]
    rfl
theorem run_app {W : World} {ty : TypeId} {i : TypeInfo} {B : Nat} {v x : Value} {l m : List UInt8} (hT : P.underlying T = some (.slice e)) (hi : P.info? e = some i) (hz : i.zero = some (.int .u8 0)) (hs : i.size = 1) (hb : i.bytes = 1)
 (hv : Own e B W v l) (hx : Byt W x m) (hlen : l.length + m.length ≤ 140737488355328) (hB : B ≤ W.heap.size) :
 ∃ v' W', (Builtin.append_ #[T, T] ty #[v, x]).run P W = .ok v' W' ∧ Own e B W' v' (l ++ m) ∧ W.grownBy W' v.ownBlock := by
 obtain ⟨a, cap, rfl, h1, h2, h3, h4⟩ := hx
 cases a with
 | none =>
  have hl : m = [] := by
   have := h3 rfl
   exact List.eq_nil_of_length_eq_zero (by omega)
  obtain rfl := h3 rfl
  subst hl
  exact ⟨v, W, run_append_owned_none W B T ty e i 1 hT hi v l.length _ hv, by simpa using hv, ⟨rfl, rfl, rfl, Nat.le_refl _, fun _ _ _ => rfl⟩⟩
 | some x =>
  obtain ⟨v', W', hr, ho, hg, _⟩ := run_append_own (P := P) W B T ty e i (.int .u8 0) 1 1 hT hi hz hs hb rfl (by decide) v l.length (l.map bv) hv x m.length cap (m.map bv) (by simp)
   (fun j u hu => by
    have hj : j < m.length := by simpa using (List.getElem?_eq_some_iff.1 hu).1
    rcases h4 with rfl | ⟨b, off, hx, hc⟩
    · simp at hj
    · obtain rfl := Option.some.inj hx
      rw [Addr.add_lit, hc j hj]
      simpa [hj, List.getD] using hu)
   (fun u hu => by
    obtain ⟨b, _, rfl⟩ := List.mem_map.1 hu
    rfl)
   (by simp [maxLen]; omega) (by omega) hB
  exact ⟨v', W', hr, by simpa [Own] using ho, hg⟩
end
theorem Own.alloc {e : TypeId} {B : Nat} {W : World} {v : Value} {l : List UInt8} (h : Own e B W v l) (o : Obj) : Own e B (W.alloc o) v l := h.grows (Grows.alloc' W o)
theorem grows_app {e : TypeId} {B : Nat} {W0 W w1 : World} {v : Value} {l : List UInt8} (hB : Below B W0 W) (hown : Own e B W v l) (hs : B ≤ W.heap.size) (hg : W.grownBy w1 v.ownBlock) : Below B W0 w1 :=
 hB.grown hg hs fun j hj => (World.ownsRow.lt hown j hj).1
theorem wpList_conv {P : Program} {W : World} {ops : Array Oper} {rest : List Oper} {o : Oper} {a : Act} {Q : Exit → Act → World → Prop} (hgd : Region.wanted o (yielded ops a.tmps) = true) (x : Operand) (T e S : TypeId)
 (ho : o.op = .convert T S x) (hT : P.underlying T = some (.slice e)) (he : P.underlying e = some (.int .u8)) (hS : P.underlying S = some .string)
 (v : Value) (l : List UInt8) (hx : a.eval x = v) (hv : Byt W v l)
 (hK : wpList P ops Q rest (a.put o.dst (.string ⟨l.toArray⟩)) W) : wpList P ops Q (o :: rest) a W := by
 refine wpList_step fun K hK' => ?_
 rw [if_pos hgd]
 have hr := run_string (P := P) hT he hS hv
 unfold Oper.wp execOp
 simp only [ho, hx, Sem.run_bind, Sem.run_pure, hr, Result.andThen_ok, Oper.upon]
 exact hK' _ _ hK
theorem wpList_app {P : Program} {W : World} {ops : Array Oper} {rest : List Oper} {o : Oper} {a : Act} {Q : Exit → Act → World → Prop} (hgd : o.guard = none) (s x : Operand) (T e : TypeId) (i : TypeInfo)
 (ho : o.op = .call { callee := .builtin .append, args := #[s, x], argTypes := #[T, T] })
 (hT : P.underlying T = some (.slice e)) (hi : P.info? e = some i) (hz : i.zero = some (.int .u8 0)) (hs : i.size = 1) (hb : i.bytes = 1)
 (B : Nat) (v u : Value) (l m : List UInt8) (hv : a.eval s = v) (hown : Own e B W v l) (hx : a.eval x = u) (hu : Byt W u m)
 (hlen : l.length + m.length ≤ 140737488355328) (hB : B ≤ W.heap.size)
 (hK : ∀ v' W', Own e B W' v' (l ++ m) → W.grownBy W' v.ownBlock → wpList P ops Q rest (a.put o.dst v') W') : wpList P ops Q (o :: rest) a W := by
 refine wpList_plain hgd fun K hK' => ?_
 obtain ⟨v', W', hr, h1, h2⟩ := run_app (ty := o.type) hT hi hz hs hb hown hu hlen hB
 unfold Oper.wp execOp
 simp only [ho, resolve, invoke, builtin, Sem.run_bind, Sem.run_pure, Result.andThen_ok, List.map_toArray, List.map_cons, List.map_nil, hv, hx, hr]
 exact hK' _ _ (hK v' W' h1 h2)
theorem byt_of_row {w : World} {a : Option Addr} {len cap : Nat} {zs : List Int}
 (h : (a = none ∧ len = 0 ∧ cap = 0 ∧ zs = []) ∨
  ∃ x, a = some x ∧ len ≤ cap ∧ cap ≤ maxLen ∧ zs.length = cap ∧ (∀ i, i < zs.length → w.cell? (x.add i) = some (.int .u8 (zs.getD i 0))) ∧ ∀ n ∈ zs, (Lit.int .u8 n).wf = true) :
 ∃ l : List UInt8, len = l.length ∧ Byt w (.slice a len cap) l := by
 rcases h with ⟨rfl, rfl, rfl, rfl⟩ | ⟨x, rfl, h1, h2, h3, h4, h5⟩
 · exact ⟨[], rfl, Byt.nil w⟩
 · refine ⟨(zs.take len).map fun z => UInt8.ofNat z.toNat, by simp; omega, ?_⟩
   have hl : ((zs.take len).map fun z => UInt8.ofNat z.toNat).length = len := by simp; omega
   refine ⟨some x, cap, by rw [hl], by omega, h2, fun h => (by cases h), ?_⟩
   by_cases h0 : len = 0
   · left; subst h0; simp
   · right
     obtain ⟨b, off, spot⟩ := x
     have hc := h4 0 (by omega)
     have hspot : spot = none := by simpa [Addr.add] using World.cell?_spot hc
     subst hspot
     refine ⟨b, off, rfl, fun i hi => ?_⟩
     rw [hl] at hi
     have hci := h4 i (by omega)
     rw [Addr.add_lit] at hci
     rw [hci]
     have hm : zs.getD i 0 ∈ zs := by
      rw [List.getD, List.getElem?_eq_getElem (by omega), Option.getD_some]
      exact List.getElem_mem _
     have hwf := h5 _ hm
     have hb : 0 ≤ zs.getD i 0 ∧ zs.getD i 0 < 256 := by
      simp [Lit.wf, IntKind.min, IntKind.max, IntKind.bits, IntKind.signed] at hwf
      simp [List.getD] at *
      omega
     have e1 : ((zs.take len).map fun z => UInt8.ofNat z.toNat).getD i 0 = UInt8.ofNat (zs.getD i 0).toNat := by
      simp [List.getD, hi, show i < zs.length by omega]
     rw [e1]
     unfold bv
     congr 2
     rw [UInt8.toNat_ofNat']
     omega
end Go.Proofs.YtoppcpiheaedlaaGreatDoor
end
section
/-
  Small laws that every stage's walks use: what a byte's type is, slices that read as lists, the end of a law's body.
-/
namespace Go.Proofs.YtoppcpiheaedlaaGreatDoor
open Go.RowKit
set_option linter.unusedVariables false
set_option linter.unusedSimpArgs false
theorem take_snoc (l : List UInt8) (k : Nat) (hk : k < l.length) : l.take (k + 1) = l.take k ++ [l.getD k 0] := by
 rw [List.take_succ_eq_append_getElem hk]; simp [List.getD, hk]
theorem info5 : (Tryz.prog.info? 5).map (fun i => (i.zero, i.size, i.bytes)) = some (some (.int .u8 0), 1, 1) := by kernel_rfl
theorem own_snoc {e : TypeId} {B : Nat} {W : World} {v : Value} {n : Nat} {xs : List Value} {l : List UInt8} (h : W.ownsRow B e 1 v n xs) (hn : n = l.length) (hx : xs = l.map bv) : Own e B W v l := by
 subst hn; subst hx; exact h
theorem Own.empty (e : TypeId) (B : Nat) (W : World) (hB : B ≤ W.heap.size) : Own e B (W.alloc (.cells #[] e)) (.slice (some ⟨W.heap.size, 0, none⟩) 0 0) [] := by
 have := Own.lit e B W [] hB (by simp)
 simpa using this
theorem Byt.slice {W : World} {v : Value} {l : List UInt8} (h : Byt W v l) : ∃ a cap, v = .slice a l.length cap := by
 obtain ⟨a, cap, e, _⟩ := h
 exact ⟨a, cap, e⟩
theorem Own.form {e : TypeId} {B : Nat} {W : World} {v : Value} {l : List UInt8} (h : Own e B W v l) (hn : 0 < l.length) : ∃ g cap, v = .slice (some ⟨g, 0, none⟩) l.length cap ∧ B ≤ g := by
 rcases h.2 with ⟨_, h0⟩ | ⟨g, cap, _, hv, hg, _⟩
 · omega
 · exact ⟨g, cap, hv, hg⟩
theorem Own.cell {e : TypeId} {B : Nat} {W : World} {g n cap : Nat} {l : List UInt8} (h : Own e B W (.slice (some ⟨g, 0, none⟩) n cap) l) (j : Nat) (hj : j < l.length) : W.cell? ⟨g, j, none⟩ = some (bv (l.getD j 0)) := by
 have hn : n = l.length := h.byt.len
 subst hn
 rw [World.ownsRow.cellAt h j (by omega)]
 simp [List.getD, hj]
theorem Own.unfrozen {e : TypeId} {B : Nat} {W : World} {g n cap : Nat} {l : List UInt8} (h : Own e B W (.slice (some ⟨g, 0, none⟩) n cap) l) (j : Nat) : W.frozen? ⟨g, j, none⟩ = false := by
 have hn : n = l.length := h.byt.len
 subst hn
 exact World.ownsRow.frozenAt h j
theorem Own.store {e : TypeId} {B : Nat} {W : World} {g n cap : Nat} {l : List UInt8} (h : Own e B W (.slice (some ⟨g, 0, none⟩) n cap) l) (j : Nat) (d : UInt8) : Own e B (W.setCell ⟨g, j, none⟩ (bv d)) (.slice (some ⟨g, 0, none⟩) n cap) (l.set j d) := by
 have hn : n = l.length := h.byt.len
 subst hn
 have := (World.ownsRow.stored h j (bv d)).1
 unfold Own
 rw [List.length_set, List.map_set]
 exact this
theorem row_setCell {w : World} {b : Nat} {cs : Array Value} {t : TypeId} (h : w.heap[b]? = some (.cells cs t (0, 0))) (i : Nat) (u : Value) : (w.setCell ⟨b, i, none⟩ u).heap[b]? = some (.cells (cs.setIfInBounds i u) t (0, 0)) := by
 have hlt : b < w.heap.size := by
  rcases Nat.lt_or_ge b w.heap.size with h' | h'
  · exact h'
  · simp [Array.getElem?_eq_none h'] at h
 have h' : w.heap[b] = .cells cs t (0, 0) := by simpa [Array.getElem?_eq_getElem hlt] using h
 show (w.heap.modify b _)[b]? = _
 rw [Array.getElem?_eq_getElem (by simpa using hlt), Array.getElem_modify_self, h']
 rfl
theorem Grows.heap' {a b : World} (g : Grows a b) {k : Nat} {o : Obj} (h : a.heap[k]? = some o) : b.heap[k]? = some o := (g.block k (Array.getElem?_eq_some_iff.1 h).1).trans h
theorem run_allocT {P : Program} (w : World) (T : TypeId) (i : TypeInfo) (z : Value) (hi : P.info? T = some i) (hz : i.zero = some z) :
 (Instr.alloc T true (.tuple #[])).run P w = .ok (.pointer (some ⟨w.heap.size, 0, none⟩)) (w.alloc (.cells z.cells T)) := by
 simp [Instr.alloc, zeroValue, typeInfo, hi, hz, newVar, newRow]
theorem wpList_allocT {P : Program} {w : World} {ops : Array Oper} {rest : List Oper} {o : Oper} {a : Act} {Q : Exit → Act → World → Prop} (hgd : o.guard = none) (T : TypeId) (ho : o.op = .alloc T)
 (cs : Array Value) (hz : ((P.info? T).bind (fun i => i.zero)).map (fun z => z.cells) = some cs)
 (h : wpList P ops Q rest (a.put o.dst (.pointer (some ⟨w.heap.size, 0, none⟩))) (w.alloc (.cells cs T))) : wpList P ops Q (o :: rest) a w := by
 cases hi : P.info? T with
 | none => rw [hi] at hz; simp at hz
 | some i =>
  cases hzz : i.zero with
  | none => rw [hi] at hz; simp [hzz] at hz
  | some z =>
   rw [hi] at hz
   have hcz : z.cells = cs := by
    simp only [Option.bind_some, hzz, Option.map_some] at hz
    exact Option.some.inj hz
   refine wpList_plain hgd fun K hK => ?_
   unfold Oper.wp execOp
   simp only [ho, Sem.run_bind, Sem.run_pure, run_allocT w T i z hi hzz, Result.andThen_ok]
   rw [hcz]
   exact hK _ _ h
theorem wpList_storeT {P : Program} {w : World} {ops : Array Oper} {rest : List Oper} {o : Oper} {a : Act} {Q : Exit → Act → World → Prop} (hgd : o.guard = none) (ty : TypeId) (x y : Operand) (ho : o.op = .store ty x y)
 (g : Nat) (t : TypeId) (old cells : Array Value) (hx : a.eval x = .pointer (some ⟨g, 0, none⟩)) (hy : a.eval y = .agg cells) (hg : w.heap[g]? = some (.cells old t (0, 0))) (hi : (P.info? ty).map (·.size) = some cells.size)
 (hs : old.size = cells.size) (h1 : cells.all (·.oneCell') = true)
 (h : wpList P ops Q rest (a.put o.dst undef) (w.setRow g cells)) : wpList P ops Q (o :: rest) a w := by
 refine wpList_plain hgd fun K hK => ?_
 unfold Oper.wp execOp
 simp only [ho, hx, hy, Instr.storeAt, Instr.sureAddr, Sem.run_bind, Sem.run_pure, Result.andThen_ok, run_storeVar_row w g t ty old cells hg hi hs h1]
 exact hK _ _ h
theorem wpList_boxT {P : Program} {w : World} {ops : Array Oper} {rest : List Oper} {o : Oper} {a : Act} {Q : Exit → Act → World → Prop} (hgd : o.guard = none) (T : TypeId) (x : Operand) (ho : o.op = .box T x) (cs : Array Value) (hx : a.eval x = .agg cs)
 (h : wpList P ops Q rest (a.put o.dst (.pointer (some ⟨w.heap.size, 0, none⟩))) (w.alloc (.cells cs T))) : wpList P ops Q (o :: rest) a w := by
 refine wpList_plain hgd fun K hK => ?_
 unfold Oper.wp execOp
 simp only [ho, hx, Instr.box, newVar, newRow, Value.cells, Sem.run_bind, Sem.run_pure, Result.andThen_ok]
 exact hK _ _ h
end Go.Proofs.YtoppcpiheaedlaaGreatDoor
end
section
/-
  Regions whose order is drawn, by one fact an operation, over whatever relation of worlds: for a region that writes to a block in more than one of its operations.
-/
namespace Go.Proofs.YtoppcpiheaedlaaGreatDoor
open Go.RowKit
structure ExtOk (E : World → World → Prop) : Prop where
 refl : ∀ w, E w w
 trans : ∀ {a b c}, E a b → E b c → E a c
 drew : ∀ w, E w { w with drawn := w.drawn + 1 }
section
variable {P : Program} {ops : Array Oper} {pre org : Array (List Nat)} {run : Array Bool} {Φ : Nat → Value → World → Prop} {a0 : Act} {w0 : World} {Q : Exit → Act → World → Prop} {E : World → World → Prop}
structure AllButE (E : World → World → Prop) (ops : Array Oper) (last : Nat) (Φ : Nat → Value → World → Prop) (a0 : Act) (w0 : World) (a : Act) (W : World) : Prop where
 ext : E w0 W
 defers : a.defers = a0.defers
 size : a.tmps.size = a0.tmps.size
 done : ∀ i o d, i ≠ last → ops[i]? = some o → o.dst = some d → Φ i (a.tmps.getD d undef) W
 mute : ∀ (i : Nat) (o : Oper), i ≠ last → ops[i]? = some o → ∃ v, Φ i v W
 orig : ∀ t, (∀ (i : Nat) (o : Oper), i ≠ last → ops[i]? = some o → o.dst ≠ some t) → a.tmps.getD t undef = a0.tmps.getD t undef
theorem AllButE.done' {last : Nat} {a : Act} {W : World} (h : AllButE E ops last Φ a0 w0 a W) (i : Nat) (t : Tmp) (hi : (i != last) = true) (ho : (ops[i]?).bind (·.dst) = some t) : Φ i (a.tmps.getD t undef) W := by
 cases hoi : ops[i]? with
 | none => simp [hoi] at ho
 | some o => exact h.done i o t (by simpa using hi) hoi (by simpa [hoi] using ho)
end
end Go.Proofs.YtoppcpiheaedlaaGreatDoor
end
section
/-
  Regions whose order is drawn and in which a state is written: facts of the state that an operation makes and another one ends.
-/
namespace Go.Proofs.YtoppcpiheaedlaaGreatDoor
open Go.RowKit
structure StateK where
 Ψ : Nat → World → Prop
 made : Array (Option Nat)
 kl : Array (List Nat)
 use : Array (List Nat)
 muts : List Nat
def StateK.rel (T : StateK) (E : World → World → Prop) (i : Nat) (W W' : World) : Prop := if T.muts.contains i then E W W' else Grows W W'
def StateK.chk (T : StateK) (n : Nat) (pre : Array (List Nat)) : Bool :=
 (List.range n).all fun i => (T.use.getD i []).all fun s => (match T.made.getD s none with | none => true | some j => (pre.getD i []).contains j) && (T.kl.getD s []).all fun k => k == i || (pre.getD k []).contains i
structure RInvK (E : World → World → Prop) (T : StateK) (ops : Array Oper) (last : Nat) (pre : Array (List Nat)) (Φ : Nat → Value → World → Prop) (a0 : Act) (w0 : World) (S : Array Bool) (a : Act) (w : World) : Prop where
 ext : E w0 w
 defers : a.defers = a0.defers
 size : a.tmps.size = a0.tmps.size
 done : ∀ i o d, S.getD i false = true → ops[i]? = some o → o.dst = some d → Φ i (a.tmps.getD d undef) w
 mute : ∀ (i : Nat) (o : Oper), S.getD i false = true → ops[i]? = some o → ∃ v, Φ i v w
 stat : ∀ s, (∀ j, T.made.getD s none = some j → S.getD j false = true) → (∀ k ∈ T.kl.getD s [], S.getD k false = false) → T.Ψ s w
 orig : ∀ t, (∀ i o, S.getD i false = true → ops[i]? = some o → o.dst ≠ some t) → a.tmps.getD t undef = a0.tmps.getD t undef
 clo : ∀ i, S.getD i false = true → ∀ j ∈ pre.getD i [], S.getD j false = true
 still : S.getD last false = false
def StepReqK (E : World → World → Prop) (T : StateK) (P : Program) (ops : Array Oper) (pre org : Array (List Nat)) (run : Array Bool) (Φ : Nat → Value → World → Prop) (a0 : Act) (w0 : World) (i : Nat) : Prop :=
 match ops[i]? with
 | none => True
 | some o => ∀ (ρ : Operand → Value) (W : World), (∀ v, ρ (.const v) = v) → (∀ f, ρ (.func f) = .func (.func f) #[] #[]) → (∀ g, ρ (.global g) = .pointer (some ⟨g, 0, none⟩)) → E w0 W →
  (∀ j ∈ pre.getD i [], match (ops[j]?).bind (·.dst) with | some d => Φ j (ρ (.tmp d)) W | none => True) →
  (∀ t ∈ org.getD i [], ρ (.tmp t) = a0.tmps.getD t undef) →
  (∀ s ∈ T.use.getD i [], T.Ψ s W) →
  (if run.getD i false then StepOk P o ρ W (fun v W' => Φ i v W' ∧ T.rel E i W W' ∧ ∀ s, T.made.getD s none = some i → T.Ψ s W') else Φ i undef W ∧ ∀ s, T.made.getD s none = some i → T.Ψ s W)
theorem step_introK {E : World → World → Prop} {T : StateK} {P : Program} {ops : Array Oper} {pre org : Array (List Nat)} {run : Array Bool} {Φ : Nat → Value → World → Prop} {a0 : Act} {w0 : World} {i last : Nat} {o : Oper} (ho : ops[i]? = some o) (hr : run.getD i false = true)
 (h : ∀ (ρ : Operand → Value) (W : World), (∀ v, ρ (.const v) = v) → (∀ f, ρ (.func f) = .func (.func f) #[] #[]) → (∀ g, ρ (.global g) = .pointer (some ⟨g, 0, none⟩)) → E w0 W →
  (∀ j ∈ pre.getD i [], match (ops[j]?).bind (·.dst) with | some d => Φ j (ρ (.tmp d)) W | none => True) →
  (∀ t ∈ org.getD i [], ρ (.tmp t) = a0.tmps.getD t undef) → (∀ s ∈ T.use.getD i [], T.Ψ s W) → StepOk P o ρ W (fun v W' => Φ i v W' ∧ T.rel E i W W' ∧ ∀ s, T.made.getD s none = some i → T.Ψ s W')) :
 if i = last then True else StepReqK E T P ops pre org run Φ a0 w0 i := by
 split
 · trivial
 · unfold StepReqK
   rw [ho]
   intro ρ W hc hf hgl hW hp hq hu
   rw [if_pos hr]
   exact h ρ W hc hf hgl hW hp hq hu
section
variable {P : Program} {ops : Array Oper} {pre org : Array (List Nat)} {run : Array Bool} {Φ : Nat → Value → World → Prop} {a0 : Act} {w0 : World} {Q : Exit → Act → World → Prop} {E : World → World → Prop} {T : StateK}
structure AllButK (E : World → World → Prop) (T : StateK) (ops : Array Oper) (last : Nat) (Φ : Nat → Value → World → Prop) (a0 : Act) (w0 : World) (a : Act) (W : World) : Prop where
 ext : E w0 W
 defers : a.defers = a0.defers
 size : a.tmps.size = a0.tmps.size
 done : ∀ i o d, i ≠ last → ops[i]? = some o → o.dst = some d → Φ i (a.tmps.getD d undef) W
 mute : ∀ (i : Nat) (o : Oper), i ≠ last → ops[i]? = some o → ∃ v, Φ i v W
 stat : ∀ s, (∀ j, T.made.getD s none = some j → j < ops.size ∧ j ≠ last) → T.kl.getD s [] = [] → T.Ψ s W
 orig : ∀ t, (∀ (i : Nat) (o : Oper), i ≠ last → ops[i]? = some o → o.dst ≠ some t) → a.tmps.getD t undef = a0.tmps.getD t undef
theorem facts_anyK (hE : ExtOk E) {opP : Nat → (Act → World → Prop) → Act → World → Prop} {Qn : Act → World → Prop} {last : Nat} (hop : OpRule P ops opP) (hchk : regionChk ops a0.tmps.size last pre org run = true)
 (hst : ∀ i v W W', E W W' → Φ i v W → Φ i v W') (hEG : ∀ {a b}, Grows a b → E a b)
 (hks : ∀ i s W W', i ∉ T.kl.getD s [] → T.made.getD s none ≠ some i → T.rel E i W W' → T.Ψ s W → T.Ψ s W') (hkd : T.chk ops.size pre = true)
 (hg : AllReq (GuardReq ops run Φ) (List.range ops.size))
 (hs : AllReq (fun i => if i = last then True else StepReqK E T P ops pre org run Φ a0 w0 i) (List.range ops.size))
 (hlast : ∀ o, ops[last]? = some o → ∀ a W, AllButK E T ops last Φ a0 w0 a W → StepOk P o a.eval W (fun v W' => Qn (a.put o.dst v) W'))
 (hQ : ops.size ≤ last → ∀ a W, AllButK E T ops last Φ a0 w0 a W → Qn a W) :
 ∀ (fuel : Nat) (S : Array Bool) (a : Act) (W : World), S.size = ops.size → S.count false ≤ fuel → RInvK E T ops last pre Φ a0 w0 S a W → anyOf ops opP Qn fuel S a W := by
 simp only [regionChk, Bool.and_eq_true] at hchk
 obtain ⟨⟨hlast1, hlast2⟩, hchk⟩ := hchk
 have hall : ∀ (i : Nat) (o : Oper), ops[i]? = some o → _ := fun i o ho => List.all_eq_true.1 hchk i (List.mem_range.2 (Array.getElem?_eq_some_iff.1 ho).1)
 have hback : ∀ (i : Nat) (o : Oper), ops[i]? = some o → ∀ e ∈ o.after, Region.binds .any e = true → e.on < i := fun i o ho e he hb => by
  have h := hall i o ho
  simp only [ho, Bool.and_eq_true] at h
  have h1 := List.all_eq_true.1 h.1.1.1.1 e (Array.mem_toList_iff.2 he)
  simpa [hb] using h1
 have hdst : ∀ (i : Nat) (o : Oper) (d : Nat), ops[i]? = some o → o.dst = some d → d < a0.tmps.size ∧ ∀ (j : Nat) (oj : Oper), ops[j]? = some oj → j ≠ i → oj.dst ≠ some d := fun i o d ho hd => by
  have h := hall i o ho
  simp only [ho, Bool.and_eq_true, hd] at h
  have h1 := h.1.1.1.2
  refine ⟨of_decide_eq_true h1.1, fun j oj hj hne => ?_⟩
  have h2 := List.all_eq_true.1 h1.2 j (List.mem_range.2 (Array.getElem?_eq_some_iff.1 hj).1)
  simpa [hj, hne] using h2
 have hpre : ∀ (i : Nat) (o : Oper), ops[i]? = some o → ∀ j ∈ pre.getD i [], ∃ e ∈ o.after, Region.binds .any e = true ∧ (e.on = j ∨ j ∈ pre.getD e.on []) := fun i o ho j hj => by
  have h := hall i o ho
  simp only [ho, Bool.and_eq_true] at h
  have h1 := List.all_eq_true.1 h.1.1.2 j hj
  obtain ⟨e, he, hb⟩ := List.any_eq_true.1 h1
  simp only [Bool.and_eq_true, Bool.or_eq_true, beq_iff_eq, List.contains_iff_mem] at hb
  exact ⟨e, Array.mem_toList_iff.1 he, hb.1, hb.2⟩
 have horg : ∀ (i : Nat) (o : Oper), ops[i]? = some o → ∀ t ∈ org.getD i [], ∀ (j : Nat) (oj : Oper), ops[j]? = some oj → oj.dst = some t → j = i ∨ i ∈ pre.getD j [] := fun i o ho t ht j oj hj hd => by
  have h := hall i o ho
  simp only [ho, Bool.and_eq_true] at h
  have h1 := List.all_eq_true.1 (List.all_eq_true.1 h.1.2 t ht) j (List.mem_range.2 (Array.getElem?_eq_some_iff.1 hj).1)
  simp only [hj, hd, Bool.or_eq_true, bne_self_eq_false, Bool.false_eq_true, false_or, beq_iff_eq, List.contains_iff_mem] at h1
  exact h1
 have hguard : ∀ (i : Nat) (o : Oper) (g : Nat) (b : Bool), ops[i]? = some o → o.guard = some (g, b) → (∃ e ∈ o.after, Region.binds .any e = true ∧ e.on = g) ∧ ∃ og d, ops[g]? = some og ∧ og.dst = some d := fun i o g b ho hgd => by
  have h := hall i o ho
  simp only [ho, Bool.and_eq_true, hgd] at h
  obtain ⟨h1, h2⟩ := h.2
  obtain ⟨e, he, hb⟩ := List.any_eq_true.1 h1
  simp only [Bool.and_eq_true, beq_iff_eq] at hb
  refine ⟨⟨e, Array.mem_toList_iff.1 he, hb.1, hb.2⟩, ?_⟩
  cases hog : ops[g]? with
  | none => simp [hog] at h2
  | some og =>
   simp [hog] at h2
   obtain ⟨d, hd⟩ := Option.isSome_iff_exists.1 h2
   exact ⟨og, d, rfl, hd⟩
 have hrun0 : ∀ (i : Nat) (o : Oper), ops[i]? = some o → o.guard = none → run.getD i false = true := fun i o ho hgd => by
  have h := hall i o ho
  simp only [ho, Bool.and_eq_true, hgd] at h
  exact h.2
 have hlastpre : ∀ j, j < ops.size → j ≠ last → last < ops.size → j ∈ pre.getD last [] := fun j hj hne hl => by
  have h := List.all_eq_true.1 hlast1 j (List.mem_range.2 hj)
  simp only [Bool.or_eq_true, beq_iff_eq, decide_eq_true_eq, List.contains_iff_mem] at h
  rcases h with (h | h) | h
  · exact absurd h hne
  · omega
  · exact h
 have finish : ∀ (S : Array Bool) (a : Act) (W : World), S.size = ops.size → RInvK E T ops last pre Φ a0 w0 S a W → Region.ready .any ops S = [] → Qn a W := fun S a W hS hI hr => by
  have hl := all_listed hS hback hr
  have hge : ops.size ≤ last := by
   rcases Nat.lt_or_ge last ops.size with h | h
   · have := hl last h; rw [hI.still] at this; cases this
   · exact h
  refine hQ hge a W ⟨hI.ext, hI.defers, hI.size, fun i o d _ ho hd => hI.done i o d (hl i (Array.getElem?_eq_some_iff.1 ho).1) ho hd, fun i o _ ho => hI.mute i o (hl i (Array.getElem?_eq_some_iff.1 ho).1) ho, fun s hm hk => hI.stat s (fun j hj => hl j (hm j hj).1) (by rw [hk]; simp), fun t ht => hI.orig t fun i o hi ho => ht i o ?_ ho⟩
  have := (Array.getElem?_eq_some_iff.1 ho).1
  omega
 intro fuel
 induction fuel with
 | zero =>
  intro S a W hS hc hI
  have hr : Region.ready .any ops S = [] := by
   rw [List.eq_nil_iff_forall_not_mem]
   intro i hi
   have h0 := (mem_ready.1 hi).1
   have := count_set_lt S i h0
   omega
  exact ⟨hr, finish S a W hS hI hr⟩
 | succ fuel ih =>
  intro S a W hS hc hI
  refine ⟨fun hr => finish S a W hS hI hr, fun i hi => ?_⟩
  obtain ⟨h0, o, ho, hed⟩ := mem_ready.1 hi
  have hiS : i < S.size := by rw [hS]; exact (Array.getElem?_eq_some_iff.1 ho).1
  have hcnt := count_set_lt S i h0
  have hun : S.getD i false = false := by simpa [hiS] using h0
  have hprel : ∀ j ∈ pre.getD i [], S.getD j false = true := fun j hj => by
   obtain ⟨e, he, hb, rfl | hjk⟩ := hpre i o ho j hj
   · exact hed e he hb
   · exact hI.clo _ (hed e he hb) j hjk
  have hsee : (∀ j ∈ pre.getD i [], match (ops[j]?).bind (·.dst) with | some d => Φ j (a.eval (.tmp d)) W | none => True) := fun j hj => by
   cases hoj : ops[j]? with
   | none => simp
   | some oj =>
    cases hd : oj.dst with
    | none => simp [hd]
    | some d => simpa [hd, Act.eval] using hI.done j oj d (hprel j hj) hoj hd
  have horgl : ∀ t ∈ org.getD i [], a.eval (.tmp t) = a0.tmps.getD t undef := fun t ht => by
   refine hI.orig t fun j oj hj hoj hd => ?_
   rcases horg i o ho t ht j oj hoj hd with rfl | hin
   · rw [hun] at hj; cases hj
   · have := hI.clo j hj i hin
     rw [hun] at this; cases this
  by_cases hil : i = last
  · subst hil
    have hlisted : ∀ j, j < ops.size → j ≠ i → S.getD j false = true := fun j hj hne => hprel j (hlastpre j hj hne (Array.getElem?_eq_some_iff.1 ho).1)
    have hbut : AllButK E T ops i Φ a0 w0 a W := ⟨hI.ext, hI.defers, hI.size, fun j oj d hne hoj hd => hI.done j oj d (hlisted j (Array.getElem?_eq_some_iff.1 hoj).1 hne) hoj hd, fun j oj hne hoj => hI.mute j oj (hlisted j (Array.getElem?_eq_some_iff.1 hoj).1 hne) hoj, fun s hm hk => hI.stat s (fun j hj => hlisted j (hm j hj).1 (hm j hj).2) (by rw [hk]; simp),
     fun t ht => hI.orig t fun j oj hj hoj => ht j oj (fun e => by subst e; rw [hun] at hj; cases hj) hoj⟩
    have hwant : Region.wanted o (yielded ops a.tmps) = true := by
     simp only [ho] at hlast2
     unfold Region.wanted
     rw [Option.isNone_iff_eq_none.1 hlast2]
    refine hop.does i o a W _ _ ho hwant (hlast o ho a W hbut) fun v w' hq => anyOf_done ?_ hq fuel
    rw [List.eq_nil_iff_forall_not_mem]
    intro j hj
    obtain ⟨hj0, oj, hoj, _⟩ := mem_ready.1 hj
    have hjl := (Array.getElem?_eq_some_iff.1 hoj).1
    by_cases hij : i = j
    · subst hij; simp [hiS] at hj0
    · rw [getD_set_ne true hij] at hj0
      have h1 := hlisted j hjl (fun e => hij e.symm)
      rw [← hS] at hjl
      simp [hjl] at h1 hj0
      rw [h1] at hj0
      cases hj0
  have hreq := AllReq.mem hs i (List.mem_range.2 (Array.getElem?_eq_some_iff.1 ho).1)
  simp only [if_neg hil, StepReqK, ho] at hreq
  have huse : ∀ s ∈ T.use.getD i [], T.Ψ s W := fun s hs => by
   have hc := List.all_eq_true.1 (List.all_eq_true.1 hkd i (List.mem_range.2 (Array.getElem?_eq_some_iff.1 ho).1)) s hs
   simp only [Bool.and_eq_true] at hc
   refine hI.stat s (fun j hj => ?_) (fun k hk => ?_)
   · have h1 := hc.1
     rw [hj] at h1
     exact hprel j (by simpa using h1)
   · have h1 := List.all_eq_true.1 hc.2 k hk
     simp only [Bool.or_eq_true, beq_iff_eq, List.contains_iff_mem] at h1
     rcases h1 with rfl | h1
     · exact hun
     · cases hSk : S.getD k false with
       | false => rfl
       | true =>
        have := hI.clo k hSk i h1
        rw [hun] at this
        cases this
  have hreq' := hreq a.eval W (fun _ => rfl) (fun _ => rfl) (fun _ => rfl) hI.ext hsee horgl huse
  have hwant : Region.wanted o (yielded ops a.tmps) = run.getD i false := by
   unfold Region.wanted
   cases hgd : o.guard with
   | none => simp [hrun0 i o ho hgd]
   | some gb =>
    obtain ⟨g, b⟩ := gb
    obtain ⟨⟨e, he, hb, rfl⟩, og, d, hog, hd⟩ := hguard i o g b ho hgd
    have hgr := AllReq.mem hg i (List.mem_range.2 (Array.getElem?_eq_some_iff.1 ho).1)
    simp only [GuardReq, ho, hgd] at hgr
    have hgv := hgr _ W (hI.done e.on og d (hed e he hb) hog hd)
    have hdl : d < a.tmps.size := by rw [hI.size]; exact (hdst _ og d hog hd).1
    have hy : yielded ops a.tmps e.on = boolOf (a.tmps.getD d undef) := by
     unfold yielded
     simp [hog, hd, hdl]
     cases a.tmps[d] <;> rfl
    simp only [hy]
    exact hgv
  -- what comes behind
  have next : ∀ v W', Φ i v W' → T.rel E i W W' → (∀ s, T.made.getD s none = some i → T.Ψ s W') → anyOf ops opP Qn fuel (S.setIfInBounds i true) (a.put o.dst v) W' := fun v W' hv hR hmk => by
   have hW : E W W' := by
    unfold StateK.rel at hR
    split at hR
    · exact hR
    · exact hEG hR
   refine ih _ _ _ (by simpa using hS) (by omega) ⟨hE.trans hI.ext hW, ?_, ?_, ?_, ?_, ?_, ?_, ?_, by rw [getD_set S i last hiS, if_neg hil]; exact hI.still⟩
   · rw [← hI.defers]; cases o.dst <;> rfl
   · rw [← hI.size]; cases o.dst <;> simp [Act.put]
   · intro j oj d hj hoj hd
     rw [getD_set S i j hiS] at hj
     by_cases hij : i = j
     · subst hij
       rw [ho] at hoj
       obtain rfl := Option.some.inj hoj
       have hdl : d < a.tmps.size := by rw [hI.size]; exact (hdst i o d ho hd).1
       simpa [Act.put, hd, hdl] using hv
     · rw [if_neg hij] at hj
       have hold := hst j _ W W' hW (hI.done j oj d hj hoj hd)
       have hne : o.dst ≠ some d := (hdst j oj d hoj hd).2 i o ho hij
       cases hod : o.dst with
       | none => simpa [Act.put] using hold
       | some d' =>
        have hdd : d' ≠ d := fun e => hne (by rw [hod, e])
        simpa [Act.put, Array.getElem?_setIfInBounds_ne hdd] using hold
   · intro j oj hj hoj
     rw [getD_set S i j hiS] at hj
     by_cases hij : i = j
     · subst hij; exact ⟨v, hv⟩
     · rw [if_neg hij] at hj
       obtain ⟨u, hu⟩ := hI.mute j oj hj hoj
       exact ⟨u, hst j _ W W' hW hu⟩
   · intro s hm hk
     by_cases hsi : T.made.getD s none = some i
     · exact hmk s hsi
     · have hik : i ∉ T.kl.getD s [] := fun hin => by
        have := hk i hin
        rw [getD_set S i i hiS] at this
        simp at this
       refine hks i s W W' hik hsi hR (hI.stat s (fun j hj => ?_) (fun k hkk => ?_))
       · have h1 := hm j hj
         rw [getD_set S i j hiS, if_neg (fun e => hsi (by rw [hj, e]))] at h1
         exact h1
       · have h1 := hk k hkk
         rw [getD_set S i k hiS, if_neg (fun e => hik (by rw [e]; exact hkk))] at h1
         exact h1
   · intro t ht
     have h1 := ht i o (by rw [getD_set S i i hiS]; simp) ho
     rw [← hI.orig t fun j oj hj hoj => ht j oj (by rw [getD_set S i j hiS]; simp [hj]) hoj]
     cases hod : o.dst with
     | none => rfl
     | some d' =>
      have hdd : d' ≠ t := fun e => h1 (by rw [hod, e])
      simp [Act.put, Array.getElem?_setIfInBounds_ne hdd]
   · intro j hj k hk
     rw [getD_set S i j hiS] at hj
     rw [getD_set S i k hiS]
     by_cases hik : i = k
     · simp [hik]
     · rw [if_neg hik]
       by_cases hij : i = j
       · subst hij; exact hprel k hk
       · rw [if_neg hij] at hj; exact hI.clo j hj k hk
  cases hrn : run.getD i false with
  | true =>
   simp only [hrn, if_true] at hreq'
   exact hop.does i o a W _ _ ho (by rw [hwant, hrn]) hreq' fun v W' ⟨h1, h2, h3⟩ => next v W' h1 h2 h3
  | false =>
   simp only [hrn, Bool.false_eq_true, if_false] at hreq'
   exact hop.skips i o a W _ ho (by rw [hwant, hrn]) (next undef W (by simpa using hreq'.1) (by unfold StateK.rel; split; exact hE.refl _; exact Below.refl _ _) hreq'.2)
theorem rinv0K (hE : ExtOk E) {last : Nat} (hi : ∀ s, T.made.getD s none = none → T.Ψ s { w0 with drawn := w0.drawn + 1 }) : RInvK E T ops last pre Φ a0 w0 (Array.replicate ops.size false) a0 { w0 with drawn := w0.drawn + 1 } := by
 refine ⟨hE.drew _, rfl, rfl, ?_, ?_, ?_, ?_, ?_, ?_⟩
 · intro i o d hi
   simp [Array.getElem?_replicate] at hi
   split at hi <;> simp at hi
 · intro i o hi
   simp [Array.getElem?_replicate] at hi
   split at hi <;> simp at hi
 · intro s hm _
   cases hms : T.made.getD s none with
   | none => exact hi s hms
   | some j =>
    have := hm j hms
    simp [Array.getElem?_replicate] at this
    split at this <;> simp at this
 · intro t _; rfl
 · intro i hi
   simp [Array.getElem?_replicate] at hi
   split at hi <;> simp at hi
 · simp [Array.getElem?_replicate]
   split <;> simp
theorem AllButK.done' {last : Nat} {a : Act} {W : World} (h : AllButK E T ops last Φ a0 w0 a W) (i : Nat) (t : Tmp) (hi : (i != last) = true) (ho : (ops[i]?).bind (·.dst) = some t) : Φ i (a.tmps.getD t undef) W := by
 cases hoi : ops[i]? with
 | none => simp [hoi] at ho
 | some o => exact h.done i o t (by simpa using hi) hoi (by simpa [hoi] using ho)
theorem wp_region_facts_K (hE : ExtOk E) (hEG : ∀ {a b}, Grows a b → E a b) {id : Nat} (last : Nat) (pre org : Array (List Nat)) (run : Array Bool) (Φ : Nat → Value → World → Prop) (T : StateK) (hm : P.follows .mixedOrders = true) (hl : last = ops.size) (hchk : regionChk ops a0.tmps.size last pre org run = true)
 (hst : ∀ i v W W', E W W' → Φ i v W → Φ i v W')
 (hks : ∀ i s W W', i ∉ T.kl.getD s [] → T.made.getD s none ≠ some i → T.rel E i W W' → T.Ψ s W → T.Ψ s W') (hkd : T.chk ops.size pre = true) (hi : ∀ s, T.made.getD s none = none → T.Ψ s { w0 with drawn := w0.drawn + 1 })
 (hg : AllReq (GuardReq ops run Φ) (List.range ops.size))
 (hs : AllReq (fun i => if i = last then True else StepReqK E T P ops pre org run Φ a0 w0 i) (List.range ops.size))
 (hQ : ∀ a W, AllButK E T ops last Φ a0 w0 a W → Q .normal a W) :
 (Code.region id ops true).wp P Q a0 w0 := by
 refine wp_region_any hm ?_
 rw [anyOf_wpAny]
 exact facts_anyK (last := last) hE (opRule_plain P ops Q) hchk hst hEG hks hkd hg hs (fun o ho => by rw [hl] at ho; simp at ho) (fun _ => hQ) ops.size _ a0 _ (by simp) (by simp) (rinv0K hE hi)
end
theorem AllButK.frame {E : World → World → Prop} {T : StateK} {ops : Array Oper} {last : Nat} {Φ : Nat → Value → World → Prop} {l : List Value} {ds : List Deferred} {w0 : World} {a : Act} {W : World} (h : AllButK E T ops last Φ { tmps := l.toArray, defers := ds } w0 a W) (dv : List (Nat × Value))
 (hc : (sortedD 0 dv && ops.toList.all fun o => match o.dst with | none => true | some d => dv.any fun p => p.1 == d) = true) (hv : SlotsV a.tmps dv) : a = { tmps := (updL l 0 dv).toArray, defers := ds } := by
 simp only [Bool.and_eq_true] at hc
 obtain ⟨hc1, hc2⟩ := hc
 obtain ⟨f, d'⟩ := a
 have hd : d' = ds := h.defers
 have hs : f.size = l.length := by simpa using h.size
 subst hd
 congr 1
 apply Array.ext
 · simp [updL_length, hs]
 · intro i h1 h2
   have key := updL_get f l 0 dv hc1 hv (fun i hi hn => by
    have := h.orig (0 + i) (fun j o _ ho hd => by
     have h3 := List.all_eq_true.1 hc2 o (Array.mem_toList_iff.2 (Array.mem_of_getElem? ho))
     simp only [hd] at h3
     obtain ⟨p, hp, hpd⟩ := List.any_eq_true.1 h3
     have : p.1 = 0 + i := by simpa using hpd
     exact hn p.2 (by rw [← this]; exact hp))
    have h4 : (0 : Nat) + i = i := by omega
    rw [h4] at this ⊢
    simpa using this) i (by omega)
   have h3 : i < (updL l 0 dv).length := by simpa using h2
   rw [show 0 + i = i by omega] at key
   simpa [h1, h3] using key
inductive SpecK (E : World → World → Prop) where
 | val (v : Value)
 | any
 | pred (p : Value → World → Prop) (h : ∀ v W W', E W W' → p v W → p v W')
def SpecK.holds {E : World → World → Prop} : SpecK E → Value → World → Prop
 | .val v, u, _ => u = v
 | .any, _, _ => True
 | .pred p _, u, W => p u W
theorem SpecK.ext {E : World → World → Prop} {W W' : World} {v : Value} : ∀ {s : SpecK E}, E W W' → s.holds v W → s.holds v W'
 | .val _, _, h => h
 | .any, _, _ => trivial
 | .pred _ h, g, hp => h _ _ _ g hp
def SpecK.yields {E : World → World → Prop} : SpecK E → Option (Option Bool)
 | .val v => some (boolOf v)
 | _ => none
theorem SpecK.yields_holds {E : World → World → Prop} {s : SpecK E} {y : Option Bool} (h : s.yields = some y) {v : Value} {W : World} (hv : s.holds v W) : boolOf v = y := by
 cases s with
 | val u =>
  obtain rfl : v = u := hv
  simpa [SpecK.yields] using h
 | any => simp [SpecK.yields] at h
 | pred p q => simp [SpecK.yields] at h
def phiK {E : World → World → Prop} (specs : Array (SpecK E)) (i : Nat) (v : Value) (W : World) : Prop := (specs.getD i SpecK.any).holds v W
def guardChkK {E : World → World → Prop} (ops : Array Oper) (run : Array Bool) (specs : Array (SpecK E)) : Bool :=
 (List.range ops.size).all fun i => match ops[i]? with
  | none => true
  | some o => match o.guard with
   | none => true
   | some (g, b) => match (specs.getD g SpecK.any).yields with
    | some y => (y == some b) == run.getD i false
    | none => false
theorem guards_okK {E : World → World → Prop} {ops : Array Oper} {run : Array Bool} {specs : Array (SpecK E)} (h : guardChkK ops run specs = true) : AllReq (GuardReq ops run (phiK specs)) (List.range ops.size) := by
 refine allReq_of fun i hi => ?_
 have h1 := List.all_eq_true.1 h i hi
 unfold GuardReq
 cases ho : ops[i]? with
 | none => trivial
 | some o =>
  simp only [ho] at h1 ⊢
  cases hg : o.guard with
  | none => trivial
  | some gb =>
   obtain ⟨g, b⟩ := gb
   simp only [hg] at h1 ⊢
   intro v W hv
   cases hs : (specs.getD g SpecK.any).yields with
   | none => rw [hs] at h1; cases h1
   | some c =>
    rw [hs] at h1
    rw [SpecK.yields_holds hs hv]
    simpa using h1
def StateK.plain (T : StateK) (i : Nat) : Bool := !T.muts.contains i && T.made.toList.all fun m => m != some i
theorem stepK_plain {E : World → World → Prop} {T : StateK} {P : Program} {o : Oper} {ρ : Operand → Value} {W : World} {Φ : Value → World → Prop} {i : Nat} (hi : T.plain i = true) (h : StepOk P o ρ W (fun v W' => Φ v W' ∧ Grows W W')) :
 StepOk P o ρ W (fun v W' => Φ v W' ∧ T.rel E i W W' ∧ ∀ s, T.made.getD s none = some i → T.Ψ s W') := by
 simp only [StateK.plain, Bool.and_eq_true, Bool.not_eq_true'] at hi
 refine h.mono fun v W' hv => ⟨hv.1, ?_, fun s hs => ?_⟩
 · unfold StateK.rel
   rw [if_neg (by rw [hi.1]; simp)]
   exact hv.2
 · exfalso
   rcases Nat.lt_or_ge s T.made.size with hlt | hge
   · have h1 := List.all_eq_true.1 hi.2 T.made[s] (by simp)
     simp [hlt] at hs
     rw [hs] at h1
     simp at h1
   · simp [Array.getElem?_eq_none hge] at hs
theorem stepK_made {E : World → World → Prop} {T : StateK} {P : Program} {o : Oper} {ρ : Operand → Value} {W : World} {Φ : Value → World → Prop} {i : Nat} (hi : T.muts.contains i = true) (h : StepOk P o ρ W (fun v W' => Φ v W' ∧ E W W' ∧ ∀ s, T.made.getD s none = some i → T.Ψ s W')) :
 StepOk P o ρ W (fun v W' => Φ v W' ∧ T.rel E i W W' ∧ ∀ s, T.made.getD s none = some i → T.Ψ s W') := by
 refine h.mono fun v W' hv => ⟨hv.1, ?_, hv.2.2⟩
 unfold StateK.rel
 rw [if_pos hi]
 exact hv.2.1
theorem region_K {P : Program} {ops : Array Oper} {a0 : Act} {w0 : World} {Q : Exit → Act → World → Prop} {E : World → World → Prop} {id : Nat} (hE : ExtOk E) (hEG : ∀ {a b}, Grows a b → E a b) (pre org : Array (List Nat)) (run : Array Bool) (specs : Array (SpecK E)) (T : StateK)
 (hks : ∀ i s W W', i ∉ T.kl.getD s [] → T.made.getD s none ≠ some i → T.rel E i W W' → T.Ψ s W → T.Ψ s W') (hi : ∀ s, T.made.getD s none = none → T.Ψ s { w0 with drawn := w0.drawn + 1 })
 (hm : P.follows .mixedOrders = true) (hchk : regionChk ops a0.tmps.size ops.size pre org run = true) (hkd : T.chk ops.size pre = true)
 (hg : guardChkK ops run specs = true)
 (hs : AllReq (fun i => if i = ops.size then True else StepReqK E T P ops pre org run (phiK specs) a0 w0 i) (List.range ops.size))
 (hQ : ∀ a W, AllButK E T ops ops.size (phiK specs) a0 w0 a W → Q .normal a W) :
 (Code.region id ops true).wp P Q a0 w0 :=
 wp_region_facts_K hE hEG ops.size pre org run (phiK specs) T hm rfl hchk (fun _ _ _ _ g h => SpecK.ext g h) hks hkd hi (guards_okK hg) hs hQ
theorem stepRK {E : World → World → Prop} {T : StateK} {P : Program} {ops : Array Oper} {pre org : Array (List Nat)} {run : Array Bool} {Φ : Nat → Value → World → Prop} {a0 : Act} {w0 : World} {i last : Nat} {o : Oper} (v : Value) (ho : ops[i]? = some o) (hr : run.getD i false = true) (hpl : T.plain i = true) (hΦ : ∀ X, Φ i v X)
 (h : ∀ (ρ : Operand → Value) (X : World), (∀ v, ρ (.const v) = v) → (∀ f, ρ (.func f) = .func (.func f) #[] #[]) → (∀ g, ρ (.global g) = .pointer (some ⟨g, 0, none⟩)) → E w0 X →
  (∀ j ∈ pre.getD i [], match (ops[j]?).bind (·.dst) with | some d => Φ j (ρ (.tmp d)) X | none => True) →
  (∀ t ∈ org.getD i [], ρ (.tmp t) = a0.tmps.getD t undef) → (execOp ρ o).run P X = .ok (.value v) X) :
 if i = last then True else StepReqK E T P ops pre org run Φ a0 w0 i :=
 step_introK ho hr fun ρ X h1 h2 h3 h4 h5 h6 _ => stepK_plain hpl (StepOk.of_run (h ρ X h1 h2 h3 h4 h5 h6) ⟨hΦ X, Below.refl _ _⟩)
theorem stepOK {E : World → World → Prop} {T : StateK} {P : Program} {ops : Array Oper} {pre org : Array (List Nat)} {run : Array Bool} {Φ : Nat → Value → World → Prop} {a0 : Act} {w0 : World} {i last : Nat} {o : Oper} (t : Nat) (v : Value) (ho : ops[i]? = some o) (hop : ∀ ρ X, (execOp ρ o).run P X = .ok (.value (ρ (.tmp t))) X) (hr : run.getD i false = true) (hpl : T.plain i = true) (hΦ : ∀ X, Φ i v X) (ht : t ∈ org.getD i []) (hv : a0.tmps.getD t undef = v) :
 if i = last then True else StepReqK E T P ops pre org run Φ a0 w0 i :=
 stepRK v ho hr hpl hΦ fun ρ X _ _ _ _ _ h => by rw [hop, h t ht, hv]
theorem stepPK {E : World → World → Prop} {T : StateK} {P : Program} {ops : Array Oper} {pre org : Array (List Nat)} {run : Array Bool} {Φ : Nat → Value → World → Prop} {a0 : Act} {w0 : World} {i last : Nat} {o : Oper} (t j : Nat) (u v : Value) (ho : ops[i]? = some o) (hop : ∀ ρ X, (execOp ρ o).run P X = .ok (.value (ρ (.tmp t))) X) (hr : run.getD i false = true) (hpl : T.plain i = true) (hΦ : ∀ X, Φ i v X) (hj : j ∈ pre.getD i []) (hd : (ops[j]?).bind (·.dst) = some t) (hu : ∀ u' X, Φ j u' X → u' = u) (hv : u = v) :
 if i = last then True else StepReqK E T P ops pre org run Φ a0 w0 i :=
 stepRK v ho hr hpl hΦ fun ρ X _ _ _ _ h _ => by have := h j hj; rw [hd] at this; rw [hop, hu _ _ this, hv]
end Go.Proofs.YtoppcpiheaedlaaGreatDoor
end
section
/-
  What may turn of a world: some blocks alone; an append in place, which spares what is owned.
-/
namespace Go.Proofs.YtoppcpiheaedlaaGreatDoor
open Go.RowKit
set_option linter.unusedVariables false
set_option linter.unusedSimpArgs false
structure But (O : Nat → Prop) (w w' : World) : Prop where
 os : w'.os = w.os
 tape : w'.tape = w.tape
 output : w'.output = w.output
 size : w.heap.size ≤ w'.heap.size
 block : ∀ k, k < w.heap.size → ¬ O k → w'.heap[k]? = w.heap[k]?
theorem But.below {O : Nat → Prop} {w w' : World} {B : Nat} (h : But O w w') (hB : B ≤ w.heap.size) (hO : ∀ k, O k → B ≤ k) : Below B w w' :=
 ⟨h.os, h.tape, h.output, h.size, fun k hk => h.block k (by omega) (fun hk' => by have := hO k hk'; omega)⟩
theorem But.refl' (O : Nat → Prop) (w : World) : But O w w := ⟨rfl, rfl, rfl, Nat.le_refl _, fun _ _ _ => rfl⟩
theorem But.trans' {O : Nat → Prop} {a b c : World} (h : But O a b) (k : But O b c) : But O a c :=
 ⟨k.os.trans h.os, k.tape.trans h.tape, k.output.trans h.output, Nat.le_trans h.size k.size, fun n hn ho => (k.block n (Nat.lt_of_lt_of_le hn h.size) ho).trans (h.block n hn ho)⟩
theorem But.ok (O : Nat → Prop) : ExtOk (But O) := ⟨But.refl' O, fun h k => But.trans' h k, fun w => ⟨rfl, rfl, rfl, Nat.le_refl _, fun _ _ _ => rfl⟩⟩
theorem But.ofGrows {O : Nat → Prop} {a b : World} (h : Grows a b) : But O a b := ⟨h.os, h.tape, h.output, h.size, fun k hk _ => h.block k hk⟩
theorem But.mono {O O' : Nat → Prop} {a b : World} (h : But O a b) (hO : ∀ k, O k → O' k) : But O' a b := ⟨h.os, h.tape, h.output, h.size, fun k hk hn => h.block k hk (fun h' => hn (hO k h'))⟩
theorem But.cell {O : Nat → Prop} {a b : World} (h : But O a b) {p : Addr} {v : Value} (hn : ¬ O p.block) (hc : a.cell? p = some v) : b.cell? p = some v :=
 (World.cell?_of_block (h.block p.block (World.block_lt_of_cell? a p hc) hn)).trans hc
theorem But.blockEq {O : Nat → Prop} {W W' : World} (h : But O W W') {k : Nat} {o : Obj} (hk : ¬ O k) (ho : W.heap[k]? = some o) : W'.heap[k]? = some o :=
 (h.block k (Array.getElem?_eq_some_iff.1 ho).1 hk).trans ho
theorem But.setCell {O : Nat → Prop} {a b : World} (h : But O a b) (p : Addr) (v : Value) (ho : O p.block) : But O a (b.setCell p v) :=
 ⟨h.os, h.tape, h.output, by simpa [World.setCell] using h.size, fun k hk hn => by rw [Below.heap_setCell _ _ _ _ (fun e => hn (by first | (rw [e]; exact ho) | (rw [← e]; exact ho)))]; exact h.block k hk hn⟩
theorem But.setRow {O : Nat → Prop} {a b : World} (h : But O a b) (g : Nat) (C : Array Value) (ho : O g) : But O a (b.setRow g C) :=
 ⟨h.os, h.tape, h.output, by have := h.size; simpa [World.setRow] using this, fun k hk hn => by rw [setRow_other b g k C (fun e => hn (by rw [e]; exact ho))]; exact h.block k hk hn⟩
theorem But.grown {O : Nat → Prop} {a b : World} {r : Option Nat} (h : a.grownBy b r) (hr : ∀ k, r = some k → O k) : But O a b :=
 ⟨h.os, h.tape, h.output, h.size, fun k hk hn => h.block k hk (fun e => hn (hr k (by first | exact e | exact e.symm)))⟩
def Outside (O : Nat → Prop) (v : Value) : Prop := ∀ b off sp n c, v = .slice (some ⟨b, off, sp⟩) n c → n ≠ 0 → ¬ O b
theorem Byt.but {O : Nat → Prop} {a b : World} {v : Value} {l : List UInt8} (h : Byt a v l) (g : But O a b) (ho : Outside O v) : Byt b v l := by
 obtain ⟨ad, cap, rfl, h1, h2, h3, h4⟩ := h
 refine ⟨ad, cap, rfl, h1, h2, h3, h4.imp id ?_⟩
 rintro ⟨bb, off, rfl, hc⟩
 by_cases h0 : l.length = 0
 · exact ⟨bb, off, rfl, fun i hi => by omega⟩
 · exact ⟨bb, off, rfl, fun i hi => g.cell (ho bb off none _ _ rfl h0) (hc i hi)⟩
theorem own_but {O : Nat → Prop} {e k B n : Nat} {xs : List Value} {v : Value} {a b : World} (h : a.ownsRow B e k v n xs) (g : But O a b) (ho : ∀ j, v.ownBlock = some j → ¬ O j) : b.ownsRow B e k v n xs := by
 refine ⟨h.1, ?_⟩
 rcases h.2 with h' | ⟨c, cap, cur, rfl, hb, hg, rest⟩
 · exact .inl h'
 · exact .inr ⟨c, cap, cur, rfl, hb, g.blockEq (ho c rfl) hg, rest⟩
theorem own_grows {e k B n : Nat} {xs : List Value} {v : Value} {a b : World} (h : a.ownsRow B e k v n xs) (g : Grows a b) : b.ownsRow B e k v n xs :=
 own_but (O := fun _ => False) h (But.ofGrows g) (fun _ _ h => h)
def Spared (e k : Nat) (l : List (Nat × List Value)) (a b : World) : Prop := ∀ p ∈ l, ∀ v, a.ownsRow 0 e k v p.1 p.2 → b.ownsRow 0 e k v p.1 p.2
structure EApp (O : Nat → Prop) (e k : Nat) (l : List (Nat × List Value)) (a b : World) : Prop where
 but : But O a b
 spared : Spared e k l a b
theorem EApp.ok (O : Nat → Prop) (e k : Nat) (l : List (Nat × List Value)) : ExtOk (EApp O e k l) where
 refl := fun w => ⟨But.refl' O w, fun _ _ _ h => h⟩
 trans := fun h1 h2 => ⟨h1.but.trans' h2.but, fun p hp v h => h2.spared p hp v (h1.spared p hp v h)⟩
 drew := fun w => ⟨⟨rfl, rfl, rfl, Nat.le_refl _, fun _ _ _ => rfl⟩, fun _ _ _ h => h⟩
theorem EApp.ofGrows {O : Nat → Prop} {e k : Nat} {l : List (Nat × List Value)} {a b : World} (h : Grows a b) : EApp O e k l a b := ⟨But.ofGrows h, fun _ _ _ ho => own_grows ho h⟩
theorem EApp.own {O : Nat → Prop} {e k n : Nat} {xs : List Value} {l : List (Nat × List Value)} (hl : (n, xs) ∈ l) (v : Value) (a b : World) (h : EApp O e k l a b) (ho : a.ownsRow 0 e k v n xs) : b.ownsRow 0 e k v n xs := h.spared _ hl v ho
theorem run_append_x {P : Program} (w : World) (t ty e : TypeId) (i : TypeInfo) (z : Value) (size bytes : Nat) (ht : P.underlying t = some (.slice e)) (hi : P.info? e = some i) (hz : i.zero = some z)
 (hsize : i.size = size) (hby : i.bytes = bytes) (hzs : z.cells.size = size) (hsz : 0 < size)
 (v : Value) (n : Nat) (xs : List Value) (hown : w.ownsRow 0 e size v n xs)
 (a : Addr) (m c : Nat) (news : List Value) (hl : news.length = m * size) (hnews : ∀ j u, news[j]? = some u → w.cell? (a.add j) = some u) (h1 : ∀ u ∈ news, u.oneCell' = true)
 (h63 : n + m ≤ maxLen) (hbytes : (n + m) * bytes ≤ 140737488355328) (ls : List (Nat × List Value)) (hls : ∀ p ∈ ls, p.1 ≤ n ∨ (p.1 ≤ n + m ∧ p.2 = (xs ++ news).take (p.1 * size))) :
 ∃ v' w', (Builtin.append_ #[t, t] ty #[v, .slice (some a) m c]).run P w = .ok v' w' ∧ w'.ownsRow 0 e size v' (n + m) (xs ++ news) ∧ w.grownBy w' v.ownBlock ∧
  (v'.ownBlock = v.ownBlock ∨ v'.ownBlock = some w.heap.size) ∧ Spared e size ls w w' := by
 subst hsize
 subst hby
 have hsmall : n + m ≤ 9223372036854775807 := by simp only [maxLen] at h63; omega
 have hlen : (xs ++ news).length = (n + m) * i.size := by rw [List.length_append, hown.1, hl, Nat.add_mul]
 have grown : ∀ (old : Nat), old < n + m → ∀ (row : Option Nat),
  (w.drew.alloc (.cells (xs.toArray ++ news.toArray ++ Builtin.zeroCells z.cells (grownCap w (n + m) old e - (n + m))) e)).ownsRow 0 e i.size
   (.slice (some ⟨w.heap.size, 0, none⟩) (n + m) (grownCap w (n + m) old e)) (n + m) (xs ++ news) ∧
  w.grownBy (w.drew.alloc (.cells (xs.toArray ++ news.toArray ++ Builtin.zeroCells z.cells (grownCap w (n + m) old e - (n + m))) e)) row ∧
  Spared e i.size ls w (w.drew.alloc (.cells (xs.toArray ++ news.toArray ++ Builtin.zeroCells z.cells (grownCap w (n + m) old e - (n + m))) e)) := by
  intro old ho row
  have hge := grownCap_ge w (n + m) old e
  have hcm : grownCap w (n + m) old e ≤ maxLen := grownCap_le_maxLen w (n + m) old e h63
  refine ⟨⟨hlen, .inr ⟨w.heap.size, _, _, rfl, Nat.zero_le _, heap_alloc_new w.drew _, hge, hcm, ?_, ?_⟩⟩, ⟨rfl, rfl, rfl, by simp, fun k hk _ => heap_alloc_old w.drew _ hk⟩, ?_⟩
  · simp only [Array.size_append, List.size_toArray, size_zeroCells, hzs, hown.1, hl, ← Nat.add_mul]
    congr 1
    omega
  · simp only [Array.toList_append, List.append_assoc]
    rw [← List.append_assoc, ← hlen]
    exact List.take_left
  · intro p _ u hu
    exact own_grows hu ((Below.refl _ _).drew.alloc (Nat.le_refl _) _)
 rcases hown.2 with ⟨rfl, rfl⟩ | ⟨g, cap, cur, rfl, hbg, hg, hnc, hcm, hcs, htake⟩
 · have hx : xs = [] := List.eq_nil_of_length_eq_zero (by simpa using hown.1)
   subst hx
   by_cases hm : m = 0
   · subst hm
     have hn : news = [] := List.eq_nil_of_length_eq_zero (by simpa using hl)
     subst hn
     refine ⟨.slice none 0 0, w, ?_, World.ownsRow_nil w 0 e i.size, ⟨rfl, rfl, rfl, Nat.le_refl _, fun _ _ _ => rfl⟩, .inl rfl, fun _ _ _ h => h⟩
     simp [Builtin.append_, run_underlying ht, sizeOf, typeInfo, hi, Builtin.lenOf, Builtin.firstCells, loadCells, loadCellsFrom]
   · have hr := run_append_nil (P := P) w t ty e i z ht hi hz a m c news hl hnews (by omega) (by omega) (by have hb := hbytes; simp only [Nat.zero_add] at hb; omega)
     have hgr := grown 0 (by omega) (Value.ownBlock (.slice none 0 0))
     simp only [Nat.zero_add, List.nil_append, Array.empty_append] at hgr ⊢
     exact ⟨_, _, hr, hgr.1, hgr.2.1, .inr rfl, hgr.2.2⟩
 · by_cases hroom : n + m ≤ cap
   · have hfit : n * i.size + news.length ≤ cur.size := by rw [hl, hcs, ← Nat.add_mul]; exact Nat.mul_le_mul_right _ hroom
     have hr := run_append_room (P := P) w t ty e i ht hi g n cap cur hg a m c news hl hnews h1 hroom hfit
     have hsame : (cur.toList.take (n * i.size) ++ news ++ cur.toList.drop (n * i.size + news.length)).toArray.size = cap * i.size := by
      simp only [List.size_toArray, List.length_append, List.length_take, List.length_drop, Array.length_toList]
      omega
     have hfull : ((cur.toList.take (n * i.size) ++ news ++ cur.toList.drop (n * i.size + news.length)).toArray.toList.take ((n + m) * i.size)) = xs ++ news := by
      rw [htake, ← hlen]
      exact List.take_left
     refine ⟨_, _, hr, ⟨hlen, .inr ⟨g, cap, _, rfl, hbg, setRow_heap w g cur _ e _ hg, hroom, hcm, hsame, hfull⟩⟩, ⟨rfl, rfl, rfl, by simp, fun k _ hk => setRow_other w g k _ (fun e => hk (by simp [Value.ownBlock, e]))⟩, .inl rfl, ?_⟩
     intro p hp u hu
     rcases hu.2 with h' | ⟨g', cap', cur', rfl, hb', hg', hn', hc', hs', ht'⟩
     · exact ⟨hu.1, .inl h'⟩
     · by_cases hgg : g' = g
       · subst hgg
         rw [hg] at hg'
         simp only [Option.some.injEq, Obj.cells.injEq] at hg'
         obtain ⟨rfl, -⟩ := hg'
         refine ⟨hu.1, .inr ⟨g', cap', _, rfl, hb', setRow_heap w g' cur _ e _ hg, hn', hc', ?_, ?_⟩⟩
         · rw [hsame, ← hcs, hs']
         · rcases hls p hp with h' | ⟨h', h''⟩
           · rw [← ht']
             simp only [List.append_assoc]
             have hle : p.1 * i.size ≤ n * i.size := Nat.mul_le_mul_right _ h'
             rw [List.take_append_of_le_length (by simp only [List.length_take, Array.length_toList]; omega)]
             rw [List.take_take, Nat.min_eq_left hle]
           · have hle : p.1 * i.size ≤ (n + m) * i.size := Nat.mul_le_mul_right _ h'
             rw [h'', ← hfull, List.take_take, Nat.min_eq_left hle]
       · exact ⟨hu.1, .inr ⟨g', cap', cur', rfl, hb', by rw [setRow_other w g g' _ hgg]; exact hg', hn', hc', hs', ht'⟩⟩
   · have holds : ∀ j u, xs[j]? = some u → w.cell? ((⟨g, 0, none⟩ : Addr).add j) = some u := hown.cells (g := g) rfl
     have hr := run_append_grow (P := P) w t ty e i z ht hi hz ⟨g, 0, none⟩ n cap xs hown.1 holds a m c news hl hnews (by omega) (by omega) (growslice_fits (by omega) hbytes)
     have hgr := grown cap (by omega) (Value.ownBlock (.slice (some ⟨g, 0, none⟩) n cap))
     exact ⟨_, _, hr, hgr.1, hgr.2.1, .inr rfl, hgr.2.2⟩
section
variable {P : Program} {ops : Array Oper} {a0 : Act} {w0 : World} {Q : Exit → Act → World → Prop} {E : World → World → Prop}
theorem region_K_last {id : Nat} (hE : ExtOk E) (hEG : ∀ {a b}, Grows a b → E a b) (last : Nat) (pre org : Array (List Nat)) (run : Array Bool) (specs : Array (SpecK E)) (T : StateK)
 (hks : ∀ i s W W', i ∉ T.kl.getD s [] → T.made.getD s none ≠ some i → T.rel E i W W' → T.Ψ s W → T.Ψ s W') (hi : ∀ s, T.made.getD s none = none → T.Ψ s { w0 with drawn := w0.drawn + 1 })
 (hm : P.follows .mixedOrders = true) (hchk : regionChk ops a0.tmps.size last pre org run = true) (hkd : T.chk ops.size pre = true)
 (hg : guardChkK ops run specs = true) {o : Oper} (ho : ops[last]? = some o)
 (hs : AllReq (fun i => if i = last then True else StepReqK E T P ops pre org run (phiK specs) a0 w0 i) (List.range ops.size))
 (hlast : ∀ a W, AllButK E T ops last (phiK specs) a0 w0 a W → StepOk P o a.eval W (fun v W' => Q .normal (a.put o.dst v) W')) :
 (Code.region id ops true).wp P Q a0 w0 := by
 refine wp_region_any hm ?_
 rw [anyOf_wpAny]
 exact facts_anyK (last := last) (Φ := phiK specs) hE (opRule_plain P ops Q) hchk (fun _ _ _ _ g h => SpecK.ext g h) hEG hks hkd (guards_okK hg) hs (fun o' ho' => by rw [ho] at ho'; obtain rfl := Option.some.inj ho'; exact hlast) (fun h => by have := (Array.getElem?_eq_some_iff.1 ho).1; omega) ops.size _ a0 _ (by simp) (by simp) (rinv0K hE hi)
end
def noState (muts : List Nat) : StateK := { Ψ := fun _ _ => True, made := #[], kl := #[], use := #[], muts := muts }
end Go.Proofs.YtoppcpiheaedlaaGreatDoor
end
section
/-
  Rows of records that are owned: what stands in a field of an element; appends of records.
-/
namespace Go.Proofs.YtoppcpiheaedlaaGreatDoor
open Go.RowKit
set_option linter.unusedVariables false
set_option linter.unusedSimpArgs false
def sv (l : List UInt8) : Value := .string ⟨l.toArray⟩
def nv (n : Nat) : Value := .int .i64 (n : Int)
theorem flat_get {α : Type} (f : α → List Value) (k : Nat) (hf : ∀ a, (f a).length = k) : ∀ (l : List α) (i j : Nat) (hi : i < l.length), j < k → (l.flatMap f)[i * k + j]? = (f (l[i]))[j]?
 | [], i, _, hi, _ => by simp at hi
 | a :: l, 0, j, _, hj => by
  rw [List.flatMap_cons, Nat.zero_mul, Nat.zero_add, List.getElem?_append_left (by rw [hf]; exact hj)]
  rfl
 | a :: l, i + 1, j, hi, hj => by
  have hi' : i < l.length := by simpa using hi
  have e : (i + 1) * k + j = k + (i * k + j) := by rw [Nat.add_mul]; omega
  rw [List.flatMap_cons, List.getElem?_append_right (by rw [hf, e]; omega), hf, show (i + 1) * k + j - k = i * k + j by rw [e]; omega, flat_get f k hf l i j hi' hj]
  rfl
theorem own_cell {W : World} {B e k g n cap : Nat} {xs : List Value} (h : W.ownsRow B e k (.slice (some ⟨g, 0, none⟩) n cap) n xs) (i : Nat) (u : Value) (hi : xs[i]? = some u) : W.cell? ⟨g, i, none⟩ = some u := by
 have := h.cells (g := g) rfl i u hi
 rw [Addr.add_lit, Nat.zero_add] at this
 exact this
theorem own_form {W : World} {B e k n : Nat} {v : Value} {xs : List Value} (h : W.ownsRow B e k v n xs) : ∃ a cap, v = .slice a n cap := by
 rcases h.2 with ⟨rfl, rfl⟩ | ⟨g, cap, cur, rfl, _⟩
 · exact ⟨_, _, rfl⟩
 · exact ⟨_, _, rfl⟩
theorem own_some {W : World} {B e k n : Nat} {v : Value} {xs : List Value} (h : W.ownsRow B e k v n xs) (hn : 0 < n) : ∃ g cap, v = .slice (some ⟨g, 0, none⟩) n cap := by
 rcases h.2 with ⟨rfl, h0⟩ | ⟨g, cap, cur, rfl, _⟩
 · omega
 · exact ⟨_, _, rfl⟩
theorem own_lt {W : World} {B e k n : Nat} {v : Value} {xs : List Value} (h : W.ownsRow B e k v n xs) (j : Nat) (hj : v.ownBlock = some j) : j < W.heap.size := by
 rcases h.2 with ⟨rfl, h0⟩ | ⟨g, cap, cur, rfl, _, hg, _⟩
 · simp [Value.ownBlock] at hj
 · simp [Value.ownBlock] at hj
   subst hj
   exact (Array.getElem?_eq_some_iff.1 hg).1
theorem own_ne {W : World} {B e k n : Nat} {v : Value} {xs : List Value} (h : W.ownsRow B e k v n xs) {j : Nat} {cs : Array Value} {T : TypeId} {fr : Nat × Nat} (hj : W.heap[j]? = some (.cells cs T fr)) (hT : T ≠ e) : v.ownBlock ≠ some j := by
 intro hv
 rcases h.2 with ⟨rfl, h0⟩ | ⟨g, cap, cur, rfl, _, hg, _⟩
 · simp [Value.ownBlock] at hv
 · simp [Value.ownBlock] at hv
   subst hv
   rw [hg] at hj
   simp only [Option.some.injEq, Obj.cells.injEq] at hj
   exact hT hj.2.1.symm
theorem own_ne2 {W : World} {B B' e e' k k' n n' : Nat} {v v' : Value} {xs xs' : List Value} (h : W.ownsRow B e k v n xs) (h' : W.ownsRow B' e' k' v' n' xs') (he : e ≠ e') (j : Nat) (hj : v.ownBlock = some j) : v'.ownBlock ≠ some j := by
 rcases h.2 with ⟨rfl, h0⟩ | ⟨g, cap, cur, rfl, _, hg, _⟩
 · simp [Value.ownBlock] at hj
 · simp [Value.ownBlock] at hj
   subst hj
   exact own_ne h' hg he
theorem run_append_z {P : Program} (w : World) (t ty e : TypeId) (i : TypeInfo) (z : Value) (size bytes : Nat) (ht : P.underlying t = some (.slice e)) (hi : P.info? e = some i) (hz : i.zero = some z)
 (hsize : i.size = size) (hby : i.bytes = bytes) (hzs : z.cells.size = size) (hsz : 0 < size) (g : Nat) (hown : w.ownsRow 0 e size (.slice (some ⟨g, 0, none⟩) 0 0) 0 [])
 (x : Value) (n : Nat) (xs : List Value) (hx : w.ownsRow 0 e size x n xs) (h1 : ∀ u ∈ xs, u.oneCell' = true) (h63 : n ≤ maxLen) (hbytes : n * bytes ≤ 140737488355328) :
 ∃ v' w', (Builtin.append_ #[t, t] ty #[.slice (some ⟨g, 0, none⟩) 0 0, x]).run P w = .ok v' w' ∧ w'.ownsRow 0 e size v' n xs ∧ Grows w w' ∧ (v'.ownBlock = some g ∨ v'.ownBlock = some w.heap.size) ∧ (0 < n → v'.ownBlock = some w.heap.size) := by
 rcases hx.2 with ⟨rfl, rfl⟩ | ⟨b, cap, cur, rfl, hb, hg, hnc, hcm, hcs, htake⟩
 · have hx0 : xs = [] := List.eq_nil_of_length_eq_zero (by simpa using hx.1)
   subst hx0
   refine ⟨.slice (some ⟨g, 0, none⟩) 0 0, w, ?_, hown, Below.refl _ _, .inl rfl, fun h => by omega⟩
   have hf : ∀ w : World, (Builtin.firstCells i.size 0 (Value.slice none 0 0)).run P w = .ok #[] w := fun w => run_firstCells_none w i.size 0 0 0
   simp [Builtin.append_, run_underlying ht, sizeOf, typeInfo, hi, Builtin.lenOf, hf, storeCells]
 · by_cases h0 : n = 0
   · subst h0
     have hx0 : xs = [] := List.eq_nil_of_length_eq_zero (by simpa using hx.1)
     subst hx0
     refine ⟨.slice (some ⟨g, 0, none⟩) 0 0, w, ?_, hown, Below.refl _ _, .inl rfl, fun h => by omega⟩
     have hf : ∀ w : World, (Builtin.firstCells i.size 0 (Value.slice (some ⟨b, 0, none⟩) 0 cap)).run P w = .ok #[] w := fun w => run_firstCells_some w i.size 0 ⟨b, 0, none⟩ 0 cap [] (by simp) (by simp)
     simp [Builtin.append_, run_underlying ht, sizeOf, typeInfo, hi, Builtin.lenOf, hf, storeCells]
   · have hsm : n ≤ 9223372036854775807 := by simp only [maxLen] at h63; omega
     have hr := run_append_grow (P := P) w t ty e i z ht hi hz ⟨g, 0, none⟩ 0 0 [] (by simp) (by simp) ⟨b, 0, none⟩ n cap xs (by rw [hx.1, hsize]) (hx.cells (g := b) rfl) (by omega) (by omega) (by rw [hby]; exact growslice_fits (by omega) (by simpa using hbytes))
     simp only [Nat.zero_add] at hr
     have hge := grownCap_ge w n 0 e
     have hle := grownCap_le_maxLen w n 0 e h63
     refine ⟨_, _, hr, ⟨hx.1, .inr ⟨w.heap.size, _, _, rfl, Nat.zero_le _, heap_alloc_new w.drew _, hge, hle, ?_, ?_⟩⟩, (Below.refl _ _).drew.alloc (Nat.le_refl _) _, .inr rfl, fun _ => rfl⟩
     · simp only [Array.size_append, List.size_toArray, size_zeroCells, hzs, List.length_nil, Nat.zero_add, hx.1]
       rw [← Nat.add_mul]
       congr 1
       omega
     · simp only [Array.toList_append, List.nil_append]
       rw [← hx.1]
       exact List.take_left
theorem wpList_appendx {P : Program} {w : World} {ops : Array Oper} {rest : List Oper} {o : Oper} {a : Act} {Q : Exit → Act → World → Prop} (hgd : o.guard = none) (s x : Operand) (t e : TypeId)
 (ho : o.op = .call { callee := .builtin .append, args := #[s, x], argTypes := #[t, t] })
 (i : TypeInfo) (z : Value) (size bytes : Nat) (ht : P.underlying t = some (.slice e)) (hi : P.info? e = some i) (hz : i.zero = some z)
 (hsize : i.size = size) (hby : i.bytes = bytes) (hzs : z.cells.size = size) (hsz : 0 < size)
 (v : Value) (n : Nat) (xs : List Value) (hs : a.eval s = v) (hown : w.ownsRow 0 e size v n xs)
 (ad : Addr) (m c : Nat) (news : List Value) (hx : a.eval x = .slice (some ad) m c) (hl : news.length = m * size) (hnews : ∀ j u, news[j]? = some u → w.cell? (ad.add j) = some u) (h1 : ∀ u ∈ news, u.oneCell' = true)
 (h63 : n + m ≤ maxLen) (hbytes : (n + m) * bytes ≤ 140737488355328)
 (h : ∀ v' w', w'.ownsRow 0 e size v' (n + m) (xs ++ news) → w.grownBy w' v.ownBlock → (v'.ownBlock = v.ownBlock ∨ v'.ownBlock = some w.heap.size) → wpList P ops Q rest (a.put o.dst v') w') : wpList P ops Q (o :: rest) a w := by
 refine wpList_plain hgd fun K hK => ?_
 obtain ⟨v', w', hr, h2, h3, h4, _⟩ := run_append_x (P := P) w t o.type e i z size bytes ht hi hz hsize hby hzs hsz v n xs hown ad m c news hl hnews h1 h63 hbytes [] (by simp)
 unfold Oper.wp execOp
 simp only [ho, resolve, invoke, builtin, Sem.run_bind, Sem.run_pure, Result.andThen_ok, List.map_toArray, List.map_cons, List.map_nil, hs, hx, hr]
 exact hK _ _ (h v' w' h2 h3 h4)
theorem wpList_loadPart {P : Program} {w : World} {ops : Array Oper} {rest : List Oper} {o : Oper} {a : Act} {Q : Exit → Act → World → Prop} (hgd : o.guard = none) (ty : TypeId) (x : Operand) (ho : o.op = .load ty x)
 (ad : Addr) (hx : a.eval x = .pointer (some ad)) (cs : List Value) (C : Array Value) (hC : cs.toArray = C) (d : TypeDesc) (hc : ∀ j v, cs[j]? = some v → w.cell? (ad.add j) = some v)
 (hu : P.underlying ty = some d) (hd : (match d with | .struct _ | .array _ _ => true | _ => false) = true) (hi : (P.info? ty).map (·.size) = some cs.length)
 (h : wpList P ops Q rest (a.put o.dst (.agg C)) w) : wpList P ops Q (o :: rest) a w := by
 subst hC
 refine wpList_plain hgd fun K hK => ?_
 have hl := run_loadCells_list (P := P) w ad cs hc
 cases hq : P.info? ty with
 | none => simp [hq] at hi
 | some i =>
  have hs : i.size = cs.length := by simpa [hq] using hi
  have hagg : (isAgg ty).run P w = .ok true w := by
   unfold isAgg
   simp only [Sem.run_bind, run_underlying hu, Result.andThen_ok]
   cases d <;> simp at hd <;> rfl
  have hlv : (loadVar ty ad).run P w = .ok (.agg cs.toArray) w := by
   simp [loadVar, hagg, sizeOf, typeInfo, hq, hs, hl]
  unfold Oper.wp execOp
  simp only [ho, hx, Instr.loadAt, Instr.sureAddr, Sem.run_bind, Sem.run_pure, Result.andThen_ok, hlv, Oper.upon]
  exact hK _ _ h
end Go.Proofs.YtoppcpiheaedlaaGreatDoor
end
section
/-
  Maps: a block that is a map with these entries, no key twice, whatever their order; what is looked up, stored, taken away, counted, copied; a range over it, by what is still to come.
-/
namespace Go.Proofs.YtoppcpiheaedlaaGreatDoor
open Go.RowKit Go.Maps Go.MapKept
open Go.ChangeMaps (setBlock heap_setBlock_same heap_setBlock_other)
set_option linter.unusedSectionVars false
set_option linter.unusedVariables false
set_option linter.unusedSimpArgs false
section
variable {α β : Type} [DecidableEq α]
def findA : List (α × β) → α → Option β
 | [], _ => none
 | p :: r, a => if p.1 = a then some p.2 else findA r a
def delA (l : List (α × β)) (a : α) : List (α × β) := l.filter fun p => decide (p.1 ≠ a)
def putA (l : List (α × β)) (a : α) (b : β) : List (α × β) := delA l a ++ [(a, b)]
theorem findA_none : ∀ {l : List (α × β)} {a : α}, (∀ p ∈ l, p.1 ≠ a) → findA l a = none
 | [], _, _ => rfl
 | p :: r, a, h => by
  unfold findA
  rw [if_neg (h p (by simp)), findA_none fun q hq => h q (by simp [hq])]
theorem findA_none_iff {l : List (α × β)} {a : α} : findA l a = none ↔ ∀ p ∈ l, p.1 ≠ a := by
 refine ⟨fun h => ?_, findA_none⟩
 induction l with
 | nil => simp
 | cons p r ih =>
  unfold findA at h
  split at h
  · cases h
  · rename_i hp
    intro q hq
    rcases List.mem_cons.1 hq with rfl | hq
    · exact hp
    · exact ih h q hq
theorem findA_mem : ∀ {l : List (α × β)} {a : α} {b : β}, findA l a = some b → (a, b) ∈ l
 | [], _, _, h => by simp [findA] at h
 | p :: r, a, b, h => by
  unfold findA at h
  split at h
  · rename_i hp
    have : p = (a, b) := by
     obtain ⟨x, y⟩ := p
     simp at h hp
     rw [hp, h]
    rw [this]
    exact List.mem_cons_self
  · exact List.mem_cons_of_mem _ (findA_mem h)
theorem findA_of_mem : ∀ {l : List (α × β)} {a : α} {b : β}, (l.map (·.1)).Nodup → (a, b) ∈ l → findA l a = some b
 | [], _, _, _, h => by simp at h
 | p :: r, a, b, hn, h => by
  rw [List.map_cons, List.nodup_cons] at hn
  unfold findA
  rcases List.mem_cons.1 h with h | h
  · subst h; simp
  · have : p.1 ≠ a := fun e => hn.1 (by rw [e]; exact List.mem_map.2 ⟨_, h, rfl⟩)
    rw [if_neg this]
    exact findA_of_mem hn.2 h
theorem findA_perm {l l' : List (α × β)} (hp : l.Perm l') (hn : (l.map (·.1)).Nodup) (a : α) : findA l a = findA l' a := by
 have hn' : (l'.map (·.1)).Nodup := (hp.map (·.1)).nodup_iff.1 hn
 cases h : findA l a with
 | none => exact (findA_none fun p hp' => findA_none_iff.1 h p (hp.mem_iff.2 hp')).symm
 | some b => exact (findA_of_mem hn' (hp.mem_iff.1 (findA_mem h))).symm
def MapA (kv : α → Value) (vv : β → Value) (W : World) (b : Nat) (l : List (α × β)) : Prop :=
 ∃ es clock, W.heap[b]? = some (.map es clock) ∧ Stamped es clock ∧ es.size ≤ maxLen ∧ (es.toList.map fun e => (e.key, e.val)).Perm (l.map fun p => (kv p.1, vv p.2))
structure KeyA (P : Program) (k : TypeId) (kv : α → Value) (ok : α → Prop) : Prop where
 key : Keyed P k
 reads : ∀ a, ok a → ∃ l, keyOf P k (kv a) = some l
 inj : ∀ a b, kv a = kv b → a = b
variable {P : Program} {k : TypeId} {kv : α → Value} {vv : β → Value} {ok : α → Prop} {W : World} {b r : Nat} {l todo : List (α × β)}
theorem MapA.lt (h : MapA kv vv W b l) : b < W.heap.size := by
 obtain ⟨es, clock, hb, _⟩ := h
 exact (Array.getElem?_eq_some_iff.1 hb).1
theorem MapA.kept {W' : World} (h : MapA kv vv W b l) (hk : W'.heap[b]? = W.heap[b]?) : MapA kv vv W' b l := by
 obtain ⟨es, clock, hb, r⟩ := h
 exact ⟨es, clock, hk.trans hb, r⟩
theorem MapA.grows {W' : World} (h : MapA kv vv W b l) (g : Grows W W') : MapA kv vv W' b l := h.kept (g.block b h.lt)
theorem MapA.perm {l' : List (α × β)} (h : MapA kv vv W b l) (hp : l.Perm l') : MapA kv vv W b l' := by
 obtain ⟨es, clock, hb, hs, hm, h2⟩ := h
 exact ⟨es, clock, hb, hs, hm, h2.trans (hp.map _)⟩
theorem MapA.made (W : World) : MapA kv vv (W.alloc (.map #[] 0)) W.heap.size ([] : List (α × β)) :=
 ⟨#[], 0, heap_alloc_new W _, stamped_empty 0, by simp [maxLen], by simp⟩
theorem MapA.nodup (h : MapA kv vv W b l) : (l.map (·.1)).Nodup := by
 obtain ⟨es, clock, hb, hs, hm, h2⟩ := h
 have h3 : ((l.map fun p => (kv p.1, vv p.2)).map (·.1)).Nodup := ((h2.map (·.1)).nodup_iff).1 (by simpa [Function.comp_def] using hs.2.2)
 rw [List.map_map] at h3
 rw [List.Nodup, List.pairwise_map] at h3 ⊢
 exact h3.imp fun h e => h (by simp [e])
theorem MapA.findKey (h : MapA kv vv W b l) (K : KeyA P k kv ok) (hok : ∀ p ∈ l, ok p.1) (a : α) (ha : ok a) :
 ∃ es clock, W.heap[b]? = some (.map es clock) ∧ Stamped es clock ∧ es.size ≤ maxLen ∧ (es.toList.map fun e => (e.key, e.val)).Perm (l.map fun p => (kv p.1, vv p.2)) ∧
  (((Instr.findKey k (kv a) es.toList).run P W = .ok none W ∧ (∀ e ∈ es.toList, e.key ≠ kv a) ∧ findA l a = none) ∨
   ∃ j e c, (Instr.findKey k (kv a) es.toList).run P W = .ok (some (j, vv c)) W ∧ es.toList[j]? = some e ∧ e.key = kv a ∧ e.val = vv c ∧ findA l a = some c) := by
 have hn := h.nodup
 obtain ⟨es, clock, hb, hs, hm, h2⟩ := h
 obtain ⟨lx, hlx⟩ := K.reads a ha
 have hin : ∀ e ∈ es.toList, ∃ p ∈ l, kv p.1 = e.key ∧ vv p.2 = e.val := fun e he => by
  have := h2.mem_iff.1 (List.mem_map.2 ⟨e, he, rfl⟩)
  obtain ⟨p, hp, e1⟩ := List.mem_map.1 this
  simp only [Prod.mk.injEq] at e1
  exact ⟨p, hp, e1⟩
 have hrd : ∀ e ∈ es.toList, ∃ l, keyOf P k e.key = some l := fun e he => by
  obtain ⟨p, hp, h1, _⟩ := hin e he
  rw [← h1]
  exact K.reads p.1 (hok p hp)
 refine ⟨es, clock, hb, hs, hm, h2, ?_⟩
 rcases K.key.find W hlx es.toList hrd with ⟨h3, h4⟩ | ⟨j, e, h3, h4, h5⟩
 · refine .inl ⟨h3, h4, findA_none fun p hp he => ?_⟩
   have := h2.symm.mem_iff.1 (List.mem_map.2 ⟨p, hp, rfl⟩)
   obtain ⟨e, he', e1⟩ := List.mem_map.1 this
   simp only [Prod.mk.injEq] at e1
   exact h4 e he' (by rw [e1.1, he])
 · obtain ⟨p, hp, h6, h7⟩ := hin e (List.mem_of_getElem? h4)
   have hpa : p.1 = a := K.inj _ _ (h6.trans h5)
   refine .inr ⟨j, e, p.2, by rw [h7]; exact h3, h4, h5, h7.symm, findA_of_mem hn ?_⟩
   rw [← hpa]
   exact hp
theorem MapA.look {t e : TypeId} (h : MapA kv vv W b l) (K : KeyA P k kv ok) (hok : ∀ p ∈ l, ok p.1) (ht : P.underlying t = some (.map k e)) {z : Value} (hz : (zeroValue e).run P W = .ok z W) (c : Bool) (a : α) (ha : ok a) :
 (Instr.lookup t (.map (some b)) (kv a) c).run P W = .ok (match findA l a with
  | some x => if c then .tuple #[vv x, .bool true] else vv x
  | none => if c then .tuple #[z, .bool false] else z) W := by
 obtain ⟨es, clock, hb, hs, hm, h2, h3⟩ := h.findKey K hok a ha
 obtain ⟨lx, hlx⟩ := K.reads a ha
 rcases h3 with ⟨h3, _, h4⟩ | ⟨j, e0, x, h3, _, _, _, h4⟩
 · rw [h4]
   simp [Instr.lookup, run_underlying ht, MapKept.run_getObj_map hb, K.key.check W _ hlx, h3, hz, Result.andThen]
 · rw [h4]
   simp [Instr.lookup, run_underlying ht, MapKept.run_getObj_map hb, K.key.check W _ hlx, h3, Result.andThen]
theorem MapA.len {t e : TypeId} (h : MapA kv vv W b l) (ht : P.underlying t = some (.map k e)) (ty : TypeId) : (Builtin.len_ #[t] ty #[.map (some b)]).run P W = .ok (.int .i64 (l.length : Int)) W := by
 obtain ⟨es, clock, hb, hs, hm, h2⟩ := h
 have := h2.length_eq
 simp at this
 simp [Builtin.len_, run_underlying ht, MapKept.run_getObj_map hb, goInt, Result.andThen, this]
open Classical in
theorem perm_filter_key (K : ∀ a b, kv a = kv b → a = b) {E : List (Value × Value)} {l : List (α × β)} (h : E.Perm (l.map fun p => (kv p.1, vv p.2))) (a : α) :
 (E.filter fun e => decide (e.1 ≠ kv a)).Perm ((delA l a).map fun p => (kv p.1, vv p.2)) := by
 refine (h.filter _).trans ?_
 rw [List.filter_map]
 unfold delA
 have : (l.filter ((fun e : Value × Value => decide (e.1 ≠ kv a)) ∘ fun p => (kv p.1, vv p.2))) = l.filter fun p => decide (p.1 ≠ a) := by
  refine List.filter_congr fun p _ => ?_
  simp only [Function.comp_apply, decide_eq_decide]
  exact ⟨fun h e => h (by rw [e]), fun h e => h (K _ _ e)⟩
 rw [this]
open Classical in
theorem eraseIdx_filter : ∀ {es : List MapEntry} {j : Nat} {e : MapEntry}, es.Pairwise (fun x y => x.key ≠ y.key) → es[j]? = some e → es.eraseIdx j = es.filter fun x => decide (x.key ≠ e.key)
 | [], _, _, _, h => by simp at h
 | x :: r, 0, e, hp, h => by
  simp at h
  subst h
  obtain ⟨h1, _⟩ := List.pairwise_cons.1 hp
  rw [List.eraseIdx_cons_zero, List.filter_cons_of_neg (by simp)]
  exact (List.filter_eq_self.2 fun y hy => by simpa using (h1 y hy).symm).symm
 | x :: r, j + 1, e, hp, h => by
  obtain ⟨h1, h2⟩ := List.pairwise_cons.1 hp
  have h' : r[j]? = some e := by simpa using h
  have hne : x.key ≠ e.key := h1 e (List.mem_of_getElem? h')
  rw [List.eraseIdx_cons_succ, List.filter_cons_of_pos (by simpa using hne), eraseIdx_filter h2 h']
theorem setBlock_grown {es : Array MapEntry} {clock : Nat} (hb : W.heap[b]? = some (.map es clock)) (es' : Array MapEntry) (clock' : Nat) : W.grownBy (setBlock W b (.map es' clock')) (some b) :=
 ⟨rfl, rfl, rfl, by simp [setBlock], fun i _ hi => heap_setBlock_other hb _ (fun e => hi (by rw [e]))⟩
open Classical in
theorem MapA.put {t e : TypeId} (h : MapA kv vv W b l) (K : KeyA P k kv ok) (hok : ∀ p ∈ l, ok p.1) (ht : P.underlying t = some (.map k e)) (hn : l.length < maxLen) (a : α) (ha : ok a) (c : β) :
 ∃ W', (Instr.mapUpdate t (.map (some b)) (kv a) (vv c)).run P W = .ok () W' ∧ MapA kv vv W' b (putA l a c) ∧ W.grownBy W' (some b) ∧ W'.heap.size = W.heap.size := by
 obtain ⟨es, clock, hb, hs, hm, h2, h3⟩ := h.findKey K hok a ha
 obtain ⟨lx, hlx⟩ := K.reads a ha
 have hlen : es.size = l.length := by have := h2.length_eq; simpa using this
 have hst := (stamped_iff es clock).1 hs
 have hfil := perm_filter_key (vv := vv) K.inj h2 a
 rw [List.filter_map] at hfil
 rcases h3 with ⟨h3, h4, h5⟩ | ⟨j, e0, x, h3, h4, h5, h6, h7⟩
 · refine ⟨setBlock W b (.map (es.push ⟨kv a, vv c, clock⟩) (clock + 1)), by simp [Instr.mapUpdate, run_underlying ht, MapKept.run_getObj_map hb, K.key.check W false hlx, h3, MapKept.run_setObj_map _ hb, Result.andThen, setBlock],
    ⟨_, _, heap_setBlock_same hb _, stamped_push hs h4, by simp; omega, ?_⟩, setBlock_grown hb _ _, by simp [setBlock]⟩
   have hall : (es.toList.filter ((fun e : Value × Value => decide (e.1 ≠ kv a)) ∘ fun e => (e.key, e.val))) = es.toList := List.filter_eq_self.2 fun y hy => by simpa using h4 y hy
   rw [hall] at hfil
   simp only [Array.toList_push, List.map_append, List.map_cons, List.map_nil, putA]
   exact hfil.append_right _
 · have hj : es[j]? = some e0 := by simpa using h4
   have hjl : j < es.toList.length := (List.getElem?_eq_some_iff.1 h4).1
   have hkeyf : ∀ e', es[j]? = some e' → ({ e' with key := kv a, val := vv c } : MapEntry).key = e'.key := fun e' he' => by rw [hj] at he'; cases he'; exact h5.symm
   have hlist : (es.modify j (fun e' => { e' with key := kv a, val := vv c })).toList = es.toList.set j { e0 with key := kv a, val := vv c } := by rw [Array.toList_modify, Go.ChangeMaps.modify_eq_set _ _ _ _ h4]
   refine ⟨setBlock W b (.map (es.modify j fun e' => { e' with key := kv a, val := vv c }) clock), by simp [Instr.mapUpdate, run_underlying ht, MapKept.run_getObj_map hb, K.key.check W false hlx, h3, hj, h5, K.key.stays W hlx, MapKept.run_setObj_map _ hb, Result.andThen, setBlock],
    ⟨_, _, heap_setBlock_same hb _, stamped_modify hs _ _ (fun _ _ => rfl) (fun e' _ he' => hkeyf e' he'), by simpa using hm, ?_⟩, setBlock_grown hb _ _, by simp [setBlock]⟩
   rw [hlist, List.map_set]
   have he := eraseIdx_filter hst.2.2 h4
   have hp1 := Go.ChangeMaps.set_perm (es.toList.map fun e => (e.key, e.val)) j (by simpa using hjl) (kv a, vv c)
   refine hp1.trans ?_
   rw [← Go.ChangeMaps.map_eraseIdx, he, h5]
   simp only [putA, List.map_append, List.map_cons, List.map_nil]
   exact (hfil.cons _).trans (List.perm_append_singleton _ _).symm
open Classical in
theorem MapA.drop {t e : TypeId} (h : MapA kv vv W b l) (K : KeyA P k kv ok) (hok : ∀ p ∈ l, ok p.1) (ht : P.underlying t = some (.map k e)) (a : α) (ha : ok a) (ty : TypeId) :
 ∃ W', (Builtin.delete_ #[t, k] ty #[.map (some b), kv a]).run P W = .ok (.tuple #[]) W' ∧ MapA kv vv W' b (delA l a) ∧ W.grownBy W' (some b) ∧ W'.heap.size = W.heap.size := by
 obtain ⟨es, clock, hb, hs, hm, h2, h3⟩ := h.findKey K hok a ha
 obtain ⟨lx, hlx⟩ := K.reads a ha
 have hst := (stamped_iff es clock).1 hs
 have hfil := perm_filter_key (vv := vv) K.inj h2 a
 rw [List.filter_map] at hfil
 rcases h3 with ⟨h3, h4, h5⟩ | ⟨j, e0, x, h3, h4, h5, h6, h7⟩
 · refine ⟨setBlock W b (.map es clock), by simp [Builtin.delete_, run_underlying ht, MapKept.run_getObj_map hb, K.key.check W _ hlx, h3, MapKept.run_setObj_map _ hb, Result.andThen, setBlock],
    ⟨_, _, heap_setBlock_same hb _, hs, hm, ?_⟩, setBlock_grown hb _ _, by simp [setBlock]⟩
   have hall : (es.toList.filter ((fun e : Value × Value => decide (e.1 ≠ kv a)) ∘ fun e => (e.key, e.val))) = es.toList := List.filter_eq_self.2 fun y hy => by simpa using h4 y hy
   rwa [hall] at hfil
 · have hjl : j < es.toList.length := (List.getElem?_eq_some_iff.1 h4).1
   have hsub : (es.eraseIdxIfInBounds j).toList = es.toList.eraseIdx j := by
    unfold Array.eraseIdxIfInBounds
    rw [dif_pos (by simpa using hjl)]
    simp
   refine ⟨setBlock W b (.map (es.eraseIdxIfInBounds j) clock), by simp [Builtin.delete_, run_underlying ht, MapKept.run_getObj_map hb, K.key.check W _ hlx, h3, MapKept.run_setObj_map _ hb, Result.andThen, setBlock],
    ⟨_, _, heap_setBlock_same hb _, stamped_erase hs j, Nat.le_trans (MapFrom.size_erase es j) hm, ?_⟩, setBlock_grown hb _ _, by simp [setBlock]⟩
   rw [hsub, eraseIdx_filter hst.2.2 h4, h5]
   exact hfil
def RangeA (kv : α → Value) (vv : β → Value) (W : World) (b r : Nat) (l todo : List (α × β)) : Prop :=
 ∃ es clock since seen c0, W.heap[b]? = some (.map es clock) ∧ Stamped es clock ∧ es.size ≤ maxLen ∧ (es.toList.map fun e => (e.key, e.val)).Perm (l.map fun p => (kv p.1, vv p.2)) ∧
  W.heap[r]? = some (.mapIter (some b) since seen c0) ∧ (∀ x ∈ es.toList, x.born < since) ∧ since ≤ c0 ∧ since ≤ clock ∧
  ((leftOf es seen).toList.map fun e => (e.key, e.val)).Perm (todo.map fun p => (kv p.1, vv p.2))
theorem RangeA.map (h : RangeA kv vv W b r l todo) : MapA kv vv W b l := by
 obtain ⟨es, clock, since, seen, c0, hb, hs, hm, h2, _⟩ := h
 exact ⟨es, clock, hb, hs, hm, h2⟩
theorem RangeA.lt (h : RangeA kv vv W b r l todo) : r < W.heap.size := by
 obtain ⟨es, clock, since, seen, c0, hb, hs, hm, h2, hr, _⟩ := h
 exact (Array.getElem?_eq_some_iff.1 hr).1
theorem RangeA.ne (h : RangeA kv vv W b r l todo) : r ≠ b := by
 obtain ⟨es, clock, since, seen, c0, hb, hs, hm, h2, hr, _⟩ := h
 intro e
 rw [e, hb] at hr
 cases hr
theorem RangeA.cells {cs : Array Value} {T : TypeId} {fr : Nat × Nat} (h : RangeA kv vv W b r l todo) {j : Nat} (hj : W.heap[j]? = some (.cells cs T fr)) : r ≠ j := by
 obtain ⟨es, clock, since, seen, c0, hb, hs, hm, h2, hr, _⟩ := h
 intro e
 rw [e, hj] at hr
 cases hr
theorem MapA.cells {cs : Array Value} {T : TypeId} {fr : Nat × Nat} (h : MapA kv vv W b l) {j : Nat} (hj : W.heap[j]? = some (.cells cs T fr)) : b ≠ j := by
 obtain ⟨es, clock, hb, _⟩ := h
 intro e
 rw [e, hj] at hb
 cases hb
theorem RangeA.kept {W' : World} (h : RangeA kv vv W b r l todo) (hk : W'.heap[b]? = W.heap[b]?) (hr : W'.heap[r]? = W.heap[r]?) : RangeA kv vv W' b r l todo := by
 obtain ⟨es, clock, since, seen, c0, hb, hs, hm, h2, h3, rest⟩ := h
 exact ⟨es, clock, since, seen, c0, hk.trans hb, hs, hm, h2, hr.trans h3, rest⟩
theorem RangeA.grows {W' : World} (h : RangeA kv vv W b r l todo) (g : Grows W W') : RangeA kv vv W' b r l todo := h.kept (g.block b h.map.lt) (g.block r h.lt)
theorem MapA.range {t e : TypeId} (h : MapA kv vv W b l) (ht : P.underlying t = some (.map k e)) :
 ∃ W', (Instr.range t (.map (some b))).run P W = .ok (.pointer (some ⟨W.heap.size, 0, none⟩)) W' ∧ RangeA kv vv W' b W.heap.size l l ∧ Grows W W' ∧ W'.heap.size = W.heap.size + 1 := by
 have hlt := h.lt
 obtain ⟨es, clock, hb, hs, hm, h2⟩ := h
 refine ⟨_, run_range_map W t k e b es clock ht hb, ⟨es, clock, clock, #[], clock, ((MapKept.heap_alloc W _).2 b hlt).trans hb, hs, hm, h2, (MapKept.heap_alloc W _).1, hs.1, Nat.le_refl _, Nat.le_refl _, ?_⟩, Grows.alloc' W _, by simp⟩
 have e : (leftOf es #[]).toList = es.toList := by
  unfold leftOf
  rw [Array.toList_filter]
  exact List.filter_eq_self.2 fun x _ => by simp
 rw [e]
 exact h2
theorem perm_split {E : List (Value × Value)} {A B : List (Value × Value)} {x : Value × Value} {todo : List (α × β)} (h : (A ++ x :: B).Perm (todo.map fun p => (kv p.1, vv p.2))) :
 ∃ p todo', todo.Perm (p :: todo') ∧ (kv p.1, vv p.2) = x ∧ (A ++ B).Perm (todo'.map fun p => (kv p.1, vv p.2)) := by
 have hm : x ∈ todo.map fun p => (kv p.1, vv p.2) := h.mem_iff.1 (by simp)
 obtain ⟨p, hp, e⟩ := List.mem_map.1 hm
 obtain ⟨s, t, rfl⟩ := List.append_of_mem hp
 refine ⟨p, s ++ t, List.perm_middle, e, ?_⟩
 have h1 : (x :: (A ++ B)).Perm (x :: ((s ++ t).map fun p => (kv p.1, vv p.2))) := by
  refine (List.perm_middle (l₁ := A) (l₂ := B) (a := x)).symm.trans (h.trans ?_)
  rw [List.map_append, List.map_cons, e, List.map_append]
  exact List.perm_middle
 exact h1.cons_inv
theorem RangeA.next (h : RangeA kv vv W b r l todo) (ty : TypeId) :
 (todo = [] ∧ (Instr.next (.pointer (some ⟨r, 0, none⟩)) false ty).run P W = .ok (.tuple #[.bool false]) W) ∨
 ∃ p todo' W', todo.Perm (p :: todo') ∧ (Instr.next (.pointer (some ⟨r, 0, none⟩)) false ty).run P W = .ok (.tuple #[.bool true, kv p.1, vv p.2]) W' ∧ RangeA kv vv W' b r l todo' ∧ W.grownBy W' (some r) ∧ W'.heap.size = W.heap.size ∧
  (Instr.entry (.pointer (some ⟨r, 0, none⟩))).run P W' = .ok (.tuple #[kv p.1, vv p.2]) W' := by
 have hne := h.ne
 obtain ⟨es, clock, since, seen, c0, hb, hs, hm, h2, hr, hold, hsc, hsk, hl⟩ := h
 rcases run_next_at (P := P) W ty r b since c0 seen es clock hr hb hold hsc with ⟨h0, hrun⟩ | ⟨e, he, w1, hal, hrun⟩
 · left
   refine ⟨?_, hrun⟩
   have hE : leftOf es seen = #[] := Array.eq_empty_of_size_eq_zero h0
   rw [hE] at hl
   simpa using hl.length_eq.symm
 · right
   obtain ⟨hem, hes⟩ := mem_left he
   have hst := (stamped_iff es clock).1 hs
   obtain ⟨A, B, hAB⟩ := List.append_of_mem he
   have hl' := hl
   rw [hAB, List.map_append, List.map_cons] at hl'
   obtain ⟨p, todo', hp1, hp2, hp3⟩ := perm_split (E := []) hl'
   simp only [Prod.mk.injEq] at hp2
   have hr1 : w1.heap[r]? = some (.mapIter (some b) since seen c0) := by rcases hal with rfl | rfl <;> exact hr
   have hb1 : w1.heap[b]? = some (.map es clock) := by rcases hal with rfl | rfl <;> exact hb
   have hset := heap_set (o' := .mapIter (some b) since (seen.push e.born) clock) hr1
   have hb' : (setBlock w1 r (.mapIter (some b) since (seen.push e.born) clock)).heap[b]? = some (.map es clock) := (hset.2 b (fun e1 => hne e1.symm)).trans hb1
   refine ⟨p, todo', setBlock w1 r (.mapIter (some b) since (seen.push e.born) clock), hp1, ?_, ⟨es, clock, since, seen.push e.born, clock, hb', hs, hm, h2, hset.1, hold, hsk, hsk, ?_⟩, ?_, ?_, ?_⟩
   · rw [hp2.1, hp2.2]; exact hrun
   · have hnb : ((leftOf es seen).toList.map (·.born)).Nodup := by
      unfold leftOf
      rw [Array.toList_filter]
      exact (List.filter_sublist.map _).nodup hst.2.1
     have hsub : (leftOf es (seen.push e.born)).toList = A ++ B := by
      have h1 : (leftOf es (seen.push e.born)).toList = (leftOf es seen).toList.filter fun x => !(x.born == e.born) := by
       unfold leftOf
       rw [Array.toList_filter, Array.toList_filter, List.filter_filter]
       refine List.filter_congr fun x _ => ?_
       rw [contains_push]
       cases seen.contains x.born <;> cases (x.born == e.born) <;> rfl
      rw [h1, hAB]
      rw [hAB, List.map_append, List.map_cons, List.nodup_append] at hnb
      obtain ⟨n1, n2, n3⟩ := hnb
      rw [List.nodup_cons] at n2
      rw [List.filter_append, List.filter_cons_of_neg (by simp)]
      rw [List.filter_eq_self.2 fun x hx => ?_, List.filter_eq_self.2 fun x hx => ?_]
      · have : x.born ≠ e.born := fun e1 => n2.1 (by rw [← e1]; exact List.mem_map.2 ⟨x, hx, rfl⟩)
        simpa using this
      · have : x.born ≠ e.born := fun e1 => n3 x.born (List.mem_map.2 ⟨x, hx, rfl⟩) e.born (by simp) e1
        simpa using this
     rw [hsub, List.map_append]
     exact hp3
   · rcases hal with rfl | rfl <;> exact ⟨rfl, rfl, rfl, by simp [setBlock], fun i _ hi => hset.2 i (fun e1 => hi (by rw [e1]))⟩
   · rcases hal with rfl | rfl <;> simp [setBlock]
   · rw [hp2.1, hp2.2]
     exact run_entry_at _ r b since seen es clock e hset.1 hb' hem hst.2.1
theorem MapA.cloned (h : MapA kv vv W b l) : ∃ es clock, W.heap[b]? = some (.map es clock) ∧ MapA kv vv (W.alloc (.map es clock)) W.heap.size l := by
 obtain ⟨es, clock, hb, hs, hm, h2⟩ := h
 exact ⟨es, clock, hb, es, clock, heap_alloc_new W _, hs, hm, h2⟩
end
section
variable {α β : Type} [DecidableEq α] {P : Program} {k : TypeId} {kv : α → Value} {vv : β → Value} {ok : α → Prop} {w : World} {b : Nat} {l : List (α × β)} {ops : Array Oper} {rest : List Oper} {o : Oper} {a : Act} {Q : Exit → Act → World → Prop}
theorem wpList_lookA (hg : o.guard = none) (m x : Operand) (t e : TypeId) (c : Bool) (hop : o.op = Op.lookup t m x c) (h : MapA kv vv w b l) (K : KeyA P k kv ok) (hok : ∀ p ∈ l, ok p.1) (ht : P.underlying t = some (.map k e)) (z : Value) (hz : (zeroValue e).run P w = .ok z w)
 (y : α) (ha : ok y) (hm : a.eval m = .map (some b)) (hx : a.eval x = kv y) (v : Value) (hv : (match findA l y with
  | some x => if c then .tuple #[vv x, .bool true] else vv x
  | none => if c then .tuple #[z, .bool false] else z) = v)
 (hK : wpList P ops Q rest (a.put o.dst v) w) : wpList P ops Q (o :: rest) a w := by
 subst hv
 refine wpList_plain hg fun K' hK' => ?_
 have hrun := h.look K hok ht hz c y ha
 unfold Oper.wp
 simp [execOp, hop, hm, hx, hrun, Result.andThen]
 exact hK' _ _ hK
theorem wpList_putA (hg : o.guard = none) (m x v : Operand) (t e : TypeId) (hop : o.op = Op.mapUpdate t m x v) (h : MapA kv vv w b l) (K : KeyA P k kv ok) (hok : ∀ p ∈ l, ok p.1) (ht : P.underlying t = some (.map k e)) (hn : l.length < maxLen)
 (y : α) (ha : ok y) (c : β) (hm : a.eval m = .map (some b)) (hx : a.eval x = kv y) (hv : a.eval v = vv c)
 (hK : ∀ w', MapA kv vv w' b (putA l y c) → w.grownBy w' (some b) → w'.heap.size = w.heap.size → wpList P ops Q rest (a.put o.dst undef) w') : wpList P ops Q (o :: rest) a w := by
 refine wpList_plain hg fun K' hK' => ?_
 obtain ⟨w', hrun, h1, h2, h3⟩ := h.put K hok ht hn y ha c
 unfold Oper.wp
 simp [execOp, hop, hm, hx, hv, hrun, Result.andThen]
 exact hK' _ _ (hK w' h1 h2 h3)
theorem wpList_dropA (hg : o.guard = none) (m x : Operand) (t e : TypeId) (hop : o.op = Op.call { callee := Callee.builtin Builtin.delete, args := #[m, x], argTypes := #[t, k] }) (h : MapA kv vv w b l) (K : KeyA P k kv ok) (hok : ∀ p ∈ l, ok p.1) (ht : P.underlying t = some (.map k e))
 (y : α) (ha : ok y) (hm : a.eval m = .map (some b)) (hx : a.eval x = kv y)
 (hK : ∀ w', MapA kv vv w' b (delA l y) → w.grownBy w' (some b) → w'.heap.size = w.heap.size → wpList P ops Q rest (a.put o.dst (.tuple #[])) w') : wpList P ops Q (o :: rest) a w := by
 refine wpList_plain hg fun K' hK' => ?_
 obtain ⟨w', hrun, h1, h2, h3⟩ := h.drop K hok ht y ha o.type
 unfold Oper.wp
 simp [execOp, hop, resolve, invoke, builtin, hm, hx, hrun, Result.andThen]
 exact hK' _ _ (hK w' h1 h2 h3)
theorem wpList_lenA (hg : o.guard = none) (m : Operand) (t e : TypeId) (hop : o.op = Op.call { callee := Callee.builtin Builtin.len, args := #[m], argTypes := #[t] }) (h : MapA kv vv w b l) (ht : P.underlying t = some (.map k e)) (hm : a.eval m = .map (some b))
 (hK : wpList P ops Q rest (a.put o.dst (.int .i64 (l.length : Int))) w) : wpList P ops Q (o :: rest) a w := by
 refine wpList_plain hg fun K' hK' => ?_
 have hrun := h.len ht o.type
 unfold Oper.wp
 simp [execOp, hop, resolve, invoke, builtin, hm, hrun, Result.andThen]
 exact hK' _ _ hK
theorem wpList_rangeA (hg : o.guard = none) (m : Operand) (t e : TypeId) (hop : o.op = Op.range t m) (h : MapA kv vv w b l) (ht : P.underlying t = some (.map k e)) (hm : a.eval m = .map (some b))
 (hK : ∀ w', RangeA kv vv w' b w.heap.size l l → Grows w w' → w'.heap.size = w.heap.size + 1 → wpList P ops Q rest (a.put o.dst (.pointer (some ⟨w.heap.size, 0, none⟩))) w') : wpList P ops Q (o :: rest) a w := by
 refine wpList_plain hg fun K' hK' => ?_
 obtain ⟨w', hrun, h1, h2, h3⟩ := h.range (P := P) ht
 unfold Oper.wp
 simp [execOp, hop, hm, hrun, Result.andThen]
 exact hK' _ _ (hK w' h1 h2 h3)
theorem wpList_nextA (hg : o.guard = none) (it : Operand) (hop : o.op = Op.next it false) (r : Nat) (todo : List (α × β)) (h : RangeA kv vv w b r l todo) (hit : a.eval it = .pointer (some ⟨r, 0, none⟩))
 (hDone : todo = [] → wpList P ops Q rest (a.put o.dst (.tuple #[.bool false])) w)
 (hMore : ∀ p todo' w', todo.Perm (p :: todo') → RangeA kv vv w' b r l todo' → w.grownBy w' (some r) → w'.heap.size = w.heap.size → (Instr.entry (.pointer (some ⟨r, 0, none⟩))).run P w' = .ok (.tuple #[kv p.1, vv p.2]) w' →
  wpList P ops Q rest (a.put o.dst (.tuple #[.bool true, kv p.1, vv p.2])) w') : wpList P ops Q (o :: rest) a w := by
 refine wpList_plain hg fun K' hK' => ?_
 unfold Oper.wp
 rcases h.next (P := P) o.type with ⟨h0, hrun⟩ | ⟨p, todo', w', h1, hrun, h2, h3, h4, h5⟩
 · simp [execOp, hop, hit, hrun, Result.andThen]
   exact hK' _ _ (hDone h0)
 · simp [execOp, hop, hit, hrun, Result.andThen]
   exact hK' _ _ (hMore p todo' w' h1 h2 h3 h4 h5)
end
def okS (s : List UInt8) : Prop := s.length ≤ maxLen
def okI (n : Nat) : Prop := n < 9223372036854775808
theorem sv_inj (a b : List UInt8) (h : sv a = sv b) : a = b := by
 unfold sv at h
 simp at h
 exact h
theorem nv_inj (a b : Nat) (h : nv a = nv b) : a = b := by
 unfold nv at h
 simp at h
 omega
theorem keyS {P : Program} {k : TypeId} (hk : P.underlying k = some .string) : KeyA P k sv okS where
 key := string_keyed hk
 reads := fun a ha => ⟨_, Go.WideMaps.keyOf_string_mk hk (s := ⟨a.toArray⟩) (by show a.toArray.size ≤ maxLen; simpa [okS] using ha)⟩
 inj := sv_inj
theorem keyI {P : Program} {k : TypeId} (hk : P.underlying k = some (.int .i64)) : KeyA P k nv okI where
 key := int_keyed hk
 reads := fun a ha => ⟨_, keyOf_int_mk hk (by unfold okI at ha; simp [Lit.wf, IntKind.min, IntKind.max, IntKind.bits, IntKind.signed]; omega)⟩
 inj := nv_inj
end Go.Proofs.YtoppcpiheaedlaaGreatDoor
end
section
/-
  The numbers of vint, as plain functions.
-/
namespace Go.Proofs.YtoppcpiheaedlaaGreatDoor
def putL : Nat → Nat → List UInt8
 | 0, n => [UInt8.ofNat n]
 | k + 1, n => if n < 128 then [UInt8.ofNat n] else UInt8.ofNat (n % 128 + 128) :: putL k (n / 128)
def put (n : Nat) : List UInt8 := putL 9 n
end Go.Proofs.YtoppcpiheaedlaaGreatDoor
end
section
/-
  A disk of files as a pure state, and what each call does to it.
-/
namespace Go.Proofs.YtoppcpiheaedlaaGreatDoor
abbrev Nm := List UInt8
structure Chg where
 kind : Nat
 a : Nm
 b : Nm
 id : Nat
structure Wr where
 id : Nat
 n : Nat
 p : List UInt8
structure Ds where
 room : Nat
 dir : List (Nm × Nat)
 chs : List Chg
 fls : List (List (List UInt8))
 wrs : List Wr
 armed : Bool
 after : Int
 code : Int
def nmByte (c : UInt8) : Bool := (decide (97 ≤ c.toNat) && decide (c.toNat ≤ 122)) || (decide (48 ≤ c.toNat) && decide (c.toNat ≤ 57)) || c == 46
def nameOK (s : Nm) : Bool := decide (1 ≤ s.length) && decide (s.length ≤ 16) && s.all nmByte
def chgE (c : Chg) (e : Nm × Nat) : List (Nm × Nat) :=
 if e.1 = c.a ∧ c.kind = 2 then [(c.b, e.2)] else if e.1 = c.a ∨ (c.kind = 2 ∧ e.1 = c.b) then [] else [e]
def chgF (d : List (Nm × Nat)) (c : Chg) : List (Nm × Nat) :=
 if c.kind = 0 then d ++ [(c.a, c.id)] else if c.kind = 2 ∧ c.a = c.b then d else d.flatMap (chgE c)
def nowF (s : Ds) : List (Nm × Nat) := s.chs.foldl chgF s.dir
def findF : List (Nm × Nat) → Nm → Option Nat
 | [], _ => none
 | e :: r, nm => if e.1 = nm then some e.2 else findF r nm
def idF (s : Ds) (nm : Nm) : Option Nat := findF (nowF s) nm
def secs (s : Ds) (id : Nat) : List (List UInt8) := s.fls.getD id []
def zero64 : List UInt8 := List.replicate 64 0
def newF (room : Nat) : Ds := ⟨room, [], [], [], [], false, 0, 0⟩
def failsF (s : Ds) : Int × Ds :=
 if s.armed = false then (0, s) else if 0 < s.after then (0, { s with after := s.after - 1 }) else (s.code, { s with armed := false })
def guardF (s : Ds) (k : Ds → Int × Ds) : Int × Ds := if (failsF s).1 ≠ 0 then failsF s else k (failsF s).2
def createF (s : Ds) (nm : Nm) : Int × Ds := guardF s fun s =>
 if nameOK nm = false then (2, s) else if (idF s nm).isSome then (40, s) else if 8 ≤ (nowF s).length then (6, s)
 else (0, { s with fls := s.fls ++ [[]], chs := s.chs ++ [⟨0, nm, [], s.fls.length⟩] })
def removeF (s : Ds) (nm : Nm) : Int × Ds := guardF s fun s =>
 if (idF s nm).isNone then (7, s) else (0, { s with chs := s.chs ++ [⟨1, nm, [], 0⟩] })
def renameF (s : Ds) (a b : Nm) : Int × Ds := guardF s fun s =>
 if (idF s a).isNone then (7, s) else if nameOK b = false then (2, s) else (0, { s with chs := s.chs ++ [⟨2, a, b, 0⟩] })
def usedF (s : Ds) : Nat := ((nowF s).map fun e => (secs s e.2).length).sum
def growF (s : Ds) (nm : Nm) (n : Int) : Int × Ds := guardF s fun s =>
 match idF s nm with
 | none => (7, s)
 | some id =>
  if n < (secs s id).length ∨ 4096 < n then (2, s)
  else if (s.room : Int) < (usedF s : Int) + n - (secs s id).length then (42, s)
  else (0, { s with fls := s.fls.set id (secs s id ++ List.replicate (n.toNat - (secs s id).length) zero64) })
def writeF (s : Ds) (nm : Nm) (n : Int) (p : List UInt8) : Int × Ds := guardF s fun s =>
 match idF s nm with
 | none => (7, s)
 | some id =>
  if n < 0 ∨ ((secs s id).length : Int) ≤ n then (43, s)
  else if p.length ≠ 64 then (2, s)
  else (0, { s with wrs := s.wrs ++ [⟨id, n.toNat, p⟩] })
def lastF (ws : List Wr) (id n : Nat) (p : List UInt8) : List UInt8 :=
 ws.foldl (fun p w => if w.id = id ∧ w.n = n then w.p else p) p
def lookF (s : Ds) (nm : Nm) (n : Int) : List UInt8 × Int :=
 match idF s nm with
 | none => ([], 7)
 | some id => if n < 0 ∨ ((secs s id).length : Int) ≤ n then ([], 43) else (lastF s.wrs id n.toNat ((secs s id).getD n.toNat []), 0)
def readF (s : Ds) (nm : Nm) (n : Int) : (List UInt8 × Int) × Ds :=
 if (failsF s).1 ≠ 0 then (([], (failsF s).1), (failsF s).2) else (lookF (failsF s).2 nm n, (failsF s).2)
def keepF (f : List (List (List UInt8))) (w : Wr) : List (List (List UInt8)) := f.set w.id ((f.getD w.id []).set w.n w.p)
def syncF (s : Ds) (nm : Nm) : Int × Ds := guardF s fun s =>
 match idF s nm with
 | none => (7, s)
 | some id => (0, { s with fls := (s.wrs.filter fun w => w.id == id).foldl keepF s.fls, wrs := s.wrs.filter fun w => !(w.id == id) })
def syncDirF (s : Ds) : Int × Ds := guardF s fun s => (0, { s with dir := nowF s, chs := [] })
def armF (s : Ds) (after code : Int) : Ds := { s with armed := decide (0 ≤ after) && (code == 41 || code == 42), after := after, code := code }
def keptF (keep : List Int) : List Wr → Nat → List Wr
 | [], _ => []
 | w :: r, i => if (i : Int) ∈ keep then w :: keptF keep r (i + 1) else keptF keep r (i + 1)
def crashF (s : Ds) (n : Int) (keep : List Int) : Ds :=
 { s with dir := (s.chs.take n.toNat).foldl chgF s.dir, chs := [], fls := (keptF keep s.wrs 0).foldl keepF s.fls, wrs := [], armed := false }
def lenF (s : Ds) (nm : Nm) : Nat × Int := match idF s nm with | none => (0, 7) | some id => ((secs s id).length, 0)
structure Wf (s : Ds) : Prop where
 dir : ∀ e ∈ s.dir, e.2 < s.fls.length
 chs : ∀ c ∈ s.chs, c.kind = 0 → c.id < s.fls.length
 wrs : ∀ w ∈ s.wrs, w.id < s.fls.length ∧ w.n < (secs s w.id).length ∧ w.p.length = 64
 sec : ∀ f ∈ s.fls, f.length ≤ 4096 ∧ ∀ p ∈ f, p.length = 64
 room : s.room ≤ 4096
theorem chgE_ids (c : Chg) (e x : Nm × Nat) (h : x ∈ chgE c e) : x.2 = e.2 := by
 unfold chgE at h
 split at h
 · simp at h; rw [h]
 · split at h
   · simp at h
   · simp at h; rw [h]
theorem chgF_ids (d : List (Nm × Nat)) (c : Chg) (n : Nat) (hd : ∀ e ∈ d, e.2 < n) (hc : c.kind = 0 → c.id < n) : ∀ e ∈ chgF d c, e.2 < n := by
 intro e he
 unfold chgF at he
 split at he
 · rename_i h0
   rcases List.mem_append.1 he with h | h
   · exact hd e h
   · simp at h; rw [h]; exact hc h0
 · split at he
   · exact hd e he
   · obtain ⟨x, hx, hy⟩ := List.mem_flatMap.1 he
     rw [chgE_ids c x e hy]
     exact hd x hx
theorem foldl_ids (n : Nat) : ∀ (cs : List Chg) (d : List (Nm × Nat)), (∀ e ∈ d, e.2 < n) → (∀ c ∈ cs, c.kind = 0 → c.id < n) → ∀ e ∈ cs.foldl chgF d, e.2 < n
 | [], d, hd, _ => hd
 | c :: r, d, hd, hc => foldl_ids n r (chgF d c) (chgF_ids d c n hd (hc c (by simp))) (fun x hx => hc x (by simp [hx]))
theorem Wf.now {s : Ds} (h : Wf s) : ∀ e ∈ nowF s, e.2 < s.fls.length := foldl_ids _ s.chs s.dir h.dir h.chs
theorem findF_mem : ∀ (l : List (Nm × Nat)) (nm : Nm) (i : Nat), findF l nm = some i → ∃ e ∈ l, e.1 = nm ∧ e.2 = i
 | [], _, _, h => by simp [findF] at h
 | e :: r, nm, i, h => by
  unfold findF at h
  split at h
  · rename_i h1
    exact ⟨e, by simp, h1, by simpa using h⟩
  · obtain ⟨x, hx, h2⟩ := findF_mem r nm i h
    exact ⟨x, by simp [hx], h2⟩
theorem Wf.id {s : Ds} (h : Wf s) {nm : Nm} {i : Nat} (hi : idF s nm = some i) : i < s.fls.length := by
 obtain ⟨e, he, _, h2⟩ := findF_mem _ _ _ hi
 rw [← h2]
 exact h.now e he
end Go.Proofs.YtoppcpiheaedlaaGreatDoor
end
section
/-
  The program's disk as a pure state, and what each call makes of it.
-/
namespace Go.Proofs.YtoppcpiheaedlaaGreatDoor
abbrev Dir := List (Nm × Nat)
abbrev Sec := List UInt8
structure Ps where
 room : Nat
 dirs : List Dir
 files : List (Nat × (List Sec × List Sec))
 made : Nat
 pend : List Wr
 first : Int
 code : Int
def nowP (s : Ps) : Dir := s.dirs.getLastD []
def newP (room : Nat) : Ps := ⟨room, [[]], [], 0, [], 0, 0⟩
def fileP (s : Ps) (n : Nat) : List Sec × List Sec := (findA s.files n).getD ([], [])
def beginP (s : Ps) : Int × Ps :=
 if s.code = 0 then (0, s) else if 0 < s.first then (0, { s with first := s.first - 1 }) else (s.code, { s with first := 0, code := 0 })
def guardP (s : Ps) (k : Ps → Int × Ps) : Int × Ps := if (beginP s).1 ≠ 0 then beginP s else k (beginP s).2
def createP (s : Ps) (nm : Nm) : Int × Ps := guardP s fun s =>
 if nameOK nm = false then (2, s) else if (findA (nowP s) nm).isSome then (40, s) else if 8 ≤ (nowP s).length then (6, s)
 else (0, { s with dirs := s.dirs ++ [putA (nowP s) nm (s.made + 1)], files := s.files ++ [(s.made + 1, ([], []))], made := s.made + 1 })
def removeP (s : Ps) (nm : Nm) : Int × Ps := guardP s fun s =>
 if (findA (nowP s) nm).isNone then (7, s) else (0, { s with dirs := s.dirs ++ [delA (nowP s) nm] })
def renameP (s : Ps) (a b : Nm) : Int × Ps := guardP s fun s =>
 match findA (nowP s) a with
 | none => (7, s)
 | some n => if nameOK b = false then (2, s) else (0, { s with dirs := s.dirs ++ [putA (delA (nowP s) a) b n] })
def takenP (s : Ps) : Nat := ((nowP s).map fun e => (fileP s e.2).1.length).sum
def setFile (l : List (Nat × (List Sec × List Sec))) (n : Nat) (f : List Sec × List Sec) : List (Nat × (List Sec × List Sec)) := l.map fun e => if e.1 = n then (n, f) else e
def growP (s : Ps) (nm : Nm) (n : Int) : Int × Ps := guardP s fun s =>
 match findA (nowP s) nm with
 | none => (7, s)
 | some k =>
  if n < (fileP s k).1.length ∨ 4096 < n then (2, s)
  else if (s.room : Int) < (takenP s : Int) + (n - (fileP s k).1.length) then (42, s)
  else (0, { s with files := setFile s.files k ((fileP s k).1 ++ List.replicate (n.toNat - (fileP s k).1.length) zero64, (fileP s k).2 ++ List.replicate (n.toNat - (fileP s k).1.length) zero64) })
def writeP (s : Ps) (nm : Nm) (n : Int) (p : Sec) : Int × Ps := guardP s fun s =>
 match findA (nowP s) nm with
 | none => (7, s)
 | some k =>
  if n < 0 ∨ ((fileP s k).1.length : Int) ≤ n then (43, s)
  else if p.length ≠ 64 then (2, s)
  else (0, { s with files := setFile s.files k ((fileP s k).1.set n.toNat p, (fileP s k).2), pend := s.pend ++ [⟨k, n.toNat, p⟩] })
def readP (s : Ps) (nm : Nm) (n : Int) : (Sec × Int) × Ps :=
 if (beginP s).1 ≠ 0 then (([], (beginP s).1), (beginP s).2) else
 match findA (nowP (beginP s).2) nm with
 | none => (([], 7), (beginP s).2)
 | some k => if n < 0 ∨ ((fileP (beginP s).2 k).1.length : Int) ≤ n then (([], 43), (beginP s).2) else (((fileP (beginP s).2 k).1.getD n.toNat [], 0), (beginP s).2)
def syncP (s : Ps) (nm : Nm) : Int × Ps := guardP s fun s =>
 match findA (nowP s) nm with
 | none => (7, s)
 | some k => (0, { s with files := setFile s.files k ((fileP s k).1, (fileP s k).1), pend := s.pend.filter fun w => !(w.id == k) })
def settleP (s : Ps) (d : Dir) : Ps := { s with dirs := [d], files := s.files.filter fun f => d.any fun e => e.2 == f.1 }
def syncDirP (s : Ps) : Int × Ps := guardP s fun s => (0, settleP s (nowP s))
def armP (s : Ps) (after code : Int) : Ps := if 0 ≤ after ∧ (code = 41 ∨ code = 42) then { s with first := after, code := code } else { s with first := 0, code := 0 }
def keepP (l : List (Nat × (List Sec × List Sec))) (w : Wr) : List (Nat × (List Sec × List Sec)) := l.map fun e => if e.1 = w.id then (e.1, (e.2.1, e.2.2.set w.n w.p)) else e
def whichP (s : Ps) (n : Int) : Nat := min n.toNat (s.dirs.length - 1)
def crashP (s : Ps) (n : Int) (keep : List Int) : Ps :=
 { settleP s (s.dirs.getD (whichP s n) []) with
   files := ((keptF keep s.pend 0).foldl keepP (settleP s (s.dirs.getD (whichP s n) [])).files).map fun e => (e.1, (e.2.2, e.2.2)), pend := [], first := 0, code := 0 }
def lenP (s : Ps) (nm : Nm) : Nat × Int := match findA (nowP s) nm with | none => (0, 7) | some k => ((fileP s k).1.length, 0)
end Go.Proofs.YtoppcpiheaedlaaGreatDoor
end
section
/-
  What is owned, what reads as bytes, where their own blocks are as they were.
-/
namespace Go.Proofs.YtoppcpiheaedlaaGreatDoor
open Go.RowKit
set_option linter.unusedVariables false
set_option linter.unusedSimpArgs false
theorem byt_own {W W' : World} {v : Value} {l : List UInt8} (h : Byt W v l) (hk : ∀ k, v.ownBlock = some k → W'.heap[k]? = W.heap[k]?) : Byt W' v l := by
 obtain ⟨a, cap, rfl, h1, h2, h3, h4⟩ := h
 refine ⟨a, cap, rfl, h1, h2, h3, h4.imp id ?_⟩
 rintro ⟨b, off, rfl, hc⟩
 exact ⟨b, off, rfl, fun i hi => (World.cell?_of_block (a := ⟨b, off + i, none⟩) (hk b rfl)).trans (hc i hi)⟩
theorem own_own {W W' : World} {B e k n : Nat} {v : Value} {xs : List Value} (h : W.ownsRow B e k v n xs) (hk : ∀ j, v.ownBlock = some j → W'.heap[j]? = W.heap[j]?) : W'.ownsRow B e k v n xs := by
 refine ⟨h.1, ?_⟩
 rcases h.2 with h' | ⟨g, cap, cur, rfl, hb, hg, rest⟩
 · exact .inl h'
 · exact .inr ⟨g, cap, cur, rfl, hb, (hk g rfl).trans hg, rest⟩
theorem getD_mem {α : Type} (l : List α) (i : Nat) (d : α) (h : i < l.length) : l.getD i d ∈ l := by
 rw [List.getD, List.getElem?_eq_getElem h, Option.getD_some]
 exact List.getElem_mem h
theorem byt_lt {W : World} {v : Value} {l : List UInt8} (h : Byt W v l) (h0 : 0 < l.length) (k : Nat) (hk : v.ownBlock = some k) : k < W.heap.size := by
 obtain ⟨a, cap, rfl, h1, h2, h3, h4⟩ := h
 rcases h4 with rfl | ⟨b, off, rfl, hc⟩
 · simp at h0
 · simp [Value.ownBlock] at hk
   subst hk
   exact World.block_lt_of_cell? W _ (hc 0 h0)
end Go.Proofs.YtoppcpiheaedlaaGreatDoor
end
section
/-
  What stands for the program's disk in the world.
-/
namespace Go.Proofs.YtoppcpiheaedlaaGreatDoor
open Go.RowKit Go.MapKept
set_option linter.unusedVariables false
set_option linter.unusedSimpArgs false
def pv (b : Nat) : Value := .pointer (some ⟨b, 0, none⟩)
def mv (b : Nat) : Value := .map (some b)
def secC (p : Sec) : List Value := p.map bv
def wpC (w : Wr) : List Value := nv w.id :: nv w.n :: w.p.map bv
structure Fi where
 num : Nat
 blk : Nat
 vn : Value
 vs : Value
 now : List Sec
 safe : List Sec
def Fi.ent (f : Fi) : Nat × Nat := (f.num, f.blk)
def Fi.pure (f : Fi) : Nat × (List Sec × List Sec) := (f.num, (f.now, f.safe))
structure Px where
 room : Nat
 vd : Value
 dirs : List (Nat × Dir)
 fm : Nat
 fs : List Fi
 made : Nat
 vp : Value
 pend : List Wr
 first : Int
 code : Int
def Px.s (x : Px) : Ps := ⟨x.room, x.dirs.map (·.2), x.fs.map Fi.pure, x.made, x.pend, x.first, x.code⟩
def pdRow (x : Px) : Array Value := #[nv x.room, x.vd, mv x.fm, nv x.made, x.vp, .int .i64 x.first, .int .i64 x.code]
def FiRows (f : Fi) (k : Nat) : Prop := f.vn.ownBlock = some k ∨ f.vs.ownBlock = some k
structure FiOk (W : World) (f : Fi) : Prop where
 row : W.heap[f.blk]? = some (.cells #[f.vn, f.vs] 113 (0, 0))
 now : W.ownsRow 0 106 64 f.vn f.now.length (f.now.flatMap secC)
 safe : W.ownsRow 0 106 64 f.vs f.safe.length (f.safe.flatMap secC)
 len : f.safe.length = f.now.length
 now64 : ∀ p ∈ f.now, p.length = 64
 safe64 : ∀ p ∈ f.safe, p.length = 64
 le : f.now.length ≤ 4096
 apart : ∀ k, f.vn.ownBlock = some k → f.vs.ownBlock ≠ some k
def Apart (f g : Fi) : Prop := f.blk ≠ g.blk ∧ ∀ k, FiRows f k → ¬ FiRows g k
structure Files (W : World) (fm : Nat) (fs : List Fi) : Prop where
 map : MapA nv pv W fm (fs.map Fi.ent)
 ok : ∀ f ∈ fs, FiOk W f
 apart : ∀ f ∈ fs, ∀ g ∈ fs, f.num ≠ g.num → Apart f g
structure Dirs (W : World) (vd : Value) (dirs : List (Nat × Dir)) : Prop where
 row : W.ownsRow 0 103 1 vd dirs.length (dirs.map fun d => mv d.1)
 map : ∀ d ∈ dirs, MapA sv nv W d.1 d.2
def Pend (W : World) (vp : Value) (pend : List Wr) : Prop := W.ownsRow 0 108 66 vp pend.length (pend.flatMap wpC)
structure WfP (x : Px) : Prop where
 room : x.room ≤ 4096
 ne : x.dirs ≠ []
 names : ∀ d ∈ x.dirs, d.2.length ≤ 8 ∧ ∀ e ∈ d.2, nameOK e.1 = true ∧ ∃ f ∈ x.fs, f.num = e.2
 nums : ∀ f ∈ x.fs, f.num ≤ x.made
 pend : ∀ w ∈ x.pend, w.p.length = 64 ∧ w.id ≤ x.made ∧ w.n < 4096 ∧ ∀ f ∈ x.fs, f.num = w.id → w.n < f.now.length
 first : -9223372036854775808 ≤ x.first ∧ x.first ≤ 9223372036854775807
 small : x.dirs.length ≤ 1000000 ∧ x.fs.length ≤ 1000000 ∧ x.pend.length ≤ 1000000 ∧ x.made ≤ 1000000
structure PD (W : World) (q : Nat) (x : Px) : Prop where
 row : W.heap[q]? = some (.cells (pdRow x) 100 (0, 0))
 dirs : Dirs W x.vd x.dirs
 files : Files W x.fm x.fs
 pend : Pend W x.vp x.pend
 fnd : ∀ d ∈ x.dirs, d.1 ≠ x.fm
 wf : WfP x
def dUse (x : Px) (k : Nat) : Prop := x.vd.ownBlock = some k ∨ ∃ d ∈ x.dirs, k = d.1
def fUse (x : Px) (k : Nat) : Prop := k = x.fm ∨ ∃ f ∈ x.fs, k = f.blk ∨ FiRows f k
def pUse (x : Px) (k : Nat) : Prop := x.vp.ownBlock = some k
def mutP (q : Nat) (x : Px) (k : Nat) : Prop := k = q ∨ x.vd.ownBlock = some k ∨ fUse x k ∨ pUse x k
def useP (q : Nat) (x : Px) (k : Nat) : Prop := k = q ∨ dUse x k ∨ fUse x k ∨ pUse x k
theorem mut_use {q : Nat} {x : Px} {k : Nat} (h : mutP q x k) : useP q x k := by
 rcases h with h | h | h | h
 · exact .inl h
 · exact .inr (.inl (.inl h))
 · exact .inr (.inr (.inl h))
 · exact .inr (.inr (.inr h))
def kindAt (W : World) (k : Nat) : Option (Option TypeId) := match W.heap[k]? with
 | some (.cells _ T _) => some (some T)
 | some (.map _ _) => some none
 | _ => none
theorem kind_cells {W : World} {k : Nat} {cs : Array Value} {T : TypeId} {fr : Nat × Nat} (h : W.heap[k]? = some (.cells cs T fr)) : kindAt W k = some (some T) := by unfold kindAt; rw [h]
theorem kind_map {α β : Type} {kv : α → Value} {vv : β → Value} {W : World} {b : Nat} {l : List (α × β)} (h : MapA kv vv W b l) : kindAt W b = some none := by
 obtain ⟨es, clock, hb, _⟩ := h
 unfold kindAt; rw [hb]
theorem kind_own {W : World} {B e k n : Nat} {v : Value} {xs : List Value} (h : W.ownsRow B e k v n xs) {j : Nat} (hj : v.ownBlock = some j) : kindAt W j = some (some e) := by
 rcases h.2 with ⟨rfl, h0⟩ | ⟨g, cap, cur, rfl, _, hg, _⟩
 · simp [Value.ownBlock] at hj
 · simp [Value.ownBlock] at hj
   subst hj
   exact kind_cells hg
theorem kind_lt {W : World} {k : Nat} {d : Option TypeId} (h : kindAt W k = some d) : k < W.heap.size := by
 unfold kindAt at h
 cases hk : W.heap[k]? with
 | none => rw [hk] at h; simp at h
 | some o => exact (Array.getElem?_eq_some_iff.1 hk).1
theorem FiOk.kept {W W' : World} {f : Fi} (h : FiOk W f) (hb : W'.heap[f.blk]? = W.heap[f.blk]?) (hk : ∀ k, FiRows f k → W'.heap[k]? = W.heap[k]?) : FiOk W' f :=
 ⟨hb.trans h.row, own_own h.now fun k hk' => hk k (.inl hk'), own_own h.safe fun k hk' => hk k (.inr hk'), h.len, h.now64, h.safe64, h.le, h.apart⟩
theorem FiOk.kind {W : World} {f : Fi} (h : FiOk W f) {k : Nat} (hk : FiRows f k) : kindAt W k = some (some 106) := by
 rcases hk with hk | hk
 · exact kind_own h.now hk
 · exact kind_own h.safe hk
theorem Files.kept {W W' : World} {fm : Nat} {fs : List Fi} (h : Files W fm fs) (hm : W'.heap[fm]? = W.heap[fm]?) (hk : ∀ f ∈ fs, ∀ k, k = f.blk ∨ FiRows f k → W'.heap[k]? = W.heap[k]?) : Files W' fm fs :=
 ⟨h.map.kept hm, fun f hf => (h.ok f hf).kept (hk f hf _ (.inl rfl)) fun k hk' => hk f hf k (.inr hk'), h.apart⟩
theorem Dirs.kept {W W' : World} {vd : Value} {dirs : List (Nat × Dir)} (h : Dirs W vd dirs) (hd : ∀ k, vd.ownBlock = some k → W'.heap[k]? = W.heap[k]?) (hm : ∀ d ∈ dirs, W'.heap[d.1]? = W.heap[d.1]?) : Dirs W' vd dirs :=
 ⟨own_own h.row hd, fun d hd' => (h.map d hd').kept (hm d hd')⟩
section
variable {W W' : World} {q : Nat} {x : Px}
theorem PD.kindQ (h : PD W q x) : kindAt W q = some (some 100) := kind_cells h.row
theorem PD.kindD (h : PD W q x) {k : Nat} (hk : dUse x k) : kindAt W k = some (some 103) ∨ (kindAt W k = some none ∧ ∃ d ∈ x.dirs, k = d.1) := by
 rcases hk with hk | ⟨d, hd, rfl⟩
 · exact .inl (kind_own h.dirs.row hk)
 · exact .inr ⟨kind_map (h.dirs.map d hd), d, hd, rfl⟩
theorem PD.kindF (h : PD W q x) {k : Nat} (hk : fUse x k) : kindAt W k = some (some 113) ∨ kindAt W k = some (some 106) ∨ (kindAt W k = some none ∧ k = x.fm) := by
 rcases hk with rfl | ⟨f, hf, rfl | hk⟩
 · exact .inr (.inr ⟨kind_map h.files.map, rfl⟩)
 · exact .inl (kind_cells (h.files.ok f hf).row)
 · exact .inr (.inl ((h.files.ok f hf).kind hk))
theorem PD.kindP (h : PD W q x) {k : Nat} (hk : pUse x k) : kindAt W k = some (some 108) := kind_own h.pend hk
theorem PD.ltU (h : PD W q x) {k : Nat} (hk : useP q x k) : k < W.heap.size := by
 rcases hk with rfl | hk | hk | hk
 · exact kind_lt h.kindQ
 · rcases h.kindD hk with h' | h'
   · exact kind_lt h'
   · exact kind_lt h'.1
 · rcases h.kindF hk with h' | h' | h'
   · exact kind_lt h'
   · exact kind_lt h'
   · exact kind_lt h'.1
 · exact kind_lt (h.kindP hk)
theorem PD.qD (h : PD W q x) (hk : dUse x q) : False := by
 have := h.kindQ
 rcases h.kindD hk with h' | h' <;> simp [this] at h'
theorem PD.qF (h : PD W q x) (hk : fUse x q) : False := by
 have := h.kindQ
 rcases h.kindF hk with h' | h' | h' <;> simp [this] at h'
theorem PD.qP (h : PD W q x) (hk : pUse x q) : False := by
 have := h.kindQ
 have h' := h.kindP hk
 simp [this] at h'
theorem PD.dF (h : PD W q x) {k : Nat} (hd : dUse x k) (hf : fUse x k) : False := by
 rcases h.kindD hd with h1 | ⟨h1, d, hd', rfl⟩ <;> rcases h.kindF hf with h2 | h2 | ⟨h2, h3⟩ <;> rw [h1] at h2 <;> first | (simp at h2; done) | exact h.fnd d hd' h3
theorem PD.dP (h : PD W q x) {k : Nat} (hd : dUse x k) (hp : pUse x k) : False := by
 have h2 := h.kindP hp
 rcases h.kindD hd with h1 | ⟨h1, d, hd', rfl⟩ <;> rw [h1] at h2 <;> simp at h2
theorem PD.fP (h : PD W q x) {k : Nat} (hf : fUse x k) (hp : pUse x k) : False := by
 have h2 := h.kindP hp
 rcases h.kindF hf with h1 | h1 | ⟨h1, h3⟩ <;> rw [h1] at h2 <;> simp at h2
theorem PD.kept (h : PD W q x) (hk : ∀ k, useP q x k → W'.heap[k]? = W.heap[k]?) : PD W' q x where
 row := (hk q (.inl rfl)).trans h.row
 dirs := h.dirs.kept (fun k hk' => hk k (.inr (.inl (.inl hk')))) fun d hd => hk d.1 (.inr (.inl (.inr ⟨d, hd, rfl⟩)))
 files := h.files.kept (hk x.fm (.inr (.inr (.inl (.inl rfl))))) fun f hf k hk' => hk k (.inr (.inr (.inl (.inr ⟨f, hf, hk'⟩))))
 pend := own_own h.pend fun k hk' => hk k (.inr (.inr (.inr hk')))
 fnd := h.fnd
 wf := h.wf
theorem PD.grows (h : PD W q x) (g : Grows W W') : PD W' q x := h.kept fun k hk => g.block k (h.ltU hk)
theorem PD.but {O : Nat → Prop} (h : PD W q x) (g : But O W W') (hO : ∀ k, O k → ¬ useP q x k) : PD W' q x := h.kept fun k hk => g.block k (h.ltU hk) fun ho => hO k ho hk
theorem PD.keepD {O : Nat → Prop} (h : PD W q x) (g : But O W W') (hO : ∀ k, O k → ¬ dUse x k) : Dirs W' x.vd x.dirs :=
 h.dirs.kept (fun k hk => g.block k (h.ltU (.inr (.inl (.inl hk)))) fun ho => hO k ho (.inl hk)) fun d hd => g.block _ (h.ltU (.inr (.inl (.inr ⟨d, hd, rfl⟩)))) fun ho => hO _ ho (.inr ⟨d, hd, rfl⟩)
theorem PD.keepF {O : Nat → Prop} (h : PD W q x) (g : But O W W') (hO : ∀ k, O k → ¬ fUse x k) : Files W' x.fm x.fs :=
 h.files.kept (g.block _ (h.ltU (.inr (.inr (.inl (.inl rfl))))) fun ho => hO _ ho (.inl rfl)) fun f hf k hk => g.block k (h.ltU (.inr (.inr (.inl (.inr ⟨f, hf, hk⟩))))) fun ho => hO k ho (.inr ⟨f, hf, hk⟩)
theorem PD.keepP {O : Nat → Prop} (h : PD W q x) (g : But O W W') (hO : ∀ k, O k → ¬ pUse x k) : Pend W' x.vp x.pend :=
 own_own h.pend fun k hk => g.block k (h.ltU (.inr (.inr (.inr hk)))) fun ho => hO k ho hk
theorem PD.cell (h : PD W q x) (i : Nat) (u : Value) (hu : (pdRow x)[i]? = some u) : W.cell? ⟨q, i, none⟩ = some u := by rw [cell_of_row W q i _ _ _ h.row, hu]
theorem PD.frozen (h : PD W q x) (i : Nat) : W.frozen? ⟨q, i, none⟩ = false := frozen_of_row W q i _ _ h.row
end
structure TurnP (q : Nat) (x x' : Px) (w w' : World) : Prop where
 muts : ∀ k, mutP q x' k → mutP q x k ∨ w.heap.size ≤ k
 uses : ∀ k, useP q x' k → useP q x k ∨ w.heap.size ≤ k
 but : But (mutP q x) w w'
theorem TurnP.refl (q : Nat) (x : Px) (w : World) : TurnP q x x w w := ⟨fun _ h => .inl h, fun _ h => .inl h, But.refl' _ _⟩
theorem TurnP.trans {q : Nat} {x x' x'' : Px} {w w' w'' : World} (h : TurnP q x x' w w') (g : TurnP q x' x'' w' w'') : TurnP q x x'' w w'' where
 muts := fun k hk => (g.muts k hk).elim (h.muts k) (fun hl => .inr (Nat.le_trans h.but.size hl))
 uses := fun k hk => (g.uses k hk).elim (h.uses k) (fun hl => .inr (Nat.le_trans h.but.size hl))
 but := ⟨g.but.os.trans h.but.os, g.but.tape.trans h.but.tape, g.but.output.trans h.but.output, Nat.le_trans h.but.size g.but.size, fun k hk hn => (g.but.block k (Nat.lt_of_lt_of_le hk h.but.size) (fun hm => (h.muts k hm).elim hn (fun hl => by omega))).trans (h.but.block k hk hn)⟩
theorem TurnP.ofGrows {q : Nat} {x : Px} {w w' : World} (h : Grows w w') : TurnP q x x w w' := ⟨fun _ h => .inl h, fun _ h => .inl h, But.ofGrows h⟩
theorem TurnP.head {q : Nat} {x x' : Px} {w w' : World} (h : But (fun k => k = q) w w') (hm : ∀ k, mutP q x' k → mutP q x k) (hu : ∀ k, useP q x' k → useP q x k) : TurnP q x x' w w' :=
 ⟨fun k hk => .inl (hm k hk), fun k hk => .inl (hu k hk), h.mono fun k hk => .inl hk⟩
theorem PD.head {W W' : World} {q : Nat} {x x' : Px} (h : PD W q x) (hr : W'.heap[q]? = some (.cells (pdRow x') 100 (0, 0))) (hB : But (fun k => k = q) W W')
 (h1 : x'.vd = x.vd ∧ x'.dirs = x.dirs ∧ x'.fm = x.fm ∧ x'.fs = x.fs ∧ x'.vp = x.vp ∧ x'.pend = x.pend) (hw : WfP x') : PD W' q x' := by
 obtain ⟨e1, e2, e3, e4, e5, e6⟩ := h1
 refine ⟨hr, ?_, ?_, ?_, ?_, hw⟩
 · rw [e1, e2]; exact h.keepD hB fun k hk hd => h.qD (hk ▸ hd)
 · rw [e3, e4]; exact h.keepF hB fun k hk hd => h.qF (hk ▸ hd)
 · rw [e5, e6]; exact h.keepP hB fun k hk hd => h.qP (hk ▸ hd)
 · rw [e2, e3]; exact h.fnd
end Go.Proofs.YtoppcpiheaedlaaGreatDoor
end
