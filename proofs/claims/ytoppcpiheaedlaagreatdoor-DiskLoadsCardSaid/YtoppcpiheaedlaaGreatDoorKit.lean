/-
  The verifier's own kit, over whatever program: regions whose order is drawn, by one fact an operation ('wp_region_facts'); what a slice of bytes reads as ('Byt', 'Own').
-/
import Derived.WalkKit
import Derived.ProofKit
import Derived.OpenShut
import Derived.ShutString
import Derived.ChangeOld
import Derived.Below
import Derived.Orders
import Derived.OrdersIn
import Derived.TacticsIn
import Derived.Lib.Hide
import Derived.KernelRfl
namespace Go.Proofs.YtoppcpiheaedlaaGreatDoor
open Go.RowKit

/-- What not even 'whnf' opens (a 'Hid' it does: an equation there whose side can be reckoned out costs minutes at each 'contradiction'). -/
structure Shut (p : Prop) : Prop where
  out : p

/-- Nothing that was there has turned. -/
abbrev Grows (w w' : World) : Prop := Below w.heap.size w w'

theorem Grows.rfl' (w : World) : Grows w w := Below.refl _ _
theorem Grows.trans' {a b c : World} (h : Grows a b) (k : Grows b c) : Grows a c := Below.trans h (Below.mono k h.size)
theorem Grows.drew' (w : World) : Grows w w.drew := (Below.refl _ _).drew
theorem Grows.alloc' (w : World) (o : Obj) : Grows w (w.alloc o) := (Below.refl _ _).alloc (Nat.le_refl _) _
theorem Grows.cell' {a b : World} (h : Grows a b) {p : Addr} {v : Value} (hc : a.cell? p = some v) : b.cell? p = some v :=
  (h.cell (World.block_lt_of_cell? a p hc)).trans hc

/-! ### Regions -/

/-- One operation, carried out over these operands, in this world: what is left. -/
def StepOk (P : Program) (o : Oper) (ρ : Operand → Value) (w : World) (Ψ : Value → World → Prop) : Prop :=
  match (execOp ρ o).run P w with
  | .ok (.value v) w' => Ψ v w'
  | .ok .skip w' => Ψ undef w'
  | .ok (.enter f args) w' => Calls P f args w' fun e w'' => ∃ v, e = .returned v ∧ Ψ v w''
  | _ => False

theorem StepOk.wp {P : Program} {o : Oper} {a : Act} {w : World} {Ψ : Value → World → Prop} {K : Act → World → Prop} {Q : Exit → Act → World → Prop}
    (h : StepOk P o a.eval w Ψ) (hK : ∀ v w', Ψ v w' → K (a.put o.dst v) w') : o.wp P a w K Q := by
  unfold Oper.wp
  unfold StepOk at h
  generalize (execOp a.eval o).run P w = r at *
  cases r with
  | ok n w' =>
    cases n <;> simp only at h <;> simp only [Oper.upon] <;> first
      | exact hK _ _ h
      | exact Calls.mono h (fun e w'' he => by obtain ⟨v, rfl, hv⟩ := he; exact hK _ _ hv)
  | halt x w' => simp only at h

theorem StepOk.mono {P : Program} {o : Oper} {ρ : Operand → Value} {w : World} {Ψ Ψ' : Value → World → Prop} (h : StepOk P o ρ w Ψ) (hK : ∀ v w', Ψ v w' → Ψ' v w') : StepOk P o ρ w Ψ' := by
  unfold StepOk at *
  generalize (execOp ρ o).run P w = r at *
  cases r with
  | ok n w' =>
    cases n <;> simp only at h ⊢ <;> first
      | exact hK _ _ h
      | exact Calls.mono h (fun e w'' he => by obtain ⟨v, rfl, hv⟩ := he; exact ⟨v, rfl, hK _ _ hv⟩)
  | halt x w' => simp only at h

theorem StepOk.of_run {P : Program} {o : Oper} {ρ : Operand → Value} {w w' : World} {v : Value} {Ψ : Value → World → Prop} (h : (execOp ρ o).run P w = .ok (.value v) w') (hv : Ψ v w') : StepOk P o ρ w Ψ := by
  unfold StepOk; rw [h]; exact hv

theorem StepOk.of_call {P : Program} {o : Oper} {ρ : Operand → Value} {w w' : World} {f : FuncId} {args : Array Value} {R : Ending → World → Prop} {Ψ : Value → World → Prop} (h : (execOp ρ o).run P w = .ok (.enter f args) w')
    (hc : Calls P f args w' R) (hv : ∀ e w'', R e w'' → ∃ v, e = .returned v ∧ Ψ v w'') : StepOk P o ρ w Ψ := by
  unfold StepOk; rw [h]; exact hc.mono hv

/-- The static look at a region: edges go back; each slot is written once, within the frame; 'pre i': operations that are surely done when i comes up; 'org i': slots that surely are as they were; 'run i': whether i is carried out. -/
def regionChk (ops : Array Oper) (n last : Nat) (pre org : Array (List Nat)) (run : Array Bool) : Bool :=
  ((List.range ops.size).all fun j => j == last || decide (ops.size ≤ last) || (pre.getD last []).contains j) &&
  (match ops[last]? with | some o => o.guard.isNone | none => true) &&
  (List.range ops.size).all fun i => match ops[i]? with
    | none => true
    | some o =>
      (o.after.toList.all fun e => !Region.binds .any e || decide (e.on < i)) &&
      (match o.dst with
       | none => true
       | some d => decide (d < n) && (List.range ops.size).all fun j => j == i || (match ops[j]? with | some oj => oj.dst != some d | none => true)) &&
      ((pre.getD i []).all fun j => o.after.toList.any fun e => Region.binds .any e && (e.on == j || (pre.getD e.on []).contains j)) &&
      ((org.getD i []).all fun t => (List.range ops.size).all fun j => match ops[j]? with
        | some oj => oj.dst != some t || j == i || (pre.getD j []).contains i
        | none => true) &&
      (match o.guard with
       | none => run.getD i false
       | some (g, _) => o.after.toList.any (fun e => Region.binds .any e && e.on == g) && ((ops[g]?).bind (·.dst)).isSome)

structure RInv (ops : Array Oper) (last : Nat) (pre : Array (List Nat)) (Φ : Nat → Value → World → Prop) (a0 : Act) (w0 : World) (S : Array Bool) (a : Act) (w : World) : Prop where
  ext : Grows w0 w
  defers : a.defers = a0.defers
  size : a.tmps.size = a0.tmps.size
  done : ∀ i o d, S.getD i false = true → ops[i]? = some o → o.dst = some d → Φ i (a.tmps.getD d undef) w
  orig : ∀ t, (∀ i o, S.getD i false = true → ops[i]? = some o → o.dst ≠ some t) → a.tmps.getD t undef = a0.tmps.getD t undef
  clo : ∀ i, S.getD i false = true → ∀ j ∈ pre.getD i [], S.getD j false = true
  still : S.getD last false = false

/-- WHAT IS OWED FOR OPERATION i. -/
def StepReq (P : Program) (ops : Array Oper) (pre org : Array (List Nat)) (run : Array Bool) (Φ : Nat → Value → World → Prop) (a0 : Act) (w0 : World) (i : Nat) : Prop :=
  match ops[i]? with
  | none => True
  | some o => ∀ (ρ : Operand → Value) (W : World), (∀ v, ρ (.const v) = v) → (∀ f, ρ (.func f) = .func (.func f) #[] #[]) → (∀ g, ρ (.global g) = .pointer (some ⟨g, 0, none⟩)) → Grows w0 W →
      (∀ j ∈ pre.getD i [], match (ops[j]?).bind (·.dst) with | some d => Φ j (ρ (.tmp d)) W | none => True) →
      (∀ t ∈ org.getD i [], ρ (.tmp t) = a0.tmps.getD t undef) →
      (if run.getD i false then StepOk P o ρ W (fun v W' => Φ i v W' ∧ Grows W W') else Φ i undef W)

theorem step_intro {P : Program} {ops : Array Oper} {pre org : Array (List Nat)} {run : Array Bool} {Φ : Nat → Value → World → Prop} {a0 : Act} {w0 : World} {i last : Nat} {o : Oper} (ho : ops[i]? = some o) (hr : run.getD i false = true)
    (h : ∀ (ρ : Operand → Value) (W : World), (∀ v, ρ (.const v) = v) → (∀ f, ρ (.func f) = .func (.func f) #[] #[]) → (∀ g, ρ (.global g) = .pointer (some ⟨g, 0, none⟩)) → Grows w0 W →
      (∀ j ∈ pre.getD i [], match (ops[j]?).bind (·.dst) with | some d => Φ j (ρ (.tmp d)) W | none => True) →
      (∀ t ∈ org.getD i [], ρ (.tmp t) = a0.tmps.getD t undef) → StepOk P o ρ W (fun v W' => Φ i v W' ∧ Grows W W')) :
    if i = last then True else StepReq P ops pre org run Φ a0 w0 i := by
  split
  · trivial
  · unfold StepReq
    rw [ho]
    intro ρ W hc hf hgl hW hp hq
    rw [if_pos hr]
    exact h ρ W hc hf hgl hW hp hq

theorem step_skip {P : Program} {ops : Array Oper} {pre org : Array (List Nat)} {run : Array Bool} {Φ : Nat → Value → World → Prop} {a0 : Act} {w0 : World} {i last : Nat} {o : Oper} (ho : ops[i]? = some o) (hr : run.getD i false = false)
    (h : ∀ (W : World), Grows w0 W → Φ i undef W) : if i = last then True else StepReq P ops pre org run Φ a0 w0 i := by
  split
  · trivial
  · unfold StepReq
    rw [ho]
    intro ρ W _ _ _ hW _ _
    rw [if_neg (by rw [hr]; simp)]
    exact h W hW

theorem last_intro {R : Prop} {i last : Nat} (h : i = last) : if i = last then True else R := by
  rw [if_pos h]; trivial

/-- What a slot says of a guard. -/
def boolOf : Value → Option Bool
  | .bool b => some b
  | _ => none
/-- What is owed for the guards: each one's fact says how it has come out. -/
def GuardReq (ops : Array Oper) (run : Array Bool) (Φ : Nat → Value → World → Prop) (i : Nat) : Prop :=
  match ops[i]? with
  | none => True
  | some o => match o.guard with
    | none => True
    | some (g, b) => ∀ v W, Φ g v W → (boolOf v == some b) = run.getD i false

def AllReq (R : Nat → Prop) : List Nat → Prop
  | [] => True
  | i :: r => R i ∧ AllReq R r
theorem AllReq.mem {R : Nat → Prop} : ∀ {l : List Nat}, AllReq R l → ∀ i ∈ l, R i
  | [], _, _, hm => by cases hm
  | _ :: _, h, i, hm => by
    rcases List.mem_cons.1 hm with rfl | hm
    · exact h.1
    · exact AllReq.mem h.2 i hm

/-- Whatever order is picked, over whatever says how one operation goes. -/
def anyOf (ops : Array Oper) (opP : Nat → (Act → World → Prop) → Act → World → Prop) (Q : Act → World → Prop) : Nat → Array Bool → Act → World → Prop
  | 0, listed, a, w => Region.ready .any ops listed = [] ∧ Q a w
  | fuel + 1, listed, a, w =>
    (Region.ready .any ops listed = [] → Q a w) ∧
    ∀ i ∈ Region.ready .any ops listed, opP i (anyOf ops opP Q fuel (listed.setIfInBounds i true)) a w
theorem anyOf_wpAny (P : Program) (ops : Array Oper) (Q : Exit → Act → World → Prop) : ∀ (fuel : Nat), wpAny P .any ops Q fuel = anyOf ops (wpOp P ops Q) (Q .normal) fuel
  | 0 => rfl
  | fuel + 1 => by
    funext S a w
    simp only [wpAny, anyOf, anyOf_wpAny P ops Q fuel]
theorem anyOf_wpAnyIn (F : Fence) (n : Nat) (P : Program) (ops : Array Oper) (Q : Exit → Act → World → Prop) : ∀ (fuel : Nat), wpAnyIn F n P .any ops Q fuel = anyOf ops (wpOpIn F n P ops Q) (Q .normal) fuel
  | 0 => rfl
  | fuel + 1 => by
    funext S a w
    simp only [wpAnyIn, anyOf, anyOf_wpAnyIn F n P ops Q fuel]

/-- How one operation may go: by StepOk where it is carried out. -/
structure OpRule (P : Program) (ops : Array Oper) (opP : Nat → (Act → World → Prop) → Act → World → Prop) : Prop where
  does : ∀ (i : Nat) (o : Oper) (a : Act) (W : World) (Ψ : Value → World → Prop) (K : Act → World → Prop), ops[i]? = some o → Region.wanted o (yielded ops a.tmps) = true → StepOk P o a.eval W Ψ → (∀ v w', Ψ v w' → K (a.put o.dst v) w') → opP i K a W
  skips : ∀ (i : Nat) (o : Oper) (a : Act) (W : World) (K : Act → World → Prop), ops[i]? = some o → Region.wanted o (yielded ops a.tmps) = false → K (a.put o.dst undef) W → opP i K a W

theorem opRule_plain (P : Program) (ops : Array Oper) (Q : Exit → Act → World → Prop) : OpRule P ops (wpOp P ops Q) where
  does := fun i o a W Ψ K ho hw h hK => by
    unfold wpOp
    simp only [ho, hw, if_true]
    exact .inl (StepOk.wp h hK)
  skips := fun i o a W K ho hw h => by
    unfold wpOp
    simp only [ho, hw]
    exact h

def noDefer (ops : Array Oper) : Bool := ops.toList.all fun o => match o.op with | .defer _ => false | _ => true

theorem opRule_round (l n : Nat) (P : Program) (ops : Array Oper) (Q : Exit → Act → World → Prop) (hd : noDefer ops = true) : OpRule P ops (wpOpIn (Fence.wide.inRound l) n P ops Q) where
  does := fun i o a W Ψ K ho hw h hK => by
    unfold wpOpIn
    simp only [ho, hw, if_true]
    refine ⟨fun _ _ => trivial, ?_⟩
    have hnd : ∀ c, o.op ≠ .defer c := fun c e => by
      have := List.all_eq_true.1 hd o (Array.mem_toList_iff.2 (Array.mem_of_getElem? ho))
      simp [e] at this
    rw [Oper.semAt_eq _ _ _ hnd]
    unfold StepOk at h
    generalize (execOp a.eval o).run P W = r at *
    cases r with
    | ok x w' =>
      cases x <;> simp only at h <;> simp only [Oper.uponIn] <;> first
        | exact hK _ _ h
        | exact ⟨fun h => by simp [Fence.wide] at h, CallsIn.mono (show CallsIn (Fence.wide.inRound l) (n - 1) P _ _ _ _ from (callsIn_wide (n := n - 1)).2 h) (fun e w'' he => by obtain ⟨v, rfl, hv⟩ := he; exact hK _ _ hv)⟩
    | halt x w' => simp only at h
  skips := fun i o a W K ho hw h => by
    unfold wpOpIn
    simp only [ho, hw]
    exact ⟨fun _ _ => trivial, h⟩

section
variable {P : Program} {ops : Array Oper} {pre org : Array (List Nat)} {run : Array Bool} {Φ : Nat → Value → World → Prop} {a0 : Act} {w0 : World} {Q : Exit → Act → World → Prop}

theorem getD_set (S : Array Bool) (i j : Nat) (hi : i < S.size) : (S.setIfInBounds i true).getD j false = if i = j then true else S.getD j false := by
  by_cases h : i = j
  · subst h; simp [hi]
  · simp [h, Array.getElem?_setIfInBounds_ne h]

theorem count_set_lt (S : Array Bool) (i : Nat) (h : S.getD i true = false) : (S.setIfInBounds i true).count false + 1 = S.count false := by
  have hi : i < S.size := by
    rcases Nat.lt_or_ge i S.size with h' | h'
    · exact h'
    · simp [Array.getElem?_eq_none h'] at h
  have hv : S[i] = false := by simpa [hi] using h
  have hm : false ∈ S := by rw [← hv]; exact Array.getElem_mem hi
  have hp : 0 < S.count false := Array.count_pos_iff.2 hm
  rw [Array.setIfInBounds_def, dif_pos hi, Array.count_set]
  simp [hv]
  omega

theorem all_listed {S : Array Bool} (hS : S.size = ops.size) (hback : ∀ (i : Nat) (o : Oper), ops[i]? = some o → ∀ e ∈ o.after, Region.binds .any e = true → e.on < i) (hr : Region.ready .any ops S = []) :
    ∀ i, i < ops.size → S.getD i false = true := by
  intro i
  induction i using Nat.strongRecOn with
  | _ i ih =>
    intro hi
    cases h : S.getD i false with
    | true => rfl
    | false =>
      exfalso
      have : i ∈ Region.ready .any ops S := by
        rw [mem_ready]
        refine ⟨?_, ops[i], by simp [hi], fun e he hb => ?_⟩
        · simpa [hS, hi] using h
        · have hlt := hback i ops[i] (by simp [hi]) e he hb
          exact ih e.on hlt (by omega)
      rw [hr] at this
      cases this

theorem anyOf_done {opP : Nat → (Act → World → Prop) → Act → World → Prop} {Qn : Act → World → Prop} {S : Array Bool} {a : Act} {W : World} (hr : Region.ready .any ops S = []) (h : Qn a W) : ∀ fuel, anyOf ops opP Qn fuel S a W
  | 0 => ⟨hr, h⟩
  | _ + 1 => ⟨fun _ => h, by rw [hr]; simp⟩

/-- What is known where all operations but the last one are over. -/
structure AllBut (ops : Array Oper) (last : Nat) (Φ : Nat → Value → World → Prop) (a0 : Act) (w0 : World) (a : Act) (W : World) : Prop where
  ext : Grows w0 W
  defers : a.defers = a0.defers
  size : a.tmps.size = a0.tmps.size
  done : ∀ i o d, i ≠ last → ops[i]? = some o → o.dst = some d → Φ i (a.tmps.getD d undef) W
  orig : ∀ t, (∀ (i : Nat) (o : Oper), i ≠ last → ops[i]? = some o → o.dst ≠ some t) → a.tmps.getD t undef = a0.tmps.getD t undef

theorem facts_any {opP : Nat → (Act → World → Prop) → Act → World → Prop} {Qn : Act → World → Prop} {last : Nat} (hop : OpRule P ops opP) (hchk : regionChk ops a0.tmps.size last pre org run = true)
    (hst : ∀ i v W W', Grows W W' → Φ i v W → Φ i v W')
    (hg : AllReq (GuardReq ops run Φ) (List.range ops.size))
    (hs : AllReq (fun i => if i = last then True else StepReq P ops pre org run Φ a0 w0 i) (List.range ops.size))
    (hlast : ∀ o, ops[last]? = some o → ∀ a W, AllBut ops last Φ a0 w0 a W → StepOk P o a.eval W (fun v W' => Qn (a.put o.dst v) W'))
    (hQ : ops.size ≤ last → ∀ a W, AllBut ops last Φ a0 w0 a W → Qn a W) :
    ∀ (fuel : Nat) (S : Array Bool) (a : Act) (W : World), S.size = ops.size → S.count false ≤ fuel → RInv ops last pre Φ a0 w0 S a W → anyOf ops opP Qn fuel S a W := by
  simp only [regionChk, Bool.and_eq_true] at hchk
  obtain ⟨⟨hlast1, hlast2⟩, hchk⟩ := hchk
  have hall : ∀ (i : Nat) (o : Oper), ops[i]? = some o → _ := fun i o ho => List.all_eq_true.1 hchk i (List.mem_range.2 (Array.getElem?_eq_some_iff.1 ho).1)
  have hback : ∀ (i : Nat) (o : Oper), ops[i]? = some o → ∀ e ∈ o.after, Region.binds .any e = true → e.on < i := fun i o ho e he hb => by
    have h := hall i o ho
    simp only [ho, Bool.and_eq_true] at h
    have h1 := List.all_eq_true.1 h.1.1.1.1 e (Array.mem_toList_iff.2 he)
    simpa [hb] using h1
  have hdst : ∀ (i : Nat) (o : Oper) (d : Nat), ops[i]? = some o → o.dst = some d → d < a0.tmps.size ∧ ∀ (j : Nat) (oj : Oper), ops[j]? = some oj → j ≠ i → oj.dst ≠ some d := fun i o d ho hd => by
    have h := hall i o ho
    simp only [ho, Bool.and_eq_true, hd] at h
    have h1 := h.1.1.1.2
    refine ⟨of_decide_eq_true h1.1, fun j oj hj hne => ?_⟩
    have h2 := List.all_eq_true.1 h1.2 j (List.mem_range.2 (Array.getElem?_eq_some_iff.1 hj).1)
    simpa [hj, hne] using h2
  have hpre : ∀ (i : Nat) (o : Oper), ops[i]? = some o → ∀ j ∈ pre.getD i [], ∃ e ∈ o.after, Region.binds .any e = true ∧ (e.on = j ∨ j ∈ pre.getD e.on []) := fun i o ho j hj => by
    have h := hall i o ho
    simp only [ho, Bool.and_eq_true] at h
    have h1 := List.all_eq_true.1 h.1.1.2 j hj
    obtain ⟨e, he, hb⟩ := List.any_eq_true.1 h1
    simp only [Bool.and_eq_true, Bool.or_eq_true, beq_iff_eq, List.contains_iff_mem] at hb
    exact ⟨e, Array.mem_toList_iff.1 he, hb.1, hb.2⟩
  have horg : ∀ (i : Nat) (o : Oper), ops[i]? = some o → ∀ t ∈ org.getD i [], ∀ (j : Nat) (oj : Oper), ops[j]? = some oj → oj.dst = some t → j = i ∨ i ∈ pre.getD j [] := fun i o ho t ht j oj hj hd => by
    have h := hall i o ho
    simp only [ho, Bool.and_eq_true] at h
    have h1 := List.all_eq_true.1 (List.all_eq_true.1 h.1.2 t ht) j (List.mem_range.2 (Array.getElem?_eq_some_iff.1 hj).1)
    simp only [hj, hd, Bool.or_eq_true, bne_self_eq_false, Bool.false_eq_true, false_or, beq_iff_eq, List.contains_iff_mem] at h1
    exact h1
  have hguard : ∀ (i : Nat) (o : Oper) (g : Nat) (b : Bool), ops[i]? = some o → o.guard = some (g, b) → (∃ e ∈ o.after, Region.binds .any e = true ∧ e.on = g) ∧ ∃ og d, ops[g]? = some og ∧ og.dst = some d := fun i o g b ho hgd => by
    have h := hall i o ho
    simp only [ho, Bool.and_eq_true, hgd] at h
    obtain ⟨h1, h2⟩ := h.2
    obtain ⟨e, he, hb⟩ := List.any_eq_true.1 h1
    simp only [Bool.and_eq_true, beq_iff_eq] at hb
    refine ⟨⟨e, Array.mem_toList_iff.1 he, hb.1, hb.2⟩, ?_⟩
    cases hog : ops[g]? with
    | none => simp [hog] at h2
    | some og =>
      simp [hog] at h2
      obtain ⟨d, hd⟩ := Option.isSome_iff_exists.1 h2
      exact ⟨og, d, rfl, hd⟩
  have hrun0 : ∀ (i : Nat) (o : Oper), ops[i]? = some o → o.guard = none → run.getD i false = true := fun i o ho hgd => by
    have h := hall i o ho
    simp only [ho, Bool.and_eq_true, hgd] at h
    exact h.2
  have hlastpre : ∀ j, j < ops.size → j ≠ last → last < ops.size → j ∈ pre.getD last [] := fun j hj hne hl => by
    have h := List.all_eq_true.1 hlast1 j (List.mem_range.2 hj)
    simp only [Bool.or_eq_true, beq_iff_eq, decide_eq_true_eq, List.contains_iff_mem] at h
    rcases h with (h | h) | h
    · exact absurd h hne
    · omega
    · exact h
  have finish : ∀ (S : Array Bool) (a : Act) (W : World), S.size = ops.size → RInv ops last pre Φ a0 w0 S a W → Region.ready .any ops S = [] → Qn a W := fun S a W hS hI hr => by
    have hl := all_listed hS hback hr
    have hge : ops.size ≤ last := by
      rcases Nat.lt_or_ge last ops.size with h | h
      · have := hl last h; rw [hI.still] at this; cases this
      · exact h
    refine hQ hge a W ⟨hI.ext, hI.defers, hI.size, fun i o d _ ho hd => hI.done i o d (hl i (Array.getElem?_eq_some_iff.1 ho).1) ho hd, fun t ht => hI.orig t fun i o hi ho => ht i o ?_ ho⟩
    have := (Array.getElem?_eq_some_iff.1 ho).1
    omega
  intro fuel
  induction fuel with
  | zero =>
    intro S a W hS hc hI
    have hr : Region.ready .any ops S = [] := by
      rw [List.eq_nil_iff_forall_not_mem]
      intro i hi
      have h0 := (mem_ready.1 hi).1
      have := count_set_lt S i h0
      omega
    exact ⟨hr, finish S a W hS hI hr⟩
  | succ fuel ih =>
    intro S a W hS hc hI
    refine ⟨fun hr => finish S a W hS hI hr, fun i hi => ?_⟩
    obtain ⟨h0, o, ho, hed⟩ := mem_ready.1 hi
    have hiS : i < S.size := by rw [hS]; exact (Array.getElem?_eq_some_iff.1 ho).1
    have hcnt := count_set_lt S i h0
    have hun : S.getD i false = false := by simpa [hiS] using h0
    have hprel : ∀ j ∈ pre.getD i [], S.getD j false = true := fun j hj => by
      obtain ⟨e, he, hb, rfl | hjk⟩ := hpre i o ho j hj
      · exact hed e he hb
      · exact hI.clo _ (hed e he hb) j hjk
    have hsee : (∀ j ∈ pre.getD i [], match (ops[j]?).bind (·.dst) with | some d => Φ j (a.eval (.tmp d)) W | none => True) := fun j hj => by
      cases hoj : ops[j]? with
      | none => simp
      | some oj =>
        cases hd : oj.dst with
        | none => simp [hd]
        | some d => simpa [hd, Act.eval] using hI.done j oj d (hprel j hj) hoj hd
    have horgl : ∀ t ∈ org.getD i [], a.eval (.tmp t) = a0.tmps.getD t undef := fun t ht => by
      refine hI.orig t fun j oj hj hoj hd => ?_
      rcases horg i o ho t ht j oj hoj hd with rfl | hin
      · rw [hun] at hj; cases hj
      · have := hI.clo j hj i hin
        rw [hun] at this; cases this
    by_cases hil : i = last
    · subst hil
      have hlisted : ∀ j, j < ops.size → j ≠ i → S.getD j false = true := fun j hj hne => hprel j (hlastpre j hj hne (Array.getElem?_eq_some_iff.1 ho).1)
      have hbut : AllBut ops i Φ a0 w0 a W := ⟨hI.ext, hI.defers, hI.size, fun j oj d hne hoj hd => hI.done j oj d (hlisted j (Array.getElem?_eq_some_iff.1 hoj).1 hne) hoj hd,
        fun t ht => hI.orig t fun j oj hj hoj => ht j oj (fun e => by subst e; rw [hun] at hj; cases hj) hoj⟩
      have hwant : Region.wanted o (yielded ops a.tmps) = true := by
        simp only [ho] at hlast2
        unfold Region.wanted
        rw [Option.isNone_iff_eq_none.1 hlast2]
      refine hop.does i o a W _ _ ho hwant (hlast o ho a W hbut) fun v w' hq => anyOf_done ?_ hq fuel
      rw [List.eq_nil_iff_forall_not_mem]
      intro j hj
      obtain ⟨hj0, oj, hoj, _⟩ := mem_ready.1 hj
      have hjl := (Array.getElem?_eq_some_iff.1 hoj).1
      by_cases hij : i = j
      · subst hij; simp [hiS] at hj0
      · rw [getD_set_ne true hij] at hj0
        have h1 := hlisted j hjl (fun e => hij e.symm)
        rw [← hS] at hjl
        simp [hjl] at h1 hj0
        rw [h1] at hj0
        cases hj0
    have hreq := AllReq.mem hs i (List.mem_range.2 (Array.getElem?_eq_some_iff.1 ho).1)
    simp only [if_neg hil, StepReq, ho] at hreq
    have hreq' := hreq a.eval W (fun _ => rfl) (fun _ => rfl) (fun _ => rfl) hI.ext hsee horgl
    have hwant : Region.wanted o (yielded ops a.tmps) = run.getD i false := by
      unfold Region.wanted
      cases hgd : o.guard with
      | none => simp [hrun0 i o ho hgd]
      | some gb =>
        obtain ⟨g, b⟩ := gb
        obtain ⟨⟨e, he, hb, rfl⟩, og, d, hog, hd⟩ := hguard i o g b ho hgd
        have hgr := AllReq.mem hg i (List.mem_range.2 (Array.getElem?_eq_some_iff.1 ho).1)
        simp only [GuardReq, ho, hgd] at hgr
        have hgv := hgr _ W (hI.done e.on og d (hed e he hb) hog hd)
        have hdl : d < a.tmps.size := by rw [hI.size]; exact (hdst _ og d hog hd).1
        have hy : yielded ops a.tmps e.on = boolOf (a.tmps.getD d undef) := by
          unfold yielded
          simp [hog, hd, hdl]
          cases a.tmps[d] <;> rfl
        simp only [hy]
        exact hgv
    -- what comes behind
    have next : ∀ v W', Φ i v W' → Grows W W' → anyOf ops opP Qn fuel (S.setIfInBounds i true) (a.put o.dst v) W' := fun v W' hv hW => by
      refine ih _ _ _ (by simpa using hS) (by omega) ⟨Grows.trans' hI.ext hW, ?_, ?_, ?_, ?_, ?_, by rw [getD_set S i last hiS, if_neg hil]; exact hI.still⟩
      · rw [← hI.defers]; cases o.dst <;> rfl
      · rw [← hI.size]; cases o.dst <;> simp [Act.put]
      · intro j oj d hj hoj hd
        rw [getD_set S i j hiS] at hj
        by_cases hij : i = j
        · subst hij
          rw [ho] at hoj
          obtain rfl := Option.some.inj hoj
          have hdl : d < a.tmps.size := by rw [hI.size]; exact (hdst i o d ho hd).1
          simpa [Act.put, hd, hdl] using hv
        · rw [if_neg hij] at hj
          have hold := hst j _ W W' hW (hI.done j oj d hj hoj hd)
          have hne : o.dst ≠ some d := (hdst j oj d hoj hd).2 i o ho hij
          cases hod : o.dst with
          | none => simpa [Act.put] using hold
          | some d' =>
            have hdd : d' ≠ d := fun e => hne (by rw [hod, e])
            simpa [Act.put, Array.getElem?_setIfInBounds_ne hdd] using hold
      · intro t ht
        have h1 := ht i o (by rw [getD_set S i i hiS]; simp) ho
        rw [← hI.orig t fun j oj hj hoj => ht j oj (by rw [getD_set S i j hiS]; simp [hj]) hoj]
        cases hod : o.dst with
        | none => rfl
        | some d' =>
          have hdd : d' ≠ t := fun e => h1 (by rw [hod, e])
          simp [Act.put, Array.getElem?_setIfInBounds_ne hdd]
      · intro j hj k hk
        rw [getD_set S i j hiS] at hj
        rw [getD_set S i k hiS]
        by_cases hik : i = k
        · simp [hik]
        · rw [if_neg hik]
          by_cases hij : i = j
          · subst hij; exact hprel k hk
          · rw [if_neg hij] at hj; exact hI.clo j hj k hk
    cases hrn : run.getD i false with
    | true =>
      simp only [hrn, if_true] at hreq'
      exact hop.does i o a W _ _ ho (by rw [hwant, hrn]) hreq' fun v W' ⟨h1, h2⟩ => next v W' h1 h2
    | false =>
      simp only [hrn] at hreq'
      exact hop.skips i o a W _ ho (by rw [hwant, hrn]) (next undef W (by simpa using hreq') (Below.refl _ _))

theorem rinv0 {last : Nat} : RInv ops last pre Φ a0 w0 (Array.replicate ops.size false) a0 { w0 with drawn := w0.drawn + 1 } := by
  refine ⟨(Below.refl _ _).drew, rfl, rfl, ?_, ?_, ?_, ?_⟩
  · intro i o d hi
    simp [Array.getElem?_replicate] at hi
    split at hi <;> simp at hi
  · intro t _; rfl
  · intro i hi
    simp [Array.getElem?_replicate] at hi
    split at hi <;> simp at hi
  · simp [Array.getElem?_replicate]
    split <;> simp

theorem AllBut.orig' {last : Nat} {a : Act} {W : World} (h : AllBut ops last Φ a0 w0 a W) (t : Tmp) (hc : (ops.toList.all fun o => o.dst != some t) = true) : a.tmps.getD t undef = a0.tmps.getD t undef :=
  h.orig t fun _ o _ ho hd => by
    have := List.all_eq_true.1 hc o (Array.mem_toList_iff.2 (Array.mem_of_getElem? ho))
    simp [hd] at this
theorem AllBut.done' {last : Nat} {a : Act} {W : World} (h : AllBut ops last Φ a0 w0 a W) (i : Nat) (t : Tmp) (hi : (i != last) = true) (ho : (ops[i]?).bind (·.dst) = some t) : Φ i (a.tmps.getD t undef) W := by
  cases hoi : ops[i]? with
  | none => simp [hoi] at ho
  | some o => exact h.done i o t (by simpa using hi) hoi (by simpa [hoi] using ho)

/-- A frame in which some slots have been written anew (the slots in their order). -/
def updL : List Value → Nat → List (Nat × Value) → List Value
  | [], _, _ => []
  | x :: l, _, [] => x :: l
  | x :: l, k, (d, v) :: r => if k = d then v :: updL l (k + 1) r else x :: updL l (k + 1) ((d, v) :: r)
def sortedD : Nat → List (Nat × Value) → Bool
  | _, [] => true
  | k, (d, _) :: r => decide (k ≤ d) && sortedD (d + 1) r
theorem updL_length : ∀ (l : List Value) (k : Nat) (dv : List (Nat × Value)), (updL l k dv).length = l.length
  | [], _, _ => rfl
  | _ :: _, _, [] => rfl
  | x :: l, k, (d, v) :: r => by
    unfold updL
    split <;> simp [updL_length l]
def SlotsV (f : Array Value) : List (Nat × Value) → Prop
  | [] => True
  | (d, v) :: r => f.getD d undef = v ∧ SlotsV f r
theorem updL_get (f : Array Value) : ∀ (l : List Value) (k : Nat) (dv : List (Nat × Value)), sortedD k dv = true → SlotsV f dv →
    (∀ i, i < l.length → (∀ v, (k + i, v) ∉ dv) → f.getD (k + i) undef = l.getD i undef) → ∀ i, i < l.length → f.getD (k + i) undef = (updL l k dv).getD i undef
  | [], _, _, _, _, _, i, hi => by simp at hi
  | x :: l, k, [], _, _, h, i, hi => h i hi (by simp)
  | x :: l, k, (d, v) :: r, hs, hv, h, i, hi => by
    simp only [sortedD, Bool.and_eq_true, decide_eq_true_eq] at hs
    have above : ∀ (r : List (Nat × Value)) (e : Nat), sortedD e r = true → ∀ j u, (j, u) ∈ r → e ≤ j := by
      intro r
      induction r with
      | nil => intro e _ j u hj; cases hj
      | cons y r ih =>
        intro e he j u hj
        simp only [sortedD, Bool.and_eq_true, decide_eq_true_eq] at he
        rcases List.mem_cons.1 hj with rfl | hj
        · exact he.1
        · have := ih _ he.2 j u hj
          omega
    unfold updL
    by_cases e : k = d
    · rw [if_pos e]
      subst e
      cases i with
      | zero => simpa using hv.1
      | succ i =>
        have := updL_get f l (k + 1) r hs.2 hv.2 (fun i hi hn => by
          have h1 := h (i + 1) (by simpa using hi) (fun u hu => by
            rcases List.mem_cons.1 hu with hu | hu
            · simp only [Prod.mk.injEq] at hu; omega
            · exact hn u (by rwa [show k + 1 + i = k + (i + 1) by omega]))
          rw [show k + 1 + i = k + (i + 1) by omega, h1]
          simp) i (by simpa using hi)
        rw [show k + (i + 1) = k + 1 + i by omega, this]
        simp
    · rw [if_neg e]
      cases i with
      | zero =>
        have h1 := h 0 (by simp) (fun u hu => by
          rcases List.mem_cons.1 hu with hu | hu
          · simp only [Prod.mk.injEq] at hu; omega
          · have := above r _ hs.2 _ _ hu; omega)
        rw [h1]; simp
      | succ i =>
        have := updL_get f l (k + 1) ((d, v) :: r) (by simp only [sortedD, Bool.and_eq_true, decide_eq_true_eq]; exact ⟨by omega, hs.2⟩) hv (fun i hi hn => by
          have h1 := h (i + 1) (by simpa using hi) (fun u hu => hn u (by rwa [show k + 1 + i = k + (i + 1) by omega]))
          rw [show k + 1 + i = k + (i + 1) by omega, h1]
          simp) i (by simpa using hi)
        rw [show k + (i + 1) = k + 1 + i by omega, this]
        simp
/-- The frame behind a region. -/
theorem AllBut.frame {ops : Array Oper} {last : Nat} {Φ : Nat → Value → World → Prop} {l : List Value} {ds : List Deferred} {w0 : World} {a : Act} {W : World} (h : AllBut ops last Φ { tmps := l.toArray, defers := ds } w0 a W) (dv : List (Nat × Value))
    (hc : (sortedD 0 dv && ops.toList.all fun o => match o.dst with | none => true | some d => dv.any fun p => p.1 == d) = true) (hv : SlotsV a.tmps dv) : a = { tmps := (updL l 0 dv).toArray, defers := ds } := by
  simp only [Bool.and_eq_true] at hc
  obtain ⟨hc1, hc2⟩ := hc
  obtain ⟨f, d'⟩ := a
  have hd : d' = ds := h.defers
  have hs : f.size = l.length := by simpa using h.size
  subst hd
  congr 1
  apply Array.ext
  · simp [updL_length, hs]
  · intro i h1 h2
    have key := updL_get f l 0 dv hc1 hv (fun i hi hn => by
      have := h.orig (0 + i) (fun j o _ ho hd => by
        have h3 := List.all_eq_true.1 hc2 o (Array.mem_toList_iff.2 (Array.mem_of_getElem? ho))
        simp only [hd] at h3
        obtain ⟨p, hp, hpd⟩ := List.any_eq_true.1 h3
        have : p.1 = 0 + i := by simpa using hpd
        exact hn p.2 (by rw [← this]; exact hp))
      have h4 : (0 : Nat) + i = i := by omega
      rw [h4] at this ⊢
      simpa using this) i (by omega)
    have h3 : i < (updL l 0 dv).length := by simpa using h2
    rw [show 0 + i = i by omega] at key
    simpa [h1, h3] using key

/-- A frame, slot by slot. -/
def Slots (f : Array Value) : Nat → List Value → Prop
  | _, [] => True
  | k, v :: r => f.getD k undef = v ∧ Slots f (k + 1) r
theorem Slots.nth {f : Array Value} : ∀ {l : List Value} {k : Nat}, Slots f k l → ∀ i, i < l.length → f.getD (k + i) undef = l.getD i undef
  | [], _, _, i, hi => by simp at hi
  | v :: r, k, h, 0, _ => by simpa using h.1
  | v :: r, k, h, i + 1, hi => by
    have := Slots.nth h.2 i (by simpa using hi)
    simpa [Nat.add_assoc, Nat.add_comm 1] using this
theorem frame_eq {a : Act} {l : List Value} {d : List Deferred} (h : Slots a.tmps 0 l) (hs : a.tmps.size = l.length) (hd : a.defers = d) : a = { tmps := l.toArray, defers := d } := by
  obtain ⟨f, d'⟩ := a
  simp only at hs hd h
  subst hd
  congr 1
  apply Array.ext
  · simpa using hs
  · intro i h1 h2
    have := Slots.nth h i (by simpa using h2)
    have h3 : i < l.length := by simpa using h2
    simpa [h1, h3] using this

/-- **A REGION THAT DRAWS ITS ORDER: ONE FACT AN OPERATION.** -/
theorem wp_region_facts {id : Nat} (pre org : Array (List Nat)) (run : Array Bool) (Φ : Nat → Value → World → Prop) (hm : P.follows .mixedOrders = true) (hchk : regionChk ops a0.tmps.size ops.size pre org run = true)
    (hst : ∀ i v W W', Grows W W' → Φ i v W → Φ i v W')
    (hg : AllReq (GuardReq ops run Φ) (List.range ops.size))
    (hs : AllReq (fun i => if i = ops.size then True else StepReq P ops pre org run Φ a0 w0 i) (List.range ops.size))
    (hQ : ∀ a W, AllBut ops ops.size Φ a0 w0 a W → Q .normal a W) :
    (Code.region id ops true).wp P Q a0 w0 := by
  refine wp_region_any hm ?_
  rw [anyOf_wpAny]
  exact facts_any (last := ops.size) (opRule_plain P ops Q) hchk hst hg hs (fun o ho => by simp at ho) (fun _ => hQ) ops.size _ a0 _ (by simp) (by simp) rinv0

/-- The same in a round of a loop over a function; the last operation (a store) by itself. -/
theorem wpIn_region_facts_last {id l n : Nat} (last : Nat) (pre org : Array (List Nat)) (run : Array Bool) (Φ : Nat → Value → World → Prop) (hm : P.follows .mixedOrders = true) (hnd : noDefer ops = true) (hchk : regionChk ops a0.tmps.size last pre org run = true)
    (hst : ∀ i v W W', Grows W W' → Φ i v W → Φ i v W')
    (hg : AllReq (GuardReq ops run Φ) (List.range ops.size))
    (hs : AllReq (fun i => if i = last then True else StepReq P ops pre org run Φ a0 w0 i) (List.range ops.size))
    (hlast : ∀ o, ops[last]? = some o → ∀ a W, AllBut ops last Φ a0 w0 a W → StepOk P o a.eval W (fun v W' => Q .normal (a.put o.dst v) W'))
    (hQ : ops.size ≤ last → ∀ a W, AllBut ops last Φ a0 w0 a W → Q .normal a W) :
    (Code.region id ops true).wpIn (Fence.wide.inRound l) n P Q a0 w0 := by
  refine wpIn_region_any hm ?_
  rw [anyOf_wpAnyIn]
  exact facts_any (last := last) (opRule_round l n P ops Q hnd) hchk hst hg hs hlast hQ ops.size _ a0 _ (by simp) (by simp) rinv0

/-- The same outside of rounds; the last operation (a store) by itself. -/
theorem wp_region_facts_last {id : Nat} (last : Nat) (pre org : Array (List Nat)) (run : Array Bool) (Φ : Nat → Value → World → Prop) (hm : P.follows .mixedOrders = true) (hchk : regionChk ops a0.tmps.size last pre org run = true)
    (hst : ∀ i v W W', Grows W W' → Φ i v W → Φ i v W')
    (hg : AllReq (GuardReq ops run Φ) (List.range ops.size))
    (hs : AllReq (fun i => if i = last then True else StepReq P ops pre org run Φ a0 w0 i) (List.range ops.size))
    (hlast : ∀ o, ops[last]? = some o → ∀ a W, AllBut ops last Φ a0 w0 a W → StepOk P o a.eval W (fun v W' => Q .normal (a.put o.dst v) W'))
    (hQ : ops.size ≤ last → ∀ a W, AllBut ops last Φ a0 w0 a W → Q .normal a W) :
    (Code.region id ops true).wp P Q a0 w0 := by
  refine wp_region_any hm ?_
  rw [anyOf_wpAny]
  exact facts_any (last := last) (opRule_plain P ops Q) hchk hst hg hs hlast hQ ops.size _ a0 _ (by simp) (by simp) rinv0
end

end Go.Proofs.YtoppcpiheaedlaaGreatDoor
