/-
  Regions whose order is drawn, with facts that speak of what stands in an earlier slot, too.
-/
import Derived.Test.YtoppcpiheaedlaaGreatDoorMB1
namespace Go.Proofs.YtoppcpiheaedlaaGreatDoor
open Go.RowKit
set_option linter.unusedVariables false
set_option linter.unusedSimpArgs false
def env (a : Act) (t : Nat) : Value := a.tmps.getD t undef
structure RInvM (ops : Array Oper) (last : Nat) (pre : Array (List Nat)) (Φ : Nat → (Nat → Value) → Value → World → Prop) (a0 : Act) (w0 : World) (S : Array Bool) (a : Act) (w : World) : Prop where
 ext : Grows w0 w
 defers : a.defers = a0.defers
 size : a.tmps.size = a0.tmps.size
 done : ∀ i o d, S.getD i false = true → ops[i]? = some o → o.dst = some d → Φ i (env a) (a.tmps.getD d undef) w
 orig : ∀ t, (∀ i o, S.getD i false = true → ops[i]? = some o → o.dst ≠ some t) → a.tmps.getD t undef = a0.tmps.getD t undef
 clo : ∀ i, S.getD i false = true → ∀ j ∈ pre.getD i [], S.getD j false = true
 still : S.getD last false = false
def StepReqM (P : Program) (ops : Array Oper) (pre org : Array (List Nat)) (run : Array Bool) (Φ : Nat → (Nat → Value) → Value → World → Prop) (a0 : Act) (w0 : World) (i : Nat) : Prop :=
 match ops[i]? with
 | none => True
 | some o => ∀ (ρ : Operand → Value) (W : World), (∀ v, ρ (.const v) = v) → (∀ f, ρ (.func f) = .func (.func f) #[] #[]) → (∀ g, ρ (.global g) = .pointer (some ⟨g, 0, none⟩)) → Grows w0 W →
  (∀ j ∈ pre.getD i [], match (ops[j]?).bind (·.dst) with | some d => Φ j (fun t => ρ (.tmp t)) (ρ (.tmp d)) W | none => True) →
  (∀ t ∈ org.getD i [], ρ (.tmp t) = a0.tmps.getD t undef) →
  (if run.getD i false then StepOk P o ρ W (fun v W' => Φ i (fun t => ρ (.tmp t)) v W' ∧ Grows W W') else Φ i (fun t => ρ (.tmp t)) undef W)
theorem step_introM {P : Program} {ops : Array Oper} {pre org : Array (List Nat)} {run : Array Bool} {Φ : Nat → (Nat → Value) → Value → World → Prop} {a0 : Act} {w0 : World} {i last : Nat} {o : Oper} (ho : ops[i]? = some o) (hr : run.getD i false = true)
 (h : ∀ (ρ : Operand → Value) (W : World), (∀ v, ρ (.const v) = v) → (∀ f, ρ (.func f) = .func (.func f) #[] #[]) → (∀ g, ρ (.global g) = .pointer (some ⟨g, 0, none⟩)) → Grows w0 W →
  (∀ j ∈ pre.getD i [], match (ops[j]?).bind (·.dst) with | some d => Φ j (fun t => ρ (.tmp t)) (ρ (.tmp d)) W | none => True) →
  (∀ t ∈ org.getD i [], ρ (.tmp t) = a0.tmps.getD t undef) → StepOk P o ρ W (fun v W' => Φ i (fun t => ρ (.tmp t)) v W' ∧ Grows W W')) :
 if i = last then True else StepReqM P ops pre org run Φ a0 w0 i := by
 split
 · trivial
 · unfold StepReqM
   rw [ho]
   intro ρ W hc hf hgl hW hp hq
   rw [if_pos hr]
   exact h ρ W hc hf hgl hW hp hq
section
variable {P : Program} {ops : Array Oper} {pre org : Array (List Nat)} {run : Array Bool} {Φ : Nat → (Nat → Value) → Value → World → Prop} {a0 : Act} {w0 : World} {Q : Exit → Act → World → Prop}
structure AllButM (ops : Array Oper) (last : Nat) (Φ : Nat → (Nat → Value) → Value → World → Prop) (a0 : Act) (w0 : World) (a : Act) (W : World) : Prop where
 ext : Grows w0 W
 defers : a.defers = a0.defers
 size : a.tmps.size = a0.tmps.size
 done : ∀ i o d, i ≠ last → ops[i]? = some o → o.dst = some d → Φ i (env a) (a.tmps.getD d undef) W
 orig : ∀ t, (∀ (i : Nat) (o : Oper), i ≠ last → ops[i]? = some o → o.dst ≠ some t) → a.tmps.getD t undef = a0.tmps.getD t undef
theorem AllButM.plain {last : Nat} {a : Act} {W : World} (h : AllButM ops last Φ a0 w0 a W) : AllBut ops last (fun i => Φ i (env a)) a0 w0 a W := ⟨h.ext, h.defers, h.size, h.done, h.orig⟩
theorem facts_anyM {opP : Nat → (Act → World → Prop) → Act → World → Prop} {Qn : Act → World → Prop} {last : Nat} (hop : OpRule P ops opP) (hchk : regionChk ops a0.tmps.size last pre org run = true)
 (hst : ∀ j e e' v W W', (∀ k ∈ pre.getD j [], ∀ t, (ops[k]?).bind (·.dst) = some t → e t = e' t) → Grows W W' → Φ j e v W → Φ j e' v W')
 (hg : ∀ e, AllReq (GuardReq ops run (fun i => Φ i e)) (List.range ops.size))
 (hs : AllReq (fun i => if i = last then True else StepReqM P ops pre org run Φ a0 w0 i) (List.range ops.size))
 (hlast : ∀ o, ops[last]? = some o → ∀ a W, AllButM ops last Φ a0 w0 a W → StepOk P o a.eval W (fun v W' => Qn (a.put o.dst v) W'))
 (hQ : ops.size ≤ last → ∀ a W, AllButM ops last Φ a0 w0 a W → Qn a W) :
 ∀ (fuel : Nat) (S : Array Bool) (a : Act) (W : World), S.size = ops.size → S.count false ≤ fuel → RInvM ops last pre Φ a0 w0 S a W → anyOf ops opP Qn fuel S a W := by
 simp only [regionChk, Bool.and_eq_true] at hchk
 obtain ⟨⟨hlast1, hlast2⟩, hchk⟩ := hchk
 have hall : ∀ (i : Nat) (o : Oper), ops[i]? = some o → _ := fun i o ho => List.all_eq_true.1 hchk i (List.mem_range.2 (Array.getElem?_eq_some_iff.1 ho).1)
 have hback : ∀ (i : Nat) (o : Oper), ops[i]? = some o → ∀ e ∈ o.after, Region.binds .any e = true → e.on < i := fun i o ho e he hb => by
  have h := hall i o ho
  simp only [ho, Bool.and_eq_true] at h
  have h1 := List.all_eq_true.1 h.1.1.1.1 e (Array.mem_toList_iff.2 he)
  simpa [hb] using h1
 have hdst : ∀ (i : Nat) (o : Oper) (d : Nat), ops[i]? = some o → o.dst = some d → d < a0.tmps.size ∧ ∀ (j : Nat) (oj : Oper), ops[j]? = some oj → j ≠ i → oj.dst ≠ some d := fun i o d ho hd => by
  have h := hall i o ho
  simp only [ho, Bool.and_eq_true, hd] at h
  have h1 := h.1.1.1.2
  refine ⟨of_decide_eq_true h1.1, fun j oj hj hne => ?_⟩
  have h2 := List.all_eq_true.1 h1.2 j (List.mem_range.2 (Array.getElem?_eq_some_iff.1 hj).1)
  simpa [hj, hne] using h2
 have hpre : ∀ (i : Nat) (o : Oper), ops[i]? = some o → ∀ j ∈ pre.getD i [], ∃ e ∈ o.after, Region.binds .any e = true ∧ (e.on = j ∨ j ∈ pre.getD e.on []) := fun i o ho j hj => by
  have h := hall i o ho
  simp only [ho, Bool.and_eq_true] at h
  have h1 := List.all_eq_true.1 h.1.1.2 j hj
  obtain ⟨e, he, hb⟩ := List.any_eq_true.1 h1
  simp only [Bool.and_eq_true, Bool.or_eq_true, beq_iff_eq, List.contains_iff_mem] at hb
  exact ⟨e, Array.mem_toList_iff.1 he, hb.1, hb.2⟩
 have horg : ∀ (i : Nat) (o : Oper), ops[i]? = some o → ∀ t ∈ org.getD i [], ∀ (j : Nat) (oj : Oper), ops[j]? = some oj → oj.dst = some t → j = i ∨ i ∈ pre.getD j [] := fun i o ho t ht j oj hj hd => by
  have h := hall i o ho
  simp only [ho, Bool.and_eq_true] at h
  have h1 := List.all_eq_true.1 (List.all_eq_true.1 h.1.2 t ht) j (List.mem_range.2 (Array.getElem?_eq_some_iff.1 hj).1)
  simp only [hj, hd, Bool.or_eq_true, bne_self_eq_false, Bool.false_eq_true, false_or, beq_iff_eq, List.contains_iff_mem] at h1
  exact h1
 have hguard : ∀ (i : Nat) (o : Oper) (g : Nat) (b : Bool), ops[i]? = some o → o.guard = some (g, b) → (∃ e ∈ o.after, Region.binds .any e = true ∧ e.on = g) ∧ ∃ og d, ops[g]? = some og ∧ og.dst = some d := fun i o g b ho hgd => by
  have h := hall i o ho
  simp only [ho, Bool.and_eq_true, hgd] at h
  obtain ⟨h1, h2⟩ := h.2
  obtain ⟨e, he, hb⟩ := List.any_eq_true.1 h1
  simp only [Bool.and_eq_true, beq_iff_eq] at hb
  refine ⟨⟨e, Array.mem_toList_iff.1 he, hb.1, hb.2⟩, ?_⟩
  cases hog : ops[g]? with
  | none => simp [hog] at h2
  | some og =>
   simp [hog] at h2
   obtain ⟨d, hd⟩ := Option.isSome_iff_exists.1 h2
   exact ⟨og, d, rfl, hd⟩
 have hrun0 : ∀ (i : Nat) (o : Oper), ops[i]? = some o → o.guard = none → run.getD i false = true := fun i o ho hgd => by
  have h := hall i o ho
  simp only [ho, Bool.and_eq_true, hgd] at h
  exact h.2
 have hlastpre : ∀ j, j < ops.size → j ≠ last → last < ops.size → j ∈ pre.getD last [] := fun j hj hne hl => by
  have h := List.all_eq_true.1 hlast1 j (List.mem_range.2 hj)
  simp only [Bool.or_eq_true, beq_iff_eq, decide_eq_true_eq, List.contains_iff_mem] at h
  rcases h with (h | h) | h
  · exact absurd h hne
  · omega
  · exact h
 have finish : ∀ (S : Array Bool) (a : Act) (W : World), S.size = ops.size → RInvM ops last pre Φ a0 w0 S a W → Region.ready .any ops S = [] → Qn a W := fun S a W hS hI hr => by
  have hl := all_listed hS hback hr
  have hge : ops.size ≤ last := by
   rcases Nat.lt_or_ge last ops.size with h | h
   · have := hl last h; rw [hI.still] at this; cases this
   · exact h
  refine hQ hge a W ⟨hI.ext, hI.defers, hI.size, fun i o d _ ho hd => hI.done i o d (hl i (Array.getElem?_eq_some_iff.1 ho).1) ho hd, fun t ht => hI.orig t fun i o hi ho => ht i o ?_ ho⟩
  have := (Array.getElem?_eq_some_iff.1 ho).1
  omega
 intro fuel
 induction fuel with
 | zero =>
  intro S a W hS hc hI
  have hr : Region.ready .any ops S = [] := by
   rw [List.eq_nil_iff_forall_not_mem]
   intro i hi
   have h0 := (mem_ready.1 hi).1
   have := count_set_lt S i h0
   omega
  exact ⟨hr, finish S a W hS hI hr⟩
 | succ fuel ih =>
  intro S a W hS hc hI
  refine ⟨fun hr => finish S a W hS hI hr, fun i hi => ?_⟩
  obtain ⟨h0, o, ho, hed⟩ := mem_ready.1 hi
  have hiS : i < S.size := by rw [hS]; exact (Array.getElem?_eq_some_iff.1 ho).1
  have hcnt := count_set_lt S i h0
  have hun : S.getD i false = false := by simpa [hiS] using h0
  have hprel : ∀ j ∈ pre.getD i [], S.getD j false = true := fun j hj => by
   obtain ⟨e, he, hb, rfl | hjk⟩ := hpre i o ho j hj
   · exact hed e he hb
   · exact hI.clo _ (hed e he hb) j hjk
  have hsee : (∀ j ∈ pre.getD i [], match (ops[j]?).bind (·.dst) with | some d => Φ j (env a) (a.eval (.tmp d)) W | none => True) := fun j hj => by
   cases hoj : ops[j]? with
   | none => simp
   | some oj =>
    cases hd : oj.dst with
    | none => simp [hd]
    | some d => simpa [hd, Act.eval] using hI.done j oj d (hprel j hj) hoj hd
  have horgl : ∀ t ∈ org.getD i [], a.eval (.tmp t) = a0.tmps.getD t undef := fun t ht => by
   refine hI.orig t fun j oj hj hoj hd => ?_
   rcases horg i o ho t ht j oj hoj hd with rfl | hin
   · rw [hun] at hj; cases hj
   · have := hI.clo j hj i hin
     rw [hun] at this; cases this
  by_cases hil : i = last
  · subst hil
    have hlisted : ∀ j, j < ops.size → j ≠ i → S.getD j false = true := fun j hj hne => hprel j (hlastpre j hj hne (Array.getElem?_eq_some_iff.1 ho).1)
    have hbut : AllButM ops i Φ a0 w0 a W := ⟨hI.ext, hI.defers, hI.size, fun j oj d hne hoj hd => hI.done j oj d (hlisted j (Array.getElem?_eq_some_iff.1 hoj).1 hne) hoj hd,
     fun t ht => hI.orig t fun j oj hj hoj => ht j oj (fun e => by subst e; rw [hun] at hj; cases hj) hoj⟩
    have hwant : Region.wanted o (yielded ops a.tmps) = true := by
     simp only [ho] at hlast2
     unfold Region.wanted
     rw [Option.isNone_iff_eq_none.1 hlast2]
    refine hop.does i o a W _ _ ho hwant (hlast o ho a W hbut) fun v w' hq => anyOf_done ?_ hq fuel
    rw [List.eq_nil_iff_forall_not_mem]
    intro j hj
    obtain ⟨hj0, oj, hoj, _⟩ := mem_ready.1 hj
    have hjl := (Array.getElem?_eq_some_iff.1 hoj).1
    by_cases hij : i = j
    · subst hij; simp [hiS] at hj0
    · rw [getD_set_ne true hij] at hj0
      have h1 := hlisted j hjl (fun e => hij e.symm)
      rw [← hS] at hjl
      simp [hjl] at h1 hj0
      rw [h1] at hj0
      cases hj0
  have hreq := AllReq.mem hs i (List.mem_range.2 (Array.getElem?_eq_some_iff.1 ho).1)
  simp only [if_neg hil, StepReqM, ho] at hreq
  have hreq' := hreq a.eval W (fun _ => rfl) (fun _ => rfl) (fun _ => rfl) hI.ext hsee horgl
  have hwant : Region.wanted o (yielded ops a.tmps) = run.getD i false := by
   unfold Region.wanted
   cases hgd : o.guard with
   | none => simp [hrun0 i o ho hgd]
   | some gb =>
    obtain ⟨g, b⟩ := gb
    obtain ⟨⟨e, he, hb, rfl⟩, og, d, hog, hd⟩ := hguard i o g b ho hgd
    have hgr := AllReq.mem (hg (env a)) i (List.mem_range.2 (Array.getElem?_eq_some_iff.1 ho).1)
    simp only [GuardReq, ho, hgd] at hgr
    have hgv := hgr _ W (hI.done e.on og d (hed e he hb) hog hd)
    have hdl : d < a.tmps.size := by rw [hI.size]; exact (hdst _ og d hog hd).1
    have hy : yielded ops a.tmps e.on = boolOf (a.tmps.getD d undef) := by
     unfold yielded
     simp [hog, hd, hdl]
     cases a.tmps[d] <;> rfl
    simp only [hy]
    exact hgv
  -- what comes behind
  have next : ∀ v W', Φ i (env a) v W' → Grows W W' → anyOf ops opP Qn fuel (S.setIfInBounds i true) (a.put o.dst v) W' := fun v W' hv hW => by
   have henv : ∀ j, S.getD j false = true ∨ j = i → ∀ k ∈ pre.getD j [], ∀ t, (ops[k]?).bind (·.dst) = some t → env a t = env (a.put o.dst v) t := fun j hj k hk t ht => by
    have hkd : S.getD k false = true := by
     rcases hj with hj | rfl
     · exact hI.clo j hj k hk
     · exact hprel k hk
    have hki : i ≠ k := fun e => by rw [← e, hun] at hkd; cases hkd
    cases hok : ops[k]? with
    | none => rw [hok] at ht; simp at ht
    | some ok =>
     rw [hok] at ht
     have hne : o.dst ≠ some t := (hdst k ok t hok (by simpa using ht)).2 i o ho hki
     unfold env
     cases hod : o.dst with
     | none => rfl
     | some d' =>
      have hdd : d' ≠ t := fun e => hne (by rw [hod, e])
      simp [Act.put, Array.getElem?_setIfInBounds_ne hdd]
   refine ih _ _ _ (by simpa using hS) (by omega) ⟨Grows.trans' hI.ext hW, ?_, ?_, ?_, ?_, ?_, by rw [getD_set S i last hiS, if_neg hil]; exact hI.still⟩
   · rw [← hI.defers]; cases o.dst <;> rfl
   · rw [← hI.size]; cases o.dst <;> simp [Act.put]
   · intro j oj d hj hoj hd
     rw [getD_set S i j hiS] at hj
     by_cases hij : i = j
     · subst hij
       rw [ho] at hoj
       obtain rfl := Option.some.inj hoj
       have hdl : d < a.tmps.size := by rw [hI.size]; exact (hdst i o d ho hd).1
       have hv' := hst i _ _ v W' W' (henv i (.inr rfl)) (Below.refl _ _) hv
       simpa [Act.put, hd, hdl] using hv'
     · rw [if_neg hij] at hj
       have hold := hst j _ _ _ W W' (henv j (.inl hj)) hW (hI.done j oj d hj hoj hd)
       have hne : o.dst ≠ some d := (hdst j oj d hoj hd).2 i o ho hij
       cases hod : o.dst with
       | none => rw [hod] at hold; simpa [Act.put] using hold
       | some d' =>
        have hdd : d' ≠ d := fun e => hne (by rw [hod, e])
        have hold' : Φ j (env (a.put o.dst v)) ((a.put (some d') v).tmps.getD d undef) W' := by simpa [Act.put, Array.getElem?_setIfInBounds_ne hdd] using hold
        rw [hod] at hold'
        exact hold'
   · intro t ht
     have h1 := ht i o (by rw [getD_set S i i hiS]; simp) ho
     rw [← hI.orig t fun j oj hj hoj => ht j oj (by rw [getD_set S i j hiS]; simp [hj]) hoj]
     cases hod : o.dst with
     | none => rfl
     | some d' =>
      have hdd : d' ≠ t := fun e => h1 (by rw [hod, e])
      simp [Act.put, Array.getElem?_setIfInBounds_ne hdd]
   · intro j hj k hk
     rw [getD_set S i j hiS] at hj
     rw [getD_set S i k hiS]
     by_cases hik : i = k
     · simp [hik]
     · rw [if_neg hik]
       by_cases hij : i = j
       · subst hij; exact hprel k hk
       · rw [if_neg hij] at hj; exact hI.clo j hj k hk
  cases hrn : run.getD i false with
  | true =>
   simp only [hrn, if_true] at hreq'
   exact hop.does i o a W _ _ ho (by rw [hwant, hrn]) hreq' fun v W' ⟨h1, h2⟩ => next v W' h1 h2
  | false =>
   simp only [hrn] at hreq'
   exact hop.skips i o a W _ ho (by rw [hwant, hrn]) (next undef W (by have h9 : Φ i (fun t => a.eval (Operand.tmp t)) undef W := (by simpa using hreq'); exact h9) (Below.refl _ _))
theorem rinv0M {last : Nat} : RInvM ops last pre Φ a0 w0 (Array.replicate ops.size false) a0 { w0 with drawn := w0.drawn + 1 } := by
 refine ⟨(Below.refl _ _).drew, rfl, rfl, ?_, ?_, ?_, ?_⟩
 · intro i o d hi
   simp [Array.getElem?_replicate] at hi
   split at hi <;> simp at hi
 · intro t _; rfl
 · intro i hi
   simp [Array.getElem?_replicate] at hi
   split at hi <;> simp at hi
 · simp [Array.getElem?_replicate]
   split <;> simp
end
inductive SpecM where
 | val (v : Value)
 | any
 | pred (p : Value → World → Prop) (h : ∀ v W W', Grows W W' → p v W → p v W')
 | two (t : Nat) (p : Value → Value → World → Prop) (h : ∀ u v W W', Grows W W' → p u v W → p u v W')
def SpecM.holds : SpecM → (Nat → Value) → Value → World → Prop
 | .val v, _, u, _ => u = v
 | .any, _, _, _ => True
 | .pred p _, _, u, W => p u W
 | .two t p _, e, u, W => p (e t) u W
def SpecM.slot : SpecM → Option Nat
 | .two t _ _ => some t
 | _ => none
def phiM (specs : Array SpecM) (i : Nat) (e : Nat → Value) (v : Value) (W : World) : Prop := (specs.getD i SpecM.any).holds e v W
def slotChk (ops : Array Oper) (pre : Array (List Nat)) (specs : Array SpecM) : Bool :=
 (List.range specs.size).all fun i => match (specs.getD i SpecM.any).slot with
  | none => true
  | some t => (pre.getD i []).any fun k => (ops[k]?).bind (·.dst) == some t
theorem SpecM.stays {ops : Array Oper} {pre : Array (List Nat)} {specs : Array SpecM} (hc : slotChk ops pre specs = true) {j : Nat} {e e' : Nat → Value} {v : Value} {W W' : World} (h1 : ∀ k ∈ pre.getD j [], ∀ t, (ops[k]?).bind (·.dst) = some t → e t = e' t) (g : Grows W W') (h : phiM specs j e v W) : phiM specs j e' v W' := by
 unfold phiM at h ⊢
 cases hs : specs.getD j SpecM.any with
 | val u => rw [hs] at h; exact h
 | any => trivial
 | pred p q => rw [hs] at h; exact q _ _ _ g h
 | two t p q =>
  rw [hs] at h
  have hj : j < specs.size := by
   rcases Nat.lt_or_ge j specs.size with h | h
   · exact h
   · rw [Array.getD_eq_getD_getElem?, Array.getElem?_eq_none h] at hs; cases hs
  have h2 := List.all_eq_true.1 hc j (List.mem_range.2 hj)
  rw [hs] at h2
  obtain ⟨k, hk, hkt⟩ := List.any_eq_true.1 h2
  have h3 := h1 k hk t (by simpa using hkt)
  show p (e' t) v W'
  rw [← h3]
  exact q _ _ _ _ g h
def noGuard (ops : Array Oper) : Bool := ops.toList.all fun o => o.guard.isNone
theorem specs_lastM {P : Program} {ops : Array Oper} {a0 : Act} {w0 : World} {Q : Exit → Act → World → Prop} {id : Nat} (last : Nat) (pre org : Array (List Nat)) (run : Array Bool) (specs : Array SpecM) (hm : P.follows .mixedOrders = true) (hchk : regionChk ops a0.tmps.size last pre org run = true)
 (hg : (noGuard ops && slotChk ops pre specs) = true) {o : Oper} (ho : ops[last]? = some o)
 (hs : AllReq (fun i => if i = last then True else StepReqM P ops pre org run (phiM specs) a0 w0 i) (List.range ops.size))
 (hlast : ∀ a W, AllBut ops last (fun i => phiM specs i (env a)) a0 w0 a W → StepOk P o a.eval W (fun v W' => Q .normal (a.put o.dst v) W')) :
 (Code.region id ops true).wp P Q a0 w0 := by
 rw [Bool.and_eq_true] at hg
 refine wp_region_any hm ?_
 rw [anyOf_wpAny]
 refine facts_anyM (Φ := phiM specs) (last := last) (opRule_plain P ops Q) hchk (fun j e e' v W W' h1 g h => SpecM.stays hg.2 h1 g h) (fun e => allReq_of fun i hi => ?_) hs (fun o' ho' a W h => by rw [ho] at ho'; obtain rfl := Option.some.inj ho'; exact hlast a W h.plain) (fun h => by have := (Array.getElem?_eq_some_iff.1 ho).1; omega) ops.size _ a0 _ (by simp) (by simp) rinv0M
 unfold GuardReq
 cases hoi : ops[i]? with
 | none => trivial
 | some oi =>
  have := List.all_eq_true.1 hg.1 oi (Array.mem_toList_iff.2 (Array.mem_of_getElem? hoi))
  rw [Option.isNone_iff_eq_none] at this
  simp only [this]
end Go.Proofs.YtoppcpiheaedlaaGreatDoor
