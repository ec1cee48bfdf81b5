/-
  Regions whose order is drawn, in which operations write: facts that hold from the operation on that makes them, since all that write lie ahead of it.
-/
import Derived.Test.YtoppcpiheaedlaaGreatDoorMB1
namespace Go.Proofs.YtoppcpiheaedlaaGreatDoor
open Go.RowKit
set_option linter.unusedVariables false
set_option linter.unusedSimpArgs false
section
variable {P : Program} {ops : Array Oper} {pre org : Array (List Nat)} {run : Array Bool} {Φ : Nat → Value → World → Prop} {a0 : Act} {w0 : World} {Q : Exit → Act → World → Prop} {E : World → World → Prop} {T : StateK}
theorem facts_anyL (hE : ExtOk E) {opP : Nat → (Act → World → Prop) → Act → World → Prop} {Qn : Act → World → Prop} {last : Nat} (hop : OpRule P ops opP) (hchk : regionChk ops a0.tmps.size last pre org run = true)
 (hst : ∀ i j v W W', i ∉ pre.getD j [] → i ≠ j → T.rel E i W W' → Φ j v W → Φ j v W') (hEG : ∀ {a b}, Grows a b → E a b)
 (hks : ∀ i s W W', i ∉ T.kl.getD s [] → T.made.getD s none ≠ some i → T.rel E i W W' → T.Ψ s W → T.Ψ s W') (hkd : T.chk ops.size pre = true)
 (hg : AllReq (GuardReq ops run Φ) (List.range ops.size))
 (hs : AllReq (fun i => if i = last then True else StepReqK E T P ops pre org run Φ a0 w0 i) (List.range ops.size))
 (hlast : ∀ o, ops[last]? = some o → ∀ a W, AllButK E T ops last Φ a0 w0 a W → StepOk P o a.eval W (fun v W' => Qn (a.put o.dst v) W'))
 (hQ : ops.size ≤ last → ∀ a W, AllButK E T ops last Φ a0 w0 a W → Qn a W) :
 ∀ (fuel : Nat) (S : Array Bool) (a : Act) (W : World), S.size = ops.size → S.count false ≤ fuel → RInvK E T ops last pre Φ a0 w0 S a W → anyOf ops opP Qn fuel S a W := by
 simp only [regionChk, Bool.and_eq_true] at hchk
 obtain ⟨⟨hlast1, hlast2⟩, hchk⟩ := hchk
 have hall : ∀ (i : Nat) (o : Oper), ops[i]? = some o → _ := fun i o ho => List.all_eq_true.1 hchk i (List.mem_range.2 (Array.getElem?_eq_some_iff.1 ho).1)
 have hback : ∀ (i : Nat) (o : Oper), ops[i]? = some o → ∀ e ∈ o.after, Region.binds .any e = true → e.on < i := fun i o ho e he hb => by
  have h := hall i o ho
  simp only [ho, Bool.and_eq_true] at h
  have h1 := List.all_eq_true.1 h.1.1.1.1 e (Array.mem_toList_iff.2 he)
  simpa [hb] using h1
 have hdst : ∀ (i : Nat) (o : Oper) (d : Nat), ops[i]? = some o → o.dst = some d → d < a0.tmps.size ∧ ∀ (j : Nat) (oj : Oper), ops[j]? = some oj → j ≠ i → oj.dst ≠ some d := fun i o d ho hd => by
  have h := hall i o ho
  simp only [ho, Bool.and_eq_true, hd] at h
  have h1 := h.1.1.1.2
  refine ⟨of_decide_eq_true h1.1, fun j oj hj hne => ?_⟩
  have h2 := List.all_eq_true.1 h1.2 j (List.mem_range.2 (Array.getElem?_eq_some_iff.1 hj).1)
  simpa [hj, hne] using h2
 have hpre : ∀ (i : Nat) (o : Oper), ops[i]? = some o → ∀ j ∈ pre.getD i [], ∃ e ∈ o.after, Region.binds .any e = true ∧ (e.on = j ∨ j ∈ pre.getD e.on []) := fun i o ho j hj => by
  have h := hall i o ho
  simp only [ho, Bool.and_eq_true] at h
  have h1 := List.all_eq_true.1 h.1.1.2 j hj
  obtain ⟨e, he, hb⟩ := List.any_eq_true.1 h1
  simp only [Bool.and_eq_true, Bool.or_eq_true, beq_iff_eq, List.contains_iff_mem] at hb
  exact ⟨e, Array.mem_toList_iff.1 he, hb.1, hb.2⟩
 have horg : ∀ (i : Nat) (o : Oper), ops[i]? = some o → ∀ t ∈ org.getD i [], ∀ (j : Nat) (oj : Oper), ops[j]? = some oj → oj.dst = some t → j = i ∨ i ∈ pre.getD j [] := fun i o ho t ht j oj hj hd => by
  have h := hall i o ho
  simp only [ho, Bool.and_eq_true] at h
  have h1 := List.all_eq_true.1 (List.all_eq_true.1 h.1.2 t ht) j (List.mem_range.2 (Array.getElem?_eq_some_iff.1 hj).1)
  simp only [hj, hd, Bool.or_eq_true, bne_self_eq_false, Bool.false_eq_true, false_or, beq_iff_eq, List.contains_iff_mem] at h1
  exact h1
 have hguard : ∀ (i : Nat) (o : Oper) (g : Nat) (b : Bool), ops[i]? = some o → o.guard = some (g, b) → (∃ e ∈ o.after, Region.binds .any e = true ∧ e.on = g) ∧ ∃ og d, ops[g]? = some og ∧ og.dst = some d := fun i o g b ho hgd => by
  have h := hall i o ho
  simp only [ho, Bool.and_eq_true, hgd] at h
  obtain ⟨h1, h2⟩ := h.2
  obtain ⟨e, he, hb⟩ := List.any_eq_true.1 h1
  simp only [Bool.and_eq_true, beq_iff_eq] at hb
  refine ⟨⟨e, Array.mem_toList_iff.1 he, hb.1, hb.2⟩, ?_⟩
  cases hog : ops[g]? with
  | none => simp [hog] at h2
  | some og =>
   simp [hog] at h2
   obtain ⟨d, hd⟩ := Option.isSome_iff_exists.1 h2
   exact ⟨og, d, rfl, hd⟩
 have hrun0 : ∀ (i : Nat) (o : Oper), ops[i]? = some o → o.guard = none → run.getD i false = true := fun i o ho hgd => by
  have h := hall i o ho
  simp only [ho, Bool.and_eq_true, hgd] at h
  exact h.2
 have hlastpre : ∀ j, j < ops.size → j ≠ last → last < ops.size → j ∈ pre.getD last [] := fun j hj hne hl => by
  have h := List.all_eq_true.1 hlast1 j (List.mem_range.2 hj)
  simp only [Bool.or_eq_true, beq_iff_eq, decide_eq_true_eq, List.contains_iff_mem] at h
  rcases h with (h | h) | h
  · exact absurd h hne
  · omega
  · exact h
 have finish : ∀ (S : Array Bool) (a : Act) (W : World), S.size = ops.size → RInvK E T ops last pre Φ a0 w0 S a W → Region.ready .any ops S = [] → Qn a W := fun S a W hS hI hr => by
  have hl := all_listed hS hback hr
  have hge : ops.size ≤ last := by
   rcases Nat.lt_or_ge last ops.size with h | h
   · have := hl last h; rw [hI.still] at this; cases this
   · exact h
  refine hQ hge a W ⟨hI.ext, hI.defers, hI.size, fun i o d _ ho hd => hI.done i o d (hl i (Array.getElem?_eq_some_iff.1 ho).1) ho hd, fun i o _ ho => hI.mute i o (hl i (Array.getElem?_eq_some_iff.1 ho).1) ho, fun s hm hk => hI.stat s (fun j hj => hl j (hm j hj).1) (by rw [hk]; simp), fun t ht => hI.orig t fun i o hi ho => ht i o ?_ ho⟩
  have := (Array.getElem?_eq_some_iff.1 ho).1
  omega
 intro fuel
 induction fuel with
 | zero =>
  intro S a W hS hc hI
  have hr : Region.ready .any ops S = [] := by
   rw [List.eq_nil_iff_forall_not_mem]
   intro i hi
   have h0 := (mem_ready.1 hi).1
   have := count_set_lt S i h0
   omega
  exact ⟨hr, finish S a W hS hI hr⟩
 | succ fuel ih =>
  intro S a W hS hc hI
  refine ⟨fun hr => finish S a W hS hI hr, fun i hi => ?_⟩
  obtain ⟨h0, o, ho, hed⟩ := mem_ready.1 hi
  have hiS : i < S.size := by rw [hS]; exact (Array.getElem?_eq_some_iff.1 ho).1
  have hcnt := count_set_lt S i h0
  have hun : S.getD i false = false := by simpa [hiS] using h0
  have hprel : ∀ j ∈ pre.getD i [], S.getD j false = true := fun j hj => by
   obtain ⟨e, he, hb, rfl | hjk⟩ := hpre i o ho j hj
   · exact hed e he hb
   · exact hI.clo _ (hed e he hb) j hjk
  have hsee : (∀ j ∈ pre.getD i [], match (ops[j]?).bind (·.dst) with | some d => Φ j (a.eval (.tmp d)) W | none => True) := fun j hj => by
   cases hoj : ops[j]? with
   | none => simp
   | some oj =>
    cases hd : oj.dst with
    | none => simp [hd]
    | some d => simpa [hd, Act.eval] using hI.done j oj d (hprel j hj) hoj hd
  have horgl : ∀ t ∈ org.getD i [], a.eval (.tmp t) = a0.tmps.getD t undef := fun t ht => by
   refine hI.orig t fun j oj hj hoj hd => ?_
   rcases horg i o ho t ht j oj hoj hd with rfl | hin
   · rw [hun] at hj; cases hj
   · have := hI.clo j hj i hin
     rw [hun] at this; cases this
  by_cases hil : i = last
  · subst hil
    have hlisted : ∀ j, j < ops.size → j ≠ i → S.getD j false = true := fun j hj hne => hprel j (hlastpre j hj hne (Array.getElem?_eq_some_iff.1 ho).1)
    have hbut : AllButK E T ops i Φ a0 w0 a W := ⟨hI.ext, hI.defers, hI.size, fun j oj d hne hoj hd => hI.done j oj d (hlisted j (Array.getElem?_eq_some_iff.1 hoj).1 hne) hoj hd, fun j oj hne hoj => hI.mute j oj (hlisted j (Array.getElem?_eq_some_iff.1 hoj).1 hne) hoj, fun s hm hk => hI.stat s (fun j hj => hlisted j (hm j hj).1 (hm j hj).2) (by rw [hk]; simp),
     fun t ht => hI.orig t fun j oj hj hoj => ht j oj (fun e => by subst e; rw [hun] at hj; cases hj) hoj⟩
    have hwant : Region.wanted o (yielded ops a.tmps) = true := by
     simp only [ho] at hlast2
     unfold Region.wanted
     rw [Option.isNone_iff_eq_none.1 hlast2]
    refine hop.does i o a W _ _ ho hwant (hlast o ho a W hbut) fun v w' hq => anyOf_done ?_ hq fuel
    rw [List.eq_nil_iff_forall_not_mem]
    intro j hj
    obtain ⟨hj0, oj, hoj, _⟩ := mem_ready.1 hj
    have hjl := (Array.getElem?_eq_some_iff.1 hoj).1
    by_cases hij : i = j
    · subst hij; simp [hiS] at hj0
    · rw [getD_set_ne true hij] at hj0
      have h1 := hlisted j hjl (fun e => hij e.symm)
      rw [← hS] at hjl
      simp [hjl] at h1 hj0
      rw [h1] at hj0
      cases hj0
  have hreq := AllReq.mem hs i (List.mem_range.2 (Array.getElem?_eq_some_iff.1 ho).1)
  simp only [if_neg hil, StepReqK, ho] at hreq
  have huse : ∀ s ∈ T.use.getD i [], T.Ψ s W := fun s hs => by
   have hc := List.all_eq_true.1 (List.all_eq_true.1 hkd i (List.mem_range.2 (Array.getElem?_eq_some_iff.1 ho).1)) s hs
   simp only [Bool.and_eq_true] at hc
   refine hI.stat s (fun j hj => ?_) (fun k hk => ?_)
   · have h1 := hc.1
     rw [hj] at h1
     exact hprel j (by simpa using h1)
   · have h1 := List.all_eq_true.1 hc.2 k hk
     simp only [Bool.or_eq_true, beq_iff_eq, List.contains_iff_mem] at h1
     rcases h1 with rfl | h1
     · exact hun
     · cases hSk : S.getD k false with
       | false => rfl
       | true =>
        have := hI.clo k hSk i h1
        rw [hun] at this
        cases this
  have hreq' := hreq a.eval W (fun _ => rfl) (fun _ => rfl) (fun _ => rfl) hI.ext hsee horgl huse
  have hwant : Region.wanted o (yielded ops a.tmps) = run.getD i false := by
   unfold Region.wanted
   cases hgd : o.guard with
   | none => simp [hrun0 i o ho hgd]
   | some gb =>
    obtain ⟨g, b⟩ := gb
    obtain ⟨⟨e, he, hb, rfl⟩, og, d, hog, hd⟩ := hguard i o g b ho hgd
    have hgr := AllReq.mem hg i (List.mem_range.2 (Array.getElem?_eq_some_iff.1 ho).1)
    simp only [GuardReq, ho, hgd] at hgr
    have hgv := hgr _ W (hI.done e.on og d (hed e he hb) hog hd)
    have hdl : d < a.tmps.size := by rw [hI.size]; exact (hdst _ og d hog hd).1
    have hy : yielded ops a.tmps e.on = boolOf (a.tmps.getD d undef) := by
     unfold yielded
     simp [hog, hd, hdl]
     cases a.tmps[d] <;> rfl
    simp only [hy]
    exact hgv
  -- what comes behind
  have next : ∀ v W', Φ i v W' → T.rel E i W W' → (∀ s, T.made.getD s none = some i → T.Ψ s W') → anyOf ops opP Qn fuel (S.setIfInBounds i true) (a.put o.dst v) W' := fun v W' hv hR hmk => by
   have hW : E W W' := by
    unfold StateK.rel at hR
    split at hR
    · exact hR
    · exact hEG hR
   refine ih _ _ _ (by simpa using hS) (by omega) ⟨hE.trans hI.ext hW, ?_, ?_, ?_, ?_, ?_, ?_, ?_, by rw [getD_set S i last hiS, if_neg hil]; exact hI.still⟩
   · rw [← hI.defers]; cases o.dst <;> rfl
   · rw [← hI.size]; cases o.dst <;> simp [Act.put]
   · intro j oj d hj hoj hd
     rw [getD_set S i j hiS] at hj
     by_cases hij : i = j
     · subst hij
       rw [ho] at hoj
       obtain rfl := Option.some.inj hoj
       have hdl : d < a.tmps.size := by rw [hI.size]; exact (hdst i o d ho hd).1
       simpa [Act.put, hd, hdl] using hv
     · rw [if_neg hij] at hj
       have hold := hst i j _ W W' (fun hin => by have := hI.clo j hj i hin; rw [hun] at this; cases this) hij hR (hI.done j oj d hj hoj hd)
       have hne : o.dst ≠ some d := (hdst j oj d hoj hd).2 i o ho hij
       cases hod : o.dst with
       | none => simpa [Act.put] using hold
       | some d' =>
        have hdd : d' ≠ d := fun e => hne (by rw [hod, e])
        simpa [Act.put, Array.getElem?_setIfInBounds_ne hdd] using hold
   · intro j oj hj hoj
     rw [getD_set S i j hiS] at hj
     by_cases hij : i = j
     · subst hij; exact ⟨v, hv⟩
     · rw [if_neg hij] at hj
       obtain ⟨u, hu⟩ := hI.mute j oj hj hoj
       exact ⟨u, hst i j _ W W' (fun hin => by have := hI.clo j hj i hin; rw [hun] at this; cases this) hij hR hu⟩
   · intro s hm hk
     by_cases hsi : T.made.getD s none = some i
     · exact hmk s hsi
     · have hik : i ∉ T.kl.getD s [] := fun hin => by
        have := hk i hin
        rw [getD_set S i i hiS] at this
        simp at this
       refine hks i s W W' hik hsi hR (hI.stat s (fun j hj => ?_) (fun k hkk => ?_))
       · have h1 := hm j hj
         rw [getD_set S i j hiS, if_neg (fun e => hsi (by rw [hj, e]))] at h1
         exact h1
       · have h1 := hk k hkk
         rw [getD_set S i k hiS, if_neg (fun e => hik (by rw [e]; exact hkk))] at h1
         exact h1
   · intro t ht
     have h1 := ht i o (by rw [getD_set S i i hiS]; simp) ho
     rw [← hI.orig t fun j oj hj hoj => ht j oj (by rw [getD_set S i j hiS]; simp [hj]) hoj]
     cases hod : o.dst with
     | none => rfl
     | some d' =>
      have hdd : d' ≠ t := fun e => h1 (by rw [hod, e])
      simp [Act.put, Array.getElem?_setIfInBounds_ne hdd]
   · intro j hj k hk
     rw [getD_set S i j hiS] at hj
     rw [getD_set S i k hiS]
     by_cases hik : i = k
     · simp [hik]
     · rw [if_neg hik]
       by_cases hij : i = j
       · subst hij; exact hprel k hk
       · rw [if_neg hij] at hj; exact hI.clo j hj k hk
  cases hrn : run.getD i false with
  | true =>
   simp only [hrn, if_true] at hreq'
   exact hop.does i o a W _ _ ho (by rw [hwant, hrn]) hreq' fun v W' ⟨h1, h2, h3⟩ => next v W' h1 h2 h3
  | false =>
   simp only [hrn, Bool.false_eq_true, if_false] at hreq'
   exact hop.skips i o a W _ ho (by rw [hwant, hrn]) (next undef W (by simpa using hreq'.1) (by unfold StateK.rel; split; exact hE.refl _; exact Below.refl _ _) hreq'.2)
theorem wp_region_facts_L (hE : ExtOk E) (hEG : ∀ {a b}, Grows a b → E a b) {id : Nat} (last : Nat) (pre org : Array (List Nat)) (run : Array Bool) (Φ : Nat → Value → World → Prop) (T : StateK) (hm : P.follows .mixedOrders = true) (hl : last = ops.size) (hchk : regionChk ops a0.tmps.size last pre org run = true)
 (hst : ∀ i j v W W', i ∉ pre.getD j [] → i ≠ j → T.rel E i W W' → Φ j v W → Φ j v W')
 (hks : ∀ i s W W', i ∉ T.kl.getD s [] → T.made.getD s none ≠ some i → T.rel E i W W' → T.Ψ s W → T.Ψ s W') (hkd : T.chk ops.size pre = true) (hi : ∀ s, T.made.getD s none = none → T.Ψ s { w0 with drawn := w0.drawn + 1 })
 (hg : AllReq (GuardReq ops run Φ) (List.range ops.size))
 (hs : AllReq (fun i => if i = last then True else StepReqK E T P ops pre org run Φ a0 w0 i) (List.range ops.size))
 (hQ : ∀ a W, AllButK E T ops last Φ a0 w0 a W → Q .normal a W) :
 (Code.region id ops true).wp P Q a0 w0 := by
 refine wp_region_any hm ?_
 rw [anyOf_wpAny]
 exact facts_anyL (last := last) hE (opRule_plain P ops Q) hchk hst hEG hks hkd hg hs (fun o ho => by rw [hl] at ho; simp at ho) (fun _ => hQ) ops.size _ a0 _ (by simp) (by simp) (rinv0K hE hi)
end
inductive SpecL (E : World → World → Prop) where
 | val (v : Value)
 | any
 | pred (p : Value → World → Prop) (h : ∀ v W W', E W W' → p v W → p v W')
 | frag (p : Value → World → Prop) (h : ∀ v W W', Grows W W' → p v W → p v W')
def SpecL.holds {E : World → World → Prop} : SpecL E → Value → World → Prop
 | .val v, u, _ => u = v
 | .any, _, _ => True
 | .pred p _, u, W => p u W
 | .frag p _, u, W => p u W
def SpecL.isFrag {E : World → World → Prop} : SpecL E → Bool
 | .frag _ _ => true
 | _ => false
def SpecL.yields {E : World → World → Prop} : SpecL E → Option (Option Bool)
 | .val v => some (boolOf v)
 | _ => none
theorem SpecL.yields_holds {E : World → World → Prop} {s : SpecL E} {y : Option Bool} (h : s.yields = some y) {v : Value} {W : World} (hv : s.holds v W) : boolOf v = y := by
 cases s with
 | val u =>
  obtain rfl : v = u := hv
  simpa [SpecL.yields] using h
 | any => simp [SpecL.yields] at h
 | pred p q => simp [SpecL.yields] at h
 | frag p q => simp [SpecL.yields] at h
def fragChk {E : World → World → Prop} (muts : List Nat) (pre : Array (List Nat)) (specs : Array (SpecL E)) : Bool :=
 (List.range specs.size).all fun j => !(specs.getD j SpecL.any).isFrag || muts.all fun m => m == j || (pre.getD j []).contains m
def phiL {E : World → World → Prop} (specs : Array (SpecL E)) (i : Nat) (v : Value) (W : World) : Prop := (specs.getD i SpecL.any).holds v W
def guardChkL {E : World → World → Prop} (ops : Array Oper) (run : Array Bool) (specs : Array (SpecL E)) : Bool :=
 (List.range ops.size).all fun i => match ops[i]? with
  | none => true
  | some o => match o.guard with
   | none => true
   | some (g, b) => match (specs.getD g SpecL.any).yields with
    | some y => (y == some b) == run.getD i false
    | none => false
theorem guards_okL {E : World → World → Prop} {ops : Array Oper} {run : Array Bool} {specs : Array (SpecL E)} (h : guardChkL ops run specs = true) : AllReq (GuardReq ops run (phiL specs)) (List.range ops.size) := by
 refine allReq_of fun i hi => ?_
 have h1 := List.all_eq_true.1 h i hi
 unfold GuardReq
 cases ho : ops[i]? with
 | none => trivial
 | some o =>
  simp only [ho] at h1 ⊢
  cases hg : o.guard with
  | none => trivial
  | some gb =>
   obtain ⟨g, b⟩ := gb
   simp only [hg] at h1 ⊢
   intro v W hv
   cases hs : (specs.getD g SpecL.any).yields with
   | none => rw [hs] at h1; cases h1
   | some c =>
    rw [hs] at h1
    rw [SpecL.yields_holds hs hv]
    simpa using h1
theorem SpecL.stays {E : World → World → Prop} {T : StateK} {pre : Array (List Nat)} {specs : Array (SpecL E)} (hEG : ∀ {a b}, Grows a b → E a b) (hfr : fragChk T.muts pre specs = true) {i j : Nat} {v : Value} {W W' : World} (h1 : i ∉ pre.getD j []) (h2 : i ≠ j) (h3 : T.rel E i W W') (h4 : phiL specs j v W) : phiL specs j v W' := by
 have hE : E W W' := by
  unfold StateK.rel at h3
  split at h3
  · exact h3
  · exact hEG h3
 unfold phiL at h4 ⊢
 cases hs : specs.getD j SpecL.any with
 | val u => rw [hs] at h4; exact h4
 | any => trivial
 | pred p q => rw [hs] at h4; exact q _ _ _ hE h4
 | frag p q =>
  rw [hs] at h4
  have hj : j < specs.size := by
   rcases Nat.lt_or_ge j specs.size with h | h
   · exact h
   · rw [Array.getD_eq_getD_getElem?, Array.getElem?_eq_none h] at hs; cases hs
  have hc := List.all_eq_true.1 hfr j (List.mem_range.2 hj)
  rw [hs] at hc
  simp only [SpecL.isFrag, Bool.not_true, Bool.false_or] at hc
  have hm : ¬ T.muts.contains i = true := fun hm => by
   have := List.all_eq_true.1 hc i (List.contains_iff_mem.1 hm)
   simp only [Bool.or_eq_true, beq_iff_eq, List.contains_iff_mem] at this
   rcases this with e | e
   · exact h2 e
   · exact h1 e
  unfold StateK.rel at h3
  rw [if_neg hm] at h3
  exact q _ _ _ h3 h4
theorem region_L {P : Program} {ops : Array Oper} {a0 : Act} {w0 : World} {Q : Exit → Act → World → Prop} {E : World → World → Prop} {id : Nat} (hE : ExtOk E) (hEG : ∀ {a b}, Grows a b → E a b) (pre org : Array (List Nat)) (run : Array Bool) (specs : Array (SpecL E)) (T : StateK)
 (hks : ∀ i s W W', i ∉ T.kl.getD s [] → T.made.getD s none ≠ some i → T.rel E i W W' → T.Ψ s W → T.Ψ s W') (hi : ∀ s, T.made.getD s none = none → T.Ψ s { w0 with drawn := w0.drawn + 1 })
 (hm : P.follows .mixedOrders = true) (hchk : regionChk ops a0.tmps.size ops.size pre org run = true) (hkd : T.chk ops.size pre = true) (hfr : fragChk T.muts pre specs = true)
 (hg : guardChkL ops run specs = true)
 (hs : AllReq (fun i => if i = ops.size then True else StepReqK E T P ops pre org run (phiL specs) a0 w0 i) (List.range ops.size))
 (hQ : ∀ a W, AllButK E T ops ops.size (phiL specs) a0 w0 a W → Q .normal a W) :
 (Code.region id ops true).wp P Q a0 w0 :=
 wp_region_facts_L hE hEG ops.size pre org run (phiL specs) T hm rfl hchk (fun i j v W W' h1 h2 h3 h4 => SpecL.stays hEG hfr h1 h2 h3 h4) hks hkd hi (guards_okL hg) hs hQ
section
variable {P : Program} {ops : Array Oper} {a0 : Act} {w0 : World} {Q : Exit → Act → World → Prop} {E : World → World → Prop}
end
end Go.Proofs.YtoppcpiheaedlaaGreatDoor
