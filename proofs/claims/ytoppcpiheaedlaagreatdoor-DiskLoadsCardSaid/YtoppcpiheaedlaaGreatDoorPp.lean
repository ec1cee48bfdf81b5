/-
  The program's disk: a file that is synced.
-/
import Derived.Test.YtoppcpiheaedlaaGreatDoorPo
namespace Go.Proofs.YtoppcpiheaedlaaGreatDoor
open Go.RowKit Go.Maps Go.MapKept
set_option linter.unusedVariables false
set_option linter.unusedSimpArgs false
attribute [local go_sem] sv nv mv pv

theorem FiOk.safeForm {W : World} {f : Fi} (h : FiOk W f) : ∃ a c, f.vs = .slice a f.now.length c := by
  obtain ⟨a, c, e⟩ := own_form h.safe
  rw [h.len] at e
  exact ⟨a, c, e⟩
theorem flat64 {l : List Sec} (h : ∀ p ∈ l, p.length = 64) : ∀ u ∈ l.flatMap secC, u.oneCell' = true := by
  intro u hu
  obtain ⟨p, _, hp⟩ := List.mem_flatMap.1 hu
  exact secC_one p u hp
/-- What is written now is safe. -/
theorem FiOk.synced {W : World} {f : Fi} (h : FiOk W f) (ty : TypeId) :
    ∃ W', (Builtin.copy_ #[110, 110] ty #[f.vs, f.vn]).run Tryz.prog W = .ok (goInt f.now.length) W' ∧ FiOk W' { f with safe := f.now } ∧ But (fun k => f.vs.ownBlock = some k) W W' := by
  rcases Nat.eq_zero_or_pos f.now.length with h0 | h0
  · obtain ⟨a, c, e1⟩ := own_form h.now
    obtain ⟨a', c', e2⟩ := h.safeForm
    have hn : f.now = [] := List.eq_nil_of_length_eq_zero h0
    have hs : f.safe = [] := List.eq_nil_of_length_eq_zero (by rw [h.len]; exact h0)
    refine ⟨W, ?_, ?_, But.refl' _ _⟩
    · rw [e1, e2, h0]
      exact run_copy00 W _ _ ty 106 a' a c' c Tryz.underlying110 (by rw [sizeSec]; rfl)
    · have e : ({ f with safe := f.now } : Fi) = f := by
        have e3 : f.now = f.safe := by rw [hn, hs]
        obtain ⟨f1, f2, f3, f4, f5, f6⟩ := f
        have e4 : f5 = f6 := e3
        show Fi.mk f1 f2 f3 f4 f5 f5 = Fi.mk f1 f2 f3 f4 f5 f6
        rw [e4]
      rw [e]
      exact h
  · obtain ⟨g, c, e1⟩ := own_some h.now h0
    obtain ⟨g', c', e2⟩ := own_some h.safe (by rw [h.len]; exact h0)
    rw [h.len] at e2
    have hn := h.now
    have hs := h.safe
    rw [h.len] at hs
    rw [e1] at hn
    rw [e2] at hs
    have hl := secC_len h.now64
    obtain ⟨cur, hg, hfit, ho⟩ := own_ovr hs (ys := f.now.flatMap secC) 0 (by rw [hl]; omega)
    have hr := run_copyK W 110 110 ty 106 64 g' f.now.length c' ⟨g, 0, none⟩ c cur _ (f.now.flatMap secC) Tryz.underlying110 sizeSec hg hl (hn.cells (g := g) rfl) (by omega) (flat64 h.now64)
    have hB : But (fun k => k = g') W (W.setRow g' (ovr cur 0 (f.now.flatMap secC))) := But.setRow (But.refl' _ _) _ _ rfl
    refine ⟨_, by rw [e1, e2]; exact hr, ⟨?_, ?_, ?_, rfl, h.now64, h.now64, h.le, h.apart⟩, hB.mono fun k hk => by rw [e2, hk]; rfl⟩
    · refine hB.blockEq (fun e => ?_) h.row
      have := h.row
      rw [e, hg] at this
      simp at this
    · exact own_but h.now hB fun j hj hn => h.apart j hj (by rw [e2, hn]; rfl)
    · show World.ownsRow _ _ _ _ f.vs f.now.length _
      rw [e2]
      have e3 : (f.safe.flatMap secC).take 0 ++ f.now.flatMap secC ++ (f.safe.flatMap secC).drop (0 + (f.now.flatMap secC).length) = f.now.flatMap secC := by
        rw [List.drop_eq_nil_of_le (by rw [secC_len h.safe64, hl, h.len]; omega)]
        simp
      rw [e3] at ho
      exact ho
/-- What is safe is what is read. -/
theorem FiOk.lost {W : World} {f : Fi} (h : FiOk W f) (ty : TypeId) :
    ∃ W', (Builtin.copy_ #[110, 110] ty #[f.vn, f.vs]).run Tryz.prog W = .ok (goInt f.now.length) W' ∧ FiOk W' { f with now := f.safe } ∧ But (fun k => f.vn.ownBlock = some k) W W' := by
  rcases Nat.eq_zero_or_pos f.now.length with h0 | h0
  · obtain ⟨a, c, e1⟩ := own_form h.now
    obtain ⟨a', c', e2⟩ := h.safeForm
    have hn : f.now = [] := List.eq_nil_of_length_eq_zero h0
    have hs : f.safe = [] := List.eq_nil_of_length_eq_zero (by rw [h.len]; exact h0)
    refine ⟨W, ?_, ?_, But.refl' _ _⟩
    · rw [e1, e2, h0]
      exact run_copy00 W _ _ ty 106 a a' c c' Tryz.underlying110 (by rw [sizeSec]; rfl)
    · have e : ({ f with now := f.safe } : Fi) = f := by
        have e3 : f.now = f.safe := by rw [hn, hs]
        obtain ⟨f1, f2, f3, f4, f5, f6⟩ := f
        have e4 : f5 = f6 := e3
        show Fi.mk f1 f2 f3 f4 f6 f6 = Fi.mk f1 f2 f3 f4 f5 f6
        rw [e4]
      rw [e]
      exact h
  · obtain ⟨g, c, e1⟩ := own_some h.now h0
    obtain ⟨g', c', e2⟩ := own_some h.safe (by rw [h.len]; exact h0)
    rw [h.len] at e2
    have hn := h.now
    have hs := h.safe
    rw [h.len] at hs
    rw [e1] at hn
    rw [e2] at hs
    have hl := secC_len h.safe64
    rw [h.len] at hl
    obtain ⟨cur, hg, hfit, ho⟩ := own_ovr hn (ys := f.safe.flatMap secC) 0 (by rw [hl]; omega)
    have hr := run_copyK W 110 110 ty 106 64 g f.now.length c ⟨g', 0, none⟩ c' cur _ (f.safe.flatMap secC) Tryz.underlying110 sizeSec hg hl (hs.cells (g := g') rfl) (by omega) (flat64 h.safe64)
    have hB : But (fun k => k = g) W (W.setRow g (ovr cur 0 (f.safe.flatMap secC))) := But.setRow (But.refl' _ _) _ _ rfl
    refine ⟨_, by rw [e1, e2]; exact hr, ⟨?_, ?_, ?_, rfl, h.safe64, h.safe64, by show f.safe.length ≤ _; rw [h.len]; exact h.le, h.apart⟩, hB.mono fun k hk => by rw [e1, hk]; rfl⟩
    · refine hB.blockEq (fun e => ?_) h.row
      have := h.row
      rw [e, hg] at this
      simp at this
    · show World.ownsRow _ _ _ _ f.vn f.safe.length _
      rw [e1, h.len]
      have e3 : (f.now.flatMap secC).take 0 ++ f.safe.flatMap secC ++ (f.now.flatMap secC).drop (0 + (f.safe.flatMap secC).length) = f.safe.flatMap secC := by
        rw [List.drop_eq_nil_of_le (by rw [secC_len h.now64, hl]; omega)]
        simp
      rw [e3] at ho
      exact ho
    · exact own_but h.safe hB fun j hj hn => h.apart g (by rw [e1]; rfl) (by rw [hj, hn])

/-- Some of the pending writes alone. -/
def Px.setP (x : Px) (v : Value) (l : List Wr) : Px := { x with vp := v, pend := l }
theorem PD.setP {W W1 : World} {q : Nat} {x : Px} (h : PD W q x) (l : List Wr) (v' : Value) (hB : But (fun k => x.vp.ownBlock = some k) W W1) (hrow : W1.ownsRow 0 108 66 v' l.length (l.flatMap wpC))
    (hat : v'.ownBlock = x.vp.ownBlock ∨ v'.ownBlock = none) (hsub : ∀ c ∈ l, c ∈ x.pend) (hlen : l.length ≤ x.pend.length) :
    PD (W1.setCell ⟨q, 4, none⟩ v') q (x.setP v' l) ∧ TurnP q x (x.setP v' l) W (W1.setCell ⟨q, 4, none⟩ v') := by
  have hqn : x.vp.ownBlock ≠ some q := fun e => h.qP e
  have hB2 : But (fun k => k = q ∨ x.vp.ownBlock = some k) W (W1.setCell ⟨q, 4, none⟩ v') := But.setCell (hB.mono fun k hk => .inr hk) _ _ (.inl rfl)
  have hrow1 := hB.blockEq hqn h.row
  have hm : ∀ k, pUse (x.setP v' l) k → pUse x k := fun k hk => by
    rcases hat with h' | h'
    · exact h'.symm.trans hk
    · rw [show pUse (x.setP v' l) k = (v'.ownBlock = some k) from rfl, h'] at hk; cases hk
  refine ⟨⟨row_setCell hrow1 4 v', ?_, ?_, ?_, h.fnd, ⟨h.wf.room, h.wf.ne, h.wf.names, h.wf.nums, fun w hw => h.wf.pend w (hsub w hw), h.wf.first, ?_⟩⟩, ?_, ?_, ?_⟩
  · exact h.keepD hB2 fun k hk hd => hk.elim (fun e => h.qD (e ▸ hd)) (fun e => h.dP hd e)
  · exact h.keepF hB2 fun k hk hd => hk.elim (fun e => h.qF (e ▸ hd)) (fun e => h.fP hd e)
  · exact setCell_own hrow1 4 v' hrow (by decide)
  · have := h.wf.small
    exact ⟨this.1, this.2.1, Nat.le_trans hlen this.2.2.1, this.2.2.2⟩
  · intro k hk
    rcases hk with hk | hk | hk | hk
    · exact .inl (.inl hk)
    · exact .inl (.inr (.inl hk))
    · exact .inl (.inr (.inr (.inl hk)))
    · exact .inl (.inr (.inr (.inr (hm k hk))))
  · intro k hk
    rcases hk with hk | hk | hk | hk
    · exact .inl (.inl hk)
    · exact .inl (.inr (.inl hk))
    · exact .inl (.inr (.inr (.inl hk)))
    · exact .inl (.inr (.inr (.inr (hm k hk))))
  · exact hB2.mono fun k hk => hk.elim .inl fun h' => .inr (.inr (.inr h'))
theorem intZero : ((Tryz.prog.info? 3).bind (fun i => i.zero)).map (fun z => z.cells) = some #[.int .i64 0] := by kernel_rfl

set_option maxRecDepth 100000 in
set_option maxHeartbeats 4000000 in
theorem pSyncI {w : World} {q : Nat} {x : Px} (h : PD w q x) (nm : Nm) (hn : okS nm) :
    Calls Tryz.prog 86 #[.pointer (some ⟨q, 0, none⟩), sv nm] w fun e w' => e = .returned (.int .i64 (syncP x.s nm).1) ∧ ∃ x', PD w' q x' ∧ x'.s = (syncP x.s nm).2 ∧ TurnP q x x' w w' := by
  have hmx : Tryz.prog.follows .mixedOrders = true := by kernel_rfl
  have HB := Lib.hid (pBeginWith h nm hn)
  unfold sv at HB ⊢
  by_cases hf : (beginP x.s).1 = 0
  · have hr : bwR x nm = findR (nowX x).2 nm := by unfold bwR; rw [if_pos hf]
    rw [hr] at HB
    cases hd : findA (nowX x).2 nm with
    | none =>
      have hr' : findR (nowX x).2 nm = .tuple #[.int .i64 0, .int .i64 7] := by unfold findR; rw [hd]
      have Hr : Hid (syncP x.s nm = (7, (beginX x).s)) := by
        show _ = _
        unfold syncP
        rw [guardP_yes hf, ← beginX_s, nowX_s, show (nowX (beginX x)).2 = (nowX x).2 from rfl, hd]
      rw [hr'] at HB
      clear h hn hf hr hd hr'
      go_enter Tryz.func86, Tryz.ntmps86
      go_wp2_with fail
      refine HB.out.mono ?_
      rintro e w1 ⟨rfl, hP, hT⟩
      have hG2 := Grows.alloc' w1 (.cells #[.int .i64 0] 3)
      have HP := Lib.hid (hP.grows hG2)
      have HT := Lib.hid (hT.trans (TurnP.ofGrows hG2))
      clear hP hT hG2
      go_wp2
      go_ret
      exact ⟨by rw [Hr.out]; rfl, beginX x, HP.out, by rw [Hr.out], HT.out⟩
    | some k =>
      have hr' : findR (nowX x).2 nm = .tuple #[.int .i64 (k : Int), .int .i64 0] := by unfold findR; rw [hd]; rfl
      obtain ⟨f, hfm, hfn⟩ := h.named (nowX_mem x h.wf.ne) hd
      have Hfi := Lib.hid hfm
      have Hfn := Lib.hid hfn
      have hfp : fileP (beginX x).s k = (f.now, f.safe) := by rw [← hfn]; exact h.fileP hfm
      have Hr : Hid (syncP x.s nm = (0, { (beginX x).s with files := setFile (beginX x).s.files k (f.now, f.now), pend := (beginX x).s.pend.filter fun w => !(w.id == k) })) := by
        show _ = _
        unfold syncP
        rw [guardP_yes hf, ← beginX_s, nowX_s, show (nowX (beginX x)).2 = (nowX x).2 from rfl, hd]
        simp only [hfp]
      have Hokp : Hid (okI k) := okI_small (by rw [← hfn]; exact Nat.le_trans (h.wf.nums f hfm) h.wf.small.2.2.2)
      rw [hr'] at HB
      clear h hn hf hr hd hr' hfm hfn hfp
      obtain ⟨L, HL⟩ : ∃ L, Hid (f.now.length = L) := ⟨_, rfl⟩
      obtain ⟨b, Hb⟩ : ∃ b, Hid (f.blk = b) := ⟨_, rfl⟩
      go_enter Tryz.func86, Tryz.ntmps86
      go_wp2_with fail
      refine HB.out.mono ?_
      rintro e w1 ⟨rfl, hP, hT⟩
      obtain ⟨cv, Hcv⟩ : ∃ y, Hid (w1.heap.size = y) := ⟨_, rfl⟩
      have hnew := heap_alloc_new w1 (.cells #[.int .i64 0] 3)
      rw [Hcv.out] at hnew
      have hG2 : Grows w1 ((w1.alloc (.cells #[.int .i64 0] 3)).setCell ⟨cv, 0, none⟩ (.int .i64 (k : Int))) := by
        refine ⟨rfl, rfl, rfl, by simp [World.setCell], fun j hj => ?_⟩
        rw [Below.heap_setCell _ _ _ _ (by show j ≠ cv; have := Hcv.out; omega)]
        exact heap_alloc_old w1 _ hj
      have hc2 : ((w1.alloc (.cells #[.int .i64 0] 3)).setCell ⟨cv, 0, none⟩ (.int .i64 (k : Int))).cell? ⟨cv, 0, none⟩ = some (.int .i64 (k : Int)) := by
        rw [cell_of_row _ cv 0 _ _ _ (row_setCell hnew 0 _)]; rfl
      have hcn : (w1.alloc (.cells #[.int .i64 0] 3)).cell? ⟨cv, 0, none⟩ = some (.int .i64 0) := by rw [cell_of_row _ cv 0 _ _ _ hnew]; rfl
      have hcf : (w1.alloc (.cells #[.int .i64 0] 3)).frozen? ⟨cv, 0, none⟩ = false := frozen_of_row _ cv 0 _ _ hnew
      have HP := Lib.hid (hP.grows hG2)
      have HT := Lib.hid (hT.trans (TurnP.ofGrows hG2))
      have Hcvw : Hid (w1.heap.size ≤ cv) := by show _ ≤ _; rw [Hcv.out]; exact Nat.le_refl _
      have HltP : Hid (∀ j, useP q (beginX x) j → j < cv) := fun j hj => by have := hP.ltU hj; rw [Hcv.out] at this; exact this
      obtain ⟨w2, Hw2⟩ : ∃ y, Hid ((w1.alloc (.cells #[.int .i64 0] 3)).setCell ⟨cv, 0, none⟩ (.int .i64 (k : Int)) = y) := ⟨_, rfl⟩
      clear hP hT hG2 hnew
      go_wp2_with (first | (refine wpList_allocT rfl 3 rfl #[.int .i64 0] intZero ?_; rw [Hcv.out]) | go_in)
      rw [Hw2.out] at HP HT hc2 ⊢
      clear hcn hcf Hw2 HB
      have hfo := HP.out.files.ok f Hfi.out
      have Hfo := Lib.hid hfo
      obtain ⟨a, c, a', c', e1, e2, d0, d1⟩ := fi_form hfo
      have hlk := HP.out.look Hfi.out
      rw [Hfn.out, Hb.out] at hlk
      have Hlk1 := Lib.hid hlk
      have HM1 := Lib.hid HP.out.files.map
      have Hok1 := Lib.hid HP.out.okF
      have c2 := HP.out.cell 2 (mv (beginX x).fm) rfl
      obtain ⟨fm, Hfm⟩ : ∃ y, Hid ((beginX x).fm = y) := ⟨_, rfl⟩
      rw [Hfm.out] at c2 HM1
      rw [HL.out] at e1 e2 d0 d1
      rw [Hb.out] at d0 d1
      unfold mv at c2
      have E1 := Lib.hid e1
      have E2 := Lib.hid e2
      clear hfo hlk e1 e2
      refine specs_region
        #[[], [0], [0, 1], [0, 1, 2], [], [0, 1, 2, 3, 4], [0, 1, 2, 3, 4, 5]] #[[0], [], [], [], [5], [], []] #[true, true, true, true, true, true, true]
        ((.val ?va0) :: (.val ?va1) :: (.val ?va2) :: (.val ?va3) :: (.val ?va4) :: (.val (.pointer (some ⟨b, 0, none⟩))) :: (.val ?va6) :: []).toArray
        hmx ?chka ?grda ?stpa ?rsta
      case chka => rfl
      case stpa =>
        refine ⟨?_, ?_, ?_, ?_, ?_, ?_, ?_, trivial⟩
        · refine step_intro rfl rfl fun ρ X hc hf hgl hX hp ho => ?_
          change StepOk _ { dst := _, op := Op.move (Operand.tmp 0), type := _, pos := _, after := _, guard := _ } _ _ _
          have k0 : ρ (.tmp 0) = .pointer (some ⟨q, 0, none⟩) := ho 0 (by decide)
          clear hp ho
          refine StepOk.of_run (v := ?va0) (w' := X) ?_ ⟨rfl, Below.refl _ _⟩
          clear hX
          go_simp
          all_goals try go_bits
          all_goals try simp only [IntWalk.iteOmega]
          all_goals try go_bits
          all_goals rfl
        · refine step_intro rfl rfl fun ρ X hc hf hgl hX hp ho => ?_
          change StepOk _ { dst := _, op := Op.nilCheck (Operand.tmp 17), type := _, pos := _, after := _, guard := _ } _ _ _
          have k17 : ρ (.tmp 17) = ?va0 := hp 0 (by decide)
          clear hp ho
          refine StepOk.of_run (v := ?va1) (w' := X) ?_ ⟨rfl, Below.refl _ _⟩
          clear hX
          go_simp
          all_goals try go_bits
          all_goals try simp only [IntWalk.iteOmega]
          all_goals try go_bits
          all_goals rfl
        · refine step_intro rfl rfl fun ρ X hc hf hgl hX hp ho => ?_
          change StepOk _ { dst := _, op := Op.fieldAddr 100 (Operand.tmp 18) 2, type := _, pos := _, after := _, guard := _ } _ _ _
          have k18 : ρ (.tmp 18) = ?va1 := hp 1 (by decide)
          clear hp ho
          refine StepOk.of_run (v := ?va2) (w' := X) ?_ ⟨rfl, Below.refl _ _⟩
          clear hX
          go_simp
          all_goals try go_bits
          all_goals try simp only [IntWalk.iteOmega]
          all_goals try go_bits
          all_goals rfl
        · refine step_intro rfl rfl fun ρ X hc hf hgl hX hp ho => ?_
          change StepOk _ { dst := _, op := Op.load 95 (Operand.tmp 19), type := _, pos := _, after := _, guard := _ } _ _ _
          have k19 : ρ (.tmp 19) = ?va2 := hp 2 (by decide)
          have c2X := Grows.cell' hX c2
          have hc2X := Grows.cell' hX hc2
          clear hp ho
          refine StepOk.of_run (v := ?va3) (w' := X) ?_ ⟨rfl, Below.refl _ _⟩
          clear hX
          go_simp
          all_goals try go_bits
          all_goals try simp only [IntWalk.iteOmega]
          all_goals try go_bits
          all_goals rfl
        · refine step_intro rfl rfl fun ρ X hc hf hgl hX hp ho => ?_
          change StepOk _ { dst := _, op := Op.load 3 (Operand.tmp 5), type := _, pos := _, after := _, guard := _ } _ _ _
          have k5 : ρ (.tmp 5) = .pointer (some ⟨cv, 0, none⟩) := ho 5 (by decide)
          have c2X := Grows.cell' hX c2
          have hc2X := Grows.cell' hX hc2
          clear hp ho
          refine StepOk.of_run (v := ?va4) (w' := X) ?_ ⟨rfl, Below.refl _ _⟩
          clear hX
          go_simp
          all_goals try go_bits
          all_goals try simp only [IntWalk.iteOmega]
          all_goals try go_bits
          all_goals rfl
        · refine step_intro rfl rfl fun ρ X hc hf hgl hX hp ho => ?_
          change StepOk _ { dst := _, op := Op.lookup 95 (Operand.tmp 20) (Operand.tmp 21) false, type := _, pos := _, after := _, guard := _ } _ _ _
          have k20 : ρ (.tmp 20) = ?va3 := hp 3 (by decide)
          have k21 : ρ (.tmp 21) = ?va4 := hp 4 (by decide)
          clear hp ho
          have hlk := (HM1.out.grows hX).look keyF Hok1.out Tryz.underlying95 (zeroFile _) false k Hokp.out
          rw [Hlk1.out] at hlk
          unfold nv pv at hlk
          simp only [Bool.false_eq_true, if_false] at hlk
          refine StepOk.of_run (v := .pointer (some ⟨b, 0, none⟩)) (w' := X) ?_ ⟨rfl, Below.refl _ _⟩
          simp only [execOp, k20, k21, hlk, Sem.run_bind, Result.andThen_ok, Sem.run_pure]
        · refine step_intro rfl rfl fun ρ X hc hf hgl hX hp ho => ?_
          change StepOk _ { dst := _, op := Op.assign (Operand.tmp 22), type := _, pos := _, after := _, guard := _ } _ _ _
          have k22 : ρ (.tmp 22) = (.pointer (some ⟨b, 0, none⟩)) := hp 5 (by decide)
          clear hp ho
          refine StepOk.of_run (v := ?va6) (w' := X) ?_ ⟨rfl, Below.refl _ _⟩
          clear hX
          go_simp
          all_goals try go_bits
          all_goals try simp only [IntWalk.iteOmega]
          all_goals try go_bits
          all_goals rfl
      case grda => rfl
      case rsta =>
        intro a0 X hb
        have hfr := hb.frame ((7, ?va6) :: (17, ?va0) :: (18, ?va1) :: (19, ?va2) :: (20, ?va3) :: (21, ?va4) :: (22, (.pointer (some ⟨b, 0, none⟩))) :: []) rfl ⟨hb.done' 6 7 rfl rfl, hb.done' 0 17 rfl rfl, hb.done' 1 18 rfl rfl, hb.done' 2 19 rfl rfl, hb.done' 3 20 rfl rfl, hb.done' 4 21 rfl rfl, hb.done' 5 22 rfl rfl, trivial⟩
        simp only [updL, ↓reduceIte, Nat.reduceEqDiff, Nat.reduceAdd, Nat.zero_add] at hfr
        have HX := Lib.hid hb.ext
        clear hb
        subst hfr
        have HX4 := HX
        have d0 := HX4.out.cell' d0
        have d1 := HX4.out.cell' d1
        go_wp2
        refine specs_last 8
          #[[], [0], [0, 1], [0, 1, 2], [], [4], [4, 5], [4, 5, 6], [0, 1, 2, 3, 4, 5, 6, 7]] #[[7], [], [], [], [7], [], [], [], []] #[true, true, true, true, true, true, true, true, true]
          ((.val ?vb0) :: (.val ?vb1) :: (.val ?vb2) :: (.val ?vb3) :: (.val ?vb4) :: (.val ?vb5) :: (.val ?vb6) :: (.val ?vb7) :: (.any) :: []).toArray
          hmx ?chkb ?grdb rfl ?stpb ?rstb
        case chkb => rfl
        case stpb =>
          refine ⟨?_, ?_, ?_, ?_, ?_, ?_, ?_, ?_, ?_, trivial⟩
          · refine step_intro rfl rfl fun ρ X hc hf hgl hX hp ho => ?_
            change StepOk _ { dst := _, op := Op.move (Operand.tmp 7), type := _, pos := _, after := _, guard := _ } _ _ _
            have k7 : ρ (.tmp 7) = .pointer (some ⟨b, 0, none⟩) := ho 7 (by decide)
            clear hp ho
            refine StepOk.of_run (v := ?vb0) (w' := X) ?_ ⟨rfl, Below.refl _ _⟩
            clear hX
            go_simp
            all_goals try go_bits
            all_goals try simp only [IntWalk.iteOmega]
            all_goals try go_bits
            all_goals rfl
          · refine step_intro rfl rfl fun ρ X hc hf hgl hX hp ho => ?_
            change StepOk _ { dst := _, op := Op.nilCheck (Operand.tmp 23), type := _, pos := _, after := _, guard := _ } _ _ _
            have k23 : ρ (.tmp 23) = ?vb0 := hp 0 (by decide)
            clear hp ho
            refine StepOk.of_run (v := ?vb1) (w' := X) ?_ ⟨rfl, Below.refl _ _⟩
            clear hX
            go_simp
            all_goals try go_bits
            all_goals try simp only [IntWalk.iteOmega]
            all_goals try go_bits
            all_goals rfl
          · refine step_intro rfl rfl fun ρ X hc hf hgl hX hp ho => ?_
            change StepOk _ { dst := _, op := Op.fieldAddr 113 (Operand.tmp 24) 1, type := _, pos := _, after := _, guard := _ } _ _ _
            have k24 : ρ (.tmp 24) = ?vb1 := hp 1 (by decide)
            clear hp ho
            refine StepOk.of_run (v := ?vb2) (w' := X) ?_ ⟨rfl, Below.refl _ _⟩
            clear hX
            go_simp
            all_goals try go_bits
            all_goals try simp only [IntWalk.iteOmega]
            all_goals try go_bits
            all_goals rfl
          · refine step_intro rfl rfl fun ρ X hc hf hgl hX hp ho => ?_
            change StepOk _ { dst := _, op := Op.load 110 (Operand.tmp 25), type := _, pos := _, after := _, guard := _ } _ _ _
            have k25 : ρ (.tmp 25) = ?vb2 := hp 2 (by decide)
            have d0X := Grows.cell' hX d0
            have d1X := Grows.cell' hX d1
            clear hp ho
            refine StepOk.of_run (v := ?vb3) (w' := X) ?_ ⟨rfl, Below.refl _ _⟩
            clear hX
            go_simp
            all_goals try go_bits
            all_goals try simp only [IntWalk.iteOmega]
            all_goals try go_bits
            all_goals rfl
          · refine step_intro rfl rfl fun ρ X hc hf hgl hX hp ho => ?_
            change StepOk _ { dst := _, op := Op.move (Operand.tmp 7), type := _, pos := _, after := _, guard := _ } _ _ _
            have k7 : ρ (.tmp 7) = .pointer (some ⟨b, 0, none⟩) := ho 7 (by decide)
            clear hp ho
            refine StepOk.of_run (v := ?vb4) (w' := X) ?_ ⟨rfl, Below.refl _ _⟩
            clear hX
            go_simp
            all_goals try go_bits
            all_goals try simp only [IntWalk.iteOmega]
            all_goals try go_bits
            all_goals rfl
          · refine step_intro rfl rfl fun ρ X hc hf hgl hX hp ho => ?_
            change StepOk _ { dst := _, op := Op.nilCheck (Operand.tmp 27), type := _, pos := _, after := _, guard := _ } _ _ _
            have k27 : ρ (.tmp 27) = ?vb4 := hp 4 (by decide)
            clear hp ho
            refine StepOk.of_run (v := ?vb5) (w' := X) ?_ ⟨rfl, Below.refl _ _⟩
            clear hX
            go_simp
            all_goals try go_bits
            all_goals try simp only [IntWalk.iteOmega]
            all_goals try go_bits
            all_goals rfl
          · refine step_intro rfl rfl fun ρ X hc hf hgl hX hp ho => ?_
            change StepOk _ { dst := _, op := Op.fieldAddr 113 (Operand.tmp 28) 0, type := _, pos := _, after := _, guard := _ } _ _ _
            have k28 : ρ (.tmp 28) = ?vb5 := hp 5 (by decide)
            clear hp ho
            refine StepOk.of_run (v := ?vb6) (w' := X) ?_ ⟨rfl, Below.refl _ _⟩
            clear hX
            go_simp
            all_goals try go_bits
            all_goals try simp only [IntWalk.iteOmega]
            all_goals try go_bits
            all_goals rfl
          · refine step_intro rfl rfl fun ρ X hc hf hgl hX hp ho => ?_
            change StepOk _ { dst := _, op := Op.load 110 (Operand.tmp 29), type := _, pos := _, after := _, guard := _ } _ _ _
            have k29 : ρ (.tmp 29) = ?vb6 := hp 6 (by decide)
            have d0X := Grows.cell' hX d0
            have d1X := Grows.cell' hX d1
            clear hp ho
            refine StepOk.of_run (v := ?vb7) (w' := X) ?_ ⟨rfl, Below.refl _ _⟩
            clear hX
            go_simp
            all_goals try go_bits
            all_goals try simp only [IntWalk.iteOmega]
            all_goals try go_bits
            all_goals rfl
          · exact last_intro rfl
        case grdb => rfl
        case rstb =>
          intro a0 X hb
          obtain ⟨x31, hx31⟩ : ∃ x, a0.tmps.getD 31 undef = x := ⟨_, rfl⟩
          have hfr := hb.frame ((23, ?vb0) :: (24, ?vb1) :: (25, ?vb2) :: (26, ?vb3) :: (27, ?vb4) :: (28, ?vb5) :: (29, ?vb6) :: (30, ?vb7) :: (31, x31) :: []) rfl ⟨hb.done' 0 23 rfl rfl, hb.done' 1 24 rfl rfl, hb.done' 2 25 rfl rfl, hb.done' 3 26 rfl rfl, hb.done' 4 27 rfl rfl, hb.done' 5 28 rfl rfl, hb.done' 6 29 rfl rfl, hb.done' 7 30 rfl rfl, hx31, trivial⟩
          simp only [updL, ↓reduceIte, Nat.reduceEqDiff, Nat.reduceAdd, Nat.zero_add] at hfr
          have HX := Lib.hid hb.ext
          clear hb
          subst hfr
          change StepOk _ { dst := _, op := Op.call { callee := Callee.builtin Builtin.copy, args := #[Operand.tmp 26, Operand.tmp 30], argTypes := #[110, 110] }, type := _, pos := _, after := _, guard := _ } _ _ _
          have HX2 : Hid (Grows w2 X) := Grows.trans' HX4.out HX.out
          have hfX := Hfo.out.kept (HX2.out.block _ (Array.getElem?_eq_some_iff.1 Hfo.out.row).1) fun j hj => HX2.out.block _ (kind_lt (Hfo.out.kind hj))
          obtain ⟨w5, hr5, hf5, hB5⟩ := hfX.synced _
          rw [E1.out, E2.out] at hr5
          have hset := (HP.out.grows HX2.out).setF f { f with safe := f.now } Hfi.out rfl rfl hB5 (fun j hj => .inr (.inl (.inr hj))) hf5 (fun j hj => .inl hj) (Nat.le_refl _)
          have HR5 := Lib.hid hset.1
          have HT5 : Hid (TurnP q x ((beginX x).setF { f with safe := f.now }) w w5) := (HT.out.trans (TurnP.ofGrows HX2.out)).trans hset.2
          have c5 := hB5.cell (p := ⟨cv, 0, none⟩) (fun e => by have := HltP.out cv (.inr (.inr (.inl (.inr ⟨f, Hfi.out, .inr (.inr e)⟩)))); omega) (HX2.out.cell' hc2)
          have Hr5 := Lib.hid hr5
          refine StepOk.of_run (v := goInt L) (w' := w5) ?_ ?_
          · simp only [execOp, resolve, invoke, builtin, Sem.run_bind, Sem.run_pure, Result.andThen_ok, List.map_toArray, List.map_cons, List.map_nil]
            show (Result.andThen ((Builtin.copy_ #[110, 110] _ #[.slice a' L c', .slice a L c]).run Tryz.prog X) _) = _
            rw [hr5, HL.out]
            rfl
          clear hr5 hB5 hset hf5 hfX
          have hpend : w5.ownsRow 0 108 66 x.vp x.pend.length (x.pend.flatMap wpC) := HR5.out.pend
          have HDF := Lib.hid (pDeleteFunc x.vp x.pend k cv w5 hpend (fun c hc => (HR5.out.wf.pend c hc).1) HR5.out.wf.small.2.2.1 c5 (fun e => by have := HltP.out cv (.inr (.inr (.inr e))); omega))
          obtain ⟨av, cvp, e3⟩ := own_form hpend
          have c4 := HR5.out.cell 4 x.vp rfl
          obtain ⟨vp, Hvp⟩ : ∃ y, Hid (x.vp = y) := ⟨_, rfl⟩
          rw [Hvp.out] at HDF c4
          have hrow5 := HR5.out.row
          have Hrow5 := Lib.hid hrow5
          clear hpend e3 hrow5 c5
          simp only [Act.put, List.setIfInBounds_toArray, List.set_cons_succ, List.set_cons_zero]
          go_wp2_with fail
          refine HDF.out.mono ?_
          rintro e w6 ⟨v', rfl, ho, hB, hat⟩
          have hrow6 := hB.blockEq (by rw [← Hvp.out]; exact fun e => HR5.out.qP e) Hrow5.out
          have k4 := cell_of_row w6 q 4 _ _ _ hrow6
          have u4 : w6.frozen? ⟨q, 4, none⟩ = false := frozen_of_row w6 q 4 _ _ hrow6
          rw [show (pdRow ((beginX x).setF { f with safe := f.now }))[4]? = some x.vp from rfl, Hvp.out] at k4
          obtain ⟨a6, c6, e6⟩ := own_form ho
          have hadd := HR5.out.setP (flt k x.pend) v' (by show But (fun k => x.vp.ownBlock = some k) _ _; rw [Hvp.out]; exact hB) ho (by show v'.ownBlock = x.vp.ownBlock ∨ _; rw [Hvp.out]; exact .inl hat) (fun c hc => (List.mem_filter.1 hc).1) (flt_le _ _)
          have HA := Lib.hid hadd
          obtain ⟨fl, Hfl⟩ : ∃ y, Hid ((flt k x.pend).length = y) := ⟨_, rfl⟩
          rw [Hfl.out] at e6
          subst e6
          clear hadd ho hB hat hrow6
          go_wp2
          go_ret
          refine ⟨by rw [Hr.out]; rfl, _, HA.out.1, ?_, HT5.out.trans HA.out.2⟩
          rw [Hr.out]
          show ({ ((beginX x).setF { f with safe := f.now }).s with pend := _ } : Ps) = _
          rw [setF_s, ← Hfn.out]
          rfl
  · have Hr : Hid (syncP x.s nm = beginP x.s) := guardP_no hf
    have hr : bwR x nm = .tuple #[.int .i64 0, .int .i64 (beginP x.s).1] := by unfold bwR; rw [if_neg hf]
    rw [hr] at HB
    obtain ⟨fc, Hfc⟩ : ∃ y, Hid ((beginP x.s).1 = y) := ⟨_, rfl⟩
    rw [Hfc.out] at HB hf
    have hne : (fc == 0) = false := by simpa using hf
    clear h hn hf hr
    go_enter Tryz.func86, Tryz.ntmps86
    go_wp2_with fail
    refine HB.out.mono ?_
    rintro e w1 ⟨rfl, hP, hT⟩
    have hG2 := Grows.alloc' w1 (.cells #[.int .i64 0] 3)
    have HP := Lib.hid (hP.grows hG2)
    have HT := Lib.hid (hT.trans (TurnP.ofGrows hG2))
    clear hP hT hG2
    go_wp2
    go_ret
    exact ⟨by rw [Hr.out, Hfc.out]; rfl, beginX x, HP.out, by rw [Hr.out, beginX_s], HT.out⟩
end Go.Proofs.YtoppcpiheaedlaaGreatDoor
