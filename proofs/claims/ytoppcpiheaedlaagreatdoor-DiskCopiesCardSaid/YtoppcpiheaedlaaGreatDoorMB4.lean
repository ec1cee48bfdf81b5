import Derived.Test.YtoppcpiheaedlaaGreatDoorMB3
import Derived.Laws.MakeOwn
section
/-
  The program's disk: a file that is synced.
-/
namespace Go.Proofs.YtoppcpiheaedlaaGreatDoor
open Go.RowKit Go.Maps Go.MapKept
set_option linter.unusedVariables false
set_option linter.unusedSimpArgs false
attribute [local go_sem] sv nv mv pv
theorem FiOk.safeForm {W : World} {f : Fi} (h : FiOk W f) : ∃ a c, f.vs = .slice a f.now.length c := by
 obtain ⟨a, c, e⟩ := own_form h.safe
 rw [h.len] at e
 exact ⟨a, c, e⟩
theorem flat64 {l : List Sec} (h : ∀ p ∈ l, p.length = 64) : ∀ u ∈ l.flatMap secC, u.oneCell' = true := by
 intro u hu
 obtain ⟨p, _, hp⟩ := List.mem_flatMap.1 hu
 exact secC_one p u hp
theorem FiOk.synced {W : World} {f : Fi} (h : FiOk W f) (ty : TypeId) :
 ∃ W', (Builtin.copy_ #[110, 110] ty #[f.vs, f.vn]).run Tryz.prog W = .ok (goInt f.now.length) W' ∧ FiOk W' { f with safe := f.now } ∧ But (fun k => f.vs.ownBlock = some k) W W' := by
 rcases Nat.eq_zero_or_pos f.now.length with h0 | h0
 · obtain ⟨a, c, e1⟩ := own_form h.now
   obtain ⟨a', c', e2⟩ := h.safeForm
   have hn : f.now = [] := List.eq_nil_of_length_eq_zero h0
   have hs : f.safe = [] := List.eq_nil_of_length_eq_zero (by rw [h.len]; exact h0)
   refine ⟨W, ?_, ?_, But.refl' _ _⟩
   · rw [e1, e2, h0]
     exact run_copy00 W _ _ ty 106 a' a c' c Tryz.underlying110 (by rw [sizeSec]; rfl)
   · have e : ({ f with safe := f.now } : Fi) = f := by
      have e3 : f.now = f.safe := by rw [hn, hs]
      obtain ⟨f1, f2, f3, f4, f5, f6⟩ := f
      have e4 : f5 = f6 := e3
      show Fi.mk f1 f2 f3 f4 f5 f5 = Fi.mk f1 f2 f3 f4 f5 f6
      rw [e4]
     rw [e]
     exact h
 · obtain ⟨g, c, e1⟩ := own_some h.now h0
   obtain ⟨g', c', e2⟩ := own_some h.safe (by rw [h.len]; exact h0)
   rw [h.len] at e2
   have hn := h.now
   have hs := h.safe
   rw [h.len] at hs
   rw [e1] at hn
   rw [e2] at hs
   have hl := secC_len h.now64
   obtain ⟨cur, hg, hfit, ho⟩ := own_ovr hs (ys := f.now.flatMap secC) 0 (by rw [hl]; omega)
   have hr := run_copyK W 110 110 ty 106 64 g' f.now.length c' ⟨g, 0, none⟩ c cur _ (f.now.flatMap secC) Tryz.underlying110 sizeSec hg hl (hn.cells (g := g) rfl) (by omega) (flat64 h.now64)
   have hB : But (fun k => k = g') W (W.setRow g' (ovr cur 0 (f.now.flatMap secC))) := But.setRow (But.refl' _ _) _ _ rfl
   refine ⟨_, by rw [e1, e2]; exact hr, ⟨?_, ?_, ?_, rfl, h.now64, h.now64, h.le, h.apart⟩, hB.mono fun k hk => by rw [e2, hk]; rfl⟩
   · refine hB.blockEq (fun e => ?_) h.row
     have := h.row
     rw [e, hg] at this
     simp at this
   · exact own_but h.now hB fun j hj hn => h.apart j hj (by rw [e2, hn]; rfl)
   · show World.ownsRow _ _ _ _ f.vs f.now.length _
     rw [e2]
     have e3 : (f.safe.flatMap secC).take 0 ++ f.now.flatMap secC ++ (f.safe.flatMap secC).drop (0 + (f.now.flatMap secC).length) = f.now.flatMap secC := by
      rw [List.drop_eq_nil_of_le (by rw [secC_len h.safe64, hl, h.len]; omega)]
      simp
     rw [e3] at ho
     exact ho
theorem FiOk.lost {W : World} {f : Fi} (h : FiOk W f) (ty : TypeId) :
 ∃ W', (Builtin.copy_ #[110, 110] ty #[f.vn, f.vs]).run Tryz.prog W = .ok (goInt f.now.length) W' ∧ FiOk W' { f with now := f.safe } ∧ But (fun k => f.vn.ownBlock = some k) W W' := by
 rcases Nat.eq_zero_or_pos f.now.length with h0 | h0
 · obtain ⟨a, c, e1⟩ := own_form h.now
   obtain ⟨a', c', e2⟩ := h.safeForm
   have hn : f.now = [] := List.eq_nil_of_length_eq_zero h0
   have hs : f.safe = [] := List.eq_nil_of_length_eq_zero (by rw [h.len]; exact h0)
   refine ⟨W, ?_, ?_, But.refl' _ _⟩
   · rw [e1, e2, h0]
     exact run_copy00 W _ _ ty 106 a a' c c' Tryz.underlying110 (by rw [sizeSec]; rfl)
   · have e : ({ f with now := f.safe } : Fi) = f := by
      have e3 : f.now = f.safe := by rw [hn, hs]
      obtain ⟨f1, f2, f3, f4, f5, f6⟩ := f
      have e4 : f5 = f6 := e3
      show Fi.mk f1 f2 f3 f4 f6 f6 = Fi.mk f1 f2 f3 f4 f5 f6
      rw [e4]
     rw [e]
     exact h
 · obtain ⟨g, c, e1⟩ := own_some h.now h0
   obtain ⟨g', c', e2⟩ := own_some h.safe (by rw [h.len]; exact h0)
   rw [h.len] at e2
   have hn := h.now
   have hs := h.safe
   rw [h.len] at hs
   rw [e1] at hn
   rw [e2] at hs
   have hl := secC_len h.safe64
   rw [h.len] at hl
   obtain ⟨cur, hg, hfit, ho⟩ := own_ovr hn (ys := f.safe.flatMap secC) 0 (by rw [hl]; omega)
   have hr := run_copyK W 110 110 ty 106 64 g f.now.length c ⟨g', 0, none⟩ c' cur _ (f.safe.flatMap secC) Tryz.underlying110 sizeSec hg hl (hs.cells (g := g') rfl) (by omega) (flat64 h.safe64)
   have hB : But (fun k => k = g) W (W.setRow g (ovr cur 0 (f.safe.flatMap secC))) := But.setRow (But.refl' _ _) _ _ rfl
   refine ⟨_, by rw [e1, e2]; exact hr, ⟨?_, ?_, ?_, rfl, h.safe64, h.safe64, by show f.safe.length ≤ _; rw [h.len]; exact h.le, h.apart⟩, hB.mono fun k hk => by rw [e1, hk]; rfl⟩
   · refine hB.blockEq (fun e => ?_) h.row
     have := h.row
     rw [e, hg] at this
     simp at this
   · show World.ownsRow _ _ _ _ f.vn f.safe.length _
     rw [e1, h.len]
     have e3 : (f.now.flatMap secC).take 0 ++ f.safe.flatMap secC ++ (f.now.flatMap secC).drop (0 + (f.safe.flatMap secC).length) = f.safe.flatMap secC := by
      rw [List.drop_eq_nil_of_le (by rw [secC_len h.now64, hl]; omega)]
      simp
     rw [e3] at ho
     exact ho
   · exact own_but h.safe hB fun j hj hn => h.apart g (by rw [e1]; rfl) (by rw [hj, hn])
def Px.setP (x : Px) (v : Value) (l : List Wr) : Px := { x with vp := v, pend := l }
theorem PD.setP {W W1 : World} {q : Nat} {x : Px} (h : PD W q x) (l : List Wr) (v' : Value) (hB : But (fun k => x.vp.ownBlock = some k) W W1) (hrow : W1.ownsRow 0 108 66 v' l.length (l.flatMap wpC))
 (hat : v'.ownBlock = x.vp.ownBlock ∨ v'.ownBlock = none) (hsub : ∀ c ∈ l, c ∈ x.pend) (hlen : l.length ≤ x.pend.length) :
 PD (W1.setCell ⟨q, 4, none⟩ v') q (x.setP v' l) ∧ TurnP q x (x.setP v' l) W (W1.setCell ⟨q, 4, none⟩ v') := by
 have hqn : x.vp.ownBlock ≠ some q := fun e => h.qP e
 have hB2 : But (fun k => k = q ∨ x.vp.ownBlock = some k) W (W1.setCell ⟨q, 4, none⟩ v') := But.setCell (hB.mono fun k hk => .inr hk) _ _ (.inl rfl)
 have hrow1 := hB.blockEq hqn h.row
 have hm : ∀ k, pUse (x.setP v' l) k → pUse x k := fun k hk => by
  rcases hat with h' | h'
  · exact h'.symm.trans hk
  · rw [show pUse (x.setP v' l) k = (v'.ownBlock = some k) from rfl, h'] at hk; cases hk
 refine ⟨⟨row_setCell hrow1 4 v', ?_, ?_, ?_, h.fnd, ⟨h.wf.room, h.wf.ne, h.wf.names, h.wf.nums, fun w hw => h.wf.pend w (hsub w hw), h.wf.first, ?_⟩⟩, ?_, ?_, ?_⟩
 · exact h.keepD hB2 fun k hk hd => hk.elim (fun e => h.qD (e ▸ hd)) (fun e => h.dP hd e)
 · exact h.keepF hB2 fun k hk hd => hk.elim (fun e => h.qF (e ▸ hd)) (fun e => h.fP hd e)
 · exact setCell_own hrow1 4 v' hrow (by decide)
 · have := h.wf.small
   exact ⟨this.1, this.2.1, Nat.le_trans hlen this.2.2.1, this.2.2.2⟩
 · intro k hk
   rcases hk with hk | hk | hk | hk
   · exact .inl (.inl hk)
   · exact .inl (.inr (.inl hk))
   · exact .inl (.inr (.inr (.inl hk)))
   · exact .inl (.inr (.inr (.inr (hm k hk))))
 · intro k hk
   rcases hk with hk | hk | hk | hk
   · exact .inl (.inl hk)
   · exact .inl (.inr (.inl hk))
   · exact .inl (.inr (.inr (.inl hk)))
   · exact .inl (.inr (.inr (.inr (hm k hk))))
 · exact hB2.mono fun k hk => hk.elim .inl fun h' => .inr (.inr (.inr h'))
theorem intZero : ((Tryz.prog.info? 3).bind (fun i => i.zero)).map (fun z => z.cells) = some #[.int .i64 0] := by kernel_rfl
set_option maxRecDepth 100000 in
set_option maxHeartbeats 4000000 in
theorem pSyncI {w : World} {q : Nat} {x : Px} (h : PD w q x) (nm : Nm) (hn : okS nm) :
 Calls Tryz.prog 86 #[.pointer (some ⟨q, 0, none⟩), sv nm] w fun e w' => e = .returned (.int .i64 (syncP x.s nm).1) ∧ ∃ x', PD w' q x' ∧ x'.s = (syncP x.s nm).2 ∧ TurnP q x x' w w' := by
 have hmx : Tryz.prog.follows .mixedOrders = true := by kernel_rfl
 have HB := Lib.hid (pBeginWith h nm hn)
 unfold sv at HB ⊢
 by_cases hf : (beginP x.s).1 = 0
 · have hr : bwR x nm = findR (nowX x).2 nm := by unfold bwR; rw [if_pos hf]
   rw [hr] at HB
   cases hd : findA (nowX x).2 nm with
   | none =>
    have hr' : findR (nowX x).2 nm = .tuple #[.int .i64 0, .int .i64 7] := by unfold findR; rw [hd]
    have Hr : Hid (syncP x.s nm = (7, (beginX x).s)) := by
     show _ = _
     unfold syncP
     rw [guardP_yes hf, ← beginX_s, nowX_s, show (nowX (beginX x)).2 = (nowX x).2 from rfl, hd]
    rw [hr'] at HB
    clear h hn hf hr hd hr'
    go_enter Tryz.func86, Tryz.ntmps86
    go_wp2_with fail
    refine HB.out.mono ?_
    rintro e w1 ⟨rfl, hP, hT⟩
    have hG2 := Grows.alloc' w1 (.cells #[.int .i64 0] 3)
    have HP := Lib.hid (hP.grows hG2)
    have HT := Lib.hid (hT.trans (TurnP.ofGrows hG2))
    clear hP hT hG2
    go_wp2
    go_ret
    exact ⟨by rw [Hr.out]; rfl, beginX x, HP.out, by rw [Hr.out], HT.out⟩
   | some k =>
    have hr' : findR (nowX x).2 nm = .tuple #[.int .i64 (k : Int), .int .i64 0] := by unfold findR; rw [hd]; rfl
    obtain ⟨f, hfm, hfn⟩ := h.named (nowX_mem x h.wf.ne) hd
    have Hfi := Lib.hid hfm
    have Hfn := Lib.hid hfn
    have hfp : fileP (beginX x).s k = (f.now, f.safe) := by rw [← hfn]; exact h.fileP hfm
    have Hr : Hid (syncP x.s nm = (0, { (beginX x).s with files := setFile (beginX x).s.files k (f.now, f.now), pend := (beginX x).s.pend.filter fun w => !(w.id == k) })) := by
     show _ = _
     unfold syncP
     rw [guardP_yes hf, ← beginX_s, nowX_s, show (nowX (beginX x)).2 = (nowX x).2 from rfl, hd]
     simp only [hfp]
    have Hokp : Hid (okI k) := okI_small (by rw [← hfn]; exact Nat.le_trans (h.wf.nums f hfm) h.wf.small.2.2.2)
    rw [hr'] at HB
    clear h hn hf hr hd hr' hfm hfn hfp
    obtain ⟨L, HL⟩ : ∃ L, Hid (f.now.length = L) := ⟨_, rfl⟩
    obtain ⟨b, Hb⟩ : ∃ b, Hid (f.blk = b) := ⟨_, rfl⟩
    go_enter Tryz.func86, Tryz.ntmps86
    go_wp2_with fail
    refine HB.out.mono ?_
    rintro e w1 ⟨rfl, hP, hT⟩
    obtain ⟨cv, Hcv⟩ : ∃ y, Hid (w1.heap.size = y) := ⟨_, rfl⟩
    have hnew := heap_alloc_new w1 (.cells #[.int .i64 0] 3)
    rw [Hcv.out] at hnew
    have hG2 : Grows w1 ((w1.alloc (.cells #[.int .i64 0] 3)).setCell ⟨cv, 0, none⟩ (.int .i64 (k : Int))) := by
     refine ⟨rfl, rfl, rfl, by simp [World.setCell], fun j hj => ?_⟩
     rw [Below.heap_setCell _ _ _ _ (by show j ≠ cv; have := Hcv.out; omega)]
     exact heap_alloc_old w1 _ hj
    have hc2 : ((w1.alloc (.cells #[.int .i64 0] 3)).setCell ⟨cv, 0, none⟩ (.int .i64 (k : Int))).cell? ⟨cv, 0, none⟩ = some (.int .i64 (k : Int)) := by
     rw [cell_of_row _ cv 0 _ _ _ (row_setCell hnew 0 _)]; rfl
    have hcn : (w1.alloc (.cells #[.int .i64 0] 3)).cell? ⟨cv, 0, none⟩ = some (.int .i64 0) := by rw [cell_of_row _ cv 0 _ _ _ hnew]; rfl
    have hcf : (w1.alloc (.cells #[.int .i64 0] 3)).frozen? ⟨cv, 0, none⟩ = false := frozen_of_row _ cv 0 _ _ hnew
    have HP := Lib.hid (hP.grows hG2)
    have HT := Lib.hid (hT.trans (TurnP.ofGrows hG2))
    have Hcvw : Hid (w1.heap.size ≤ cv) := by show _ ≤ _; rw [Hcv.out]; exact Nat.le_refl _
    have HltP : Hid (∀ j, useP q (beginX x) j → j < cv) := fun j hj => by have := hP.ltU hj; rw [Hcv.out] at this; exact this
    obtain ⟨w2, Hw2⟩ : ∃ y, Hid ((w1.alloc (.cells #[.int .i64 0] 3)).setCell ⟨cv, 0, none⟩ (.int .i64 (k : Int)) = y) := ⟨_, rfl⟩
    clear hP hT hG2 hnew
    go_wp2_with (first | (refine wpList_allocT rfl 3 rfl #[.int .i64 0] intZero ?_; rw [Hcv.out]) | go_in)
    rw [Hw2.out] at HP HT hc2 ⊢
    clear hcn hcf Hw2 HB
    have hfo := HP.out.files.ok f Hfi.out
    have Hfo := Lib.hid hfo
    obtain ⟨a, c, a', c', e1, e2, d0, d1⟩ := fi_form hfo
    have hlk := HP.out.look Hfi.out
    rw [Hfn.out, Hb.out] at hlk
    have Hlk1 := Lib.hid hlk
    have HM1 := Lib.hid HP.out.files.map
    have Hok1 := Lib.hid HP.out.okF
    have c2 := HP.out.cell 2 (mv (beginX x).fm) rfl
    obtain ⟨fm, Hfm⟩ : ∃ y, Hid ((beginX x).fm = y) := ⟨_, rfl⟩
    rw [Hfm.out] at c2 HM1
    rw [HL.out] at e1 e2 d0 d1
    rw [Hb.out] at d0 d1
    unfold mv at c2
    have E1 := Lib.hid e1
    have E2 := Lib.hid e2
    clear hfo hlk e1 e2
    have cXa := fun X (hX : Grows _ X) => And.intro (Grows.cell' hX c2) (Grows.cell' hX hc2)
    refine specs_region
     #[[], [0], [0, 1], [0, 1, 2], [], [0, 1, 2, 3, 4], [0, 1, 2, 3, 4, 5]] #[[0], [], [], [], [5], [], []] #[true, true, true, true, true, true, true]
     ((.val ?va0) :: (.val ?va1) :: (.val ?va2) :: (.val ?va3) :: (.val ?va4) :: (.val (.pointer (some ⟨b, 0, none⟩))) :: (.val ?va6) :: []).toArray
     hmx ?chka ?grda ?stpa ?rsta
    case chka => rfl
    case stpa =>
     refine ⟨?_, ?_, ?_, ?_, ?_, ?_, ?_, trivial⟩
     · refine stepO 0 ?va0 rfl (fun _ _ => rfl) rfl (fun _ => rfl) (by decide) ?_; show (.pointer (some ⟨q, 0, none⟩) : Value) = _; rfl
     · refine stepR (o := ⟨_, .nilCheck (.tmp 17), _, _, _, _⟩) ?va1 rfl rfl (fun _ => rfl) fun ρ X hc hf hgl hX hp ho => ?_; have k17 : ρ (.tmp 17) = ?va0 := hp 0 (by decide); clear hp ho hX; go_simp; (all_goals rfl)
     · refine stepR (o := ⟨_, .fieldAddr 100 (.tmp 18) 2, _, _, _, _⟩) ?va2 rfl rfl (fun _ => rfl) fun ρ X hc hf hgl hX hp ho => ?_; have k18 : ρ (.tmp 18) = ?va1 := hp 1 (by decide); clear hp ho hX; go_simp; (all_goals rfl)
     · refine stepR (o := ⟨_, .load 95 (.tmp 19), _, _, _, _⟩) ?va3 rfl rfl (fun _ => rfl) fun ρ X hc hf hgl hX hp ho => ?_; have k19 : ρ (.tmp 19) = ?va2 := hp 2 (by decide); have cX := cXa X hX; clear hp ho hX; go_simp; (all_goals rfl)
     · refine stepR (o := ⟨_, .load 3 (.tmp 5), _, _, _, _⟩) ?va4 rfl rfl (fun _ => rfl) fun ρ X hc hf hgl hX hp ho => ?_; have k5 : ρ (.tmp 5) = .pointer (some ⟨cv, 0, none⟩) := ho 5 (by decide); have cX := cXa X hX; clear hp ho hX; go_simp; (all_goals rfl)
     · refine step_intro rfl rfl fun ρ X hc hf hgl hX hp ho => ?_
       change StepOk _ ⟨_, .lookup 95 (.tmp 20) (.tmp 21) false, _, _, _, _⟩ _ _ _
       have k20 : ρ (.tmp 20) = ?va3 := hp 3 (by decide)
       have k21 : ρ (.tmp 21) = ?va4 := hp 4 (by decide)
       clear hp ho
       have hlk := (HM1.out.grows hX).look keyF Hok1.out Tryz.underlying95 (zeroFile _) false k Hokp.out
       rw [Hlk1.out] at hlk
       unfold nv pv at hlk
       simp only [Bool.false_eq_true, if_false] at hlk
       refine StepOk.of_run (v := .pointer (some ⟨b, 0, none⟩)) (w' := X) ?_ ⟨rfl, Below.refl _ _⟩
       simp only [execOp, k20, k21, hlk, Sem.run_bind, Result.andThen_ok, Sem.run_pure]
     · refine stepP 22 5 ((.pointer (some ⟨b, 0, none⟩))) ?va6 rfl (fun _ _ => rfl) rfl (fun _ => rfl) (by decide) rfl (fun _ _ h => h) ?_; rfl
    case grda => rfl
    case rsta =>
     intro a0 X hb
     have hfr := hb.frame ((7, ?va6) :: (17, ?va0) :: (18, ?va1) :: (19, ?va2) :: (20, ?va3) :: (21, ?va4) :: (22, (.pointer (some ⟨b, 0, none⟩))) :: []) rfl ⟨hb.done' 6 7 rfl rfl, hb.done' 0 17 rfl rfl, hb.done' 1 18 rfl rfl, hb.done' 2 19 rfl rfl, hb.done' 3 20 rfl rfl, hb.done' 4 21 rfl rfl, hb.done' 5 22 rfl rfl, trivial⟩
     simp only [updL, ↓reduceIte, Nat.reduceEqDiff, Nat.reduceAdd, Nat.zero_add] at hfr
     have HX := Lib.hid hb.ext
     clear hb cXa
     subst hfr
     have HX4 := HX
     have d0 := HX4.out.cell' d0
     have d1 := HX4.out.cell' d1
     go_wp2
     have cXb := fun X (hX : Grows _ X) => And.intro (Grows.cell' hX d0) (Grows.cell' hX d1)
     refine specs_last 8
      #[[], [0], [0, 1], [0, 1, 2], [], [4], [4, 5], [4, 5, 6], [0, 1, 2, 3, 4, 5, 6, 7]] #[[7], [], [], [], [7], [], [], [], []] #[true, true, true, true, true, true, true, true, true]
      ((.val ?vb0) :: (.val ?vb1) :: (.val ?vb2) :: (.val ?vb3) :: (.val ?vb4) :: (.val ?vb5) :: (.val ?vb6) :: (.val ?vb7) :: (.any) :: []).toArray
      hmx ?chkb ?grdb rfl ?stpb ?rstb
     case chkb => rfl
     case stpb =>
      refine ⟨?_, ?_, ?_, ?_, ?_, ?_, ?_, ?_, ?_, trivial⟩
      · refine stepO 7 ?vb0 rfl (fun _ _ => rfl) rfl (fun _ => rfl) (by decide) ?_; show (.pointer (some ⟨b, 0, none⟩) : Value) = _; rfl
      · refine stepR (o := ⟨_, .nilCheck (.tmp 23), _, _, _, _⟩) ?vb1 rfl rfl (fun _ => rfl) fun ρ X hc hf hgl hX hp ho => ?_; have k23 : ρ (.tmp 23) = ?vb0 := hp 0 (by decide); clear hp ho hX; go_simp; (all_goals rfl)
      · refine stepR (o := ⟨_, .fieldAddr 113 (.tmp 24) 1, _, _, _, _⟩) ?vb2 rfl rfl (fun _ => rfl) fun ρ X hc hf hgl hX hp ho => ?_; have k24 : ρ (.tmp 24) = ?vb1 := hp 1 (by decide); clear hp ho hX; go_simp; (all_goals rfl)
      · refine stepR (o := ⟨_, .load 110 (.tmp 25), _, _, _, _⟩) ?vb3 rfl rfl (fun _ => rfl) fun ρ X hc hf hgl hX hp ho => ?_; have k25 : ρ (.tmp 25) = ?vb2 := hp 2 (by decide); have cX := cXb X hX; clear hp ho hX; go_simp; (all_goals rfl)
      · refine stepO 7 ?vb4 rfl (fun _ _ => rfl) rfl (fun _ => rfl) (by decide) ?_; show (.pointer (some ⟨b, 0, none⟩) : Value) = _; rfl
      · refine stepR (o := ⟨_, .nilCheck (.tmp 27), _, _, _, _⟩) ?vb5 rfl rfl (fun _ => rfl) fun ρ X hc hf hgl hX hp ho => ?_; have k27 : ρ (.tmp 27) = ?vb4 := hp 4 (by decide); clear hp ho hX; go_simp; (all_goals rfl)
      · refine stepR (o := ⟨_, .fieldAddr 113 (.tmp 28) 0, _, _, _, _⟩) ?vb6 rfl rfl (fun _ => rfl) fun ρ X hc hf hgl hX hp ho => ?_; have k28 : ρ (.tmp 28) = ?vb5 := hp 5 (by decide); clear hp ho hX; go_simp; (all_goals rfl)
      · refine stepR (o := ⟨_, .load 110 (.tmp 29), _, _, _, _⟩) ?vb7 rfl rfl (fun _ => rfl) fun ρ X hc hf hgl hX hp ho => ?_; have k29 : ρ (.tmp 29) = ?vb6 := hp 6 (by decide); have cX := cXb X hX; clear hp ho hX; go_simp; (all_goals rfl)
      · exact last_intro rfl
     case grdb => rfl
     case rstb =>
      intro a0 X hb
      obtain ⟨x31, hx31⟩ : ∃ x, a0.tmps.getD 31 undef = x := ⟨_, rfl⟩
      have hfr := hb.frame ((23, ?vb0) :: (24, ?vb1) :: (25, ?vb2) :: (26, ?vb3) :: (27, ?vb4) :: (28, ?vb5) :: (29, ?vb6) :: (30, ?vb7) :: (31, x31) :: []) rfl ⟨hb.done' 0 23 rfl rfl, hb.done' 1 24 rfl rfl, hb.done' 2 25 rfl rfl, hb.done' 3 26 rfl rfl, hb.done' 4 27 rfl rfl, hb.done' 5 28 rfl rfl, hb.done' 6 29 rfl rfl, hb.done' 7 30 rfl rfl, hx31, trivial⟩
      simp only [updL, ↓reduceIte, Nat.reduceEqDiff, Nat.reduceAdd, Nat.zero_add] at hfr
      have HX := Lib.hid hb.ext
      clear hb cXb
      subst hfr
      change StepOk _ { dst := _, op := Op.call { callee := Callee.builtin Builtin.copy, args := #[Operand.tmp 26, Operand.tmp 30], argTypes := #[110, 110] }, type := _, pos := _, after := _, guard := _ } _ _ _
      have HX2 : Hid (Grows w2 X) := Grows.trans' HX4.out HX.out
      have hfX := Hfo.out.kept (HX2.out.block _ (Array.getElem?_eq_some_iff.1 Hfo.out.row).1) fun j hj => HX2.out.block _ (kind_lt (Hfo.out.kind hj))
      obtain ⟨w5, hr5, hf5, hB5⟩ := hfX.synced _
      rw [E1.out, E2.out] at hr5
      have hset := (HP.out.grows HX2.out).setF f { f with safe := f.now } Hfi.out rfl rfl hB5 (fun j hj => .inr (.inl (.inr hj))) hf5 (fun j hj => .inl hj) (Nat.le_refl _)
      have HR5 := Lib.hid hset.1
      have HT5 : Hid (TurnP q x ((beginX x).setF { f with safe := f.now }) w w5) := (HT.out.trans (TurnP.ofGrows HX2.out)).trans hset.2
      have c5 := hB5.cell (p := ⟨cv, 0, none⟩) (fun e => by have := HltP.out cv (.inr (.inr (.inl (.inr ⟨f, Hfi.out, .inr (.inr e)⟩)))); omega) (HX2.out.cell' hc2)
      have Hr5 := Lib.hid hr5
      refine StepOk.of_run (v := goInt L) (w' := w5) ?_ ?_
      · simp only [execOp, resolve, invoke, builtin, Sem.run_bind, Sem.run_pure, Result.andThen_ok, List.map_toArray, List.map_cons, List.map_nil]
        show (Result.andThen ((Builtin.copy_ #[110, 110] _ #[.slice a' L c', .slice a L c]).run Tryz.prog X) _) = _
        rw [hr5, HL.out]
        rfl
      clear hr5 hB5 hset hf5 hfX
      have hpend : w5.ownsRow 0 108 66 x.vp x.pend.length (x.pend.flatMap wpC) := HR5.out.pend
      have HDF := Lib.hid (pDeleteFunc x.vp x.pend k cv w5 hpend (fun c hc => (HR5.out.wf.pend c hc).1) HR5.out.wf.small.2.2.1 c5 (fun e => by have := HltP.out cv (.inr (.inr (.inr e))); omega))
      obtain ⟨av, cvp, e3⟩ := own_form hpend
      have c4 := HR5.out.cell 4 x.vp rfl
      obtain ⟨vp, Hvp⟩ : ∃ y, Hid (x.vp = y) := ⟨_, rfl⟩
      rw [Hvp.out] at HDF c4
      have hrow5 := HR5.out.row
      have Hrow5 := Lib.hid hrow5
      clear hpend e3 hrow5 c5
      simp only [Act.put, List.setIfInBounds_toArray, List.set_cons_succ, List.set_cons_zero]
      go_wp2_with fail
      refine HDF.out.mono ?_
      rintro e w6 ⟨v', rfl, ho, hB, hat⟩
      have hrow6 := hB.blockEq (by rw [← Hvp.out]; exact fun e => HR5.out.qP e) Hrow5.out
      have k4 := cell_of_row w6 q 4 _ _ _ hrow6
      have u4 : w6.frozen? ⟨q, 4, none⟩ = false := frozen_of_row w6 q 4 _ _ hrow6
      rw [show (pdRow ((beginX x).setF { f with safe := f.now }))[4]? = some x.vp from rfl, Hvp.out] at k4
      obtain ⟨a6, c6, e6⟩ := own_form ho
      have hadd := HR5.out.setP (flt k x.pend) v' (by show But (fun k => x.vp.ownBlock = some k) _ _; rw [Hvp.out]; exact hB) ho (by show v'.ownBlock = x.vp.ownBlock ∨ _; rw [Hvp.out]; exact .inl hat) (fun c hc => (List.mem_filter.1 hc).1) (flt_le _ _)
      have HA := Lib.hid hadd
      obtain ⟨fl, Hfl⟩ : ∃ y, Hid ((flt k x.pend).length = y) := ⟨_, rfl⟩
      rw [Hfl.out] at e6
      subst e6
      clear hadd ho hB hat hrow6
      go_wp2
      go_ret
      refine ⟨by rw [Hr.out]; rfl, _, HA.out.1, ?_, HT5.out.trans HA.out.2⟩
      rw [Hr.out]
      show ({ ((beginX x).setF { f with safe := f.now }).s with pend := _ } : Ps) = _
      rw [setF_s, ← Hfn.out]
      rfl
 · have Hr : Hid (syncP x.s nm = beginP x.s) := guardP_no hf
   have hr : bwR x nm = .tuple #[.int .i64 0, .int .i64 (beginP x.s).1] := by unfold bwR; rw [if_neg hf]
   rw [hr] at HB
   obtain ⟨fc, Hfc⟩ : ∃ y, Hid ((beginP x.s).1 = y) := ⟨_, rfl⟩
   rw [Hfc.out] at HB hf
   have hne : (fc == 0) = false := by simpa using hf
   clear h hn hf hr
   go_enter Tryz.func86, Tryz.ntmps86
   go_wp2_with fail
   refine HB.out.mono ?_
   rintro e w1 ⟨rfl, hP, hT⟩
   have hG2 := Grows.alloc' w1 (.cells #[.int .i64 0] 3)
   have HP := Lib.hid (hP.grows hG2)
   have HT := Lib.hid (hT.trans (TurnP.ofGrows hG2))
   clear hP hT hG2
   go_wp2
   go_ret
   exact ⟨by rw [Hr.out, Hfc.out]; rfl, beginX x, HP.out, by rw [Hr.out, beginX_s], HT.out⟩
end Go.Proofs.YtoppcpiheaedlaaGreatDoor
end
section
/-
  The program's disk: which places stand in a list.
-/
namespace Go.Proofs.YtoppcpiheaedlaaGreatDoor
open Go.RowKit Go.Maps Go.MapKept
set_option linter.unusedVariables false
set_option linter.unusedSimpArgs false
attribute [local go_sem] sv nv mv pv
def IntS (W : World) (v : Value) (l : List Int) : Prop :=
 ∃ a cap, v = .slice a l.length cap ∧ (l = [] ∨ ∃ b off, a = some ⟨b, off, none⟩ ∧ ∀ i, i < l.length → W.cell? ⟨b, off + i, none⟩ = some (.int .i64 (l.getD i 0)))
theorem IntS.grows {W W' : World} {v : Value} {l : List Int} (h : IntS W v l) (g : Grows W W') : IntS W' v l := by
 obtain ⟨a, cap, e, h4⟩ := h
 refine ⟨a, cap, e, h4.imp id ?_⟩
 rintro ⟨b, off, e, hc⟩
 exact ⟨b, off, e, fun i hi => Grows.cell' g (hc i hi)⟩
theorem IntS.but {O : Nat → Prop} {W W' : World} {v : Value} {l : List Int} (h : IntS W v l) (g : But O W W') (ho : Outside O v) : IntS W' v l := by
 obtain ⟨a, cap, rfl, h4⟩ := h
 refine ⟨a, cap, rfl, h4.imp id ?_⟩
 rintro ⟨b, off, rfl, hc⟩
 by_cases h0 : l.length = 0
 · exact ⟨b, off, rfl, fun i hi => by omega⟩
 · exact ⟨b, off, rfl, fun i hi => g.cell (ho b off none _ _ rfl h0) (hc i hi)⟩
def marksF (keep : List Int) (n : Nat) : List Bool := (List.range n).map fun (i : Nat) => decide ((i : Int) ∈ keep)
theorem marksF_len (keep : List Int) (n : Nat) : (marksF keep n).length = n := by simp [marksF]
theorem marksF_get (keep : List Int) (n i : Nat) (h : i < n) : (marksF keep n)[i]? = some (decide ((i : Int) ∈ keep)) := by simp [marksF, h]
theorem marksF_nil (n : Nat) : marksF [] n = List.replicate n false := by
 apply List.ext_getElem?
 intro i
 by_cases h : i < n
 · rw [marksF_get _ _ _ h, List.getElem?_replicate, if_pos h]; simp
 · rw [List.getElem?_eq_none (by rw [marksF_len]; omega), List.getElem?_replicate, if_neg h]
theorem marksF_in (keep : List Int) (n : Nat) (m : Nat) (hm : m < n) : marksF (keep ++ [(m : Int)]) n = (marksF keep n).set m true := by
 apply List.ext_getElem?
 intro i
 by_cases h : i < n
 · rw [marksF_get _ _ _ h, List.getElem?_set, marksF_len, marksF_get _ _ _ h]
   by_cases he : m = i
   · subst he; simp [hm]
   · rw [if_neg he]
     have : ¬ (i : Int) = (m : Int) := by omega
     simp [this]
 · rw [List.getElem?_eq_none (by rw [marksF_len]; omega), List.getElem?_eq_none (by rw [List.length_set, marksF_len]; omega)]
theorem marksF_out (keep : List Int) (n : Nat) (z : Int) (hz : z < 0 ∨ (n : Int) ≤ z) : marksF (keep ++ [z]) n = marksF keep n := by
 apply List.ext_getElem?
 intro i
 by_cases h : i < n
 · rw [marksF_get _ _ _ h, marksF_get _ _ _ h]
   have : ¬ (i : Int) = z := by omega
   simp [this]
 · rw [List.getElem?_eq_none (by rw [marksF_len]; omega), List.getElem?_eq_none (by rw [marksF_len]; omega)]
theorem infoBool : (Tryz.prog.info? 4).map (fun i => (i.zero, i.size, i.bytes)) = some (some (.bool false), 1, 1) := by kernel_rfl
theorem infoBool_parts : ∃ i, Tryz.prog.info? 4 = some i ∧ i.zero = some (.bool false) ∧ i.size = 1 ∧ i.bytes = 1 := by
 obtain ⟨i, h1, h2⟩ := Option.map_eq_some_iff.1 infoBool
 simp only [Prod.mk.injEq] at h2
 exact ⟨i, h1, h2.1, h2.2.1, h2.2.2⟩
theorem made_bool (n : Nat) : (madeCells (Value.cells (.bool false)) (n * 1)).toList = (List.replicate n false).map Value.bool := by
 apply List.ext_getElem
 · simp [madeCells]
 · intro i h1 h2
   simp [madeCells, Value.cells, Nat.mod_one]
set_option maxRecDepth 100000 in
set_option maxHeartbeats 1000000 in
theorem pMarked (n : Nat) (v : Value) (keep : List Int) (w : World) (hn : n ≤ 1000000) (hv : IntS w v keep) (hk : keep.length ≤ 1000000000) (hr : ∀ z ∈ keep, -9223372036854775808 ≤ z ∧ z ≤ 9223372036854775807) :
 Calls Tryz.prog 70 #[.int .i64 (n : Int), v] w fun e w' => ∃ g, e = .returned (.slice (some ⟨g, 0, none⟩) n n) ∧ w.heap.size ≤ g ∧ w'.ownsRow 0 4 1 (.slice (some ⟨g, 0, none⟩) n n) n ((marksF keep n).map Value.bool) ∧ Grows w w' := by
 obtain ⟨ib, hib, hzb, hsb, hbb⟩ := infoBool_parts
 obtain ⟨a, cap, rfl, hvc⟩ := hv
 have Hvc := Lib.hid hvc
 have Hr := Lib.hid hr
 have hnI : (n : Int) ≤ 1000000 := by omega
 have hkI : (keep.length : Int) ≤ 1000000000 := by omega
 have Hn := Lib.hid hn
 obtain ⟨kl, Hkl⟩ : ∃ k, Hid (keep.length = k) := ⟨_, rfl⟩
 rw [Hkl.out] at hkI ⊢
 clear hn hvc hk hr
 go_enter Tryz.func70, Tryz.ntmps70
 go_wp2_with (first | (at_make; refine wpList_make_full _ rfl _ _ 136 rfl 0 4 ib _ 1 Tryz.underlying136 hib hzb hsb .i64 .i64 _ _ n rfl rfl rfl rfl (by have := Hn.out; rw [hbb]; omega) (by have := Hn.out; unfold maxLen; omega) (by omega) ?_; intro w1 ho1 hg1) | go_in)
 rw [made_bool, ← marksF_nil] at ho1
 obtain ⟨g, Hg⟩ : ∃ g, Hid (w.heap.size = g) := ⟨_, rfl⟩
 rw [Hg.out] at ho1 ⊢
 have HO1 := Lib.hid ho1
 have HG1 : Hid (Grows w w1) := Below.grown (Below.refl _ _) hg1 (Nat.le_refl _) (fun j hj => by cases hj)
 clear ho1 hg1
 try go_frame
 go_loopw [7, 12] (fun _ t12 wr => ∃ j : Nat, j ≤ kl ∧ t12 = .int .i64 j ∧ wr.ownsRow 0 4 1 (.slice (some ⟨g, 0, none⟩) n n) n ((marksF (keep.take j) n).map Value.bool) ∧ Grows w wr)
  (fun _ t12 _ => kl - (intOf t12).toNat)
 case atStart => exact ⟨0, by omega, rfl, HO1.out, HG1.out⟩
 case round =>
  obtain ⟨j, hj, rfl, ho, hG⟩ := hrel
  have HO := Lib.hid ho
  have HG := Lib.hid hG
  clear ho hG
  by_cases hlt : j < kl
  · have hltI : (j : Int) < (kl : Int) := by omega
    have hbi : ¬ ((kl : Int) ≤ (j : Int)) := by omega
    have hjk : j < keep.length := by rw [Hkl.out]; exact hlt
    obtain ⟨z, hz⟩ : ∃ z, keep.getD j 0 = z := ⟨_, rfl⟩
    obtain ⟨b, off, rfl, hcc⟩ : ∃ b off, a = some ⟨b, off, none⟩ ∧ ∀ i, i < keep.length → w.cell? ⟨b, off + i, none⟩ = some (.int .i64 (keep.getD i 0)) := by
     rcases Hvc.out with h | h
     · rw [h] at hjk; simp at hjk
     · exact h
    have hcell := HG.out.cell' (hcc j hjk)
    rw [hz] at hcell
    have hzr := Hr.out z (by rw [← hz]; exact getD_mem _ _ _ hjk)
    have Hsn : Hid (keep.take (j + 1) = keep.take j ++ [z]) := by
     show _ = _
     rw [List.take_succ_eq_append_getElem hjk, ← hz]
     simp [List.getD, hjk]
    have Hlt := Lib.hid hlt
    clear hcc hz hlt hj hjk
    by_cases h0 : 0 ≤ z
    · by_cases h1 : z < (n : Int)
      · obtain ⟨m, rfl⟩ : ∃ m : Nat, z = (m : Int) := ⟨z.toNat, by omega⟩
        have hmn : m < n := by omega
        have cm := HO.out.cellAt (g := g) m (by omega)
        rw [List.getElem?_map, marksF_get _ _ _ hmn, Option.map_some] at cm
        have fm := HO.out.frozenAt (g := g) m
        have hst := (World.ownsRow.stored HO.out m (.bool true)).1
        rw [← List.map_set, ← marksF_in _ _ _ hmn, ← Hsn.out] at hst
        have HS := Lib.hid hst
        have HG2 : Hid (Grows w (wr.setCell ⟨g, m, none⟩ (.bool true))) := Below.setCell HG.out (by show w.heap.size ≤ g; rw [Hg.out]; exact Nat.le_refl _) _
        have hnb : ¬ ((n : Int) ≤ (m : Int)) := by omega
        clear hst
        go_wp2
        go_roundw
        case rel => exact ⟨j + 1, Hlt.out, by simp, HS.out, HG2.out⟩
        case measure => have := Hlt.out; simp [intOf]; omega
      · have HS := HO.out
        rw [← marksF_out _ _ z (.inr (by omega)), ← Hsn.out] at HS
        have HS := Lib.hid HS
        go_wp2
        go_roundw
        case rel => exact ⟨j + 1, Hlt.out, by simp, HS.out, HG.out⟩
        case measure => have := Hlt.out; simp [intOf]; omega
    · have HS := HO.out
      rw [← marksF_out _ _ z (.inl (by omega)), ← Hsn.out] at HS
      have HS := Lib.hid HS
      go_wp2
      go_roundw
      case rel => exact ⟨j + 1, Hlt.out, by simp, HS.out, HG.out⟩
      case measure => have := Hlt.out; simp [intOf]; omega
  · have hltI : ¬ (j : Int) < (kl : Int) := by omega
    have HF := HO.out
    rw [List.take_of_length_le (by rw [Hkl.out]; omega)] at HF
    have HF := Lib.hid HF
    go_wp2
    go_ret
    exact ⟨g, rfl, by rw [Hg.out]; exact Nat.le_refl _, HF.out, HG.out⟩
end Go.Proofs.YtoppcpiheaedlaaGreatDoor
end
section
/-
  The program's disk: writes that are kept when the power fails; what is lost.
-/
namespace Go.Proofs.YtoppcpiheaedlaaGreatDoor
open Go.RowKit Go.Maps Go.MapKept
set_option linter.unusedVariables false
set_option linter.unusedSimpArgs false
attribute [local go_sem] sv nv mv pv
theorem FiOk.putS {W : World} {f : Fi} (h : FiOk W f) {g L c : Nat} (hv : f.vs = .slice (some ⟨g, 0, none⟩) L c) (n : Nat) (hn : n < f.now.length) (p : Sec) (hp : p.length = 64) :
 ∃ cur, W.heap[g]? = some (.cells cur 106 (0, 0)) ∧ n * 64 + (secC p).length ≤ cur.size ∧ FiOk (W.setRow g (ovr cur (n * 64) (secC p))) { f with safe := f.safe.set n p } ∧ But (fun k => k = g) W (W.setRow g (ovr cur (n * 64) (secC p))) := by
 have ho := h.safe
 rw [hv] at ho
 have hL : L = f.safe.length := by
  rcases ho.2 with ⟨e, _⟩ | ⟨_, _, _, e, _⟩
  · cases e
  · simp only [Value.slice.injEq] at e; exact e.2.1
 subst hL
 have hns : n < f.safe.length := by rw [h.len]; exact hn
 obtain ⟨cur, hg, hfit, ho'⟩ := own_ovr ho (ys := secC p) (n * 64) (by rw [secC_len1, hp]; omega)
 have hB : But (fun k => k = g) W (W.setRow g (ovr cur (n * 64) (secC p))) := But.setRow (But.refl' _ _) _ _ rfl
 refine ⟨cur, hg, hfit, ⟨?_, ?_, ?_, ?_, h.now64, ?_, h.le, h.apart⟩, hB⟩
 · refine hB.blockEq (fun e => ?_) h.row
   have := h.row
   rw [e, hg] at this
   simp at this
 · exact own_but h.now hB fun j hj hn => h.apart j hj (by rw [hv, hn]; rfl)
 · rw [flat_set h.safe64 n hns p hp] at ho'
   show World.ownsRow _ _ _ _ f.vs (f.safe.set n p).length _
   rw [List.length_set, hv]
   exact ho'
 · show (f.safe.set n p).length = f.now.length
   rw [List.length_set]
   exact h.len
 · intro s hs
   rcases List.mem_or_eq_of_mem_set hs with hs | hs
   · exact h.safe64 s hs
   · rw [hs]; exact hp
theorem keptF_snoc (keep : List Int) (c : Wr) : ∀ (l : List Wr) (n : Nat), keptF keep (l ++ [c]) n = keptF keep l n ++ (if ((n + l.length : Nat) : Int) ∈ keep then [c] else [])
 | [], n => by
  simp only [List.nil_append, keptF, List.length_nil, Nat.add_zero]
 | a :: l, n => by
  have ih := keptF_snoc keep c l (n + 1)
  have e : n + (a :: l).length = n + 1 + l.length := by simp; omega
  rw [e]
  simp only [List.cons_append, keptF]
  split
  · rw [ih]; rfl
  · exact ih
def keepFi (ws : List Wr) (f : Fi) : Fi := { f with safe := ws.foldl (fun s w => if w.id = f.num then s.set w.n w.p else s) f.safe }
def Px.keepX (x : Px) (ws : List Wr) : Px := { x with fs := x.fs.map (keepFi ws) }
theorem keepX_nil (x : Px) : x.keepX [] = x := by
 unfold Px.keepX
 have : x.fs.map (keepFi []) = x.fs := by
  have h : keepFi [] = id := by funext f; rfl
  rw [h, List.map_id]
 rw [this]
theorem keepFi_snoc (ws : List Wr) (c : Wr) (f : Fi) : keepFi (ws ++ [c]) f = if c.id = f.num then { keepFi ws f with safe := (keepFi ws f).safe.set c.n c.p } else keepFi ws f := by
 unfold keepFi
 rw [List.foldl_append]
 simp only [List.foldl_cons, List.foldl_nil]
 split <;> rfl
theorem keepX_step {x : Px} (hnd : (x.fs.map fun f => f.num).Nodup) (ws : List Wr) (c : Wr) (f : Fi) (hf : f ∈ x.fs) (hc : f.num = c.id) :
 x.keepX (ws ++ [c]) = (x.keepX ws).setF { keepFi ws f with safe := (keepFi ws f).safe.set c.n c.p } := by
 unfold Px.keepX Px.setF
 have : x.fs.map (keepFi (ws ++ [c])) = (x.fs.map (keepFi ws)).map fun g => if g.num = f.num then { keepFi ws f with safe := (keepFi ws f).safe.set c.n c.p } else g := by
  rw [List.map_map]
  refine List.map_congr_left fun g hg => ?_
  rw [keepFi_snoc]
  simp only [Function.comp_apply]
  by_cases h : g.num = f.num
  · have e : g = f := num_inj hnd hg hf h
    rw [e, if_pos hc.symm, if_pos (show (keepFi ws f).num = f.num from rfl)]
  · rw [if_neg (fun e => h (e.symm.trans hc.symm)), if_neg (show ¬ (keepFi ws g).num = f.num from h)]
 rw [this]
 rfl
theorem keepX_none {x : Px} (ws : List Wr) (c : Wr) (hc : ∀ f ∈ x.fs, f.num ≠ c.id) : x.keepX (ws ++ [c]) = x.keepX ws := by
 unfold Px.keepX
 have : x.fs.map (keepFi (ws ++ [c])) = x.fs.map (keepFi ws) := List.map_congr_left fun g hg => by
  rw [keepFi_snoc, if_neg (fun e => hc g hg e.symm)]
 rw [this]
theorem keepX_one (x : Px) (w : Wr) : (x.keepX [w]).s.files = keepP x.s.files w := by
 unfold Px.keepX Px.s keepP
 simp only [List.map_map]
 refine List.map_congr_left fun f _ => ?_
 simp only [Function.comp_apply]
 by_cases h : f.num = w.id
 · rw [if_pos (show f.pure.1 = w.id from h)]
   unfold keepFi Fi.pure
   simp [h.symm]
 · rw [if_neg (show ¬ f.pure.1 = w.id from h)]
   unfold keepFi Fi.pure
   have h' : ¬ w.id = f.num := fun e => h e.symm
   simp [h']
theorem keepX_s : ∀ (ws : List Wr) (x : Px), (x.keepX ws).s.files = ws.foldl keepP x.s.files
 | [], x => by rw [keepX_nil]; rfl
 | w :: ws, x => by
  have e : x.keepX (w :: ws) = (x.keepX [w]).keepX ws := by
   unfold Px.keepX
   simp only [List.map_map]
   rfl
  rw [e, keepX_s ws, keepX_one]
  rfl
theorem keepX_ent (x : Px) (ws : List Wr) : (x.keepX ws).fs.map Fi.ent = x.fs.map Fi.ent := by
 unfold Px.keepX
 rw [List.map_map]
 rfl
theorem keepX_mut {q : Nat} {x : Px} {ws : List Wr} {k : Nat} (h : mutP q (x.keepX ws) k) : mutP q x k := by
 rcases h with h | h | h | h
 · exact .inl h
 · exact .inr (.inl h)
 · refine .inr (.inr (.inl ?_))
   rcases h with h | ⟨f, hf, h⟩
   · exact .inl h
   · obtain ⟨g, hg, rfl⟩ := List.mem_map.1 hf
     exact .inr ⟨g, hg, h⟩
 · exact .inr (.inr (.inr h))
theorem keepX_use {q : Nat} {x : Px} {ws : List Wr} {k : Nat} (h : useP q (x.keepX ws) k) : useP q x k := by
 rcases h with h | h | h | h
 · exact .inl h
 · exact .inr (.inl h)
 · refine .inr (.inr (.inl ?_))
   rcases h with h | ⟨f, hf, h⟩
   · exact .inl h
   · obtain ⟨g, hg, rfl⟩ := List.mem_map.1 hf
     exact .inr ⟨g, hg, h⟩
 · exact .inr (.inr (.inr h))
def loseFi (ns : List Nat) (f : Fi) : Fi := if f.num ∈ ns then { f with now := f.safe } else f
def Px.loseX (x : Px) (ns : List Nat) : Px := { x with fs := x.fs.map (loseFi ns) }
theorem loseFi_num (ns : List Nat) (f : Fi) : (loseFi ns f).num = f.num := by unfold loseFi; split <;> rfl
theorem loseFi_blk (ns : List Nat) (f : Fi) : (loseFi ns f).blk = f.blk := by unfold loseFi; split <;> rfl
theorem loseFi_rows (ns : List Nat) (f : Fi) (k : Nat) : FiRows (loseFi ns f) k ↔ FiRows f k := by unfold loseFi; split <;> exact Iff.rfl
theorem loseX_nil (x : Px) : x.loseX [] = x := by
 unfold Px.loseX
 have : x.fs.map (loseFi []) = x.fs := by
  have h : loseFi [] = id := by funext f; simp [loseFi]
  rw [h, List.map_id]
 rw [this]
theorem loseX_step {x : Px} (hnd : (x.fs.map fun f => f.num).Nodup) (ns : List Nat) (f : Fi) (hf : f ∈ x.fs) : x.loseX (ns ++ [f.num]) = (x.loseX ns).setF { loseFi ns f with now := (loseFi ns f).safe } := by
 unfold Px.loseX Px.setF
 have : x.fs.map (loseFi (ns ++ [f.num])) = (x.fs.map (loseFi ns)).map fun g => if g.num = (loseFi ns f).num then { loseFi ns f with now := (loseFi ns f).safe } else g := by
  rw [List.map_map]
  refine List.map_congr_left fun g hg => ?_
  simp only [Function.comp_apply, loseFi_num]
  by_cases h : g.num = f.num
  · have e : g = f := num_inj hnd hg hf h
    rw [e, if_pos rfl]
    unfold loseFi
    rw [if_pos (by simp)]
    split <;> rfl
  · rw [if_neg h]
    unfold loseFi
    by_cases h2 : g.num ∈ ns
    · rw [if_pos h2, if_pos (by simp [h2])]
    · rw [if_neg h2, if_neg (by simp [h2, h])]
 rw [this]
theorem loseX_all {x : Px} {ns : List Nat} (h : ∀ f ∈ x.fs, f.num ∈ ns) : (x.loseX ns).s.files = x.s.files.map fun e => (e.1, (e.2.2, e.2.2)) := by
 unfold Px.loseX Px.s
 simp only [List.map_map]
 refine List.map_congr_left fun f hf => ?_
 simp only [Function.comp_apply]
 unfold loseFi
 rw [if_pos (h f hf)]
 rfl
theorem loseX_mut {q : Nat} {x : Px} {ns : List Nat} {k : Nat} (h : mutP q (x.loseX ns) k) : mutP q x k := by
 rcases h with h | h | h | h
 · exact .inl h
 · exact .inr (.inl h)
 · refine .inr (.inr (.inl ?_))
   rcases h with h | ⟨f, hf, h⟩
   · exact .inl h
   · obtain ⟨g, hg, rfl⟩ := List.mem_map.1 hf
     rw [loseFi_blk, loseFi_rows] at h
     exact .inr ⟨g, hg, h⟩
 · exact .inr (.inr (.inr h))
theorem loseX_use {q : Nat} {x : Px} {ns : List Nat} {k : Nat} (h : useP q (x.loseX ns) k) : useP q x k := by
 rcases h with h | h | h | h
 · exact .inl h
 · exact .inr (.inl h)
 · refine .inr (.inr (.inl ?_))
   rcases h with h | ⟨f, hf, h⟩
   · exact .inl h
   · obtain ⟨g, hg, rfl⟩ := List.mem_map.1 hf
     rw [loseFi_blk, loseFi_rows] at h
     exact .inr ⟨g, hg, h⟩
 · exact .inr (.inr (.inr h))
end Go.Proofs.YtoppcpiheaedlaaGreatDoor
end
section
/-
  The program's disk: the power fails.
-/
namespace Go.Proofs.YtoppcpiheaedlaaGreatDoor
open Go.RowKit Go.Maps Go.MapKept
set_option linter.unusedVariables false
set_option linter.unusedSimpArgs false
attribute [local go_sem] sv nv mv pv
theorem rangeAt_row {W : World} {b : Nat} {cs : Array Value} {T : TypeId} {fr : Nat × Nat} (h : W.heap[b]? = some (.cells cs T fr)) (o : Nat) (l : List Value) (hl : ∀ j u, l[j]? = some u → cs[o + j]? = some u) : W.rangeAt b o l := fun j u hu => by
 rw [cell_of_row W b _ _ _ _ h]
 exact hl j u hu
set_option maxRecDepth 100000 in
set_option maxHeartbeats 8000000 in
theorem pCrash {w : World} {q : Nat} {x : Px} (h : PD w q x) (n : Int) (hnI : -9223372036854775808 ≤ n ∧ n ≤ 9223372036854775807) (v : Value) (keep : List Int) (hv : IntS w v keep) (hout : Outside (mutP q x) v) (hkl : keep.length ≤ 1000000000)
 (hkr : ∀ z ∈ keep, -9223372036854775808 ≤ z ∧ z ≤ 9223372036854775807) :
 Calls Tryz.prog 22 #[.pointer (some ⟨q, 0, none⟩), .int .i64 n, v] w fun e w' => e = .returned (.tuple #[]) ∧ ∃ x', PD w' q x' ∧ x'.s = crashP x.s n keep ∧ TurnP q x x' w w' := by
 have hmx : Tryz.prog.follows .mixedOrders = true := by kernel_rfl
 have H := Lib.hid h
 have hpos : 0 < x.dirs.length := List.length_pos_iff.2 h.wf.ne
 obtain ⟨m, Hm⟩ : ∃ m, Hid (x.dirs.length = m + 1) := ⟨x.dirs.length - 1, by show _ = _; omega⟩
 have hmI : (m : Int) ≤ 1000000 := by have := h.wf.small.1; rw [Hm.out] at this; omega
 obtain ⟨mx, hmx0⟩ : ∃ mx : Nat, n.toNat = mx := ⟨_, rfl⟩
 have hmxv : (if (0 : Int) > n then 0 else n) = (mx : Int) := by split <;> omega
 obtain ⟨ix, hix⟩ : ∃ ix : Nat, min mx m = ix := ⟨_, rfl⟩
 have hixv : (if (m : Int) < (mx : Int) then (m : Int) else (mx : Int)) = (ix : Int) := by split <;> omega
 have hixm : ix < x.dirs.length := by rw [Hm.out]; omega
 obtain ⟨d, hd⟩ : ∃ d, x.dirs[ix]? = some d := ⟨_, List.getElem?_eq_getElem hixm⟩
 have Hdm : Hid (d ∈ x.dirs) := List.mem_of_getElem? hd
 have Hcr : Hid (crashP x.s n keep = { settleP x.s d.2 with files := ((keptF keep x.pend 0).foldl keepP (settleP x.s d.2).files).map (fun e => (e.1, (e.2.2, e.2.2))), pend := [], first := 0, code := 0 }) := by
  show _ = _
  have hw : whichP x.s n = ix := by
   unfold whichP
   rw [show x.s.dirs.length = x.dirs.length by simp [Px.s], Hm.out, hmx0]
   omega
  have hg : x.s.dirs.getD ix [] = d.2 := by
   simp [Px.s, List.getD, List.getElem?_map, hd]
  unfold crashP
  rw [hw, hg]
  rfl
 obtain ⟨g1, cap1, e1⟩ := own_some h.dirs.row hpos
 have c1 := h.cell 1 x.vd rfl
 have hrow := h.dirs.row
 rw [e1] at c1 hrow
 have ci := own_cell hrow ix (mv d.1) (by rw [List.getElem?_map, hd]; rfl)
 rw [Hm.out] at c1
 obtain ⟨db, Hdb⟩ : ∃ b, Hid (d.1 = b) := ⟨_, rfl⟩
 rw [Hdb.out] at ci
 unfold mv at ci
 have hixI : (ix : Int) < (m : Int) + 1 := by omega
 have HV := Lib.hid hv
 have HO := Lib.hid hout
 have HKL := Lib.hid hkl
 have HKR := Lib.hid hkr
 have HS := Lib.hid (fun X (hX : Grows w X) => pSettle (h.grows hX) d Hdm.out)
 rw [Hdb.out] at HS
 obtain ⟨av, cv, rfl⟩ : ∃ a c, v = .slice a keep.length c := by obtain ⟨a, c, e, _⟩ := hv; exact ⟨a, c, e⟩
 obtain ⟨kl, Hkl⟩ : ∃ k, Hid (keep.length = k) := ⟨_, rfl⟩
 rw [Hkl.out] at HV HO ⊢
 clear h hpos hmx0 hix hixm hd e1 hrow hv hout hkl hkr
 have Hc1 := Lib.hid c1
 go_enter Tryz.func22, Tryz.ntmps22
 go_wp2
 have cXs := fun X (hX : Grows _ X) => And.intro (Grows.cell' hX c1) (Grows.cell' hX ci)
 refine specs_last 16
  #[[], [], [1], [1, 2], [1, 2, 3], [], [5], [], [7], [7, 8], [7, 8, 9], [7, 8, 9, 10], [7, 8, 9, 10, 11], [5, 6, 7, 8, 9, 10, 11, 12], [1, 2, 3, 4, 5, 6, 7, 8, 9, 10, 11, 12, 13], [1, 2, 3, 4, 5, 6, 7, 8, 9, 10, 11, 12, 13, 14], [0, 1, 2, 3, 4, 5, 6, 7, 8, 9, 10, 11, 12, 13, 14, 15]] #[[0], [0], [], [], [], [1], [], [0], [], [], [], [], [], [], [], [], []] #[true, true, true, true, true, true, true, true, true, true, true, true, true, true, true, true, true]
  ((.val ?vs0) :: (.val ?vs1) :: (.val ?vs2) :: (.val ?vs3) :: (.val ?vs4) :: (.val ?vs5) :: (.val (.int .i64 (mx : Int))) :: (.val ?vs7) :: (.val ?vs8) :: (.val ?vs9) :: (.val ?vs10) :: (.val ?vs11) :: (.val (.int .i64 (m : Int))) :: (.val (.int .i64 (ix : Int))) :: (.val ?vs14) :: (.val ?vs15) :: (.any) :: []).toArray
  hmx ?chks ?grds rfl ?stps ?rsts
 case chks => rfl
 case stps =>
  refine ⟨?_, ?_, ?_, ?_, ?_, ?_, ?_, ?_, ?_, ?_, ?_, ?_, ?_, ?_, ?_, ?_, ?_, trivial⟩
  · refine stepO 0 ?vs0 rfl (fun _ _ => rfl) rfl (fun _ => rfl) (by decide) ?_; show (.pointer (some ⟨q, 0, none⟩) : Value) = _; rfl
  · refine stepO 0 ?vs1 rfl (fun _ _ => rfl) rfl (fun _ => rfl) (by decide) ?_; show (.pointer (some ⟨q, 0, none⟩) : Value) = _; rfl
  · refine stepR (o := ⟨_, .nilCheck (.tmp 15), _, _, _, _⟩) ?vs2 rfl rfl (fun _ => rfl) fun ρ X hc hf hgl hX hp ho => ?_; have k15 : ρ (.tmp 15) = ?vs1 := hp 1 (by decide); clear hp ho hX; go_simp; (all_goals rfl)
  · refine stepR (o := ⟨_, .fieldAddr 100 (.tmp 16) 1, _, _, _, _⟩) ?vs3 rfl rfl (fun _ => rfl) fun ρ X hc hf hgl hX hp ho => ?_; have k16 : ρ (.tmp 16) = ?vs2 := hp 2 (by decide); clear hp ho hX; go_simp; (all_goals rfl)
  · refine stepR (o := ⟨_, .load 94 (.tmp 17), _, _, _, _⟩) ?vs4 rfl rfl (fun _ => rfl) fun ρ X hc hf hgl hX hp ho => ?_; have k17 : ρ (.tmp 17) = ?vs3 := hp 3 (by decide); have cX := cXs X hX; clear hp ho hX; go_simp; (all_goals rfl)
  · refine stepO 1 ?vs5 rfl (fun _ _ => rfl) rfl (fun _ => rfl) (by decide) ?_; show (.int .i64 n : Value) = _; rfl
  · refine step_intro rfl rfl fun ρ X hc hf hgl hX hp ho => ?_
    change StepOk _ ⟨_, .call { callee := .builtin .max, args := #[.tmp 19, .const (.int .i64 0)], argTypes := #[3, 3] }, _, _, _, _⟩ _ _ _
    have k19 : ρ (.tmp 19) = ?vs5 := hp 5 (by decide)
    clear hp ho
    refine StepOk.of_run (v := .int .i64 (mx : Int)) (w' := X) ?_ ⟨rfl, Below.refl _ _⟩
    simp only [execOp, resolve, invoke, builtin, Builtin.max_, List.map_toArray, List.map_cons, List.map_nil, hc, k19, List.foldlM_cons, List.foldlM_nil, Builtin.max2, hmxv, Sem.run_bind, Sem.run_pure, Result.andThen_ok]
  · refine stepO 0 ?vs7 rfl (fun _ _ => rfl) rfl (fun _ => rfl) (by decide) ?_; show (.pointer (some ⟨q, 0, none⟩) : Value) = _; rfl
  · refine stepR (o := ⟨_, .nilCheck (.tmp 21), _, _, _, _⟩) ?vs8 rfl rfl (fun _ => rfl) fun ρ X hc hf hgl hX hp ho => ?_; have k21 : ρ (.tmp 21) = ?vs7 := hp 7 (by decide); clear hp ho hX; go_simp; (all_goals rfl)
  · refine stepR (o := ⟨_, .fieldAddr 100 (.tmp 22) 1, _, _, _, _⟩) ?vs9 rfl rfl (fun _ => rfl) fun ρ X hc hf hgl hX hp ho => ?_; have k22 : ρ (.tmp 22) = ?vs8 := hp 8 (by decide); clear hp ho hX; go_simp; (all_goals rfl)
  · refine stepR (o := ⟨_, .load 94 (.tmp 23), _, _, _, _⟩) ?vs10 rfl rfl (fun _ => rfl) fun ρ X hc hf hgl hX hp ho => ?_; have k23 : ρ (.tmp 23) = ?vs9 := hp 9 (by decide); have cX := cXs X hX; clear hp ho hX; go_simp; (all_goals rfl)
  · refine stepR (o := ⟨_, .call { callee := .builtin .len, args := #[.tmp 24], argTypes := #[94] }, _, _, _, _⟩) ?vs11 rfl rfl (fun _ => rfl) fun ρ X hc hf hgl hX hp ho => ?_; have k24 : ρ (.tmp 24) = ?vs10 := hp 10 (by decide); clear hp ho hX; go_simp; (all_goals try go_bits); (all_goals try simp only [IntWalk.iteOmega]); (all_goals try go_bits); (all_goals rfl)
  · refine step_intro rfl rfl fun ρ X hc hf hgl hX hp ho => ?_
    change StepOk _ ⟨_, .binOp .sub 3 (.tmp 25) (.const (.int .i64 1)) 3, _, _, _, _⟩ _ _ _
    have k25 : ρ (.tmp 25) = ?vs11 := hp 11 (by decide)
    clear hp ho
    refine StepOk.of_run (v := .int .i64 (m : Int)) (w' := X) ?_ ⟨rfl, Below.refl _ _⟩
    clear hX
    go_simp
    all_goals try go_bits
    all_goals try rfl
    all_goals try trivial
  · refine step_intro rfl rfl fun ρ X hc hf hgl hX hp ho => ?_
    change StepOk _ ⟨_, .call { callee := .builtin .min, args := #[.tmp 20, .tmp 26], argTypes := #[3, 3] }, _, _, _, _⟩ _ _ _
    have k20 : ρ (.tmp 20) = (.int .i64 (mx : Int)) := hp 6 (by decide)
    have k26 : ρ (.tmp 26) = (.int .i64 (m : Int)) := hp 12 (by decide)
    clear hp ho
    refine StepOk.of_run (v := .int .i64 (ix : Int)) (w' := X) ?_ ⟨rfl, Below.refl _ _⟩
    simp only [execOp, resolve, invoke, builtin, Builtin.min_, List.map_toArray, List.map_cons, List.map_nil, k20, k26, List.foldlM_cons, List.foldlM_nil, Builtin.min2, hixv, Sem.run_bind, Sem.run_pure, Result.andThen_ok]
  · refine stepR (o := ⟨_, .indexAddr 94 (.tmp 18) (.tmp 27), _, _, _, _⟩) ?vs14 rfl rfl (fun _ => rfl) fun ρ X hc hf hgl hX hp ho => ?_; have k18 : ρ (.tmp 18) = ?vs4 := hp 4 (by decide); have k27 : ρ (.tmp 27) = (.int .i64 (ix : Int)) := hp 13 (by decide); clear hp ho hX; go_simp; (all_goals try go_bits); (all_goals try simp only [IntWalk.iteOmega]); (all_goals try go_bits); (all_goals rfl)
  · refine stepR (o := ⟨_, .load 103 (.tmp 28), _, _, _, _⟩) ?vs15 rfl rfl (fun _ => rfl) fun ρ X hc hf hgl hX hp ho => ?_; have k28 : ρ (.tmp 28) = ?vs14 := hp 14 (by decide); have cX := cXs X hX; clear hp ho hX; go_simp; (all_goals rfl)
  · exact last_intro rfl
 case grds => rfl
 case rsts =>
  intro a0 X hb
  obtain ⟨x30, hx30⟩ : ∃ x, a0.tmps.getD 30 undef = x := ⟨_, rfl⟩
  have hfr := hb.frame ((14, ?vs0) :: (15, ?vs1) :: (16, ?vs2) :: (17, ?vs3) :: (18, ?vs4) :: (19, ?vs5) :: (20, (.int .i64 (mx : Int))) :: (21, ?vs7) :: (22, ?vs8) :: (23, ?vs9) :: (24, ?vs10) :: (25, ?vs11) :: (26, (.int .i64 (m : Int))) :: (27, (.int .i64 (ix : Int))) :: (28, ?vs14) :: (29, ?vs15) :: (30, x30) :: []) rfl ⟨hb.done' 0 14 rfl rfl, hb.done' 1 15 rfl rfl, hb.done' 2 16 rfl rfl, hb.done' 3 17 rfl rfl, hb.done' 4 18 rfl rfl, hb.done' 5 19 rfl rfl, hb.done' 6 20 rfl rfl, hb.done' 7 21 rfl rfl, hb.done' 8 22 rfl rfl, hb.done' 9 23 rfl rfl, hb.done' 10 24 rfl rfl, hb.done' 11 25 rfl rfl, hb.done' 12 26 rfl rfl, hb.done' 13 27 rfl rfl, hb.done' 14 28 rfl rfl, hb.done' 15 29 rfl rfl, hx30, trivial⟩
  simp only [updL, ↓reduceIte, Nat.reduceEqDiff, Nat.reduceAdd, Nat.zero_add] at hfr
  have HX := Lib.hid hb.ext
  clear hb cXs
  subst hfr
  change StepOk _ { dst := _, op := Op.call { callee := Callee.value (Operand.func 69), args := #[Operand.tmp 14, Operand.tmp 29], argTypes := #[25, 103] }, type := _, pos := _, after := _, guard := _ } _ _ _
  refine StepOk.of_call (f := 69) (args := #[.pointer (some ⟨q, 0, none⟩), .map (some db)]) (w' := X) ?_ (HS.out X HX.out) ?_
  · simp [go_sem, execOp]
  rintro e w2 ⟨rfl, v2, fm, hP2, hT2⟩
  refine ⟨_, rfl, ?_⟩
  have HT2 := Lib.hid ((TurnP.ofGrows (x := x) HX.out).trans hT2)
  have HP2 := Lib.hid hP2
  have c4 := hP2.cell 4 x.vp rfl
  obtain ⟨ap, cp, ep⟩ := own_form (show w2.ownsRow 0 108 66 x.vp x.pend.length (x.pend.flatMap wpC) from hP2.pend)
  obtain ⟨np, Hnp⟩ : ∃ y, Hid (x.pend.length = y) := ⟨_, rfl⟩
  rw [Hnp.out] at ep
  rw [ep] at c4
  have Ep := Lib.hid ep
  have hnp : np ≤ 1000000 := by rw [← Hnp.out]; exact H.out.wf.small.2.2.1
  have hnpI : (np : Int) ≤ 1000000 := by omega
  have HMk := Lib.hid (pMarked np _ keep w2 hnp (HV.out.but HT2.out.but HO.out) HKL.out HKR.out)
  clear hP2 hT2 ep HX HS HV HO HKL HKR
  simp only [Act.put, List.setIfInBounds_toArray, List.set_cons_succ, List.set_cons_zero]
  go_wp2_with fail
  refine HMk.out.mono ?_
  rintro e w3 ⟨g, rfl, hg, ho, hG⟩
  have HO3 := Lib.hid ho
  have Hg := Lib.hid hg
  have HP3 := Lib.hid (HP2.out.grows hG)
  have HG3 := Lib.hid hG
  have Hnd : Hid (((x.settled v2 d fm).fs.map fun f => f.num).Nodup) := fs_nodup HP3.out
  clear ho hg hG HMk
  go_wp2
  go_loopw [6, 7, 8, 9, 39] (fun _ _ _ _ t39 wr => ∃ i : Nat, i ≤ np ∧ t39 = .int .i64 i ∧ PD wr q ((x.settled v2 d fm).keepX (keptF keep (x.pend.take i) 0)) ∧ But (mutP q (x.settled v2 d fm)) w3 wr)
   (fun _ _ _ _ t39 _ => np - (intOf t39).toNat)
  case atStart => exact ⟨0, by omega, rfl, by rw [List.take_zero]; show PD _ _ (Px.keepX _ []); rw [keepX_nil]; exact HP3.out, But.refl' _ _⟩
  case round =>
   obtain ⟨i, hin, rfl, hP, hB⟩ := hrel
   obtain ⟨ws, Hws⟩ : ∃ y, Hid (keptF keep (x.pend.take i) 0 = y) := ⟨_, rfl⟩
   rw [Hws.out] at hP
   have HP4 := Lib.hid hP
   have HB4 := Lib.hid hB
   clear hP hB
   by_cases hlt : i < np
   · have hltI : (i : Int) < (np : Int) := by omega
     have hbi : ¬ ((np : Int) ≤ (i : Int)) := by omega
     have hil : i < x.pend.length := by rw [Hnp.out]; exact hlt
     obtain ⟨c, hcc⟩ : ∃ c, x.pend[i] = c := ⟨_, rfl⟩
     have hcm : c ∈ x.pend := by rw [← hcc]; exact List.getElem_mem hil
     have Hc64 : Hid (c.p.length = 64) := (H.out.wf.pend c hcm).1
     have HokC : Hid (okI c.id) := okI_small (Nat.le_trans (H.out.wf.pend c hcm).2.1 H.out.wf.small.2.2.2)
     have HcN : Hid (∀ f ∈ x.fs, f.num = c.id → c.n < f.now.length) := (H.out.wf.pend c hcm).2.2.2
     have Hstep : Hid (keptF keep (x.pend.take (i + 1)) 0 = ws ++ (if (i : Int) ∈ keep then [c] else [])) := by
      show _ = _
      rw [List.take_succ_eq_append_getElem hil, keptF_snoc, Hws.out, hcc, List.length_take, Nat.zero_add, Nat.min_eq_left (by omega)]
     obtain ⟨bk, Hbk⟩ : ∃ b, Hid (decide ((i : Int) ∈ keep) = b) := ⟨_, rfl⟩
     have cm : wr.cell? ⟨g, i, none⟩ = some (.bool bk) := by
      have ho := own_but HO3.out HB4.out (fun j hj hn => by have h1 : g = j := (by simpa [Value.ownBlock] using hj); have := HP2.out.ltU (mut_use hn); have := Hg.out; omega)
      have := ho.cellAt (g := g) i (by omega)
      rw [this, List.getElem?_map, marksF_get _ _ _ hlt, Hbk.out]
      rfl
     have c4 := HP4.out.cell 4 x.vp rfl
     rw [Ep.out] at c4
     have hpd : wr.ownsRow 0 108 66 x.vp x.pend.length (x.pend.flatMap wpC) := HP4.out.pend
     rw [Ep.out, Hnp.out] at hpd
     obtain ⟨gp, cp', e4⟩ := own_some hpd (by omega)
     simp only [Value.slice.injEq] at e4
     obtain ⟨rfl, -, rfl⟩ := e4
     have hat : wr.rangeAt gp (i * 66) (wpC c) := fun j u hu => by
      have hj : j < 66 := by have := (List.getElem?_eq_some_iff.1 hu).1; rwa [wpC_len c Hc64.out] at this
      refine own_cell hpd (i * 66 + j) _ ?_
      rw [wpC_get (fun w hw => (H.out.wf.pend w hw).1) i hil j hj, hcc]
      exact hu
     have Hat := Lib.hid hat
     obtain ⟨iw, zw, hiw, hzw, hsw, -, hzsw⟩ := infoWr_parts
     obtain ⟨zc, Hzc⟩ : ∃ y, Hid (zw.cells = y) := ⟨_, rfl⟩
     have Hzi : Hid (((Tryz.prog.info? 108).bind (fun i => i.zero)).map (fun z => z.cells) = some zc) := by show _ = _; rw [hiw]; simp [hzw, Hzc.out]
     have Hzn : Hid (zc.size = 66) := by show _ = _; rw [← Hzc.out]; exact hzsw
     obtain ⟨C, HC⟩ : ∃ C, Hid ((wpC c).toArray = C) := ⟨_, rfl⟩
     have HCn : Hid (C.size = 66) := by show _ = _; rw [← HC.out, List.size_toArray, wpC_len c Hc64.out]
     obtain ⟨nb, Hnb⟩ : ∃ n, Hid (wr.heap.size = n) := ⟨_, rfl⟩
     have hnew := heap_alloc_new wr (.cells zc 108)
     rw [Hnb.out] at hnew
     have Hnew := Lib.hid hnew
     have hG5 : Grows wr ((wr.alloc (.cells zc 108)).setRow nb C) := by
      refine ⟨rfl, rfl, rfl, by simp, fun k hk => ?_⟩
      rw [setRow_other _ nb k C (by have := Hnb.out; omega)]
      exact heap_alloc_old wr _ hk
     have hrow5 : ((wr.alloc (.cells zc 108)).setRow nb C).heap[nb]? = some (.cells C 108 (0, 0)) := setRow_heap _ nb zc C _ _ hnew
     obtain ⟨w5, Hw5⟩ : ∃ y, Hid ((wr.alloc (.cells zc 108)).setRow nb C = y) := ⟨_, rfl⟩
     have Hlt := Lib.hid hlt
     clear hcm hlt hil hcc hin hpd hat hiw hzw hsw hzsw hnew
     go_wp2_with (first
      | (refine wpList_load_mid rfl 108 _ rfl gp (i * 66) rfl (wpC c) _ Hat.out Tryz.underlying108 rfl (by rw [sizeWr, wpC_len c Hc64.out]) ?_; rw [HC.out])
      | (refine wpList_allocT rfl 108 rfl zc Hzi.out ?_; rw [Hnb.out])
      | (refine wpList_storeT rfl 108 _ _ rfl nb 108 zc C rfl rfl Hnew.out (by rw [sizeWr, HCn.out]) (by rw [Hzn.out, HCn.out]) (by rw [← HC.out]; exact all_oneCell_toArray (wpC_one c)) ?_; rw [Hw5.out])
      | fail)
     rw [Hw5.out] at hG5 hrow5
     have HP5 := Lib.hid (HP4.out.grows hG5)
     have HB5 : Hid (But (mutP q (x.settled v2 d fm)) w3 w5) := HB4.out.trans' (But.ofGrows hG5)
     rw [← HC.out] at hrow5
     have c8 : w5.cell? ⟨nb, 0, none⟩ = some (.int .i64 (c.id : Int)) := by rw [cell_of_row _ nb 0 _ _ _ hrow5]; rfl
     have c8n : w5.cell? ⟨nb, 1, none⟩ = some (.int .i64 (c.n : Int)) := by rw [cell_of_row _ nb 1 _ _ _ hrow5]; rfl
     have HSr : Hid (w5.rangeAt nb 2 (secC c.p)) := rangeAt_row hrow5 2 (secC c.p) (fun j u hu => by rw [List.getElem?_toArray, show 2 + j = j + 1 + 1 by omega]; exact hu)
     have c2 := HP5.out.cell 2 (mv fm) rfl
     unfold mv at c2
     have HM5 : Hid (MapA nv pv w5 fm ((x.settled v2 d fm).fs.map Fi.ent)) := by have := HP5.out.files.map; rw [keepX_ent] at this; exact this
     have HOk5 : Hid (∀ p ∈ (x.settled v2 d fm).fs.map Fi.ent, okI p.1) := by have := HP5.out.okF; rw [keepX_ent] at this; exact this
     clear hG5 hrow5
     by_cases hex : ∃ f ∈ (x.settled v2 d fm).fs, f.num = c.id
     · obtain ⟨f0, hf0, hfn⟩ := hex
       have Hf0 := Lib.hid hf0
       have Hfn := Lib.hid hfn
       have Hfk : Hid (keepFi ws f0 ∈ ((x.settled v2 d fm).keepX ws).fs) := List.mem_map.2 ⟨f0, hf0, rfl⟩
       have hlk : findA ((x.settled v2 d fm).fs.map Fi.ent) c.id = some f0.blk := by rw [← hfn]; exact HP3.out.look hf0
       have hfo := HP5.out.files.ok _ Hfk.out
       have Hcn : Hid (c.n < (keepFi ws f0).now.length) := HcN.out f0 (List.mem_filter.1 hf0).1 hfn
       obtain ⟨gs, cs, es⟩ := own_some hfo.safe (by rw [hfo.len]; have := Hcn.out; omega)
       obtain ⟨a7, c7, a8, c8', e7, e8, d0, d1⟩ := fi_form hfo
       rw [hfo.len] at es
       rw [e8] at es
       simp only [Value.slice.injEq] at es
       obtain ⟨rfl, -, rfl⟩ := es
       have Es := Lib.hid e8
       have hle := hfo.le
       obtain ⟨Lf, HLf⟩ : ∃ y, Hid ((keepFi ws f0).now.length = y) := ⟨_, rfl⟩
       rw [HLf.out] at d1 Es hle
       have hcnL : (c.n : Int) < (Lf : Int) := by have := Hcn.out; rw [HLf.out] at this; omega
       have hLfI : (Lf : Int) ≤ 4096 := by omega
       obtain ⟨b, Hb⟩ : ∃ b, Hid (f0.blk = b) := ⟨_, rfl⟩
       rw [Hb.out] at hlk
       rw [show (keepFi ws f0).blk = f0.blk from rfl, Hb.out] at d1
       have Hlk := Lib.hid hlk
       clear hf0 hfn hlk hfo e7 e8 d0 hle
       have cXa := fun X (hX : Grows _ X) => And.intro (Grows.cell' hX c2) (Grows.cell' hX c8)
       refine specs_region
        #[[], [0], [0, 1], [0, 1, 2], [], [4], [0, 1, 2, 3, 4, 5], [0, 1, 2, 3, 4, 5, 6]] #[[0], [], [], [], [8], [], [], []] #[true, true, true, true, true, true, true, true]
        ((.val ?va0) :: (.val ?va1) :: (.val ?va2) :: (.val ?va3) :: (.val ?va4) :: (.val ?va5) :: (.val (.pointer (some ⟨b, 0, none⟩))) :: (.val ?va7) :: []).toArray
        hmx ?chka ?grda ?stpa ?rsta
       case chka => rfl
       case stpa =>
        refine ⟨?_, ?_, ?_, ?_, ?_, ?_, ?_, ?_, trivial⟩
        · refine stepO 0 ?va0 rfl (fun _ _ => rfl) rfl (fun _ => rfl) (by decide) ?_; show (.pointer (some ⟨q, 0, none⟩) : Value) = _; rfl
        · refine stepR (o := ⟨_, .nilCheck (.tmp 51), _, _, _, _⟩) ?va1 rfl rfl (fun _ => rfl) fun ρ X hc hf hgl hX hp ho => ?_; have k51 : ρ (.tmp 51) = ?va0 := hp 0 (by decide); clear hp ho hX; go_simp; (all_goals rfl)
        · refine stepR (o := ⟨_, .fieldAddr 100 (.tmp 52) 2, _, _, _, _⟩) ?va2 rfl rfl (fun _ => rfl) fun ρ X hc hf hgl hX hp ho => ?_; have k52 : ρ (.tmp 52) = ?va1 := hp 1 (by decide); clear hp ho hX; go_simp; (all_goals rfl)
        · refine stepR (o := ⟨_, .load 95 (.tmp 53), _, _, _, _⟩) ?va3 rfl rfl (fun _ => rfl) fun ρ X hc hf hgl hX hp ho => ?_; have k53 : ρ (.tmp 53) = ?va2 := hp 2 (by decide); have cX := cXa X hX; clear hp ho hX; go_simp; (all_goals rfl)
        · refine stepR (o := ⟨_, .fieldAddr 108 (.tmp 8) 0, _, _, _, _⟩) ?va4 rfl rfl (fun _ => rfl) fun ρ X hc hf hgl hX hp ho => ?_; have k8 : ρ (.tmp 8) = .pointer (some ⟨nb, 0, none⟩) := ho 8 (by decide); clear hp ho hX; go_simp; (all_goals rfl)
        · refine stepR (o := ⟨_, .load 3 (.tmp 55), _, _, _, _⟩) ?va5 rfl rfl (fun _ => rfl) fun ρ X hc hf hgl hX hp ho => ?_; have k55 : ρ (.tmp 55) = ?va4 := hp 4 (by decide); have cX := cXa X hX; clear hp ho hX; go_simp; (all_goals rfl)
        · refine step_intro rfl rfl fun ρ X hc hf hgl hX hp ho => ?_
          change StepOk _ ⟨_, .lookup 95 (.tmp 54) (.tmp 56) false, _, _, _, _⟩ _ _ _
          have k54 : ρ (.tmp 54) = ?va3 := hp 3 (by decide)
          have k56 : ρ (.tmp 56) = ?va5 := hp 5 (by decide)
          clear hp ho
          have hlk := (HM5.out.grows hX).look keyF HOk5.out Tryz.underlying95 (zeroFile _) false c.id HokC.out
          rw [Hlk.out] at hlk
          unfold nv at hlk
          try unfold pv at hlk
          simp only [Bool.false_eq_true, if_false] at hlk
          refine StepOk.of_run (v := .pointer (some ⟨b, 0, none⟩)) (w' := X) ?_ ⟨rfl, Below.refl _ _⟩
          simp only [execOp, k54, k56, hlk, Sem.run_bind, Result.andThen_ok, Sem.run_pure]
        · refine stepP 57 6 ((.pointer (some ⟨b, 0, none⟩))) ?va7 rfl (fun _ _ => rfl) rfl (fun _ => rfl) (by decide) rfl (fun _ _ h => h) ?_; rfl
       case grda => rfl
       case rsta =>
        intro a0 X hb
        have hfr := hb.frame ((9, ?va7) :: (51, ?va0) :: (52, ?va1) :: (53, ?va2) :: (54, ?va3) :: (55, ?va4) :: (56, ?va5) :: (57, (.pointer (some ⟨b, 0, none⟩))) :: []) rfl ⟨hb.done' 7 9 rfl rfl, hb.done' 0 51 rfl rfl, hb.done' 1 52 rfl rfl, hb.done' 2 53 rfl rfl, hb.done' 3 54 rfl rfl, hb.done' 4 55 rfl rfl, hb.done' 5 56 rfl rfl, hb.done' 6 57 rfl rfl, trivial⟩
        simp only [updL, ↓reduceIte, Nat.reduceEqDiff, Nat.reduceAdd, Nat.zero_add] at hfr
        have HX := Lib.hid hb.ext
        clear hb cXa
        subst hfr
        have HX6 := HX
        have d1 := HX6.out.cell' d1
        have c8n := HX6.out.cell' c8n
        have HSr : Hid (X.rangeAt nb 2 (secC c.p)) := fun j u hu => HX6.out.cell' (HSr.out j u hu)
        cases bk with
        | true =>
         have Hin := Lib.hid (show (i : Int) ∈ keep by have := Hbk.out; simpa using this)
         go_wp2
         have cXe := fun X (hX : Grows _ X) => And.intro (Grows.cell' hX d1) (Grows.cell' hX c8n)
         refine specs_last 9
          #[[], [0], [0, 1], [0, 1, 2], [], [4], [], [6], [0, 1, 2, 3, 4, 5, 6, 7], [0, 1, 2, 3, 4, 5, 6, 7, 8]] #[[9], [], [], [], [8], [], [8], [], [], []] #[true, true, true, true, true, true, true, true, true, true]
          ((.val ?ve0) :: (.val ?ve1) :: (.val ?ve2) :: (.val ?ve3) :: (.val ?ve4) :: (.val ?ve5) :: (.val ?ve6) :: (.val (.agg (secC c.p).toArray)) :: (.val ?ve8) :: (.any) :: []).toArray
          hmx ?chke ?grde rfl ?stpe ?rste
         case chke => rfl
         case stpe =>
          refine ⟨?_, ?_, ?_, ?_, ?_, ?_, ?_, ?_, ?_, ?_, trivial⟩
          · refine stepO 9 ?ve0 rfl (fun _ _ => rfl) rfl (fun _ => rfl) (by decide) ?_; show (.pointer (some ⟨b, 0, none⟩) : Value) = _; rfl
          · refine stepR (o := ⟨_, .nilCheck (.tmp 63), _, _, _, _⟩) ?ve1 rfl rfl (fun _ => rfl) fun ρ X hc hf hgl hX hp ho => ?_; have k63 : ρ (.tmp 63) = ?ve0 := hp 0 (by decide); clear hp ho hX; go_simp; (all_goals rfl)
          · refine stepR (o := ⟨_, .fieldAddr 113 (.tmp 64) 1, _, _, _, _⟩) ?ve2 rfl rfl (fun _ => rfl) fun ρ X hc hf hgl hX hp ho => ?_; have k64 : ρ (.tmp 64) = ?ve1 := hp 1 (by decide); clear hp ho hX; go_simp; (all_goals rfl)
          · refine stepR (o := ⟨_, .load 110 (.tmp 65), _, _, _, _⟩) ?ve3 rfl rfl (fun _ => rfl) fun ρ X hc hf hgl hX hp ho => ?_; have k65 : ρ (.tmp 65) = ?ve2 := hp 2 (by decide); have cX := cXe X hX; clear hp ho hX; go_simp; (all_goals rfl)
          · refine stepR (o := ⟨_, .fieldAddr 108 (.tmp 8) 1, _, _, _, _⟩) ?ve4 rfl rfl (fun _ => rfl) fun ρ X hc hf hgl hX hp ho => ?_; have k8 : ρ (.tmp 8) = .pointer (some ⟨nb, 0, none⟩) := ho 8 (by decide); clear hp ho hX; go_simp; (all_goals rfl)
          · refine stepR (o := ⟨_, .load 3 (.tmp 67), _, _, _, _⟩) ?ve5 rfl rfl (fun _ => rfl) fun ρ X hc hf hgl hX hp ho => ?_; have k67 : ρ (.tmp 67) = ?ve4 := hp 4 (by decide); have cX := cXe X hX; clear hp ho hX; go_simp; (all_goals rfl)
          · refine stepR (o := ⟨_, .fieldAddr 108 (.tmp 8) 2, _, _, _, _⟩) ?ve6 rfl rfl (fun _ => rfl) fun ρ X hc hf hgl hX hp ho => ?_; have k8 : ρ (.tmp 8) = .pointer (some ⟨nb, 0, none⟩) := ho 8 (by decide); clear hp ho hX; go_simp; (all_goals rfl)
          · refine step_intro rfl rfl fun ρ X hc hf hgl hX hp ho => ?_
            change StepOk _ ⟨_, .load 106 (.tmp 69), _, _, _, _⟩ _ _ _
            have k69 : ρ (.tmp 69) = ?ve6 := hp 6 (by decide)
            refine stepOk_loadPart 106 _ rfl nb 2 (secC c.p) _ k69 (fun j u hu => Grows.cell' hX (HSr.out j u hu)) Tryz.underlying106 rfl (by rw [sizeSec, secC_len1, Hc64.out]) ⟨rfl, Below.refl _ _⟩
          · refine stepR (o := ⟨_, .indexAddr 110 (.tmp 66) (.tmp 68), _, _, _, _⟩) ?ve8 rfl rfl (fun _ => rfl) fun ρ X hc hf hgl hX hp ho => ?_; have k66 : ρ (.tmp 66) = ?ve3 := hp 3 (by decide); have k68 : ρ (.tmp 68) = ?ve5 := hp 5 (by decide); clear hp ho hX; go_simp; (all_goals try go_bits); (all_goals try simp only [IntWalk.iteOmega]); (all_goals try go_bits); (all_goals rfl)
          · exact last_intro rfl
         case grde => rfl
         case rste =>
          intro a0 X hb
          have hfr := hb.frame ((63, ?ve0) :: (64, ?ve1) :: (65, ?ve2) :: (66, ?ve3) :: (67, ?ve4) :: (68, ?ve5) :: (69, ?ve6) :: (70, (.agg (secC c.p).toArray)) :: (71, ?ve8) :: []) rfl ⟨hb.done' 0 63 rfl rfl, hb.done' 1 64 rfl rfl, hb.done' 2 65 rfl rfl, hb.done' 3 66 rfl rfl, hb.done' 4 67 rfl rfl, hb.done' 5 68 rfl rfl, hb.done' 6 69 rfl rfl, hb.done' 7 70 rfl rfl, hb.done' 8 71 rfl rfl, trivial⟩
          simp only [updL, ↓reduceIte, Nat.reduceEqDiff, Nat.reduceAdd, Nat.zero_add] at hfr
          have HX := Lib.hid hb.ext
          clear hb cXe
          subst hfr
          change StepOk _ { dst := _, op := Op.store 106 (Operand.tmp 71) (Operand.tmp 70), type := _, pos := _, after := _, guard := _ } _ _ _
          have hPX := HP5.out.grows (Grows.trans' HX6.out HX.out)
          have hfX := hPX.files.ok _ Hfk.out
          obtain ⟨cur, hgc, hfit, hf9, hB9⟩ := hfX.putS Es.out c.n Hcn.out c.p Hc64.out
          refine stepOk_storePart 106 _ _ rfl gs (c.n * 64) 106 cur (secC c.p) _ rfl rfl rfl hgc hfit (by rw [sizeSec, secC_len1, Hc64.out]) (secC_one c.p) ?_
          have hset := hPX.setF _ { keepFi ws f0 with safe := (keepFi ws f0).safe.set c.n c.p } Hfk.out rfl rfl hB9 (fun j hj => .inr (.inl (.inr (by rw [Es.out, hj]; rfl)))) hf9 (fun j hj => .inl hj) (Nat.le_refl _)
          rw [← keepX_step Hnd.out ws c f0 Hf0.out Hfn.out] at hset
          have HE : Hid (PD (X.setRow gs (ovr cur (c.n * 64) (secC c.p))) q ((x.settled v2 d fm).keepX (keptF keep (x.pend.take (i + 1)) 0))) := by show PD _ _ _; rw [Hstep.out, if_pos Hin.out]; exact hset.1
          have HBE : Hid (But (mutP q (x.settled v2 d fm)) w3 (X.setRow gs (ovr cur (c.n * 64) (secC c.p)))) := But.setRow (HB5.out.trans' (But.ofGrows (Grows.trans' HX6.out HX.out))) _ _ (.inr (.inr (.inl (.inr ⟨f0, Hf0.out, .inr (.inr (by show f0.vs.ownBlock = _; rw [show f0.vs = (keepFi ws f0).vs from rfl, Es.out]; rfl))⟩))))
          clear hPX hfX hgc hfit hf9 hB9 hset
          go_wp2
          go_roundw
          case rel => exact ⟨i + 1, Hlt.out, by simp, HE.out, HBE.out⟩
          case measure => have := Hlt.out; simp [intOf]; omega
        | false =>
         have Hin := Lib.hid (show ¬ (i : Int) ∈ keep by have := Hbk.out; simpa using this)
         have HE : Hid (PD X q ((x.settled v2 d fm).keepX (keptF keep (x.pend.take (i + 1)) 0))) := by show PD _ _ _; rw [Hstep.out, if_neg Hin.out, List.append_nil]; exact HP5.out.grows HX6.out
         have HBE : Hid (But (mutP q (x.settled v2 d fm)) w3 X) := HB5.out.trans' (But.ofGrows HX6.out)
         go_wp2
         go_roundw
         case rel => exact ⟨i + 1, Hlt.out, by simp, HE.out, HBE.out⟩
         case measure => have := Hlt.out; simp [intOf]; omega
     · have Hno : Hid (∀ f ∈ (x.settled v2 d fm).fs, f.num ≠ c.id) := fun f hf e => hex ⟨f, hf, e⟩
       have Hlk : Hid (findA ((x.settled v2 d fm).fs.map Fi.ent) c.id = none) := findA_none fun p hp e => by obtain ⟨f, hf, rfl⟩ := List.mem_map.1 hp; exact hex ⟨f, hf, e⟩
       clear hex
       have cXb := fun X (hX : Grows _ X) => And.intro (Grows.cell' hX c2) (Grows.cell' hX c8)
       refine specs_region
        #[[], [0], [0, 1], [0, 1, 2], [], [4], [0, 1, 2, 3, 4, 5], [0, 1, 2, 3, 4, 5, 6]] #[[0], [], [], [], [8], [], [], []] #[true, true, true, true, true, true, true, true]
        ((.val ?vb0) :: (.val ?vb1) :: (.val ?vb2) :: (.val ?vb3) :: (.val ?vb4) :: (.val ?vb5) :: (.val (.pointer none)) :: (.val ?vb7) :: []).toArray
        hmx ?chkb ?grdb ?stpb ?rstb
       case chkb => rfl
       case stpb =>
        refine ⟨?_, ?_, ?_, ?_, ?_, ?_, ?_, ?_, trivial⟩
        · refine stepO 0 ?vb0 rfl (fun _ _ => rfl) rfl (fun _ => rfl) (by decide) ?_; show (.pointer (some ⟨q, 0, none⟩) : Value) = _; rfl
        · refine stepR (o := ⟨_, .nilCheck (.tmp 51), _, _, _, _⟩) ?vb1 rfl rfl (fun _ => rfl) fun ρ X hc hf hgl hX hp ho => ?_; have k51 : ρ (.tmp 51) = ?vb0 := hp 0 (by decide); clear hp ho hX; go_simp; (all_goals rfl)
        · refine stepR (o := ⟨_, .fieldAddr 100 (.tmp 52) 2, _, _, _, _⟩) ?vb2 rfl rfl (fun _ => rfl) fun ρ X hc hf hgl hX hp ho => ?_; have k52 : ρ (.tmp 52) = ?vb1 := hp 1 (by decide); clear hp ho hX; go_simp; (all_goals rfl)
        · refine stepR (o := ⟨_, .load 95 (.tmp 53), _, _, _, _⟩) ?vb3 rfl rfl (fun _ => rfl) fun ρ X hc hf hgl hX hp ho => ?_; have k53 : ρ (.tmp 53) = ?vb2 := hp 2 (by decide); have cX := cXb X hX; clear hp ho hX; go_simp; (all_goals rfl)
        · refine stepR (o := ⟨_, .fieldAddr 108 (.tmp 8) 0, _, _, _, _⟩) ?vb4 rfl rfl (fun _ => rfl) fun ρ X hc hf hgl hX hp ho => ?_; have k8 : ρ (.tmp 8) = .pointer (some ⟨nb, 0, none⟩) := ho 8 (by decide); clear hp ho hX; go_simp; (all_goals rfl)
        · refine stepR (o := ⟨_, .load 3 (.tmp 55), _, _, _, _⟩) ?vb5 rfl rfl (fun _ => rfl) fun ρ X hc hf hgl hX hp ho => ?_; have k55 : ρ (.tmp 55) = ?vb4 := hp 4 (by decide); have cX := cXb X hX; clear hp ho hX; go_simp; (all_goals rfl)
        · refine step_intro rfl rfl fun ρ X hc hf hgl hX hp ho => ?_
          change StepOk _ ⟨_, .lookup 95 (.tmp 54) (.tmp 56) false, _, _, _, _⟩ _ _ _
          have k54 : ρ (.tmp 54) = ?vb3 := hp 3 (by decide)
          have k56 : ρ (.tmp 56) = ?vb5 := hp 5 (by decide)
          clear hp ho
          have hlk := (HM5.out.grows hX).look keyF HOk5.out Tryz.underlying95 (zeroFile _) false c.id HokC.out
          rw [Hlk.out] at hlk
          unfold nv at hlk
          try unfold pv at hlk
          simp only [Bool.false_eq_true, if_false] at hlk
          refine StepOk.of_run (v := .pointer none) (w' := X) ?_ ⟨rfl, Below.refl _ _⟩
          simp only [execOp, k54, k56, hlk, Sem.run_bind, Result.andThen_ok, Sem.run_pure]
        · refine stepP 57 6 ((.pointer none)) ?vb7 rfl (fun _ _ => rfl) rfl (fun _ => rfl) (by decide) rfl (fun _ _ h => h) ?_; rfl
       case grdb => rfl
       case rstb =>
        intro a0 X hb
        have hfr := hb.frame ((9, ?vb7) :: (51, ?vb0) :: (52, ?vb1) :: (53, ?vb2) :: (54, ?vb3) :: (55, ?vb4) :: (56, ?vb5) :: (57, (.pointer none)) :: []) rfl ⟨hb.done' 7 9 rfl rfl, hb.done' 0 51 rfl rfl, hb.done' 1 52 rfl rfl, hb.done' 2 53 rfl rfl, hb.done' 3 54 rfl rfl, hb.done' 4 55 rfl rfl, hb.done' 5 56 rfl rfl, hb.done' 6 57 rfl rfl, trivial⟩
        simp only [updL, ↓reduceIte, Nat.reduceEqDiff, Nat.reduceAdd, Nat.zero_add] at hfr
        have HX := Lib.hid hb.ext
        clear hb cXb
        subst hfr
        have HX6 := HX
        have HE : Hid (PD X q ((x.settled v2 d fm).keepX (keptF keep (x.pend.take (i + 1)) 0))) := by
         show PD _ _ _
         rw [Hstep.out]
         split
         · rw [keepX_none ws c Hno.out]; exact HP5.out.grows HX6.out
         · rw [List.append_nil]; exact HP5.out.grows HX6.out
        have HBE : Hid (But (mutP q (x.settled v2 d fm)) w3 X) := HB5.out.trans' (But.ofGrows HX6.out)
        cases bk with
        | true =>
         go_wp2
         go_roundw
         case rel => exact ⟨i + 1, Hlt.out, by simp, HE.out, HBE.out⟩
         case measure => have := Hlt.out; simp [intOf]; omega
        | false =>
         go_wp2
         go_roundw
         case rel => exact ⟨i + 1, Hlt.out, by simp, HE.out, HBE.out⟩
         case measure => have := Hlt.out; simp [intOf]; omega
   · have hltI : ¬ (i : Int) < (np : Int) := by omega
     have HwA : Hid (ws = keptF keep x.pend 0) := by show _ = _; rw [← Hws.out, List.take_of_length_le (by rw [Hnp.out]; omega)]
     obtain ⟨wsA, HwsA⟩ : ∃ y, Hid (keptF keep x.pend 0 = y) := ⟨_, rfl⟩
     rw [HwA.out, HwsA.out] at HP4
     have c2 := HP4.out.cell 2 (mv fm) rfl
     unfold mv at c2
     have HM5 := Lib.hid HP4.out.files.map
     have Hnd2 : Hid ((((x.settled v2 d fm).keepX wsA).fs.map fun f => f.num).Nodup) := fs_nodup HP4.out
     clear hin hlt
     go_wp2_with (at_range; refine wpList_rangeA rfl _ 95 109 rfl HM5.out Tryz.underlying95 rfl ?_; intro w6 hr6 hg6 hs6)
     obtain ⟨rr, Hrr⟩ : ∃ r, Hid (wr.heap.size = r) := ⟨_, rfl⟩
     rw [Hrr.out] at hr6 ⊢
     have HR6 : Hid (RangeA nv pv w6 fm rr (((x.settled v2 d fm).keepX wsA).fs.map Fi.ent) (((x.settled v2 d fm).keepX wsA).fs.map Fi.ent)) := hr6
     have HP6 := Lib.hid (HP4.out.grows hg6)
     have HB6 : Hid (But (mutP q (x.settled v2 d fm)) w3 w6) := HB4.out.trans' (But.ofGrows hg6)
     have Hrw : Hid (w3.heap.size ≤ rr) := by show _ ≤ _; rw [← Hrr.out]; exact HB4.out.size
     clear hr6 hg6 hs6 c2
     try go_frame
     go_loopw [11] (fun _ wr => ∃ done todo, (((x.settled v2 d fm).keepX wsA).fs.map Fi.ent).Perm (done ++ todo) ∧ RangeA nv pv wr fm rr (((x.settled v2 d fm).keepX wsA).fs.map Fi.ent) todo ∧ PD wr q (((x.settled v2 d fm).keepX wsA).loseX (done.map (·.1))) ∧ But (mutP q (x.settled v2 d fm)) w3 wr)
      (fun _ wr => wr.rangeLeft fm rr)
     case atStart => exact ⟨[], _, by rw [List.nil_append], HR6.out, by rw [List.map_nil, loseX_nil]; exact HP6.out, HB6.out⟩
     case round =>
      obtain ⟨done, todo, hp7, hr7, hP7, hB7⟩ := hrel
      obtain ⟨ns, Hns⟩ : ∃ y, Hid (done.map (·.1) = y) := ⟨_, rfl⟩
      rw [Hns.out] at hP7
      have Hp7 := Lib.hid hp7
      have Hr7 := Lib.hid hr7
      have HPa := Lib.hid hP7
      have HBa := Lib.hid hB7
      clear hp7 hr7 hP7 hB7
      go_wp2_with (at_next; refine wpList_nextA rfl _ rfl _ todo Hr7.out rfl ?_ ?_)
      · intro h0
        subst h0
        have hall : ∀ f ∈ ((x.settled v2 d fm).keepX wsA).fs, f.num ∈ ns := fun f hf => by
         have := Hp7.out.mem_iff.1 (List.mem_map.2 ⟨f, hf, rfl⟩)
         rw [List.append_nil] at this
         rw [← Hns.out]
         exact List.mem_map.2 ⟨_, this, rfl⟩
        have hfs : ((((x.settled v2 d fm).keepX wsA).loseX ns).s).files = ((keptF keep x.pend 0).foldl keepP (settleP x.s d.2).files).map (fun e => (e.1, (e.2.2, e.2.2))) := by
         rw [loseX_all hall, keepX_s, settled_s, HwsA.out]
        have hq4 := HPa.out.setP [] (.slice none 0 0) (But.refl' _ wr) (World.ownsRow_nil _ 0 _ 66) (.inr rfl) (fun c hc => by simp at hc) (Nat.zero_le _)
        have hq5 := hq4.1.setArm (w' := (wr.setCell ⟨q, 4, none⟩ (.slice none 0 0)).setRow q (ovr (pdRow ((((x.settled v2 d fm).keepX wsA).loseX ns).setP (.slice none 0 0) [])) 5 [.int .i64 0, .int .i64 0])) 0 0 (by omega) (setRow_cells hq4.1.row _) (But.setRow (But.refl' _ _) _ _ rfl)
        have Hrow4 := Lib.hid hq4.1.row
        have HF := Lib.hid hq5.1
        have k4 := HPa.out.cell 4 x.vp rfl
        have u4 := HPa.out.frozen 4
        rw [Ep.out] at k4
        have hsz : (Tryz.prog.info? 98).map (·.size) = some 2 := by kernel_rfl
        have HTe : Hid (TurnP q x (((((x.settled v2 d fm).keepX wsA).loseX ns).setP (.slice none 0 0) []).arm 0 0) w ((wr.setCell ⟨q, 4, none⟩ (.slice none 0 0)).setRow q (ovr (pdRow ((((x.settled v2 d fm).keepX wsA).loseX ns).setP (.slice none 0 0) [])) 5 [.int .i64 0, .int .i64 0]))) := by
         refine HT2.out.step (O := mutP q (x.settled v2 d fm)) (But.setRow (But.setCell ((But.ofGrows HG3.out).trans' HBa.out) _ _ (.inl rfl)) _ _ (.inl rfl)) (fun k hk => .inl hk) (fun k hk => .inl ?_) (fun k hk => .inl ?_)
         · rcases hk with hk | hk | hk | hk
           · exact .inl hk
           · exact .inr (.inl hk)
           · exact keepX_mut (loseX_mut (.inr (.inr (.inl hk))))
           · exact absurd hk (by show ¬ (Value.ownBlock (.slice none 0 0) = some k); simp [Value.ownBlock])
         · rcases hk with hk | hk | hk | hk
           · exact .inl hk
           · exact .inr (.inl hk)
           · exact keepX_use (loseX_use (.inr (.inr (.inl hk))))
           · exact absurd hk (by show ¬ (Value.ownBlock (.slice none 0 0) = some k); simp [Value.ownBlock])
        have Hse : Hid ((((((x.settled v2 d fm).keepX wsA).loseX ns).setP (.slice none 0 0) []).arm 0 0).s = crashP x.s n keep) := by
         show _ = _
         rw [Hcr.out, ← hfs]
         rfl
        clear hall hfs hq4 hq5
        go_wp2_with (first | (refine wpList_storePart rfl 98 _ _ rfl q 5 _ _ [.int .i64 0, .int .i64 0] #[.int .i64 0, .int .i64 0] rfl rfl rfl Hrow4.out (by simp [pdRow]) hsz (by simp [Value.oneCell']) ?_) | go_in)
        go_end0
        exact ⟨rfl, _, HF.out, Hse.out, HTe.out⟩
      · intro p1 p2 todo' w7 hp2 hr2 hg2 hs2 hen
        have Hp2 := Lib.hid hp2
        have HR7 : Hid (RangeA nv pv w7 fm rr (((x.settled v2 d fm).keepX wsA).fs.map Fi.ent) todo') := hr2
        have HRm : Hid (wr.rangeLeft fm rr = todo.length) := Hr7.out.left
        have hmem : (p1, p2) ∈ ((x.settled v2 d fm).keepX wsA).fs.map Fi.ent := Hp7.out.mem_iff.2 (List.mem_append.2 (.inr (hp2.mem_iff.2 (by simp))))
        obtain ⟨f0, hf0, hfe⟩ := List.mem_map.1 hmem
        simp only [Fi.ent, Prod.mk.injEq] at hfe
        have Hf0 := Lib.hid hf0
        have Hfn0 := Lib.hid hfe.1
        have Hfl : Hid (loseFi ns f0 ∈ (((x.settled v2 d fm).keepX wsA).loseX ns).fs) := List.mem_map.2 ⟨f0, hf0, rfl⟩
        obtain ⟨f00, hf00, hfk0⟩ := List.mem_map.1 hf0
        have Hf00 := Lib.hid hf00
        have Hvn0 : Hid ((loseFi ns f0).vn = f00.vn) := by show _ = _; rw [← hfk0]; unfold loseFi; split <;> rfl
        have hrb : But (fun k => k = rr) wr w7 := But.one hg2
        have HP7 := Lib.hid (HPa.out.but hrb (fun k hk hu => by have := HP3.out.ltU (keepX_use (loseX_use hu)); have := Hrw.out; omega))
        have HB7 : Hid (But (mutP q (x.settled v2 d fm)) w3 w7) := ⟨hg2.os.trans HBa.out.os, hg2.tape.trans HBa.out.tape, hg2.output.trans HBa.out.output, Nat.le_trans HBa.out.size hg2.size, fun k hk hn => (hg2.block k (Nat.lt_of_lt_of_le hk HBa.out.size) (fun e => by have := Option.some.inj e; have := Hrw.out; omega)).trans (HBa.out.block k hk hn)⟩
        have hfo := HP7.out.files.ok _ Hfl.out
        obtain ⟨an, cn, asv, cs, e7, e8, d0, d1⟩ := fi_form hfo
        have hb0 : (loseFi ns f0).blk = p2 := by rw [loseFi_blk]; exact hfe.2
        rw [hb0] at d0 d1
        obtain ⟨Ln, HLn⟩ : ∃ y, Hid ((loseFi ns f0).now.length = y) := ⟨_, rfl⟩
        rw [HLn.out] at e7 e8 d0 d1
        have E7 := Lib.hid e7
        have E8 := Lib.hid e8
        clear hp2 hr2 hg2 hs2 hmem hf0 hfe hf00 hfk0 hrb hfo hb0 e7 e8
        go_wp2
        have cXg := fun X (hX : Grows _ X) => And.intro (Grows.cell' hX d0) (Grows.cell' hX d1)
        refine specs_last 8
         #[[], [0], [0, 1], [0, 1, 2], [], [4], [4, 5], [4, 5, 6], [0, 1, 2, 3, 4, 5, 6, 7]] #[[11], [], [], [], [11], [], [], [], []] #[true, true, true, true, true, true, true, true, true]
         ((.val ?vg0) :: (.val ?vg1) :: (.val ?vg2) :: (.val ?vg3) :: (.val ?vg4) :: (.val ?vg5) :: (.val ?vg6) :: (.val ?vg7) :: (.any) :: []).toArray
         hmx ?chkg ?grdg rfl ?stpg ?rstg
        case chkg => rfl
        case stpg =>
         refine ⟨?_, ?_, ?_, ?_, ?_, ?_, ?_, ?_, ?_, trivial⟩
         · refine stepO 11 ?vg0 rfl (fun _ _ => rfl) rfl (fun _ => rfl) (by decide) ?_; show (.pointer (some ⟨p2, 0, none⟩) : Value) = _; rfl
         · refine stepR (o := ⟨_, .nilCheck (.tmp 82), _, _, _, _⟩) ?vg1 rfl rfl (fun _ => rfl) fun ρ X hc hf hgl hX hp ho => ?_; have k82 : ρ (.tmp 82) = ?vg0 := hp 0 (by decide); clear hp ho hX; go_simp; (all_goals rfl)
         · refine stepR (o := ⟨_, .fieldAddr 113 (.tmp 83) 0, _, _, _, _⟩) ?vg2 rfl rfl (fun _ => rfl) fun ρ X hc hf hgl hX hp ho => ?_; have k83 : ρ (.tmp 83) = ?vg1 := hp 1 (by decide); clear hp ho hX; go_simp; (all_goals rfl)
         · refine stepR (o := ⟨_, .load 110 (.tmp 84), _, _, _, _⟩) ?vg3 rfl rfl (fun _ => rfl) fun ρ X hc hf hgl hX hp ho => ?_; have k84 : ρ (.tmp 84) = ?vg2 := hp 2 (by decide); have cX := cXg X hX; clear hp ho hX; go_simp; (all_goals rfl)
         · refine stepO 11 ?vg4 rfl (fun _ _ => rfl) rfl (fun _ => rfl) (by decide) ?_; show (.pointer (some ⟨p2, 0, none⟩) : Value) = _; rfl
         · refine stepR (o := ⟨_, .nilCheck (.tmp 86), _, _, _, _⟩) ?vg5 rfl rfl (fun _ => rfl) fun ρ X hc hf hgl hX hp ho => ?_; have k86 : ρ (.tmp 86) = ?vg4 := hp 4 (by decide); clear hp ho hX; go_simp; (all_goals rfl)
         · refine stepR (o := ⟨_, .fieldAddr 113 (.tmp 87) 1, _, _, _, _⟩) ?vg6 rfl rfl (fun _ => rfl) fun ρ X hc hf hgl hX hp ho => ?_; have k87 : ρ (.tmp 87) = ?vg5 := hp 5 (by decide); clear hp ho hX; go_simp; (all_goals rfl)
         · refine stepR (o := ⟨_, .load 110 (.tmp 88), _, _, _, _⟩) ?vg7 rfl rfl (fun _ => rfl) fun ρ X hc hf hgl hX hp ho => ?_; have k88 : ρ (.tmp 88) = ?vg6 := hp 6 (by decide); have cX := cXg X hX; clear hp ho hX; go_simp; (all_goals rfl)
         · exact last_intro rfl
        case grdg => rfl
        case rstg =>
         intro a0 X hb
         obtain ⟨x90, hx90⟩ : ∃ x, a0.tmps.getD 90 undef = x := ⟨_, rfl⟩
         have hfr := hb.frame ((82, ?vg0) :: (83, ?vg1) :: (84, ?vg2) :: (85, ?vg3) :: (86, ?vg4) :: (87, ?vg5) :: (88, ?vg6) :: (89, ?vg7) :: (90, x90) :: []) rfl ⟨hb.done' 0 82 rfl rfl, hb.done' 1 83 rfl rfl, hb.done' 2 84 rfl rfl, hb.done' 3 85 rfl rfl, hb.done' 4 86 rfl rfl, hb.done' 5 87 rfl rfl, hb.done' 6 88 rfl rfl, hb.done' 7 89 rfl rfl, hx90, trivial⟩
         simp only [updL, ↓reduceIte, Nat.reduceEqDiff, Nat.reduceAdd, Nat.zero_add] at hfr
         have HX := Lib.hid hb.ext
         clear hb cXg
         subst hfr
         change StepOk _ { dst := _, op := Op.call { callee := Callee.builtin Builtin.copy, args := #[Operand.tmp 85, Operand.tmp 89], argTypes := #[110, 110] }, type := _, pos := _, after := _, guard := _ } _ _ _
         have hPX := HP7.out.grows HX.out
         have hfX := hPX.files.ok _ Hfl.out
         obtain ⟨w8, hr8, hf8, hB8⟩ := hfX.lost _
         rw [E7.out, E8.out] at hr8
         have hset := hPX.setF _ { loseFi ns f0 with now := (loseFi ns f0).safe } Hfl.out rfl rfl hB8 (fun j hj => .inr (.inl (.inl hj))) hf8 (fun j hj => .inl hj) (by rw [hfX.len]; exact Nat.le_refl _)
         rw [← loseX_step Hnd2.out ns f0 Hf0.out, Hfn0.out] at hset
         have HE := Lib.hid hset.1
         have hrr : RangeA nv pv w8 fm rr (((x.settled v2 d fm).keepX wsA).fs.map Fi.ent) todo' := by
          have hRX := HR7.out.grows HX.out
          have hno : ∀ k, (loseFi ns f0).vn.ownBlock = some k → kindAt X k = some (some 106) := fun k hk => hfX.kind (.inl hk)
          refine hRX.kept (hB8.block _ hRX.map.lt fun e => ?_) (hB8.block _ hRX.lt fun e => ?_)
          · have h1 := hno _ e; rw [kind_map hRX.map] at h1; simp at h1
          · have h1 := hno _ e
            obtain ⟨es, clock, since, seen, c0, hb, hs, hm, h2, hr, _⟩ := hRX
            unfold kindAt at h1; rw [hr] at h1; simp at h1
         have HRR := Lib.hid hrr
         have HBE : Hid (But (mutP q (x.settled v2 d fm)) w3 w8) := (HB7.out.trans' (But.ofGrows HX.out)).trans' (hB8.mono fun k hk => .inr (.inr (.inl (.inr ⟨_, Hf00.out, .inr (.inl (by rw [← Hvn0.out]; exact hk))⟩))))
         have Hr8 := Lib.hid hr8
         refine StepOk.of_run (v := goInt (loseFi ns f0).now.length) (w' := w8) ?_ ?_
         · simp only [execOp, resolve, invoke, builtin, Sem.run_bind, Sem.run_pure, Result.andThen_ok, List.map_toArray, List.map_cons, List.map_nil]
           show (Result.andThen ((Builtin.copy_ #[110, 110] _ #[.slice an Ln cn, .slice asv Ln cs]).run Tryz.prog X) _) = _
           rw [hr8]
           rfl
         clear hPX hfX hr8 hf8 hB8 hset hrr
         simp only [Act.put, List.setIfInBounds_toArray, List.set_cons_succ, List.set_cons_zero]
         go_wp2
         go_roundw
         case rel =>
          refine ⟨done ++ [(p1, p2)], todo', ?_, HRR.out, ?_, HBE.out⟩
          · refine Hp7.out.trans ?_
            rw [List.append_assoc]
            exact Hp2.out.append_left done
          · rw [List.map_append]; rw [Hns.out]; exact HE.out
         case measure =>
          rw [HRR.out.left, HRm.out]
          have := Hp2.out.length_eq
          simp at this
          omega
end Go.Proofs.YtoppcpiheaedlaaGreatDoor
end
section
/-
  The program's disk: its calls, with the errors that they answer.
-/
namespace Go.Proofs.YtoppcpiheaedlaaGreatDoor
open Go.RowKit Go.Maps Go.MapKept
set_option linter.unusedVariables false
set_option linter.unusedSimpArgs false
attribute [local go_sem] sv nv mv pv
def Does (q : Nat) (x : Px) (w : World) (op nm : List UInt8) (r : Int × Ps) (e : Ending) (w' : World) : Prop :=
 ∃ v, e = .returned v ∧ IsFault w' v op nm r.1 ∧ ∃ x', PD w' q x' ∧ x'.s = r.2 ∧ TurnP q x x' w w'
theorem TurnP.keepOut {q : Nat} {x x' : Px} {w w' : World} (h : TurnP q x x' w w') {b : Nat} (hb : b < w.heap.size) (hn : ¬ mutP q x b) : ¬ mutP q x' b ∧ b < w'.heap.size :=
 ⟨fun hm => (h.muts b hm).elim hn (fun hl => by omega), Nat.lt_of_lt_of_le hb h.but.size⟩
def opCreate : List UInt8 := [99, 114, 101, 97, 116, 101]
set_option maxRecDepth 100000 in
theorem PCreate {w : World} {q : Nat} {x : Px} (h : PD w q x) (nm : Nm) (hn : okS nm) (hnl : True) (hsm : x.dirs.length < 1000000 ∧ x.made < 1000000 ∧ x.fs.length < 1000000) :
 Calls Tryz.prog 27 #[.pointer (some ⟨q, 0, none⟩), sv nm] w (Does q x w opCreate nm (createP x.s nm)) := by
 have HI := Lib.hid (pCreate h nm hn hnl hsm)
 obtain ⟨r, Hr⟩ : ∃ r, Hid (createP x.s nm = r) := ⟨_, rfl⟩
 rw [Hr.out] at HI ⊢
 unfold sv at HI ⊢
 clear h
 go_enter Tryz.func27, Tryz.ntmps27
 go_wp2_with fail
 refine HI.out.mono ?_
 rintro e w1 ⟨rfl, x', hP, hs, hT⟩
 have HP := Lib.hid hP
 have HS := Lib.hid hs
 have HT := Lib.hid hT
 clear hP hs hT
 have HF := Lib.hid (pFault opCreate nm r.1 w1)
 unfold sv at HF
 go_wp2_with fail
 refine HF.out.mono ?_
 rintro e w2 ⟨v, rfl, hF, hG⟩
 have HFa := Lib.hid hF
 have HG := Lib.hid hG
 clear hF hG HF HI
 go_wp2
 go_ret
 exact ⟨v, rfl, HFa.out, x', HP.out.grows HG.out, HS.out, HT.out.trans (TurnP.ofGrows HG.out)⟩
def opRemove : List UInt8 := [114, 101, 109, 111, 118, 101]
set_option maxRecDepth 100000 in
theorem PRemove {w : World} {q : Nat} {x : Px} (h : PD w q x) (nm : Nm) (hn : okS nm) (hsm : x.dirs.length < 1000000) :
 Calls Tryz.prog 33 #[.pointer (some ⟨q, 0, none⟩), sv nm] w (Does q x w opRemove nm (removeP x.s nm)) := by
 have HI := Lib.hid (pRemove h nm hn hsm)
 obtain ⟨r, Hr⟩ : ∃ r, Hid (removeP x.s nm = r) := ⟨_, rfl⟩
 rw [Hr.out] at HI ⊢
 unfold sv at HI ⊢
 clear h
 go_enter Tryz.func33, Tryz.ntmps33
 go_wp2_with fail
 refine HI.out.mono ?_
 rintro e w1 ⟨rfl, x', hP, hs, hT⟩
 have HP := Lib.hid hP
 have HS := Lib.hid hs
 have HT := Lib.hid hT
 clear hP hs hT
 have HF := Lib.hid (pFault opRemove nm r.1 w1)
 unfold sv at HF
 go_wp2_with fail
 refine HF.out.mono ?_
 rintro e w2 ⟨v, rfl, hF, hG⟩
 have HFa := Lib.hid hF
 have HG := Lib.hid hG
 clear hF hG HF HI
 go_wp2
 go_ret
 exact ⟨v, rfl, HFa.out, x', HP.out.grows HG.out, HS.out, HT.out.trans (TurnP.ofGrows HG.out)⟩
def opGrow : List UInt8 := [103, 114, 111, 119]
set_option maxRecDepth 100000 in
theorem PGrow {w : World} {q : Nat} {x : Px} (h : PD w q x) (nm : Nm) (hn : okS nm) (n : Int) (hnI : -9223372036854775808 ≤ n ∧ n ≤ 9223372036854775807) :
 Calls Tryz.prog 29 #[.pointer (some ⟨q, 0, none⟩), sv nm, .int .i64 n] w (Does q x w opGrow nm (growP x.s nm n)) := by
 have HI := Lib.hid (pGrow h nm hn n hnI)
 obtain ⟨r, Hr⟩ : ∃ r, Hid (growP x.s nm n = r) := ⟨_, rfl⟩
 rw [Hr.out] at HI ⊢
 unfold sv at HI ⊢
 clear h
 go_enter Tryz.func29, Tryz.ntmps29
 go_wp2_with fail
 refine HI.out.mono ?_
 rintro e w1 ⟨rfl, x', hP, hs, hT⟩
 have HP := Lib.hid hP
 have HS := Lib.hid hs
 have HT := Lib.hid hT
 clear hP hs hT
 have HF := Lib.hid (pFault opGrow nm r.1 w1)
 unfold sv at HF
 go_wp2_with fail
 refine HF.out.mono ?_
 rintro e w2 ⟨v, rfl, hF, hG⟩
 have HFa := Lib.hid hF
 have HG := Lib.hid hG
 clear hF hG HF HI
 go_wp2
 go_ret
 exact ⟨v, rfl, HFa.out, x', HP.out.grows HG.out, HS.out, HT.out.trans (TurnP.ofGrows HG.out)⟩
def opWrite : List UInt8 := [119, 114, 105, 116, 101]
set_option maxRecDepth 100000 in
theorem PWrite {w : World} {q : Nat} {x : Px} (h : PD w q x) (nm : Nm) (hn : okS nm) (n : Int) (hnI : -9223372036854775808 ≤ n ∧ n ≤ 9223372036854775807) (vp : Value) (p : List UInt8) (hp : Byt w vp p) (hout : Outside (mutP q x) vp) (hpl : p.length ≤ 1000000000000) (hsm : x.pend.length < 1000000) :
 Calls Tryz.prog 30 #[.pointer (some ⟨q, 0, none⟩), sv nm, .int .i64 n, vp] w (Does q x w opWrite nm (writeP x.s nm n p)) := by
 have HI := Lib.hid (pWriteI h nm hn n hnI vp p hp hout hpl hsm)
 obtain ⟨r, Hr⟩ : ∃ r, Hid (writeP x.s nm n p = r) := ⟨_, rfl⟩
 rw [Hr.out] at HI ⊢
 unfold sv at HI ⊢
 obtain ⟨ap, cp, rfl⟩ := hp.slice
 clear h hp hout
 go_enter Tryz.func30, Tryz.ntmps30
 go_wp2_with fail
 refine HI.out.mono ?_
 rintro e w1 ⟨rfl, x', hP, hs, hT⟩
 have HP := Lib.hid hP
 have HS := Lib.hid hs
 have HT := Lib.hid hT
 clear hP hs hT
 have HF := Lib.hid (pFault opWrite nm r.1 w1)
 unfold sv at HF
 go_wp2_with fail
 refine HF.out.mono ?_
 rintro e w2 ⟨v, rfl, hF, hG⟩
 have HFa := Lib.hid hF
 have HG := Lib.hid hG
 clear hF hG HF HI
 go_wp2
 go_ret
 exact ⟨v, rfl, HFa.out, x', HP.out.grows HG.out, HS.out, HT.out.trans (TurnP.ofGrows HG.out)⟩
def opSync : List UInt8 := [115, 121, 110, 99]
set_option maxRecDepth 100000 in
theorem PSync {w : World} {q : Nat} {x : Px} (h : PD w q x) (nm : Nm) (hn : okS nm) :
 Calls Tryz.prog 39 #[.pointer (some ⟨q, 0, none⟩), sv nm] w (Does q x w opSync nm (syncP x.s nm)) := by
 have HI := Lib.hid (pSyncI h nm hn)
 obtain ⟨r, Hr⟩ : ∃ r, Hid (syncP x.s nm = r) := ⟨_, rfl⟩
 rw [Hr.out] at HI ⊢
 unfold sv at HI ⊢
 clear h
 go_enter Tryz.func39, Tryz.ntmps39
 go_wp2_with fail
 refine HI.out.mono ?_
 rintro e w1 ⟨rfl, x', hP, hs, hT⟩
 have HP := Lib.hid hP
 have HS := Lib.hid hs
 have HT := Lib.hid hT
 clear hP hs hT
 have HF := Lib.hid (pFault opSync nm r.1 w1)
 unfold sv at HF
 go_wp2_with fail
 refine HF.out.mono ?_
 rintro e w2 ⟨v, rfl, hF, hG⟩
 have HFa := Lib.hid hF
 have HG := Lib.hid hG
 clear hF hG HF HI
 go_wp2
 go_ret
 exact ⟨v, rfl, HFa.out, x', HP.out.grows HG.out, HS.out, HT.out.trans (TurnP.ofGrows HG.out)⟩
def opSyncDir : List UInt8 := [115, 121, 110, 99, 100, 105, 114]
set_option maxRecDepth 100000 in
theorem PSyncDir {w : World} {q : Nat} {x : Px} (h : PD w q x)  :
 Calls Tryz.prog 28 #[.pointer (some ⟨q, 0, none⟩)] w (Does q x w opSyncDir [] (syncDirP x.s)) := by
 have HI := Lib.hid (pSyncDir h)
 obtain ⟨r, Hr⟩ : ∃ r, Hid (syncDirP x.s = r) := ⟨_, rfl⟩
 rw [Hr.out] at HI ⊢
 clear h
 go_enter Tryz.func28, Tryz.ntmps28
 go_wp2_with fail
 refine HI.out.mono ?_
 rintro e w1 ⟨rfl, x', hP, hs, hT⟩
 have HP := Lib.hid hP
 have HS := Lib.hid hs
 have HT := Lib.hid hT
 clear hP hs hT
 have HF := Lib.hid (pFault opSyncDir [] r.1 w1)
 unfold sv at HF
 go_wp2_with fail
 refine HF.out.mono ?_
 rintro e w2 ⟨v, rfl, hF, hG⟩
 have HFa := Lib.hid hF
 have HG := Lib.hid hG
 clear hF hG HF HI
 go_wp2
 go_ret
 exact ⟨v, rfl, HFa.out, x', HP.out.grows HG.out, HS.out, HT.out.trans (TurnP.ofGrows HG.out)⟩
def opRead : List UInt8 := [114, 101, 97, 100]
set_option maxRecDepth 100000 in
theorem PRead {w : World} {q : Nat} {x : Px} (h : PD w q x) (nm : Nm) (hn : okS nm) (n : Int) (hnI : -9223372036854775808 ≤ n ∧ n ≤ 9223372036854775807) :
 Calls Tryz.prog 31 #[.pointer (some ⟨q, 0, none⟩), sv nm, .int .i64 n] w fun e w' => ∃ v u, e = .returned (.tuple #[v, u]) ∧ Own 5 w.heap.size w' v (readP x.s nm n).1.1 ∧ IsFault w' u opRead nm (readP x.s nm n).1.2 ∧ PD w' q (beginX x) ∧ (beginX x).s = (readP x.s nm n).2 ∧ TurnP q x (beginX x) w w' := by
 have HI := Lib.hid (pReadI h nm hn n hnI)
 obtain ⟨r, Hr⟩ : ∃ r, Hid (readP x.s nm n = r) := ⟨_, rfl⟩
 rw [Hr.out] at HI ⊢
 unfold sv at HI ⊢
 clear h
 go_enter Tryz.func31, Tryz.ntmps31
 go_wp2_with fail
 refine HI.out.mono ?_
 rintro e w1 ⟨v, rfl, ho, hP, hs, hT⟩
 obtain ⟨av, cv, rfl⟩ := own_form ho
 have HO := Lib.hid ho
 have HP := Lib.hid hP
 have HS := Lib.hid hs
 have HT := Lib.hid hT
 obtain ⟨rl, Hrl⟩ : ∃ y, Hid (r.1.1.length = y) := ⟨_, rfl⟩
 rw [Hrl.out] at HO ⊢
 clear hP hs hT ho
 have HF := Lib.hid (pFault opRead nm r.1.2 w1)
 unfold sv at HF
 go_wp2_with fail
 refine HF.out.mono ?_
 rintro e w2 ⟨u, rfl, hF, hG⟩
 have HFa := Lib.hid hF
 have HG := Lib.hid hG
 clear hF hG HF HI
 go_wp2
 go_ret2
 exact ⟨_, _, rfl, Own.grows HO.out HG.out, HFa.out, HP.out.grows HG.out, HS.out, HT.out.trans (TurnP.ofGrows HG.out)⟩
end Go.Proofs.YtoppcpiheaedlaaGreatDoor
end
