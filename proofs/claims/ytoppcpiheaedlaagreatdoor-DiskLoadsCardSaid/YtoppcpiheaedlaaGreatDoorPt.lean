/-
  The program's disk: the power fails.
-/
import Derived.Test.YtoppcpiheaedlaaGreatDoorPr
namespace Go.Proofs.YtoppcpiheaedlaaGreatDoor
open Go.RowKit Go.Maps Go.MapKept
set_option linter.unusedVariables false
set_option linter.unusedSimpArgs false
attribute [local go_sem] sv nv mv pv

theorem rangeAt_row {W : World} {b : Nat} {cs : Array Value} {T : TypeId} {fr : Nat × Nat} (h : W.heap[b]? = some (.cells cs T fr)) (o : Nat) (l : List Value) (hl : ∀ j u, l[j]? = some u → cs[o + j]? = some u) : W.rangeAt b o l := fun j u hu => by
  rw [cell_of_row W b _ _ _ _ h]
  exact hl j u hu
theorem outside_ints {O : Nat → Prop} {v : Value} (h : Outside O v) : Outside O v := h

set_option maxRecDepth 100000 in
set_option maxHeartbeats 8000000 in
theorem pCrash {w : World} {q : Nat} {x : Px} (h : PD w q x) (n : Int) (hnI : -9223372036854775808 ≤ n ∧ n ≤ 9223372036854775807) (v : Value) (keep : List Int) (hv : IntS w v keep) (hout : Outside (mutP q x) v) (hkl : keep.length ≤ 1000000000)
    (hkr : ∀ z ∈ keep, -9223372036854775808 ≤ z ∧ z ≤ 9223372036854775807) :
    Calls Tryz.prog 22 #[.pointer (some ⟨q, 0, none⟩), .int .i64 n, v] w fun e w' => e = .returned (.tuple #[]) ∧ ∃ x', PD w' q x' ∧ x'.s = crashP x.s n keep ∧ TurnP q x x' w w' := by
  have hmx : Tryz.prog.follows .mixedOrders = true := by kernel_rfl
  have H := Lib.hid h
  have hpos : 0 < x.dirs.length := List.length_pos_iff.2 h.wf.ne
  obtain ⟨m, Hm⟩ : ∃ m, Hid (x.dirs.length = m + 1) := ⟨x.dirs.length - 1, by show _ = _; omega⟩
  have hmI : (m : Int) ≤ 1000000 := by have := h.wf.small.1; rw [Hm.out] at this; omega
  obtain ⟨mx, hmx0⟩ : ∃ mx : Nat, n.toNat = mx := ⟨_, rfl⟩
  have hmxv : (if (0 : Int) > n then 0 else n) = (mx : Int) := by split <;> omega
  obtain ⟨ix, hix⟩ : ∃ ix : Nat, min mx m = ix := ⟨_, rfl⟩
  have hixv : (if (m : Int) < (mx : Int) then (m : Int) else (mx : Int)) = (ix : Int) := by split <;> omega
  have hixm : ix < x.dirs.length := by rw [Hm.out]; omega
  obtain ⟨d, hd⟩ : ∃ d, x.dirs[ix]? = some d := ⟨_, List.getElem?_eq_getElem hixm⟩
  have Hdm : Hid (d ∈ x.dirs) := List.mem_of_getElem? hd
  have Hcr : Hid (crashP x.s n keep = { settleP x.s d.2 with files := ((keptF keep x.pend 0).foldl keepP (settleP x.s d.2).files).map (fun e => (e.1, (e.2.2, e.2.2))), pend := [], first := 0, code := 0 }) := by
    show _ = _
    have hw : whichP x.s n = ix := by
      unfold whichP
      rw [show x.s.dirs.length = x.dirs.length by simp [Px.s], Hm.out, hmx0]
      omega
    have hg : x.s.dirs.getD ix [] = d.2 := by
      simp [Px.s, List.getD, List.getElem?_map, hd]
    unfold crashP
    rw [hw, hg]
    rfl
  obtain ⟨g1, cap1, e1⟩ := own_some h.dirs.row hpos
  have c1 := h.cell 1 x.vd rfl
  have hrow := h.dirs.row
  rw [e1] at c1 hrow
  have ci := own_cell hrow ix (mv d.1) (by rw [List.getElem?_map, hd]; rfl)
  rw [Hm.out] at c1
  obtain ⟨db, Hdb⟩ : ∃ b, Hid (d.1 = b) := ⟨_, rfl⟩
  rw [Hdb.out] at ci
  unfold mv at ci
  have hixI : (ix : Int) < (m : Int) + 1 := by omega
  have HV := Lib.hid hv
  have HO := Lib.hid hout
  have HKL := Lib.hid hkl
  have HKR := Lib.hid hkr
  have HS := Lib.hid (fun X (hX : Grows w X) => pSettle (h.grows hX) d Hdm.out)
  rw [Hdb.out] at HS
  obtain ⟨av, cv, rfl⟩ : ∃ a c, v = .slice a keep.length c := by obtain ⟨a, c, e, _⟩ := hv; exact ⟨a, c, e⟩
  obtain ⟨kl, Hkl⟩ : ∃ k, Hid (keep.length = k) := ⟨_, rfl⟩
  rw [Hkl.out] at HV HO ⊢
  clear h hpos hmx0 hix hixm hd e1 hrow hv hout hkl hkr
  have Hc1 := Lib.hid c1
  go_enter Tryz.func22, Tryz.ntmps22
  go_wp2
  refine specs_last 16
    #[[], [], [1], [1, 2], [1, 2, 3], [], [5], [], [7], [7, 8], [7, 8, 9], [7, 8, 9, 10], [7, 8, 9, 10, 11], [5, 6, 7, 8, 9, 10, 11, 12], [1, 2, 3, 4, 5, 6, 7, 8, 9, 10, 11, 12, 13], [1, 2, 3, 4, 5, 6, 7, 8, 9, 10, 11, 12, 13, 14], [0, 1, 2, 3, 4, 5, 6, 7, 8, 9, 10, 11, 12, 13, 14, 15]] #[[0], [0], [], [], [], [1], [], [0], [], [], [], [], [], [], [], [], []] #[true, true, true, true, true, true, true, true, true, true, true, true, true, true, true, true, true]
    ((.val ?vs0) :: (.val ?vs1) :: (.val ?vs2) :: (.val ?vs3) :: (.val ?vs4) :: (.val ?vs5) :: (.val (.int .i64 (mx : Int))) :: (.val ?vs7) :: (.val ?vs8) :: (.val ?vs9) :: (.val ?vs10) :: (.val ?vs11) :: (.val (.int .i64 (m : Int))) :: (.val (.int .i64 (ix : Int))) :: (.val ?vs14) :: (.val ?vs15) :: (.any) :: []).toArray
    hmx ?chks ?grds rfl ?stps ?rsts
  case chks => rfl
  case stps =>
    refine ⟨?_, ?_, ?_, ?_, ?_, ?_, ?_, ?_, ?_, ?_, ?_, ?_, ?_, ?_, ?_, ?_, ?_, trivial⟩
    · refine step_intro rfl rfl fun ρ X hc hf hgl hX hp ho => ?_
      change StepOk _ { dst := _, op := Op.move (Operand.tmp 0), type := _, pos := _, after := _, guard := _ } _ _ _
      have k0 : ρ (.tmp 0) = .pointer (some ⟨q, 0, none⟩) := ho 0 (by decide)
      clear hp ho
      refine StepOk.of_run (v := ?vs0) (w' := X) ?_ ⟨rfl, Below.refl _ _⟩
      clear hX
      go_simp
      all_goals try go_bits
      all_goals try simp only [IntWalk.iteOmega]
      all_goals try go_bits
      all_goals rfl
    · refine step_intro rfl rfl fun ρ X hc hf hgl hX hp ho => ?_
      change StepOk _ { dst := _, op := Op.move (Operand.tmp 0), type := _, pos := _, after := _, guard := _ } _ _ _
      have k0 : ρ (.tmp 0) = .pointer (some ⟨q, 0, none⟩) := ho 0 (by decide)
      clear hp ho
      refine StepOk.of_run (v := ?vs1) (w' := X) ?_ ⟨rfl, Below.refl _ _⟩
      clear hX
      go_simp
      all_goals try go_bits
      all_goals try simp only [IntWalk.iteOmega]
      all_goals try go_bits
      all_goals rfl
    · refine step_intro rfl rfl fun ρ X hc hf hgl hX hp ho => ?_
      change StepOk _ { dst := _, op := Op.nilCheck (Operand.tmp 15), type := _, pos := _, after := _, guard := _ } _ _ _
      have k15 : ρ (.tmp 15) = ?vs1 := hp 1 (by decide)
      clear hp ho
      refine StepOk.of_run (v := ?vs2) (w' := X) ?_ ⟨rfl, Below.refl _ _⟩
      clear hX
      go_simp
      all_goals try go_bits
      all_goals try simp only [IntWalk.iteOmega]
      all_goals try go_bits
      all_goals rfl
    · refine step_intro rfl rfl fun ρ X hc hf hgl hX hp ho => ?_
      change StepOk _ { dst := _, op := Op.fieldAddr 100 (Operand.tmp 16) 1, type := _, pos := _, after := _, guard := _ } _ _ _
      have k16 : ρ (.tmp 16) = ?vs2 := hp 2 (by decide)
      clear hp ho
      refine StepOk.of_run (v := ?vs3) (w' := X) ?_ ⟨rfl, Below.refl _ _⟩
      clear hX
      go_simp
      all_goals try go_bits
      all_goals try simp only [IntWalk.iteOmega]
      all_goals try go_bits
      all_goals rfl
    · refine step_intro rfl rfl fun ρ X hc hf hgl hX hp ho => ?_
      change StepOk _ { dst := _, op := Op.load 94 (Operand.tmp 17), type := _, pos := _, after := _, guard := _ } _ _ _
      have k17 : ρ (.tmp 17) = ?vs3 := hp 3 (by decide)
      have c1X := Grows.cell' hX c1
      have ciX := Grows.cell' hX ci
      clear hp ho
      refine StepOk.of_run (v := ?vs4) (w' := X) ?_ ⟨rfl, Below.refl _ _⟩
      clear hX
      go_simp
      all_goals try go_bits
      all_goals try simp only [IntWalk.iteOmega]
      all_goals try go_bits
      all_goals rfl
    · refine step_intro rfl rfl fun ρ X hc hf hgl hX hp ho => ?_
      change StepOk _ { dst := _, op := Op.move (Operand.tmp 1), type := _, pos := _, after := _, guard := _ } _ _ _
      have k1 : ρ (.tmp 1) = .int .i64 n := ho 1 (by decide)
      clear hp ho
      refine StepOk.of_run (v := ?vs5) (w' := X) ?_ ⟨rfl, Below.refl _ _⟩
      clear hX
      go_simp
      all_goals try go_bits
      all_goals try simp only [IntWalk.iteOmega]
      all_goals try go_bits
      all_goals rfl
    · refine step_intro rfl rfl fun ρ X hc hf hgl hX hp ho => ?_
      change StepOk _ { dst := _, op := Op.call { callee := Callee.builtin Builtin.max, args := #[Operand.tmp 19, Operand.const (Value.int IntKind.i64 0)], argTypes := #[3, 3] }, type := _, pos := _, after := _, guard := _ } _ _ _
      have k19 : ρ (.tmp 19) = ?vs5 := hp 5 (by decide)
      clear hp ho
      refine StepOk.of_run (v := .int .i64 (mx : Int)) (w' := X) ?_ ⟨rfl, Below.refl _ _⟩
      simp only [execOp, resolve, invoke, builtin, Builtin.max_, List.map_toArray, List.map_cons, List.map_nil, hc, k19, List.foldlM_cons, List.foldlM_nil, Builtin.max2, hmxv, Sem.run_bind, Sem.run_pure, Result.andThen_ok]
    · refine step_intro rfl rfl fun ρ X hc hf hgl hX hp ho => ?_
      change StepOk _ { dst := _, op := Op.move (Operand.tmp 0), type := _, pos := _, after := _, guard := _ } _ _ _
      have k0 : ρ (.tmp 0) = .pointer (some ⟨q, 0, none⟩) := ho 0 (by decide)
      clear hp ho
      refine StepOk.of_run (v := ?vs7) (w' := X) ?_ ⟨rfl, Below.refl _ _⟩
      clear hX
      go_simp
      all_goals try go_bits
      all_goals try simp only [IntWalk.iteOmega]
      all_goals try go_bits
      all_goals rfl
    · refine step_intro rfl rfl fun ρ X hc hf hgl hX hp ho => ?_
      change StepOk _ { dst := _, op := Op.nilCheck (Operand.tmp 21), type := _, pos := _, after := _, guard := _ } _ _ _
      have k21 : ρ (.tmp 21) = ?vs7 := hp 7 (by decide)
      clear hp ho
      refine StepOk.of_run (v := ?vs8) (w' := X) ?_ ⟨rfl, Below.refl _ _⟩
      clear hX
      go_simp
      all_goals try go_bits
      all_goals try simp only [IntWalk.iteOmega]
      all_goals try go_bits
      all_goals rfl
    · refine step_intro rfl rfl fun ρ X hc hf hgl hX hp ho => ?_
      change StepOk _ { dst := _, op := Op.fieldAddr 100 (Operand.tmp 22) 1, type := _, pos := _, after := _, guard := _ } _ _ _
      have k22 : ρ (.tmp 22) = ?vs8 := hp 8 (by decide)
      clear hp ho
      refine StepOk.of_run (v := ?vs9) (w' := X) ?_ ⟨rfl, Below.refl _ _⟩
      clear hX
      go_simp
      all_goals try go_bits
      all_goals try simp only [IntWalk.iteOmega]
      all_goals try go_bits
      all_goals rfl
    · refine step_intro rfl rfl fun ρ X hc hf hgl hX hp ho => ?_
      change StepOk _ { dst := _, op := Op.load 94 (Operand.tmp 23), type := _, pos := _, after := _, guard := _ } _ _ _
      have k23 : ρ (.tmp 23) = ?vs9 := hp 9 (by decide)
      have c1X := Grows.cell' hX c1
      have ciX := Grows.cell' hX ci
      clear hp ho
      refine StepOk.of_run (v := ?vs10) (w' := X) ?_ ⟨rfl, Below.refl _ _⟩
      clear hX
      go_simp
      all_goals try go_bits
      all_goals try simp only [IntWalk.iteOmega]
      all_goals try go_bits
      all_goals rfl
    · refine step_intro rfl rfl fun ρ X hc hf hgl hX hp ho => ?_
      change StepOk _ { dst := _, op := Op.call { callee := Callee.builtin Builtin.len, args := #[Operand.tmp 24], argTypes := #[94] }, type := _, pos := _, after := _, guard := _ } _ _ _
      have k24 : ρ (.tmp 24) = ?vs10 := hp 10 (by decide)
      clear hp ho
      refine StepOk.of_run (v := ?vs11) (w' := X) ?_ ⟨rfl, Below.refl _ _⟩
      clear hX
      go_simp
      all_goals try go_bits
      all_goals try simp only [IntWalk.iteOmega]
      all_goals try go_bits
      all_goals rfl
    · refine step_intro rfl rfl fun ρ X hc hf hgl hX hp ho => ?_
      change StepOk _ { dst := _, op := Op.binOp BinOp.sub 3 (Operand.tmp 25) (Operand.const (Value.int IntKind.i64 1)) 3, type := _, pos := _, after := _, guard := _ } _ _ _
      have k25 : ρ (.tmp 25) = ?vs11 := hp 11 (by decide)
      clear hp ho
      refine StepOk.of_run (v := .int .i64 (m : Int)) (w' := X) ?_ ⟨rfl, Below.refl _ _⟩
      clear hX
      go_simp
      all_goals try go_bits
      all_goals try rfl
      all_goals try trivial
    · refine step_intro rfl rfl fun ρ X hc hf hgl hX hp ho => ?_
      change StepOk _ { dst := _, op := Op.call { callee := Callee.builtin Builtin.min, args := #[Operand.tmp 20, Operand.tmp 26], argTypes := #[3, 3] }, type := _, pos := _, after := _, guard := _ } _ _ _
      have k20 : ρ (.tmp 20) = (.int .i64 (mx : Int)) := hp 6 (by decide)
      have k26 : ρ (.tmp 26) = (.int .i64 (m : Int)) := hp 12 (by decide)
      clear hp ho
      refine StepOk.of_run (v := .int .i64 (ix : Int)) (w' := X) ?_ ⟨rfl, Below.refl _ _⟩
      simp only [execOp, resolve, invoke, builtin, Builtin.min_, List.map_toArray, List.map_cons, List.map_nil, k20, k26, List.foldlM_cons, List.foldlM_nil, Builtin.min2, hixv, Sem.run_bind, Sem.run_pure, Result.andThen_ok]
    · refine step_intro rfl rfl fun ρ X hc hf hgl hX hp ho => ?_
      change StepOk _ { dst := _, op := Op.indexAddr 94 (Operand.tmp 18) (Operand.tmp 27), type := _, pos := _, after := _, guard := _ } _ _ _
      have k18 : ρ (.tmp 18) = ?vs4 := hp 4 (by decide)
      have k27 : ρ (.tmp 27) = (.int .i64 (ix : Int)) := hp 13 (by decide)
      clear hp ho
      refine StepOk.of_run (v := ?vs14) (w' := X) ?_ ⟨rfl, Below.refl _ _⟩
      clear hX
      go_simp
      all_goals try go_bits
      all_goals try simp only [IntWalk.iteOmega]
      all_goals try go_bits
      all_goals rfl
    · refine step_intro rfl rfl fun ρ X hc hf hgl hX hp ho => ?_
      change StepOk _ { dst := _, op := Op.load 103 (Operand.tmp 28), type := _, pos := _, after := _, guard := _ } _ _ _
      have k28 : ρ (.tmp 28) = ?vs14 := hp 14 (by decide)
      have c1X := Grows.cell' hX c1
      have ciX := Grows.cell' hX ci
      clear hp ho
      refine StepOk.of_run (v := ?vs15) (w' := X) ?_ ⟨rfl, Below.refl _ _⟩
      clear hX
      go_simp
      all_goals try go_bits
      all_goals try simp only [IntWalk.iteOmega]
      all_goals try go_bits
      all_goals rfl
    · exact last_intro rfl
  case grds => rfl
  case rsts =>
    intro a0 X hb
    obtain ⟨x30, hx30⟩ : ∃ x, a0.tmps.getD 30 undef = x := ⟨_, rfl⟩
    have hfr := hb.frame ((14, ?vs0) :: (15, ?vs1) :: (16, ?vs2) :: (17, ?vs3) :: (18, ?vs4) :: (19, ?vs5) :: (20, (.int .i64 (mx : Int))) :: (21, ?vs7) :: (22, ?vs8) :: (23, ?vs9) :: (24, ?vs10) :: (25, ?vs11) :: (26, (.int .i64 (m : Int))) :: (27, (.int .i64 (ix : Int))) :: (28, ?vs14) :: (29, ?vs15) :: (30, x30) :: []) rfl ⟨hb.done' 0 14 rfl rfl, hb.done' 1 15 rfl rfl, hb.done' 2 16 rfl rfl, hb.done' 3 17 rfl rfl, hb.done' 4 18 rfl rfl, hb.done' 5 19 rfl rfl, hb.done' 6 20 rfl rfl, hb.done' 7 21 rfl rfl, hb.done' 8 22 rfl rfl, hb.done' 9 23 rfl rfl, hb.done' 10 24 rfl rfl, hb.done' 11 25 rfl rfl, hb.done' 12 26 rfl rfl, hb.done' 13 27 rfl rfl, hb.done' 14 28 rfl rfl, hb.done' 15 29 rfl rfl, hx30, trivial⟩
    simp only [updL, ↓reduceIte, Nat.reduceEqDiff, Nat.reduceAdd, Nat.zero_add] at hfr
    have HX := Lib.hid hb.ext
    clear hb
    subst hfr
    change StepOk _ { dst := _, op := Op.call { callee := Callee.value (Operand.func 69), args := #[Operand.tmp 14, Operand.tmp 29], argTypes := #[25, 103] }, type := _, pos := _, after := _, guard := _ } _ _ _
    refine StepOk.of_call (f := 69) (args := #[.pointer (some ⟨q, 0, none⟩), .map (some db)]) (w' := X) ?_ (HS.out X HX.out) ?_
    · simp [go_sem, execOp]
    rintro e w2 ⟨rfl, v2, fm, hP2, hT2⟩
    refine ⟨_, rfl, ?_⟩
    have HT2 := Lib.hid ((TurnP.ofGrows (x := x) HX.out).trans hT2)
    have HP2 := Lib.hid hP2
    have c4 := hP2.cell 4 x.vp rfl
    obtain ⟨ap, cp, ep⟩ := own_form (show w2.ownsRow 0 108 66 x.vp x.pend.length (x.pend.flatMap wpC) from hP2.pend)
    obtain ⟨np, Hnp⟩ : ∃ y, Hid (x.pend.length = y) := ⟨_, rfl⟩
    rw [Hnp.out] at ep
    rw [ep] at c4
    have Ep := Lib.hid ep
    have hnp : np ≤ 1000000 := by rw [← Hnp.out]; exact H.out.wf.small.2.2.1
    have hnpI : (np : Int) ≤ 1000000 := by omega
    have HMk := Lib.hid (pMarked np _ keep w2 hnp (HV.out.but HT2.out.but HO.out) HKL.out HKR.out)
    clear hP2 hT2 ep HX HS HV HO HKL HKR
    simp only [Act.put, List.setIfInBounds_toArray, List.set_cons_succ, List.set_cons_zero]
    go_wp2_with fail
    refine HMk.out.mono ?_
    rintro e w3 ⟨g, rfl, hg, ho, hG⟩
    have HO3 := Lib.hid ho
    have Hg := Lib.hid hg
    have HP3 := Lib.hid (HP2.out.grows hG)
    have HG3 := Lib.hid hG
    have Hnd : Hid (((x.settled v2 d fm).fs.map fun f => f.num).Nodup) := fs_nodup HP3.out
    clear ho hg hG HMk
    go_wp2
    go_loopw [6, 7, 8, 9, 39] (fun _ _ _ _ t39 wr => ∃ i : Nat, i ≤ np ∧ t39 = .int .i64 i ∧ PD wr q ((x.settled v2 d fm).keepX (keptF keep (x.pend.take i) 0)) ∧ But (mutP q (x.settled v2 d fm)) w3 wr)
      (fun _ _ _ _ t39 _ => np - (intOf t39).toNat)
    case atStart => exact ⟨0, by omega, rfl, by rw [List.take_zero]; show PD _ _ (Px.keepX _ []); rw [keepX_nil]; exact HP3.out, But.refl' _ _⟩
    case round =>
      obtain ⟨i, hin, rfl, hP, hB⟩ := hrel
      obtain ⟨ws, Hws⟩ : ∃ y, Hid (keptF keep (x.pend.take i) 0 = y) := ⟨_, rfl⟩
      rw [Hws.out] at hP
      have HP4 := Lib.hid hP
      have HB4 := Lib.hid hB
      clear hP hB
      by_cases hlt : i < np
      · have hltI : (i : Int) < (np : Int) := by omega
        have hbi : ¬ ((np : Int) ≤ (i : Int)) := by omega
        have hil : i < x.pend.length := by rw [Hnp.out]; exact hlt
        obtain ⟨c, hcc⟩ : ∃ c, x.pend[i] = c := ⟨_, rfl⟩
        have hcm : c ∈ x.pend := by rw [← hcc]; exact List.getElem_mem hil
        have Hc64 : Hid (c.p.length = 64) := (H.out.wf.pend c hcm).1
        have HokC : Hid (okI c.id) := okI_small (Nat.le_trans (H.out.wf.pend c hcm).2.1 H.out.wf.small.2.2.2)
        have HcN : Hid (∀ f ∈ x.fs, f.num = c.id → c.n < f.now.length) := (H.out.wf.pend c hcm).2.2.2
        have Hstep : Hid (keptF keep (x.pend.take (i + 1)) 0 = ws ++ (if (i : Int) ∈ keep then [c] else [])) := by
          show _ = _
          rw [List.take_succ_eq_append_getElem hil, keptF_snoc, Hws.out, hcc, List.length_take, Nat.zero_add, Nat.min_eq_left (by omega)]
        obtain ⟨bk, Hbk⟩ : ∃ b, Hid (decide ((i : Int) ∈ keep) = b) := ⟨_, rfl⟩
        have cm : wr.cell? ⟨g, i, none⟩ = some (.bool bk) := by
          have ho := own_but HO3.out HB4.out (fun j hj hn => by have h1 : g = j := (by simpa [Value.ownBlock] using hj); have := HP2.out.ltU (mut_use hn); have := Hg.out; omega)
          have := ho.cellAt (g := g) i (by omega)
          rw [this, List.getElem?_map, marksF_get _ _ _ hlt, Hbk.out]
          rfl
        have c4 := HP4.out.cell 4 x.vp rfl
        rw [Ep.out] at c4
        have hpd : wr.ownsRow 0 108 66 x.vp x.pend.length (x.pend.flatMap wpC) := HP4.out.pend
        rw [Ep.out, Hnp.out] at hpd
        obtain ⟨gp, cp', e4⟩ := own_some hpd (by omega)
        simp only [Value.slice.injEq] at e4
        obtain ⟨rfl, -, rfl⟩ := e4
        have hat : wr.rangeAt gp (i * 66) (wpC c) := fun j u hu => by
          have hj : j < 66 := by have := (List.getElem?_eq_some_iff.1 hu).1; rwa [wpC_len c Hc64.out] at this
          refine own_cell hpd (i * 66 + j) _ ?_
          rw [wpC_get (fun w hw => (H.out.wf.pend w hw).1) i hil j hj, hcc]
          exact hu
        have Hat := Lib.hid hat
        obtain ⟨iw, zw, hiw, hzw, hsw, -, hzsw⟩ := infoWr_parts
        obtain ⟨zc, Hzc⟩ : ∃ y, Hid (zw.cells = y) := ⟨_, rfl⟩
        have Hzi : Hid (((Tryz.prog.info? 108).bind (fun i => i.zero)).map (fun z => z.cells) = some zc) := by show _ = _; rw [hiw]; simp [hzw, Hzc.out]
        have Hzn : Hid (zc.size = 66) := by show _ = _; rw [← Hzc.out]; exact hzsw
        obtain ⟨C, HC⟩ : ∃ C, Hid ((wpC c).toArray = C) := ⟨_, rfl⟩
        have HCn : Hid (C.size = 66) := by show _ = _; rw [← HC.out, List.size_toArray, wpC_len c Hc64.out]
        obtain ⟨nb, Hnb⟩ : ∃ n, Hid (wr.heap.size = n) := ⟨_, rfl⟩
        have hnew := heap_alloc_new wr (.cells zc 108)
        rw [Hnb.out] at hnew
        have Hnew := Lib.hid hnew
        have hG5 : Grows wr ((wr.alloc (.cells zc 108)).setRow nb C) := by
          refine ⟨rfl, rfl, rfl, by simp, fun k hk => ?_⟩
          rw [setRow_other _ nb k C (by have := Hnb.out; omega)]
          exact heap_alloc_old wr _ hk
        have hrow5 : ((wr.alloc (.cells zc 108)).setRow nb C).heap[nb]? = some (.cells C 108 (0, 0)) := setRow_heap _ nb zc C _ _ hnew
        obtain ⟨w5, Hw5⟩ : ∃ y, Hid ((wr.alloc (.cells zc 108)).setRow nb C = y) := ⟨_, rfl⟩
        have Hlt := Lib.hid hlt
        clear hcm hlt hil hcc hin hpd hat hiw hzw hsw hzsw hnew
        go_wp2_with (first
          | (refine wpList_load_mid rfl 108 _ rfl gp (i * 66) rfl (wpC c) _ Hat.out Tryz.underlying108 rfl (by rw [sizeWr, wpC_len c Hc64.out]) ?_; rw [HC.out])
          | (refine wpList_allocT rfl 108 rfl zc Hzi.out ?_; rw [Hnb.out])
          | (refine wpList_storeT rfl 108 _ _ rfl nb 108 zc C rfl rfl Hnew.out (by rw [sizeWr, HCn.out]) (by rw [Hzn.out, HCn.out]) (by rw [← HC.out]; exact all_oneCell_toArray (wpC_one c)) ?_; rw [Hw5.out])
          | fail)
        rw [Hw5.out] at hG5 hrow5
        have HP5 := Lib.hid (HP4.out.grows hG5)
        have HB5 : Hid (But (mutP q (x.settled v2 d fm)) w3 w5) := HB4.out.trans' (But.ofGrows hG5)
        rw [← HC.out] at hrow5
        have c8 : w5.cell? ⟨nb, 0, none⟩ = some (.int .i64 (c.id : Int)) := by rw [cell_of_row _ nb 0 _ _ _ hrow5]; rfl
        have c8n : w5.cell? ⟨nb, 1, none⟩ = some (.int .i64 (c.n : Int)) := by rw [cell_of_row _ nb 1 _ _ _ hrow5]; rfl
        have HSr : Hid (w5.rangeAt nb 2 (secC c.p)) := rangeAt_row hrow5 2 (secC c.p) (fun j u hu => by rw [List.getElem?_toArray, show 2 + j = j + 1 + 1 by omega]; exact hu)
        have c2 := HP5.out.cell 2 (mv fm) rfl
        unfold mv at c2
        have HM5 : Hid (MapA nv pv w5 fm ((x.settled v2 d fm).fs.map Fi.ent)) := by have := HP5.out.files.map; rw [keepX_ent] at this; exact this
        have HOk5 : Hid (∀ p ∈ (x.settled v2 d fm).fs.map Fi.ent, okI p.1) := by have := HP5.out.okF; rw [keepX_ent] at this; exact this
        clear hG5 hrow5
        by_cases hex : ∃ f ∈ (x.settled v2 d fm).fs, f.num = c.id
        · obtain ⟨f0, hf0, hfn⟩ := hex
          have Hf0 := Lib.hid hf0
          have Hfn := Lib.hid hfn
          have Hfk : Hid (keepFi ws f0 ∈ ((x.settled v2 d fm).keepX ws).fs) := List.mem_map.2 ⟨f0, hf0, rfl⟩
          have hlk : findA ((x.settled v2 d fm).fs.map Fi.ent) c.id = some f0.blk := by rw [← hfn]; exact HP3.out.look hf0
          have hfo := HP5.out.files.ok _ Hfk.out
          have Hcn : Hid (c.n < (keepFi ws f0).now.length) := HcN.out f0 (List.mem_filter.1 hf0).1 hfn
          obtain ⟨gs, cs, es⟩ := own_some hfo.safe (by rw [hfo.len]; have := Hcn.out; omega)
          obtain ⟨a7, c7, a8, c8', e7, e8, d0, d1⟩ := fi_form hfo
          rw [hfo.len] at es
          rw [e8] at es
          simp only [Value.slice.injEq] at es
          obtain ⟨rfl, -, rfl⟩ := es
          have Es := Lib.hid e8
          have hle := hfo.le
          obtain ⟨Lf, HLf⟩ : ∃ y, Hid ((keepFi ws f0).now.length = y) := ⟨_, rfl⟩
          rw [HLf.out] at d1 Es hle
          have hcnL : (c.n : Int) < (Lf : Int) := by have := Hcn.out; rw [HLf.out] at this; omega
          have hLfI : (Lf : Int) ≤ 4096 := by omega
          obtain ⟨b, Hb⟩ : ∃ b, Hid (f0.blk = b) := ⟨_, rfl⟩
          rw [Hb.out] at hlk
          rw [show (keepFi ws f0).blk = f0.blk from rfl, Hb.out] at d1
          have Hlk := Lib.hid hlk
          clear hf0 hfn hlk hfo e7 e8 d0 hle
          refine specs_region
            #[[], [0], [0, 1], [0, 1, 2], [], [4], [0, 1, 2, 3, 4, 5], [0, 1, 2, 3, 4, 5, 6]] #[[0], [], [], [], [8], [], [], []] #[true, true, true, true, true, true, true, true]
            ((.val ?va0) :: (.val ?va1) :: (.val ?va2) :: (.val ?va3) :: (.val ?va4) :: (.val ?va5) :: (.val (.pointer (some ⟨b, 0, none⟩))) :: (.val ?va7) :: []).toArray
            hmx ?chka ?grda ?stpa ?rsta
          case chka => rfl
          case stpa =>
            refine ⟨?_, ?_, ?_, ?_, ?_, ?_, ?_, ?_, trivial⟩
            · refine step_intro rfl rfl fun ρ X hc hf hgl hX hp ho => ?_
              change StepOk _ { dst := _, op := Op.move (Operand.tmp 0), type := _, pos := _, after := _, guard := _ } _ _ _
              have k0 : ρ (.tmp 0) = .pointer (some ⟨q, 0, none⟩) := ho 0 (by decide)
              clear hp ho
              refine StepOk.of_run (v := ?va0) (w' := X) ?_ ⟨rfl, Below.refl _ _⟩
              clear hX
              go_simp
              all_goals try go_bits
              all_goals try simp only [IntWalk.iteOmega]
              all_goals try go_bits
              all_goals rfl
            · refine step_intro rfl rfl fun ρ X hc hf hgl hX hp ho => ?_
              change StepOk _ { dst := _, op := Op.nilCheck (Operand.tmp 51), type := _, pos := _, after := _, guard := _ } _ _ _
              have k51 : ρ (.tmp 51) = ?va0 := hp 0 (by decide)
              clear hp ho
              refine StepOk.of_run (v := ?va1) (w' := X) ?_ ⟨rfl, Below.refl _ _⟩
              clear hX
              go_simp
              all_goals try go_bits
              all_goals try simp only [IntWalk.iteOmega]
              all_goals try go_bits
              all_goals rfl
            · refine step_intro rfl rfl fun ρ X hc hf hgl hX hp ho => ?_
              change StepOk _ { dst := _, op := Op.fieldAddr 100 (Operand.tmp 52) 2, type := _, pos := _, after := _, guard := _ } _ _ _
              have k52 : ρ (.tmp 52) = ?va1 := hp 1 (by decide)
              clear hp ho
              refine StepOk.of_run (v := ?va2) (w' := X) ?_ ⟨rfl, Below.refl _ _⟩
              clear hX
              go_simp
              all_goals try go_bits
              all_goals try simp only [IntWalk.iteOmega]
              all_goals try go_bits
              all_goals rfl
            · refine step_intro rfl rfl fun ρ X hc hf hgl hX hp ho => ?_
              change StepOk _ { dst := _, op := Op.load 95 (Operand.tmp 53), type := _, pos := _, after := _, guard := _ } _ _ _
              have k53 : ρ (.tmp 53) = ?va2 := hp 2 (by decide)
              have c2X := Grows.cell' hX c2
              have c8X := Grows.cell' hX c8
              clear hp ho
              refine StepOk.of_run (v := ?va3) (w' := X) ?_ ⟨rfl, Below.refl _ _⟩
              clear hX
              go_simp
              all_goals try go_bits
              all_goals try simp only [IntWalk.iteOmega]
              all_goals try go_bits
              all_goals rfl
            · refine step_intro rfl rfl fun ρ X hc hf hgl hX hp ho => ?_
              change StepOk _ { dst := _, op := Op.fieldAddr 108 (Operand.tmp 8) 0, type := _, pos := _, after := _, guard := _ } _ _ _
              have k8 : ρ (.tmp 8) = .pointer (some ⟨nb, 0, none⟩) := ho 8 (by decide)
              clear hp ho
              refine StepOk.of_run (v := ?va4) (w' := X) ?_ ⟨rfl, Below.refl _ _⟩
              clear hX
              go_simp
              all_goals try go_bits
              all_goals try simp only [IntWalk.iteOmega]
              all_goals try go_bits
              all_goals rfl
            · refine step_intro rfl rfl fun ρ X hc hf hgl hX hp ho => ?_
              change StepOk _ { dst := _, op := Op.load 3 (Operand.tmp 55), type := _, pos := _, after := _, guard := _ } _ _ _
              have k55 : ρ (.tmp 55) = ?va4 := hp 4 (by decide)
              have c2X := Grows.cell' hX c2
              have c8X := Grows.cell' hX c8
              clear hp ho
              refine StepOk.of_run (v := ?va5) (w' := X) ?_ ⟨rfl, Below.refl _ _⟩
              clear hX
              go_simp
              all_goals try go_bits
              all_goals try simp only [IntWalk.iteOmega]
              all_goals try go_bits
              all_goals rfl
            · refine step_intro rfl rfl fun ρ X hc hf hgl hX hp ho => ?_
              change StepOk _ { dst := _, op := Op.lookup 95 (Operand.tmp 54) (Operand.tmp 56) false, type := _, pos := _, after := _, guard := _ } _ _ _
              have k54 : ρ (.tmp 54) = ?va3 := hp 3 (by decide)
              have k56 : ρ (.tmp 56) = ?va5 := hp 5 (by decide)
              clear hp ho
              have hlk := (HM5.out.grows hX).look keyF HOk5.out Tryz.underlying95 (zeroFile _) false c.id HokC.out
              rw [Hlk.out] at hlk
              unfold nv at hlk
              try unfold pv at hlk
              simp only [Bool.false_eq_true, if_false] at hlk
              refine StepOk.of_run (v := .pointer (some ⟨b, 0, none⟩)) (w' := X) ?_ ⟨rfl, Below.refl _ _⟩
              simp only [execOp, k54, k56, hlk, Sem.run_bind, Result.andThen_ok, Sem.run_pure]
            · refine step_intro rfl rfl fun ρ X hc hf hgl hX hp ho => ?_
              change StepOk _ { dst := _, op := Op.assign (Operand.tmp 57), type := _, pos := _, after := _, guard := _ } _ _ _
              have k57 : ρ (.tmp 57) = (.pointer (some ⟨b, 0, none⟩)) := hp 6 (by decide)
              clear hp ho
              refine StepOk.of_run (v := ?va7) (w' := X) ?_ ⟨rfl, Below.refl _ _⟩
              clear hX
              go_simp
              all_goals try go_bits
              all_goals try simp only [IntWalk.iteOmega]
              all_goals try go_bits
              all_goals rfl
          case grda => rfl
          case rsta =>
            intro a0 X hb
            have hfr := hb.frame ((9, ?va7) :: (51, ?va0) :: (52, ?va1) :: (53, ?va2) :: (54, ?va3) :: (55, ?va4) :: (56, ?va5) :: (57, (.pointer (some ⟨b, 0, none⟩))) :: []) rfl ⟨hb.done' 7 9 rfl rfl, hb.done' 0 51 rfl rfl, hb.done' 1 52 rfl rfl, hb.done' 2 53 rfl rfl, hb.done' 3 54 rfl rfl, hb.done' 4 55 rfl rfl, hb.done' 5 56 rfl rfl, hb.done' 6 57 rfl rfl, trivial⟩
            simp only [updL, ↓reduceIte, Nat.reduceEqDiff, Nat.reduceAdd, Nat.zero_add] at hfr
            have HX := Lib.hid hb.ext
            clear hb
            subst hfr
            have HX6 := HX
            have d1 := HX6.out.cell' d1
            have c8n := HX6.out.cell' c8n
            have HSr : Hid (X.rangeAt nb 2 (secC c.p)) := fun j u hu => HX6.out.cell' (HSr.out j u hu)
            cases bk with
            | true =>
              have Hin := Lib.hid (show (i : Int) ∈ keep by have := Hbk.out; simpa using this)
              go_wp2
              refine specs_last 9
                #[[], [0], [0, 1], [0, 1, 2], [], [4], [], [6], [0, 1, 2, 3, 4, 5, 6, 7], [0, 1, 2, 3, 4, 5, 6, 7, 8]] #[[9], [], [], [], [8], [], [8], [], [], []] #[true, true, true, true, true, true, true, true, true, true]
                ((.val ?ve0) :: (.val ?ve1) :: (.val ?ve2) :: (.val ?ve3) :: (.val ?ve4) :: (.val ?ve5) :: (.val ?ve6) :: (.val (.agg (secC c.p).toArray)) :: (.val ?ve8) :: (.any) :: []).toArray
                hmx ?chke ?grde rfl ?stpe ?rste
              case chke => rfl
              case stpe =>
                refine ⟨?_, ?_, ?_, ?_, ?_, ?_, ?_, ?_, ?_, ?_, trivial⟩
                · refine step_intro rfl rfl fun ρ X hc hf hgl hX hp ho => ?_
                  change StepOk _ { dst := _, op := Op.move (Operand.tmp 9), type := _, pos := _, after := _, guard := _ } _ _ _
                  have k9 : ρ (.tmp 9) = .pointer (some ⟨b, 0, none⟩) := ho 9 (by decide)
                  clear hp ho
                  refine StepOk.of_run (v := ?ve0) (w' := X) ?_ ⟨rfl, Below.refl _ _⟩
                  clear hX
                  go_simp
                  all_goals try go_bits
                  all_goals try simp only [IntWalk.iteOmega]
                  all_goals try go_bits
                  all_goals rfl
                · refine step_intro rfl rfl fun ρ X hc hf hgl hX hp ho => ?_
                  change StepOk _ { dst := _, op := Op.nilCheck (Operand.tmp 63), type := _, pos := _, after := _, guard := _ } _ _ _
                  have k63 : ρ (.tmp 63) = ?ve0 := hp 0 (by decide)
                  clear hp ho
                  refine StepOk.of_run (v := ?ve1) (w' := X) ?_ ⟨rfl, Below.refl _ _⟩
                  clear hX
                  go_simp
                  all_goals try go_bits
                  all_goals try simp only [IntWalk.iteOmega]
                  all_goals try go_bits
                  all_goals rfl
                · refine step_intro rfl rfl fun ρ X hc hf hgl hX hp ho => ?_
                  change StepOk _ { dst := _, op := Op.fieldAddr 113 (Operand.tmp 64) 1, type := _, pos := _, after := _, guard := _ } _ _ _
                  have k64 : ρ (.tmp 64) = ?ve1 := hp 1 (by decide)
                  clear hp ho
                  refine StepOk.of_run (v := ?ve2) (w' := X) ?_ ⟨rfl, Below.refl _ _⟩
                  clear hX
                  go_simp
                  all_goals try go_bits
                  all_goals try simp only [IntWalk.iteOmega]
                  all_goals try go_bits
                  all_goals rfl
                · refine step_intro rfl rfl fun ρ X hc hf hgl hX hp ho => ?_
                  change StepOk _ { dst := _, op := Op.load 110 (Operand.tmp 65), type := _, pos := _, after := _, guard := _ } _ _ _
                  have k65 : ρ (.tmp 65) = ?ve2 := hp 2 (by decide)
                  have d1X := Grows.cell' hX d1
                  have c8nX := Grows.cell' hX c8n
                  clear hp ho
                  refine StepOk.of_run (v := ?ve3) (w' := X) ?_ ⟨rfl, Below.refl _ _⟩
                  clear hX
                  go_simp
                  all_goals try go_bits
                  all_goals try simp only [IntWalk.iteOmega]
                  all_goals try go_bits
                  all_goals rfl
                · refine step_intro rfl rfl fun ρ X hc hf hgl hX hp ho => ?_
                  change StepOk _ { dst := _, op := Op.fieldAddr 108 (Operand.tmp 8) 1, type := _, pos := _, after := _, guard := _ } _ _ _
                  have k8 : ρ (.tmp 8) = .pointer (some ⟨nb, 0, none⟩) := ho 8 (by decide)
                  clear hp ho
                  refine StepOk.of_run (v := ?ve4) (w' := X) ?_ ⟨rfl, Below.refl _ _⟩
                  clear hX
                  go_simp
                  all_goals try go_bits
                  all_goals try simp only [IntWalk.iteOmega]
                  all_goals try go_bits
                  all_goals rfl
                · refine step_intro rfl rfl fun ρ X hc hf hgl hX hp ho => ?_
                  change StepOk _ { dst := _, op := Op.load 3 (Operand.tmp 67), type := _, pos := _, after := _, guard := _ } _ _ _
                  have k67 : ρ (.tmp 67) = ?ve4 := hp 4 (by decide)
                  have d1X := Grows.cell' hX d1
                  have c8nX := Grows.cell' hX c8n
                  clear hp ho
                  refine StepOk.of_run (v := ?ve5) (w' := X) ?_ ⟨rfl, Below.refl _ _⟩
                  clear hX
                  go_simp
                  all_goals try go_bits
                  all_goals try simp only [IntWalk.iteOmega]
                  all_goals try go_bits
                  all_goals rfl
                · refine step_intro rfl rfl fun ρ X hc hf hgl hX hp ho => ?_
                  change StepOk _ { dst := _, op := Op.fieldAddr 108 (Operand.tmp 8) 2, type := _, pos := _, after := _, guard := _ } _ _ _
                  have k8 : ρ (.tmp 8) = .pointer (some ⟨nb, 0, none⟩) := ho 8 (by decide)
                  clear hp ho
                  refine StepOk.of_run (v := ?ve6) (w' := X) ?_ ⟨rfl, Below.refl _ _⟩
                  clear hX
                  go_simp
                  all_goals try go_bits
                  all_goals try simp only [IntWalk.iteOmega]
                  all_goals try go_bits
                  all_goals rfl
                · refine step_intro rfl rfl fun ρ X hc hf hgl hX hp ho => ?_
                  change StepOk _ { dst := _, op := Op.load 106 (Operand.tmp 69), type := _, pos := _, after := _, guard := _ } _ _ _
                  have k69 : ρ (.tmp 69) = ?ve6 := hp 6 (by decide)
                  refine stepOk_loadPart 106 _ rfl nb 2 (secC c.p) _ k69 (fun j u hu => Grows.cell' hX (HSr.out j u hu)) Tryz.underlying106 rfl (by rw [sizeSec, secC_len1, Hc64.out]) ⟨rfl, Below.refl _ _⟩
                · refine step_intro rfl rfl fun ρ X hc hf hgl hX hp ho => ?_
                  change StepOk _ { dst := _, op := Op.indexAddr 110 (Operand.tmp 66) (Operand.tmp 68), type := _, pos := _, after := _, guard := _ } _ _ _
                  have k66 : ρ (.tmp 66) = ?ve3 := hp 3 (by decide)
                  have k68 : ρ (.tmp 68) = ?ve5 := hp 5 (by decide)
                  clear hp ho
                  refine StepOk.of_run (v := ?ve8) (w' := X) ?_ ⟨rfl, Below.refl _ _⟩
                  clear hX
                  go_simp
                  all_goals try go_bits
                  all_goals try simp only [IntWalk.iteOmega]
                  all_goals try go_bits
                  all_goals rfl
                · exact last_intro rfl
              case grde => rfl
              case rste =>
                intro a0 X hb
                have hfr := hb.frame ((63, ?ve0) :: (64, ?ve1) :: (65, ?ve2) :: (66, ?ve3) :: (67, ?ve4) :: (68, ?ve5) :: (69, ?ve6) :: (70, (.agg (secC c.p).toArray)) :: (71, ?ve8) :: []) rfl ⟨hb.done' 0 63 rfl rfl, hb.done' 1 64 rfl rfl, hb.done' 2 65 rfl rfl, hb.done' 3 66 rfl rfl, hb.done' 4 67 rfl rfl, hb.done' 5 68 rfl rfl, hb.done' 6 69 rfl rfl, hb.done' 7 70 rfl rfl, hb.done' 8 71 rfl rfl, trivial⟩
                simp only [updL, ↓reduceIte, Nat.reduceEqDiff, Nat.reduceAdd, Nat.zero_add] at hfr
                have HX := Lib.hid hb.ext
                clear hb
                subst hfr
                change StepOk _ { dst := _, op := Op.store 106 (Operand.tmp 71) (Operand.tmp 70), type := _, pos := _, after := _, guard := _ } _ _ _
                have hPX := HP5.out.grows (Grows.trans' HX6.out HX.out)
                have hfX := hPX.files.ok _ Hfk.out
                obtain ⟨cur, hgc, hfit, hf9, hB9⟩ := hfX.putS Es.out c.n Hcn.out c.p Hc64.out
                refine stepOk_storePart 106 _ _ rfl gs (c.n * 64) 106 cur (secC c.p) _ rfl rfl rfl hgc hfit (by rw [sizeSec, secC_len1, Hc64.out]) (secC_one c.p) ?_
                have hset := hPX.setF _ { keepFi ws f0 with safe := (keepFi ws f0).safe.set c.n c.p } Hfk.out rfl rfl hB9 (fun j hj => .inr (.inl (.inr (by rw [Es.out, hj]; rfl)))) hf9 (fun j hj => .inl hj) (Nat.le_refl _)
                rw [← keepX_step Hnd.out ws c f0 Hf0.out Hfn.out] at hset
                have HE : Hid (PD (X.setRow gs (ovr cur (c.n * 64) (secC c.p))) q ((x.settled v2 d fm).keepX (keptF keep (x.pend.take (i + 1)) 0))) := by show PD _ _ _; rw [Hstep.out, if_pos Hin.out]; exact hset.1
                have HBE : Hid (But (mutP q (x.settled v2 d fm)) w3 (X.setRow gs (ovr cur (c.n * 64) (secC c.p)))) := But.setRow (HB5.out.trans' (But.ofGrows (Grows.trans' HX6.out HX.out))) _ _ (.inr (.inr (.inl (.inr ⟨f0, Hf0.out, .inr (.inr (by show f0.vs.ownBlock = _; rw [show f0.vs = (keepFi ws f0).vs from rfl, Es.out]; rfl))⟩))))
                clear hPX hfX hgc hfit hf9 hB9 hset
                go_wp2
                go_roundw
                case rel => exact ⟨i + 1, Hlt.out, by simp, HE.out, HBE.out⟩
                case measure => have := Hlt.out; simp [intOf]; omega
            | false =>
              have Hin := Lib.hid (show ¬ (i : Int) ∈ keep by have := Hbk.out; simpa using this)
              have HE : Hid (PD X q ((x.settled v2 d fm).keepX (keptF keep (x.pend.take (i + 1)) 0))) := by show PD _ _ _; rw [Hstep.out, if_neg Hin.out, List.append_nil]; exact HP5.out.grows HX6.out
              have HBE : Hid (But (mutP q (x.settled v2 d fm)) w3 X) := HB5.out.trans' (But.ofGrows HX6.out)
              go_wp2
              go_roundw
              case rel => exact ⟨i + 1, Hlt.out, by simp, HE.out, HBE.out⟩
              case measure => have := Hlt.out; simp [intOf]; omega
        · have Hno : Hid (∀ f ∈ (x.settled v2 d fm).fs, f.num ≠ c.id) := fun f hf e => hex ⟨f, hf, e⟩
          have Hlk : Hid (findA ((x.settled v2 d fm).fs.map Fi.ent) c.id = none) := findA_none fun p hp e => by obtain ⟨f, hf, rfl⟩ := List.mem_map.1 hp; exact hex ⟨f, hf, e⟩
          clear hex
          refine specs_region
            #[[], [0], [0, 1], [0, 1, 2], [], [4], [0, 1, 2, 3, 4, 5], [0, 1, 2, 3, 4, 5, 6]] #[[0], [], [], [], [8], [], [], []] #[true, true, true, true, true, true, true, true]
            ((.val ?vb0) :: (.val ?vb1) :: (.val ?vb2) :: (.val ?vb3) :: (.val ?vb4) :: (.val ?vb5) :: (.val (.pointer none)) :: (.val ?vb7) :: []).toArray
            hmx ?chkb ?grdb ?stpb ?rstb
          case chkb => rfl
          case stpb =>
            refine ⟨?_, ?_, ?_, ?_, ?_, ?_, ?_, ?_, trivial⟩
            · refine step_intro rfl rfl fun ρ X hc hf hgl hX hp ho => ?_
              change StepOk _ { dst := _, op := Op.move (Operand.tmp 0), type := _, pos := _, after := _, guard := _ } _ _ _
              have k0 : ρ (.tmp 0) = .pointer (some ⟨q, 0, none⟩) := ho 0 (by decide)
              clear hp ho
              refine StepOk.of_run (v := ?vb0) (w' := X) ?_ ⟨rfl, Below.refl _ _⟩
              clear hX
              go_simp
              all_goals try go_bits
              all_goals try simp only [IntWalk.iteOmega]
              all_goals try go_bits
              all_goals rfl
            · refine step_intro rfl rfl fun ρ X hc hf hgl hX hp ho => ?_
              change StepOk _ { dst := _, op := Op.nilCheck (Operand.tmp 51), type := _, pos := _, after := _, guard := _ } _ _ _
              have k51 : ρ (.tmp 51) = ?vb0 := hp 0 (by decide)
              clear hp ho
              refine StepOk.of_run (v := ?vb1) (w' := X) ?_ ⟨rfl, Below.refl _ _⟩
              clear hX
              go_simp
              all_goals try go_bits
              all_goals try simp only [IntWalk.iteOmega]
              all_goals try go_bits
              all_goals rfl
            · refine step_intro rfl rfl fun ρ X hc hf hgl hX hp ho => ?_
              change StepOk _ { dst := _, op := Op.fieldAddr 100 (Operand.tmp 52) 2, type := _, pos := _, after := _, guard := _ } _ _ _
              have k52 : ρ (.tmp 52) = ?vb1 := hp 1 (by decide)
              clear hp ho
              refine StepOk.of_run (v := ?vb2) (w' := X) ?_ ⟨rfl, Below.refl _ _⟩
              clear hX
              go_simp
              all_goals try go_bits
              all_goals try simp only [IntWalk.iteOmega]
              all_goals try go_bits
              all_goals rfl
            · refine step_intro rfl rfl fun ρ X hc hf hgl hX hp ho => ?_
              change StepOk _ { dst := _, op := Op.load 95 (Operand.tmp 53), type := _, pos := _, after := _, guard := _ } _ _ _
              have k53 : ρ (.tmp 53) = ?vb2 := hp 2 (by decide)
              have c2X := Grows.cell' hX c2
              have c8X := Grows.cell' hX c8
              clear hp ho
              refine StepOk.of_run (v := ?vb3) (w' := X) ?_ ⟨rfl, Below.refl _ _⟩
              clear hX
              go_simp
              all_goals try go_bits
              all_goals try simp only [IntWalk.iteOmega]
              all_goals try go_bits
              all_goals rfl
            · refine step_intro rfl rfl fun ρ X hc hf hgl hX hp ho => ?_
              change StepOk _ { dst := _, op := Op.fieldAddr 108 (Operand.tmp 8) 0, type := _, pos := _, after := _, guard := _ } _ _ _
              have k8 : ρ (.tmp 8) = .pointer (some ⟨nb, 0, none⟩) := ho 8 (by decide)
              clear hp ho
              refine StepOk.of_run (v := ?vb4) (w' := X) ?_ ⟨rfl, Below.refl _ _⟩
              clear hX
              go_simp
              all_goals try go_bits
              all_goals try simp only [IntWalk.iteOmega]
              all_goals try go_bits
              all_goals rfl
            · refine step_intro rfl rfl fun ρ X hc hf hgl hX hp ho => ?_
              change StepOk _ { dst := _, op := Op.load 3 (Operand.tmp 55), type := _, pos := _, after := _, guard := _ } _ _ _
              have k55 : ρ (.tmp 55) = ?vb4 := hp 4 (by decide)
              have c2X := Grows.cell' hX c2
              have c8X := Grows.cell' hX c8
              clear hp ho
              refine StepOk.of_run (v := ?vb5) (w' := X) ?_ ⟨rfl, Below.refl _ _⟩
              clear hX
              go_simp
              all_goals try go_bits
              all_goals try simp only [IntWalk.iteOmega]
              all_goals try go_bits
              all_goals rfl
            · refine step_intro rfl rfl fun ρ X hc hf hgl hX hp ho => ?_
              change StepOk _ { dst := _, op := Op.lookup 95 (Operand.tmp 54) (Operand.tmp 56) false, type := _, pos := _, after := _, guard := _ } _ _ _
              have k54 : ρ (.tmp 54) = ?vb3 := hp 3 (by decide)
              have k56 : ρ (.tmp 56) = ?vb5 := hp 5 (by decide)
              clear hp ho
              have hlk := (HM5.out.grows hX).look keyF HOk5.out Tryz.underlying95 (zeroFile _) false c.id HokC.out
              rw [Hlk.out] at hlk
              unfold nv at hlk
              try unfold pv at hlk
              simp only [Bool.false_eq_true, if_false] at hlk
              refine StepOk.of_run (v := .pointer none) (w' := X) ?_ ⟨rfl, Below.refl _ _⟩
              simp only [execOp, k54, k56, hlk, Sem.run_bind, Result.andThen_ok, Sem.run_pure]
            · refine step_intro rfl rfl fun ρ X hc hf hgl hX hp ho => ?_
              change StepOk _ { dst := _, op := Op.assign (Operand.tmp 57), type := _, pos := _, after := _, guard := _ } _ _ _
              have k57 : ρ (.tmp 57) = (.pointer none) := hp 6 (by decide)
              clear hp ho
              refine StepOk.of_run (v := ?vb7) (w' := X) ?_ ⟨rfl, Below.refl _ _⟩
              clear hX
              go_simp
              all_goals try go_bits
              all_goals try simp only [IntWalk.iteOmega]
              all_goals try go_bits
              all_goals rfl
          case grdb => rfl
          case rstb =>
            intro a0 X hb
            have hfr := hb.frame ((9, ?vb7) :: (51, ?vb0) :: (52, ?vb1) :: (53, ?vb2) :: (54, ?vb3) :: (55, ?vb4) :: (56, ?vb5) :: (57, (.pointer none)) :: []) rfl ⟨hb.done' 7 9 rfl rfl, hb.done' 0 51 rfl rfl, hb.done' 1 52 rfl rfl, hb.done' 2 53 rfl rfl, hb.done' 3 54 rfl rfl, hb.done' 4 55 rfl rfl, hb.done' 5 56 rfl rfl, hb.done' 6 57 rfl rfl, trivial⟩
            simp only [updL, ↓reduceIte, Nat.reduceEqDiff, Nat.reduceAdd, Nat.zero_add] at hfr
            have HX := Lib.hid hb.ext
            clear hb
            subst hfr
            have HX6 := HX
            have HE : Hid (PD X q ((x.settled v2 d fm).keepX (keptF keep (x.pend.take (i + 1)) 0))) := by
              show PD _ _ _
              rw [Hstep.out]
              split
              · rw [keepX_none ws c Hno.out]; exact HP5.out.grows HX6.out
              · rw [List.append_nil]; exact HP5.out.grows HX6.out
            have HBE : Hid (But (mutP q (x.settled v2 d fm)) w3 X) := HB5.out.trans' (But.ofGrows HX6.out)
            cases bk with
            | true =>
              go_wp2
              go_roundw
              case rel => exact ⟨i + 1, Hlt.out, by simp, HE.out, HBE.out⟩
              case measure => have := Hlt.out; simp [intOf]; omega
            | false =>
              go_wp2
              go_roundw
              case rel => exact ⟨i + 1, Hlt.out, by simp, HE.out, HBE.out⟩
              case measure => have := Hlt.out; simp [intOf]; omega
      · have hltI : ¬ (i : Int) < (np : Int) := by omega
        have HwA : Hid (ws = keptF keep x.pend 0) := by show _ = _; rw [← Hws.out, List.take_of_length_le (by rw [Hnp.out]; omega)]
        obtain ⟨wsA, HwsA⟩ : ∃ y, Hid (keptF keep x.pend 0 = y) := ⟨_, rfl⟩
        rw [HwA.out, HwsA.out] at HP4
        have c2 := HP4.out.cell 2 (mv fm) rfl
        unfold mv at c2
        have HM5 := Lib.hid HP4.out.files.map
        have Hnd2 : Hid ((((x.settled v2 d fm).keepX wsA).fs.map fun f => f.num).Nodup) := fs_nodup HP4.out
        clear hin hlt
        go_wp2_with (at_range; refine wpList_rangeA rfl _ 95 109 rfl HM5.out Tryz.underlying95 rfl ?_; intro w6 hr6 hg6 hs6)
        obtain ⟨rr, Hrr⟩ : ∃ r, Hid (wr.heap.size = r) := ⟨_, rfl⟩
        rw [Hrr.out] at hr6 ⊢
        have HR6 : Hid (RangeA nv pv w6 fm rr (((x.settled v2 d fm).keepX wsA).fs.map Fi.ent) (((x.settled v2 d fm).keepX wsA).fs.map Fi.ent)) := hr6
        have HP6 := Lib.hid (HP4.out.grows hg6)
        have HB6 : Hid (But (mutP q (x.settled v2 d fm)) w3 w6) := HB4.out.trans' (But.ofGrows hg6)
        have Hrw : Hid (w3.heap.size ≤ rr) := by show _ ≤ _; rw [← Hrr.out]; exact HB4.out.size
        clear hr6 hg6 hs6 c2
        try go_frame
        go_loopw [11] (fun _ wr => ∃ done todo, (((x.settled v2 d fm).keepX wsA).fs.map Fi.ent).Perm (done ++ todo) ∧ RangeA nv pv wr fm rr (((x.settled v2 d fm).keepX wsA).fs.map Fi.ent) todo ∧ PD wr q (((x.settled v2 d fm).keepX wsA).loseX (done.map (·.1))) ∧ But (mutP q (x.settled v2 d fm)) w3 wr)
          (fun _ wr => wr.rangeLeft fm rr)
        case atStart => exact ⟨[], _, by rw [List.nil_append], HR6.out, by rw [List.map_nil, loseX_nil]; exact HP6.out, HB6.out⟩
        case round =>
          obtain ⟨done, todo, hp7, hr7, hP7, hB7⟩ := hrel
          obtain ⟨ns, Hns⟩ : ∃ y, Hid (done.map (·.1) = y) := ⟨_, rfl⟩
          rw [Hns.out] at hP7
          have Hp7 := Lib.hid hp7
          have Hr7 := Lib.hid hr7
          have HPa := Lib.hid hP7
          have HBa := Lib.hid hB7
          clear hp7 hr7 hP7 hB7
          go_wp2_with (at_next; refine wpList_nextA rfl _ rfl _ todo Hr7.out rfl ?_ ?_)
          · intro h0
            subst h0
            have hall : ∀ f ∈ ((x.settled v2 d fm).keepX wsA).fs, f.num ∈ ns := fun f hf => by
              have := Hp7.out.mem_iff.1 (List.mem_map.2 ⟨f, hf, rfl⟩)
              rw [List.append_nil] at this
              rw [← Hns.out]
              exact List.mem_map.2 ⟨_, this, rfl⟩
            have hfs : ((((x.settled v2 d fm).keepX wsA).loseX ns).s).files = ((keptF keep x.pend 0).foldl keepP (settleP x.s d.2).files).map (fun e => (e.1, (e.2.2, e.2.2))) := by
              rw [loseX_all hall, keepX_s, settled_s, HwsA.out]
            have hq4 := HPa.out.setP [] (.slice none 0 0) (But.refl' _ wr) (World.ownsRow_nil _ 0 _ 66) (.inr rfl) (fun c hc => by simp at hc) (Nat.zero_le _)
            have hq5 := hq4.1.setArm (w' := (wr.setCell ⟨q, 4, none⟩ (.slice none 0 0)).setRow q (ovr (pdRow ((((x.settled v2 d fm).keepX wsA).loseX ns).setP (.slice none 0 0) [])) 5 [.int .i64 0, .int .i64 0])) 0 0 (by omega) (setRow_cells hq4.1.row _) (But.setRow (But.refl' _ _) _ _ rfl)
            have Hrow4 := Lib.hid hq4.1.row
            have HF := Lib.hid hq5.1
            have k4 := HPa.out.cell 4 x.vp rfl
            have u4 := HPa.out.frozen 4
            rw [Ep.out] at k4
            have hsz : (Tryz.prog.info? 98).map (·.size) = some 2 := by kernel_rfl
            have HTe : Hid (TurnP q x (((((x.settled v2 d fm).keepX wsA).loseX ns).setP (.slice none 0 0) []).arm 0 0) w ((wr.setCell ⟨q, 4, none⟩ (.slice none 0 0)).setRow q (ovr (pdRow ((((x.settled v2 d fm).keepX wsA).loseX ns).setP (.slice none 0 0) [])) 5 [.int .i64 0, .int .i64 0]))) := by
              refine HT2.out.step (O := mutP q (x.settled v2 d fm)) (But.setRow (But.setCell ((But.ofGrows HG3.out).trans' HBa.out) _ _ (.inl rfl)) _ _ (.inl rfl)) (fun k hk => .inl hk) (fun k hk => .inl ?_) (fun k hk => .inl ?_)
              · rcases hk with hk | hk | hk | hk
                · exact .inl hk
                · exact .inr (.inl hk)
                · exact keepX_mut (loseX_mut (.inr (.inr (.inl hk))))
                · exact absurd hk (by show ¬ (Value.ownBlock (.slice none 0 0) = some k); simp [Value.ownBlock])
              · rcases hk with hk | hk | hk | hk
                · exact .inl hk
                · exact .inr (.inl hk)
                · exact keepX_use (loseX_use (.inr (.inr (.inl hk))))
                · exact absurd hk (by show ¬ (Value.ownBlock (.slice none 0 0) = some k); simp [Value.ownBlock])
            have Hse : Hid ((((((x.settled v2 d fm).keepX wsA).loseX ns).setP (.slice none 0 0) []).arm 0 0).s = crashP x.s n keep) := by
              show _ = _
              rw [Hcr.out, ← hfs]
              rfl
            clear hall hfs hq4 hq5
            go_wp2_with (first | (refine wpList_storePart rfl 98 _ _ rfl q 5 _ _ [.int .i64 0, .int .i64 0] #[.int .i64 0, .int .i64 0] rfl rfl rfl Hrow4.out (by simp [pdRow]) hsz (by simp [Value.oneCell']) ?_) | go_in)
            go_end0
            exact ⟨rfl, _, HF.out, Hse.out, HTe.out⟩
          · intro p1 p2 todo' w7 hp2 hr2 hg2 hs2 hen
            have Hp2 := Lib.hid hp2
            have HR7 : Hid (RangeA nv pv w7 fm rr (((x.settled v2 d fm).keepX wsA).fs.map Fi.ent) todo') := hr2
            have HRm : Hid (wr.rangeLeft fm rr = todo.length) := Hr7.out.left
            have hmem : (p1, p2) ∈ ((x.settled v2 d fm).keepX wsA).fs.map Fi.ent := Hp7.out.mem_iff.2 (List.mem_append.2 (.inr (hp2.mem_iff.2 (by simp))))
            obtain ⟨f0, hf0, hfe⟩ := List.mem_map.1 hmem
            simp only [Fi.ent, Prod.mk.injEq] at hfe
            have Hf0 := Lib.hid hf0
            have Hfn0 := Lib.hid hfe.1
            have Hfl : Hid (loseFi ns f0 ∈ (((x.settled v2 d fm).keepX wsA).loseX ns).fs) := List.mem_map.2 ⟨f0, hf0, rfl⟩
            obtain ⟨f00, hf00, hfk0⟩ := List.mem_map.1 hf0
            have Hf00 := Lib.hid hf00
            have Hvn0 : Hid ((loseFi ns f0).vn = f00.vn) := by show _ = _; rw [← hfk0]; unfold loseFi; split <;> rfl
            have hrb : But (fun k => k = rr) wr w7 := But.one hg2
            have HP7 := Lib.hid (HPa.out.but hrb (fun k hk hu => by have := HP3.out.ltU (keepX_use (loseX_use hu)); have := Hrw.out; omega))
            have HB7 : Hid (But (mutP q (x.settled v2 d fm)) w3 w7) := ⟨hg2.os.trans HBa.out.os, hg2.tape.trans HBa.out.tape, hg2.output.trans HBa.out.output, Nat.le_trans HBa.out.size hg2.size, fun k hk hn => (hg2.block k (Nat.lt_of_lt_of_le hk HBa.out.size) (fun e => by have := Option.some.inj e; have := Hrw.out; omega)).trans (HBa.out.block k hk hn)⟩
            have hfo := HP7.out.files.ok _ Hfl.out
            obtain ⟨an, cn, asv, cs, e7, e8, d0, d1⟩ := fi_form hfo
            have hb0 : (loseFi ns f0).blk = p2 := by rw [loseFi_blk]; exact hfe.2
            rw [hb0] at d0 d1
            obtain ⟨Ln, HLn⟩ : ∃ y, Hid ((loseFi ns f0).now.length = y) := ⟨_, rfl⟩
            rw [HLn.out] at e7 e8 d0 d1
            have E7 := Lib.hid e7
            have E8 := Lib.hid e8
            clear hp2 hr2 hg2 hs2 hmem hf0 hfe hf00 hfk0 hrb hfo hb0 e7 e8
            go_wp2
            refine specs_last 8
              #[[], [0], [0, 1], [0, 1, 2], [], [4], [4, 5], [4, 5, 6], [0, 1, 2, 3, 4, 5, 6, 7]] #[[11], [], [], [], [11], [], [], [], []] #[true, true, true, true, true, true, true, true, true]
              ((.val ?vg0) :: (.val ?vg1) :: (.val ?vg2) :: (.val ?vg3) :: (.val ?vg4) :: (.val ?vg5) :: (.val ?vg6) :: (.val ?vg7) :: (.any) :: []).toArray
              hmx ?chkg ?grdg rfl ?stpg ?rstg
            case chkg => rfl
            case stpg =>
              refine ⟨?_, ?_, ?_, ?_, ?_, ?_, ?_, ?_, ?_, trivial⟩
              · refine step_intro rfl rfl fun ρ X hc hf hgl hX hp ho => ?_
                change StepOk _ { dst := _, op := Op.move (Operand.tmp 11), type := _, pos := _, after := _, guard := _ } _ _ _
                have k11 : ρ (.tmp 11) = .pointer (some ⟨p2, 0, none⟩) := ho 11 (by decide)
                clear hp ho
                refine StepOk.of_run (v := ?vg0) (w' := X) ?_ ⟨rfl, Below.refl _ _⟩
                clear hX
                go_simp
                all_goals try go_bits
                all_goals try simp only [IntWalk.iteOmega]
                all_goals try go_bits
                all_goals rfl
              · refine step_intro rfl rfl fun ρ X hc hf hgl hX hp ho => ?_
                change StepOk _ { dst := _, op := Op.nilCheck (Operand.tmp 82), type := _, pos := _, after := _, guard := _ } _ _ _
                have k82 : ρ (.tmp 82) = ?vg0 := hp 0 (by decide)
                clear hp ho
                refine StepOk.of_run (v := ?vg1) (w' := X) ?_ ⟨rfl, Below.refl _ _⟩
                clear hX
                go_simp
                all_goals try go_bits
                all_goals try simp only [IntWalk.iteOmega]
                all_goals try go_bits
                all_goals rfl
              · refine step_intro rfl rfl fun ρ X hc hf hgl hX hp ho => ?_
                change StepOk _ { dst := _, op := Op.fieldAddr 113 (Operand.tmp 83) 0, type := _, pos := _, after := _, guard := _ } _ _ _
                have k83 : ρ (.tmp 83) = ?vg1 := hp 1 (by decide)
                clear hp ho
                refine StepOk.of_run (v := ?vg2) (w' := X) ?_ ⟨rfl, Below.refl _ _⟩
                clear hX
                go_simp
                all_goals try go_bits
                all_goals try simp only [IntWalk.iteOmega]
                all_goals try go_bits
                all_goals rfl
              · refine step_intro rfl rfl fun ρ X hc hf hgl hX hp ho => ?_
                change StepOk _ { dst := _, op := Op.load 110 (Operand.tmp 84), type := _, pos := _, after := _, guard := _ } _ _ _
                have k84 : ρ (.tmp 84) = ?vg2 := hp 2 (by decide)
                have d0X := Grows.cell' hX d0
                have d1X := Grows.cell' hX d1
                clear hp ho
                refine StepOk.of_run (v := ?vg3) (w' := X) ?_ ⟨rfl, Below.refl _ _⟩
                clear hX
                go_simp
                all_goals try go_bits
                all_goals try simp only [IntWalk.iteOmega]
                all_goals try go_bits
                all_goals rfl
              · refine step_intro rfl rfl fun ρ X hc hf hgl hX hp ho => ?_
                change StepOk _ { dst := _, op := Op.move (Operand.tmp 11), type := _, pos := _, after := _, guard := _ } _ _ _
                have k11 : ρ (.tmp 11) = .pointer (some ⟨p2, 0, none⟩) := ho 11 (by decide)
                clear hp ho
                refine StepOk.of_run (v := ?vg4) (w' := X) ?_ ⟨rfl, Below.refl _ _⟩
                clear hX
                go_simp
                all_goals try go_bits
                all_goals try simp only [IntWalk.iteOmega]
                all_goals try go_bits
                all_goals rfl
              · refine step_intro rfl rfl fun ρ X hc hf hgl hX hp ho => ?_
                change StepOk _ { dst := _, op := Op.nilCheck (Operand.tmp 86), type := _, pos := _, after := _, guard := _ } _ _ _
                have k86 : ρ (.tmp 86) = ?vg4 := hp 4 (by decide)
                clear hp ho
                refine StepOk.of_run (v := ?vg5) (w' := X) ?_ ⟨rfl, Below.refl _ _⟩
                clear hX
                go_simp
                all_goals try go_bits
                all_goals try simp only [IntWalk.iteOmega]
                all_goals try go_bits
                all_goals rfl
              · refine step_intro rfl rfl fun ρ X hc hf hgl hX hp ho => ?_
                change StepOk _ { dst := _, op := Op.fieldAddr 113 (Operand.tmp 87) 1, type := _, pos := _, after := _, guard := _ } _ _ _
                have k87 : ρ (.tmp 87) = ?vg5 := hp 5 (by decide)
                clear hp ho
                refine StepOk.of_run (v := ?vg6) (w' := X) ?_ ⟨rfl, Below.refl _ _⟩
                clear hX
                go_simp
                all_goals try go_bits
                all_goals try simp only [IntWalk.iteOmega]
                all_goals try go_bits
                all_goals rfl
              · refine step_intro rfl rfl fun ρ X hc hf hgl hX hp ho => ?_
                change StepOk _ { dst := _, op := Op.load 110 (Operand.tmp 88), type := _, pos := _, after := _, guard := _ } _ _ _
                have k88 : ρ (.tmp 88) = ?vg6 := hp 6 (by decide)
                have d0X := Grows.cell' hX d0
                have d1X := Grows.cell' hX d1
                clear hp ho
                refine StepOk.of_run (v := ?vg7) (w' := X) ?_ ⟨rfl, Below.refl _ _⟩
                clear hX
                go_simp
                all_goals try go_bits
                all_goals try simp only [IntWalk.iteOmega]
                all_goals try go_bits
                all_goals rfl
              · exact last_intro rfl
            case grdg => rfl
            case rstg =>
              intro a0 X hb
              obtain ⟨x90, hx90⟩ : ∃ x, a0.tmps.getD 90 undef = x := ⟨_, rfl⟩
              have hfr := hb.frame ((82, ?vg0) :: (83, ?vg1) :: (84, ?vg2) :: (85, ?vg3) :: (86, ?vg4) :: (87, ?vg5) :: (88, ?vg6) :: (89, ?vg7) :: (90, x90) :: []) rfl ⟨hb.done' 0 82 rfl rfl, hb.done' 1 83 rfl rfl, hb.done' 2 84 rfl rfl, hb.done' 3 85 rfl rfl, hb.done' 4 86 rfl rfl, hb.done' 5 87 rfl rfl, hb.done' 6 88 rfl rfl, hb.done' 7 89 rfl rfl, hx90, trivial⟩
              simp only [updL, ↓reduceIte, Nat.reduceEqDiff, Nat.reduceAdd, Nat.zero_add] at hfr
              have HX := Lib.hid hb.ext
              clear hb
              subst hfr
              change StepOk _ { dst := _, op := Op.call { callee := Callee.builtin Builtin.copy, args := #[Operand.tmp 85, Operand.tmp 89], argTypes := #[110, 110] }, type := _, pos := _, after := _, guard := _ } _ _ _
              have hPX := HP7.out.grows HX.out
              have hfX := hPX.files.ok _ Hfl.out
              obtain ⟨w8, hr8, hf8, hB8⟩ := hfX.lost _
              rw [E7.out, E8.out] at hr8
              have hset := hPX.setF _ { loseFi ns f0 with now := (loseFi ns f0).safe } Hfl.out rfl rfl hB8 (fun j hj => .inr (.inl (.inl hj))) hf8 (fun j hj => .inl hj) (by rw [hfX.len]; exact Nat.le_refl _)
              rw [← loseX_step Hnd2.out ns f0 Hf0.out, Hfn0.out] at hset
              have HE := Lib.hid hset.1
              have hrr : RangeA nv pv w8 fm rr (((x.settled v2 d fm).keepX wsA).fs.map Fi.ent) todo' := by
                have hRX := HR7.out.grows HX.out
                have hno : ∀ k, (loseFi ns f0).vn.ownBlock = some k → kindAt X k = some (some 106) := fun k hk => hfX.kind (.inl hk)
                refine hRX.kept (hB8.block _ hRX.map.lt fun e => ?_) (hB8.block _ hRX.lt fun e => ?_)
                · have h1 := hno _ e; rw [kind_map hRX.map] at h1; simp at h1
                · have h1 := hno _ e
                  obtain ⟨es, clock, since, seen, c0, hb, hs, hm, h2, hr, _⟩ := hRX
                  unfold kindAt at h1; rw [hr] at h1; simp at h1
              have HRR := Lib.hid hrr
              have HBE : Hid (But (mutP q (x.settled v2 d fm)) w3 w8) := (HB7.out.trans' (But.ofGrows HX.out)).trans' (hB8.mono fun k hk => .inr (.inr (.inl (.inr ⟨_, Hf00.out, .inr (.inl (by rw [← Hvn0.out]; exact hk))⟩))))
              have Hr8 := Lib.hid hr8
              refine StepOk.of_run (v := goInt (loseFi ns f0).now.length) (w' := w8) ?_ ?_
              · simp only [execOp, resolve, invoke, builtin, Sem.run_bind, Sem.run_pure, Result.andThen_ok, List.map_toArray, List.map_cons, List.map_nil]
                show (Result.andThen ((Builtin.copy_ #[110, 110] _ #[.slice an Ln cn, .slice asv Ln cs]).run Tryz.prog X) _) = _
                rw [hr8]
                rfl
              clear hPX hfX hr8 hf8 hB8 hset hrr
              simp only [Act.put, List.setIfInBounds_toArray, List.set_cons_succ, List.set_cons_zero]
              go_wp2
              go_roundw
              case rel =>
                refine ⟨done ++ [(p1, p2)], todo', ?_, HRR.out, ?_, HBE.out⟩
                · refine Hp7.out.trans ?_
                  rw [List.append_assoc]
                  exact Hp2.out.append_left done
                · rw [List.map_append]; rw [Hns.out]; exact HE.out
              case measure =>
                rw [HRR.out.left, HRm.out]
                have := Hp2.out.length_eq
                simp at this
                omega
end Go.Proofs.YtoppcpiheaedlaaGreatDoor
