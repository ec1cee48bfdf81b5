/-
  The program's disk: a new file; names that are made.
-/
import Derived.Test.YtoppcpiheaedlaaGreatDoorPg
namespace Go.Proofs.YtoppcpiheaedlaaGreatDoor
open Go.RowKit Go.Maps Go.MapKept
set_option linter.unusedVariables false
set_option linter.unusedSimpArgs false
attribute [local go_sem] sv nv mv pv

/-- A disk with one file more. -/
def Px.addF (x : Px) (fb : Nat) : Px := { x with fs := x.fs ++ [⟨x.made + 1, fb, .slice none 0 0, .slice none 0 0, [], []⟩], made := x.made + 1 }
set_option maxRecDepth 100000 in
set_option maxHeartbeats 1000000 in
theorem pAdd {w : World} {q : Nat} {x : Px} (h : PD w q x) (fb : Nat) (hfb : ∀ f ∈ x.fs, f.blk ≠ fb) (hrow : w.heap[fb]? = some (.cells #[.slice none 0 0, .slice none 0 0] 113 (0, 0))) (hsm : x.made < 1000000 ∧ x.fs.length < 1000000) :
    Calls Tryz.prog 97 #[.pointer (some ⟨q, 0, none⟩), .pointer (some ⟨fb, 0, none⟩)] w fun e w' => e = .returned (nv (x.made + 1)) ∧ PD w' q (x.addF fb) ∧ But (fun k => k = q ∨ k = x.fm) w w' := by
  have hmx : Tryz.prog.follows .mixedOrders = true := by kernel_rfl
  obtain ⟨m, Hm⟩ : ∃ m, Hid (x.made = m) := ⟨_, rfl⟩
  obtain ⟨m1, hm1⟩ : ∃ m1, m + 1 = m1 := ⟨_, rfl⟩
  have Hm1 : Hid (x.made + 1 = m1) := by show _ = _; rw [Hm.out, hm1]
  have em : (m : Int) + 1 = (m1 : Int) := by omega
  have hmI : (m1 : Int) ≤ 1000000 := by have := hsm.1; rw [Hm.out] at this; omega
  have d3 := h.cell 3 (nv x.made) rfl
  have d2 := h.cell 2 (mv x.fm) rfl
  have f3 := h.frozen 3
  rw [Hm.out] at d3
  obtain ⟨fm, Hfm⟩ : ∃ b, Hid (x.fm = b) := ⟨_, rfl⟩
  rw [Hfm.out] at d2
  unfold nv at d3
  unfold mv at d2
  have hr1 := row_setCell h.row 3 (.int .i64 (m1 : Int))
  have hB1 : But (fun k => k = q) w (w.setCell ⟨q, 3, none⟩ (.int .i64 (m1 : Int))) := But.setCell (But.refl' _ _) _ _ rfl
  have c3 : (w.setCell ⟨q, 3, none⟩ (.int .i64 (m1 : Int))).cell? ⟨q, 3, none⟩ = some (.int .i64 (m1 : Int)) := by rw [cell_of_row _ q 3 _ _ _ hr1]; rfl
  have c2 : (w.setCell ⟨q, 3, none⟩ (.int .i64 (m1 : Int))).cell? ⟨q, 2, none⟩ = some (.map (some fm)) := by rw [cell_of_row _ q 2 _ _ _ hr1]; show some (mv x.fm) = _; rw [Hfm.out]; rfl
  have HM := Lib.hid (h.files.map.kept (hB1.block _ h.files.map.lt fun e => h.qF (.inl e.symm)))
  have Hok := Lib.hid h.okF
  have Hlen : Hid ((x.fs.map Fi.ent).length < maxLen ∧ okI m1 ∧ ∀ p ∈ x.fs.map Fi.ent, p.1 ≠ m1) := by
    show _ ∧ _ ∧ _
    refine ⟨?_, ?_, ?_⟩
    · rw [List.length_map]; unfold maxLen; omega
    · unfold okI; omega
    · intro p hp
      obtain ⟨f, hf, rfl⟩ := List.mem_map.1 hp
      have := h.wf.nums f hf
      have := Hm1.out
      show f.num ≠ m1
      omega
  rw [Hfm.out] at HM
  have H := Lib.hid h
  have Hrow := Lib.hid hrow
  have Hfb := Lib.hid hfb
  have Hsm := Lib.hid hsm
  have Hr1 := Lib.hid hr1
  have HB1 := Lib.hid hB1
  clear h hrow hfb hsm hr1 hB1 hm1
  rw [Hm1.out]
  unfold nv
  go_enter Tryz.func97, Tryz.ntmps97
  go_wp2
  refine specs_last 9
    #[[], [0], [0, 1], [0, 1, 2], [], [4], [4, 5], [4, 5, 6], [], [0, 1, 2, 3, 4, 5, 6, 7, 8]] #[[0], [], [], [], [0], [], [], [], [1], []] #[true, true, true, true, true, true, true, true, true, true]
    ((.val ?v0) :: (.val ?v1) :: (.val ?v2) :: (.val ?v3) :: (.val ?v4) :: (.val ?v5) :: (.val ?v6) :: (.val ?v7) :: (.val ?v8) :: (.any) :: []).toArray
    hmx ?chk ?grd rfl ?stp ?rst
  case chk => rfl
  case stp =>
    refine ⟨?_, ?_, ?_, ?_, ?_, ?_, ?_, ?_, ?_, ?_, trivial⟩
    · refine step_intro rfl rfl fun ρ X hc hf hgl hX hp ho => ?_
      change StepOk _ { dst := _, op := Op.move (Operand.tmp 0), type := _, pos := _, after := _, guard := _ } _ _ _
      have k0 : ρ (.tmp 0) = .pointer (some ⟨q, 0, none⟩) := ho 0 (by decide)
      clear hp ho
      refine StepOk.of_run (v := ?v0) (w' := X) ?_ ⟨rfl, Below.refl _ _⟩
      clear hX
      go_simp
      all_goals try go_bits
      all_goals try simp only [IntWalk.iteOmega]
      all_goals try go_bits
      all_goals rfl
    · refine step_intro rfl rfl fun ρ X hc hf hgl hX hp ho => ?_
      change StepOk _ { dst := _, op := Op.nilCheck (Operand.tmp 12), type := _, pos := _, after := _, guard := _ } _ _ _
      have k12 : ρ (.tmp 12) = ?v0 := hp 0 (by decide)
      clear hp ho
      refine StepOk.of_run (v := ?v1) (w' := X) ?_ ⟨rfl, Below.refl _ _⟩
      clear hX
      go_simp
      all_goals try go_bits
      all_goals try simp only [IntWalk.iteOmega]
      all_goals try go_bits
      all_goals rfl
    · refine step_intro rfl rfl fun ρ X hc hf hgl hX hp ho => ?_
      change StepOk _ { dst := _, op := Op.fieldAddr 100 (Operand.tmp 13) 2, type := _, pos := _, after := _, guard := _ } _ _ _
      have k13 : ρ (.tmp 13) = ?v1 := hp 1 (by decide)
      clear hp ho
      refine StepOk.of_run (v := ?v2) (w' := X) ?_ ⟨rfl, Below.refl _ _⟩
      clear hX
      go_simp
      all_goals try go_bits
      all_goals try simp only [IntWalk.iteOmega]
      all_goals try go_bits
      all_goals rfl
    · refine step_intro rfl rfl fun ρ X hc hf hgl hX hp ho => ?_
      change StepOk _ { dst := _, op := Op.load 95 (Operand.tmp 14), type := _, pos := _, after := _, guard := _ } _ _ _
      have k14 : ρ (.tmp 14) = ?v2 := hp 2 (by decide)
      have c2X := Grows.cell' hX c2
      have c3X := Grows.cell' hX c3
      clear hp ho
      refine StepOk.of_run (v := ?v3) (w' := X) ?_ ⟨rfl, Below.refl _ _⟩
      clear hX
      go_simp
      all_goals try go_bits
      all_goals try simp only [IntWalk.iteOmega]
      all_goals try go_bits
      all_goals rfl
    · refine step_intro rfl rfl fun ρ X hc hf hgl hX hp ho => ?_
      change StepOk _ { dst := _, op := Op.move (Operand.tmp 0), type := _, pos := _, after := _, guard := _ } _ _ _
      have k0 : ρ (.tmp 0) = .pointer (some ⟨q, 0, none⟩) := ho 0 (by decide)
      clear hp ho
      refine StepOk.of_run (v := ?v4) (w' := X) ?_ ⟨rfl, Below.refl _ _⟩
      clear hX
      go_simp
      all_goals try go_bits
      all_goals try simp only [IntWalk.iteOmega]
      all_goals try go_bits
      all_goals rfl
    · refine step_intro rfl rfl fun ρ X hc hf hgl hX hp ho => ?_
      change StepOk _ { dst := _, op := Op.nilCheck (Operand.tmp 16), type := _, pos := _, after := _, guard := _ } _ _ _
      have k16 : ρ (.tmp 16) = ?v4 := hp 4 (by decide)
      clear hp ho
      refine StepOk.of_run (v := ?v5) (w' := X) ?_ ⟨rfl, Below.refl _ _⟩
      clear hX
      go_simp
      all_goals try go_bits
      all_goals try simp only [IntWalk.iteOmega]
      all_goals try go_bits
      all_goals rfl
    · refine step_intro rfl rfl fun ρ X hc hf hgl hX hp ho => ?_
      change StepOk _ { dst := _, op := Op.fieldAddr 100 (Operand.tmp 17) 3, type := _, pos := _, after := _, guard := _ } _ _ _
      have k17 : ρ (.tmp 17) = ?v5 := hp 5 (by decide)
      clear hp ho
      refine StepOk.of_run (v := ?v6) (w' := X) ?_ ⟨rfl, Below.refl _ _⟩
      clear hX
      go_simp
      all_goals try go_bits
      all_goals try simp only [IntWalk.iteOmega]
      all_goals try go_bits
      all_goals rfl
    · refine step_intro rfl rfl fun ρ X hc hf hgl hX hp ho => ?_
      change StepOk _ { dst := _, op := Op.load 3 (Operand.tmp 18), type := _, pos := _, after := _, guard := _ } _ _ _
      have k18 : ρ (.tmp 18) = ?v6 := hp 6 (by decide)
      have c2X := Grows.cell' hX c2
      have c3X := Grows.cell' hX c3
      clear hp ho
      refine StepOk.of_run (v := ?v7) (w' := X) ?_ ⟨rfl, Below.refl _ _⟩
      clear hX
      go_simp
      all_goals try go_bits
      all_goals try simp only [IntWalk.iteOmega]
      all_goals try go_bits
      all_goals rfl
    · refine step_intro rfl rfl fun ρ X hc hf hgl hX hp ho => ?_
      change StepOk _ { dst := _, op := Op.move (Operand.tmp 1), type := _, pos := _, after := _, guard := _ } _ _ _
      have k1 : ρ (.tmp 1) = .pointer (some ⟨fb, 0, none⟩) := ho 1 (by decide)
      clear hp ho
      refine StepOk.of_run (v := ?v8) (w' := X) ?_ ⟨rfl, Below.refl _ _⟩
      clear hX
      go_simp
      all_goals try go_bits
      all_goals try simp only [IntWalk.iteOmega]
      all_goals try go_bits
      all_goals rfl
    · exact last_intro rfl
  case grd => rfl
  case rst =>
    intro a0 X hb
    have hfr := hb.frame ((12, ?v0) :: (13, ?v1) :: (14, ?v2) :: (15, ?v3) :: (16, ?v4) :: (17, ?v5) :: (18, ?v6) :: (19, ?v7) :: (20, ?v8) :: []) rfl ⟨hb.done' 0 12 rfl rfl, hb.done' 1 13 rfl rfl, hb.done' 2 14 rfl rfl, hb.done' 3 15 rfl rfl, hb.done' 4 16 rfl rfl, hb.done' 5 17 rfl rfl, hb.done' 6 18 rfl rfl, hb.done' 7 19 rfl rfl, hb.done' 8 20 rfl rfl, trivial⟩
    simp only [updL, ↓reduceIte, Nat.reduceEqDiff, Nat.reduceAdd, Nat.zero_add] at hfr
    have HX := Lib.hid hb.ext
    clear hb
    subst hfr
    change StepOk _ { dst := _, op := Op.mapUpdate 95 (Operand.tmp 15) (Operand.tmp 19) (Operand.tmp 20), type := _, pos := _, after := _, guard := _ } _ _ _
    obtain ⟨W3, hrun, hm3, hg3, hs3⟩ := (HM.out.grows HX.out).put keyF Hok.out Tryz.underlying95 Hlen.out.1 m1 Hlen.out.2.1 fb
    unfold nv pv at hrun
    have cX : W3.cell? ⟨q, 3, none⟩ = some (.int .i64 (m1 : Int)) := (World.cell?_of_block (a := ⟨q, 3, none⟩) (hg3.block q (by have := World.block_lt_of_cell? _ _ c3; have := HX.out.size; simp at *; omega) (fun e => H.out.qF (.inl (by rw [Hfm.out]; exact Option.some.inj e))))).trans (HX.out.cell' c3)
    have hB3 : But (fun k => k = q ∨ k = x.fm) w W3 := (HB1.out.mono fun k hk => .inl hk).trans' ((But.ofGrows HX.out).trans' ((But.one hg3).mono fun k hk => .inr (by rw [Hfm.out]; exact hk)))
    have hq3 : W3.heap[q]? = some (.cells (pdRow { x with made := x.made + 1 }) 100 (0, 0)) := by
      have hr3 := HX.out.heap' Hr1.out
      rw [hg3.block q (Array.getElem?_eq_some_iff.1 hr3).1 (fun e => H.out.qF (.inl (by rw [Hfm.out]; exact Option.some.inj e))), hr3]
      show some (Obj.cells ((pdRow x).setIfInBounds 3 _) _ _) = _
      unfold pdRow
      rw [show nv ({ x with made := x.made + 1 } : Px).made = .int .i64 (m1 : Int) by show nv (x.made + 1) = _; rw [Hm1.out]; rfl]
      rfl
    have HF := Lib.hid (H.out.addFile fb Hfb.out Hrow.out hB3 hq3 (by
      have hm4 := hm3
      unfold putA at hm4
      rw [delA_id Hlen.out.2.2] at hm4
      rw [Hm1.out, Hfm.out]
      exact hm4) Hsm.out)
    have HB3 := Lib.hid hB3
    clear hB3 hq3 hm3 hg3 hs3
    unfold StepOk
    simp [go_sem, execOp, hrun]
    clear hrun
    go_wp2
    go_ret
    exact ⟨rfl, HF.out, HB3.out⟩

set_option maxRecDepth 100000 in
set_option maxHeartbeats 1000000 in
theorem pCreate {w : World} {q : Nat} {x : Px} (h : PD w q x) (nm : Nm) (hn : okS nm) (hnl : True) (hsm : x.dirs.length < 1000000 ∧ x.made < 1000000 ∧ x.fs.length < 1000000) :
    Calls Tryz.prog 73 #[.pointer (some ⟨q, 0, none⟩), sv nm] w fun e w' => e = .returned (.int .i64 (createP x.s nm).1) ∧ ∃ x', PD w' q x' ∧ x'.s = (createP x.s nm).2 ∧ TurnP q x x' w w' := by
  have HB := Lib.hid (pBegin h)
  have HN := Lib.hid (pIsName nm hnl)
  have Hn := Lib.hid hn
  have Hsm := Lib.hid hsm
  unfold sv at HN ⊢
  by_cases hf : (beginP x.s).1 = 0
  · have Hs : Hid (createP x.s nm = if nameOK nm = false then (2, (beginX x).s) else if (findA (nowX x).2 nm).isSome then (40, (beginX x).s) else if 8 ≤ (nowX x).2.length then (6, (beginX x).s)
        else (0, { (beginX x).s with dirs := (beginX x).s.dirs ++ [putA (nowX x).2 nm (x.made + 1)], files := (beginX x).s.files ++ [(x.made + 1, ([], []))], made := x.made + 1 })) := by
      show _ = _
      unfold createP
      rw [guardP_yes hf, ← beginX_s, nowX_s]
      rfl
    rw [hf] at HB
    clear h hn hnl hsm hf
    by_cases hok : nameOK nm = false
    · have Hr : Hid (createP x.s nm = (2, (beginX x).s)) := by show _ = _; rw [Hs.out, if_pos hok]
      rw [hok] at HN
      clear hok
      go_enter Tryz.func73, Tryz.ntmps73
      go_wp2_with fail
      refine HB.out.mono ?_
      rintro e w1 ⟨rfl, hP, hT⟩
      have HP := Lib.hid hP
      have HT := Lib.hid hT
      clear hP hT
      go_wp2_with fail
      refine (HN.out _).mono ?_
      rintro e w2 ⟨rfl, e3⟩
      have e4 := e3.symm
      subst e4
      go_wp2
      go_ret
      exact ⟨by rw [Hr.out]; rfl, beginX x, HP.out, by rw [Hr.out], HT.out⟩
    · have hok' : nameOK nm = true := by simpa using hok
      have Hok := Lib.hid hok'
      have Hs2 : Hid (createP x.s nm = if (findA (nowX x).2 nm).isSome then (40, (beginX x).s) else if 8 ≤ (nowX x).2.length then (6, (beginX x).s)
        else (0, { (beginX x).s with dirs := (beginX x).s.dirs ++ [putA (nowX x).2 nm (x.made + 1)], files := (beginX x).s.files ++ [(x.made + 1, ([], []))], made := x.made + 1 })) := by
        show _ = _; rw [Hs.out, if_neg hok]
      rw [hok'] at HN
      clear hok hok' Hs
      cases hd : findA (nowX x).2 nm with
      | some n =>
        have hr' : findR (nowX x).2 nm = .tuple #[nv n, .int .i64 0] := by unfold findR; rw [hd]
        have Hr : Hid (createP x.s nm = (40, (beginX x).s)) := by show _ = _; rw [Hs2.out, hd]; rfl
        have Hr' := Lib.hid hr'
        clear hd hr'
        go_enter Tryz.func73, Tryz.ntmps73
        go_wp2_with fail
        refine HB.out.mono ?_
        rintro e w1 ⟨rfl, hP, hT⟩
        have HP := Lib.hid hP
        have HT := Lib.hid hT
        have HF := Lib.hid (pFind hP nm Hn.out)
        rw [show (nowX (beginX x)).2 = (nowX x).2 from rfl, Hr'.out] at HF
        unfold sv at HF
        clear hP hT
        go_wp2_with fail
        refine (HN.out _).mono ?_
        rintro e w2 ⟨rfl, e3⟩
        have e4 := e3.symm
        subst e4
        go_wp2_with fail
        refine HF.out.mono ?_
        rintro e w3 ⟨rfl, hG⟩
        have HG := Lib.hid hG
        clear hG
        go_wp2
        go_ret
        exact ⟨by rw [Hr.out]; rfl, beginX x, HP.out.grows HG.out, by rw [Hr.out], HT.out.trans (TurnP.ofGrows HG.out)⟩
      | none =>
        have hr' : findR (nowX x).2 nm = .tuple #[.int .i64 0, .int .i64 7] := by unfold findR; rw [hd]
        have Hs3 : Hid (createP x.s nm = if 8 ≤ (nowX x).2.length then (6, (beginX x).s)
          else (0, { (beginX x).s with dirs := (beginX x).s.dirs ++ [putA (nowX x).2 nm (x.made + 1)], files := (beginX x).s.files ++ [(x.made + 1, ([], []))], made := x.made + 1 })) := by
          show _ = _; rw [Hs2.out, hd]; rfl
        have Hr' := Lib.hid hr'
        have Hd := Lib.hid hd
        obtain ⟨L, HL⟩ : ∃ L, Hid ((nowX x).2.length = L) := ⟨_, rfl⟩
        clear hd hr' Hs2
        by_cases h8 : 8 ≤ L
        · have Hr : Hid (createP x.s nm = (6, (beginX x).s)) := by show _ = _; rw [Hs3.out, HL.out, if_pos h8]
          have h8I : (8 : Int) ≤ (L : Int) := by omega
          clear h8
          go_enter Tryz.func73, Tryz.ntmps73
          go_wp2_with fail
          refine HB.out.mono ?_
          rintro e w1 ⟨rfl, hP, hT⟩
          have HP := Lib.hid hP
          have HT := Lib.hid hT
          have HF := Lib.hid (pFind hP nm Hn.out)
          rw [show (nowX (beginX x)).2 = (nowX x).2 from rfl, Hr'.out] at HF
          unfold sv at HF
          clear hP hT
          go_wp2_with fail
          refine (HN.out _).mono ?_
          rintro e w2 ⟨rfl, e3⟩
          have e4 := e3.symm
          subst e4
          go_wp2_with fail
          refine HF.out.mono ?_
          rintro e w3 ⟨rfl, hG⟩
          have hP3 := HP.out.grows hG
          have HW := Lib.hid (pNow hP3)
          have HM3 := Lib.hid (hP3.dirs.map _ (nowX_mem _ hP3.wf.ne))
          have HG := Lib.hid hG
          clear hG hP3
          rw [show nowX (beginX x) = nowX x from rfl] at HW HM3
          unfold mv at HW
          go_wp2_with fail
          refine HW.out.mono ?_
          rintro e w4 ⟨rfl, hG⟩
          have HM4 := Lib.hid (HM3.out.grows hG)
          have HG4 := Lib.hid (Grows.trans' HG.out hG)
          clear hG
          go_wp2_with (at_len; refine wpList_lenA rfl _ 103 3 rfl HM4.out Tryz.underlying103 rfl ?_; rw [HL.out])
          go_ret
          exact ⟨by rw [Hr.out]; rfl, beginX x, HP.out.grows HG4.out, by rw [Hr.out], HT.out.trans (TurnP.ofGrows HG4.out)⟩
        · have Hr : Hid (createP x.s nm = (0, { (beginX x).s with dirs := (beginX x).s.dirs ++ [putA (nowX x).2 nm (x.made + 1)], files := (beginX x).s.files ++ [(x.made + 1, ([], []))], made := x.made + 1 })) := by
            show _ = _; rw [Hs3.out, HL.out, if_neg h8]
          have h8I : ¬ (8 : Int) ≤ (L : Int) := by omega
          have H8 := Lib.hid h8
          clear h8 Hs3
          go_enter Tryz.func73, Tryz.ntmps73
          go_wp2_with fail
          refine HB.out.mono ?_
          rintro e w1 ⟨rfl, hP, hT⟩
          have HP := Lib.hid hP
          have HT := Lib.hid hT
          have HF := Lib.hid (pFind hP nm Hn.out)
          rw [show (nowX (beginX x)).2 = (nowX x).2 from rfl, Hr'.out] at HF
          unfold sv at HF
          clear hP hT
          go_wp2_with fail
          refine (HN.out _).mono ?_
          rintro e w2 ⟨rfl, e3⟩
          have e4 := e3.symm
          subst e4
          go_wp2_with fail
          refine HF.out.mono ?_
          rintro e w3 ⟨rfl, hG⟩
          have hP3 := HP.out.grows hG
          have HW := Lib.hid (pNow hP3)
          have HM3 := Lib.hid (hP3.dirs.map _ (nowX_mem _ hP3.wf.ne))
          have HG := Lib.hid hG
          clear hG hP3
          rw [show nowX (beginX x) = nowX x from rfl] at HW HM3
          unfold mv at HW
          go_wp2_with fail
          refine HW.out.mono ?_
          rintro e w4 ⟨rfl, hG⟩
          have HM4 := Lib.hid (HM3.out.grows hG)
          have HG4 := Lib.hid (Grows.trans' HG.out hG)
          have HP4 := Lib.hid (HP.out.grows HG4.out)
          have HT4 := Lib.hid (HT.out.trans (TurnP.ofGrows HG4.out))
          have HC := Lib.hid (pChange HP4.out Hsm.out.1)
          clear hG
          go_wp2_with (at_len; refine wpList_lenA rfl _ 103 3 rfl HM4.out Tryz.underlying103 rfl ?_; rw [HL.out])
          refine HC.out.mono ?_
          rintro e w5 ⟨nb, v, rfl, hle, hP5, hT5, hM5⟩
          have HP5 := Lib.hid hP5
          have HT5 := Lib.hid hT5
          have HM5 := Lib.hid hM5
          have Hle := Lib.hid hle
          have hP6 := hP5.grows (Grows.alloc' w5 (.cells #[.slice none 0 0, .slice none 0 0] 113))
          have HA := Lib.hid (pAdd hP6 w5.heap.size (fun f hf => by have := hP5.ltU (k := f.blk) (.inr (.inr (.inl (.inr ⟨f, hf, .inl rfl⟩)))); omega) (heap_alloc_new w5 _) Hsm.out.2)
          have HP6 := Lib.hid hP6
          clear hle hP5 hT5 hM5 hP6
          rw [show ((beginX x).push v nb (nowX (beginX x)).2).made + 1 = x.made + 1 from rfl] at HA
          go_wp2_with fail
          refine HA.out.mono ?_
          rintro e w6 ⟨rfl, hP7, hB7⟩
          have HP7 := Lib.hid hP7
          have HB7 := Lib.hid hB7
          have Hok6 : Hid (∀ p ∈ (nowX x).2, okS p.1) := HP.out.okD (nowX_mem _ HP.out.wf.ne)
          have hM6 : MapA sv nv w6 nb (nowX x).2 := HP7.out.dirs.map (nb, (nowX x).2) (by simp [Px.addF, Px.push]; right; rfl)
          have HM6 := Lib.hid hM6
          have HlenL : Hid ((nowX x).2.length < maxLen) := by show _ < _; have := HP.out.wf.names _ (nowX_mem _ HP.out.wf.ne); have e : (nowX (beginX x)).2.length = (nowX x).2.length := rfl; unfold maxLen; omega
          clear hP7 hB7 hM6
          go_wp2_with (at_mapUpdate; refine wpList_putA rfl _ _ _ 103 3 rfl HM6.out keyD Hok6.out Tryz.underlying103 HlenL.out nm Hn.out (x.made + 1) rfl rfl rfl ?_; intro w7 hm7 hg7 hs7)
          have HF7 : Hid (PD w7 q (((beginX x).addF w5.heap.size).push v nb (putA (nowX x).2 nm (x.made + 1))) ∧ TurnP q (beginX x) (((beginX x).addF w5.heap.size).push v nb (putA (nowX x).2 nm (x.made + 1))) w4 w7) := by
            have e0 : ((beginX x).push v nb (nowX (beginX x)).2).addF w5.heap.size = ((beginX x).addF w5.heap.size).push v nb (nowX x).2 := rfl
            have h7 := HP7.out
            rw [e0] at h7
            have hnb : ∀ e ∈ (beginX x).dirs, e.1 ≠ nb := HP4.out.oldDirs Hle.out
            refine ⟨h7.turnDir _ nb _ _ rfl hnb hg7 hm7 ⟨?_, ?_⟩, ?_⟩
            · unfold putA
              rw [List.length_append]
              have := delA_len (nowX x).2 nm
              have := HL.out
              have := H8.out
              simp only [List.length_cons, List.length_nil]
              omega
            · intro e he
              rcases List.mem_append.1 he with he | he
              · obtain ⟨h1, f, hf, h2⟩ := (HP.out.wf.names _ (nowX_mem _ HP.out.wf.ne)).2 e (delA_mem he)
                exact ⟨h1, f, List.mem_append.2 (.inl hf), h2⟩
              · rw [List.mem_singleton.1 he]
                exact ⟨Hok.out, _, List.mem_append.2 (.inr (List.mem_singleton.2 rfl)), rfl⟩
            · have hsz := HT5.out.but.size
              refine HT5.out.step (O := fun k => k = q ∨ k = x.fm ∨ w4.heap.size ≤ k) ((But.ofGrows (Grows.alloc' w5 _)).trans' ((HB7.out.mono fun k hk => hk.imp id .inl).trans' ((But.one hg7).mono fun k hk => .inr (.inr (by rw [hk]; exact Hle.out))))) ?_ ?_ ?_
              · intro k hk
                rcases hk with hk | hk | hk
                · exact .inl (.inl hk)
                · exact .inl (.inr (.inr (.inl (.inl hk))))
                · exact .inr hk
              · intro k hk
                rcases hk with hk | hk | hk | hk
                · exact .inl (.inl hk)
                · exact .inl (.inr (.inl hk))
                · rcases hk with hk | ⟨f, hf, hk⟩
                  · exact .inl (.inr (.inr (.inl (.inl hk))))
                  · rcases List.mem_append.1 hf with hf | hf
                    · exact .inl (.inr (.inr (.inl (.inr ⟨f, hf, hk⟩))))
                    · rw [List.mem_singleton.1 hf] at hk
                      rcases hk with hk | hk | hk
                      · right; have : k = w5.heap.size := hk; omega
                      · simp [Value.ownBlock] at hk
                      · simp [Value.ownBlock] at hk
                · exact .inl (.inr (.inr (.inr hk)))
              · intro k hk
                rcases hk with hk | hk | hk | hk
                · exact .inl (.inl hk)
                · rcases hk with hk | ⟨e, he, rfl⟩
                  · exact .inl (.inr (.inl (.inl hk)))
                  · rcases List.mem_append.1 he with he | he
                    · exact .inl (.inr (.inl (.inr ⟨e, List.mem_append.2 (.inl he), rfl⟩)))
                    · rw [List.mem_singleton.1 he]; exact .inr Hle.out
                · rcases hk with hk | ⟨f, hf, hk⟩
                  · exact .inl (.inr (.inr (.inl (.inl hk))))
                  · rcases List.mem_append.1 hf with hf | hf
                    · exact .inl (.inr (.inr (.inl (.inr ⟨f, hf, hk⟩))))
                    · rw [List.mem_singleton.1 hf] at hk
                      rcases hk with hk | hk | hk
                      · right; have : k = w5.heap.size := hk; omega
                      · simp [Value.ownBlock] at hk
                      · simp [Value.ownBlock] at hk
                · exact .inl (.inr (.inr (.inr hk)))
          clear hm7 hg7 hs7
          go_wp2
          go_ret
          refine ⟨by rw [Hr.out]; rfl, _, HF7.out.1, ?_, HT4.out.trans HF7.out.2⟩
          rw [Hr.out]
          unfold Px.push Px.addF Px.s
          simp
          exact ⟨rfl, rfl⟩
  · have Hr : Hid (createP x.s nm = beginP x.s) := guardP_no hf
    obtain ⟨fc, Hfc⟩ : ∃ y, Hid ((beginP x.s).1 = y) := ⟨_, rfl⟩
    rw [Hfc.out] at HB hf
    have hne : (fc == 0) = false := by simpa using hf
    clear h hn hsm hf hnl
    go_enter Tryz.func73, Tryz.ntmps73
    go_wp2_with fail
    refine HB.out.mono ?_
    rintro e w1 ⟨rfl, hP, hT⟩
    have HP := Lib.hid hP
    have HT := Lib.hid hT
    clear hP hT
    go_wp2
    go_ret
    exact ⟨by rw [Hr.out, Hfc.out]; rfl, beginX x, HP.out, by rw [Hr.out, beginX_s], HT.out⟩
end Go.Proofs.YtoppcpiheaedlaaGreatDoor
