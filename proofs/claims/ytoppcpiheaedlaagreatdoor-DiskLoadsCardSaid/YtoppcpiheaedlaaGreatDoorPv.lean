/-
  The program's disk: another name for a file.
-/
import Derived.Test.YtoppcpiheaedlaaGreatDoorNl
namespace Go.Proofs.YtoppcpiheaedlaaGreatDoor
open Go.RowKit Go.Maps Go.MapKept
set_option linter.unusedVariables false
set_option linter.unusedSimpArgs false
attribute [local go_sem] sv nv mv pv

theorem delA_lt {α β : Type} [DecidableEq α] {l : List (α × β)} {a : α} {b : β} (h : findA l a = some b) : (delA l a).length < l.length := by
  unfold delA
  rcases Nat.lt_or_ge (l.filter fun p => decide (p.1 ≠ a)).length l.length with h1 | h1
  · exact h1
  · exfalso
    have h2 : (l.filter fun p => decide (p.1 ≠ a)).length = l.length := Nat.le_antisymm (List.length_filter_le _ _) h1
    have h3 := List.length_filter_eq_length_iff.1 h2 (a, b) (findA_mem h)
    simp at h3
set_option maxRecDepth 100000 in
theorem pRename {w : World} {q : Nat} {x : Px} (h : PD w q x) (nm to : Nm) (hn : okS nm) (hto : okS to) (hnl : True) (hsm : x.dirs.length < 1000000) :
    Calls Tryz.prog 85 #[.pointer (some ⟨q, 0, none⟩), sv nm, sv to] w fun e w' => e = .returned (.int .i64 (renameP x.s nm to).1) ∧ ∃ x', PD w' q x' ∧ x'.s = (renameP x.s nm to).2 ∧ TurnP q x x' w w' := by
  have HB := Lib.hid (pBeginWith h nm hn)
  have HN := Lib.hid (pIsName to hnl)
  have Hn := Lib.hid hn
  have Hto := Lib.hid hto
  have Hsm := Lib.hid hsm
  unfold sv at HB HN ⊢
  by_cases hf : (beginP x.s).1 = 0
  · have Hs : Hid (renameP x.s nm to = match findA (nowX x).2 nm with
        | none => (7, (beginP x.s).2)
        | some n => if nameOK to = false then (2, (beginP x.s).2) else (0, { (beginP x.s).2 with dirs := (beginP x.s).2.dirs ++ [putA (delA (nowX x).2 nm) to n] })) := by
      show _ = _
      unfold renameP
      rw [guardP_yes hf, ← beginX_s, nowX_s]
      rfl
    have hr : bwR x nm = findR (nowX x).2 nm := by unfold bwR; rw [if_pos hf]
    rw [hr] at HB
    cases hd : findA (nowX x).2 nm with
    | none =>
      have hr' : findR (nowX x).2 nm = .tuple #[.int .i64 0, .int .i64 7] := by unfold findR; rw [hd]
      have Hr : Hid (renameP x.s nm to = (7, (beginP x.s).2)) := by show _ = _; rw [Hs.out, hd]
      rw [hr'] at HB
      clear h hn hsm hf hr hd hr' hto hnl
      go_enter Tryz.func85, Tryz.ntmps85
      go_wp2_with fail
      refine HB.out.mono ?_
      rintro e w1 ⟨rfl, hP, hT⟩
      have HP := Lib.hid hP
      have HT := Lib.hid hT
      clear hP hT
      go_wp2
      go_ret
      exact ⟨by rw [Hr.out]; rfl, beginX x, HP.out, by rw [Hr.out, beginX_s], HT.out⟩
    | some n =>
      have hr' : findR (nowX x).2 nm = .tuple #[nv n, .int .i64 0] := by unfold findR; rw [hd]
      have Hd := Lib.hid hd
      rw [hr'] at HB
      by_cases hok : nameOK to = false
      · have Hr : Hid (renameP x.s nm to = (2, (beginP x.s).2)) := by show _ = _; rw [Hs.out, hd]; exact if_pos hok
        rw [hok] at HN
        clear h hn hsm hf hr hd hr' hto hnl hok
        go_enter Tryz.func85, Tryz.ntmps85
        go_wp2_with fail
        refine HB.out.mono ?_
        rintro e w1 ⟨rfl, hP, hT⟩
        have HP := Lib.hid hP
        have HT := Lib.hid hT
        clear hP hT
        go_wp2_with fail
        refine (HN.out _).mono ?_
        rintro e w2 ⟨rfl, e3⟩
        have e4 := e3.symm
        subst e4
        go_wp2
        go_ret
        exact ⟨by rw [Hr.out]; rfl, beginX x, HP.out, by rw [Hr.out, beginX_s], HT.out⟩
      · have hok' : nameOK to = true := by simpa using hok
        have Hok := Lib.hid hok'
        have Hr : Hid (renameP x.s nm to = (0, { (beginP x.s).2 with dirs := (beginP x.s).2.dirs ++ [putA (delA (nowX x).2 nm) to n] })) := by show _ = _; rw [Hs.out, hd]; exact if_neg hok
        rw [hok'] at HN
        clear h hn hsm hf hr hd hr' hto hnl hok hok'
        go_enter Tryz.func85, Tryz.ntmps85
        go_wp2_with fail
        refine HB.out.mono ?_
        rintro e w1 ⟨rfl, hP, hT⟩
        have HP := Lib.hid hP
        have HT := Lib.hid hT
        have HC := Lib.hid (pChange hP Hsm.out)
        clear hP hT
        go_wp2_with fail
        refine (HN.out _).mono ?_
        rintro e w2 ⟨rfl, e3⟩
        have e4 := e3.symm
        subst e4
        go_wp2_with fail
        refine HC.out.mono ?_
        rintro e w2 ⟨nb, v, rfl, hle, hP2, hT2, hM2⟩
        have HP2 := Lib.hid hP2
        have HT2 := Lib.hid hT2
        have HM2 := Lib.hid hM2
        have Hle := Lib.hid hle
        have Hok0 : Hid (∀ p ∈ (nowX (beginX x)).2, okS p.1) := HP.out.okD (nowX_mem _ HP.out.wf.ne)
        have Hok1 : Hid (∀ p ∈ delA (nowX (beginX x)).2 nm, okS p.1) := fun p hp => Hok0.out p (delA_mem hp)
        have Hnames : Hid ((nowX (beginX x)).2.length ≤ 8 ∧ ∀ e ∈ (nowX (beginX x)).2, nameOK e.1 = true ∧ ∃ f ∈ (beginX x).fs, f.num = e.2) := HP.out.wf.names _ (nowX_mem _ HP.out.wf.ne)
        have Hlen1 : Hid ((delA (nowX (beginX x)).2 nm).length < maxLen) := by show _ < _; have := delA_len (nowX (beginX x)).2 nm; have := Hnames.out.1; unfold maxLen; omega
        clear hle hP2 hT2 hM2
        go_wp2_with (first
          | (at_delete; refine wpList_dropA rfl _ _ 103 3 rfl HM2.out keyD Hok0.out Tryz.underlying103 nm Hn.out rfl rfl ?_; intro w3 hm3 hg3 hs3; have HM3 := Lib.hid hm3; have HG3 := Lib.hid hg3; have HA := Lib.hid (HP.out.turnPush Hle.out HP2.out HT2.out hg3 hm3 ⟨Nat.le_trans (delA_len _ _) Hnames.out.1, fun e he => Hnames.out.2 e (delA_mem he)⟩); clear hm3 hg3 hs3)
          | (at_mapUpdate; refine wpList_putA rfl _ _ _ 103 3 rfl HM3.out keyD Hok1.out Tryz.underlying103 Hlen1.out to Hto.out n rfl rfl rfl ?_; intro w7 hm7 hg7 hs7))
        have HF7 := Lib.hid (HP.out.turnPush Hle.out HA.out.1 HA.out.2 hg7 hm7 (by
          have hl := delA_lt (l := (nowX (beginX x)).2) (a := nm) (b := n) Hd.out
          have h8 := Hnames.out.1
          refine ⟨?_, ?_⟩
          · unfold putA
            rw [List.length_append]
            have := delA_len (delA (nowX (beginX x)).2 nm) to
            simp only [List.length_cons, List.length_nil]
            omega
          · intro e he
            rcases List.mem_append.1 he with he | he
            · exact Hnames.out.2 e (delA_mem (delA_mem he))
            · rw [List.mem_singleton.1 he]
              exact ⟨Hok.out, (Hnames.out.2 _ (findA_mem (l := (nowX (beginX x)).2) Hd.out)).2⟩))
        clear hm7 hg7 hs7
        go_wp2
        go_ret
        refine ⟨by rw [Hr.out]; rfl, _, HF7.out.1, ?_, HT.out.trans HF7.out.2⟩
        rw [Hr.out, ← beginX_s]
        unfold Px.push Px.s
        simp
        rfl
  · have Hr : Hid (renameP x.s nm to = beginP x.s) := guardP_no hf
    have hr : bwR x nm = .tuple #[.int .i64 0, .int .i64 (beginP x.s).1] := by unfold bwR; rw [if_neg hf]
    rw [hr] at HB
    obtain ⟨fc, Hfc⟩ : ∃ y, Hid ((beginP x.s).1 = y) := ⟨_, rfl⟩
    rw [Hfc.out] at HB hf
    have hne : (fc == 0) = false := by simpa using hf
    clear h hn hsm hf hr hto hnl
    go_enter Tryz.func85, Tryz.ntmps85
    go_wp2_with fail
    refine HB.out.mono ?_
    rintro e w1 ⟨rfl, hP, hT⟩
    have HP := Lib.hid hP
    have HT := Lib.hid hT
    clear hP hT
    go_wp2
    go_ret
    exact ⟨by rw [Hr.out, Hfc.out]; rfl, beginX x, HP.out, by rw [Hr.out, beginX_s], HT.out⟩

set_option maxRecDepth 100000 in
theorem PRename {w : World} {q : Nat} {x : Px} (h : PD w q x) (nm to : Nm) (hn : okS nm) (hto : okS to) (hnl : True) (hsm : x.dirs.length < 1000000) :
    Calls Tryz.prog 38 #[.pointer (some ⟨q, 0, none⟩), sv nm, sv to] w (Does q x w opRename nm (renameP x.s nm to)) := by
  have HI := Lib.hid (pRename h nm to hn hto hnl hsm)
  obtain ⟨r, Hr⟩ : ∃ r, Hid (renameP x.s nm to = r) := ⟨_, rfl⟩
  rw [Hr.out] at HI ⊢
  unfold sv at HI ⊢
  clear h
  go_enter Tryz.func38, Tryz.ntmps38
  go_wp2_with fail
  refine HI.out.mono ?_
  rintro e w1 ⟨rfl, x', hP, hs, hT⟩
  have HP := Lib.hid hP
  have HS := Lib.hid hs
  have HT := Lib.hid hT
  clear hP hs hT
  have HF := Lib.hid (pFault opRename nm r.1 w1)
  unfold sv at HF
  go_wp2_with fail
  refine HF.out.mono ?_
  rintro e w2 ⟨v, rfl, hF, hG⟩
  have HFa := Lib.hid hF
  have HG := Lib.hid hG
  clear hF hG HF HI
  go_wp2
  go_ret
  exact ⟨v, rfl, HFa.out, x', HP.out.grows HG.out, HS.out, HT.out.trans (TurnP.ofGrows HG.out)⟩
end Go.Proofs.YtoppcpiheaedlaaGreatDoor
