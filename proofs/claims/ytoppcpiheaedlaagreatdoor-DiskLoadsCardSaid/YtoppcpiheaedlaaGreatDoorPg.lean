/-
  The program's disk: the next directory; names that are taken away; new files; names that are made.
-/
import Derived.Test.YtoppcpiheaedlaaGreatDoorPe
namespace Go.Proofs.YtoppcpiheaedlaaGreatDoor
open Go.RowKit Go.Maps Go.MapKept
set_option linter.unusedVariables false
set_option linter.unusedSimpArgs false
attribute [local go_sem] sv nv mv pv

theorem infoDir : (Tryz.prog.info? 103).map (fun i => (i.zero, i.size, i.bytes)) = some (some (.map none), 1, 8) := by kernel_rfl
theorem infoDir_parts : ∃ i z, Tryz.prog.info? 103 = some i ∧ i.zero = some z ∧ i.size = 1 ∧ i.bytes = 8 ∧ z.cells.size = 1 := by
  obtain ⟨i, h1, h2⟩ := Option.map_eq_some_iff.1 infoDir
  simp only [Prod.mk.injEq] at h2
  exact ⟨i, _, h1, h2.1, h2.2.1, h2.2.2, rfl⟩

/-- A disk with one directory more. -/
def Px.push (x : Px) (v : Value) (nb : Nat) (d : Dir) : Px := { x with vd := v, dirs := x.dirs ++ [(nb, d)] }
set_option maxRecDepth 100000 in
set_option maxHeartbeats 1000000 in
theorem pChange {w : World} {q : Nat} {x : Px} (h : PD w q x) (hsm : x.dirs.length < 1000000) :
    Calls Tryz.prog 101 #[.pointer (some ⟨q, 0, none⟩)] w fun e w' => ∃ nb v, e = .returned (.map (some nb)) ∧ w.heap.size ≤ nb ∧ PD w' q (x.push v nb (nowX x).2) ∧ TurnP q x (x.push v nb (nowX x).2) w w' ∧ MapA sv nv w' nb (nowX x).2 := by
  obtain ⟨i0, z0, hi, hz, hs2, hb2, hzs⟩ := infoDir_parts
  have HN := Lib.hid (pNow h)
  have H := Lib.hid h
  have HM := Lib.hid (h.dirs.map _ (nowX_mem x h.wf.ne))
  have Hnames := Lib.hid (h.wf.names _ (nowX_mem x h.wf.ne))
  obtain ⟨a, cap, e1⟩ := own_form h.dirs.row
  have c1 := h.cell 1 x.vd rfl
  have hown := h.dirs.row
  obtain ⟨n, Hn⟩ : ∃ n, Hid (x.dirs.length = n) := ⟨_, rfl⟩
  obtain ⟨xs, Hxs⟩ : ∃ xs, Hid (x.dirs.map (fun d => mv d.1) = xs) := ⟨_, rfl⟩
  have Hvc : Hid (x.vd = .slice a n cap) := by show _ = _; rw [e1, Hn.out]
  have hqn : ¬ (x.vd.ownBlock = some q) := fun e => h.qD (.inl e)
  rw [Hvc.out] at c1 hown hqn
  rw [Hn.out] at hown hsm
  rw [Hxs.out] at hown
  have Hown := Lib.hid hown
  have Hsm := Lib.hid hsm
  obtain ⟨b, hb⟩ : ∃ b, (nowX x).1 = b := ⟨_, rfl⟩
  obtain ⟨d, hd⟩ : ∃ d, (nowX x).2 = d := ⟨_, rfl⟩
  rw [hb] at HN HM
  rw [hd] at HM Hnames ⊢
  unfold mv at HN
  clear h e1 hown hsm hb hd
  go_enter Tryz.func101, Tryz.ntmps101
  go_wp2_with fail
  refine HN.out.mono ?_
  rintro e w1 ⟨rfl, hG⟩
  have HC := Lib.hid (pMapClone b d w1 (HM.out.grows hG))
  have HG := Lib.hid hG
  clear hG
  go_wp2_with fail
  refine HC.out.mono ?_
  rintro e w2 ⟨rfl, hm, hG, hs⟩
  have HM2 := Lib.hid hm
  have HG2 := Lib.hid (Grows.trans' HG.out hG)
  have c2 := HG2.out.cell' c1
  have hle : w.heap.size ≤ w1.heap.size := HG.out.size
  obtain ⟨nb, Hnb⟩ : ∃ nb, Hid (w1.heap.size = nb) := ⟨_, rfl⟩
  rw [Hnb.out] at HM2 hle ⊢
  have Hle := Lib.hid hle
  clear hm hG hs c1 hle
  go_wp2_with (at_builtin; refine wpList_appendx rfl _ _ 94 103 rfl i0 z0 1 8 Tryz.underlying94 hi hz hs2 hb2 hzs (by omega) _ n xs rfl ?q1 ⟨w2.heap.size, 0, none⟩ 1 1 [.map (some nb)] ?q2 rfl ?q3 ?q7 ?q4 ?q5 ?q6)
  case q1 => exact own_grows Hown.out (Grows.trans' HG2.out (Grows.alloc' _ _))
  case q2 => rfl
  case q3 =>
    intro j u hu
    rw [Addr.add_lit, Nat.zero_add, World.cell?_alloc_at _ _ _ _ rfl]
    simpa using hu
  case q7 => intro u hu; simp at hu; subst hu; rfl
  case q4 => have := Hsm.out; unfold maxLen; omega
  case q5 => have := Hsm.out; omega
  intro v6 w6 hown6 hgrow6 hat6
  obtain ⟨a6, c6, rfl⟩ := own_form hown6
  have hbut : But (fun k => x.vd.ownBlock = some k) w w6 := (But.ofGrows (Grows.trans' HG2.out (Grows.alloc' _ _))).trans' (But.grown hgrow6 (fun j hj => by rw [Hvc.out]; exact hj))
  have hM6 : MapA sv nv w6 nb d := (HM2.out.grows (Grows.alloc' _ _)).kept (hgrow6.block nb (by have := HM2.out.lt; first | omega | (simp; omega)) (fun e => by
    have h1 := kind_own Hown.out e.symm
    have h2 := kind_lt h1
    have := Hle.out
    omega))
  have HA := Lib.hid (H.out.pushDir nb d (.slice a6 (n + 1) c6) hbut (by rw [Hn.out, Hxs.out]; exact hown6) (by
      rw [Hvc.out]
      rcases hat6 with h | h
      · exact .inl h
      · right; intro j hj; rw [h] at hj; have := Option.some.inj hj; have := HG2.out.size; omega) hM6 Hle.out Hnames.out (by rw [Hn.out]; exact Hsm.out))
  have HM6 := Lib.hid hM6
  have hrow6 := hbut.blockEq (by rw [Hvc.out]; exact hqn) H.out.row
  have cX := cell_of_row w6 q 1 _ _ _ hrow6
  rw [show (pdRow x)[1]? = some x.vd from rfl, Hvc.out] at cX
  have fX : w6.frozen? ⟨q, 1, none⟩ = false := frozen_of_row w6 q 1 _ _ hrow6
  have Hnq : Hid (nb ≠ q) := by have := H.out.ltU (.inl rfl); have := Hle.out; show _ ≠ _; omega
  clear hown6 hgrow6 hat6 hbut hM6 hrow6
  go_wp2
  go_ret
  exact ⟨nb, _, rfl, Hle.out, HA.out.1, HA.out.2, HM6.out.kept ((But.setCell (But.refl' (fun k => k = q) w6) ⟨q, 1, none⟩ _ rfl).block nb HM6.out.lt Hnq.out)⟩

theorem delA_len {α β : Type} [DecidableEq α] (l : List (α × β)) (a : α) : (delA l a).length ≤ l.length := List.length_filter_le _ _
theorem delA_mem {α β : Type} [DecidableEq α] {l : List (α × β)} {a : α} {p : α × β} (h : p ∈ delA l a) : p ∈ l := (List.mem_filter.1 h).1
theorem delA_id {α β : Type} [DecidableEq α] {l : List (α × β)} {a : α} (h : ∀ p ∈ l, p.1 ≠ a) : delA l a = l := List.filter_eq_self.2 fun p hp => by simpa using h p hp
theorem nowX_push (x : Px) (v : Value) (nb : Nat) (d : Dir) : nowX (x.push v nb d) = (nb, d) := by
  unfold nowX Px.push
  simp [List.getLastD_eq_getLast?]
/-- Old directories lie elsewhere. -/
theorem PD.oldDirs {w : World} {q : Nat} {x : Px} (h : PD w q x) {nb : Nat} (hnb : w.heap.size ≤ nb) : ∀ e ∈ x.dirs, e.1 ≠ nb := fun e he => by
  have := h.ltU (k := e.1) (.inr (.inl (.inr ⟨e, he, rfl⟩)))
  omega
theorem push_mut {q : Nat} {x : Px} {v : Value} {nb : Nat} {d d' : Dir} {k : Nat} (h : mutP q (x.push v nb d) k) : mutP q (x.push v nb d') k := h
theorem push_use {q : Nat} {x : Px} {v : Value} {nb : Nat} {d d' : Dir} {k : Nat} (h : useP q (x.push v nb d) k) : useP q (x.push v nb d') k := by
  rcases h with h | h | h | h
  · exact .inl h
  · refine .inr (.inl ?_)
    rcases h with h | ⟨e, he, rfl⟩
    · exact .inl h
    · rcases List.mem_append.1 he with he | he
      · exact .inr ⟨e, List.mem_append.2 (.inl he), rfl⟩
      · rw [List.mem_singleton.1 he]
        exact .inr ⟨(nb, d'), by simp [Px.push], rfl⟩
  · exact .inr (.inr (.inl h))
  · exact .inr (.inr (.inr h))
/-- A change in the directory that was pushed. -/
theorem PD.turnPush {w w' w'' : World} {q : Nat} {x : Px} {v : Value} {nb : Nat} {d d' : Dir} (h0 : PD w q x) (hnb : w.heap.size ≤ nb) (h : PD w' q (x.push v nb d)) (hT : TurnP q x (x.push v nb d) w w') (hg : w'.grownBy w'' (some nb)) (hm : MapA sv nv w'' nb d')
    (hn : d'.length ≤ 8 ∧ ∀ e ∈ d', nameOK e.1 = true ∧ ∃ f ∈ x.fs, f.num = e.2) : PD w'' q (x.push v nb d') ∧ TurnP q x (x.push v nb d') w w'' :=
  ⟨h.turnDir x.dirs nb d d' rfl (h0.oldDirs hnb) hg hm hn, hT.step (But.one hg) (fun k hk => .inr (by omega)) (fun k hk => .inl (push_mut hk)) (fun k hk => .inl (push_use hk))⟩

set_option maxRecDepth 100000 in
set_option maxHeartbeats 1000000 in
theorem pRemove {w : World} {q : Nat} {x : Px} (h : PD w q x) (nm : Nm) (hn : okS nm) (hsm : x.dirs.length < 1000000) :
    Calls Tryz.prog 80 #[.pointer (some ⟨q, 0, none⟩), sv nm] w fun e w' => e = .returned (.int .i64 (removeP x.s nm).1) ∧ ∃ x', PD w' q x' ∧ x'.s = (removeP x.s nm).2 ∧ TurnP q x x' w w' := by
  have HB := Lib.hid (pBeginWith h nm hn)
  have Hn := Lib.hid hn
  have Hsm := Lib.hid hsm
  unfold sv at HB ⊢
  by_cases hf : (beginP x.s).1 = 0
  · have Hs : Hid (removeP x.s nm = if (findA (nowX x).2 nm).isNone then (7, (beginP x.s).2) else (0, { (beginP x.s).2 with dirs := (beginP x.s).2.dirs ++ [delA (nowX x).2 nm] })) := by
      show _ = _
      unfold removeP
      rw [guardP_yes hf, ← beginX_s, nowX_s]
      rfl
    have hr : bwR x nm = findR (nowX x).2 nm := by unfold bwR; rw [if_pos hf]
    rw [hr] at HB
    cases hd : findA (nowX x).2 nm with
    | none =>
      have hr' : findR (nowX x).2 nm = .tuple #[.int .i64 0, .int .i64 7] := by unfold findR; rw [hd]
      have Hr : Hid (removeP x.s nm = (7, (beginP x.s).2)) := by show _ = _; rw [Hs.out, hd]; rfl
      rw [hr'] at HB
      clear h hn hsm hf hr hd hr'
      go_enter Tryz.func80, Tryz.ntmps80
      go_wp2_with fail
      refine HB.out.mono ?_
      rintro e w1 ⟨rfl, hP, hT⟩
      have HP := Lib.hid hP
      have HT := Lib.hid hT
      clear hP hT
      go_wp2
      go_ret
      exact ⟨by rw [Hr.out]; rfl, beginX x, HP.out, by rw [Hr.out, beginX_s], HT.out⟩
    | some n =>
      have hr' : findR (nowX x).2 nm = .tuple #[nv n, .int .i64 0] := by unfold findR; rw [hd]
      have Hr : Hid (removeP x.s nm = (0, { (beginP x.s).2 with dirs := (beginP x.s).2.dirs ++ [delA (nowX x).2 nm] })) := by show _ = _; rw [Hs.out, hd]; rfl
      rw [hr'] at HB
      clear h hn hsm hf hr hd hr'
      go_enter Tryz.func80, Tryz.ntmps80
      go_wp2_with fail
      refine HB.out.mono ?_
      rintro e w1 ⟨rfl, hP, hT⟩
      have HP := Lib.hid hP
      have HT := Lib.hid hT
      have HC := Lib.hid (pChange hP Hsm.out)
      clear hP hT
      go_wp2_with fail
      refine HC.out.mono ?_
      rintro e w2 ⟨nb, v, rfl, hle, hP2, hT2, hM2⟩
      have HP2 := Lib.hid hP2
      have HT2 := Lib.hid hT2
      have HM2 := Lib.hid hM2
      have Hle := Lib.hid hle
      have Hok : Hid (∀ p ∈ (nowX (beginX x)).2, okS p.1) := HP.out.okD (nowX_mem _ HP.out.wf.ne)
      clear hle hP2 hT2 hM2
      go_wp2_with (at_delete; refine wpList_dropA rfl _ _ 103 3 rfl HM2.out keyD Hok.out Tryz.underlying103 nm Hn.out rfl rfl ?_; intro w3 hm3 hg3 hs3)
      have hnames := HP.out.wf.names _ (nowX_mem _ HP.out.wf.ne)
      have HA := Lib.hid (HP.out.turnPush Hle.out HP2.out HT2.out hg3 hm3 ⟨Nat.le_trans (delA_len _ _) hnames.1, fun e he => hnames.2 e (delA_mem he)⟩)
      clear hm3 hg3 hs3 hnames
      go_wp2
      go_ret
      refine ⟨by rw [Hr.out]; rfl, _, HA.out.1, ?_, HT.out.trans HA.out.2⟩
      rw [Hr.out, ← beginX_s]
      unfold Px.push Px.s
      simp
      rfl
  · have Hr : Hid (removeP x.s nm = beginP x.s) := guardP_no hf
    have hr : bwR x nm = .tuple #[.int .i64 0, .int .i64 (beginP x.s).1] := by unfold bwR; rw [if_neg hf]
    rw [hr] at HB
    obtain ⟨fc, Hfc⟩ : ∃ y, Hid ((beginP x.s).1 = y) := ⟨_, rfl⟩
    rw [Hfc.out] at HB hf
    have hne : (fc == 0) = false := by simpa using hf
    clear h hn hsm hf hr
    go_enter Tryz.func80, Tryz.ntmps80
    go_wp2_with fail
    refine HB.out.mono ?_
    rintro e w1 ⟨rfl, hP, hT⟩
    have HP := Lib.hid hP
    have HT := Lib.hid hT
    clear hP hT
    go_wp2
    go_ret
    exact ⟨by rw [Hr.out, Hfc.out]; rfl, beginX x, HP.out, by rw [Hr.out, beginX_s], HT.out⟩
end Go.Proofs.YtoppcpiheaedlaaGreatDoor
