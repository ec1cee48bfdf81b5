/-
  The program's disk: another file's rows; how many sectors are taken; a file that grows.
-/
import Derived.Test.YtoppcpiheaedlaaGreatDoorPj
import Derived.Test.YtoppcpiheaedlaaGreatDoorApz
namespace Go.Proofs.YtoppcpiheaedlaaGreatDoor
open Go.RowKit Go.Maps Go.MapKept
set_option linter.unusedVariables false
set_option linter.unusedSimpArgs false
attribute [local go_sem] sv nv mv pv

def Px.setF (x : Px) (f' : Fi) : Px := { x with fs := x.fs.map fun g => if g.num = f'.num then f' else g }
theorem setF_s (x : Px) (f' : Fi) : (x.setF f').s = { x.s with files := setFile x.s.files f'.num (f'.now, f'.safe) } := by
  unfold Px.setF Px.s setFile
  simp only [List.map_map, Ps.mk.injEq, true_and, and_true]
  refine List.map_congr_left fun g _ => ?_
  simp only [Function.comp_apply]
  by_cases h : g.num = f'.num
  · rw [if_pos h, if_pos (show g.pure.1 = f'.num from h)]; rfl
  · rw [if_neg h, if_neg (show ¬ g.pure.1 = f'.num from h)]
theorem setF_mem {x : Px} {f f' g : Fi} (hf : f ∈ x.fs) (hn : f'.num = f.num) (hg : g ∈ (x.setF f').fs) : g = f' ∨ (g ∈ x.fs ∧ g.num ≠ f.num) := by
  obtain ⟨g0, hg0, rfl⟩ := List.mem_map.1 hg
  by_cases h : g0.num = f'.num
  · rw [if_pos h]; exact .inl rfl
  · rw [if_neg h]; exact .inr ⟨hg0, fun e => h (e.trans hn.symm)⟩
theorem PD.setF {W W' : World} {q : Nat} {x : Px} {O : Nat → Prop} (h : PD W q x) (f f' : Fi) (hf : f ∈ x.fs) (hn : f'.num = f.num) (hb : f'.blk = f.blk) (hB : But O W W') (hO : ∀ k, O k → k = f.blk ∨ FiRows f k ∨ W.heap.size ≤ k) (hok : FiOk W' f')
    (hr : ∀ k, FiRows f' k → FiRows f k ∨ W.heap.size ≤ k) (hl : f.now.length ≤ f'.now.length) : PD W' q (x.setF f') ∧ TurnP q x (x.setF f') W W' := by
  have hfU : ∀ k, k = f.blk ∨ FiRows f k → fUse x k := fun k hk => .inr ⟨f, hf, hk⟩
  have hOf : ∀ k, O k → fUse x k ∨ W.heap.size ≤ k := fun k hk => by
    rcases hO k hk with h' | h' | h'
    · exact .inl (hfU k (.inl h'))
    · exact .inl (hfU k (.inr h'))
    · exact .inr h'
  have hOx : ∀ k, O k → k < W.heap.size → fUse x k := fun k hk hl => (hOf k hk).elim id fun h' => by omega
  have blk : ∀ k, k < W.heap.size → (fUse x k → False) → W'.heap[k]? = W.heap[k]? := fun k hk hn => hB.block k hk fun ho => hn (hOx k ho hk)
  have hmem : ∀ g ∈ (x.setF f').fs, g = f' ∨ (g ∈ x.fs ∧ g.num ≠ f.num) := fun g hg => setF_mem hf hn hg
  have other : ∀ g ∈ x.fs, g.num ≠ f.num → ∀ k, k = g.blk ∨ FiRows g k → k < W.heap.size ∧ ¬ O k := fun g hg hne k hk => by
    have hl : k < W.heap.size := h.ltU (.inr (.inr (.inl (.inr ⟨g, hg, hk⟩))))
    refine ⟨hl, fun ho => ?_⟩
    have hap := h.files.apart f hf g hg (fun e => hne e.symm)
    rcases hO k ho with h' | h' | h'
    · rcases hk with hk | hk
      · exact hap.1 (h'.symm.trans hk)
      · have h1 := kind_cells (h.files.ok f hf).row
        have h2 := (h.files.ok g hg).kind hk
        rw [h', h1] at h2
        simp at h2
    · rcases hk with hk | hk
      · have h1 := kind_cells (h.files.ok g hg).row
        have h2 := (h.files.ok f hf).kind h'
        rw [hk, h1] at h2
        simp at h2
      · exact hap.2 k h' hk
    · omega
  have hmapE : (x.setF f').fs.map Fi.ent = x.fs.map Fi.ent := by
    unfold Px.setF
    rw [List.map_map]
    refine List.map_congr_left fun g hg => ?_
    simp only [Function.comp_apply]
    by_cases h' : g.num = f'.num
    · rw [if_pos h']
      have : g = f := num_inj (fs_nodup h) hg hf (h'.trans hn)
      rw [this]
      show (f'.num, f'.blk) = (f.num, f.blk)
      rw [hn, hb]
    · rw [if_neg h']
  refine ⟨⟨?_, ?_, ⟨?_, ?_, ?_⟩, ?_, h.fnd, ⟨h.wf.room, h.wf.ne, ?_, ?_, ?_, h.wf.first, ?_⟩⟩, ?_, ?_, ?_⟩
  · exact (blk q (h.ltU (.inl rfl)) h.qF).trans h.row
  · exact h.dirs.kept (fun k hk => blk k (h.ltU (.inr (.inl (.inl hk)))) fun hf' => h.dF (.inl hk) hf') fun d hd => blk _ (h.ltU (.inr (.inl (.inr ⟨d, hd, rfl⟩)))) fun hf' => h.dF (.inr ⟨d, hd, rfl⟩) hf'
  · rw [hmapE]
    refine h.files.map.kept (hB.block _ h.files.map.lt fun ho => ?_)
    have hk := kind_map h.files.map
    rcases hO _ ho with h' | h' | h'
    · have := kind_cells (h.files.ok f hf).row
      rw [← h', show kindAt W x.fm = _ from hk] at this
      simp at this
    · have := (h.files.ok f hf).kind h'
      rw [show kindAt W x.fm = _ from hk] at this
      simp at this
    · have := h.files.map.lt
      have : W.heap.size ≤ x.fm := h'
      have : x.fm < W.heap.size := h.files.map.lt
      omega
  · intro g hg
    rcases hmem g hg with rfl | ⟨hg, hne⟩
    · exact hok
    · exact (h.files.ok g hg).kept (hB.block _ (other g hg hne _ (.inl rfl)).1 (other g hg hne _ (.inl rfl)).2) fun k hk => hB.block _ (other g hg hne k (.inr hk)).1 (other g hg hne k (.inr hk)).2
  · intro g hg g' hg' hne
    have sideA : ∀ g ∈ x.fs, g.num ≠ f.num → Apart f' g := fun g hg hne => by
      have hap := h.files.apart f hf g hg (fun e => hne e.symm)
      refine ⟨by rw [hb]; exact hap.1, fun k hk hk' => ?_⟩
      rcases hr k hk with h' | h'
      · exact hap.2 k h' hk'
      · have := (other g hg hne k (.inr hk')).1; omega
    rcases hmem g hg with e1 | ⟨hgo, hne1⟩ <;> rcases hmem g' hg' with e2 | ⟨hgo', hne2⟩
    · rw [e1, e2] at hne; exact absurd rfl hne
    · rw [e1]; exact sideA g' hgo' hne2
    · rw [e2]
      have := sideA g hgo hne1
      exact ⟨fun e => this.1 e.symm, fun k hk hk' => this.2 k hk' hk⟩
    · exact h.files.apart g hgo g' hgo' hne
  · exact own_own h.pend fun k hk => blk k (h.ltU (.inr (.inr (.inr hk)))) fun hf' => h.fP hf' hk
  · intro d hd
    refine ⟨(h.wf.names d hd).1, fun e he => ?_⟩
    obtain ⟨h1, g, hg, h2⟩ := (h.wf.names d hd).2 e he
    by_cases hgf : g.num = f'.num
    · exact ⟨h1, f', List.mem_map.2 ⟨g, hg, by rw [if_pos hgf]⟩, by rw [← hgf]; exact h2⟩
    · exact ⟨h1, g, List.mem_map.2 ⟨g, hg, by rw [if_neg hgf]⟩, h2⟩
  · intro g hg
    rcases hmem g hg with rfl | ⟨hg, _⟩
    · rw [hn]; exact h.wf.nums f hf
    · exact h.wf.nums g hg
  · intro w hw
    obtain ⟨h1, h2, h3, h4⟩ := h.wf.pend w hw
    refine ⟨h1, h2, h3, fun g hg he => ?_⟩
    rcases hmem g hg with rfl | ⟨hg, _⟩
    · have := h4 f hf (hn.symm.trans he)
      omega
    · exact h4 g hg he
  · have := h.wf.small
    refine ⟨this.1, ?_, this.2.2⟩
    show (x.fs.map _).length ≤ _
    rw [List.length_map]
    exact this.2.1
  · intro k hk
    rcases hk with hk | hk | hk | hk
    · exact .inl (.inl hk)
    · exact .inl (.inr (.inl hk))
    · rcases hk with hk | ⟨g, hg, hk⟩
      · exact .inl (.inr (.inr (.inl (.inl hk))))
      · rcases hmem g hg with rfl | ⟨hg, _⟩
        · rcases hk with hk | hk
          · exact .inl (.inr (.inr (.inl (.inr ⟨f, hf, .inl (hk.trans hb)⟩))))
          · rcases hr k hk with h' | h'
            · exact .inl (.inr (.inr (.inl (.inr ⟨f, hf, .inr h'⟩))))
            · exact .inr h'
        · exact .inl (.inr (.inr (.inl (.inr ⟨g, hg, hk⟩))))
    · exact .inl (.inr (.inr (.inr hk)))
  · intro k hk
    rcases hk with hk | hk | hk | hk
    · exact .inl (.inl hk)
    · exact .inl (.inr (.inl hk))
    · rcases hk with hk | ⟨g, hg, hk⟩
      · exact .inl (.inr (.inr (.inl (.inl hk))))
      · rcases hmem g hg with rfl | ⟨hg, _⟩
        · rcases hk with hk | hk
          · exact .inl (.inr (.inr (.inl (.inr ⟨f, hf, .inl (hk.trans hb)⟩))))
          · rcases hr k hk with h' | h'
            · exact .inl (.inr (.inr (.inl (.inr ⟨f, hf, .inr h'⟩))))
            · exact .inr h'
        · exact .inl (.inr (.inr (.inl (.inr ⟨g, hg, hk⟩))))
    · exact .inl (.inr (.inr (.inr hk)))
  · exact ⟨hB.os, hB.tape, hB.output, hB.size, fun k hk hn => hB.block k hk fun ho => hn (.inr (.inr (.inl (hOx k ho hk))))⟩

theorem PD.fileP {w : World} {q : Nat} {x : Px} (h : PD w q x) {f : Fi} (hf : f ∈ x.fs) : fileP x.s f.num = (f.now, f.safe) := by
  unfold Go.Proofs.YtoppcpiheaedlaaGreatDoor.fileP Px.s
  have hn : ((x.fs.map Fi.pure).map (·.1)).Nodup := by rw [List.map_map]; exact fs_nodup h
  rw [findA_of_mem hn (a := f.num) (b := (f.now, f.safe)) (List.mem_map.2 ⟨f, hf, rfl⟩)]
  rfl
/-- A name's file. -/
theorem PD.named {w : World} {q : Nat} {x : Px} (h : PD w q x) {d : Nat × Dir} (hd : d ∈ x.dirs) {nm : Nm} {n : Nat} (hn : findA d.2 nm = some n) : ∃ f ∈ x.fs, f.num = n := by
  obtain ⟨_, f, hf, h2⟩ := (h.wf.names d hd).2 _ (findA_mem hn)
  exact ⟨f, hf, h2⟩
theorem fi_form {w : World} {f : Fi} (h : FiOk w f) : ∃ a c a' c', f.vn = .slice a f.now.length c ∧ f.vs = .slice a' f.now.length c' ∧ w.cell? ⟨f.blk, 0, none⟩ = some (.slice a f.now.length c) ∧ w.cell? ⟨f.blk, 1, none⟩ = some (.slice a' f.now.length c') := by
  obtain ⟨a, c, e1⟩ := own_form h.now
  obtain ⟨a', c', e2⟩ := own_form h.safe
  rw [h.len] at e2
  refine ⟨a, c, a', c', e1, e2, ?_, ?_⟩
  · rw [cell_of_row w f.blk 0 _ _ _ h.row, ← e1]; rfl
  · rw [cell_of_row w f.blk 1 _ _ _ h.row, ← e2]; rfl

set_option maxRecDepth 100000 in
set_option maxHeartbeats 1000000 in
theorem pTaken {w : World} {q : Nat} {x : Px} (h : PD w q x) :
    Calls Tryz.prog 98 #[.pointer (some ⟨q, 0, none⟩)] w fun e w' => e = .returned (.int .i64 (takenP x.s : Int)) ∧ Grows w w' := by
  have H := Lib.hid h
  have HN := Lib.hid (pNow h)
  have hdm := nowX_mem x h.wf.ne
  have HM := Lib.hid (h.dirs.map _ hdm)
  have Hnum : Hid (∀ e ∈ (nowX x).2, ∃ f ∈ x.fs, f.num = e.2) := fun e he => ((h.wf.names _ hdm).2 e he).2
  have Hlen : Hid ((nowX x).2.length ≤ 8) := (h.wf.names _ hdm).1
  have Htk : Hid (takenP x.s = ((nowX x).2.map fun e => (Go.Proofs.YtoppcpiheaedlaaGreatDoor.fileP x.s e.2).1.length).sum) := by show _ = _; unfold takenP; rw [nowX_s]
  obtain ⟨db, hb⟩ : ∃ b, (nowX x).1 = b := ⟨_, rfl⟩
  obtain ⟨dl, hd⟩ : ∃ d, (nowX x).2 = d := ⟨_, rfl⟩
  rw [hb] at HN HM
  rw [hd] at HM Hnum Hlen Htk
  have c2 := h.cell 2 (mv x.fm) rfl
  have Hok := Lib.hid h.okF
  have Hfm := Lib.hid h.files.map
  have Hsm := Lib.hid (show ∀ f ∈ x.fs, f.num ≤ 1000000 from fun f hf => Nat.le_trans (h.wf.nums f hf) h.wf.small.2.2.2)
  obtain ⟨fm, Hfmb⟩ : ∃ b, Hid (x.fm = b) := ⟨_, rfl⟩
  rw [Hfmb.out] at c2 Hfm
  unfold mv at c2 HN
  have Hc2 := Lib.hid c2
  clear h hdm hb hd c2
  go_enter Tryz.func98, Tryz.ntmps98
  go_wp2_with fail
  refine HN.out.mono ?_
  rintro e w1 ⟨rfl, hG⟩
  have HM1 := Lib.hid (HM.out.grows hG)
  have HG := Lib.hid hG
  clear hG
  go_wp2_with (at_range; refine wpList_rangeA rfl _ 103 3 rfl HM1.out Tryz.underlying103 rfl ?_; intro w2 hr1 hg1 hs1)
  obtain ⟨rr, Hrr⟩ : ∃ r, Hid (w1.heap.size = r) := ⟨_, rfl⟩
  rw [Hrr.out] at hr1 ⊢
  have HR1 := Lib.hid hr1
  have HG2 := Lib.hid (Grows.trans' HG.out hg1)
  have Hrw : Hid (w.heap.size ≤ rr) := by show _ ≤ _; rw [← Hrr.out]; exact HG.out.size
  clear hr1 hg1 hs1
  go_frame
  go_loopw [3, 5] (fun t3 _ wr => ∃ done todo, dl.Perm (done ++ todo) ∧ RangeA sv nv wr db rr dl todo ∧ t3 = .int .i64 ((((done.map fun e => (Go.Proofs.YtoppcpiheaedlaaGreatDoor.fileP x.s e.2).1.length).sum : Nat)) : Int) ∧ Grows w wr)
    (fun _ _ wr => wr.rangeLeft db rr)
  case atStart => exact ⟨[], dl, by simp, HR1.out, rfl, HG2.out⟩
  case round =>
    obtain ⟨done, todo, hp, hrg, rfl, hgw⟩ := hrel
    have Hp := Lib.hid hp
    have Hrg := Lib.hid hrg
    have Hgw := Lib.hid hgw
    clear hp hrg hgw
    go_wp2_with (at_next; refine wpList_nextA rfl _ rfl _ todo Hrg.out rfl ?_ ?_)
    · intro h0
      subst h0
      have Hfin : Hid (takenP x.s = (done.map fun e => (Go.Proofs.YtoppcpiheaedlaaGreatDoor.fileP x.s e.2).1.length).sum) := by
        show _ = _
        rw [Htk.out]
        have := Hp.out
        rw [List.append_nil] at this
        exact (this.map _).sum_nat
      go_wp2
      go_ret
      exact ⟨by rw [Hfin.out]; rfl, Hgw.out⟩
    · intro p1 p2 todo' w3 hp2 hr2 hg2 hs2 hen
      have Hr2 := Lib.hid hr2
      have Hp2 := Lib.hid hp2
      obtain ⟨f, hf, hfn⟩ := Hnum.out (p1, p2) (Hp.out.mem_iff.2 (List.mem_append.2 (.inr (hp2.mem_iff.2 (by simp)))))
      have hg2' : Grows w w3 := ⟨hg2.os.trans Hgw.out.os, hg2.tape.trans Hgw.out.tape, hg2.output.trans Hgw.out.output, Nat.le_trans Hgw.out.size hg2.size, fun k hk => (hg2.block k (Nat.lt_of_lt_of_le hk Hgw.out.size) (fun e => by have := Option.some.inj e; have := Hrw.out; omega)).trans (Hgw.out.block k hk)⟩
      have Hg2 := Lib.hid hg2'
      have c2 := hg2'.cell' Hc2.out
      have Hfm2 := Lib.hid (Hfm.out.grows hg2')
      have hlk := H.out.look hf
      rw [hfn] at hlk
      have Hlk := Lib.hid hlk
      have Hokp := Lib.hid (show okI p2 from okI_small (by have := Hsm.out f hf; rw [hfn] at this; exact this))
      obtain ⟨a, c, a', c', e1, e2, d0, d1⟩ := fi_form (H.out.files.ok f hf)
      have c0 := hg2'.cell' d0
      have Hle := Lib.hid (H.out.files.ok f hf).le
      have Hfl : Hid ((Go.Proofs.YtoppcpiheaedlaaGreatDoor.fileP x.s p2).1.length = f.now.length) := by show _ = _; rw [← show f.num = p2 from hfn, H.out.fileP hf]
      obtain ⟨b, Hb⟩ : ∃ b, Hid (f.blk = b) := ⟨_, rfl⟩
      rw [Hb.out] at c0 Hlk
      obtain ⟨L, HL⟩ : ∃ L, Hid (f.now.length = L) := ⟨_, rfl⟩
      rw [HL.out] at c0 Hle Hfl
      have Hsum : Hid ((done.map fun e => (Go.Proofs.YtoppcpiheaedlaaGreatDoor.fileP x.s e.2).1.length).sum ≤ 4096 * done.length ∧ done.length ≤ 8) := by
        have hdl : done.length ≤ 8 := by
          have := Hp.out.length_eq
          rw [List.length_append] at this
          have := Hlen.out
          omega
        refine ⟨?_, hdl⟩
        have hall : ∀ e ∈ done, (Go.Proofs.YtoppcpiheaedlaaGreatDoor.fileP x.s e.2).1.length ≤ 4096 := fun e he => by
          obtain ⟨g, hg, hgn⟩ := Hnum.out e (Hp.out.mem_iff.2 (List.mem_append.2 (.inl he)))
          rw [← hgn, H.out.fileP hg]
          exact (H.out.files.ok g hg).le
        clear hdl Hp
        induction done with
        | nil => simp
        | cons e l ih =>
          have := ih (fun e he => hall e (by simp [he]))
          have := hall e (by simp)
          simp only [List.map_cons, List.sum_cons, List.length_cons]
          omega
      obtain ⟨sm, Hsmm⟩ : ∃ sm, Hid ((done.map fun e => (Go.Proofs.YtoppcpiheaedlaaGreatDoor.fileP x.s e.2).1.length).sum = sm) := ⟨_, rfl⟩
      rw [Hsmm.out] at Hsum ⊢
      have hsI : (sm : Int) ≤ 32768 := by have := Hsum.out; omega
      have hLI : (L : Int) ≤ 4096 := by have := Hle.out; omega
      clear hp2 hr2 hg2 hs2 hf hfn hg2' hlk e1 e2 d0 d1
      go_wp2_with (first
        | (at_lookup; refine wpList_lookA rfl _ _ 95 109 false rfl Hfm2.out keyF Hok.out Tryz.underlying95 _ (zeroFile _) p2 Hokp.out rfl rfl (.pointer (some ⟨b, 0, none⟩)) (by rw [Hlk.out]; rfl) ?_)
        | go_in)
      go_roundw
      case rel =>
        refine ⟨done ++ [(p1, p2)], todo', ?_, Hr2.out, ?_, Hg2.out⟩
        · refine Hp.out.trans ?_
          rw [List.append_assoc]
          exact Hp2.out.append_left done
        · rw [List.map_append, List.sum_append]
          simp only [List.map_cons, List.map_nil, List.sum_cons, List.sum_nil]
          rw [Hsmm.out, Hfl.out]
          simp
      case measure =>
        rw [Hr2.out.left, Hrg.out.left]
        have := Hp2.out.length_eq
        simp at this
        omega
end Go.Proofs.YtoppcpiheaedlaaGreatDoor
