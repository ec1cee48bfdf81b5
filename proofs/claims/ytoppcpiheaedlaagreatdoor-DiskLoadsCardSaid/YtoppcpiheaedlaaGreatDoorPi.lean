/-
  The program's disk: one directory alone, and the files that it names; all changes made safe; a new disk; arming.
-/
import Derived.Test.YtoppcpiheaedlaaGreatDoorPh
namespace Go.Proofs.YtoppcpiheaedlaaGreatDoor
open Go.RowKit Go.Maps Go.MapKept
set_option linter.unusedVariables false
set_option linter.unusedSimpArgs false
attribute [local go_sem] sv nv mv pv

theorem RangeA.left {α β : Type} {kv : α → Value} {vv : β → Value} {W : World} {b r : Nat} {l todo : List (α × β)} (h : RangeA kv vv W b r l todo) : W.rangeLeft b r = todo.length := by
  obtain ⟨es, clock, since, seen, c0, hb, hs, hm, h2, hr, h3, h4, h5, h6⟩ := h
  simp only [World.rangeLeft, hb, hr]
  have := h6.length_eq
  simpa using this

def named (d : Dir) (f : Fi) : Bool := d.any fun e => e.2 == f.num
theorem fs_nodup {w : World} {q : Nat} {x : Px} (h : PD w q x) : (x.fs.map fun f => f.num).Nodup := by
  have := h.files.map.nodup
  rw [List.map_map] at this
  exact this
theorem ent_nodup {fs : List Fi} (h : (fs.map fun f => f.num).Nodup) : (fs.map Fi.ent).Nodup := by
  have h1 : ((fs.map Fi.ent).map (·.1)).Nodup := by rw [List.map_map]; exact h
  rw [List.Nodup, List.pairwise_map] at h1
  exact h1.imp fun h e => h (by rw [e])
theorem putA_nodup {α β : Type} [DecidableEq α] {l : List (α × β)} (h : (l.map (·.1)).Nodup) (a : α) (b : β) : ((putA l a b).map (·.1)).Nodup := by
  unfold putA
  rw [List.map_append, List.nodup_append]
  refine ⟨(List.filter_sublist.map _).nodup h, by simp, ?_⟩
  intro x hx y hy e
  simp at hy
  obtain ⟨p, hp, rfl⟩ := List.mem_map.1 hx
  have := (List.mem_filter.1 hp).2
  simp at this
  exact this (e.trans hy)
theorem nodup_of_keys {α β : Type} {l : List (α × β)} (h : (l.map (·.1)).Nodup) : l.Nodup := by
  rw [List.Nodup, List.pairwise_map] at h
  exact h.imp fun h e => h (by rw [e])
theorem num_inj {fs : List Fi} (h : (fs.map fun f => f.num).Nodup) {f g : Fi} (hf : f ∈ fs) (hg : g ∈ fs) (e : f.num = g.num) : f = g := by
  induction fs with
  | nil => simp at hf
  | cons a l ih =>
    rw [List.map_cons, List.nodup_cons] at h
    rcases List.mem_cons.1 hf with hf | hf <;> rcases List.mem_cons.1 hg with hg | hg
    · rw [hf, hg]
    · exact absurd (List.mem_map.2 ⟨g, hg, by rw [← e, hf]⟩) h.1
    · exact absurd (List.mem_map.2 ⟨f, hf, by rw [e, hg]⟩) h.1
    · exact ih h.2 hf hg
theorem settle_step {fs : List Fi} (hnd : (fs.map fun f => f.num).Nodup) (done : Dir) (e : Nm × Nat) (f : Fi) (hf : f ∈ fs) (he : f.num = e.2) :
    (putA ((fs.filter (named done)).map Fi.ent) e.2 f.blk).Perm ((fs.filter (named (done ++ [e]))).map Fi.ent) := by
  have h1 : ((fs.filter (named done)).map fun f => f.num).Nodup := (List.filter_sublist.map _).nodup hnd
  have h2 : ((fs.filter (named (done ++ [e]))).map fun f => f.num).Nodup := (List.filter_sublist.map _).nodup hnd
  refine (List.perm_ext_iff_of_nodup (nodup_of_keys (putA_nodup (by rw [List.map_map]; exact h1) _ _)) (ent_nodup h2)).2 fun p => ?_
  unfold putA delA
  simp only [List.mem_append, List.mem_filter, List.mem_map, List.mem_singleton]
  constructor
  · rintro (⟨⟨g, ⟨hg, hn⟩, rfl⟩, _⟩ | rfl)
    · refine ⟨g, ⟨hg, ?_⟩, rfl⟩
      unfold named at hn ⊢
      rw [List.any_append, hn]
      rfl
    · refine ⟨f, ⟨hf, ?_⟩, by show (f.num, f.blk) = _; rw [he]⟩
      unfold named
      rw [List.any_append]
      simp [he]
  · rintro ⟨g, ⟨hg, hn⟩, rfl⟩
    by_cases hge : g.num = e.2
    · right
      have : g = f := num_inj hnd hg hf (hge.trans he.symm)
      rw [this]
      show (f.num, f.blk) = _
      rw [he]
    · left
      refine ⟨⟨g, ⟨hg, ?_⟩, rfl⟩, decide_eq_true hge⟩
      unfold named at hn ⊢
      rw [List.any_append] at hn
      simp at hn
      rcases hn with hn | hn
      · simpa using hn
      · exact absurd hn.symm hge

/-- What is left of a disk behind a settling. -/
def Px.settled (x : Px) (v : Value) (d : Nat × Dir) (fm : Nat) : Px := { x with vd := v, dirs := [d], fm := fm, fs := x.fs.filter (named d.2) }
theorem settled_s (x : Px) (v : Value) (d : Nat × Dir) (fm : Nat) : (x.settled v d fm).s = settleP x.s d.2 := by
  unfold Px.settled Px.s settleP named
  simp only [List.map_cons, List.map_nil, List.filter_map]
  rfl
theorem PD.settled {W W1 : World} {q : Nat} {x : Px} (h : PD W q x) (d : Nat × Dir) (hd : d ∈ x.dirs) (fm : Nat) (hG : Grows W W1) (hfm : W.heap.size ≤ fm) (hm : MapA nv pv W1 fm ((x.fs.filter (named d.2)).map Fi.ent)) :
    PD (((W1.alloc (.cells #[mv d.1] 103)).setCell ⟨q, 1, none⟩ (.slice (some ⟨W1.heap.size, 0, none⟩) 1 1)).setCell ⟨q, 2, none⟩ (mv fm)) q (x.settled (.slice (some ⟨W1.heap.size, 0, none⟩) 1 1) d fm) ∧
    TurnP q x (x.settled (.slice (some ⟨W1.heap.size, 0, none⟩) 1 1) d fm) W (((W1.alloc (.cells #[mv d.1] 103)).setCell ⟨q, 1, none⟩ (.slice (some ⟨W1.heap.size, 0, none⟩) 1 1)).setCell ⟨q, 2, none⟩ (mv fm)) := by
  have hq := h.ltU (k := q) (.inl rfl)
  have hqs : q < W1.heap.size := Nat.lt_of_lt_of_le hq hG.size
  have hG2 : Grows W (W1.alloc (.cells #[mv d.1] 103)) := Grows.trans' hG (Grows.alloc' _ _)
  have hB : But (fun k => k = q) W (((W1.alloc (.cells #[mv d.1] 103)).setCell ⟨q, 1, none⟩ (.slice (some ⟨W1.heap.size, 0, none⟩) 1 1)).setCell ⟨q, 2, none⟩ (mv fm)) := But.setCell (O := fun k => k = q) (But.setCell (O := fun k => k = q) (But.ofGrows hG2) ⟨q, 1, none⟩ _ rfl) ⟨q, 2, none⟩ _ rfl
  have hB1 : But (fun k => k = q) (W1.alloc (.cells #[mv d.1] 103)) (((W1.alloc (.cells #[mv d.1] 103)).setCell ⟨q, 1, none⟩ (.slice (some ⟨W1.heap.size, 0, none⟩) 1 1)).setCell ⟨q, 2, none⟩ (mv fm)) := But.setCell (O := fun k => k = q) (But.setCell (O := fun k => k = q) (But.refl' _ _) ⟨q, 1, none⟩ _ rfl) ⟨q, 2, none⟩ _ rfl
  have hD := h.keepD hB fun k hk hd => h.qD (hk ▸ hd)
  have hF := h.keepF hB fun k hk hd => h.qF (hk ▸ hd)
  have hdl := (h.dirs.map d hd).lt
  refine ⟨⟨row_setCell (row_setCell (hG2.heap' h.row) 1 _) 2 _, ⟨?_, ?_⟩, ⟨?_, ?_, ?_⟩, h.keepP hB fun k hk hd => h.qP (hk ▸ hd), ?_, ⟨h.wf.room, by simp [Px.settled], ?_, ?_, ?_, h.wf.first, ?_⟩⟩, ?_, ?_, hB.mono fun k hk => .inl hk⟩
  · have hr : (W1.alloc (.cells #[mv d.1] 103)).ownsRow 0 103 1 (.slice (some ⟨W1.heap.size, 0, none⟩) 1 1) 1 [mv d.1] :=
      ⟨rfl, .inr ⟨W1.heap.size, 1, _, rfl, Nat.zero_le _, heap_alloc_new W1 _, Nat.le_refl _, by simp [maxLen], rfl, rfl⟩⟩
    exact own_but hr hB1 fun j hj hn => by
      have hj' : Value.ownBlock (.slice (some ⟨W1.heap.size, 0, none⟩) 1 1) = some j := hj
      have : W1.heap.size = j := by simpa [Value.ownBlock] using hj'
      omega
  · intro e he
    rw [List.mem_singleton.1 he]
    exact hD.map d hd
  · exact (hm.grows (Grows.alloc' _ _)).kept (hB1.block fm (by simp; have := hm.lt; omega) (by omega))
  · intro f hf
    exact hF.ok f (List.mem_filter.1 hf).1
  · intro f hf g hg hne
    exact hF.apart f (List.mem_filter.1 hf).1 g (List.mem_filter.1 hg).1 hne
  · intro e he
    rw [List.mem_singleton.1 he]
    show d.1 ≠ fm
    omega
  · intro e he
    rw [List.mem_singleton.1 he]
    refine ⟨(h.wf.names d hd).1, fun p hp => ?_⟩
    obtain ⟨h1, f, hf, h2⟩ := (h.wf.names d hd).2 p hp
    refine ⟨h1, f, List.mem_filter.2 ⟨hf, ?_⟩, h2⟩
    unfold named
    exact List.any_eq_true.2 ⟨p, hp, by simp [h2]⟩
  · intro f hf
    exact h.wf.nums f (List.mem_filter.1 hf).1
  · intro w hw
    obtain ⟨h1, h2, h3, h4⟩ := h.wf.pend w hw
    exact ⟨h1, h2, h3, fun f hf => h4 f (List.mem_filter.1 hf).1⟩
  · have := h.wf.small
    refine ⟨by simp [Px.settled], ?_, this.2.2⟩
    exact Nat.le_trans (List.length_filter_le _ _) this.2.1
  · intro k hk
    rcases hk with hk | hk | hk | hk
    · exact .inl (.inl hk)
    · have hk' : Value.ownBlock (.slice (some ⟨W1.heap.size, 0, none⟩) 1 1) = some k := hk
      have : W1.heap.size = k := by simpa [Value.ownBlock] using hk'
      right; have := hG.size; omega
    · rcases hk with hk | ⟨f, hf, hk⟩
      · right; have : k = fm := hk; omega
      · exact .inl (.inr (.inr (.inl (.inr ⟨f, (List.mem_filter.1 hf).1, hk⟩))))
    · exact .inl (.inr (.inr (.inr hk)))
  · intro k hk
    rcases hk with hk | hk | hk | hk
    · exact .inl (.inl hk)
    · rcases hk with hk | ⟨e, he, rfl⟩
      · have hk' : Value.ownBlock (.slice (some ⟨W1.heap.size, 0, none⟩) 1 1) = some k := hk
        have : W1.heap.size = k := by simpa [Value.ownBlock] using hk'
        right; have := hG.size; omega
      · rw [List.mem_singleton.1 he]
        exact .inl (.inr (.inl (.inr ⟨d, hd, rfl⟩)))
    · rcases hk with hk | ⟨f, hf, hk⟩
      · right; have : k = fm := hk; omega
      · exact .inl (.inr (.inr (.inl (.inr ⟨f, (List.mem_filter.1 hf).1, hk⟩))))
    · exact .inl (.inr (.inr (.inr hk)))

theorem okI_small {n : Nat} (h : n ≤ 1000000) : okI n := by unfold okI; omega
theorem PD.look {w : World} {q : Nat} {x : Px} (h : PD w q x) {f : Fi} (hf : f ∈ x.fs) : findA (x.fs.map Fi.ent) f.num = some f.blk :=
  findA_of_mem (by rw [List.map_map]; exact fs_nodup h) (List.mem_map.2 ⟨f, hf, rfl⟩)

set_option maxRecDepth 100000 in
set_option maxHeartbeats 1000000 in
theorem pSettle {w : World} {q : Nat} {x : Px} (h : PD w q x) (d : Nat × Dir) (hd : d ∈ x.dirs) :
    Calls Tryz.prog 69 #[.pointer (some ⟨q, 0, none⟩), .map (some d.1)] w fun e w' => e = .returned (.tuple #[]) ∧ ∃ v fm, PD w' q (x.settled v d fm) ∧ TurnP q x (x.settled v d fm) w w' := by
  have H := Lib.hid h
  have Hd := Lib.hid hd
  obtain ⟨db, Hdb⟩ : ∃ b, Hid (d.1 = b) := ⟨_, rfl⟩
  obtain ⟨dl, Hdl⟩ : ∃ b, Hid (d.2 = b) := ⟨_, rfl⟩
  have HM : Hid (MapA sv nv w db dl) := by have := h.dirs.map d hd; rw [Hdb.out, Hdl.out] at this; exact this
  have Hnum : Hid (∀ e ∈ dl, ∃ f ∈ x.fs, f.num = e.2) := fun e he => ((h.wf.names d hd).2 e (by rw [Hdl.out]; exact he)).2
  have c2 := h.cell 2 (mv x.fm) rfl
  have hql := h.ltU (k := q) (.inl rfl)
  have Hql := Lib.hid hql
  have Hok := Lib.hid h.okF
  have Hfm := Lib.hid h.files.map
  have Hnd := Lib.hid (fs_nodup h)
  have Hsm := Lib.hid (show x.fs.length ≤ 1000000 ∧ ∀ f ∈ x.fs, f.num ≤ 1000000 from ⟨h.wf.small.2.1, fun f hf => Nat.le_trans (h.wf.nums f hf) h.wf.small.2.2.2⟩)
  have Hlook : Hid (∀ f ∈ x.fs, findA (x.fs.map Fi.ent) f.num = some f.blk) := fun f hf => h.look hf
  obtain ⟨fm, Hfmb⟩ : ∃ b, Hid (x.fm = b) := ⟨_, rfl⟩
  rw [Hfmb.out] at c2 Hfm
  unfold mv at c2
  rw [Hdb.out]
  have hmk := @run_makeMap Tryz.prog
  clear h hd hql
  have Hc2 := Lib.hid c2
  clear c2
  go_enter Tryz.func69, Tryz.ntmps69
  go_wp2_with (at_range; refine wpList_rangeA rfl _ 103 3 rfl (HM.out.grows (Grows.alloc' _ _)) Tryz.underlying103 rfl ?_; intro w1 hr1 hg1 hs1)
  have Hs0 : Hid ((w.alloc (.map #[] 0)).heap.size = w.heap.size + 1) := by show _ = _; simp
  have HG1 : Hid (Grows w w1) := Grows.trans' (Grows.alloc' _ _) hg1
  rw [Hs0.out] at hr1 ⊢
  have HM0 : Hid (MapA nv pv w1 w.heap.size ((x.fs.filter (named [])).map Fi.ent)) := by
    have : x.fs.filter (named []) = [] := by simp [named]
    rw [this]
    exact (MapA.made w).grows hg1
  have HR1 := Lib.hid hr1
  clear hmk hr1 hg1 hs1
  go_frame
  go_loopw [6] (fun _ wr => ∃ done todo, dl.Perm (done ++ todo) ∧ RangeA sv nv wr db (w.heap.size + 1) dl todo ∧ MapA nv pv wr w.heap.size ((x.fs.filter (named done)).map Fi.ent) ∧ Grows w wr)
    (fun _ wr => wr.rangeLeft db (w.heap.size + 1))
  case atStart => exact ⟨[], dl, by simp, HR1.out, HM0.out, HG1.out⟩
  case round =>
    obtain ⟨done, todo, hp, hrg, hmm, hgw⟩ := hrel
    have Hp := Lib.hid hp
    have Hrg := Lib.hid hrg
    have Hmm := Lib.hid hmm
    have Hgw := Lib.hid hgw
    clear hp hrg hmm hgw
    go_wp2_with (at_next; refine wpList_nextA rfl _ rfl _ todo Hrg.out rfl ?_ ?_)
    · intro h0
      subst h0
      have hfin : MapA nv pv wr w.heap.size ((x.fs.filter (named d.2)).map Fi.ent) := by
        have : x.fs.filter (named d.2) = x.fs.filter (named done) := by
          refine List.filter_congr fun f _ => ?_
          unfold named
          have := Hp.out
          rw [List.append_nil] at this
          rw [Hdl.out]
          exact this.any_eq
        rw [this]
        exact Hmm.out
      have hqw : Hid (q < wr.heap.size) := Nat.lt_of_lt_of_le Hql.out Hgw.out.size
      have HF := Lib.hid (H.out.settled d Hd.out w.heap.size Hgw.out (Nat.le_refl _) hfin)
      rw [Hdb.out] at HF
      unfold mv at HF
      have hrow := Hgw.out.heap' H.out.row
      have r1 := cell_of_row _ q 1 _ _ _ ((Grows.alloc' wr (.cells #[.map (some db)] 103)).heap' hrow)
      have r2 := cell_of_row _ q 2 _ _ _ (row_setCell ((Grows.alloc' wr (.cells #[.map (some db)] 103)).heap' hrow) 1 (.slice (some ⟨wr.heap.size, 0, none⟩) 1 1))
      have s1 : (wr.alloc (.cells #[.map (some db)] 103)).frozen? ⟨q, 1, none⟩ = false := frozen_of_row _ q 1 _ _ ((Grows.alloc' wr (.cells #[.map (some db)] 103)).heap' hrow)
      have s2 : ((wr.alloc (.cells #[.map (some db)] 103)).setCell ⟨q, 1, none⟩ (.slice (some ⟨wr.heap.size, 0, none⟩) 1 1)).frozen? ⟨q, 2, none⟩ = false := frozen_of_row _ q 2 _ _ (row_setCell ((Grows.alloc' wr (.cells #[.map (some db)] 103)).heap' hrow) 1 (.slice (some ⟨wr.heap.size, 0, none⟩) 1 1))
      rw [show (pdRow x)[1]? = some x.vd from rfl] at r1
      rw [show ((pdRow x).setIfInBounds 1 (.slice (some ⟨wr.heap.size, 0, none⟩) 1 1))[2]? = some (mv x.fm) from rfl, Hfmb.out] at r2
      unfold mv at r2
      obtain ⟨vd, Hvd⟩ : ∃ v, Hid (x.vd = v) := ⟨_, rfl⟩
      obtain ⟨a, cap, e1⟩ := own_form H.out.dirs.row
      rw [e1] at r1
      clear hfin hrow
      go_wp2
      go_end0
      exact ⟨rfl, _, _, HF.out.1, HF.out.2⟩
    · intro p1 p2 todo' w2 hp2 hr2 hg2 hs2 hen
      have Hr2 := Lib.hid hr2
      have Hp2 := Lib.hid hp2
      obtain ⟨f, hf, hfn⟩ := Hnum.out (p1, p2) (Hp.out.mem_iff.2 (List.mem_append.2 (.inr (hp2.mem_iff.2 (by simp)))))
      have HFf := Lib.hid hf
      have Hfn := Lib.hid hfn
      have hg2' : Grows w w2 := ⟨hg2.os.trans Hgw.out.os, hg2.tape.trans Hgw.out.tape, hg2.output.trans Hgw.out.output, Nat.le_trans Hgw.out.size hg2.size, fun k hk => (hg2.block k (Nat.lt_of_lt_of_le hk Hgw.out.size) (fun e => by have := Option.some.inj e; omega)).trans (Hgw.out.block k hk)⟩
      have Hg2 := Lib.hid hg2'
      have c2 := hg2'.cell' Hc2.out
      have hmm2 : MapA nv pv w2 w.heap.size ((x.fs.filter (named done)).map Fi.ent) := Hmm.out.kept (hg2.block _ Hmm.out.lt (fun e => by have := Option.some.inj e; omega))
      have Hmm2 := Lib.hid hmm2
      have Hfm2 := Lib.hid (Hfm.out.grows hg2')
      have hlk := Hlook.out f hf
      rw [hfn] at hlk
      have Hlk := Lib.hid hlk
      have Hokp := Lib.hid (show okI p2 from okI_small (by have := Hsm.out.2 f hf; rw [hfn] at this; exact this))
      have Hfil : Hid ((∀ g ∈ (x.fs.filter (named done)).map Fi.ent, okI g.1) ∧ ((x.fs.filter (named done)).map Fi.ent).length < maxLen) := by
        refine ⟨fun g hg => ?_, ?_⟩
        · obtain ⟨g', hg', rfl⟩ := List.mem_map.1 hg
          exact Hok.out _ (List.mem_map.2 ⟨g', (List.mem_filter.1 hg').1, rfl⟩)
        · rw [List.length_map]
          have := List.length_filter_le (named done) x.fs
          have := Hsm.out.1
          unfold maxLen
          omega
      clear hp2 hr2 hg2 hs2 hf hfn hg2' hmm2 hlk
      go_wp2_with (first
        | (at_lookup; refine wpList_lookA rfl _ _ 95 109 false rfl Hfm2.out keyF Hok.out Tryz.underlying95 _ (zeroFile _) p2 Hokp.out rfl rfl (pv f.blk) (by rw [Hlk.out]; rfl) ?_)
        | (at_mapUpdate; refine wpList_putA rfl _ _ _ 95 109 rfl Hmm2.out keyF Hfil.out.1 Tryz.underlying95 Hfil.out.2 p2 Hokp.out f.blk rfl rfl rfl ?_; intro w3 hm3 hg3 hs3; go_frame)
        | go_in)
      have hr3 : RangeA sv nv w3 db (w.heap.size + 1) dl todo' := Hr2.out.kept (hg3.block _ Hr2.out.map.lt (fun e => by have := Option.some.inj e; have := HM.out.lt; omega)) (hg3.block _ Hr2.out.lt (fun e => by have := Option.some.inj e; omega))
      have hg3' : Grows w w3 := ⟨hg3.os.trans Hg2.out.os, hg3.tape.trans Hg2.out.tape, hg3.output.trans Hg2.out.output, Nat.le_trans Hg2.out.size hg3.size, fun k hk => (hg3.block k (Nat.lt_of_lt_of_le hk Hg2.out.size) (fun e => by have := Option.some.inj e; omega)).trans (Hg2.out.block k hk)⟩
      go_roundw
      case rel =>
        refine ⟨done ++ [(p1, p2)], todo', ?_, hr3, hm3.perm (settle_step Hnd.out done (p1, p2) f HFf.out Hfn.out), hg3'⟩
        refine Hp.out.trans ?_
        rw [List.append_assoc]
        exact Hp2.out.append_left done
      case measure =>
        rw [hr3.left, Hrg.out.left]
        have := Hp2.out.length_eq
        simp at this
        omega
end Go.Proofs.YtoppcpiheaedlaaGreatDoor
