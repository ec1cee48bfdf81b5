/-
  The program's disk: what a new directory, a change in the last one, a new file, another file's rows make of it.
-/
import Derived.Test.YtoppcpiheaedlaaGreatDoorPc
namespace Go.Proofs.YtoppcpiheaedlaaGreatDoor
open Go.RowKit Go.Maps Go.MapKept
set_option linter.unusedVariables false
set_option linter.unusedSimpArgs false

theorem But.one {W W' : World} {b : Nat} (h : W.grownBy W' (some b)) : But (fun k => k = b) W W' :=
  But.grown h fun k hk => (Option.some.inj hk).symm
theorem PD.pushDir {W W1 : World} {q : Nat} {x : Px} (h : PD W q x) (nb : Nat) (d : Dir) (v' : Value) (hB : But (fun k => x.vd.ownBlock = some k) W W1)
    (hrow : W1.ownsRow 0 103 1 v' (x.dirs.length + 1) (x.dirs.map (fun d => mv d.1) ++ [mv nb])) (hat : v'.ownBlock = x.vd.ownBlock ∨ ∀ k, v'.ownBlock = some k → W.heap.size ≤ k)
    (hmap : MapA sv nv W1 nb d) (hnb : W.heap.size ≤ nb) (hn : d.length ≤ 8 ∧ ∀ e ∈ d, nameOK e.1 = true ∧ ∃ f ∈ x.fs, f.num = e.2) (hsm : x.dirs.length < 1000000) :
    PD (W1.setCell ⟨q, 1, none⟩ v') q { x with vd := v', dirs := x.dirs ++ [(nb, d)] } ∧ TurnP q x { x with vd := v', dirs := x.dirs ++ [(nb, d)] } W (W1.setCell ⟨q, 1, none⟩ v') := by
  have hqn : x.vd.ownBlock ≠ some q := fun e => h.qD (.inl e)
  have hB2 : But (fun k => k = q ∨ x.vd.ownBlock = some k) W (W1.setCell ⟨q, 1, none⟩ v') := But.setCell (hB.mono fun k hk => .inr hk) _ _ (.inl rfl)
  have hrow1 := hB.blockEq hqn h.row
  have hq1 : q < W.heap.size := h.ltU (.inl rfl)
  have hm : ∀ k, mutP q { x with vd := v', dirs := x.dirs ++ [(nb, d)] } k → mutP q x k ∨ W.heap.size ≤ k := by
    intro k hk
    rcases hk with hk | hk | hk | hk
    · exact .inl (.inl hk)
    · rcases hat with h' | h'
      · exact .inl (.inr (.inl (h'.symm.trans hk)))
      · exact .inr (h' k hk)
    · exact .inl (.inr (.inr (.inl hk)))
    · exact .inl (.inr (.inr (.inr hk)))
  refine ⟨⟨row_setCell hrow1 1 v', ⟨?_, ?_⟩, ?_, ?_, ?_, ⟨h.wf.room, by simp, ?_, h.wf.nums, h.wf.pend, h.wf.first, ?_⟩⟩, hm, ?_, ?_⟩
  · show (W1.setCell ⟨q, 1, none⟩ v').ownsRow 0 _ 1 v' (x.dirs ++ [(nb, d)]).length _
    rw [List.length_append, List.map_append]
    exact own_but hrow (But.setCell (But.refl' (fun k => k = q) _) _ _ rfl) fun j hj hn => own_ne hrow hrow1 (by decide) (by rw [hj, hn])
  · intro e he
    rcases List.mem_append.1 he with he | he
    · have hd := h.dirs.map e he
      refine hd.kept (hB2.block _ hd.lt fun hk => ?_)
      rcases hk with hk | hk
      · exact h.qD (.inr ⟨e, he, hk.symm⟩)
      · have h1 := kind_own h.dirs.row hk
        have h2 := kind_map hd
        rw [h2] at h1
        simp at h1
    · rw [List.mem_singleton.1 he]
      exact hmap.kept ((But.setCell (But.refl' (fun k => k = q) W1) ⟨q, 1, none⟩ v' rfl).block nb hmap.lt (fun e => by omega))
  · exact h.keepF hB2 fun k hk hf => hk.elim (fun e => h.qF (e ▸ hf)) (fun e => h.dF (.inl e) hf)
  · exact h.keepP hB2 fun k hk hf => hk.elim (fun e => h.qP (e ▸ hf)) (fun e => h.dP (.inl e) hf)
  · intro e he
    rcases List.mem_append.1 he with he | he
    · exact h.fnd e he
    · rw [List.mem_singleton.1 he]
      have : x.fm < W.heap.size := h.ltU (.inr (.inr (.inl (.inl rfl))))
      show nb ≠ x.fm
      omega
  · intro e he
    rcases List.mem_append.1 he with he | he
    · exact h.wf.names e he
    · rw [List.mem_singleton.1 he]; exact hn
  · have := h.wf.small
    refine ⟨?_, this.2⟩
    show (x.dirs ++ [(nb, d)]).length ≤ _
    rw [List.length_append]
    exact hsm
  · intro k hk
    rcases hk with hk | hk | hk | hk
    · exact .inl (.inl hk)
    · rcases hk with hk | ⟨e, he, rfl⟩
      · rcases hat with h' | h'
        · exact .inl (.inr (.inl (.inl (h'.symm.trans hk))))
        · exact .inr (h' k hk)
      · rcases List.mem_append.1 he with he | he
        · exact .inl (.inr (.inl (.inr ⟨e, he, rfl⟩)))
        · rw [List.mem_singleton.1 he]; exact .inr hnb
    · exact .inl (.inr (.inr (.inl hk)))
    · exact .inl (.inr (.inr (.inr hk)))
  · refine hB2.mono fun k hk => ?_
    rcases hk with hk | hk
    · exact .inl hk
    · exact .inr (.inl hk)

/-- The last directory is another one. -/
theorem PD.turnDir {W W' : World} {q : Nat} {x : Px} (h : PD W q x) (ds : List (Nat × Dir)) (nb : Nat) (d d' : Dir) (hx : x.dirs = ds ++ [(nb, d)]) (hne : ∀ e ∈ ds, e.1 ≠ nb) (hg : W.grownBy W' (some nb)) (hm : MapA sv nv W' nb d')
    (hn : d'.length ≤ 8 ∧ ∀ e ∈ d', nameOK e.1 = true ∧ ∃ f ∈ x.fs, f.num = e.2) : PD W' q { x with dirs := ds ++ [(nb, d')] } := by
  have hB := But.one hg
  have hnb : dUse x nb := .inr ⟨(nb, d), by rw [hx]; simp, rfl⟩
  refine ⟨hB.blockEq (fun e => h.qD (e ▸ hnb)) h.row, ⟨?_, ?_⟩, ?_, ?_, ?_, ⟨h.wf.room, by simp, ?_, h.wf.nums, h.wf.pend, h.wf.first, ?_⟩⟩
  · have hr := h.dirs.row
    rw [hx] at hr
    have e1 : (ds ++ [(nb, d)]).length = (ds ++ [(nb, d')]).length := by simp
    have e2 : (ds ++ [(nb, d)]).map (fun d => mv d.1) = (ds ++ [(nb, d')]).map fun d => mv d.1 := by simp
    rw [e1, e2] at hr
    refine own_but hr hB fun j hj hn => ?_
    have h1 := kind_own hr hj
    have h2 := kind_map (h.dirs.map (nb, d) (by rw [hx]; simp))
    rw [hn, h2] at h1
    simp at h1
  · intro e he
    rcases List.mem_append.1 he with he | he
    · have hd := h.dirs.map e (by rw [hx]; simp [he])
      exact hd.kept (hB.block _ hd.lt (hne e he))
    · rw [List.mem_singleton.1 he]; exact hm
  · exact h.keepF hB fun k hk hf => h.dF (hk ▸ hnb) hf
  · exact h.keepP hB fun k hk hf => h.dP (hk ▸ hnb) hf
  · intro e he
    rcases List.mem_append.1 he with he | he
    · exact h.fnd e (by rw [hx]; simp [he])
    · rw [List.mem_singleton.1 he]
      exact h.fnd (nb, d) (by rw [hx]; simp)
  · intro e he
    rcases List.mem_append.1 he with he | he
    · exact h.wf.names e (by rw [hx]; simp [he])
    · rw [List.mem_singleton.1 he]; exact hn
  · have := h.wf.small
    rw [hx] at this
    refine ⟨?_, this.2⟩
    have e1 : (ds ++ [(nb, d)]).length = (ds ++ [(nb, d')]).length := by simp
    rw [← e1]
    exact this.1
/-- A step that turns blocks that may turn, or that are new. -/
theorem TurnP.step {q : Nat} {x x' x'' : Px} {w w' w'' : World} {O : Nat → Prop} (h : TurnP q x x' w w') (hB : But O w' w'') (hO : ∀ k, O k → mutP q x' k ∨ w.heap.size ≤ k) (hm : ∀ k, mutP q x'' k → mutP q x' k ∨ w.heap.size ≤ k) (hu : ∀ k, useP q x'' k → useP q x' k ∨ w.heap.size ≤ k) : TurnP q x x'' w w'' where
  muts := fun k hk => (hm k hk).elim (h.muts k) .inr
  uses := fun k hk => (hu k hk).elim (h.uses k) .inr
  but := ⟨hB.os.trans h.but.os, hB.tape.trans h.but.tape, hB.output.trans h.but.output, Nat.le_trans h.but.size hB.size, fun k hk hn => (hB.block k (Nat.lt_of_lt_of_le hk h.but.size) (fun ho => (hO k ho).elim (fun hm' => (h.muts k hm').elim hn (fun hl => by omega)) (fun hl => by omega))).trans (h.but.block k hk hn)⟩

/-- A new file. -/
theorem PD.addFile {W W' : World} {q : Nat} {x : Px} (h : PD W q x) (fb : Nat) (hfb : ∀ f ∈ x.fs, f.blk ≠ fb) (hrow : W.heap[fb]? = some (.cells #[.slice none 0 0, .slice none 0 0] 113 (0, 0))) (hB : But (fun k => k = q ∨ k = x.fm) W W')
    (hq : W'.heap[q]? = some (.cells (pdRow { x with made := x.made + 1 }) 100 (0, 0))) (hm : MapA nv pv W' x.fm ((x.fs.map Fi.ent) ++ [(x.made + 1, fb)])) (hsm : x.made < 1000000 ∧ x.fs.length < 1000000) :
    PD W' q { x with fs := x.fs ++ [⟨x.made + 1, fb, .slice none 0 0, .slice none 0 0, [], []⟩], made := x.made + 1 } := by
  have hfO : ¬ (fb = q ∨ fb = x.fm) := by
    have h1 := kind_cells hrow
    rintro (e | e)
    · rw [e, h.kindQ] at h1; simp at h1
    · rw [e, kind_map h.files.map] at h1; simp at h1
  refine ⟨hq, ?_, ⟨?_, ?_, ?_⟩, ?_, h.fnd, ⟨h.wf.room, h.wf.ne, ?_, ?_, ?_, h.wf.first, ?_⟩⟩
  · refine h.keepD hB fun k hk hd => ?_
    rcases hk with rfl | rfl
    · exact h.qD hd
    · exact h.dF hd (.inl rfl)
  · show MapA nv pv W' x.fm ((x.fs ++ [_]).map Fi.ent)
    rw [List.map_append]
    exact hm
  · intro f hf
    rcases List.mem_append.1 hf with hf | hf
    · have hk := h.files.ok f hf
      refine hk.kept (hB.block _ (Array.getElem?_eq_some_iff.1 hk.row).1 ?_) fun k hk' => hB.block _ (kind_lt (hk.kind hk')) ?_
      · rintro (e | e)
        · exact h.qF (.inr ⟨f, hf, .inl e.symm⟩)
        · have h1 := kind_cells hk.row
          rw [e, kind_map h.files.map] at h1
          simp at h1
      · rintro (e | e)
        · exact h.qF (.inr ⟨f, hf, .inr (e ▸ hk')⟩)
        · have h1 := hk.kind hk'
          rw [e, kind_map h.files.map] at h1
          simp at h1
    · rw [List.mem_singleton.1 hf]
      exact ⟨hB.blockEq hfO hrow, World.ownsRow_nil _ 0 _ 64, World.ownsRow_nil _ 0 _ 64, rfl, by simp, by simp, by simp, by simp [Value.ownBlock]⟩
  · intro f hf g hg hne
    rcases List.mem_append.1 hf with hf | hf <;> rcases List.mem_append.1 hg with hg | hg
    · exact h.files.apart f hf g hg hne
    · rw [List.mem_singleton.1 hg]
      exact ⟨hfb f hf, fun k _ hk => by rcases hk with hk | hk <;> simp [Value.ownBlock] at hk⟩
    · rw [List.mem_singleton.1 hf]
      exact ⟨fun e => hfb g hg e.symm, fun k hk _ => by rcases hk with hk | hk <;> simp [Value.ownBlock] at hk⟩
    · rw [List.mem_singleton.1 hf, List.mem_singleton.1 hg] at hne
      exact absurd rfl hne
  · refine h.keepP hB fun k hk hd => ?_
    rcases hk with rfl | rfl
    · exact h.qP hd
    · exact h.fP (.inl rfl) hd
  · intro d hd
    refine ⟨(h.wf.names d hd).1, fun e he => ?_⟩
    obtain ⟨h1, f, hf, h2⟩ := (h.wf.names d hd).2 e he
    exact ⟨h1, f, List.mem_append.2 (.inl hf), h2⟩
  · intro f hf
    rcases List.mem_append.1 hf with hf | hf
    · have := h.wf.nums f hf
      show f.num ≤ x.made + 1
      omega
    · rw [List.mem_singleton.1 hf]; exact Nat.le_refl _
  · intro w hw
    obtain ⟨h1, h2, h3, h4⟩ := h.wf.pend w hw
    refine ⟨h1, by show w.id ≤ x.made + 1; omega, h3, fun f hf he => ?_⟩
    rcases List.mem_append.1 hf with hf | hf
    · exact h4 f hf he
    · rw [List.mem_singleton.1 hf] at he
      have : x.made + 1 = w.id := he
      omega
  · have := h.wf.small
    refine ⟨this.1, ?_, this.2.2.1, hsm.1⟩
    show (x.fs ++ [_]).length ≤ _
    rw [List.length_append]
    exact hsm.2
end Go.Proofs.YtoppcpiheaedlaaGreatDoor
