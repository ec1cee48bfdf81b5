/-
  The program's disk and the document's, with no block in common; a deed on each.
-/
import Derived.Test.YtoppcpiheaedlaaGreatDoorMB19
import Derived.Test.YtoppcpiheaedlaaGreatDoorMB22
import Derived.Test.YtoppcpiheaedlaaGreatDoorMB10
import Derived.Test.YtoppcpiheaedlaaGreatDoorMB23
namespace Go.Proofs.YtoppcpiheaedlaaGreatDoor
open Go.RowKit Go.Maps Go.ChangeShapes Go.WideShapes Go.ChangeAt
set_option linter.unusedVariables false
set_option linter.unusedSimpArgs false
attribute [local go_sem] sv nv mv pv
structure Pair (w0 w : World) (q : Nat) (x : Px) (q2 : Nat) (t : Ds) (xr : RDv) : Prop where
 pd : PD w q x
 rd : RD w q2 t xr
 pnew : ∀ k, useP q x k → w0.heap.size ≤ k
 rnew : ∀ k, useB q2 xr k → w0.heap.size ≤ k
 apart : ∀ k, useP q x k → ¬ useB q2 xr k
 gr : Grows w0 w
section
variable {w0 w w' : World} {q q2 : Nat} {x x' : Px} {t t' : Ds} {xr xr' : RDv}
theorem Pair.grows (h : Pair w0 w q x q2 t xr) (g : Grows w w') : Pair w0 w' q x q2 t xr := ⟨h.pd.grows g, h.rd.grows g, h.pnew, h.rnew, h.apart, Grows.trans' h.gr g⟩
theorem Pair.stepP (h : Pair w0 w q x q2 t xr) (hP : PD w' q x') (hT : TurnP q x x' w w') : Pair w0 w' q x' q2 t xr where
 pd := hP
 rd := h.rd.kept fun k hk => hT.but.block k (h.rd.ltU hk) fun hm => h.apart k (mut_use hm) hk
 pnew := fun k hk => (hT.uses k hk).elim (h.pnew k) fun hl => Nat.le_trans h.gr.size hl
 rnew := h.rnew
 apart := fun k hk h9 => (hT.uses k hk).elim (fun hu => h.apart k hu h9) fun hl => by have := h.rd.ltU h9; omega
 gr := h.gr.trans (hT.but.below h.gr.size fun k hk => h.pnew k (mut_use hk))
theorem Pair.stepD (h : Pair w0 w q x q2 t xr) (hR : RD w' q2 t' xr') (hT : Turn q2 xr xr' w w') : Pair w0 w' q x q2 t' xr' where
 pd := h.pd.kept fun k hk => hT.but.block k (h.pd.ltU hk) fun hm => h.apart k hk (.inl hm)
 rd := hR
 pnew := h.pnew
 rnew := fun k hk => (hT.uses k hk).elim (h.rnew k) fun hl => Nat.le_trans h.gr.size hl
 apart := fun k hk h9 => (hT.uses k h9).elim (fun hu => h.apart k hk hu) fun hl => by have := h.pd.ltU hk; omega
 gr := h.gr.trans (hT.but.below h.gr.size fun k hk => h.rnew k (.inl hk))
theorem pair_bounds {c R : Nat} (h : PD w q x) (hi : Inv c x.s R) (hr : Rel x.s t) (hc : c ≤ 1000) :
 (x.dirs.length < 1000000 ∧ x.made < 1000000 ∧ x.fs.length < 1000000 ∧ x.pend.length < 1000000) ∧ t.chs.length < 1000000 ∧ t.fls.length < 1000000 ∧ t.wrs.length < 1000000 ∧ t.dir.length + t.chs.length ≤ 1000000 := by
 have h1 := hi.dirs
 have h2 : x.made ≤ c := hi.made
 have h3 := hi.files
 have h4 : x.pend.length ≤ c := hi.pend
 have h5 := hr.len
 have h6 : x.made = t.fls.length := hr.made
 have h7 : x.pend.length = t.wrs.length := by have := hr.pend; rw [show x.pend = _ from this, List.length_map]
 have h8 : t.dir.length ≤ 8 := by
  have h9 := (hr.dir 0 (Nat.zero_le _)).length_eq
  rw [List.length_map, show dirT t 0 = t.dir from rfl] at h9
  rw [← h9]
  have hp : 0 < x.dirs.length := List.length_pos_iff.2 h.wf.ne
  have e : x.s.dirs.getD 0 [] = (x.dirs[0]).2 := by simp [Px.s, List.getD, hp]
  rw [e]
  exact (h.wf.names _ (List.getElem_mem hp)).1
 rw [← x.sDirs] at h1 h5
 rw [← x.sFiles] at h3
 omega
theorem pair_do {c R : Nat} (h : Pair w0 w q x q2 t xr) (hi : Inv c x.s R) (hr : Rel x.s t) (hc : c ≤ 1000) (hek : EK w0) (d : Dd) (hd : DdOk w0 d) (hs : d.p.length ≤ 1000000 ∧ d.keep.length ≤ 1000000) :
 Calls Tryz.prog 13 #[.pointer (some ⟨q, 0, none⟩), d.v] w fun e w' => e = .returned (.tuple #[.int .i64 (doP x.s d.dp).1.1, .string ⟨(doP x.s d.dp).1.2.toArray⟩]) ∧ ∃ x', x'.s = (doP x.s d.dp).2 ∧ Pair w0 w' q x' q2 t xr ∧ TurnP q x x' w w' := by
 refine (pDo h.pd d (hd.grows h.gr) hs.1 hs.2 (out_new rfl hd.p fun k hk => h.pnew k (mut_use hk)) (out_newI rfl hd.keep fun k hk => h.pnew k (mut_use hk)) (pair_bounds h.pd hi hr hc).1 hi.code (hek.grows h.gr) (fun h0 => by have := h.pnew 0 (mut_use h0); have := hek.pos; omega)).mono ?_
 rintro e w' ⟨rfl, x', hP, hs, hT⟩
 exact ⟨rfl, x', hs, h.stepP hP hT, hT⟩
theorem pair_model (h : Pair w0 w q x q2 t xr) (hb : t.chs.length < 1000000 ∧ t.fls.length < 1000000 ∧ t.wrs.length < 1000000 ∧ t.dir.length + t.chs.length ≤ 1000000) (d : Dd) (hd : DdOk w0 d) (hs : d.p.length ≤ 1000000 ∧ d.keep.length ≤ 1000000) :
 Calls Tryz.prog 14 #[.pointer (some ⟨q2, 0, none⟩), d.v] w fun e w' => e = .returned (.tuple #[.int .i64 (doD t d.dp).1.1, .string ⟨(doD t d.dp).1.2.toArray⟩]) ∧ ∃ xr', Pair w0 w' q x q2 (doD t d.dp).2 xr' ∧ Turn q2 xr xr' w w' := by
 refine (pModel h.rd d (hd.grows h.gr) hs.2 trivial trivial (out_new rfl hd.p fun k hk => h.rnew k (.inl hk)) (out_newI rfl hd.keep fun k hk => h.rnew k (.inl hk)) hb hs.1).mono ?_
 rintro e w' ⟨rfl, xr', hR, hT⟩
 exact ⟨rfl, xr', h.stepD hR hT, hT⟩
end
theorem pair_new {w0 w w' w'' : World} {q : Nat} {x : Px} {t : Ds} (hg : Grows w0 w) (hP : PD w' q x) (hG : Grows w w') (hU : ∀ k, useP q x k → w.heap.size ≤ k) (hR : RD w'' w'.heap.size t x0) (hG2 : Grows w' w'') : Pair w0 w'' q x w'.heap.size t x0 := by
 have hq : ∀ k, useB w'.heap.size x0 k → k = w'.heap.size := by
  intro k hk
  rcases hk with (hk | hk | hk | hk | ⟨v, hv, _⟩) | hk | ⟨v, hv, _⟩ | ⟨l, hl, _⟩
  · exact hk
  · simp [x0, Value.ownBlock] at hk
  · simp [x0, Value.ownBlock] at hk
  · simp [x0, Value.ownBlock] at hk
  · simp [x0] at hv
  · simp [x0, Value.ownBlock] at hk
  · simp [x0] at hv
  · simp [x0] at hl
 refine ⟨hP.grows hG2, hR, fun k hk => Nat.le_trans hg.size (hU k hk), fun k hk => ?_, fun k hk h2 => ?_, Grows.trans' hg (Grows.trans' hG hG2)⟩
 · rw [hq k hk]
   exact Nat.le_trans hg.size hG.size
 · have h3 := hP.ltU hk
   rw [hq k h2] at h3
   omega
section
variable {H : Type} {enc : TypeId × Value → H} {w : World}
set_option maxRecDepth 100000 in
theorem int_open {b0 : Nat} {v : Value} {d : DataW H} {p : List MemPlace} (hv : Value.okWide Tryz.prog w .any b0 3 v) (h : DataW.Trod enc Tryz.prog w 0 (fun _ => true) true 3 v d p) : ∃ k : Int, v = .int .i64 k ∧ (-9223372036854775808 ≤ k ∧ k ≤ 9223372036854775807) := by
 obtain ⟨k, rfl, _, _, hw⟩ := open_int Tryz.underlying3 hv h
 exact ⟨k, rfl, i64_ranged hw⟩
end
end Go.Proofs.YtoppcpiheaedlaaGreatDoor
