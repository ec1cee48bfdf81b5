import Derived.Test.YtoppcpiheaedlaaGreatDoorMB4
import Derived.Test.YtoppcpiheaedlaaGreatDoorMB3
import Derived.Test.YtoppcpiheaedlaaGreatDoorMB16
section
/-
  The program's slices.Clone of directories, of writes, of sectors.
-/
namespace Go.Proofs.YtoppcpiheaedlaaGreatDoor
open Go.RowKit Go.Maps
set_option linter.unusedVariables false
set_option linter.unusedSimpArgs false
theorem infoWrC_parts : ∃ i z, Tryz.prog.info? 108 = some i ∧ i.zero = some z ∧ i.size = 66 ∧ i.bytes = 80 ∧ z.cells.size = 66 := by
 obtain ⟨i, h1, h2⟩ := Option.map_eq_some_iff.1 infoWr
 simp only [Prod.mk.injEq] at h2
 obtain ⟨z, hz, hzs⟩ := Option.map_eq_some_iff.1 h2.1
 exact ⟨i, z, h1, hz, h2.2.1, h2.2.2, hzs⟩
theorem infoSecC_parts : ∃ i z, Tryz.prog.info? 106 = some i ∧ i.zero = some z ∧ i.size = 64 ∧ i.bytes = 64 ∧ z.cells.size = 64 := by
 obtain ⟨i0, z0, hi, hz, hs, hb, hzc⟩ := infoSec_parts
 exact ⟨i0, z0, hi, hz, hs, hb, by rw [hzc]; simp⟩
set_option maxRecDepth 100000 in
theorem pCloneDirs (v : Value) (n : Nat) (xs : List Value) (w : World) (h : w.ownsRow 0 103 1 v n xs) (h1 : ∀ u ∈ xs, u.oneCell' = true) (hl : n ≤ 1000000) :
 Calls Tryz.prog 54 #[v] w fun e w' => ∃ v', e = .returned v' ∧ w'.ownsRow w.heap.size 103 1 v' n xs ∧ Grows w w' := by
 obtain ⟨i0, z0, hi, hz, hs, hb, hzs⟩ := infoDir_parts
 have hq := Lib.run_eql_slice_nil (P := Tryz.prog)
 have hlen := h.1
 rcases h.2 with ⟨rfl, h0⟩ | ⟨g, cap, cur, rfl, _, hg, _⟩
 · subst h0
   have hxs : xs = [] := List.eq_nil_of_length_eq_zero (by rw [hlen])
   subst hxs
   clear h hlen
   go_enter Tryz.func54, Tryz.ntmps54
   go_wp2
   go_ret
   exact ⟨_, rfl, ⟨by simp, .inl ⟨rfl, rfl⟩⟩, Below.refl _ _⟩
 · have Hc := Lib.hid (fun j u (hj : xs[j]? = some u) => own_cell h j u hj)
   have Hl := Lib.hid hl
   have H1 := Lib.hid h1
   have Hlen := Lib.hid hlen
   clear h hg hl h1 hlen
   go_enter Tryz.func54, Tryz.ntmps54
   go_wp2_with (at_builtin; refine wpList_append_own _ rfl _ _ 94 rfl w.heap.size 103 i0 z0 1 8 Tryz.underlying94 hi hz hs hb hzs (by decide) _ 0 [] rfl ⟨by simp, .inr ⟨w.heap.size, 0, #[], rfl, Nat.le_refl _, heap_alloc_new w _, Nat.le_refl _, by simp [maxLen], by simp, by simp⟩⟩ ⟨g, 0, none⟩ n cap xs rfl (by rw [Hlen.out]) (fun j u hu => by rw [Addr.add_lit, Nat.zero_add]; exact (Grows.alloc' w _).cell' (Hc.out j u hu)) (fun u hu => H1.out u hu) (by have := Hl.out; unfold maxLen; omega) (by have := Hl.out; omega) (by simp) ?_; intro v1 w1 ho hg _)
   have HO := Lib.hid ho
   have HG : Hid (Grows w w1) := ((Below.refl _ _).alloc (Nat.le_refl _) _).grown hg (by simp) (fun j hj => by cases (show some w.heap.size = some j from hj); exact Nat.le_refl _)
   obtain ⟨a1, c1, rfl⟩ := own_form ho
   clear ho hg
   go_wp2
   go_ret
   exact ⟨_, rfl, by simpa using HO.out, HG.out⟩
set_option maxRecDepth 100000 in
theorem pCloneWrs (v : Value) (n : Nat) (xs : List Value) (w : World) (h : w.ownsRow 0 108 66 v n xs) (h1 : ∀ u ∈ xs, u.oneCell' = true) (hl : n ≤ 1000000) :
 Calls Tryz.prog 55 #[v] w fun e w' => ∃ v', e = .returned v' ∧ w'.ownsRow w.heap.size 108 66 v' n xs ∧ Grows w w' := by
 obtain ⟨i0, z0, hi, hz, hs, hb, hzs⟩ := infoWrC_parts
 have hq := Lib.run_eql_slice_nil (P := Tryz.prog)
 have hlen := h.1
 rcases h.2 with ⟨rfl, h0⟩ | ⟨g, cap, cur, rfl, _, hg, _⟩
 · subst h0
   have hxs : xs = [] := List.eq_nil_of_length_eq_zero (by rw [hlen])
   subst hxs
   clear h hlen
   go_enter Tryz.func55, Tryz.ntmps55
   go_wp2
   go_ret
   exact ⟨_, rfl, ⟨by simp, .inl ⟨rfl, rfl⟩⟩, Below.refl _ _⟩
 · have Hc := Lib.hid (fun j u (hj : xs[j]? = some u) => own_cell h j u hj)
   have Hl := Lib.hid hl
   have H1 := Lib.hid h1
   have Hlen := Lib.hid hlen
   clear h hg hl h1 hlen
   go_enter Tryz.func55, Tryz.ntmps55
   go_wp2_with (at_builtin; refine wpList_append_own _ rfl _ _ 96 rfl w.heap.size 108 i0 z0 66 80 Tryz.underlying96 hi hz hs hb hzs (by decide) _ 0 [] rfl ⟨by simp, .inr ⟨w.heap.size, 0, #[], rfl, Nat.le_refl _, heap_alloc_new w _, Nat.le_refl _, by simp [maxLen], by simp, by simp⟩⟩ ⟨g, 0, none⟩ n cap xs rfl (by rw [Hlen.out]) (fun j u hu => by rw [Addr.add_lit, Nat.zero_add]; exact (Grows.alloc' w _).cell' (Hc.out j u hu)) (fun u hu => H1.out u hu) (by have := Hl.out; unfold maxLen; omega) (by have := Hl.out; omega) (by simp) ?_; intro v1 w1 ho hg _)
   have HO := Lib.hid ho
   have HG : Hid (Grows w w1) := ((Below.refl _ _).alloc (Nat.le_refl _) _).grown hg (by simp) (fun j hj => by cases (show some w.heap.size = some j from hj); exact Nat.le_refl _)
   obtain ⟨a1, c1, rfl⟩ := own_form ho
   clear ho hg
   go_wp2
   go_ret
   exact ⟨_, rfl, by simpa using HO.out, HG.out⟩
set_option maxRecDepth 100000 in
theorem pCloneSecs (v : Value) (n : Nat) (xs : List Value) (w : World) (h : w.ownsRow 0 106 64 v n xs) (h1 : ∀ u ∈ xs, u.oneCell' = true) (hl : n ≤ 1000000) :
 Calls Tryz.prog 56 #[v] w fun e w' => ∃ v', e = .returned v' ∧ w'.ownsRow w.heap.size 106 64 v' n xs ∧ Grows w w' := by
 obtain ⟨i0, z0, hi, hz, hs, hb, hzs⟩ := infoSecC_parts
 have hq := Lib.run_eql_slice_nil (P := Tryz.prog)
 have hlen := h.1
 rcases h.2 with ⟨rfl, h0⟩ | ⟨g, cap, cur, rfl, _, hg, _⟩
 · subst h0
   have hxs : xs = [] := List.eq_nil_of_length_eq_zero (by rw [hlen])
   subst hxs
   clear h hlen
   go_enter Tryz.func56, Tryz.ntmps56
   go_wp2
   go_ret
   exact ⟨_, rfl, ⟨by simp, .inl ⟨rfl, rfl⟩⟩, Below.refl _ _⟩
 · have Hc := Lib.hid (fun j u (hj : xs[j]? = some u) => own_cell h j u hj)
   have Hl := Lib.hid hl
   have H1 := Lib.hid h1
   have Hlen := Lib.hid hlen
   clear h hg hl h1 hlen
   go_enter Tryz.func56, Tryz.ntmps56
   go_wp2_with (at_builtin; refine wpList_append_own _ rfl _ _ 110 rfl w.heap.size 106 i0 z0 64 64 Tryz.underlying110 hi hz hs hb hzs (by decide) _ 0 [] rfl ⟨by simp, .inr ⟨w.heap.size, 0, #[], rfl, Nat.le_refl _, heap_alloc_new w _, Nat.le_refl _, by simp [maxLen], by simp, by simp⟩⟩ ⟨g, 0, none⟩ n cap xs rfl (by rw [Hlen.out]) (fun j u hu => by rw [Addr.add_lit, Nat.zero_add]; exact (Grows.alloc' w _).cell' (Hc.out j u hu)) (fun u hu => H1.out u hu) (by have := Hl.out; unfold maxLen; omega) (by have := Hl.out; omega) (by simp) ?_; intro v1 w1 ho hg _)
   have HO := Lib.hid ho
   have HG : Hid (Grows w w1) := ((Below.refl _ _).alloc (Nat.le_refl _) _).grown hg (by simp) (fun j hj => by cases (show some w.heap.size = some j from hj); exact Nat.le_refl _)
   obtain ⟨a1, c1, rfl⟩ := own_form ho
   clear ho hg
   go_wp2
   go_ret
   exact ⟨_, rfl, by simpa using HO.out, HG.out⟩
end Go.Proofs.YtoppcpiheaedlaaGreatDoor
end
section
/-
  The program's disk: Copy.
-/
namespace Go.Proofs.YtoppcpiheaedlaaGreatDoor
open Go.RowKit Go.Maps Go.MapKept
set_option linter.unusedVariables false
set_option linter.unusedSimpArgs false
attribute [local go_sem] sv nv mv pv
structure SameP (a b : Ps) : Prop where
 room : a.room = b.room
 dirs : a.dirs = b.dirs
 made : a.made = b.made
 pend : a.pend = b.pend
 first : a.first = b.first
 code : a.code = b.code
 files : ∀ n, findA a.files n = findA b.files n
 perm : a.files.Perm b.files
theorem RangeA.kind {α β : Type} {kv : α → Value} {vv : β → Value} {W : World} {b r : Nat} {l todo : List (α × β)} (h : RangeA kv vv W b r l todo) : kindAt W r = none := by
 obtain ⟨es, clock, since, seen, c0, hb, hs, hm, h2, hr, _⟩ := h
 unfold kindAt
 rw [hr]
theorem own_bot {e B k n : Nat} {W : World} {v : Value} {xs : List Value} (h : W.ownsRow B e k v n xs) : ∀ j, v.ownBlock = some j → B ≤ j := by
 intro j hj
 rcases h.2 with ⟨rfl, _⟩ | ⟨g, cap, cur, rfl, hB, _⟩
 · simp [Value.ownBlock] at hj
 · simp [Value.ownBlock] at hj
   omega
theorem own_low {W : World} {B B' e k n : Nat} {v : Value} {xs : List Value} (h : W.ownsRow B e k v n xs) (hB : B' ≤ B) : W.ownsRow B' e k v n xs :=
 ⟨h.1, h.2.imp id fun ⟨g, cap, cur, e1, hb, r⟩ => ⟨g, cap, cur, e1, Nat.le_trans hB hb, r⟩⟩
theorem FiOk.other {W W' : World} {f : Fi} (h : FiOk W f) (hk : ∀ k T, kindAt W k = some (some T) → W'.heap[k]? = W.heap[k]?) : FiOk W' f :=
 h.kept (hk _ _ (kind_cells h.row)) fun k hk' => hk _ _ (h.kind hk')
structure Cop (B : Nat) (W : World) (fs fs2 : List Fi) (ns : List Nat) : Prop where
 nums : fs2.map (fun f => f.num) = ns
 ok : ∀ f ∈ fs2, FiOk W f
 same : ∀ f ∈ fs2, ∃ g ∈ fs, g.num = f.num ∧ g.now = f.now ∧ g.safe = f.safe
 new : ∀ f ∈ fs2, ∀ k, k = f.blk ∨ FiRows f k → B ≤ k
 apart : ∀ f ∈ fs2, ∀ g ∈ fs2, f.num ≠ g.num → Apart f g
theorem Cop.nil (B : Nat) (W : World) (fs : List Fi) : Cop B W fs [] [] := ⟨rfl, fun f h => (by cases h), fun f h => (by cases h), fun f h => (by cases h), fun f h => (by cases h)⟩
theorem Cop.other {B : Nat} {W W' : World} {fs fs2 : List Fi} {ns : List Nat} (h : Cop B W fs fs2 ns) (hk : ∀ k T, kindAt W k = some (some T) → W'.heap[k]? = W.heap[k]?) : Cop B W' fs fs2 ns :=
 ⟨h.nums, fun f hf => (h.ok f hf).other hk, h.same, h.new, h.apart⟩
theorem FiOk.lt {W : World} {f : Fi} (h : FiOk W f) {k : Nat} (hk : k = f.blk ∨ FiRows f k) : k < W.heap.size := by
 rcases hk with rfl | hk
 · exact kind_lt (kind_cells h.row)
 · exact kind_lt (h.kind hk)
theorem Cop.step {B N : Nat} {W W' : World} {fs fs2 : List Fi} {ns : List Nat} (h : Cop B W fs fs2 ns) (hk : ∀ k T, kindAt W k = some (some T) → W'.heap[k]? = W.heap[k]?) (hN : W.heap.size = N) (hB : B ≤ N)
 (f2 : Fi) (h2 : FiOk W' f2) (hnew : ∀ k, k = f2.blk ∨ FiRows f2 k → N ≤ k) (g : Fi) (hg : g ∈ fs) (hs : g.num = f2.num ∧ g.now = f2.now ∧ g.safe = f2.safe) : Cop B W' fs (fs2 ++ [f2]) (ns ++ [f2.num]) := by
 have h' := h.other hk
 have hlt : ∀ f ∈ fs2, ∀ k, k = f.blk ∨ FiRows f k → k < N := fun f hf k hk => by have := (h.ok f hf).lt hk; omega
 have hap : ∀ f ∈ fs2, Apart f f2 := fun f hf => ⟨fun e => by have h1 := hlt f hf _ (.inl rfl); have h3 := hnew _ (.inl rfl); omega, fun k h1 h3 => by have h1 := hlt f hf _ (.inr h1); have h3 := hnew _ (.inr h3); omega⟩
 have hap2 : ∀ f ∈ fs2, Apart f2 f := fun f hf => ⟨fun e => (hap f hf).1 e.symm, fun k h1 h3 => (hap f hf).2 k h3 h1⟩
 refine ⟨by rw [List.map_append, h.nums]; rfl, ?_, ?_, ?_, ?_⟩
 · intro f hf
   rcases List.mem_append.1 hf with hf | hf
   · exact h'.ok f hf
   · rw [List.mem_singleton.1 hf]; exact h2
 · intro f hf
   rcases List.mem_append.1 hf with hf | hf
   · exact h.same f hf
   · rw [List.mem_singleton.1 hf]; exact ⟨g, hg, hs⟩
 · intro f hf k hk
   rcases List.mem_append.1 hf with hf | hf
   · exact h.new f hf k hk
   · rw [List.mem_singleton.1 hf] at hk; exact Nat.le_trans hB (hnew k hk)
 · intro f hf g hg hne
   rcases List.mem_append.1 hf with hf | hf <;> rcases List.mem_append.1 hg with hg | hg
   · exact h.apart f hf g hg hne
   · rw [List.mem_singleton.1 hg]; exact hap f hf
   · rw [List.mem_singleton.1 hf]; exact hap2 g hg
   · rw [List.mem_singleton.1 hf, List.mem_singleton.1 hg] at hne; exact absurd rfl hne
theorem PD.copied {w W : World} {q qc : Nat} {x : Px} (h : PD w q x) (hG : Grows w W) (hq : w.heap.size ≤ qc) (v1 v4 : Value) (g2 : Nat) (hg2 : w.heap.size ≤ g2) (fs2 : List Fi) (ns : List Nat)
 (hrow : W.heap[qc]? = some (.cells #[nv x.room, v1, mv g2, nv x.made, v4, .int .i64 x.first, .int .i64 x.code] 100 (0, 0)))
 (h1 : W.ownsRow w.heap.size 103 1 v1 x.dirs.length (x.dirs.map fun d => mv d.1)) (h4 : W.ownsRow w.heap.size 108 66 v4 x.pend.length (x.pend.flatMap wpC))
 (hm : MapA nv pv W g2 (fs2.map Fi.ent)) (hc : Cop w.heap.size W x.fs fs2 ns) (hns : ns.Perm (x.fs.map fun f => f.num)) :
 ∃ xc, PD W qc xc ∧ SameP xc.s x.s ∧ (∀ k, useP qc xc k → w.heap.size ≤ k ∨ ∃ d ∈ x.dirs, k = d.1) ∧ ∀ k, mutP qc xc k → w.heap.size ≤ k := by
 have hW := h.grows hG
 have hnd2 : (fs2.map fun f => f.num).Nodup := by have := hm.nodup; rw [List.map_map] at this; exact this
 have hthere : ∀ g ∈ x.fs, ∃ f ∈ fs2, f.num = g.num ∧ f.now = g.now ∧ f.safe = g.safe := fun g hg => by
  have : g.num ∈ ns := hns.mem_iff.2 (List.mem_map.2 ⟨g, hg, rfl⟩)
  rw [← hc.nums] at this
  obtain ⟨f, hf, e⟩ := List.mem_map.1 this
  obtain ⟨g', hg', e1, e2, e3⟩ := hc.same f hf
  obtain rfl : g' = g := num_inj (fs_nodup h) hg' hg (e1.trans e)
  exact ⟨f, hf, e, e2.symm, e3.symm⟩
 have hmut : ∀ k, (k = g2 ∨ ∃ f ∈ fs2, k = f.blk ∨ FiRows f k) → w.heap.size ≤ k := fun k hk => by
  rcases hk with rfl | ⟨f, hf, hk⟩
  · exact hg2
  · exact hc.new f hf k hk
 refine ⟨⟨x.room, v1, x.dirs, g2, fs2, x.made, v4, x.pend, x.first, x.code⟩, ⟨hrow, ⟨own_low h1 (Nat.zero_le _), hW.dirs.map⟩, ⟨hm, hc.ok, hc.apart⟩, own_low h4 (Nat.zero_le _), fun d hd => ?_, ⟨h.wf.room, h.wf.ne, ?_, ?_, ?_, h.wf.first, ?_⟩⟩, ⟨rfl, rfl, rfl, rfl, rfl, rfl, ?_, ?_⟩, ?_, ?_⟩
 · have := (h.dirs.map d hd).lt
   show d.1 ≠ g2
   omega
 · intro d hd
   refine ⟨(h.wf.names d hd).1, fun e he => ?_⟩
   obtain ⟨h5, f, hf, h6⟩ := (h.wf.names d hd).2 e he
   obtain ⟨f2, hf2, e2, _⟩ := hthere f hf
   exact ⟨h5, f2, hf2, e2.trans h6⟩
 · intro f hf
   obtain ⟨g, hg, e1, _⟩ := hc.same f hf
   rw [← e1]
   exact h.wf.nums g hg
 · intro c hc'
   obtain ⟨h5, h6, h7, h8⟩ := h.wf.pend c hc'
   refine ⟨h5, h6, h7, fun f hf e => ?_⟩
   obtain ⟨g, hg, e1, e2, _⟩ := hc.same f hf
   rw [← e2]
   exact h8 g hg (e1.trans e)
 · have := h.wf.small
   have hl := hns.length_eq
   rw [← hc.nums, List.length_map, List.length_map] at hl
   exact ⟨this.1, by show fs2.length ≤ _; omega, this.2.2⟩
 · intro n
   show findA (fs2.map Fi.pure) n = findA (x.fs.map Fi.pure) n
   have hk1 : ((fs2.map Fi.pure).map (·.1)).Nodup := by rw [List.map_map]; exact hnd2
   have hk2 : ((x.fs.map Fi.pure).map (·.1)).Nodup := by rw [List.map_map]; exact fs_nodup h
   cases hf : findA (x.fs.map Fi.pure) n with
   | none =>
    refine findA_none fun p hp e => ?_
    obtain ⟨f, hf2, rfl⟩ := List.mem_map.1 hp
    obtain ⟨g, hg, e1, _⟩ := hc.same f hf2
    exact findA_none_iff.1 hf g.pure (List.mem_map.2 ⟨g, hg, rfl⟩) (e1.trans e)
   | some u =>
    obtain ⟨g, hg, eg⟩ := List.mem_map.1 (findA_mem hf)
    obtain ⟨f, hf2, e1, e2, e3⟩ := hthere g hg
    refine findA_of_mem hk1 (List.mem_map.2 ⟨f, hf2, ?_⟩)
    rw [← eg]
    show (f.num, (f.now, f.safe)) = (g.num, (g.now, g.safe))
    rw [e1, e2, e3]
 · have hk1 : ((fs2.map Fi.pure).map (·.1)).Nodup := by rw [List.map_map]; exact hnd2
   have hk2 : ((x.fs.map Fi.pure).map (·.1)).Nodup := by rw [List.map_map]; exact fs_nodup h
   refine (List.perm_ext_iff_of_nodup (nodup_of_keys hk1) (nodup_of_keys hk2)).2 fun p => ⟨fun hp => ?_, fun hp => ?_⟩
   · obtain ⟨f, hf, rfl⟩ := List.mem_map.1 hp
     obtain ⟨g, hg, e1, e2, e3⟩ := hc.same f hf
     refine List.mem_map.2 ⟨g, hg, ?_⟩
     show (g.num, (g.now, g.safe)) = (f.num, (f.now, f.safe))
     rw [e1, e2, e3]
   · obtain ⟨g, hg, rfl⟩ := List.mem_map.1 hp
     obtain ⟨f, hf, e1, e2, e3⟩ := hthere g hg
     refine List.mem_map.2 ⟨f, hf, ?_⟩
     show (f.num, (f.now, f.safe)) = (g.num, (g.now, g.safe))
     rw [e1, e2, e3]
 · intro k hk
   rcases hk with hk | hk | hk | hk
   · left; have : k = qc := hk; omega
   · rcases hk with hk | ⟨d, hd, rfl⟩
     · exact .inl (own_bot h1 k hk)
     · exact .inr ⟨d, hd, rfl⟩
   · exact .inl (hmut k hk)
   · exact .inl (own_bot h4 k hk)
 · intro k hk
   rcases hk with hk | hk | hk | hk
   · have : k = qc := hk; omega
   · exact own_bot h1 k hk
   · exact hmut k hk
   · exact own_bot h4 k hk
theorem StepOk.of_skip {P : Program} {o : Oper} {ρ : Operand → Value} {w w' : World} {Ψ : Value → World → Prop} (h : (execOp ρ o).run P w = .ok .skip w') (hv : Ψ undef w') : StepOk P o ρ w Ψ := by
 unfold StepOk; rw [h]; exact hv
def cpT (qc : Nat) (x : Px) (n : Nat) (xs : List Value) : StateK :=
 { Ψ := fun s W => match s with
    | 0 => W.heap[qc]? = some (.cells (pdRow x) 100 (0, 0))
    | 1 => ∃ v, W.heap[qc]? = some (.cells ((pdRow x).setIfInBounds 1 v) 100 (0, 0)) ∧ W.ownsRow (qc + 1) 103 1 v n xs
    | _ => True
   made := #[none, some 11], kl := #[[11], []], use := #[[], [], [], [], [], [], [], [], [], [], [], [0]], muts := [11] }
theorem cpT_ks (qc : Nat) (x : Px) (n : Nat) (xs : List Value) : ∀ i s W W', i ∉ (cpT qc x n xs).kl.getD s [] → (cpT qc x n xs).made.getD s none ≠ some i → (cpT qc x n xs).rel (But fun k => k = qc) i W W' → (cpT qc x n xs).Ψ s W → (cpT qc x n xs).Ψ s W' := by
 intro i s W W' h1 h2 h3 h4
 match s with
 | 0 =>
  have hi : i ≠ 11 := by simpa [cpT] using h1
  have h5 : Grows W W' := by simpa [StateK.rel, cpT, hi] using h3
  exact h5.heap' h4
 | 1 =>
  have hi : i ≠ 11 := by intro e; exact h2 (by rw [e]; rfl)
  have h5 : Grows W W' := by simpa [StateK.rel, cpT, hi] using h3
  obtain ⟨v, a1, a2⟩ := h4
  exact ⟨v, h5.heap' a1, own_grows a2 h5⟩
 | _ + 2 => trivial
theorem zeroDisk : ((Tryz.prog.info? 100).bind (fun i => i.zero)).map (fun z => z.cells) = some #[.int .i64 0, .slice none 0 0, .map none, .int .i64 0, .slice none 0 0, .int .i64 0, .int .i64 0] := by kernel_rfl
theorem sizeDisk : (Tryz.prog.info? 100).map (·.size) = some 7 := by kernel_rfl
set_option maxRecDepth 100000 in
set_option maxHeartbeats 8000000 in
theorem pCopy {w : World} {q : Nat} {x : Px} (h : PD w q x) :
 Calls Tryz.prog 16 #[.pointer (some ⟨q, 0, none⟩)] w fun e w' => ∃ qc xc, e = .returned (.pointer (some ⟨qc, 0, none⟩)) ∧ PD w' qc xc ∧ SameP xc.s x.s ∧ Grows w w' ∧ (∀ k, useP qc xc k → w.heap.size ≤ k ∨ ∃ d ∈ x.dirs, k = d.1) ∧ ∀ k, mutP qc xc k → w.heap.size ≤ k := by
 have hmx : Tryz.prog.follows .mixedOrders = true := by kernel_rfl
 have hmk := @run_makeMap Tryz.prog
 have H := Lib.hid h
 obtain ⟨qc, Hqc⟩ : ∃ y, Hid (w.heap.size = y) := ⟨_, rfl⟩
 have Hqlt : Hid (q < qc) := by show _ < _; rw [← Hqc.out]; exact h.ltU (.inl rfl)
 have Hqne : Hid (¬ (q = qc)) := by have := Hqlt.out; show ¬ _; omega
 obtain ⟨a1, k1, e1⟩ := own_form h.dirs.row
 obtain ⟨a4, k4, e4⟩ := own_form (show w.ownsRow 0 108 66 x.vp x.pend.length (x.pend.flatMap wpC) from h.pend)
 obtain ⟨nd, Hnd⟩ : ∃ y, Hid (x.dirs.length = y) := ⟨_, rfl⟩
 obtain ⟨np, Hnp⟩ : ∃ y, Hid (x.pend.length = y) := ⟨_, rfl⟩
 rw [Hnd.out] at e1
 rw [Hnp.out] at e4
 obtain ⟨xd, Hxd⟩ : ∃ y, Hid ((x.dirs.map fun d => mv d.1) = y) := ⟨_, rfl⟩
 obtain ⟨xw, Hxw⟩ : ∃ y, Hid (x.pend.flatMap wpC = y) := ⟨_, rfl⟩
 have Hrd : Hid (w.ownsRow 0 103 1 (.slice a1 nd k1) nd xd) := by have := h.dirs.row; rw [e1, Hnd.out, Hxd.out] at this; exact this
 have Hrp : Hid (w.ownsRow 0 108 66 (.slice a4 np k4) np xw) := by have : w.ownsRow 0 _ 66 x.vp x.pend.length (x.pend.flatMap wpC) := h.pend; rw [e4, Hnp.out, Hxw.out] at this; exact this
 have Hod : Hid (∀ u ∈ xd, u.oneCell' = true) := by
  intro u hu
  rw [← Hxd.out] at hu
  obtain ⟨d, _, rfl⟩ := List.mem_map.1 hu
  rfl
 have Hop : Hid (∀ u ∈ xw, u.oneCell' = true) := by
  intro u hu
  rw [← Hxw.out] at hu
  obtain ⟨c, _, hc⟩ := List.mem_flatMap.1 hu
  exact wpC_one c u hc
 have Hsm : Hid (nd ≤ 1000000 ∧ np ≤ 1000000) := by have := h.wf.small; rw [Hnd.out, Hnp.out] at this; exact ⟨this.1, this.2.2.1⟩
 obtain ⟨C, HC⟩ : ∃ C, Hid (pdRow x = C) := ⟨_, rfl⟩
 have HCs : Hid (C.size = 7) := by show _ = _; rw [← HC.out]; rfl
 have HCc : Hid (∀ j v, C.toList[j]? = some v → w.cell? ((⟨q, 0, none⟩ : Addr).add j) = some v) := by
  intro j v hj
  rw [Addr.add_lit, Nat.zero_add, cell_of_row w q j _ _ _ h.row, HC.out, ← Array.getElem?_toList]
  exact hj
 have HC1 : Hid (C.all (·.oneCell') = true) := by
  show _ = _
  rw [← HC.out]
  unfold pdRow
  rw [e1, e4]
  simp [Value.oneCell', nv, mv]
 have HCl : Hid ((Tryz.prog.info? 100).map (·.size) = some C.toList.length) := by show _ = _; rw [sizeDisk, Array.length_toList, HCs.out]
 have hnew := heap_alloc_new w (.cells #[.int .i64 0, .slice none 0 0, .map none, .int .i64 0, .slice none 0 0, .int .i64 0, .int .i64 0] 100)
 rw [Hqc.out] at hnew
 have Hnew := Lib.hid hnew
 have hG2 : Grows w ((w.alloc (.cells #[.int .i64 0, .slice none 0 0, .map none, .int .i64 0, .slice none 0 0, .int .i64 0, .int .i64 0] 100)).setRow qc C) := by
  refine ⟨rfl, rfl, rfl, by simp, fun k hk => ?_⟩
  rw [setRow_other _ qc k C (by have := Hqc.out; omega)]
  exact heap_alloc_old w _ hk
 have hrow2 := setRow_heap _ qc _ C _ _ hnew
 have hsz2 : ((w.alloc (.cells #[.int .i64 0, .slice none 0 0, .map none, .int .i64 0, .slice none 0 0, .int .i64 0, .int .i64 0] 100)).setRow qc C).heap.size = qc + 1 := by simp [Hqc.out]
 obtain ⟨w2, Hw2⟩ : ∃ y, Hid ((w.alloc (.cells #[.int .i64 0, .slice none 0 0, .map none, .int .i64 0, .slice none 0 0, .int .i64 0, .int .i64 0] 100)).setRow qc C = y) := ⟨_, rfl⟩
 rw [Hw2.out] at hG2 hrow2 hsz2
 have HG2 := Lib.hid hG2
 rw [← HC.out] at hrow2
 have Hrow2 := Lib.hid hrow2
 have Hsz2 := Lib.hid hsz2
 have c1 := hG2.cell' (h.cell 1 x.vd rfl)
 have c4 := hG2.cell' (h.cell 4 x.vp rfl)
 rw [e1] at c1
 rw [e4] at c4
 have Hrd2 := Lib.hid (own_grows Hrd.out hG2)
 have Hrp2 := Lib.hid (own_grows Hrp.out hG2)
 have HdN : Hid (∀ j, (Value.slice a1 nd k1).ownBlock = some j → ¬ (j = qc)) := fun j hj => by have := own_lt Hrd.out j hj; have := Hqc.out; omega
 have HpN : Hid (∀ j, (Value.slice a4 np k4).ownBlock = some j → ¬ (j = qc)) := fun j hj => by have := own_lt Hrp.out j hj; have := Hqc.out; omega
 clear h hnew hG2 hrow2 hsz2 e1 e4
 go_enter Tryz.func16, Tryz.ntmps16
 go_wp2_with (first
  | (refine wpList_loadPart rfl 100 _ rfl ⟨q, 0, none⟩ rfl C.toList C (by simp) _ HCc.out Tryz.underlying100 rfl HCl.out ?_)
  | (refine wpList_allocT rfl 100 rfl _ zeroDisk ?_; rw [Hqc.out])
  | (refine wpList_storeT rfl 100 _ _ rfl qc 100 _ C rfl rfl Hnew.out (by rw [sizeDisk, HCs.out]) (by rw [HCs.out]; rfl) HC1.out ?_; rw [Hw2.out])
  | fail)
 simp only [Act.put, List.setIfInBounds_toArray, List.set_cons_succ, List.set_cons_zero]
 have cXc := fun X (hX : (But (fun k => k = qc)) _ X) => And.intro (But.cell hX Hqne.out c1) (But.cell hX Hqne.out c4)
 refine region_K_last (E := (But (fun k => k = qc))) (But.ok _) But.ofGrows 13
  #[[], [0], [0, 1], [0, 1, 2], [0, 1, 2, 3], [], [5], [5, 6], [5, 6, 7], [0, 1, 2, 3, 4, 5, 6, 7, 8], [0, 1, 2, 3, 4, 5, 6, 7, 8, 9], [0, 1, 2, 3, 4, 5, 6, 7, 8, 9, 10], [0, 1, 2, 3, 4, 5, 6, 7, 8, 9, 10, 11], [0, 1, 2, 3, 4, 5, 6, 7, 8, 9, 10, 11, 12]] #[[0], [], [], [], [], [0], [], [], [], [], [3], [], [3], []] #[true, true, true, true, true, true, true, true, true, true, true, true, true, true]
  ((.val ?vc0) :: (.val ?vc1) :: (.val ?vc2) :: (.val ?vc3) :: (.pred (fun v W => W.ownsRow (qc + 1) 103 1 v nd xd) (fun v a b h ho => own_but ho h (fun j hj e => by have h1 := own_bot ho j hj; have e' : j = qc := e; omega))) :: (.val ?vc5) :: (.val ?vc6) :: (.val ?vc7) :: (.val ?vc8) :: (.pred (fun v W => W.ownsRow (qc + 1) 108 66 v np xw) (fun v a b h ho => own_but ho h (fun j hj e => by have h1 := own_bot ho j hj; have e' : j = qc := e; omega))) :: (.val ?vc10) :: (.any) :: (.val ?vc12) :: (.any) :: []).toArray
  (cpT qc x nd xd)
  (cpT_ks _ _ _ _)
  (fun s hs => match s, hs with | 0, _ => Hrow2.out | 1, h => by simp [cpT] at h | _ + 2, _ => trivial)
  hmx ?chkc rfl ?grdc rfl ?stpc ?rstc
 case chkc => rfl
 case stpc =>
  refine ⟨?_, ?_, ?_, ?_, ?_, ?_, ?_, ?_, ?_, ?_, ?_, ?_, ?_, ?_, trivial⟩
  · refine stepOK 0 ?vc0 rfl (fun _ _ => rfl) rfl rfl (fun _ => rfl) (by decide) ?_; show (.pointer (some ⟨q, 0, none⟩) : Value) = _; rfl
  · refine stepRK (o := ⟨_, .nilCheck (.tmp 11), _, _, _, _⟩) ?vc1 rfl rfl rfl (fun _ => rfl) fun ρ X hc hf hgl hX hp ho => ?_; have k11 : ρ (.tmp 11) = ?vc0 := hp 0 (by decide); clear hp ho hX; go_simp; (all_goals rfl)
  · refine stepRK (o := ⟨_, .fieldAddr 100 (.tmp 12) 1, _, _, _, _⟩) ?vc2 rfl rfl rfl (fun _ => rfl) fun ρ X hc hf hgl hX hp ho => ?_; have k12 : ρ (.tmp 12) = ?vc1 := hp 1 (by decide); clear hp ho hX; go_simp; (all_goals rfl)
  · refine stepRK (o := ⟨_, .load 94 (.tmp 13), _, _, _, _⟩) ?vc3 rfl rfl rfl (fun _ => rfl) fun ρ X hc hf hgl hX hp ho => ?_; have k13 : ρ (.tmp 13) = ?vc2 := hp 2 (by decide); have cX := cXc X hX; clear hp ho hX; go_simp; (all_goals rfl)
  · refine step_introK rfl rfl fun ρ X hc hf hgl hX hp ho hu => ?_
    change StepOk _ ⟨_, .call { callee := .value (.func 54), args := #[.tmp 14], argTypes := #[94] }, _, _, _, _⟩ _ _ _
    have k14 : ρ (.tmp 14) = ?vc3 := hp 3 (by decide)
    refine stepK_plain (i := 4) rfl ?_
    clear hu
    clear hp ho
    have hc9 := pCloneDirs _ _ _ X (own_but Hrd2.out hX (fun j hj e => HdN.out j hj e)) Hod.out Hsm.out.1
    refine StepOk.of_call (f := 54) (args := #[.slice a1 nd k1]) (w' := X) ?_ hc9 ?_
    · go_simp
      all_goals rfl
    · rintro e w' ⟨v', rfl, ho', hg'⟩
      exact ⟨v', rfl, own_low ho' (by have := hX.size; have := Hsz2.out; omega), hg'⟩
  · refine stepOK 0 ?vc5 rfl (fun _ _ => rfl) rfl rfl (fun _ => rfl) (by decide) ?_; show (.pointer (some ⟨q, 0, none⟩) : Value) = _; rfl
  · refine stepRK (o := ⟨_, .nilCheck (.tmp 16), _, _, _, _⟩) ?vc6 rfl rfl rfl (fun _ => rfl) fun ρ X hc hf hgl hX hp ho => ?_; have k16 : ρ (.tmp 16) = ?vc5 := hp 5 (by decide); clear hp ho hX; go_simp; (all_goals rfl)
  · refine stepRK (o := ⟨_, .fieldAddr 100 (.tmp 17) 4, _, _, _, _⟩) ?vc7 rfl rfl rfl (fun _ => rfl) fun ρ X hc hf hgl hX hp ho => ?_; have k17 : ρ (.tmp 17) = ?vc6 := hp 6 (by decide); clear hp ho hX; go_simp; (all_goals rfl)
  · refine stepRK (o := ⟨_, .load 96 (.tmp 18), _, _, _, _⟩) ?vc8 rfl rfl rfl (fun _ => rfl) fun ρ X hc hf hgl hX hp ho => ?_; have k18 : ρ (.tmp 18) = ?vc7 := hp 7 (by decide); have cX := cXc X hX; clear hp ho hX; go_simp; (all_goals rfl)
  · refine step_introK rfl rfl fun ρ X hc hf hgl hX hp ho hu => ?_
    change StepOk _ ⟨_, .call { callee := .value (.func 55), args := #[.tmp 19], argTypes := #[96] }, _, _, _, _⟩ _ _ _
    have k19 : ρ (.tmp 19) = ?vc8 := hp 8 (by decide)
    refine stepK_plain (i := 9) rfl ?_
    clear hu
    clear hp ho
    have hc9 := pCloneWrs _ _ _ X (own_but Hrp2.out hX (fun j hj e => HpN.out j hj e)) Hop.out Hsm.out.2
    refine StepOk.of_call (f := 55) (args := #[.slice a4 np k4]) (w' := X) ?_ hc9 ?_
    · go_simp
      all_goals rfl
    · rintro e w' ⟨v', rfl, ho', hg'⟩
      exact ⟨v', rfl, own_low ho' (by have := hX.size; have := Hsz2.out; omega), hg'⟩
  · refine stepRK (o := ⟨_, .fieldAddr 100 (.tmp 3) 1, _, _, _, _⟩) ?vc10 rfl rfl rfl (fun _ => rfl) fun ρ X hc hf hgl hX hp ho => ?_; have k3 : ρ (.tmp 3) = .pointer (some ⟨qc, 0, none⟩) := ho 3 (by decide); clear hp ho hX; go_simp; (all_goals rfl)
  · refine step_introK rfl rfl fun ρ X hc hf hgl hX hp ho hu => ?_
    change StepOk _ ⟨_, .store 94 (.tmp 21) (.tmp 15), _, _, _, _⟩ _ _ _
    have k21 : ρ (.tmp 21) = ?vc10 := hp 10 (by decide)
    have k15 := hp 4 (by decide)
    have hu0 := hu
    have hst : X.heap[qc]? = some (.cells (pdRow x) 100 (0, 0)) := hu 0 (by simp [cpT])
    refine stepK_made rfl ?_
    have k15o : X.ownsRow (qc + 1) 103 1 (ρ (.tmp 15)) nd xd := k15
    obtain ⟨a9, c9, e9⟩ := own_form k15o
    rw [e9] at k15o
    have hcl : X.cell? ⟨qc, 1, none⟩ = some x.vd := by rw [cell_of_row X qc 1 _ _ _ hst]; rfl
    have hfr : X.frozen? ⟨qc, 1, none⟩ = false := frozen_of_row X qc 1 _ _ hst
    have k15e : ρ (.tmp 15) = .slice a9 nd c9 := e9
    have hB9 : But (fun k => k = qc) X (X.setCell ⟨qc, 1, none⟩ (.slice a9 nd c9)) := But.setCell (But.refl' _ _) _ _ rfl
    have ho9 := own_but k15o hB9 (fun j hj e => by have h1 := own_bot k15o j hj; have e' : j = qc := e; omega)
    have hr9 := row_setCell hst 1 (.slice a9 nd c9)
    clear hp ho k15 k15o e9 hst
    refine StepOk.of_skip (w' := X.setCell ⟨qc, 1, none⟩ (.slice a9 nd c9)) ?_ ⟨trivial, hB9, fun s hs => ?_⟩
    · go_simp
    · match s, hs with
      | 0, h => simp [cpT] at h
      | 1, _ => exact ⟨_, hr9, ho9⟩
      | _ + 2, h => simp [cpT] at h
  · refine stepRK (o := ⟨_, .fieldAddr 100 (.tmp 3) 4, _, _, _, _⟩) ?vc12 rfl rfl rfl (fun _ => rfl) fun ρ X hc hf hgl hX hp ho => ?_; have k3 : ρ (.tmp 3) = .pointer (some ⟨qc, 0, none⟩) := ho 3 (by decide); clear hp ho hX; go_simp; (all_goals rfl)
  · exact last_intro rfl
 case grdc => rfl
 case rstc =>
  intro a0 X hb
  obtain ⟨x15, hx15⟩ : ∃ x, a0.tmps.getD 15 undef = x := ⟨_, rfl⟩
  have p15 := hb.done' 4 15 rfl rfl
  rw [hx15] at p15
  obtain ⟨x20, hx20⟩ : ∃ x, a0.tmps.getD 20 undef = x := ⟨_, rfl⟩
  have p20 := hb.done' 9 20 rfl rfl
  rw [hx20] at p20
  have hfr := hb.frame ((11, ?vc0) :: (12, ?vc1) :: (13, ?vc2) :: (14, ?vc3) :: (15, x15) :: (16, ?vc5) :: (17, ?vc6) :: (18, ?vc7) :: (19, ?vc8) :: (20, x20) :: (21, ?vc10) :: (22, ?vc12) :: []) rfl ⟨hb.done' 0 11 rfl rfl, hb.done' 1 12 rfl rfl, hb.done' 2 13 rfl rfl, hb.done' 3 14 rfl rfl, hx15, hb.done' 5 16 rfl rfl, hb.done' 6 17 rfl rfl, hb.done' 7 18 rfl rfl, hb.done' 8 19 rfl rfl, hx20, hb.done' 10 21 rfl rfl, hb.done' 12 22 rfl rfl, trivial⟩
  simp only [updL, ↓reduceIte, Nat.reduceEqDiff, Nat.reduceAdd, Nat.zero_add] at hfr
  have HX := Lib.hid hb.ext
  have HS1 := Lib.hid (hb.stat 1 (fun j hj => by obtain rfl : 11 = j := (by simpa [cpT] using hj); exact ⟨by decide, by decide⟩) rfl)
  clear hb cXc
  subst hfr
  change StepOk _ { dst := _, op := Op.store 96 (Operand.tmp 22) (Operand.tmp 20), type := _, pos := _, after := _, guard := _ } _ _ _
  obtain ⟨v1, hrow1, ho1⟩ := HS1.out
  have p20o : X.ownsRow (qc + 1) 108 66 x20 np xw := p20
  obtain ⟨a9, c9, e9⟩ := own_form p20o
  subst e9
  clear p20 p15
  have hc4 : X.cell? ⟨qc, 4, none⟩ = some x.vp := by rw [cell_of_row X qc 4 _ _ _ hrow1]; rfl
  have hf4 : X.frozen? ⟨qc, 4, none⟩ = false := frozen_of_row X qc 4 _ _ hrow1
  obtain ⟨w4, Hw4⟩ : ∃ y, Hid (X.setCell ⟨qc, 4, none⟩ (.slice a9 np c9) = y) := ⟨_, rfl⟩
  have hB4 : But (fun k => k = qc) X w4 := by rw [← Hw4.out]; exact But.setCell (But.refl' _ _) _ _ rfl
  have HG4 : Hid (Grows w w4) := ((But.ofGrows HG2.out).trans' (HX.out.trans' hB4)).below (Nat.le_refl _) (fun k hk => by have e' : k = qc := hk; have := Hqc.out; omega)
  have Ho1 : Hid (w4.ownsRow w.heap.size 103 1 v1 nd xd) := own_low (own_but ho1 hB4 (fun j hj e => by have h1 := own_bot ho1 j hj; have e' : j = qc := e; omega)) (by have := Hqc.out; omega)
  have Ho4 : Hid (w4.ownsRow w.heap.size 108 66 (.slice a9 np c9) np xw) := own_low (own_but p20o hB4 (fun j hj e => by have h1 := own_bot p20o j hj; have e' : j = qc := e; omega)) (by have := Hqc.out; omega)
  have hrow4 : w4.heap[qc]? = some (.cells #[nv x.room, v1, mv x.fm, nv x.made, .slice a9 np c9, .int .i64 x.first, .int .i64 x.code] 100 (0, 0)) := by rw [← Hw4.out, row_setCell hrow1 4 _]; rfl
  have Hrow4 := Lib.hid hrow4
  unfold StepOk
  simp [go_sem, execOp, hc4, hf4]
  rw [Hw4.out]
  obtain ⟨fm, Hfm⟩ : ∃ y, Hid (x.fm = y) := ⟨_, rfl⟩
  have hrm := (Grows.alloc' w4 (.map #[] 0)).heap' hrow4
  have r2 : (w4.alloc (.map #[] 0)).cell? ⟨qc, 2, none⟩ = some (.map (some fm)) := by rw [cell_of_row _ qc 2 _ _ _ hrm]; show some (mv x.fm) = _; rw [Hfm.out]; rfl
  have s2 : (w4.alloc (.map #[] 0)).frozen? ⟨qc, 2, none⟩ = false := frozen_of_row _ qc 2 _ _ hrm
  have hB5 : But (fun k => k = qc) w4 ((w4.alloc (.map #[] 0)).setCell ⟨qc, 2, none⟩ (.map (some w4.heap.size))) := But.setCell (But.ofGrows (Grows.alloc' _ _)) _ _ rfl
  have c2 : ((w4.alloc (.map #[] 0)).setCell ⟨qc, 2, none⟩ (.map (some w4.heap.size))).cell? ⟨q, 2, none⟩ = some (.map (some fm)) := hB5.cell Hqne.out (by have := HG4.out.cell' (H.out.cell 2 (mv x.fm) rfl); rw [Hfm.out] at this; exact this)
  have hqs4 : qc < w4.heap.size := (Array.getElem?_eq_some_iff.1 hrow4).1
  have hfmlt : fm < w.heap.size := by have := H.out.files.map.lt; rw [Hfm.out] at this; exact this
  have HM5 : Hid (MapA nv pv ((w4.alloc (.map #[] 0)).setCell ⟨qc, 2, none⟩ (.map (some w4.heap.size))) fm (x.fs.map Fi.ent)) := by have := (H.out.files.map.grows HG4.out).kept (hB5.block x.fm (by have := HG4.out.size; have := Hfm.out; omega) (fun e => by have e' : x.fm = qc := e; have := Hqc.out; have := Hfm.out; omega)); rw [Hfm.out] at this; exact this
  have HM0 : Hid (MapA nv pv ((w4.alloc (.map #[] 0)).setCell ⟨qc, 2, none⟩ (.map (some w4.heap.size))) w4.heap.size ([] : List (Nat × Nat))) := (MapA.made w4).kept (Below.heap_setCell _ _ _ _ (by show w4.heap.size ≠ qc; omega))
  have HBm := Lib.hid hB5
  have Hqs4 := Lib.hid hqs4
  have Hfmlt := Lib.hid hfmlt
  have hrow5 := row_setCell hrm 2 (.map (some w4.heap.size))
  have Hrow5 := Lib.hid hrow5
  have Hs5 : Hid (((w4.alloc (.map #[] 0)).setCell ⟨qc, 2, none⟩ (.map (some w4.heap.size))).heap.size = w4.heap.size + 1) := by show _ = _; simp [World.setCell]
  clear hrow1 ho1 p20o hc4 hf4 hB4 hrow4 hrm hB5 hqs4 hfmlt hrow5 HX HS1
  go_wp2_with (at_range; refine wpList_rangeA rfl _ 95 109 rfl HM5.out Tryz.underlying95 rfl ?_; intro w6 hr6 hg6 hs6)
  rw [Hs5.out] at hr6 hs6
  try rw [Hs5.out]
  obtain ⟨g2, Hg2⟩ : ∃ y, Hid (w4.heap.size = y) := ⟨_, rfl⟩
  have HM6 : Hid (MapA nv pv w6 g2 ([] : List (Nat × Nat))) := by have := HM0.out.grows hg6; rw [Hg2.out] at this; exact this
  have HB06 : Hid (But (fun k => k = qc) w4 w6) := HBm.out.trans' (But.ofGrows hg6)
  have HG6 : Hid (Grows w w6) := ((But.ofGrows HG4.out).trans' HB06.out).below (Nat.le_refl _) (fun k hk => by have e' : k = qc := hk; have := Hqc.out; omega)
  have Hrow6 := Lib.hid (hg6.heap' Hrow5.out)
  rw [Hg2.out] at hr6 Hrow6 ⊢
  have Ho16 : Hid (w6.ownsRow w.heap.size 103 1 v1 nd xd) := own_grows (own_but Ho1.out HBm.out (fun j hj e => by have e' : j = qc := e; subst e'; exact own_ne Ho1.out Hrow4.out (by decide) hj)) hg6
  have Ho46 : Hid (w6.ownsRow w.heap.size 108 66 (.slice a9 np c9) np xw) := own_grows (own_but Ho4.out HBm.out (fun j hj e => by have e' : j = qc := e; subst e'; exact own_ne Ho4.out Hrow4.out (by decide) hj)) hg6
  have HR6 := Lib.hid hr6
  have Hgq : Hid (qc < g2 ∧ g2 < w6.heap.size) := by have h1 := Hqs4.out; have h2 := Hg2.out; have h3 := hr6.lt; show _ ∧ _; omega
  obtain ⟨rr, Hrr⟩ : ∃ y, Hid (g2 + 1 = y) := ⟨_, rfl⟩
  rw [Hrr.out] at HR6 ⊢
  have Hfg : Hid (fm < g2) := by have h1 := Hfmlt.out; have h2 := Hqc.out; have h3 := Hgq.out.1; show _ < _; omega
  have Hgr : Hid (rr ≠ g2) := by have h1 := Hrr.out; show _ ≠ _; omega
  clear hr6 hg6 hs6 c2 r2 s2 HM0 HM5 Hrow5 Hs5 HBm hmk
  try go_frame
  go_loopw [4, 5] (fun _ _ wr => ∃ done todo fs2, (x.fs.map Fi.ent).Perm (done ++ todo) ∧ RangeA nv pv wr fm rr (x.fs.map Fi.ent) todo ∧ Cop w.heap.size wr x.fs fs2 (done.map (·.1)) ∧ MapA nv pv wr g2 (fs2.map Fi.ent) ∧ But (fun k => k = rr ∨ k = g2) w6 wr)
   (fun _ _ wr => wr.rangeLeft fm rr)
  case atStart => exact ⟨[], _, [], by rw [List.nil_append], HR6.out, Cop.nil _ _ _, HM6.out, But.refl' _ _⟩
  case round =>
   obtain ⟨done, todo, fs2, hp7, hr7, hC7, hM7, hB7⟩ := hrel
   obtain ⟨ns, Hns⟩ : ∃ y, Hid (done.map (·.1) = y) := ⟨_, rfl⟩
   rw [Hns.out] at hC7
   have Hp7 := Lib.hid hp7
   have Hr7 := Lib.hid hr7
   have HCa := Lib.hid hC7
   have HMa := Lib.hid hM7
   have HBa := Lib.hid hB7
   have Hrq : Hid (¬ (qc = rr ∨ qc = g2)) := by have h1 := Hgq.out.1; have h2 := Hrr.out; show ¬ _; omega
   have Hrowr := Lib.hid (hB7.blockEq Hrq.out Hrow6.out)
   have HGr : Hid (Grows w wr) := ((But.ofGrows HG6.out).trans' hB7).below (Nat.le_refl _) (fun k hk => by have h1 := Hgq.out.1; have h2 := Hrr.out; have h3 := Hqc.out; rcases hk with e | e <;> omega)
   clear hp7 hr7 hC7 hM7 hB7
   go_wp2_with (at_next; refine wpList_nextA rfl _ rfl _ todo Hr7.out rfl ?_ ?_)
   · intro h0
     subst h0
     have hns : ns.Perm (x.fs.map fun f => f.num) := by
      have h1 := Hp7.out
      rw [List.append_nil] at h1
      have h2 := (h1.map (·.1)).symm
      rw [Hns.out, List.map_map] at h2
      exact h2
     have hoe : ∀ {B e k n : Nat} {v : Value} {xs : List Value}, w6.ownsRow B e k v n xs → (∀ j, v.ownBlock = some j → ∃ T, kindAt w6 j = some (some T)) → wr.ownsRow B e k v n xs := fun ho hk => own_but ho HBa.out (fun j hj e => by
      obtain ⟨T, hT⟩ := hk j hj
      rcases e with e | e
      · rw [e, HR6.out.kind] at hT; cases hT
      · rw [e, kind_map HM6.out] at hT; cases hT)
     have HF := Lib.hid (H.out.copied HGr.out (Nat.le_of_eq Hqc.out) v1 (.slice a9 np c9) g2 (by have h1 := Hgq.out.1; have h3 := Hqc.out; omega) fs2 ns Hrowr.out (by have := hoe Ho16.out (fun j hj => ⟨_, kind_own Ho16.out hj⟩); rw [← Hnd.out, ← Hxd.out] at this; exact this) (by have := hoe Ho46.out (fun j hj => ⟨_, kind_own Ho46.out hj⟩); rw [← Hnp.out, ← Hxw.out] at this; rw [← Hnp.out]; exact this) HMa.out HCa.out hns)
     clear hns hoe
     go_wp2
     go_ret
     obtain ⟨xc, h1, h2, h3, h4⟩ := HF.out
     exact ⟨qc, xc, rfl, h1, h2, HGr.out, h3, h4⟩
   · intro p1 p2 todo' w7 hp2 hr2 hg2 hs2 hen
     have Hp2 := Lib.hid hp2
     have HR7 : Hid (RangeA nv pv w7 fm rr (x.fs.map Fi.ent) todo') := hr2
     have HRm : Hid (wr.rangeLeft fm rr = todo.length) := Hr7.out.left
     have hmem : (p1, p2) ∈ x.fs.map Fi.ent := Hp7.out.mem_iff.2 (List.mem_append.2 (.inr (hp2.mem_iff.2 (by simp))))
     obtain ⟨f0, hf0, hfe⟩ := List.mem_map.1 hmem
     simp only [Fi.ent, Prod.mk.injEq] at hfe
     have Hf0 := Lib.hid hf0
     have Hfn0 := Lib.hid hfe.1
     have hrb : But (fun k => k = rr) wr w7 := But.one hg2
     have hoth : ∀ k T, kindAt wr k = some (some T) → w7.heap[k]? = wr.heap[k]? := fun k T hk => hg2.block k (kind_lt hk) (fun e => by cases (Option.some.inj e); rw [Hr7.out.kind] at hk; cases hk)
     have HC7 := Lib.hid (HCa.out.other hoth)
     have HM7 : Hid (MapA nv pv w7 g2 (fs2.map Fi.ent)) := HMa.out.kept (hg2.block _ HMa.out.lt (fun e => by have := Option.some.inj e; have := Hgr.out; omega))
     have HB7 : Hid (But (fun k => k = rr ∨ k = g2) w6 w7) := HBa.out.trans' (hrb.mono fun k hk => .inl hk)
     have HG7 : Hid (Grows w w7) := ((But.ofGrows HGr.out).trans' hrb).below (Nat.le_refl _) (fun k hk => by have h1 := Hgq.out.1; have h2 := Hrr.out; have h3 := Hqc.out; have e' : k = rr := hk; omega)
     obtain ⟨nr, Hnr⟩ : ∃ y, Hid (w7.heap.size = y) := ⟨_, rfl⟩
     have HBn : Hid (w.heap.size ≤ nr) := by show _ ≤ _; rw [← Hnr.out]; exact HG7.out.size
     have Hrow7 := hrb.blockEq (fun e => Hrq.out (.inl e)) Hrowr.out
     have cq : w7.cell? ⟨qc, 2, none⟩ = some (.map (some g2)) := by rw [cell_of_row w7 qc 2 _ _ _ Hrow7]; rfl
     have Hf0o := Lib.hid (H.out.files.ok f0 hf0)
     have hf7 := (H.out.grows HG7.out).files.ok f0 hf0
     obtain ⟨an, cn, asv, cs, e7, e8, d0, d1⟩ := fi_form hf7
     rw [hfe.2] at d0 d1
     obtain ⟨L, HL⟩ : ∃ y, Hid (f0.now.length = y) := ⟨_, rfl⟩
     obtain ⟨yn, Hyn⟩ : ∃ y, Hid (f0.now.flatMap secC = y) := ⟨_, rfl⟩
     obtain ⟨ys, Hys⟩ : ∃ y, Hid (f0.safe.flatMap secC = y) := ⟨_, rfl⟩
     have Hon : Hid (w7.ownsRow 0 106 64 (.slice an L cn) L yn) := by have := hf7.now; rw [e7, HL.out, Hyn.out] at this; exact this
     have Hos : Hid (w7.ownsRow 0 106 64 (.slice asv L cs) L ys) := by have := hf7.safe; rw [e8, hf7.len, HL.out, Hys.out] at this; exact this
     have Hyn1 : Hid (∀ u ∈ yn, u.oneCell' = true) := by show ∀ _, _; rw [← Hyn.out]; exact flat64 hf7.now64
     have Hys1 : Hid (∀ u ∈ ys, u.oneCell' = true) := by show ∀ _, _; rw [← Hys.out]; exact flat64 hf7.safe64
     have HLs : Hid (L ≤ 1000000) := by show _ ≤ _; have := hf7.le; have := HL.out; omega
     rw [HL.out] at d0 d1
     have Hokp : Hid (okI p1) := okI_small (by rw [← hfe.1]; exact Nat.le_trans (H.out.wf.nums f0 hf0) H.out.wf.small.2.2.2)
     have Hok7 : Hid (∀ p ∈ fs2.map Fi.ent, okI p.1) := fun p hp => by
      obtain ⟨f, hf, rfl⟩ := List.mem_map.1 hp
      obtain ⟨g, hg, e1, _⟩ := HC7.out.same f hf
      exact okI_small (by show f.num ≤ _; rw [← e1]; exact Nat.le_trans (H.out.wf.nums g hg) H.out.wf.small.2.2.2)
     have Hlen7 : Hid ((fs2.map Fi.ent).length < maxLen ∧ ∀ p ∈ fs2.map Fi.ent, p.1 ≠ p1) := by
      have hnd : ((done ++ todo).map (·.1)).Nodup := ((Hp7.out.map (·.1)).nodup_iff).1 (by rw [List.map_map]; exact fs_nodup H.out)
      have hl1 : (fs2.map Fi.ent).length = done.length := by rw [List.length_map, ← List.length_map (f := fun f => f.num), HC7.out.nums, ← Hns.out, List.length_map]
      have hl2 := Hp7.out.length_eq
      rw [List.length_map, List.length_append] at hl2
      have hl3 := H.out.wf.small.2.1
      refine ⟨by unfold maxLen; omega, fun p hp e => ?_⟩
      obtain ⟨f, hf, rfl⟩ := List.mem_map.1 hp
      rw [List.map_append, List.nodup_append] at hnd
      refine hnd.2.2 f.num ?_ p1 ?_ e
      · rw [Hns.out, ← HC7.out.nums]; exact List.mem_map.2 ⟨f, hf, rfl⟩
      · exact List.mem_map.2 ⟨(p1, p2), hp2.mem_iff.2 (by simp), rfl⟩
     clear hp2 hr2 hg2 hs2 hmem hf0 hfe hrb hoth Hrow7 hf7 e7 e8
     go_wp2
     refine specs_lastM 15
      #[[], [0], [], [], [3], [3, 4], [3, 4, 5], [3, 4, 5, 6], [], [8], [8, 9], [8, 9, 10], [3, 4, 5, 6, 7, 8, 9, 10, 11], [3, 4, 5, 6, 7, 8, 9, 10, 11, 12], [3, 4, 5, 6, 7, 8, 9, 10, 11, 12, 13], [0, 1, 2, 3, 4, 5, 6, 7, 8, 9, 10, 11, 12, 13, 14]] #[[3], [], [4], [5], [], [], [], [], [5], [], [], [], [], [], [], []] #[true, true, true, true, true, true, true, true, true, true, true, true, true, true, true, true]
      ((.val ?vn0) :: (.val ?vn1) :: (.val ?vn2) :: (.val ?vn3) :: (.val ?vn4) :: (.val ?vn5) :: (.val ?vn6) :: (.pred (fun v W => W.ownsRow nr 106 64 v L yn) (fun v a b g h => own_grows h g)) :: (.val ?vn8) :: (.val ?vn9) :: (.val ?vn10) :: (.val ?vn11) :: (.two 42 (fun u v W => W.ownsRow nr 106 64 v L ys ∧ ∀ k, u.ownBlock = some k → v.ownBlock ≠ some k) (fun u v a b g h => ⟨own_grows h.1 g, h.2⟩)) :: (.pred (fun v W => ∃ a c a' c', v = .agg #[.slice a L c, .slice a' L c'] ∧ W.ownsRow nr 106 64 (.slice a L c) L yn ∧ W.ownsRow nr 106 64 (.slice a' L c') L ys ∧ ∀ k, Value.ownBlock (.slice a L c) = some k → Value.ownBlock (.slice a' L c') ≠ some k) (fun v a b g h => by obtain ⟨a, c, a', c', e, h1, h2, h3⟩ := h; exact ⟨a, c, a', c', e, own_grows h1 g, own_grows h2 g, h3⟩)) :: (.pred (fun v W => ∃ fb a c a' c', v = .pointer (some ⟨fb, 0, none⟩) ∧ nr ≤ fb ∧ W.heap[fb]? = some (.cells #[.slice a L c, .slice a' L c'] 113 (0, 0)) ∧ W.ownsRow nr 106 64 (.slice a L c) L yn ∧ W.ownsRow nr 106 64 (.slice a' L c') L ys ∧ ∀ k, Value.ownBlock (.slice a L c) = some k → Value.ownBlock (.slice a' L c') ≠ some k) (fun v a b g h => by obtain ⟨fb, a, c, a', c', e, hl, hb, h1, h2, h3⟩ := h; exact ⟨fb, a, c, a', c', e, hl, g.heap' hb, own_grows h1 g, own_grows h2 g, h3⟩)) :: (.any) :: []).toArray
      hmx ?chkn ?grdn rfl ?stpn ?rstn
     case chkn => rfl
     case stpn =>
      refine ⟨?_, ?_, ?_, ?_, ?_, ?_, ?_, ?_, ?_, ?_, ?_, ?_, ?_, ?_, ?_, ?_, trivial⟩
      · refine step_introM rfl rfl fun ρ X hc hf hgl hX hp ho => ?_
        change StepOk _ ⟨_, .fieldAddr 100 (.tmp 3) 2, _, _, _, _⟩ _ _ _
        have k3 : ρ (.tmp 3) = .pointer (some ⟨qc, 0, none⟩) := ho 3 (by decide)
        clear hp ho
        refine StepOk.of_run (v := ?vn0) (w' := X) ?_ ⟨rfl, Below.refl _ _⟩
        clear hX
        go_simp
        all_goals try go_bits
        all_goals try simp only [IntWalk.iteOmega]
        all_goals try go_bits
        all_goals rfl
      · refine step_introM rfl rfl fun ρ X hc hf hgl hX hp ho => ?_
        change StepOk _ ⟨_, .load 95 (.tmp 35), _, _, _, _⟩ _ _ _
        have k35 : ρ (.tmp 35) = ?vn0 := hp 0 (by decide)
        have cqX := Grows.cell' hX cq
        have d0X := Grows.cell' hX d0
        have d1X := Grows.cell' hX d1
        clear hp ho
        refine StepOk.of_run (v := ?vn1) (w' := X) ?_ ⟨rfl, Below.refl _ _⟩
        clear hX
        go_simp
        all_goals try go_bits
        all_goals try simp only [IntWalk.iteOmega]
        all_goals try go_bits
        all_goals rfl
      · refine step_introM rfl rfl fun ρ X hc hf hgl hX hp ho => ?_
        change StepOk _ ⟨_, .move (.tmp 4), _, _, _, _⟩ _ _ _
        have k4 : ρ (.tmp 4) = .int .i64 (p1 : Int) := ho 4 (by decide)
        clear hp ho
        refine StepOk.of_run (v := ?vn2) (w' := X) ?_ ⟨rfl, Below.refl _ _⟩
        clear hX
        go_simp
        all_goals try go_bits
        all_goals try simp only [IntWalk.iteOmega]
        all_goals try go_bits
        all_goals rfl
      · refine step_introM rfl rfl fun ρ X hc hf hgl hX hp ho => ?_
        change StepOk _ ⟨_, .move (.tmp 5), _, _, _, _⟩ _ _ _
        have k5 : ρ (.tmp 5) = .pointer (some ⟨p2, 0, none⟩) := ho 5 (by decide)
        clear hp ho
        refine StepOk.of_run (v := ?vn3) (w' := X) ?_ ⟨rfl, Below.refl _ _⟩
        clear hX
        go_simp
        all_goals try go_bits
        all_goals try simp only [IntWalk.iteOmega]
        all_goals try go_bits
        all_goals rfl
      · refine step_introM rfl rfl fun ρ X hc hf hgl hX hp ho => ?_
        change StepOk _ ⟨_, .nilCheck (.tmp 38), _, _, _, _⟩ _ _ _
        have k38 : ρ (.tmp 38) = ?vn3 := hp 3 (by decide)
        clear hp ho
        refine StepOk.of_run (v := ?vn4) (w' := X) ?_ ⟨rfl, Below.refl _ _⟩
        clear hX
        go_simp
        all_goals try go_bits
        all_goals try simp only [IntWalk.iteOmega]
        all_goals try go_bits
        all_goals rfl
      · refine step_introM rfl rfl fun ρ X hc hf hgl hX hp ho => ?_
        change StepOk _ ⟨_, .fieldAddr 113 (.tmp 39) 0, _, _, _, _⟩ _ _ _
        have k39 : ρ (.tmp 39) = ?vn4 := hp 4 (by decide)
        clear hp ho
        refine StepOk.of_run (v := ?vn5) (w' := X) ?_ ⟨rfl, Below.refl _ _⟩
        clear hX
        go_simp
        all_goals try go_bits
        all_goals try simp only [IntWalk.iteOmega]
        all_goals try go_bits
        all_goals rfl
      · refine step_introM rfl rfl fun ρ X hc hf hgl hX hp ho => ?_
        change StepOk _ ⟨_, .load 110 (.tmp 40), _, _, _, _⟩ _ _ _
        have k40 : ρ (.tmp 40) = ?vn5 := hp 5 (by decide)
        have cqX := Grows.cell' hX cq
        have d0X := Grows.cell' hX d0
        have d1X := Grows.cell' hX d1
        clear hp ho
        refine StepOk.of_run (v := ?vn6) (w' := X) ?_ ⟨rfl, Below.refl _ _⟩
        clear hX
        go_simp
        all_goals try go_bits
        all_goals try simp only [IntWalk.iteOmega]
        all_goals try go_bits
        all_goals rfl
      · refine step_introM rfl rfl fun ρ X hc hf hgl hX hp ho => ?_
        change StepOk _ ⟨_, .call { callee := .value (.func 56), args := #[.tmp 41], argTypes := #[110] }, _, _, _, _⟩ _ _ _
        have k41 : ρ (.tmp 41) = ?vn6 := hp 6 (by decide)
        clear hp ho
        have hc9 := pCloneSecs _ _ _ X (own_grows Hon.out hX) Hyn1.out HLs.out
        refine StepOk.of_call (f := 56) (args := #[.slice an L cn]) (w' := X) ?_ hc9 ?_
        · go_simp
          all_goals rfl
        · rintro e w' ⟨v', rfl, ho', hg'⟩
          exact ⟨v', rfl, own_low ho' (by have := hX.size; have := Hnr.out; omega), hg'⟩
      · refine step_introM rfl rfl fun ρ X hc hf hgl hX hp ho => ?_
        change StepOk _ ⟨_, .move (.tmp 5), _, _, _, _⟩ _ _ _
        have k5 : ρ (.tmp 5) = .pointer (some ⟨p2, 0, none⟩) := ho 5 (by decide)
        clear hp ho
        refine StepOk.of_run (v := ?vn8) (w' := X) ?_ ⟨rfl, Below.refl _ _⟩
        clear hX
        go_simp
        all_goals try go_bits
        all_goals try simp only [IntWalk.iteOmega]
        all_goals try go_bits
        all_goals rfl
      · refine step_introM rfl rfl fun ρ X hc hf hgl hX hp ho => ?_
        change StepOk _ ⟨_, .nilCheck (.tmp 43), _, _, _, _⟩ _ _ _
        have k43 : ρ (.tmp 43) = ?vn8 := hp 8 (by decide)
        clear hp ho
        refine StepOk.of_run (v := ?vn9) (w' := X) ?_ ⟨rfl, Below.refl _ _⟩
        clear hX
        go_simp
        all_goals try go_bits
        all_goals try simp only [IntWalk.iteOmega]
        all_goals try go_bits
        all_goals rfl
      · refine step_introM rfl rfl fun ρ X hc hf hgl hX hp ho => ?_
        change StepOk _ ⟨_, .fieldAddr 113 (.tmp 44) 1, _, _, _, _⟩ _ _ _
        have k44 : ρ (.tmp 44) = ?vn9 := hp 9 (by decide)
        clear hp ho
        refine StepOk.of_run (v := ?vn10) (w' := X) ?_ ⟨rfl, Below.refl _ _⟩
        clear hX
        go_simp
        all_goals try go_bits
        all_goals try simp only [IntWalk.iteOmega]
        all_goals try go_bits
        all_goals rfl
      · refine step_introM rfl rfl fun ρ X hc hf hgl hX hp ho => ?_
        change StepOk _ ⟨_, .load 110 (.tmp 45), _, _, _, _⟩ _ _ _
        have k45 : ρ (.tmp 45) = ?vn10 := hp 10 (by decide)
        have cqX := Grows.cell' hX cq
        have d0X := Grows.cell' hX d0
        have d1X := Grows.cell' hX d1
        clear hp ho
        refine StepOk.of_run (v := ?vn11) (w' := X) ?_ ⟨rfl, Below.refl _ _⟩
        clear hX
        go_simp
        all_goals try go_bits
        all_goals try simp only [IntWalk.iteOmega]
        all_goals try go_bits
        all_goals rfl
      · refine step_introM rfl rfl fun ρ X hc hf hgl hX hp ho => ?_
        change StepOk _ ⟨_, .call { callee := .value (.func 56), args := #[.tmp 46], argTypes := #[110] }, _, _, _, _⟩ _ _ _
        have k46 : ρ (.tmp 46) = ?vn11 := hp 11 (by decide)
        have k42o : X.ownsRow nr 106 64 (ρ (.tmp 42)) L yn := hp 7 (by decide)
        clear hp ho
        have hc9 := pCloneSecs _ _ _ X (own_grows Hos.out hX) Hys1.out HLs.out
        refine StepOk.of_call (f := 56) (args := #[.slice asv L cs]) (w' := X) ?_ hc9 ?_
        · go_simp
          all_goals rfl
        · rintro e w' ⟨v', rfl, ho', hg'⟩
          exact ⟨v', rfl, ⟨own_low ho' (by have := hX.size; have := Hnr.out; omega), fun k h1 h2 => by have h3 := own_lt k42o k h1; have h4 := own_bot ho' k h2; omega⟩, hg'⟩
      · refine step_introM rfl rfl fun ρ X hc hf hgl hX hp ho => ?_
        change StepOk _ ⟨_, .build 113 #[(0, .tmp 42), (1, .tmp 47)], _, _, _, _⟩ _ _ _
        have k42 := hp 7 (by decide)
        have k47 := hp 12 (by decide)
        have k42o : X.ownsRow nr 106 64 (ρ (.tmp 42)) L yn := k42
        have k47o : X.ownsRow nr 106 64 (ρ (.tmp 47)) L ys ∧ ∀ k, (ρ (.tmp 42)).ownBlock = some k → (ρ (.tmp 47)).ownBlock ≠ some k := k47
        clear hp ho
        obtain ⟨k47a, k47b⟩ := k47o
        obtain ⟨a8, c8, e8⟩ := own_form k42o
        obtain ⟨a9, c9, e9⟩ := own_form k47a
        rw [e8] at k42o k47b
        rw [e9] at k47a k47b
        refine StepOk.of_run (v := .agg #[.slice a8 L c8, .slice a9 L c9]) (w' := X) ?_ ⟨⟨a8, c8, a9, c9, rfl, k42o, k47a, k47b⟩, Below.refl _ _⟩
        have k42e : ρ (.tmp 42) = .slice a8 L c8 := e8
        have k47e : ρ (.tmp 47) = .slice a9 L c9 := e9
        clear k42 k47 k42o k47a k47b e8 e9
        simp [go_sem, execOp, k42e, k47e]
      · refine step_introM rfl rfl fun ρ X hc hf hgl hX hp ho => ?_
        change StepOk _ ⟨_, .box 113 (.tmp 48), _, _, _, _⟩ _ _ _
        have k48 := hp 13 (by decide)
        clear hp ho
        obtain ⟨a8, c8, a9, c9, e9, h1, h2, h3⟩ := k48
        refine StepOk.of_run (v := .pointer (some ⟨X.heap.size, 0, none⟩)) (w' := X.alloc (.cells #[.slice a8 L c8, .slice a9 L c9] 113)) ?_ ⟨⟨X.heap.size, a8, c8, a9, c9, rfl, by have := hX.size; have := Hnr.out; omega, heap_alloc_new X _, own_grows h1 (Grows.alloc' _ _), own_grows h2 (Grows.alloc' _ _), h3⟩, Grows.alloc' _ _⟩
        simp [go_sem, execOp, e9]
      · exact last_intro rfl
     case grdn => rfl
     case rstn =>
      intro a0 X hb
      obtain ⟨x42, hx42⟩ : ∃ x, a0.tmps.getD 42 undef = x := ⟨_, rfl⟩
      have p42 := hb.done' 7 42 rfl rfl
      rw [hx42] at p42
      obtain ⟨x47, hx47⟩ : ∃ x, a0.tmps.getD 47 undef = x := ⟨_, rfl⟩
      have p47 := hb.done' 12 47 rfl rfl
      rw [hx47] at p47
      obtain ⟨x48, hx48⟩ : ∃ x, a0.tmps.getD 48 undef = x := ⟨_, rfl⟩
      have p48 := hb.done' 13 48 rfl rfl
      rw [hx48] at p48
      obtain ⟨x49, hx49⟩ : ∃ x, a0.tmps.getD 49 undef = x := ⟨_, rfl⟩
      have p49 := hb.done' 14 49 rfl rfl
      rw [hx49] at p49
      have hfr := hb.frame ((35, ?vn0) :: (36, ?vn1) :: (37, ?vn2) :: (38, ?vn3) :: (39, ?vn4) :: (40, ?vn5) :: (41, ?vn6) :: (42, x42) :: (43, ?vn8) :: (44, ?vn9) :: (45, ?vn10) :: (46, ?vn11) :: (47, x47) :: (48, x48) :: (49, x49) :: []) rfl ⟨hb.done' 0 35 rfl rfl, hb.done' 1 36 rfl rfl, hb.done' 2 37 rfl rfl, hb.done' 3 38 rfl rfl, hb.done' 4 39 rfl rfl, hb.done' 5 40 rfl rfl, hb.done' 6 41 rfl rfl, hx42, hb.done' 8 43 rfl rfl, hb.done' 9 44 rfl rfl, hb.done' 10 45 rfl rfl, hb.done' 11 46 rfl rfl, hx47, hx48, hx49, trivial⟩
      simp only [updL, ↓reduceIte, Nat.reduceEqDiff, Nat.reduceAdd, Nat.zero_add] at hfr
      have HX := Lib.hid hb.ext
      clear hb
      subst hfr
      change StepOk _ { dst := _, op := Op.mapUpdate 95 (Operand.tmp 36) (Operand.tmp 37) (Operand.tmp 49), type := _, pos := _, after := _, guard := _ } _ _ _
      have p49o : ∃ fb a c a' c', x49 = .pointer (some ⟨fb, 0, none⟩) ∧ nr ≤ fb ∧ X.heap[fb]? = some (.cells #[.slice a L c, .slice a' L c'] 113 (0, 0)) ∧ X.ownsRow nr 106 64 (.slice a L c) L yn ∧ X.ownsRow nr 106 64 (.slice a' L c') L ys ∧ ∀ k, Value.ownBlock (.slice a L c) = some k → Value.ownBlock (.slice a' L c') ≠ some k := p49
      obtain ⟨fb, a8, c8, a9, c9, e49, hfl, hfb, h8, h9, hap⟩ := p49o
      subst e49
      clear p49
      have HF2 : Hid (FiOk X ⟨p1, fb, .slice a8 L c8, .slice a9 L c9, f0.now, f0.safe⟩) := ⟨hfb, by show World.ownsRow _ _ _ _ _ f0.now.length (f0.now.flatMap secC); rw [HL.out, Hyn.out]; exact own_low h8 (Nat.zero_le _), by show World.ownsRow _ _ _ _ _ f0.safe.length (f0.safe.flatMap secC); rw [Hf0o.out.len, HL.out, Hys.out]; exact own_low h9 (Nat.zero_le _), Hf0o.out.len, Hf0o.out.now64, Hf0o.out.safe64, Hf0o.out.le, hap⟩
      have Hnew2 : Hid (∀ k, k = fb ∨ FiRows ⟨p1, fb, .slice a8 L c8, .slice a9 L c9, f0.now, f0.safe⟩ k → nr ≤ k) := by
       rintro k (rfl | hk | hk)
       · exact hfl
       · exact own_bot h8 k hk
       · exact own_bot h9 k hk
      clear hfb h8 h9 hap hfl
      obtain ⟨W3, hrun, hm3, hg3, hs3⟩ := (HM7.out.grows HX.out).put keyF Hok7.out Tryz.underlying95 Hlen7.out.1 p1 Hokp.out fb
      unfold nv pv at hrun
      have hother : ∀ k T, kindAt X k = some (some T) → W3.heap[k]? = X.heap[k]? := fun k T hk => hg3.block k (kind_lt hk) (fun e => by cases (Option.some.inj e); rw [kind_map (HM7.out.grows HX.out)] at hk; cases hk)
      have hot2 : ∀ k T, kindAt w7 k = some (some T) → W3.heap[k]? = w7.heap[k]? := fun k T hk => (hother k T (by unfold kindAt at hk ⊢; rw [HX.out.block k (kind_lt hk)]; exact hk)).trans (HX.out.block k (kind_lt hk))
      have HC9 := Lib.hid (HC7.out.step hot2 Hnr.out HBn.out ⟨p1, fb, .slice a8 L c8, .slice a9 L c9, f0.now, f0.safe⟩ (HF2.out.other hother) Hnew2.out f0 Hf0.out ⟨Hfn0.out, rfl, rfl⟩)
      have hRX := HR7.out.grows HX.out
      have HRR : Hid (RangeA nv pv W3 fm rr (x.fs.map Fi.ent) todo') := hRX.kept (hg3.block _ hRX.map.lt (fun e => by have := Option.some.inj e; have := Hfg.out; omega)) (hg3.block _ hRX.lt (fun e => by have := Option.some.inj e; have := Hgr.out; omega))
      have HM9 : Hid (MapA nv pv W3 g2 ((fs2 ++ [(⟨p1, fb, .slice a8 L c8, .slice a9 L c9, f0.now, f0.safe⟩ : Fi)]).map Fi.ent)) := by
       show MapA _ _ _ _ _
       have hm4 := hm3
       unfold putA at hm4
       rw [delA_id Hlen7.out.2] at hm4
       rw [List.map_append]
       exact hm4
      have HB9 : Hid (But (fun k => k = rr ∨ k = g2) w6 W3) := HB7.out.trans' ((But.ofGrows HX.out).trans' ((But.one hg3).mono fun k hk => .inr hk))
      have Hrun := Lib.hid hrun
      clear hm3 hg3 hs3 hother hot2 hRX HX HF2 hrun
      unfold StepOk
      simp [go_sem, execOp, Hrun.out]
      clear Hrun
      go_wp2
      go_roundw
      case rel =>
       refine ⟨done ++ [(p1, p2)], todo', fs2 ++ [(⟨p1, fb, .slice a8 L c8, .slice a9 L c9, f0.now, f0.safe⟩ : Fi)], ?_, HRR.out, ?_, HM9.out, HB9.out⟩
       · refine Hp7.out.trans ?_
         rw [List.append_assoc]
         exact Hp2.out.append_left done
       · rw [List.map_append, Hns.out]; exact HC9.out
      case measure =>
       rw [HRR.out.left, HRm.out]
       have := Hp2.out.length_eq
       simp at this
       omega
end Go.Proofs.YtoppcpiheaedlaaGreatDoor
end
