/-
  The document's own disk: Copy.
-/
import Derived.Test.YtoppcpiheaedlaaGreatDoorMB7
import Derived.Test.YtoppcpiheaedlaaGreatDoorMB1
namespace Go.Proofs.YtoppcpiheaedlaaGreatDoor
open Go.RowKit
set_option linter.unusedVariables false
set_option linter.unusedSimpArgs false
attribute [local go_sem] sv nv
theorem wpList_appendz {P : Program} {w : World} {ops : Array Oper} {rest : List Oper} {o : Oper} {a : Act} {Q : Exit → Act → World → Prop} (hgd : o.guard = none) (s x : Operand) (t e : TypeId)
 (ho : o.op = .call { callee := .builtin .append, args := #[s, x], argTypes := #[t, t] })
 (i : TypeInfo) (z : Value) (size bytes : Nat) (ht : P.underlying t = some (.slice e)) (hi : P.info? e = some i) (hz : i.zero = some z)
 (hsize : i.size = size) (hby : i.bytes = bytes) (hzs : z.cells.size = size) (hsz : 0 < size)
 (g : Nat) (hs : a.eval s = .slice (some ⟨g, 0, none⟩) 0 0) (hown : w.ownsRow 0 e size (.slice (some ⟨g, 0, none⟩) 0 0) 0 [])
 (v : Value) (n : Nat) (xs : List Value) (hx : a.eval x = v) (hv : w.ownsRow 0 e size v n xs) (h1 : ∀ u ∈ xs, u.oneCell' = true) (h63 : n ≤ maxLen) (hbytes : n * bytes ≤ 140737488355328)
 (h : ∀ v' w', w'.ownsRow 0 e size v' n xs → Grows w w' → (∀ j, v'.ownBlock = some j → g ≤ j) → wpList P ops Q rest (a.put o.dst v') w') : wpList P ops Q (o :: rest) a w := by
 refine wpList_plain hgd fun K hK => ?_
 obtain ⟨v', w', hr, h2, h3, h4, _⟩ := run_append_z (P := P) w t o.type e i z size bytes ht hi hz hsize hby hzs hsz g hown v n xs hv h1 h63 hbytes
 unfold Oper.wp execOp
 simp only [ho, resolve, invoke, builtin, Sem.run_bind, Sem.run_pure, Result.andThen_ok, List.map_toArray, List.map_cons, List.map_nil, hs, hx, hr]
 refine hK _ _ (h v' w' h2 h3 fun j hj => ?_)
 have hg := own_lt hown g rfl
 rcases h4 with h4 | h4 <;> rw [h4] at hj <;> have := Option.some.inj hj <;> omega
theorem own_up {W : World} {B B' e k n : Nat} {v : Value} {xs : List Value} (h : W.ownsRow B' e k v n xs) (hB : ∀ j, v.ownBlock = some j → B ≤ j) : W.ownsRow B e k v n xs :=
 ⟨h.1, h.2.imp id fun ⟨g, cap, cur, e1, _, r⟩ => ⟨g, cap, cur, e1, hB g (by rw [e1]; rfl), r⟩⟩
theorem lit_own (w : World) (e k : Nat) : (w.alloc (.cells #[] e)).ownsRow 0 e k (.slice (some ⟨w.heap.size, 0, none⟩) 0 0) 0 [] :=
 ⟨by simp, .inr ⟨w.heap.size, 0, #[], rfl, Nat.zero_le _, heap_alloc_new w _, Nat.le_refl _, by simp [maxLen], by simp, by simp⟩⟩
theorem lit_at (w : World) (e k g : Nat) (hg : w.heap.size = g) : (w.alloc (.cells #[] e)).ownsRow 0 e k (.slice (some ⟨g, 0, none⟩) 0 0) 0 [] := by
 subst hg
 exact lit_own w e k
theorem setc_own {W : World} {b : Nat} {cs : Array Value} {T : TypeId} (hb : W.heap[b]? = some (.cells cs T (0, 0))) (i : Nat) (u : Value) {B e k n : Nat} {v : Value} {xs : List Value} (h : W.ownsRow B e k v n xs) (hne : T ≠ e) : (W.setCell ⟨b, i, none⟩ u).ownsRow B e k v n xs :=
 own_but h (But.setCell (But.refl' (fun k => k = b) W) ⟨b, i, none⟩ u rfl) fun j hj e' => own_ne h hb hne (by rw [hj, show j = b from e'])
def Stop2 (p : Prop) : Prop := p
theorem stop2 {p : Prop} (h : Stop2 p) : p := h
structure CpS (B : Nat) (W : World) (s : Ds) (x : RDv) (v3 : Value) (ss2 : List Value) (i : Nat) : Prop where
 len : ss2.length = i
 row : W.ownsRow 0 116 2 v3 i ((flP ss2).flatMap flC)
 rb : ∀ j, v3.ownBlock = some j → B ≤ j
 sec : ∀ j, j < i → W.ownsRow 0 36 1 (ss2.getD j undef) (secs s j).length (x.sp.getD j [])
 sb : ∀ j, j < i → ∀ k, (ss2.getD j undef).ownBlock = some k → B ≤ k
 dis : ∀ a b, a < b → b < i → ∀ k, (ss2.getD a undef).ownBlock = some k → (ss2.getD b undef).ownBlock ≠ some k
theorem CpS.start (B : Nat) (W : World) (s : Ds) (x : RDv) : CpS B W s x (.slice none 0 0) [] 0 :=
 ⟨rfl, World.ownsRow_nil W 0 _ 2, fun j hj => by simp [Value.ownBlock] at hj, fun j hj => by omega, fun j hj => by omega, fun a b h1 h2 => by omega⟩
theorem CpS.step {B : Nat} {W W1 : World} {s : Ds} {x : RDv} {v3 v' u : Value} {ss2 : List Value} {i : Nat} (h : CpS B W s x v3 ss2 i) (hB : B ≤ W.heap.size) (hb : But (fun k => v3.ownBlock = some k) W W1)
 (ho : W1.ownsRow 0 116 2 v' (i + 1) ((flP ss2).flatMap flC ++ flC (i, u))) (hat : v'.ownBlock = v3.ownBlock ∨ ∀ k, v'.ownBlock = some k → W.heap.size ≤ k)
 (hu : W1.ownsRow W.heap.size 36 1 u (secs s i).length (x.sp.getD i [])) : CpS B W1 s x v' (ss2 ++ [u]) (i + 1) := by
 have hlt : ∀ j, j < i → ∀ k, (ss2.getD j undef).ownBlock = some k → k < W.heap.size := fun j hj k hk => own_lt (h.sec j hj) k hk
 have hgl : ∀ j, j < i → (ss2 ++ [u]).getD j undef = ss2.getD j undef := fun j hj => getD_left _ _ _ _ (by rw [h.len]; exact hj)
 have hgn : (ss2 ++ [u]).getD i undef = u := by rw [← h.len]; exact getD_last _ _ _
 refine ⟨by rw [List.length_append, h.len]; rfl, ?_, ?_, ?_, ?_, ?_⟩
 · rw [flP_snoc, List.flatMap_append, h.len]
   simpa using ho
 · intro j hj
   rcases hat with hat | hat
   · exact h.rb j (hat.symm.trans hj)
   · exact Nat.le_trans hB (hat j hj)
 · intro j hj
   rcases Nat.lt_or_ge j i with h1 | h1
   · rw [hgl j h1]
     exact own_but (h.sec j h1) hb fun k hk hn => own_ne2 (h.sec j h1) h.row (by decide) k hk hn
   · obtain rfl : j = i := by omega
     rw [hgn]
     exact own_up hu fun k _ => Nat.zero_le _
 · intro j hj k hk
   rcases Nat.lt_or_ge j i with h1 | h1
   · rw [hgl j h1] at hk; exact h.sb j h1 k hk
   · obtain rfl : j = i := by omega
     rw [hgn] at hk
     exact Nat.le_trans hB (own_base hu k hk)
 · intro a b hab hbi k hka
   rw [hgl a (by omega)] at hka
   rcases Nat.lt_or_ge b i with h1 | h1
   · rw [hgl b h1]; exact h.dis a b hab h1 k hka
   · obtain rfl : b = i := by omega
     rw [hgn]
     intro hkb
     have h2 := own_base hu k hkb
     have h3 := hlt a hab k hka
     omega
theorem CpS.kept {B : Nat} {W W1 : World} {s : Ds} {x : RDv} {v3 : Value} {ss2 : List Value} {i q : Nat} {cs : Array Value} (h : CpS B W s x v3 ss2 i) (hb : But (fun k => k = q) W W1) (hq : W.heap[q]? = some (.cells cs 76 (0, 0))) : CpS B W1 s x v3 ss2 i :=
 ⟨h.len, own_but h.row hb (fun j hj e => own_ne h.row hq (by decide) (by rw [hj, show j = q from e])), h.rb, fun j hj => own_but (h.sec j hj) hb (fun k hk e => own_ne (h.sec j hj) hq (by decide) (by rw [hk, show k = q from e])), h.sb, h.dis⟩
structure CpO (B : Nat) (W : World) (s : Ds) (x : RDv) (vd vc vw : Value) : Prop where
 dir : EntR W vd s.dir
 chs : W.ownsRow 0 165 4 vc s.chs.length (s.chs.flatMap chC)
 wrs : W.ownsRow 0 168 3 vw s.wrs.length ((s.wrs.zip x.ps).flatMap wrC)
 db : ∀ j, vd.ownBlock = some j → B ≤ j
 cb : ∀ j, vc.ownBlock = some j → B ≤ j
 wb : ∀ j, vw.ownBlock = some j → B ≤ j
theorem CpO.but {B : Nat} {W W1 : World} {s : Ds} {x : RDv} {vd vc vw : Value} {O : Nat → Prop} (h : CpO B W s x vd vc vw) (hb : But O W W1) (hO : ∀ k, O k → kindAt W k = some (some 116) ∨ kindAt W k = some (some 76)) : CpO B W1 s x vd vc vw := by
 have no : ∀ {e k n : Nat} {v : Value} {xs : List Value} {B' : Nat}, W.ownsRow B' e k v n xs → e ≠ 116 → e ≠ 76 → W1.ownsRow B' e k v n xs := fun ho h1 h2 => own_but ho hb fun j hj hn => by
  have hk := kind_own ho hj
  rcases hO j hn with h' | h' <;> rw [hk] at h' <;> simp at h' <;> omega
 exact ⟨no h.dir (by decide) (by decide), no h.chs (by decide) (by decide), no h.wrs (by decide) (by decide), h.db, h.cb, h.wb⟩
def cpRow (s : Ds) (vd vc v3 vw : Value) : Array Value := #[nv s.room, vd, vc, v3, vw, nv s.fls.length, .bool s.armed, .int .i64 s.after, .int .i64 s.code]
theorem RD.copied {w W : World} {q qc : Nat} {s : Ds} {x : RDv} {vd vc v3 vw : Value} {ss2 : List Value} (h : RD w q s x) (hG : Grows w W) (hq : w.heap.size ≤ qc) (hrow : W.heap[qc]? = some (.cells (cpRow s vd vc v3 vw) 76 (0, 0)))
 (ho : CpO w.heap.size W s x vd vc vw) (hc : CpS w.heap.size W s x v3 ss2 s.fls.length) :
 ∃ xc, RD W qc s xc ∧ (∀ k, mutB qc xc k → w.heap.size ≤ k) ∧ ∀ k, useB qc xc k → w.heap.size ≤ k ∨ (useB q x k ∧ ¬ mutB q x k) := by
 have hW := h.grows hG
 have hm : ∀ k, mutB qc ⟨vd, vc, v3, vw, ss2, x.ps, x.sp⟩ k → w.heap.size ≤ k := by
  intro k hk
  rcases hk with hk | hk | hk | hk | ⟨v, hv, hk⟩
  · have e : k = qc := hk
    omega
  · exact ho.cb k hk
  · exact hc.rb k hk
  · exact ho.wb k hk
  · obtain ⟨j, hj, rfl⟩ := List.mem_iff_getElem.1 hv
    exact hc.sb j (by have h1 := hc.len; have h2 : j < ss2.length := hj; omega) k (by rw [List.getD, List.getElem?_eq_getElem hj, Option.getD_some]; exact hk)
 refine ⟨⟨vd, vc, v3, vw, ss2, x.ps, x.sp⟩, ⟨hrow, ho.dir, ho.chs, hc.len, hc.row, h.psl, ho.wrs, h.spl, hc.sec, hW.byt, hW.pend, ?_, hc.dis, h.wf, h.aft, h.small⟩, hm, ?_⟩
 · refine ⟨fun v hv k hk hmm => ?_, fun l hl v hv k hk hmm => ?_⟩
   · have h1 := h.ltU (k := k) (.inr (.inr (.inl ⟨v, hv, hk⟩)))
     have h2 := hm k hmm
     omega
   · have h1 := h.ltU (k := k) (.inr (.inr (.inr ⟨l, hl, v, hv, hk⟩)))
     have h2 := hm k hmm
     omega
 · intro k hk
   rcases hk with hk | hk | hk | hk
   · exact .inl (hm k hk)
   · exact .inl (ho.db k hk)
   · obtain ⟨v, hv, hk⟩ := hk
     exact .inr ⟨.inr (.inr (.inl ⟨v, hv, hk⟩)), h.out.1 v hv k hk⟩
   · obtain ⟨l, hl, v, hv, hk⟩ := hk
     exact .inr ⟨.inr (.inr (.inr ⟨l, hl, v, hv, hk⟩)), h.out.2 l hl v hv k hk⟩
theorem zeroRef : ((Tryz.prog.info? 76).bind (fun i => i.zero)).map (fun z => z.cells) = some #[.int .i64 0, .slice none 0 0, .slice none 0 0, .slice none 0 0, .slice none 0 0, .int .i64 0, .bool false, .int .i64 0, .int .i64 0] := by kernel_rfl
theorem sizeRef : (Tryz.prog.info? 76).map (·.size) = some 9 := by kernel_rfl
set_option maxRecDepth 100000 in
set_option maxHeartbeats 8000000 in
theorem refCopy (q : Nat) (s : Ds) (x : RDv) (w : World) (h : RD w q s x) :
 Calls Tryz.prog 17 #[.pointer (some ⟨q, 0, none⟩)] w fun e w' => ∃ qc xc, e = .returned (.pointer (some ⟨qc, 0, none⟩)) ∧ RD w' qc s xc ∧ Grows w w' ∧ (∀ k, mutB qc xc k → w.heap.size ≤ k) ∧ ∀ k, useB qc xc k → w.heap.size ≤ k ∨ (useB q x k ∧ ¬ mutB q x k) := by
 have hmx : Tryz.prog.follows .mixedOrders = true := by kernel_rfl
 obtain ⟨iE, zE, hiE, hzE, hsE, hbE, hzsE⟩ := infoE_parts
 obtain ⟨iC, zC, hiC, hzC, hsC, hbC, hzsC⟩ := infoCh_parts
 obtain ⟨iW, zW, hiW, hzW, hsW, hbW, hzsW⟩ := infoWrD_parts
 obtain ⟨iF, zF, hiF, hzF, hsF, hbF, hzsF⟩ := infoFi_parts
 obtain ⟨iB, zB, hiB, hzB, hsB, hbB, hzsB⟩ := infoBs_parts
 have H := Lib.hid h
 obtain ⟨qc, Hqc⟩ : ∃ y, Hid (w.heap.size = y) := ⟨_, rfl⟩
 have Hqlt : Hid (q < qc) := by show _ < _; rw [← Hqc.out]; exact h.lt (.inl rfl)
 obtain ⟨ad, kd, ed⟩ := own_form (show w.ownsRow 0 134 2 x.vd s.dir.length (s.dir.flatMap entC) from h.dir)
 obtain ⟨ac, kc, ec⟩ := own_form h.chs
 obtain ⟨aw, kw, ew⟩ := own_form h.wrs
 obtain ⟨af, kf, ef⟩ := own_form h.fls
 obtain ⟨nd, Hnd⟩ : ∃ y, Hid (s.dir.length = y) := ⟨_, rfl⟩
 obtain ⟨nc, Hnc⟩ : ∃ y, Hid (s.chs.length = y) := ⟨_, rfl⟩
 obtain ⟨nw, Hnw⟩ : ∃ y, Hid (s.wrs.length = y) := ⟨_, rfl⟩
 obtain ⟨nf, Hnf⟩ : ∃ y, Hid (s.fls.length = y) := ⟨_, rfl⟩
 rw [Hnd.out] at ed
 rw [Hnc.out] at ec
 rw [Hnw.out] at ew
 rw [Hnf.out] at ef
 have Hsm : Hid (nd ≤ 1000000 ∧ nc ≤ 1000000 ∧ nf ≤ 1000000 ∧ nw ≤ 1000000) := by have := h.small; rw [Hnd.out, Hnc.out, Hnf.out, Hnw.out] at this; exact this
 have hnfI : (nf : Int) ≤ 1000000 := by have := Hsm.out.2.2.1; omega
 obtain ⟨xd, Hxd⟩ : ∃ y, Hid (s.dir.flatMap entC = y) := ⟨_, rfl⟩
 obtain ⟨xc, Hxc⟩ : ∃ y, Hid (s.chs.flatMap chC = y) := ⟨_, rfl⟩
 obtain ⟨xw, Hxw⟩ : ∃ y, Hid ((s.wrs.zip x.ps).flatMap wrC = y) := ⟨_, rfl⟩
 have Hrd : Hid (w.ownsRow 0 134 2 (.slice ad nd kd) nd xd) := by have : w.ownsRow 0 _ 2 x.vd s.dir.length (s.dir.flatMap entC) := h.dir; rw [ed, Hnd.out, Hxd.out] at this; exact this
 have Hrc : Hid (w.ownsRow 0 165 4 (.slice ac nc kc) nc xc) := by have := h.chs; rw [ec, Hnc.out, Hxc.out] at this; exact this
 have Hrw : Hid (w.ownsRow 0 168 3 (.slice aw nw kw) nw xw) := by have := h.wrs; rw [ew, Hnw.out, Hxw.out] at this; exact this
 have Hod : Hid (∀ u ∈ xd, u.oneCell' = true) := by
  intro u hu
  rw [← Hxd.out] at hu
  obtain ⟨d, _, hd⟩ := List.mem_flatMap.1 hu
  simp [entC, nv, sv] at hd
  rcases hd with rfl | rfl <;> rfl
 have Hoc : Hid (∀ u ∈ xc, u.oneCell' = true) := by
  intro u hu
  rw [← Hxc.out] at hu
  obtain ⟨d, _, hd⟩ := List.mem_flatMap.1 hu
  simp [chC, nv, sv] at hd
  rcases hd with rfl | rfl | rfl | rfl <;> rfl
 have Hps1 : Hid (∀ u ∈ x.ps, u.oneCell' = true) := by
  intro u hu
  obtain ⟨j, hj, rfl⟩ := List.mem_iff_getElem.1 hu
  have h1 := h.pend j (by rw [← h.psl]; exact hj)
  rw [List.getD, List.getElem?_eq_getElem hj, Option.getD_some] at h1
  obtain ⟨a, c, e⟩ := h1.slice
  rw [e]; rfl
 have How : Hid (∀ u ∈ xw, u.oneCell' = true) := by
  intro u hu
  rw [← Hxw.out] at hu
  obtain ⟨d, hd1, hd⟩ := List.mem_flatMap.1 hu
  simp [wrC, nv] at hd
  rcases hd with rfl | rfl | rfl
  · rfl
  · rfl
  · exact Hps1.out _ (List.of_mem_zip hd1).2
 have Hsp1 : Hid (∀ i, i < nf → ∀ u ∈ x.sp.getD i [], u.oneCell' = true) := by
  intro i hi u hu
  obtain ⟨j, hj, rfl⟩ := List.mem_iff_getElem.1 hu
  have hi' : i < s.fls.length := by rw [Hnf.out]; exact hi
  have h1 := h.byt i j hi' (by have := (h.sec i hi').1; omega)
  rw [List.getD, List.getElem?_eq_getElem hj, Option.getD_some] at h1
  obtain ⟨a, c, e⟩ := h1.slice
  rw [e]; rfl
 obtain ⟨C, HC⟩ : ∃ C, Hid (rdRow s x = C) := ⟨_, rfl⟩
 have HCs : Hid (C.size = 9) := by show _ = _; rw [← HC.out]; rfl
 have HCc : Hid (∀ j v, C.toList[j]? = some v → w.cell? ((⟨q, 0, none⟩ : Addr).add j) = some v) := by
  intro j v hj
  rw [Addr.add_lit, Nat.zero_add, cell_of_row w q j _ _ _ h.row, HC.out, ← Array.getElem?_toList]
  exact hj
 have HC1 : Hid (C.all (·.oneCell') = true) := by
  show _ = _
  rw [← HC.out]
  unfold rdRow
  rw [ed, ec, ew, ef]
  simp [Value.oneCell', nv]
 have HCl : Hid ((Tryz.prog.info? 76).map (·.size) = some C.toList.length) := by show _ = _; rw [sizeRef, Array.length_toList, HCs.out]
 have hnew := heap_alloc_new w (.cells #[.int .i64 0, .slice none 0 0, .slice none 0 0, .slice none 0 0, .slice none 0 0, .int .i64 0, .bool false, .int .i64 0, .int .i64 0] 76)
 rw [Hqc.out] at hnew
 have Hnew := Lib.hid hnew
 have hG2 : Grows w ((w.alloc (.cells #[.int .i64 0, .slice none 0 0, .slice none 0 0, .slice none 0 0, .slice none 0 0, .int .i64 0, .bool false, .int .i64 0, .int .i64 0] 76)).setRow qc C) := by
  refine ⟨rfl, rfl, rfl, by simp, fun k hk => ?_⟩
  rw [setRow_other _ qc k C (by have := Hqc.out; omega)]
  exact heap_alloc_old w _ hk
 have hrow2 := setRow_heap _ qc _ C _ _ hnew
 obtain ⟨w2, Hw2⟩ : ∃ y, Hid ((w.alloc (.cells #[.int .i64 0, .slice none 0 0, .slice none 0 0, .slice none 0 0, .slice none 0 0, .int .i64 0, .bool false, .int .i64 0, .int .i64 0] 76)).setRow qc C = y) := ⟨_, rfl⟩
 rw [Hw2.out] at hG2 hrow2
 have HG2 := Lib.hid hG2
 rw [← HC.out] at hrow2
 have Hrow2 := Lib.hid hrow2
 have hqw2 : qc < w2.heap.size := (Array.getElem?_eq_some_iff.1 hrow2).1
 have Hqw2 := Lib.hid hqw2
 clear h hnew hG2 hrow2 hqw2 ef
 have c1 := HG2.out.cell' (H.out.cell 1 x.vd rfl)
 have c2 := HG2.out.cell' (H.out.cell 2 x.vc rfl)
 have c4 := HG2.out.cell' (H.out.cell 4 x.vw rfl)
 rw [ed] at c1
 rw [ec] at c2
 rw [ew] at c4
 have C2 := Lib.hid c2
 have C4 := Lib.hid c4
 have hne : ¬ (q = qc) := by have := Hqlt.out; omega
 have Hne := Lib.hid hne
 have Hnq : Hid (∀ {B e k n : Nat} {v : Value} {xs : List Value} {W : World}, w.ownsRow B e k v n xs → But (fun k => k = qc) w2 W → W.ownsRow B e k v n xs) := fun ho hb => own_but (own_grows ho HG2.out) hb fun j hj e => by have := own_lt ho j hj; have e' : j = qc := e; have := Hqc.out; omega
 have c1a := (Grows.alloc' w2 (.cells #[] 134)).cell' c1
 clear c1 c2 c4 ed ec ew hne
 go_enter Tryz.func17, Tryz.ntmps17
 go_wp2_with (first
  | (refine wpList_loadPart rfl 76 _ rfl ⟨q, 0, none⟩ rfl C.toList C (by simp) _ HCc.out Tryz.underlying76 rfl HCl.out ?_)
  | (refine wpList_allocT rfl 76 rfl _ zeroRef ?_; rw [Hqc.out])
  | (refine wpList_storeT rfl 76 _ _ rfl qc 76 _ C rfl rfl Hnew.out (by rw [sizeRef, HCs.out]) (by rw [HCs.out]; rfl) HC1.out ?_; rw [Hw2.out])
  | (at_builtin; refine stop2 ?_)
  | fail)
 unfold Stop2
 refine wpList_appendz rfl _ _ 71 134 rfl iE zE 2 24 Tryz.underlying71 hiE hzE hsE hbE hzsE (by decide) _ rfl (lit_own _ _ _) _ nd xd rfl (Hnq.out Hrd.out (But.ofGrows (Grows.alloc' _ _))) Hod.out (by have := Hsm.out.1; unfold maxLen; omega) (by have := Hsm.out.1; omega) ?_
 intro v1 w3 ho1 hg1 hb1
 obtain ⟨a1, k1, rfl⟩ := own_form ho1
 have hrow3 := hg1.heap' ((Grows.alloc' w2 _).heap' Hrow2.out)
 have r1 : w3.cell? ⟨qc, 1, none⟩ = some x.vd := by rw [cell_of_row w3 qc 1 _ _ _ hrow3]; rfl
 have f1 : w3.frozen? ⟨qc, 1, none⟩ = false := frozen_of_row w3 qc 1 _ _ hrow3
 have hB3 : But (fun k => k = qc) w2 (w3.setCell ⟨qc, 1, none⟩ (.slice a1 nd k1)) := ((But.ofGrows (Grows.alloc' w2 _)).trans' (But.ofGrows hg1)).trans' (But.setCell (But.refl' _ _) _ _ rfl)
 have c2a := (Grows.alloc' (w3.setCell ⟨qc, 1, none⟩ (.slice a1 nd k1)) (.cells #[] 165)).cell' (hB3.cell Hne.out C2.out)
 have hrow4 := row_setCell hrow3 1 (.slice a1 nd k1)
 have ho1' := setc_own hrow3 1 (.slice a1 nd k1) ho1 (by decide)
 have Ho1 := Lib.hid ho1'
 have HB3 := Lib.hid hB3
 have Hrow4 := Lib.hid hrow4
 have Hb1 : Hid (∀ j, (Value.slice a1 nd k1).ownBlock = some j → qc ≤ j) := fun j hj => by have := hb1 j hj; have := Hqw2.out; omega
 clear ho1 hg1 hb1 hrow3 hB3 hrow4 ho1' c1a
 go_wp2_with (first | (at_builtin; refine stop2 ?_) | fail)
 unfold Stop2
 refine wpList_appendz rfl _ _ 72 165 rfl iC zC 4 48 Tryz.underlying72 hiC hzC hsC hbC hzsC (by decide) _ rfl (lit_at _ _ _ _ (by simp [World.setCell])) _ nc xc rfl (Hnq.out Hrc.out (HB3.out.trans' (But.ofGrows (Grows.alloc' _ _)))) Hoc.out (by have := Hsm.out.2.1; unfold maxLen; omega) (by have := Hsm.out.2.1; omega) ?_
 intro v2 w5 ho2 hg2 hb2
 obtain ⟨a2, k2, rfl⟩ := own_form ho2
 have hGa : Grows (w3.setCell ⟨qc, 1, none⟩ (.slice a1 nd k1)) w5 := Grows.trans' (Grows.alloc' _ _) hg2
 have hrow5 := hGa.heap' Hrow4.out
 have r2 : w5.cell? ⟨qc, 2, none⟩ = some x.vc := by rw [cell_of_row w5 qc 2 _ _ _ hrow5]; rfl
 have f2 : w5.frozen? ⟨qc, 2, none⟩ = false := frozen_of_row w5 qc 2 _ _ hrow5
 have hB5 : But (fun k => k = qc) w2 (w5.setCell ⟨qc, 2, none⟩ (.slice a2 nc k2)) := (HB3.out.trans' (But.ofGrows hGa)).trans' (But.setCell (But.refl' _ _) _ _ rfl)
 have c4a := (Grows.alloc' (w5.setCell ⟨qc, 2, none⟩ (.slice a2 nc k2)) (.cells #[] 168)).cell' (hB5.cell Hne.out C4.out)
 have Ho15 := Lib.hid (setc_own hrow5 2 (.slice a2 nc k2) (own_grows Ho1.out hGa) (by decide))
 have Ho25 := Lib.hid (setc_own hrow5 2 (.slice a2 nc k2) ho2 (by decide))
 have HB5 := Lib.hid hB5
 have Hrow6 := Lib.hid (row_setCell hrow5 2 (.slice a2 nc k2))
 have Hb2 : Hid (∀ j, (Value.slice a2 nc k2).ownBlock = some j → qc ≤ j) := fun j hj => by have h1 := hb2 j hj; have h2 : w2.heap.size ≤ w3.heap.size := (by have h := HB3.out.size; simpa [World.setCell] using h); have h3 := Hqw2.out; omega
 clear ho2 hg2 hb2 hrow5 hB5 hGa c2a r1 f1
 go_wp2_with (first | (at_builtin; refine stop2 ?_) | fail)
 unfold Stop2
 refine wpList_appendz rfl _ _ 74 168 rfl iW zW 3 40 Tryz.underlying74 hiW hzW hsW hbW hzsW (by decide) _ rfl (lit_at _ _ _ _ (by simp [World.setCell])) _ nw xw rfl (Hnq.out Hrw.out (HB5.out.trans' (But.ofGrows (Grows.alloc' _ _)))) How.out (by have := Hsm.out.2.2.2; unfold maxLen; omega) (by have := Hsm.out.2.2.2; omega) ?_
 intro v4 w7 ho4 hg4 hb4
 obtain ⟨a4, k4, rfl⟩ := own_form ho4
 have hGb : Grows (w5.setCell ⟨qc, 2, none⟩ (.slice a2 nc k2)) w7 := Grows.trans' (Grows.alloc' _ _) hg4
 have hrow7 := hGb.heap' Hrow6.out
 have r4 : w7.cell? ⟨qc, 4, none⟩ = some x.vw := by rw [cell_of_row w7 qc 4 _ _ _ hrow7]; rfl
 have f4 : w7.frozen? ⟨qc, 4, none⟩ = false := frozen_of_row w7 qc 4 _ _ hrow7
 have hrow8 := row_setCell hrow7 4 (.slice a4 nw k4)
 have r3 : (w7.setCell ⟨qc, 4, none⟩ (.slice a4 nw k4)).cell? ⟨qc, 3, none⟩ = some x.vf := by rw [cell_of_row _ qc 3 _ _ _ hrow8]; rfl
 have f3 : (w7.setCell ⟨qc, 4, none⟩ (.slice a4 nw k4)).frozen? ⟨qc, 3, none⟩ = false := frozen_of_row _ qc 3 _ _ hrow8
 have hrow9 := row_setCell hrow8 3 (.slice none 0 0)
 obtain ⟨w8, Hw8⟩ : ∃ y, Hid ((w7.setCell ⟨qc, 4, none⟩ (.slice a4 nw k4)).setCell ⟨qc, 3, none⟩ (.slice none 0 0) = y) := ⟨_, rfl⟩
 have hBe : But (fun k => k = qc) w7 w8 := by rw [← Hw8.out]; exact But.setCell (But.setCell (But.refl' (fun k => k = qc) w7) ⟨qc, 4, none⟩ _ rfl) ⟨qc, 3, none⟩ _ rfl
 have hB8 : But (fun k => k = qc) w2 w8 := (HB5.out.trans' (But.ofGrows hGb)).trans' hBe
 rw [Hw8.out] at hrow9
 have HG8 : Hid (Grows w w8) := ((But.ofGrows HG2.out).trans' hB8).below (Nat.le_refl _) (fun k hk => by have e' : k = qc := hk; have := Hqc.out; omega)
 have hno : ∀ {B e k n : Nat} {v : Value} {xs : List Value}, w7.ownsRow B e k v n xs → 76 ≠ e → w8.ownsRow B e k v n xs := fun ho he => own_but ho hBe fun j hj e' => own_ne ho hrow7 he (by rw [hj, show j = qc from e'])
 have HO8 : Hid (CpO w.heap.size w8 s x (.slice a1 nd k1) (.slice a2 nc k2) (.slice a4 nw k4)) := by
  have h1 := hno (own_grows Ho15.out hGb) (by decide)
  have h2 := hno (own_grows Ho25.out hGb) (by decide)
  have h4 := hno ho4 (by decide)
  rw [← Hnd.out, ← Hxd.out] at h1
  rw [← Hnc.out, ← Hxc.out] at h2
  rw [← Hnw.out, ← Hxw.out] at h4
  refine ⟨by rw [← Hnd.out]; exact h1, by rw [← Hnc.out]; exact h2, by rw [← Hnw.out]; exact h4, fun j hj => by rw [Hqc.out]; exact Hb1.out j hj, fun j hj => by rw [Hqc.out]; exact Hb2.out j hj, fun j hj => ?_⟩
  have h5 := hb4 j hj
  have h6 : w2.heap.size ≤ w5.heap.size := by have h := HB5.out.size; simpa [World.setCell] using h
  have h7 := Hqw2.out
  have h8 := Hqc.out
  omega
 have Hrow8 : Hid (w8.heap[qc]? = some (.cells (cpRow s (.slice a1 nd k1) (.slice a2 nc k2) (.slice none 0 0) (.slice a4 nw k4)) 76 (0, 0))) := hrow9
 have HR8 := Lib.hid (H.out.grows HG8.out)
 clear ho4 hg4 hb4 hrow7 hrow8 hrow9 hBe hB8 hGb hno c4a r2 f2
 go_wp2
 rw [Hw8.out]
 clear r4 f4 r3 f3
 go_loopw [4] (fun t4 wr => ∃ (i : Nat) (v3 : Value) (ss2 : List Value), i ≤ nf ∧ t4 = .int .i64 i ∧ Hid (Grows w wr) ∧ Hid (CpO w.heap.size wr s x (.slice a1 nd k1) (.slice a2 nc k2) (.slice a4 nw k4)) ∧ Hid (CpS w.heap.size wr s x v3 ss2 i) ∧ Hid (wr.heap[qc]? = some (.cells (cpRow s (.slice a1 nd k1) (.slice a2 nc k2) v3 (.slice a4 nw k4)) 76 (0, 0)))) (fun t4 _ => nf - (intOf t4).toNat)
 case atStart => exact ⟨0, .slice none 0 0, [], by omega, rfl, HG8.out, HO8.out, CpS.start _ _ _ _, Hrow8.out⟩
 case round =>
  obtain ⟨i, v3, ss2, hin, rfl, HGr, HOr, HSr, HRr⟩ := hrel
  have HRd := Lib.hid (H.out.grows HGr.out)
  by_cases hlt : i < nf
  · have hltI : (i : Int) < (nf : Int) := by omega
    have hbi : ¬ ((nf : Int) ≤ (i : Int)) := by omega
    have hil : i < s.fls.length := by rw [Hnf.out]; exact hlt
    obtain ⟨gf, kf2, af2, cf, evf, ess, c3, c5⟩ := HRd.out.file i hil
    have c5i : wr.cell? ⟨gf, i * 2, none⟩ = some (.int .i64 (i : Int)) := by
     have hf := HRd.out.fls
     rw [evf] at hf
     have hl : i < (flP x.ss).length := by rw [flP_length, HRd.out.ssl]; exact hil
     refine own_cell hf (i * 2 + 0) _ ?_
     rw [flat_get flC 2 flC_len (flP x.ss) i 0 hl (by omega)]
     show some (nv ((flP x.ss)[i]).1) = _
     rw [flP_fst]
     rfl
    obtain ⟨a3, k3, e3⟩ := own_form HSr.out.row
    subst e3
    have cq3 : wr.cell? ⟨qc, 3, none⟩ = some (.slice a3 i k3) := by rw [cell_of_row wr qc 3 _ _ _ HRr.out]; rfl
    obtain ⟨L, HL⟩ : ∃ y, Hid ((secs s i).length = y) := ⟨_, rfl⟩
    obtain ⟨Y, HY⟩ : ∃ y, Hid (x.sp.getD i [] = y) := ⟨_, rfl⟩
    have HoS : Hid (wr.ownsRow 0 36 1 (.slice af2 L cf) L Y) := by have := HRd.out.sec i hil; rw [ess, HL.out, HY.out] at this; exact this
    have HoSl : Hid (∀ j, (Value.slice af2 L cf).ownBlock = some j → j < w.heap.size) := fun j hj => H.out.lt (.inr (.inr (.inr (.inr ⟨_, getD_mem x.ss i undef (by rw [HRd.out.ssl]; exact hil), by rw [ess, HL.out]; exact hj⟩))))
    have HY1 : Hid (∀ u ∈ Y, u.oneCell' = true) := by show ∀ _, _; rw [← HY.out]; exact Hsp1.out i hlt
    have HLb : Hid (L ≤ 4096) := by show _ ≤ _; rw [← HL.out]; exact (HRd.out.wf.sec _ (getD_mem s.fls i [] hil)).1
    rw [Hnf.out] at c3
    rw [HL.out] at c5
    have Hi6 : Hid (i < 1000000) := by have := Hsm.out.2.2.1; show _ < _; omega
    obtain ⟨xs, Hxs⟩ : ∃ y, Hid ((flP ss2).flatMap flC = y) := ⟨_, rfl⟩
    have Hown : Hid (wr.ownsRow 0 116 2 (.slice a3 i k3) i xs) := by have := HSr.out.row; rw [Hxs.out] at this; exact this
    obtain ⟨ws, Hws⟩ : ∃ y, Hid (wr.heap.size = y) := ⟨_, rfl⟩
    have Hvw : Hid (∀ j, (Value.slice a3 i k3).ownBlock = some j → w.heap.size ≤ j ∧ j < ws) := fun j hj => ⟨HSr.out.rb j hj, by rw [← Hws.out]; exact own_lt Hown.out j hj⟩
    have hnq : ¬ ((Value.slice a3 i k3).ownBlock = some q) := fun e => by have h1 := (Hvw.out q e).1; have h2 := Hqlt.out; have h3 := Hqc.out; omega
    have hnc : ¬ ((Value.slice a3 i k3).ownBlock = some qc) := fun e => own_ne Hown.out HRr.out (by decide) e
    have hnf2 : ¬ ((Value.slice a3 i k3).ownBlock = some gf) := fun e => by have h1 := (Hvw.out gf e).1; have h2 := H.out.lt (k := gf) (.inr (.inr (.inl (by rw [evf]; rfl)))); omega
    have HRO : Hid (∀ u a b, But (fun k => Value.ownBlock (.slice a3 i k3) = some k) a b → a.ownsRow ws 36 1 u L Y → b.ownsRow ws 36 1 u L Y) := fun u a b g h => own_but h g (fun j hj hn => by have h1 := own_base h j hj; have h2 := (Hvw.out j hn).2; omega)
    have Hlt := Lib.hid hlt
    clear hlt hil hin ess evf
    go_wp2
    have cXf := fun X (hX : (EAppR (fun k => Value.ownBlock (.slice a3 i k3) = some k) 116 2 i xs (fun u => flC (i, u)) (fun u W => W.ownsRow ws 36 1 u L Y)) _ X) => And.intro (hX.but.cell (p := ⟨q, _, none⟩) hnq c3) (And.intro (hX.but.cell (p := ⟨qc, _, none⟩) hnc cq3) (And.intro (hX.but.cell (p := ⟨gf, _, none⟩) hnf2 c5) (hX.but.cell (p := ⟨gf, _, none⟩) hnf2 c5i)))
    refine region_K_last (E := (EAppR (fun k => Value.ownBlock (.slice a3 i k3) = some k) 116 2 i xs (fun u => flC (i, u)) (fun u W => W.ownsRow ws 36 1 u L Y))) (EAppR.ok (fun k => Value.ownBlock (.slice a3 i k3) = some k) 116 2 i xs (fun u => flC (i, u)) (fun u W => W.ownsRow ws 36 1 u L Y) (fun u w h => own_drew h)) (EAppR.ofGrows (R := (fun u W => W.ownsRow ws 36 1 u L Y)) (fun u a b g h => own_grows h g)) 24
     #[[], [0], [], [2], [2, 3], [2, 3, 4], [], [2, 3, 4, 5, 6], [2, 3, 4, 5, 6, 7], [2, 3, 4, 5, 6, 7, 8], [], [], [11], [11, 12], [11, 12, 13], [], [11, 12, 13, 14, 15], [11, 12, 13, 14, 15, 16], [11, 12, 13, 14, 15, 16, 17], [10, 11, 12, 13, 14, 15, 16, 17, 18], [2, 3, 4, 5, 6, 7, 8, 9, 10, 11, 12, 13, 14, 15, 16, 17, 18, 19], [2, 3, 4, 5, 6, 7, 8, 9, 10, 11, 12, 13, 14, 15, 16, 17, 18, 19, 20], [0, 1, 2, 3, 4, 5, 6, 7, 8, 9, 10, 11, 12, 13, 14, 15, 16, 17, 18, 19, 20, 21], [0, 1, 2, 3, 4, 5, 6, 7, 8, 9, 10, 11, 12, 13, 14, 15, 16, 17, 18, 19, 20, 21, 22], [0, 1, 2, 3, 4, 5, 6, 7, 8, 9, 10, 11, 12, 13, 14, 15, 16, 17, 18, 19, 20, 21, 22, 23]] #[[3], [], [0], [], [], [], [4], [], [], [], [], [0], [], [], [], [4], [], [], [], [], [], [], [], [3], []] #[true, true, true, true, true, true, true, true, true, true, true, true, true, true, true, true, true, true, true, true, true, true, true, true, true]
     ((.val ?vf0) :: (.val ?vf1) :: (.val ?vf2) :: (.val ?vf3) :: (.val ?vf4) :: (.val ?vf5) :: (.val ?vf6) :: (.val ?vf7) :: (.val ?vf8) :: (.val ?vf9) :: (.pred (fun v W => ∃ g, v = .slice (some ⟨g, 0, none⟩) 0 0 ∧ ws ≤ g ∧ W.ownsRow 0 36 1 v 0 []) (fun v a b h ho => by obtain ⟨g, e, hg, ho⟩ := ho; exact ⟨g, e, hg, own_but ho h.but (fun j hj hn => by rw [e] at hj; have e' : g = j := Option.some.inj hj; have := (Hvw.out j hn).2; omega)⟩)) :: (.val ?vf11) :: (.val ?vf12) :: (.val ?vf13) :: (.val ?vf14) :: (.val ?vf15) :: (.val ?vf16) :: (.val ?vf17) :: (.val ?vf18) :: (.pred (fun v W => W.ownsRow ws 36 1 v L Y) (fun v a b h ho => HRO.out v a b h.but ho)) :: (.pred (fun v W => ∃ u, v = .agg #[.int .i64 (i : Int), u] ∧ W.ownsRow ws 36 1 u L Y) (fun v a b h ho => ho.imp fun u hu => ⟨hu.1, HRO.out u a b h.but hu.2⟩)) :: (.pred (fun v W => ∃ u g, v = .slice (some ⟨g, 0, none⟩) 1 1 ∧ ws ≤ g ∧ W.heap[g]? = some (.cells (flC (i, u)).toArray 116) ∧ W.ownsRow ws 36 1 u L Y) (fun v a b h ho => by obtain ⟨u, g, e, hg, hh, hu⟩ := ho; exact ⟨u, g, e, hg, h.but.blockEq (fun hn => by have := (Hvw.out g hn).2; omega) hh, HRO.out u a b h.but hu⟩)) :: (.pred (fun v W => OwnR 116 2 i xs (fun u => flC (i, u)) (fun u W => W.ownsRow ws 36 1 u L Y) v W ∧ (v.ownBlock = Value.ownBlock (.slice a3 i k3) ∨ ∀ j, v.ownBlock = some j → ws ≤ j)) (fun v a b h ho => ⟨h.new v ho.1, ho.2⟩)) :: (.val ?vf23) :: (.any) :: []).toArray
     (noState [22])
     (fun _ _ _ _ _ _ _ _ => trivial)
     (fun _ _ => trivial)
     hmx ?chkf rfl ?grdf rfl ?stpf ?rstf
    case chkf => rfl
    case stpf =>
     refine ⟨?_, ?_, ?_, ?_, ?_, ?_, ?_, ?_, ?_, ?_, ?_, ?_, ?_, ?_, ?_, ?_, ?_, ?_, ?_, ?_, ?_, ?_, ?_, ?_, ?_, trivial⟩
     · refine stepRK (o := ⟨_, .fieldAddr 76 (.tmp 3) 3, _, _, _, _⟩) ?vf0 rfl rfl rfl (fun _ => rfl) fun ρ X hc hf hgl hX hp ho => ?_; have k3 : ρ (.tmp 3) = .pointer (some ⟨qc, 0, none⟩) := ho 3 (by decide); clear hp ho hX; go_simp; (all_goals rfl)
     · refine stepRK (o := ⟨_, .load 73 (.tmp 41), _, _, _, _⟩) ?vf1 rfl rfl rfl (fun _ => rfl) fun ρ X hc hf hgl hX hp ho => ?_; have k41 : ρ (.tmp 41) = ?vf0 := hp 0 (by decide); have cX := cXf X hX; clear hp ho hX; go_simp; (all_goals rfl)
     · refine stepOK 0 ?vf2 rfl (fun _ _ => rfl) rfl rfl (fun _ => rfl) (by decide) ?_; show (.pointer (some ⟨q, 0, none⟩) : Value) = _; rfl
     · refine stepRK (o := ⟨_, .nilCheck (.tmp 43), _, _, _, _⟩) ?vf3 rfl rfl rfl (fun _ => rfl) fun ρ X hc hf hgl hX hp ho => ?_; have k43 : ρ (.tmp 43) = ?vf2 := hp 2 (by decide); clear hp ho hX; go_simp; (all_goals rfl)
     · refine stepRK (o := ⟨_, .fieldAddr 76 (.tmp 44) 3, _, _, _, _⟩) ?vf4 rfl rfl rfl (fun _ => rfl) fun ρ X hc hf hgl hX hp ho => ?_; have k44 : ρ (.tmp 44) = ?vf3 := hp 3 (by decide); clear hp ho hX; go_simp; (all_goals rfl)
     · refine stepRK (o := ⟨_, .load 73 (.tmp 45), _, _, _, _⟩) ?vf5 rfl rfl rfl (fun _ => rfl) fun ρ X hc hf hgl hX hp ho => ?_; have k45 : ρ (.tmp 45) = ?vf4 := hp 4 (by decide); have cX := cXf X hX; clear hp ho hX; go_simp; (all_goals rfl)
     · refine stepOK 4 ?vf6 rfl (fun _ _ => rfl) rfl rfl (fun _ => rfl) (by decide) ?_; show (.int .i64 (i : Int) : Value) = _; rfl
     · refine stepRK (o := ⟨_, .indexAddr 73 (.tmp 46) (.tmp 47), _, _, _, _⟩) ?vf7 rfl rfl rfl (fun _ => rfl) fun ρ X hc hf hgl hX hp ho => ?_; have k46 : ρ (.tmp 46) = ?vf5 := hp 5 (by decide); have k47 : ρ (.tmp 47) = ?vf6 := hp 6 (by decide); clear hp ho hX; go_simp; (all_goals try go_bits); (all_goals try simp only [IntWalk.iteOmega]); (all_goals try go_bits); (all_goals rfl)
     · refine stepRK (o := ⟨_, .fieldAddr 116 (.tmp 48) 0, _, _, _, _⟩) ?vf8 rfl rfl rfl (fun _ => rfl) fun ρ X hc hf hgl hX hp ho => ?_; have k48 : ρ (.tmp 48) = ?vf7 := hp 7 (by decide); clear hp ho hX; go_simp; (all_goals rfl)
     · refine stepRK (o := ⟨_, .load 3 (.tmp 49), _, _, _, _⟩) ?vf9 rfl rfl rfl (fun _ => rfl) fun ρ X hc hf hgl hX hp ho => ?_; have k49 : ρ (.tmp 49) = ?vf8 := hp 8 (by decide); have cX := cXf X hX; clear hp ho hX; go_simp; (all_goals rfl)
     · refine step_introK rfl rfl fun ρ X hc hf hgl hX hp ho hu => ?_
       change StepOk _ ⟨_, .buildSlice 114 0 #[], _, _, _, _⟩ _ _ _
       refine stepK_plain (i := 10) rfl ?_
       clear hu
       clear hp ho
       refine StepOk.of_run (v := .slice (some ⟨X.heap.size, 0, none⟩) 0 0) (w' := X.alloc (.cells #[] 36)) ?_ ⟨⟨_, rfl, by have := hX.but.size; have := Hws.out; omega, lit_own X _ _⟩, Grows.alloc' _ _⟩
       simp [go_sem, execOp, hc]
     · refine stepOK 0 ?vf11 rfl (fun _ _ => rfl) rfl rfl (fun _ => rfl) (by decide) ?_; show (.pointer (some ⟨q, 0, none⟩) : Value) = _; rfl
     · refine stepRK (o := ⟨_, .nilCheck (.tmp 52), _, _, _, _⟩) ?vf12 rfl rfl rfl (fun _ => rfl) fun ρ X hc hf hgl hX hp ho => ?_; have k52 : ρ (.tmp 52) = ?vf11 := hp 11 (by decide); clear hp ho hX; go_simp; (all_goals rfl)
     · refine stepRK (o := ⟨_, .fieldAddr 76 (.tmp 53) 3, _, _, _, _⟩) ?vf13 rfl rfl rfl (fun _ => rfl) fun ρ X hc hf hgl hX hp ho => ?_; have k53 : ρ (.tmp 53) = ?vf12 := hp 12 (by decide); clear hp ho hX; go_simp; (all_goals rfl)
     · refine stepRK (o := ⟨_, .load 73 (.tmp 54), _, _, _, _⟩) ?vf14 rfl rfl rfl (fun _ => rfl) fun ρ X hc hf hgl hX hp ho => ?_; have k54 : ρ (.tmp 54) = ?vf13 := hp 13 (by decide); have cX := cXf X hX; clear hp ho hX; go_simp; (all_goals rfl)
     · refine stepOK 4 ?vf15 rfl (fun _ _ => rfl) rfl rfl (fun _ => rfl) (by decide) ?_; show (.int .i64 (i : Int) : Value) = _; rfl
     · refine stepRK (o := ⟨_, .indexAddr 73 (.tmp 55) (.tmp 56), _, _, _, _⟩) ?vf16 rfl rfl rfl (fun _ => rfl) fun ρ X hc hf hgl hX hp ho => ?_; have k55 : ρ (.tmp 55) = ?vf14 := hp 14 (by decide); have k56 : ρ (.tmp 56) = ?vf15 := hp 15 (by decide); clear hp ho hX; go_simp; (all_goals try go_bits); (all_goals try simp only [IntWalk.iteOmega]); (all_goals try go_bits); (all_goals rfl)
     · refine stepRK (o := ⟨_, .fieldAddr 116 (.tmp 57) 1, _, _, _, _⟩) ?vf17 rfl rfl rfl (fun _ => rfl) fun ρ X hc hf hgl hX hp ho => ?_; have k57 : ρ (.tmp 57) = ?vf16 := hp 16 (by decide); clear hp ho hX; go_simp; (all_goals rfl)
     · refine stepRK (o := ⟨_, .load 114 (.tmp 58), _, _, _, _⟩) ?vf18 rfl rfl rfl (fun _ => rfl) fun ρ X hc hf hgl hX hp ho => ?_; have k58 : ρ (.tmp 58) = ?vf17 := hp 17 (by decide); have cX := cXf X hX; clear hp ho hX; go_simp; (all_goals rfl)
     · refine step_introK rfl rfl fun ρ X hc hf hgl hX hp ho hu => ?_
       change StepOk _ ⟨_, .call { callee := .builtin .append, args := #[.tmp 51, .tmp 59], argTypes := #[114, 114] }, _, _, _, _⟩ _ _ _
       have k51 := hp 10 (by decide)
       have k59 : ρ (.tmp 59) = ?vf18 := hp 18 (by decide)
       refine stepK_plain (i := 19) rfl ?_
       clear hu
       clear hp ho
       obtain ⟨g51, e51, hg51, h51⟩ := k51
       rw [e51] at h51
       have hSX : X.ownsRow 0 36 1 (.slice af2 L cf) L Y := own_but HoS.out hX.but (fun j hj hn => by have h1 := HoSl.out j hj; have h2 := (Hvw.out j hn).1; omega)
       obtain ⟨v', W', hr, ho', hg', hat, _⟩ := run_append_z (P := Tryz.prog) X 114 114 36 iB zB 1 24 Tryz.underlying114 hiB hzB hsB hbB hzsB (by decide) g51 h51 _ L Y hSX HY1.out (by have := HLb.out; unfold maxLen; omega) (by have := HLb.out; omega)
       refine StepOk.of_run (v := v') (w' := W') ?_ ⟨own_up ho' (fun j hj => by rcases hat with h | h <;> rw [h] at hj <;> have e' := Option.some.inj hj <;> have := hX.but.size <;> have := Hws.out <;> omega), hg'⟩
       simp only [execOp, resolve, invoke, builtin, Sem.run_bind, Sem.run_pure, Result.andThen_ok, List.map_toArray, List.map_cons, List.map_nil, e51, k59, hr]
     · refine step_introK rfl rfl fun ρ X hc hf hgl hX hp ho hu => ?_
       change StepOk _ ⟨_, .build 116 #[(0, .tmp 50), (1, .tmp 60)], _, _, _, _⟩ _ _ _
       have k50 : ρ (.tmp 50) = ?vf9 := hp 9 (by decide)
       have k60 := hp 19 (by decide)
       refine stepK_plain (i := 20) rfl ?_
       clear hu
       clear hp ho
       obtain ⟨au, cu, eu⟩ := own_form (show X.ownsRow ws 36 1 (ρ (.tmp 60)) L Y from k60)
       refine StepOk.of_run (v := .agg #[.int .i64 (i : Int), ρ (.tmp 60)]) (w' := X) ?_ ⟨⟨_, rfl, k60⟩, Below.refl _ _⟩
       simp [go_sem, execOp, hc, k50, eu]
     · refine step_introK rfl rfl fun ρ X hc hf hgl hX hp ho hu => ?_
       change StepOk _ ⟨_, .buildSlice 73 1 #[(0, .tmp 61)], _, _, _, _⟩ _ _ _
       have k61 := hp 20 (by decide)
       refine stepK_plain (i := 21) rfl ?_
       clear hu
       clear hp ho
       obtain ⟨u, e61, hu⟩ := k61
       obtain ⟨au, cu, rfl⟩ := own_form hu
       refine StepOk.of_run (v := .slice (some ⟨X.heap.size, 0, none⟩) 1 1) (w' := X.alloc (.cells (flC (i, .slice au L cu)).toArray 116)) ?_ ⟨⟨_, _, rfl, by have := hX.but.size; have := Hws.out; omega, heap_alloc_new X _, own_grows hu (Grows.alloc' _ _)⟩, Grows.alloc' _ _⟩
       simp [go_sem, execOp, hc, e61, flC]
     · refine step_introK rfl rfl fun ρ X hc hf hgl hX hp ho hu => ?_
       change StepOk _ ⟨_, .call { callee := .builtin .append, args := #[.tmp 42, .tmp 62], argTypes := #[73, 73] }, _, _, _, _⟩ _ _ _
       have k42 : ρ (.tmp 42) = ?vf1 := hp 1 (by decide)
       have k62 := hp 21 (by decide)
       clear hu
       clear hp ho
       refine stepK_made rfl ?_
       obtain ⟨u, g18, e18, hg18, hh18, hu18⟩ := k62
       obtain ⟨au, cu, rfl⟩ := own_form hu18
       have hoX := hX.old _ Hown.out
       obtain ⟨v', W', hr, hnew, hat, hE⟩ := run_append_r (P := Tryz.prog) (O := (fun k => Value.ownBlock (.slice a3 i k3) = some k)) (e := 116) (k := 2) (n := i) (xs := xs) (rc := (fun u => flC (i, u))) (R := (fun u W => W.ownsRow ws 36 1 u L Y)) HRO.out X 73 73 iF zF 32 Tryz.underlying73 hiF hzF hsF hbF hzsF (by omega) _ hoX (fun j hj => hj) ⟨g18, 0, none⟩ 1 (.slice au L cu) rfl (fun j u hu => by rw [Addr.add_lit, Nat.zero_add, cell_of_row X g18 j _ _ _ hh18]; simpa using hu) (by intro u hu; simp [flC, nv] at hu; rcases hu with rfl | rfl <;> rfl) hu18 (by have := Hi6.out; unfold maxLen; omega) (by have := Hi6.out; omega)
       refine StepOk.of_run (v := v') (w' := W') ?_ ⟨⟨hnew, ?_⟩, hE, fun s hs => by simp [noState] at hs⟩
       · simp only [execOp, resolve, invoke, builtin, Sem.run_bind, Sem.run_pure, Result.andThen_ok, List.map_toArray, List.map_cons, List.map_nil, k42, e18, hr]
       · rcases hat with h | h
         · exact .inl h
         · right; intro j hj; rw [h] at hj; have := Option.some.inj hj; have := hX.but.size; have := Hws.out; omega
     · refine stepRK (o := ⟨_, .fieldAddr 76 (.tmp 3) 3, _, _, _, _⟩) ?vf23 rfl rfl rfl (fun _ => rfl) fun ρ X hc hf hgl hX hp ho => ?_; have k3 : ρ (.tmp 3) = .pointer (some ⟨qc, 0, none⟩) := ho 3 (by decide); clear hp ho hX; go_simp; (all_goals rfl)
     · exact last_intro rfl
    case grdf => rfl
    case rstf =>
     intro a0 X hb
     obtain ⟨x51, hx51⟩ : ∃ x, a0.tmps.getD 51 undef = x := ⟨_, rfl⟩
     have p51 := hb.done' 10 51 rfl rfl
     rw [hx51] at p51
     obtain ⟨x60, hx60⟩ : ∃ x, a0.tmps.getD 60 undef = x := ⟨_, rfl⟩
     have p60 := hb.done' 19 60 rfl rfl
     rw [hx60] at p60
     obtain ⟨x61, hx61⟩ : ∃ x, a0.tmps.getD 61 undef = x := ⟨_, rfl⟩
     have p61 := hb.done' 20 61 rfl rfl
     rw [hx61] at p61
     obtain ⟨x62, hx62⟩ : ∃ x, a0.tmps.getD 62 undef = x := ⟨_, rfl⟩
     have p62 := hb.done' 21 62 rfl rfl
     rw [hx62] at p62
     obtain ⟨x63, hx63⟩ : ∃ x, a0.tmps.getD 63 undef = x := ⟨_, rfl⟩
     have p63 := hb.done' 22 63 rfl rfl
     rw [hx63] at p63
     have hfr := hb.frame ((41, ?vf0) :: (42, ?vf1) :: (43, ?vf2) :: (44, ?vf3) :: (45, ?vf4) :: (46, ?vf5) :: (47, ?vf6) :: (48, ?vf7) :: (49, ?vf8) :: (50, ?vf9) :: (51, x51) :: (52, ?vf11) :: (53, ?vf12) :: (54, ?vf13) :: (55, ?vf14) :: (56, ?vf15) :: (57, ?vf16) :: (58, ?vf17) :: (59, ?vf18) :: (60, x60) :: (61, x61) :: (62, x62) :: (63, x63) :: (64, ?vf23) :: []) rfl ⟨hb.done' 0 41 rfl rfl, hb.done' 1 42 rfl rfl, hb.done' 2 43 rfl rfl, hb.done' 3 44 rfl rfl, hb.done' 4 45 rfl rfl, hb.done' 5 46 rfl rfl, hb.done' 6 47 rfl rfl, hb.done' 7 48 rfl rfl, hb.done' 8 49 rfl rfl, hb.done' 9 50 rfl rfl, hx51, hb.done' 11 52 rfl rfl, hb.done' 12 53 rfl rfl, hb.done' 13 54 rfl rfl, hb.done' 14 55 rfl rfl, hb.done' 15 56 rfl rfl, hb.done' 16 57 rfl rfl, hb.done' 17 58 rfl rfl, hb.done' 18 59 rfl rfl, hx60, hx61, hx62, hx63, hb.done' 23 64 rfl rfl, trivial⟩
     simp only [updL, ↓reduceIte, Nat.reduceEqDiff, Nat.reduceAdd, Nat.zero_add] at hfr
     have HX := Lib.hid hb.ext
     clear hb cXf
     subst hfr
     change StepOk _ { dst := _, op := Op.store 73 (Operand.tmp 64) (Operand.tmp 63), type := _, pos := _, after := _, guard := _ } _ _ _
     have hrX := HX.out.but.blockEq hnc HRr.out
     have cX := HX.out.but.cell (p := ⟨qc, 3, none⟩) hnc cq3
     have fX : X.frozen? ⟨qc, 3, none⟩ = false := frozen_of_row X qc 3 _ _ hrX
     obtain ⟨⟨u, po, pu⟩, pa⟩ := (show OwnR 116 2 i xs (fun u => flC (i, u)) (fun u W => W.ownsRow ws 36 1 u L Y) x63 X ∧ (x63.ownBlock = Value.ownBlock (.slice a3 i k3) ∨ ∀ j, x63.ownBlock = some j → ws ≤ j) from p63)
     obtain ⟨a6, c6, rfl⟩ := own_form po
     have hS1 := HSr.out.step HGr.out.size HX.out.but (by rw [Hxs.out]; exact po) (by rw [Hws.out]; exact pa) (by rw [Hws.out, HL.out, HY.out]; exact pu)
     have HS2 := Lib.hid (hS1.kept (W1 := X.setCell ⟨qc, 3, none⟩ (.slice a6 (i + 1) c6)) (But.setCell (But.refl' _ _) _ _ rfl) hrX)
     have hkF : ∀ k, Value.ownBlock (.slice a3 i k3) = some k → kindAt wr k = some (some 116) := fun k hk => kind_own Hown.out hk
     have HO2 : Hid (CpO w.heap.size (X.setCell ⟨qc, 3, none⟩ (.slice a6 (i + 1) c6)) s x (.slice a1 nd k1) (.slice a2 nc k2) (.slice a4 nw k4)) := HOr.out.but (O := fun k => k = qc ∨ Value.ownBlock (.slice a3 i k3) = some k) (But.setCell (HX.out.but.mono fun k hk => .inr hk) _ _ (.inl rfl)) (fun k hk => hk.elim (fun e => .inr (by rw [e]; exact kind_cells HRr.out)) (fun e => .inl (hkF k e)))
     have HG2' : Hid (Grows w (X.setCell ⟨qc, 3, none⟩ (.slice a6 (i + 1) c6))) := ((But.ofGrows HGr.out).trans' (But.setCell (O := fun k => k = qc ∨ Value.ownBlock (.slice a3 i k3) = some k) (HX.out.but.mono fun k hk => .inr hk) ⟨qc, 3, none⟩ _ (.inl rfl))).below (Nat.le_refl _) (fun k hk => hk.elim (fun e => by have := Hqc.out; omega) (fun e => (Hvw.out k e).1))
     have HR2' : Hid ((X.setCell ⟨qc, 3, none⟩ (.slice a6 (i + 1) c6)).heap[qc]? = some (.cells (cpRow s (.slice a1 nd k1) (.slice a2 nc k2) (.slice a6 (i + 1) c6) (.slice a4 nw k4)) 76 (0, 0))) := row_setCell hrX 3 _
     clear hS1 hkF po pu pa p63 hrX HX
     unfold StepOk
     simp [go_sem, execOp, cX, fX]
     go_wp2
     go_roundw
     case rel => exact ⟨i + 1, _, _, Hlt.out, by simp, HG2'.out, HO2.out, HS2.out, HR2'.out⟩
     case measure => have := Hlt.out; simp [intOf]; omega
  · obtain rfl : i = nf := by omega
    have hltI : ¬ (i : Int) < (i : Int) := by omega
    have hcf : HRd.out.cell 3 x.vf rfl = HRd.out.cell 3 x.vf rfl := rfl
    obtain ⟨af, kf, ef⟩ := own_form HRd.out.fls
    have c3 := HRd.out.cell 3 x.vf rfl
    rw [ef, Hnf.out] at c3
    have HF := Lib.hid (H.out.copied HGr.out (Nat.le_of_eq Hqc.out) HRr.out HOr.out (by have := HSr.out; rw [← Hnf.out] at this; exact this))
    clear hcf ef
    go_wp2
    go_ret
    obtain ⟨xc, h1, h2, h3⟩ := HF.out
    first | exact ⟨qc, xc, rfl, h1, HGr.out, h2, h3⟩ | exact ⟨qc, rfl, xc, h1, HGr.out, h2, h3⟩
end Go.Proofs.YtoppcpiheaedlaaGreatDoor
