import Derived.Test.YtoppcpiheaedlaaGreatDoorMB6
section
/-
  The document's own disk: a sector that is written.
-/
namespace Go.Proofs.YtoppcpiheaedlaaGreatDoor
open Go.RowKit
set_option linter.unusedVariables false
set_option linter.unusedSimpArgs false
attribute [local go_sem] sv nv
theorem run_app_z {P : Program} (B : Nat) (w : World) (t ty e : TypeId) (i : TypeInfo) (ht : P.underlying t = some (.slice e)) (hi : P.info? e = some i) (hz : i.zero = some (.int .u8 0))
 (hs : i.size = 1) (hb : i.bytes = 1) (hB : B ≤ w.heap.size) (g : Nat) (x : Value) (l : List UInt8) (hx : Byt w x l) (h0 : 0 < l.length) (hl : l.length ≤ 1000000) :
 ∃ v' w', (Builtin.append_ #[t, t] ty #[.slice (some ⟨g, 0, none⟩) 0 0, x]).run P w = .ok v' w' ∧ Own e B w' v' l ∧ Grows w w' := by
 obtain ⟨a, cap, rfl, h1, h2, h3, h4⟩ := hx
 rcases h4 with h4 | ⟨b, off, rfl, hc⟩
 · rw [h4] at h0; simp at h0
 · have hr := run_append_grow (P := P) w t ty e i (.int .u8 0) ht hi hz ⟨g, 0, none⟩ 0 0 [] (by simp) (by simp) ⟨b, off, none⟩ l.length cap (l.map bv) (by rw [List.length_map, hs, Nat.mul_one]) (fun j v hj => by
    have hjl : j < l.length := by have := (List.getElem?_eq_some_iff.1 hj).1; simpa using this
    rw [Addr.add_lit, hc j hjl]
    rw [← hj, List.getElem?_map, List.getD, List.getElem?_eq_getElem hjl]
    rfl) (by omega) (by omega) (by rw [hb]; exact growslice_fits (by omega) (by omega))
   simp only [Nat.zero_add] at hr
   have hge := grownCap_ge w l.length 0 e
   have hle := grownCap_le_maxLen w l.length 0 e (by unfold maxLen; omega)
   refine ⟨_, _, hr, ⟨by simp, .inr ⟨w.heap.size, _, _, rfl, hB, heap_alloc_new w.drew _, hge, hle, ?_, ?_⟩⟩, (Below.refl _ _).drew.alloc (Nat.le_refl _) _⟩
   · simp only [Array.size_append, List.size_toArray, size_zeroCells, List.length_nil, Nat.zero_add, List.length_map]
     show l.length + (grownCap w l.length 0 e - l.length) * 1 = _
     omega
   · simp only [Array.toList_append, List.nil_append]
     rw [Nat.mul_one]
     have : (l.map bv).length = l.length := by simp
     rw [← this]
     exact List.take_left
theorem own_base {W : World} {B e k n : Nat} {v : Value} {xs : List Value} (h : W.ownsRow B e k v n xs) (j : Nat) (hj : v.ownBlock = some j) : B ≤ j := by
 rcases h.2 with ⟨rfl, _⟩ | ⟨g, cap, cur, rfl, hb, _⟩
 · simp [Value.ownBlock] at hj
 · simp [Value.ownBlock] at hj; omega
theorem RD.addWr {W W1 : World} {q : Nat} {s : Ds} {x : RDv} (h : RD W q s x) (c : Wr) (v' u : Value) (hb : But (fun k => x.vw.ownBlock = some k) W W1)
 (ho : W1.ownsRow 0 168 3 v' (s.wrs.length + 1) ((s.wrs.zip x.ps).flatMap wrC ++ wrC (c, u))) (hun : Own 5 W.heap.size W1 u c.p) (hat : v'.ownBlock = x.vw.ownBlock ∨ ∀ k, v'.ownBlock = some k → W.heap.size ≤ k)
 (hc : c.id < s.fls.length ∧ c.n < (secs s c.id).length ∧ c.p.length = 64) (hsm : s.wrs.length < 1000000) :
 RD (W1.setCell ⟨q, 4, none⟩ v') q { s with wrs := s.wrs ++ [c] } { x with vw := v', ps := x.ps ++ [u] } ∧ Turn q x { x with vw := v', ps := x.ps ++ [u] } W (W1.setCell ⟨q, 4, none⟩ v') := by
 have hB : But (fun k => k = q ∨ x.vw.ownBlock = some k) W (W1.setCell ⟨q, 4, none⟩ v') := But.setCell (hb.mono fun k hk => .inr hk) _ _ (.inl rfl)
 have hqn : x.vw.ownBlock ≠ some q := own_ne h.wrs h.row (by decide)
 have hrow1 := hb.blockEq hqn h.row
 have hql : q < W.heap.size := h.lt (.inl rfl)
 have hm0 : ∀ k, mutB q { x with vw := v', ps := x.ps ++ [u] } k → mutB q x k ∨ v'.ownBlock = some k := by
  intro k hk
  rcases hk with hk | hk | hk | hk | hk
  · exact .inl (.inl hk)
  · exact .inl (.inr (.inl hk))
  · exact .inl (.inr (.inr (.inl hk)))
  · exact .inr hk
  · exact .inl (.inr (.inr (.inr (.inr hk))))
 have hm : ∀ k, mutB q { x with vw := v', ps := x.ps ++ [u] } k → mutB q x k ∨ W.heap.size ≤ k := by
  intro k hk
  rcases hm0 k hk with hk | hk
  · exact .inl hk
  · rcases hat with h' | h'
    · exact .inl (.inr (.inr (.inr (.inl (h'.symm.trans hk)))))
    · exact .inr (h' k hk)
 have hu : ∀ k, useB q { x with vw := v', ps := x.ps ++ [u] } k → useB q x k ∨ W.heap.size ≤ k := by
  intro k hk
  rcases hk with hk | hk | ⟨v, hv, hk⟩ | hk
  · exact (hm k hk).imp .inl id
  · exact .inl (.inr (.inl hk))
  · rcases List.mem_append.1 hv with h' | h'
    · exact .inl (.inr (.inr (.inl ⟨v, h', hk⟩)))
    · rw [List.mem_singleton.1 h'] at hk; exact .inr (own_base hun k hk)
  · exact .inl (.inr (.inr (.inr hk)))
 have keep : ∀ {B e k n : Nat} {v : Value} {xs : List Value}, W.ownsRow B e k v n xs → e ≠ 76 → e ≠ 168 → (W1.setCell ⟨q, 4, none⟩ v').ownsRow B e k v n xs := fun hv h1 h2 =>
  own_but hv hB fun j hj hn => by
   rcases hn with rfl | hn
   · exact own_ne hv h.row (fun e' => h1 e'.symm) hj
   · exact own_ne2 hv h.wrs h2 j hj hn
 have keepB : ∀ {v : Value} {l : List UInt8}, Byt W v l → 0 < l.length → (∀ k, v.ownBlock = some k → ¬ mutB q x k) → Byt (W1.setCell ⟨q, 4, none⟩ v') v l := fun hv h0 hn =>
  byt_own hv fun k hk => hB.block k (byt_lt hv h0 k hk) fun hx => by
    rcases hx with rfl | hx
    · exact hn _ hk (.inl rfl)
    · exact hn _ hk (.inr (.inr (.inr (.inl hx))))
 have hup : (x.ps ++ [u]).getD s.wrs.length undef = u := by rw [← h.psl]; exact getD_last _ _ _
 have hps : ∀ j, j < s.wrs.length → (x.ps ++ [u]).getD j undef = x.ps.getD j undef := fun j hj => getD_left _ _ _ _ (by rw [h.psl]; exact hj)
 refine ⟨⟨?_, keep h.dir (by decide) (by decide), keep h.chs (by decide) (by decide), h.ssl, keep h.fls (by decide) (by decide), ?_, ?_, h.spl, fun i hi => keep (h.sec i hi) (by decide) (by decide), ?_, ?_, ?_, h.dis, ⟨h.wf.dir, h.wf.chs, ?_, h.wf.sec, h.wf.room⟩, h.aft, ?_⟩, hm, hu, ?_⟩
 · exact row_setCell hrow1 4 v'
 · show (x.ps ++ [_]).length = (s.wrs ++ [_]).length
   rw [List.length_append, List.length_append, h.psl]; rfl
 · show (W1.setCell ⟨q, 4, none⟩ v').ownsRow 0 _ 3 v' (s.wrs ++ [c]).length (((s.wrs ++ [c]).zip (x.ps ++ [u])).flatMap wrC)
   rw [List.length_append, List.zip_append h.psl.symm, List.flatMap_append]
   have := own_but ho (But.setCell (But.refl' (fun k => k = q) _) ⟨q, 4, none⟩ v' rfl) fun j hj hn => own_ne ho hrow1 (by decide) (by rw [hj, hn])
   simpa using this
 · intro i j hi hj
   refine keepB (h.byt i j hi hj) ?_ (h.out.2 (x.sp.getD i []) (getD_mem _ _ _ (by rw [h.spl]; exact hi)) _ (getD_mem _ _ _ (by have := (h.sec i hi).1; have : j < (secs s i).length := hj; omega)))
   have h64 : ((secs s i).getD j []).length = 64 := (h.wf.sec _ (getD_mem s.fls i [] hi)).2 _ (getD_mem _ _ _ hj)
   show 0 < ((secs s i).getD j []).length
   omega
 · intro j hj
   show Byt _ ((x.ps ++ [u]).getD j undef) ((s.wrs ++ [c])[j]'hj).p
   rcases Nat.lt_or_ge j s.wrs.length with h' | h'
   · rw [hps j h', List.getElem_append_left h']
     refine keepB (h.pend j h') ?_ (h.out.1 _ (getD_mem x.ps j undef (by rw [h.psl]; exact h')))
     have h64 : ((s.wrs[j]'h').p).length = 64 := (h.wf.wrs _ (List.getElem_mem h')).2.2
     omega
   · have hj' : j < (s.wrs ++ [c]).length := hj
     rw [List.length_append, List.length_singleton] at hj'
     obtain rfl : j = s.wrs.length := by omega
     rw [hup, List.getElem_append_right (Nat.le_refl _)]
     have hb' : Own 5 W.heap.size (W1.setCell ⟨q, 4, none⟩ v') u c.p := own_but hun (But.setCell (But.refl' (fun k => k = q) _) ⟨q, 4, none⟩ v' rfl) fun j hj hn => by have := own_base hun j hj; omega
     simpa using hb'.byt
 · refine ⟨fun v hv k hk hmm => ?_, fun l hl v hv k hk hmm => ?_⟩
   · rcases List.mem_append.1 hv with hv | hv
     · rcases hm k hmm with h' | h'
       · exact h.out.1 v hv k hk h'
       · have := h.ltU (k := k) (.inr (.inr (.inl ⟨v, hv, hk⟩))); omega
     · rw [List.mem_singleton.1 hv] at hk
       rcases hm0 k hmm with h' | h'
       · have := h.lt h'; have := own_base hun k hk; omega
       · exact own_ne2 ho hun (by decide) k h' hk
   · rcases hm k hmm with h' | h'
     · exact h.out.2 l hl v hv k hk h'
     · have := h.ltU (k := k) (.inr (.inr (.inr ⟨l, hl, v, hv, hk⟩))); omega
 · intro w hw
   rcases List.mem_append.1 hw with h' | h'
   · exact h.wf.wrs w h'
   · rw [List.mem_singleton.1 h']; exact hc
 · have := h.small
   refine ⟨this.1, this.2.1, this.2.2.1, ?_⟩
   show (s.wrs ++ [c]).length ≤ _
   rw [List.length_append]
   exact hsm
 · refine hB.mono fun k hk => ?_
   rcases hk with hk | hk
   · exact .inl hk
   · exact .inr (.inr (.inr (.inl hk)))
theorem own_drew {W : World} {B e k n : Nat} {v : Value} {xs : List Value} (h : W.ownsRow B e k v n xs) : W.drew.ownsRow B e k v n xs :=
 own_but (O := fun _ => False) h ⟨rfl, rfl, rfl, Nat.le_refl _, fun _ _ _ => rfl⟩ (fun _ _ h => h)
theorem infoWrD : (Tryz.prog.info? 168).map (fun i => (i.zero, i.size, i.bytes)) = some (some (.agg #[.int .i64 0, .int .i64 0, .slice none 0 0]), 3, 40) := by kernel_rfl
theorem infoWrD_parts : ∃ i z, Tryz.prog.info? 168 = some i ∧ i.zero = some z ∧ i.size = 3 ∧ i.bytes = 40 ∧ z.cells.size = 3 := by
 have h := infoWrD
 cases hi : Tryz.prog.info? 168 with
 | none => rw [hi] at h; simp at h
 | some i =>
  rw [hi] at h
  simp only [Option.map_some, Option.some.injEq, Prod.mk.injEq] at h
  exact ⟨i, _, rfl, h.1, h.2.1, h.2.2, rfl⟩
set_option maxRecDepth 100000 in
set_option maxHeartbeats 4000000 in
theorem refWrite (q : Nat) (s : Ds) (x : RDv) (nm : Nm) (n : Int) (pv : Value) (p : List UInt8) (w : World) (h : RD w q s x) (hp : Byt w pv p) (hpo : Outside (mutB q x) pv) (hsm : s.wrs.length < 1000000) :
 Calls Tryz.prog 44 #[.pointer (some ⟨q, 0, none⟩), sv nm, .int .i64 n, pv] w fun e w' => e = .returned (.int .i64 (writeF s nm n p).1) ∧ ∃ x', RD w' q (writeF s nm n p).2 x' ∧ Turn q x x' w w' := by
 have hmx : Tryz.prog.follows .mixedOrders = true := by kernel_rfl
 obtain ⟨i0, z0, hi, hz, hs2, hb2, hzs⟩ := infoWrD_parts
 obtain ⟨i1, hi1, hz1, hz2, hz3⟩ := info_parts info5
 have HF := Lib.hid (refFails q s x w h)
 have Hwr := Lib.hid (show (failsF s).2.wrs.length < 1000000 by rw [(failsF_lens s).2.2.1]; exact hsm)
 have HP := Lib.hid hp
 obtain ⟨ap, cp, rfl⟩ := hp.slice
 have HPo := Lib.hid hpo
 unfold sv
 obtain ⟨fc, hfc⟩ : ∃ y, (failsF s).1 = y := ⟨_, rfl⟩
 obtain ⟨s1, hs1⟩ : ∃ y, (failsF s).2 = y := ⟨_, rfl⟩
 by_cases hf : fc = 0
 · have Hg : Hid (writeF s nm n p = match idF s1 nm with
    | none => (7, s1)
    | some id => if n < 0 ∨ ((secs s1 id).length : Int) ≤ n then (43, s1) else if p.length ≠ 64 then (2, s1) else (0, { s1 with wrs := s1.wrs ++ [⟨id, n.toNat, p⟩] })) := by
    show _ = _
    unfold writeF
    rw [guardF_yes (by rw [hfc, hf]), hs1]
    cases idF s1 nm <;> rfl
   rw [hfc, hs1] at HF
   rw [hs1] at Hwr
   clear h hfc hs1 hsm hp hpo
   subst hf
   go_enter Tryz.func44, Tryz.ntmps44
   go_wp2_with fail
   refine HF.out.mono ?_
   rintro e w1 ⟨rfl, hR, hB⟩
   have HR := Lib.hid hR
   have HT := Lib.hid (Turn.ofBut (x := x) hB)
   have HP1 : Hid (Byt w1 (.slice ap p.length cp) p) := HP.out.but hB (fun b off sp n c e hn hb => HPo.out b off sp n c e hn (.inl hb))
   have HI := Lib.hid (refId q s1 x nm w1 hR)
   unfold sv at HI
   clear hR hB HF
   cases hid : idF s1 nm with
   | none =>
    have Hr : Hid (writeF s nm n p = (7, s1)) := by show _ = _; rw [Hg.out, hid]
    have hir : idR s1 nm = .tuple #[.int .i64 0, .bool false] := by unfold idR; rw [hid]; rfl
    rw [hir] at HI
    clear hid hir
    go_wp2_with fail
    refine HI.out.mono ?_
    rintro e w2 ⟨rfl, hG⟩
    have HG := Lib.hid hG
    clear hG
    go_wp2
    go_ret
    exact ⟨by rw [Hr.out]; rfl, x, by rw [Hr.out]; exact HR.out.grows HG.out, HT.out.trans (Turn.ofGrows HG.out)⟩
   | some id =>
    have hir : idR s1 nm = .tuple #[.int .i64 (id : Int), .bool true] := by unfold idR; rw [hid]; rfl
    rw [hir] at HI
    have Hlt := Lib.hid (HR.out.wf.id hid)
    have Hg2 : Hid (writeF s nm n p = if n < 0 ∨ ((secs s1 id).length : Int) ≤ n then (43, s1) else if p.length ≠ 64 then (2, s1) else (0, { s1 with wrs := s1.wrs ++ [⟨id, n.toNat, p⟩] })) := by show _ = _; rw [Hg.out, hid]
    clear hid hir Hg
    go_wp2_with fail
    refine HI.out.mono ?_
    rintro e w2 ⟨rfl, hG⟩
    have HT2 := Lib.hid (HT.out.trans (Turn.ofGrows hG))
    have H1 := Lib.hid (HR.out.grows hG)
    have HP2 : Hid (Byt w2 (.slice ap p.length cp) p) := HP1.out.grows hG
    obtain ⟨L, HL⟩ : ∃ n, Hid ((secs s1 id).length = n) := ⟨_, rfl⟩
    obtain ⟨nf, Hnf⟩ : ∃ n, Hid (s1.fls.length = n) := ⟨_, rfl⟩
    obtain ⟨gf, kf, af, cf, -, -, c3, c5⟩ := H1.out.file id Hlt.out
    rw [HL.out] at c5
    rw [Hnf.out] at c3
    have hbi : ¬ ((nf : Int) ≤ (id : Int)) := by have := Hlt.out; have := Hnf.out; omega
    have hidn : (id : Int) < (nf : Int) := by omega
    clear hG HI
    by_cases hneg : n < 0
    · have Hr : Hid (writeF s nm n p = (43, s1)) := by show _ = _; rw [Hg2.out]; exact if_pos (.inl hneg)
      go_wp2
      refine specs_region
       #[[], [0], [0, 1], [0, 1, 2], [0, 1, 2], [0, 1, 2, 4], [0, 1, 2, 4, 5], [0, 1, 2, 4, 5, 6], [0, 1, 2], [0, 1, 2], [0, 1, 2, 8, 9], [0, 1, 2, 4, 5, 6, 7, 8, 9, 10], [0, 1, 2, 4, 5, 6, 7, 8, 9, 10, 11], [0, 1, 2, 4, 5, 6, 7, 8, 9, 10, 11, 12], [0, 1, 2, 4, 5, 6, 7, 8, 9, 10, 11, 12, 13], [0, 1, 2, 3, 4, 5, 6, 7, 8, 9, 10, 11, 12, 13, 14], [0, 1, 2, 3, 4, 5, 6, 7, 8, 9, 10, 11, 12, 13, 14, 15], [0, 1, 2, 3, 4, 5, 6, 7, 8, 9, 10, 11, 12, 13, 14, 15, 16]] #[[2], [], [], [2], [0], [], [], [], [0], [10], [], [], [], [], [], [], [], []] #[true, true, true, false, false, false, false, false, false, false, false, false, false, false, false, false, true, true]
       ((.val ?va0) :: (.val ?va1) :: (.val ?va2) :: (.val undef) :: (.val undef) :: (.val undef) :: (.val undef) :: (.val undef) :: (.val undef) :: (.val undef) :: (.val undef) :: (.val undef) :: (.val undef) :: (.val undef) :: (.val undef) :: (.val undef) :: (.val ?va16) :: (.val ?va17) :: []).toArray
       hmx ?chka ?grda ?stpa ?rsta
      case chka => rfl
      case stpa =>
       refine ⟨?_, ?_, ?_, ?_, ?_, ?_, ?_, ?_, ?_, ?_, ?_, ?_, ?_, ?_, ?_, ?_, ?_, ?_, trivial⟩
       · refine stepO 2 ?va0 rfl (fun _ _ => rfl) rfl (fun _ => rfl) (by decide) ?_; show (.int .i64 n : Value) = _; rfl
       · refine stepR (o := ⟨_, .binOp .lss 3 (.tmp 29) (.const (.int .i64 0)) 3, _, _, _, _⟩) ?va1 rfl rfl (fun _ => rfl) fun ρ X hc hf hgl hX hp ho => ?_; have k29 : ρ (.tmp 29) = ?va0 := hp 0 (by decide); clear hp ho hX; go_simp; (all_goals try go_bits); (all_goals try simp only [IntWalk.iteOmega]); (all_goals try go_bits); (all_goals rfl)
       · refine stepP 30 1 (?va1) ?va2 rfl (fun _ _ => rfl) rfl (fun _ => rfl) (by decide) rfl (fun _ _ h => h) ?_; rfl
       · exact step_skip rfl rfl (fun _ _ => rfl)
       · exact step_skip rfl rfl (fun _ _ => rfl)
       · exact step_skip rfl rfl (fun _ _ => rfl)
       · exact step_skip rfl rfl (fun _ _ => rfl)
       · exact step_skip rfl rfl (fun _ _ => rfl)
       · exact step_skip rfl rfl (fun _ _ => rfl)
       · exact step_skip rfl rfl (fun _ _ => rfl)
       · exact step_skip rfl rfl (fun _ _ => rfl)
       · exact step_skip rfl rfl (fun _ _ => rfl)
       · exact step_skip rfl rfl (fun _ _ => rfl)
       · exact step_skip rfl rfl (fun _ _ => rfl)
       · exact step_skip rfl rfl (fun _ _ => rfl)
       · exact step_skip rfl rfl (fun _ _ => rfl)
       · refine stepR (o := ⟨_, .pick (.tmp 31) (.const (.bool true)) (.tmp 44), _, _, _, _⟩) ?va16 rfl rfl (fun _ => rfl) fun ρ X hc hf hgl hX hp ho => ?_; have k31 : ρ (.tmp 31) = ?va2 := hp 2 (by decide); have k44 : ρ (.tmp 44) = undef := hp 15 (by decide); clear hp ho hX; go_simp; (all_goals rfl)
       · refine stepP 45 16 (?va16) ?va17 rfl (fun _ _ => rfl) rfl (fun _ => rfl) (by decide) rfl (fun _ _ h => h) ?_; rfl
      case grda => rfl
      case rsta =>
       intro a0 X hb
       have hfr := hb.frame ((28, ?va17) :: (29, ?va0) :: (30, ?va1) :: (31, ?va2) :: (32, undef) :: (33, undef) :: (34, undef) :: (35, undef) :: (36, undef) :: (37, undef) :: (38, undef) :: (39, undef) :: (40, undef) :: (41, undef) :: (42, undef) :: (43, undef) :: (44, undef) :: (45, ?va16) :: []) rfl ⟨hb.done' 17 28 rfl rfl, hb.done' 0 29 rfl rfl, hb.done' 1 30 rfl rfl, hb.done' 2 31 rfl rfl, hb.done' 3 32 rfl rfl, hb.done' 4 33 rfl rfl, hb.done' 5 34 rfl rfl, hb.done' 6 35 rfl rfl, hb.done' 7 36 rfl rfl, hb.done' 8 37 rfl rfl, hb.done' 9 38 rfl rfl, hb.done' 10 39 rfl rfl, hb.done' 11 40 rfl rfl, hb.done' 12 41 rfl rfl, hb.done' 13 42 rfl rfl, hb.done' 14 43 rfl rfl, hb.done' 15 44 rfl rfl, hb.done' 16 45 rfl rfl, trivial⟩
       simp only [updL, ↓reduceIte, Nat.reduceEqDiff, Nat.reduceAdd, Nat.zero_add] at hfr
       have HX := Lib.hid hb.ext
       clear hb
       subst hfr
       go_wp2
       go_ret
       exact ⟨by rw [Hr.out]; rfl, x, by rw [Hr.out]; exact H1.out.grows HX.out, HT2.out.trans (Turn.ofGrows HX.out)⟩
    · obtain ⟨m, rfl⟩ : ∃ m : Nat, n = m := ⟨n.toNat, by omega⟩
      by_cases hbig : L ≤ m
      · have Hr : Hid (writeF s nm (m : Int) p = (43, s1)) := by show _ = _; rw [Hg2.out]; exact if_pos (.inr (by have := HL.out; omega))
        have hge : (L : Int) ≤ (m : Int) := by omega
        clear hbig
        go_wp2
        have cXb := fun X (hX : Grows _ X) => And.intro (Grows.cell' hX c3) (Grows.cell' hX c5)
        refine specs_region
         #[[], [0], [0, 1], [0, 1, 2], [0, 1, 2], [0, 1, 2, 4], [0, 1, 2, 4, 5], [0, 1, 2, 4, 5, 6], [0, 1, 2], [0, 1, 2], [0, 1, 2, 8, 9], [0, 1, 2, 4, 5, 6, 7, 8, 9, 10], [0, 1, 2, 4, 5, 6, 7, 8, 9, 10, 11], [0, 1, 2, 4, 5, 6, 7, 8, 9, 10, 11, 12], [0, 1, 2, 4, 5, 6, 7, 8, 9, 10, 11, 12, 13], [0, 1, 2, 3, 4, 5, 6, 7, 8, 9, 10, 11, 12, 13, 14], [0, 1, 2, 3, 4, 5, 6, 7, 8, 9, 10, 11, 12, 13, 14, 15], [0, 1, 2, 3, 4, 5, 6, 7, 8, 9, 10, 11, 12, 13, 14, 15, 16]] #[[2], [], [], [2], [0], [], [], [], [0], [10], [], [], [], [], [], [], [], []] #[true, true, true, true, true, true, true, true, true, true, true, true, true, true, true, true, true, true]
         ((.val ?vb0) :: (.val ?vb1) :: (.val ?vb2) :: (.val ?vb3) :: (.val ?vb4) :: (.val ?vb5) :: (.val ?vb6) :: (.val ?vb7) :: (.val ?vb8) :: (.val ?vb9) :: (.val ?vb10) :: (.val ?vb11) :: (.val ?vb12) :: (.val ?vb13) :: (.val ?vb14) :: (.val ?vb15) :: (.val ?vb16) :: (.val ?vb17) :: []).toArray
         hmx ?chkb ?grdb ?stpb ?rstb
        case chkb => rfl
        case stpb =>
         refine ⟨?_, ?_, ?_, ?_, ?_, ?_, ?_, ?_, ?_, ?_, ?_, ?_, ?_, ?_, ?_, ?_, ?_, ?_, trivial⟩
         · refine stepO 2 ?vb0 rfl (fun _ _ => rfl) rfl (fun _ => rfl) (by decide) ?_; show (.int .i64 (m : Int) : Value) = _; rfl
         · refine stepR (o := ⟨_, .binOp .lss 3 (.tmp 29) (.const (.int .i64 0)) 3, _, _, _, _⟩) ?vb1 rfl rfl (fun _ => rfl) fun ρ X hc hf hgl hX hp ho => ?_; have k29 : ρ (.tmp 29) = ?vb0 := hp 0 (by decide); clear hp ho hX; go_simp; (all_goals try go_bits); (all_goals try simp only [IntWalk.iteOmega]); (all_goals try go_bits); (all_goals rfl)
         · refine stepP 30 1 (?vb1) ?vb2 rfl (fun _ _ => rfl) rfl (fun _ => rfl) (by decide) rfl (fun _ _ h => h) ?_; rfl
         · refine stepO 2 ?vb3 rfl (fun _ _ => rfl) rfl (fun _ => rfl) (by decide) ?_; show (.int .i64 (m : Int) : Value) = _; rfl
         · refine stepO 0 ?vb4 rfl (fun _ _ => rfl) rfl (fun _ => rfl) (by decide) ?_; show (.pointer (some ⟨q, 0, none⟩) : Value) = _; rfl
         · refine stepR (o := ⟨_, .nilCheck (.tmp 33), _, _, _, _⟩) ?vb5 rfl rfl (fun _ => rfl) fun ρ X hc hf hgl hX hp ho => ?_; have k33 : ρ (.tmp 33) = ?vb4 := hp 4 (by decide); clear hp ho hX; go_simp; (all_goals rfl)
         · refine stepR (o := ⟨_, .fieldAddr 76 (.tmp 34) 3, _, _, _, _⟩) ?vb6 rfl rfl (fun _ => rfl) fun ρ X hc hf hgl hX hp ho => ?_; have k34 : ρ (.tmp 34) = ?vb5 := hp 5 (by decide); clear hp ho hX; go_simp; (all_goals rfl)
         · refine stepR (o := ⟨_, .load 73 (.tmp 35), _, _, _, _⟩) ?vb7 rfl rfl (fun _ => rfl) fun ρ X hc hf hgl hX hp ho => ?_; have k35 : ρ (.tmp 35) = ?vb6 := hp 6 (by decide); have cX := cXb X hX; clear hp ho hX; go_simp; (all_goals rfl)
         · refine stepO 0 ?vb8 rfl (fun _ _ => rfl) rfl (fun _ => rfl) (by decide) ?_; show (.pointer (some ⟨q, 0, none⟩) : Value) = _; rfl
         · refine stepO 10 ?vb9 rfl (fun _ _ => rfl) rfl (fun _ => rfl) (by decide) ?_; show (.int .i64 (id : Int) : Value) = _; rfl
         · refine step_intro rfl rfl fun ρ X hc hf hgl hX hp ho => ?_
           change StepOk _ ⟨_, .call { callee := .value (.func 62), args := #[.tmp 37, .tmp 38], argTypes := #[30, 3] }, _, _, _, _⟩ _ _ _
           have k37 : ρ (.tmp 37) = ?vb8 := hp 8 (by decide)
           have k38 : ρ (.tmp 38) = ?vb9 := hp 9 (by decide)
           clear hp ho
           refine StepOk.of_call (f := 62) (args := #[?vb8, ?vb9]) (w' := X) ?_ ((H1.out.grows hX).at id Hlt.out) ?_
           · go_simp
             all_goals try go_bits
             all_goals try rfl
           · rintro e w'' ⟨rfl, rfl⟩; refine ⟨_, rfl, ?_, Below.refl _ _⟩; show _ = ?vb10; rfl
         · refine stepR (o := ⟨_, .indexAddr 73 (.tmp 36) (.tmp 39), _, _, _, _⟩) ?vb11 rfl rfl (fun _ => rfl) fun ρ X hc hf hgl hX hp ho => ?_; have k36 : ρ (.tmp 36) = ?vb7 := hp 7 (by decide); have k39 : ρ (.tmp 39) = ?vb10 := hp 10 (by decide); clear hp ho hX; go_simp; (all_goals try go_bits); (all_goals try simp only [IntWalk.iteOmega]); (all_goals try go_bits); (all_goals rfl)
         · refine stepR (o := ⟨_, .fieldAddr 116 (.tmp 40) 1, _, _, _, _⟩) ?vb12 rfl rfl (fun _ => rfl) fun ρ X hc hf hgl hX hp ho => ?_; have k40 : ρ (.tmp 40) = ?vb11 := hp 11 (by decide); clear hp ho hX; go_simp; (all_goals rfl)
         · refine stepR (o := ⟨_, .load 114 (.tmp 41), _, _, _, _⟩) ?vb13 rfl rfl (fun _ => rfl) fun ρ X hc hf hgl hX hp ho => ?_; have k41 : ρ (.tmp 41) = ?vb12 := hp 12 (by decide); have cX := cXb X hX; clear hp ho hX; go_simp; (all_goals rfl)
         · refine stepR (o := ⟨_, .call { callee := .builtin .len, args := #[.tmp 42], argTypes := #[114] }, _, _, _, _⟩) ?vb14 rfl rfl (fun _ => rfl) fun ρ X hc hf hgl hX hp ho => ?_; have k42 : ρ (.tmp 42) = ?vb13 := hp 13 (by decide); clear hp ho hX; go_simp; (all_goals try go_bits); (all_goals try simp only [IntWalk.iteOmega]); (all_goals try go_bits); (all_goals rfl)
         · refine stepR (o := ⟨_, .binOp .geq 3 (.tmp 32) (.tmp 43) 3, _, _, _, _⟩) ?vb15 rfl rfl (fun _ => rfl) fun ρ X hc hf hgl hX hp ho => ?_; have k32 : ρ (.tmp 32) = ?vb3 := hp 3 (by decide); have k43 : ρ (.tmp 43) = ?vb14 := hp 14 (by decide); clear hp ho hX; go_simp; (all_goals try go_bits); (all_goals try simp only [IntWalk.iteOmega]); (all_goals try go_bits); (all_goals rfl)
         · refine stepR (o := ⟨_, .pick (.tmp 31) (.const (.bool true)) (.tmp 44), _, _, _, _⟩) ?vb16 rfl rfl (fun _ => rfl) fun ρ X hc hf hgl hX hp ho => ?_; have k31 : ρ (.tmp 31) = ?vb2 := hp 2 (by decide); have k44 : ρ (.tmp 44) = ?vb15 := hp 15 (by decide); clear hp ho hX; go_simp; (all_goals rfl)
         · refine stepP 45 16 (?vb16) ?vb17 rfl (fun _ _ => rfl) rfl (fun _ => rfl) (by decide) rfl (fun _ _ h => h) ?_; rfl
        case grdb => rfl
        case rstb =>
         intro a0 X hb
         have hfr := hb.frame ((28, ?vb17) :: (29, ?vb0) :: (30, ?vb1) :: (31, ?vb2) :: (32, ?vb3) :: (33, ?vb4) :: (34, ?vb5) :: (35, ?vb6) :: (36, ?vb7) :: (37, ?vb8) :: (38, ?vb9) :: (39, ?vb10) :: (40, ?vb11) :: (41, ?vb12) :: (42, ?vb13) :: (43, ?vb14) :: (44, ?vb15) :: (45, ?vb16) :: []) rfl ⟨hb.done' 17 28 rfl rfl, hb.done' 0 29 rfl rfl, hb.done' 1 30 rfl rfl, hb.done' 2 31 rfl rfl, hb.done' 3 32 rfl rfl, hb.done' 4 33 rfl rfl, hb.done' 5 34 rfl rfl, hb.done' 6 35 rfl rfl, hb.done' 7 36 rfl rfl, hb.done' 8 37 rfl rfl, hb.done' 9 38 rfl rfl, hb.done' 10 39 rfl rfl, hb.done' 11 40 rfl rfl, hb.done' 12 41 rfl rfl, hb.done' 13 42 rfl rfl, hb.done' 14 43 rfl rfl, hb.done' 15 44 rfl rfl, hb.done' 16 45 rfl rfl, trivial⟩
         simp only [updL, ↓reduceIte, Nat.reduceEqDiff, Nat.reduceAdd, Nat.zero_add] at hfr
         have HX := Lib.hid hb.ext
         clear hb cXb
         subst hfr
         go_wp2
         go_ret
         exact ⟨by rw [Hr.out]; rfl, x, by rw [Hr.out]; exact H1.out.grows HX.out, HT2.out.trans (Turn.ofGrows HX.out)⟩
      · have hge : ¬ (L : Int) ≤ (m : Int) := by omega
        have hlm : (m : Int) < (L : Int) := by omega
        have Hg3 : Hid (writeF s nm (m : Int) p = if p.length ≠ 64 then (2, s1) else (0, { s1 with wrs := s1.wrs ++ [⟨id, m, p⟩] })) := by show _ = _; rw [Hg2.out]; exact if_neg (by have := HL.out; omega)
        have HmL : Hid (m < (secs s1 id).length) := by show _ < _; have := HL.out; omega
        obtain ⟨pl, Hpl⟩ : ∃ y, Hid (p.length = y) := ⟨_, rfl⟩
        by_cases h64 : p.length = 64
        · have Hr : Hid (writeF s nm (m : Int) p = (0, { s1 with wrs := s1.wrs ++ [⟨id, m, p⟩] })) := by show _ = _; rw [Hg3.out]; exact if_neg (by simpa using h64)
          have Hp64 : Hid (p.length = 64) := h64
          rw [h64] at HP2 ⊢
          clear hbig h64
          go_wp2
          have cXc := fun X (hX : Grows _ X) => And.intro (Grows.cell' hX c3) (Grows.cell' hX c5)
          refine specs_region
           #[[], [0], [0, 1], [0, 1, 2], [0, 1, 2], [0, 1, 2, 4], [0, 1, 2, 4, 5], [0, 1, 2, 4, 5, 6], [0, 1, 2], [0, 1, 2], [0, 1, 2, 8, 9], [0, 1, 2, 4, 5, 6, 7, 8, 9, 10], [0, 1, 2, 4, 5, 6, 7, 8, 9, 10, 11], [0, 1, 2, 4, 5, 6, 7, 8, 9, 10, 11, 12], [0, 1, 2, 4, 5, 6, 7, 8, 9, 10, 11, 12, 13], [0, 1, 2, 3, 4, 5, 6, 7, 8, 9, 10, 11, 12, 13, 14], [0, 1, 2, 3, 4, 5, 6, 7, 8, 9, 10, 11, 12, 13, 14, 15], [0, 1, 2, 3, 4, 5, 6, 7, 8, 9, 10, 11, 12, 13, 14, 15, 16]] #[[2], [], [], [2], [0], [], [], [], [0], [10], [], [], [], [], [], [], [], []] #[true, true, true, true, true, true, true, true, true, true, true, true, true, true, true, true, true, true]
           ((.val ?vc0) :: (.val ?vc1) :: (.val ?vc2) :: (.val ?vc3) :: (.val ?vc4) :: (.val ?vc5) :: (.val ?vc6) :: (.val ?vc7) :: (.val ?vc8) :: (.val ?vc9) :: (.val ?vc10) :: (.val ?vc11) :: (.val ?vc12) :: (.val ?vc13) :: (.val ?vc14) :: (.val ?vc15) :: (.val ?vc16) :: (.val ?vc17) :: []).toArray
           hmx ?chkc ?grdc ?stpc ?rstc
          case chkc => rfl
          case stpc =>
           refine ⟨?_, ?_, ?_, ?_, ?_, ?_, ?_, ?_, ?_, ?_, ?_, ?_, ?_, ?_, ?_, ?_, ?_, ?_, trivial⟩
           · refine stepO 2 ?vc0 rfl (fun _ _ => rfl) rfl (fun _ => rfl) (by decide) ?_; show (.int .i64 (m : Int) : Value) = _; rfl
           · refine stepR (o := ⟨_, .binOp .lss 3 (.tmp 29) (.const (.int .i64 0)) 3, _, _, _, _⟩) ?vc1 rfl rfl (fun _ => rfl) fun ρ X hc hf hgl hX hp ho => ?_; have k29 : ρ (.tmp 29) = ?vc0 := hp 0 (by decide); clear hp ho hX; go_simp; (all_goals try go_bits); (all_goals try simp only [IntWalk.iteOmega]); (all_goals try go_bits); (all_goals rfl)
           · refine stepP 30 1 (?vc1) ?vc2 rfl (fun _ _ => rfl) rfl (fun _ => rfl) (by decide) rfl (fun _ _ h => h) ?_; rfl
           · refine stepO 2 ?vc3 rfl (fun _ _ => rfl) rfl (fun _ => rfl) (by decide) ?_; show (.int .i64 (m : Int) : Value) = _; rfl
           · refine stepO 0 ?vc4 rfl (fun _ _ => rfl) rfl (fun _ => rfl) (by decide) ?_; show (.pointer (some ⟨q, 0, none⟩) : Value) = _; rfl
           · refine stepR (o := ⟨_, .nilCheck (.tmp 33), _, _, _, _⟩) ?vc5 rfl rfl (fun _ => rfl) fun ρ X hc hf hgl hX hp ho => ?_; have k33 : ρ (.tmp 33) = ?vc4 := hp 4 (by decide); clear hp ho hX; go_simp; (all_goals rfl)
           · refine stepR (o := ⟨_, .fieldAddr 76 (.tmp 34) 3, _, _, _, _⟩) ?vc6 rfl rfl (fun _ => rfl) fun ρ X hc hf hgl hX hp ho => ?_; have k34 : ρ (.tmp 34) = ?vc5 := hp 5 (by decide); clear hp ho hX; go_simp; (all_goals rfl)
           · refine stepR (o := ⟨_, .load 73 (.tmp 35), _, _, _, _⟩) ?vc7 rfl rfl (fun _ => rfl) fun ρ X hc hf hgl hX hp ho => ?_; have k35 : ρ (.tmp 35) = ?vc6 := hp 6 (by decide); have cX := cXc X hX; clear hp ho hX; go_simp; (all_goals rfl)
           · refine stepO 0 ?vc8 rfl (fun _ _ => rfl) rfl (fun _ => rfl) (by decide) ?_; show (.pointer (some ⟨q, 0, none⟩) : Value) = _; rfl
           · refine stepO 10 ?vc9 rfl (fun _ _ => rfl) rfl (fun _ => rfl) (by decide) ?_; show (.int .i64 (id : Int) : Value) = _; rfl
           · refine step_intro rfl rfl fun ρ X hc hf hgl hX hp ho => ?_
             change StepOk _ ⟨_, .call { callee := .value (.func 62), args := #[.tmp 37, .tmp 38], argTypes := #[30, 3] }, _, _, _, _⟩ _ _ _
             have k37 : ρ (.tmp 37) = ?vc8 := hp 8 (by decide)
             have k38 : ρ (.tmp 38) = ?vc9 := hp 9 (by decide)
             clear hp ho
             refine StepOk.of_call (f := 62) (args := #[?vc8, ?vc9]) (w' := X) ?_ ((H1.out.grows hX).at id Hlt.out) ?_
             · go_simp
               all_goals try go_bits
               all_goals try rfl
             · rintro e w'' ⟨rfl, rfl⟩; refine ⟨_, rfl, ?_, Below.refl _ _⟩; show _ = ?vc10; rfl
           · refine stepR (o := ⟨_, .indexAddr 73 (.tmp 36) (.tmp 39), _, _, _, _⟩) ?vc11 rfl rfl (fun _ => rfl) fun ρ X hc hf hgl hX hp ho => ?_; have k36 : ρ (.tmp 36) = ?vc7 := hp 7 (by decide); have k39 : ρ (.tmp 39) = ?vc10 := hp 10 (by decide); clear hp ho hX; go_simp; (all_goals try go_bits); (all_goals try simp only [IntWalk.iteOmega]); (all_goals try go_bits); (all_goals rfl)
           · refine stepR (o := ⟨_, .fieldAddr 116 (.tmp 40) 1, _, _, _, _⟩) ?vc12 rfl rfl (fun _ => rfl) fun ρ X hc hf hgl hX hp ho => ?_; have k40 : ρ (.tmp 40) = ?vc11 := hp 11 (by decide); clear hp ho hX; go_simp; (all_goals rfl)
           · refine stepR (o := ⟨_, .load 114 (.tmp 41), _, _, _, _⟩) ?vc13 rfl rfl (fun _ => rfl) fun ρ X hc hf hgl hX hp ho => ?_; have k41 : ρ (.tmp 41) = ?vc12 := hp 12 (by decide); have cX := cXc X hX; clear hp ho hX; go_simp; (all_goals rfl)
           · refine stepR (o := ⟨_, .call { callee := .builtin .len, args := #[.tmp 42], argTypes := #[114] }, _, _, _, _⟩) ?vc14 rfl rfl (fun _ => rfl) fun ρ X hc hf hgl hX hp ho => ?_; have k42 : ρ (.tmp 42) = ?vc13 := hp 13 (by decide); clear hp ho hX; go_simp; (all_goals try go_bits); (all_goals try simp only [IntWalk.iteOmega]); (all_goals try go_bits); (all_goals rfl)
           · refine stepR (o := ⟨_, .binOp .geq 3 (.tmp 32) (.tmp 43) 3, _, _, _, _⟩) ?vc15 rfl rfl (fun _ => rfl) fun ρ X hc hf hgl hX hp ho => ?_; have k32 : ρ (.tmp 32) = ?vc3 := hp 3 (by decide); have k43 : ρ (.tmp 43) = ?vc14 := hp 14 (by decide); clear hp ho hX; go_simp; (all_goals try go_bits); (all_goals try simp only [IntWalk.iteOmega]); (all_goals try go_bits); (all_goals rfl)
           · refine stepR (o := ⟨_, .pick (.tmp 31) (.const (.bool true)) (.tmp 44), _, _, _, _⟩) ?vc16 rfl rfl (fun _ => rfl) fun ρ X hc hf hgl hX hp ho => ?_; have k31 : ρ (.tmp 31) = ?vc2 := hp 2 (by decide); have k44 : ρ (.tmp 44) = ?vc15 := hp 15 (by decide); clear hp ho hX; go_simp; (all_goals rfl)
           · refine stepP 45 16 (?vc16) ?vc17 rfl (fun _ _ => rfl) rfl (fun _ => rfl) (by decide) rfl (fun _ _ h => h) ?_; rfl
          case grdc => rfl
          case rstc =>
           intro a0 X hb
           have hfr := hb.frame ((28, ?vc17) :: (29, ?vc0) :: (30, ?vc1) :: (31, ?vc2) :: (32, ?vc3) :: (33, ?vc4) :: (34, ?vc5) :: (35, ?vc6) :: (36, ?vc7) :: (37, ?vc8) :: (38, ?vc9) :: (39, ?vc10) :: (40, ?vc11) :: (41, ?vc12) :: (42, ?vc13) :: (43, ?vc14) :: (44, ?vc15) :: (45, ?vc16) :: []) rfl ⟨hb.done' 17 28 rfl rfl, hb.done' 0 29 rfl rfl, hb.done' 1 30 rfl rfl, hb.done' 2 31 rfl rfl, hb.done' 3 32 rfl rfl, hb.done' 4 33 rfl rfl, hb.done' 5 34 rfl rfl, hb.done' 6 35 rfl rfl, hb.done' 7 36 rfl rfl, hb.done' 8 37 rfl rfl, hb.done' 9 38 rfl rfl, hb.done' 10 39 rfl rfl, hb.done' 11 40 rfl rfl, hb.done' 12 41 rfl rfl, hb.done' 13 42 rfl rfl, hb.done' 14 43 rfl rfl, hb.done' 15 44 rfl rfl, hb.done' 16 45 rfl rfl, trivial⟩
           simp only [updL, ↓reduceIte, Nat.reduceEqDiff, Nat.reduceAdd, Nat.zero_add] at hfr
           have HX := Lib.hid hb.ext
           clear hb cXc
           subst hfr
           have HRX := Lib.hid (H1.out.grows HX.out)
           have HTX := Lib.hid (HT2.out.trans (Turn.ofGrows (x := x) HX.out))
           have HPX : Hid (Byt X (.slice ap 64 cp) p) := HP2.out.grows HX.out
           clear c3 c5 HX H1 HT2
           obtain ⟨wX, hwX⟩ : ∃ y, X = y := ⟨_, rfl⟩
           subst hwX
           obtain ⟨aw, cw, e1⟩ := own_form HRX.out.wrs
           have c4 := HRX.out.cell 4 x.vw rfl
           have hnq : ¬ (x.vw.ownBlock = some q) := own_ne HRX.out.wrs HRX.out.row (by decide)
           have hown := HRX.out.wrs
           have hnc := Hwr.out
           have hvw : ∀ j, x.vw.ownBlock = some j → j < X.heap.size := fun j hj => own_lt HRX.out.wrs j hj
           have hpw : ∀ k, Value.ownBlock (.slice ap 64 cp) = some k → ¬ (x.vw.ownBlock = some k) := fun k hk hn => by cases ap with | none => simp [Value.ownBlock] at hk | some ad => obtain ⟨b9, o9, s9⟩ := ad; have e9 : b9 = k := (by simpa [Value.ownBlock] using hk); rw [← e9] at hn; exact HPo.out b9 o9 s9 _ cp rfl (by rw [Hp64.out]; decide) (.inr (.inr (.inr (.inl hn))))
           obtain ⟨nw, HnW2⟩ : ∃ n, Hid (s1.wrs.length = n) := ⟨_, rfl⟩
           obtain ⟨xs, Hxs⟩ : ∃ xs, Hid ((s1.wrs.zip x.ps).flatMap wrC = xs) := ⟨_, rfl⟩
           obtain ⟨ws, Hws⟩ : ∃ y, Hid (X.heap.size = y) := ⟨_, rfl⟩
           have Hvw2 : Hid (x.vw = .slice aw nw cw) := by show _ = _; rw [← HnW2.out]; exact e1
           rw [Hvw2.out] at c4 hnq hvw hpw
           rw [Hws.out] at hvw
           rw [HnW2.out] at hnc
           replace hown : X.ownsRow 0 168 3 (.slice aw nw cw) nw xs := by rw [← Hvw2.out, ← HnW2.out, ← Hxs.out]; exact hown
           have Hvw := Lib.hid hvw
           have HPw := Lib.hid hpw
           have Hown := Lib.hid hown
           have HnW := Lib.hid hnc
           have HRO : Hid (∀ u a b, But (fun k => Value.ownBlock (.slice aw nw cw) = some k) a b → Own 5 ws a u p → Own 5 ws b u p) := fun u a b g h => own_but h g (fun j hj hn => by have := own_base h j hj; have := Hvw.out j hn; omega)
           clear e1 hown hnc hvw hpw
           go_wp2
           have cXe := fun X (hX : (EAppR (fun k => Value.ownBlock (.slice aw nw cw) = some k) 168 3 nw xs (fun u => wrC (⟨id, m, p⟩, u)) (fun u W => Own 5 ws W u p)) _ X) => hX.but.cell (p := ⟨q, _, none⟩) hnq c4
           refine region_K_last (E := (EAppR (fun k => Value.ownBlock (.slice aw nw cw) = some k) 168 3 nw xs (fun u => wrC (⟨id, m, p⟩, u)) (fun u W => Own 5 ws W u p))) (EAppR.ok (fun k => Value.ownBlock (.slice aw nw cw) = some k) 168 3 nw xs (fun u => wrC (⟨id, m, p⟩, u)) (fun u W => Own 5 ws W u p) (fun u w h => own_drew h)) (EAppR.ofGrows (R := (fun u W => Own 5 ws W u p)) (fun u a b g h => own_grows h g)) 15
            #[[], [], [1], [1, 2], [1, 2, 3], [], [], [], [], [7, 8], [5, 6, 7, 8, 9], [5, 6, 7, 8, 9, 10], [1, 2, 3, 4, 5, 6, 7, 8, 9, 10, 11], [0, 1, 2, 3, 4, 5, 6, 7, 8, 9, 10, 11, 12], [0, 1, 2, 3, 4, 5, 6, 7, 8, 9, 10, 11, 12, 13], [0, 1, 2, 3, 4, 5, 6, 7, 8, 9, 10, 11, 12, 13, 14]] #[[0], [0], [], [], [], [10], [2], [], [3], [], [], [], [], [], [], []] #[true, true, true, true, true, true, true, true, true, true, true, true, true, true, true, true]
            ((.val ?ve0) :: (.val ?ve1) :: (.val ?ve2) :: (.val ?ve3) :: (.val ?ve4) :: (.val ?ve5) :: (.val ?ve6) :: (.pred (fun v W => ∃ g, v = .slice (some ⟨g, 0, none⟩) 0 0) (fun v a b h ho => ho)) :: (.val ?ve8) :: (.pred (fun v W => Own 5 ws W v p) (fun v a b h ho => HRO.out v a b h.but ho)) :: (.pred (fun v W => ∃ u, v = .agg #[.int .i64 (id : Int), .int .i64 (m : Int), u] ∧ Own 5 ws W u p) (fun v a b h ho => ho.imp fun u hu => ⟨hu.1, HRO.out u a b h.but hu.2⟩)) :: (.pred (fun v W => ∃ u g, v = .slice (some ⟨g, 0, none⟩) 1 1 ∧ ws ≤ g ∧ W.heap[g]? = some (.cells (wrC (⟨id, m, p⟩, u)).toArray 168) ∧ Own 5 ws W u p) (fun v a b h ho => by obtain ⟨u, g, e, hg, hh, hu⟩ := ho; exact ⟨u, g, e, hg, h.but.blockEq (fun hn => by have := Hvw.out g hn; omega) hh, HRO.out u a b h.but hu⟩)) :: (.pred (fun v W => OwnR 168 3 nw xs (fun u => wrC (⟨id, m, p⟩, u)) (fun u W => Own 5 ws W u p) v W ∧ (v.ownBlock = Value.ownBlock (.slice aw nw cw) ∨ ∀ j, v.ownBlock = some j → ws ≤ j)) (fun v a b h ho => ⟨h.new v ho.1, ho.2⟩)) :: (.val ?ve13) :: (.val ?ve14) :: (.any) :: []).toArray
            (noState [12])
            (fun _ _ _ _ _ _ _ _ => trivial)
            (fun _ _ => trivial)
            hmx ?chke rfl ?grde rfl ?stpe ?rste
           case chke => rfl
           case stpe =>
            refine ⟨?_, ?_, ?_, ?_, ?_, ?_, ?_, ?_, ?_, ?_, ?_, ?_, ?_, ?_, ?_, ?_, trivial⟩
            · refine stepOK 0 ?ve0 rfl (fun _ _ => rfl) rfl rfl (fun _ => rfl) (by decide) ?_; show (.pointer (some ⟨q, 0, none⟩) : Value) = _; rfl
            · refine stepOK 0 ?ve1 rfl (fun _ _ => rfl) rfl rfl (fun _ => rfl) (by decide) ?_; show (.pointer (some ⟨q, 0, none⟩) : Value) = _; rfl
            · refine stepRK (o := ⟨_, .nilCheck (.tmp 51), _, _, _, _⟩) ?ve2 rfl rfl rfl (fun _ => rfl) fun ρ X hc hf hgl hX hp ho => ?_; have k51 : ρ (.tmp 51) = ?ve1 := hp 1 (by decide); clear hp ho hX; go_simp; (all_goals rfl)
            · refine stepRK (o := ⟨_, .fieldAddr 76 (.tmp 52) 4, _, _, _, _⟩) ?ve3 rfl rfl rfl (fun _ => rfl) fun ρ X hc hf hgl hX hp ho => ?_; have k52 : ρ (.tmp 52) = ?ve2 := hp 2 (by decide); clear hp ho hX; go_simp; (all_goals rfl)
            · refine stepRK (o := ⟨_, .load 74 (.tmp 53), _, _, _, _⟩) ?ve4 rfl rfl rfl (fun _ => rfl) fun ρ X hc hf hgl hX hp ho => ?_; have k53 : ρ (.tmp 53) = ?ve3 := hp 3 (by decide); have cX := cXe X hX; clear hp ho hX; go_simp; (all_goals rfl)
            · refine stepOK 10 ?ve5 rfl (fun _ _ => rfl) rfl rfl (fun _ => rfl) (by decide) ?_; show (.int .i64 (id : Int) : Value) = _; rfl
            · refine stepOK 2 ?ve6 rfl (fun _ _ => rfl) rfl rfl (fun _ => rfl) (by decide) ?_; show (.int .i64 (m : Int) : Value) = _; rfl
            · refine step_introK rfl rfl fun ρ X hc hf hgl hX hp ho hu => ?_
              change StepOk _ ⟨_, .buildSlice 36 0 #[], _, _, _, _⟩ _ _ _
              refine stepK_plain (i := 7) rfl ?_
              clear hu
              clear hp ho
              refine StepOk.of_run (v := .slice (some ⟨X.heap.size, 0, none⟩) 0 0) (w' := X.alloc (.cells #[] 5)) ?_ ⟨⟨_, rfl⟩, Grows.alloc' _ _⟩
              simp [go_sem, execOp, hc]
            · refine stepOK 3 ?ve8 rfl (fun _ _ => rfl) rfl rfl (fun _ => rfl) (by decide) ?_; show (.slice ap 64 cp : Value) = _; rfl
            · refine step_introK rfl rfl fun ρ X hc hf hgl hX hp ho hu => ?_
              change StepOk _ ⟨_, .call { callee := .builtin .append, args := #[.tmp 57, .tmp 58], argTypes := #[36, 36] }, _, _, _, _⟩ _ _ _
              have k57 := hp 7 (by decide)
              have k58 : ρ (.tmp 58) = ?ve8 := hp 8 (by decide)
              refine stepK_plain (i := 9) rfl ?_
              clear hu
              clear hp ho
              obtain ⟨g57, e57⟩ := k57
              have hpX : Byt X (.slice ap 64 cp) p := HPX.out.but hX.but (fun b off sp n c e hn hb => HPw.out b (by simp only [Value.slice.injEq, Option.some.injEq] at e; rw [e.1]; rfl) hb)
              obtain ⟨v', W', hr, ho', hg'⟩ := run_app_z (P := Tryz.prog) ws X 36 36 5 i1 Tryz.underlying36 hi1 hz1 hz2 hz3 (by have := hX.but.size; have := Hws.out; omega) g57 _ p hpX (by have := Hp64.out; omega) (by have := Hp64.out; omega)
              refine StepOk.of_run (v := v') (w' := W') ?_ ⟨ho', hg'⟩
              simp only [execOp, resolve, invoke, builtin, Sem.run_bind, Sem.run_pure, Result.andThen_ok, List.map_toArray, List.map_cons, List.map_nil, e57, k58, hr]
            · refine step_introK rfl rfl fun ρ X hc hf hgl hX hp ho hu => ?_
              change StepOk _ ⟨_, .build 168 #[(0, .tmp 55), (1, .tmp 56), (2, .tmp 59)], _, _, _, _⟩ _ _ _
              have k55 : ρ (.tmp 55) = ?ve5 := hp 5 (by decide)
              have k56 : ρ (.tmp 56) = ?ve6 := hp 6 (by decide)
              have k59 := hp 9 (by decide)
              refine stepK_plain (i := 10) rfl ?_
              clear hu
              clear hp ho
              obtain ⟨au, cu, eu⟩ := own_form (show X.ownsRow ws 5 1 (ρ (.tmp 59)) p.length (p.map bv) from k59)
              refine StepOk.of_run (v := .agg #[.int .i64 (id : Int), .int .i64 (m : Int), ρ (.tmp 59)]) (w' := X) ?_ ⟨⟨_, rfl, k59⟩, Below.refl _ _⟩
              simp [go_sem, execOp, hc, k55, k56, eu]
            · refine step_introK rfl rfl fun ρ X hc hf hgl hX hp ho hu => ?_
              change StepOk _ ⟨_, .buildSlice 74 1 #[(0, .tmp 60)], _, _, _, _⟩ _ _ _
              have k60 := hp 10 (by decide)
              refine stepK_plain (i := 11) rfl ?_
              clear hu
              clear hp ho
              obtain ⟨u, e60, hu⟩ := k60
              obtain ⟨au, cu, rfl⟩ := own_form hu
              refine StepOk.of_run (v := .slice (some ⟨X.heap.size, 0, none⟩) 1 1) (w' := X.alloc (.cells (wrC (⟨id, m, p⟩, .slice au p.length cu)).toArray 168)) ?_ ⟨⟨_, _, rfl, by have := hX.but.size; have := Hws.out; omega, heap_alloc_new X _, own_grows hu (Grows.alloc' _ _)⟩, Grows.alloc' _ _⟩
              simp [go_sem, execOp, hc, e60, wrC]
            · refine step_introK rfl rfl fun ρ X hc hf hgl hX hp ho hu => ?_
              change StepOk _ ⟨_, .call { callee := .builtin .append, args := #[.tmp 54, .tmp 61], argTypes := #[74, 74] }, _, _, _, _⟩ _ _ _
              have k54 : ρ (.tmp 54) = ?ve4 := hp 4 (by decide)
              have k61 := hp 11 (by decide)
              clear hu
              clear hp ho
              refine stepK_made rfl ?_
              obtain ⟨u, g18, e18, hg18, hh18, hu18⟩ := k61
              obtain ⟨au, cu, rfl⟩ := own_form hu18
              have hoX := hX.old _ Hown.out
              obtain ⟨v', W', hr, hnew, hat, hE⟩ := run_append_r (P := Tryz.prog) (O := (fun k => Value.ownBlock (.slice aw nw cw) = some k)) (e := 168) (k := 3) (n := nw) (xs := xs) (rc := (fun u => wrC (⟨id, m, p⟩, u))) (R := (fun u W => Own 5 ws W u p)) HRO.out X 74 74 i0 z0 40 Tryz.underlying74 hi hz hs2 hb2 hzs (by omega) _ hoX (fun j hj => hj) ⟨g18, 0, none⟩ 1 (.slice au p.length cu) rfl (fun j u hu => by rw [Addr.add_lit, Nat.zero_add, cell_of_row X g18 j _ _ _ hh18]; simpa using hu) (by intro u hu; simp [wrC, nv] at hu; rcases hu with rfl | rfl | rfl <;> rfl) hu18 (by have := HnW.out; unfold maxLen; omega) (by have := HnW.out; omega)
              refine StepOk.of_run (v := v') (w' := W') ?_ ⟨⟨hnew, ?_⟩, hE, fun s hs => by simp [noState] at hs⟩
              · simp only [execOp, resolve, invoke, builtin, Sem.run_bind, Sem.run_pure, Result.andThen_ok, List.map_toArray, List.map_cons, List.map_nil, k54, e18, hr]
              · rcases hat with h | h
                · exact .inl h
                · right; intro j hj; rw [h] at hj; have := Option.some.inj hj; have := hX.but.size; have := Hws.out; omega
            · refine stepRK (o := ⟨_, .nilCheck (.tmp 50), _, _, _, _⟩) ?ve13 rfl rfl rfl (fun _ => rfl) fun ρ X hc hf hgl hX hp ho => ?_; have k50 : ρ (.tmp 50) = ?ve0 := hp 0 (by decide); clear hp ho hX; go_simp; (all_goals rfl)
            · refine stepRK (o := ⟨_, .fieldAddr 76 (.tmp 63) 4, _, _, _, _⟩) ?ve14 rfl rfl rfl (fun _ => rfl) fun ρ X hc hf hgl hX hp ho => ?_; have k63 : ρ (.tmp 63) = ?ve13 := hp 13 (by decide); clear hp ho hX; go_simp; (all_goals rfl)
            · exact last_intro rfl
           case grde => rfl
           case rste =>
            intro a0 X hb
            obtain ⟨x57, hx57⟩ : ∃ x, a0.tmps.getD 57 undef = x := ⟨_, rfl⟩
            have p57 := hb.done' 7 57 rfl rfl
            rw [hx57] at p57
            obtain ⟨x59, hx59⟩ : ∃ x, a0.tmps.getD 59 undef = x := ⟨_, rfl⟩
            have p59 := hb.done' 9 59 rfl rfl
            rw [hx59] at p59
            obtain ⟨x60, hx60⟩ : ∃ x, a0.tmps.getD 60 undef = x := ⟨_, rfl⟩
            have p60 := hb.done' 10 60 rfl rfl
            rw [hx60] at p60
            obtain ⟨x61, hx61⟩ : ∃ x, a0.tmps.getD 61 undef = x := ⟨_, rfl⟩
            have p61 := hb.done' 11 61 rfl rfl
            rw [hx61] at p61
            obtain ⟨x62, hx62⟩ : ∃ x, a0.tmps.getD 62 undef = x := ⟨_, rfl⟩
            have p62 := hb.done' 12 62 rfl rfl
            rw [hx62] at p62
            have hfr := hb.frame ((50, ?ve0) :: (51, ?ve1) :: (52, ?ve2) :: (53, ?ve3) :: (54, ?ve4) :: (55, ?ve5) :: (56, ?ve6) :: (57, x57) :: (58, ?ve8) :: (59, x59) :: (60, x60) :: (61, x61) :: (62, x62) :: (63, ?ve13) :: (64, ?ve14) :: []) rfl ⟨hb.done' 0 50 rfl rfl, hb.done' 1 51 rfl rfl, hb.done' 2 52 rfl rfl, hb.done' 3 53 rfl rfl, hb.done' 4 54 rfl rfl, hb.done' 5 55 rfl rfl, hb.done' 6 56 rfl rfl, hx57, hb.done' 8 58 rfl rfl, hx59, hx60, hx61, hx62, hb.done' 13 63 rfl rfl, hb.done' 14 64 rfl rfl, trivial⟩
            simp only [updL, ↓reduceIte, Nat.reduceEqDiff, Nat.reduceAdd, Nat.zero_add] at hfr
            have HX := Lib.hid hb.ext
            clear hb cXe
            subst hfr
            change StepOk _ { dst := _, op := Op.store 74 (Operand.tmp 64) (Operand.tmp 62), type := _, pos := _, after := _, guard := _ } _ _ _
            have hrX := HX.out.but.blockEq hnq HRX.out.row
            have cX := HX.out.but.cell (p := ⟨q, 4, none⟩) hnq c4
            have fX : X.frozen? ⟨q, 4, none⟩ = false := frozen_of_row X q 4 _ _ hrX
            obtain ⟨⟨u, po, pu⟩, pa⟩ := (show OwnR 168 3 nw xs (fun u => wrC (⟨id, m, p⟩, u)) (fun u W => Own 5 ws W u p) x62 X ∧ (x62.ownBlock = Value.ownBlock (.slice aw nw cw) ∨ ∀ j, x62.ownBlock = some j → ws ≤ j) from p62)
            obtain ⟨a6, c6, rfl⟩ := own_form po
            have hadd := HRX.out.addWr ⟨id, m, p⟩ (.slice a6 (nw + 1) c6) u (by rw [Hvw2.out]; exact HX.out.but) (by rw [HnW2.out, Hxs.out]; exact po) (by rw [Hws.out]; exact pu) (by rw [Hvw2.out, Hws.out]; exact pa) ⟨Hlt.out, HmL.out, Hp64.out⟩ Hwr.out
            have HA := Lib.hid hadd
            clear hadd po pa pu p62
            unfold StepOk
            simp [go_sem, execOp, cX, fX]
            go_wp2
            go_ret
            exact ⟨by rw [Hr.out]; rfl, _, by rw [Hr.out]; exact HA.out.1, HTX.out.trans HA.out.2⟩
        · have Hr : Hid (writeF s nm (m : Int) p = (2, s1)) := by show _ = _; rw [Hg3.out]; exact if_pos h64
          have hpn : ¬ (p.length : Int) = 64 := by omega
          clear hbig h64
          go_wp2
          have cXd := fun X (hX : Grows _ X) => And.intro (Grows.cell' hX c3) (Grows.cell' hX c5)
          refine specs_region
           #[[], [0], [0, 1], [0, 1, 2], [0, 1, 2], [0, 1, 2, 4], [0, 1, 2, 4, 5], [0, 1, 2, 4, 5, 6], [0, 1, 2], [0, 1, 2], [0, 1, 2, 8, 9], [0, 1, 2, 4, 5, 6, 7, 8, 9, 10], [0, 1, 2, 4, 5, 6, 7, 8, 9, 10, 11], [0, 1, 2, 4, 5, 6, 7, 8, 9, 10, 11, 12], [0, 1, 2, 4, 5, 6, 7, 8, 9, 10, 11, 12, 13], [0, 1, 2, 3, 4, 5, 6, 7, 8, 9, 10, 11, 12, 13, 14], [0, 1, 2, 3, 4, 5, 6, 7, 8, 9, 10, 11, 12, 13, 14, 15], [0, 1, 2, 3, 4, 5, 6, 7, 8, 9, 10, 11, 12, 13, 14, 15, 16]] #[[2], [], [], [2], [0], [], [], [], [0], [10], [], [], [], [], [], [], [], []] #[true, true, true, true, true, true, true, true, true, true, true, true, true, true, true, true, true, true]
           ((.val ?vd0) :: (.val ?vd1) :: (.val ?vd2) :: (.val ?vd3) :: (.val ?vd4) :: (.val ?vd5) :: (.val ?vd6) :: (.val ?vd7) :: (.val ?vd8) :: (.val ?vd9) :: (.val ?vd10) :: (.val ?vd11) :: (.val ?vd12) :: (.val ?vd13) :: (.val ?vd14) :: (.val ?vd15) :: (.val ?vd16) :: (.val ?vd17) :: []).toArray
           hmx ?chkd ?grdd ?stpd ?rstd
          case chkd => rfl
          case stpd =>
           refine ⟨?_, ?_, ?_, ?_, ?_, ?_, ?_, ?_, ?_, ?_, ?_, ?_, ?_, ?_, ?_, ?_, ?_, ?_, trivial⟩
           · refine stepO 2 ?vd0 rfl (fun _ _ => rfl) rfl (fun _ => rfl) (by decide) ?_; show (.int .i64 (m : Int) : Value) = _; rfl
           · refine stepR (o := ⟨_, .binOp .lss 3 (.tmp 29) (.const (.int .i64 0)) 3, _, _, _, _⟩) ?vd1 rfl rfl (fun _ => rfl) fun ρ X hc hf hgl hX hp ho => ?_; have k29 : ρ (.tmp 29) = ?vd0 := hp 0 (by decide); clear hp ho hX; go_simp; (all_goals try go_bits); (all_goals try simp only [IntWalk.iteOmega]); (all_goals try go_bits); (all_goals rfl)
           · refine stepP 30 1 (?vd1) ?vd2 rfl (fun _ _ => rfl) rfl (fun _ => rfl) (by decide) rfl (fun _ _ h => h) ?_; rfl
           · refine stepO 2 ?vd3 rfl (fun _ _ => rfl) rfl (fun _ => rfl) (by decide) ?_; show (.int .i64 (m : Int) : Value) = _; rfl
           · refine stepO 0 ?vd4 rfl (fun _ _ => rfl) rfl (fun _ => rfl) (by decide) ?_; show (.pointer (some ⟨q, 0, none⟩) : Value) = _; rfl
           · refine stepR (o := ⟨_, .nilCheck (.tmp 33), _, _, _, _⟩) ?vd5 rfl rfl (fun _ => rfl) fun ρ X hc hf hgl hX hp ho => ?_; have k33 : ρ (.tmp 33) = ?vd4 := hp 4 (by decide); clear hp ho hX; go_simp; (all_goals rfl)
           · refine stepR (o := ⟨_, .fieldAddr 76 (.tmp 34) 3, _, _, _, _⟩) ?vd6 rfl rfl (fun _ => rfl) fun ρ X hc hf hgl hX hp ho => ?_; have k34 : ρ (.tmp 34) = ?vd5 := hp 5 (by decide); clear hp ho hX; go_simp; (all_goals rfl)
           · refine stepR (o := ⟨_, .load 73 (.tmp 35), _, _, _, _⟩) ?vd7 rfl rfl (fun _ => rfl) fun ρ X hc hf hgl hX hp ho => ?_; have k35 : ρ (.tmp 35) = ?vd6 := hp 6 (by decide); have cX := cXd X hX; clear hp ho hX; go_simp; (all_goals rfl)
           · refine stepO 0 ?vd8 rfl (fun _ _ => rfl) rfl (fun _ => rfl) (by decide) ?_; show (.pointer (some ⟨q, 0, none⟩) : Value) = _; rfl
           · refine stepO 10 ?vd9 rfl (fun _ _ => rfl) rfl (fun _ => rfl) (by decide) ?_; show (.int .i64 (id : Int) : Value) = _; rfl
           · refine step_intro rfl rfl fun ρ X hc hf hgl hX hp ho => ?_
             change StepOk _ ⟨_, .call { callee := .value (.func 62), args := #[.tmp 37, .tmp 38], argTypes := #[30, 3] }, _, _, _, _⟩ _ _ _
             have k37 : ρ (.tmp 37) = ?vd8 := hp 8 (by decide)
             have k38 : ρ (.tmp 38) = ?vd9 := hp 9 (by decide)
             clear hp ho
             refine StepOk.of_call (f := 62) (args := #[?vd8, ?vd9]) (w' := X) ?_ ((H1.out.grows hX).at id Hlt.out) ?_
             · go_simp
               all_goals try go_bits
               all_goals try rfl
             · rintro e w'' ⟨rfl, rfl⟩; refine ⟨_, rfl, ?_, Below.refl _ _⟩; show _ = ?vd10; rfl
           · refine stepR (o := ⟨_, .indexAddr 73 (.tmp 36) (.tmp 39), _, _, _, _⟩) ?vd11 rfl rfl (fun _ => rfl) fun ρ X hc hf hgl hX hp ho => ?_; have k36 : ρ (.tmp 36) = ?vd7 := hp 7 (by decide); have k39 : ρ (.tmp 39) = ?vd10 := hp 10 (by decide); clear hp ho hX; go_simp; (all_goals try go_bits); (all_goals try simp only [IntWalk.iteOmega]); (all_goals try go_bits); (all_goals rfl)
           · refine stepR (o := ⟨_, .fieldAddr 116 (.tmp 40) 1, _, _, _, _⟩) ?vd12 rfl rfl (fun _ => rfl) fun ρ X hc hf hgl hX hp ho => ?_; have k40 : ρ (.tmp 40) = ?vd11 := hp 11 (by decide); clear hp ho hX; go_simp; (all_goals rfl)
           · refine stepR (o := ⟨_, .load 114 (.tmp 41), _, _, _, _⟩) ?vd13 rfl rfl (fun _ => rfl) fun ρ X hc hf hgl hX hp ho => ?_; have k41 : ρ (.tmp 41) = ?vd12 := hp 12 (by decide); have cX := cXd X hX; clear hp ho hX; go_simp; (all_goals rfl)
           · refine stepR (o := ⟨_, .call { callee := .builtin .len, args := #[.tmp 42], argTypes := #[114] }, _, _, _, _⟩) ?vd14 rfl rfl (fun _ => rfl) fun ρ X hc hf hgl hX hp ho => ?_; have k42 : ρ (.tmp 42) = ?vd13 := hp 13 (by decide); clear hp ho hX; go_simp; (all_goals try go_bits); (all_goals try simp only [IntWalk.iteOmega]); (all_goals try go_bits); (all_goals rfl)
           · refine stepR (o := ⟨_, .binOp .geq 3 (.tmp 32) (.tmp 43) 3, _, _, _, _⟩) ?vd15 rfl rfl (fun _ => rfl) fun ρ X hc hf hgl hX hp ho => ?_; have k32 : ρ (.tmp 32) = ?vd3 := hp 3 (by decide); have k43 : ρ (.tmp 43) = ?vd14 := hp 14 (by decide); clear hp ho hX; go_simp; (all_goals try go_bits); (all_goals try simp only [IntWalk.iteOmega]); (all_goals try go_bits); (all_goals rfl)
           · refine stepR (o := ⟨_, .pick (.tmp 31) (.const (.bool true)) (.tmp 44), _, _, _, _⟩) ?vd16 rfl rfl (fun _ => rfl) fun ρ X hc hf hgl hX hp ho => ?_; have k31 : ρ (.tmp 31) = ?vd2 := hp 2 (by decide); have k44 : ρ (.tmp 44) = ?vd15 := hp 15 (by decide); clear hp ho hX; go_simp; (all_goals rfl)
           · refine stepP 45 16 (?vd16) ?vd17 rfl (fun _ _ => rfl) rfl (fun _ => rfl) (by decide) rfl (fun _ _ h => h) ?_; rfl
          case grdd => rfl
          case rstd =>
           intro a0 X hb
           have hfr := hb.frame ((28, ?vd17) :: (29, ?vd0) :: (30, ?vd1) :: (31, ?vd2) :: (32, ?vd3) :: (33, ?vd4) :: (34, ?vd5) :: (35, ?vd6) :: (36, ?vd7) :: (37, ?vd8) :: (38, ?vd9) :: (39, ?vd10) :: (40, ?vd11) :: (41, ?vd12) :: (42, ?vd13) :: (43, ?vd14) :: (44, ?vd15) :: (45, ?vd16) :: []) rfl ⟨hb.done' 17 28 rfl rfl, hb.done' 0 29 rfl rfl, hb.done' 1 30 rfl rfl, hb.done' 2 31 rfl rfl, hb.done' 3 32 rfl rfl, hb.done' 4 33 rfl rfl, hb.done' 5 34 rfl rfl, hb.done' 6 35 rfl rfl, hb.done' 7 36 rfl rfl, hb.done' 8 37 rfl rfl, hb.done' 9 38 rfl rfl, hb.done' 10 39 rfl rfl, hb.done' 11 40 rfl rfl, hb.done' 12 41 rfl rfl, hb.done' 13 42 rfl rfl, hb.done' 14 43 rfl rfl, hb.done' 15 44 rfl rfl, hb.done' 16 45 rfl rfl, trivial⟩
           simp only [updL, ↓reduceIte, Nat.reduceEqDiff, Nat.reduceAdd, Nat.zero_add] at hfr
           have HX := Lib.hid hb.ext
           clear hb cXd
           subst hfr
           go_wp2
           go_ret
           exact ⟨by rw [Hr.out]; rfl, x, by rw [Hr.out]; exact H1.out.grows HX.out, HT2.out.trans (Turn.ofGrows HX.out)⟩
 · have Hr : Hid (writeF s nm n p = (fc, s1)) := by show _ = _; unfold writeF; rw [guardF_no (by rw [hfc]; exact hf), ← hfc, ← hs1]
   rw [hfc, hs1] at HF
   clear h hfc hs1 hsm hp hpo
   go_enter Tryz.func44, Tryz.ntmps44
   go_wp2_with fail
   refine HF.out.mono ?_
   rintro e w1 ⟨rfl, hR, hB⟩
   have HR := Lib.hid hR
   have HB := Lib.hid hB
   clear hR hB
   go_wp2
   go_ret
   exact ⟨by rw [Hr.out]; rfl, x, by rw [Hr.out]; exact HR.out, Turn.ofBut HB.out⟩
end Go.Proofs.YtoppcpiheaedlaaGreatDoor
end
section
/-
  The document's own disk: a new disk.
-/
namespace Go.Proofs.YtoppcpiheaedlaaGreatDoor
open Go.RowKit
set_option linter.unusedVariables false
set_option linter.unusedSimpArgs false
attribute [local go_sem] sv nv
def x0 : RDv := ⟨.slice none 0 0, .slice none 0 0, .slice none 0 0, .slice none 0 0, [], [], []⟩
theorem RD.start {W : World} {q m : Nat} (hm : m ≤ 4096) (hr : W.heap[q]? = some (.cells (rdRow (newF m) x0) 76 (0, 0))) : RD W q (newF m) x0 where
 row := hr
 dir := World.ownsRow_nil W 0 _ 2
 chs := World.ownsRow_nil W 0 _ 4
 ssl := rfl
 fls := World.ownsRow_nil W 0 _ 2
 psl := rfl
 wrs := World.ownsRow_nil W 0 _ 3
 spl := rfl
 sec := fun i hi => absurd hi (Nat.not_lt_zero i)
 byt := fun i j hi _ => absurd hi (Nat.not_lt_zero i)
 pend := fun j hj => absurd hj (Nat.not_lt_zero j)
 out := ⟨fun v hv => by simp [x0] at hv, fun l hl => by simp [x0] at hl⟩
 dis := fun i j _ hj => absurd hj (Nat.not_lt_zero j)
 wf := ⟨fun e he => by simp [newF] at he, fun c hc => by simp [newF] at hc, fun w hw => by simp [newF] at hw, fun f hf => by simp [newF] at hf, hm⟩
 aft := by show _ ≤ (0 : Int) ∧ (0 : Int) ≤ _; omega
 small := by simp [newF]
set_option maxRecDepth 100000 in
theorem refNew (m : Nat) (hm : m ≤ 4096) (w : World) :
 Calls Tryz.prog 11 #[.int .i64 (m : Int)] w fun e w' => e = .returned (.tuple #[.pointer (some ⟨w.heap.size, 0, none⟩), .int .i64 0]) ∧ RD w' w.heap.size (newF m) x0 ∧ Grows w w' := by
 have h1 : ¬ (m : Int) < 0 := by omega
 have h2 : ¬ (4096 : Int) < (m : Int) := by omega
 have hnew := heap_alloc_new w (.cells (rdRow (newF m) x0) 76)
 have HS := Lib.hid (RD.start hm hnew)
 have HG := Lib.hid (Grows.alloc' w (.cells (rdRow (newF m) x0) 76))
 clear hnew hm
 go_enter Tryz.func11, Tryz.ntmps11
 go_wp2
 go_ret2
 exact ⟨rfl, HS.out, HG.out⟩
end Go.Proofs.YtoppcpiheaedlaaGreatDoor
end
section
/-
  The document's own disk: the directory is made safe.
-/
namespace Go.Proofs.YtoppcpiheaedlaaGreatDoor
open Go.RowKit
set_option linter.unusedVariables false
set_option linter.unusedSimpArgs false
attribute [local go_sem] sv nv
theorem RD.keepQ {W : World} {q : Nat} {s : Ds} {x : RDv} {nx : Nat} (h : RD W q s x nx) (i : Nat) (u : Value) {B e k n : Nat} {v : Value} {xs : List Value} (hv : W.ownsRow B e k v n xs) (he : e ≠ 76) : (W.setCell ⟨q, i, none⟩ u).ownsRow B e k v n xs :=
 own_but hv (But.setCell (But.refl' (fun k => k = q) _) _ _ rfl) fun j hj hn => own_ne hv h.row (fun e' => he e'.symm) (by rw [hj, hn])
theorem RD.keepBQ {W : World} {q : Nat} {s : Ds} {x : RDv} {nx : Nat} (h : RD W q s x nx) (i : Nat) (u : Value) {v : Value} {l : List UInt8} (hv : Byt W v l) (h0 : 0 < l.length) (hn : ∀ k, v.ownBlock = some k → ¬ mutB q x k) : Byt (W.setCell ⟨q, i, none⟩ u) v l :=
 byt_own hv fun k hk => (But.setCell (But.refl' (fun k => k = q) W) ⟨q, i, none⟩ u rfl).block k (byt_lt hv h0 k hk) fun hx => hn k hk (.inl hx)
theorem RD.secB {W : World} {q : Nat} {s : Ds} {x : RDv} {nx : Nat} (h : RD W q s x nx) (c : Nat) (u : Value) (i j : Nat) (hi : i < s.fls.length) (hj : j < (secs s i).length) : Byt (W.setCell ⟨q, c, none⟩ u) ((x.sp.getD i []).getD j undef) ((secs s i).getD j []) := by
 refine h.keepBQ c u (h.byt i j hi hj) ?_ (h.out.2 (x.sp.getD i []) (getD_mem _ _ _ (by rw [h.spl]; exact hi)) _ (getD_mem _ _ _ (by have := (h.sec i hi).1; omega)))
 have h64 : ((secs s i).getD j []).length = 64 := (h.wf.sec _ (getD_mem s.fls i [] hi)).2 _ (getD_mem _ _ _ hj)
 omega
theorem RD.pendB {W : World} {q : Nat} {s : Ds} {x : RDv} {nx : Nat} (h : RD W q s x nx) (c : Nat) (u : Value) (j : Nat) (hj : j < s.wrs.length) : Byt (W.setCell ⟨q, c, none⟩ u) (x.ps.getD j undef) (s.wrs[j]).p := by
 refine h.keepBQ c u (h.pend j hj) ?_ (h.out.1 _ (getD_mem x.ps j undef (by rw [h.psl]; exact hj)))
 have h64 : ((s.wrs[j]'hj).p).length = 64 := (h.wf.wrs _ (List.getElem_mem hj)).2.2
 omega
theorem RD.setDir {W : World} {q : Nat} {s : Ds} {x : RDv} (h : RD W q s x) (v : Value) (d : List (Nm × Nat)) (hv : EntR W v d) (hd : ∀ e ∈ d, e.2 < s.fls.length) (hl : d.length ≤ 1000000) :
 RD (W.setCell ⟨q, 1, none⟩ v) q { s with dir := d } { x with vd := v } where
 row := row_setCell h.row 1 v
 dir := h.keepQ 1 v hv (by decide)
 chs := h.keepQ 1 v h.chs (by decide)
 ssl := h.ssl
 fls := h.keepQ 1 v h.fls (by decide)
 psl := h.psl
 wrs := h.keepQ 1 v h.wrs (by decide)
 spl := h.spl
 sec := fun i hi => h.keepQ 1 v (h.sec i hi) (by decide)
 byt := h.secB 1 v
 pend := h.pendB 1 v
 out := h.out
 dis := h.dis
 wf := ⟨hd, h.wf.chs, h.wf.wrs, h.wf.sec, h.wf.room⟩
 aft := h.aft
 small := ⟨hl, h.small.2⟩
theorem RD.noChs {W : World} {q : Nat} {s : Ds} {x : RDv} (h : RD W q s x) :
 RD (W.setCell ⟨q, 2, none⟩ (.slice none 0 0)) q { s with chs := [] } { x with vc := .slice none 0 0 } where
 row := row_setCell h.row 2 _
 dir := h.keepQ 2 _ h.dir (by decide)
 chs := World.ownsRow_nil _ 0 _ 4
 ssl := h.ssl
 fls := h.keepQ 2 _ h.fls (by decide)
 psl := h.psl
 wrs := h.keepQ 2 _ h.wrs (by decide)
 spl := h.spl
 sec := fun i hi => h.keepQ 2 _ (h.sec i hi) (by decide)
 byt := h.secB 2 _
 pend := h.pendB 2 _
 out := by
  have hm : ∀ k, mutB q { x with vc := .slice none 0 0 } k → mutB q x k := by
   intro k hk
   rcases hk with hk | hk | hk
   · exact .inl hk
   · simp [Value.ownBlock] at hk
   · exact .inr (.inr hk)
  exact ⟨fun v hv k hk hmm => h.out.1 v hv k hk (hm k hmm), fun l hl v hv k hk hmm => h.out.2 l hl v hv k hk (hm k hmm)⟩
 dis := h.dis
 wf := ⟨h.wf.dir, fun c hc => by simp at hc, h.wf.wrs, h.wf.sec, h.wf.room⟩
 aft := h.aft
 small := ⟨h.small.1, by simp, h.small.2.2⟩
theorem Turn.dir {W W' : World} {q : Nat} {x : RDv} (v : Value) (hv : v.ownBlock = x.vd.ownBlock ∨ ∀ j, v.ownBlock = some j → W.heap.size ≤ j) (hb : But (fun k => k = q) W W') : Turn q x { x with vd := v, vc := .slice none 0 0 } W W' := by
 have hm : ∀ k, mutB q { x with vd := v, vc := .slice none 0 0 } k → mutB q x k := by
  intro k hk
  rcases hk with hk | hk | hk
  · exact .inl hk
  · simp [Value.ownBlock] at hk
  · exact .inr (.inr hk)
 refine ⟨fun k hk => .inl (hm k hk), fun k hk => ?_, hb.mono fun k hk => .inl hk⟩
 rcases hk with hk | hk | hk
 · exact .inl (.inl (hm k hk))
 · rcases hv with h | h
   · exact .inl (.inr (.inl (h.symm.trans hk)))
   · exact .inr (h k hk)
 · exact .inl (.inr (.inr hk))
set_option maxRecDepth 100000 in
set_option maxHeartbeats 1000000 in
theorem refSyncDir (q : Nat) (s : Ds) (x : RDv) (w : World) (h : RD w q s x) (hsm : s.dir.length + s.chs.length ≤ 1000000) :
 Calls Tryz.prog 47 #[.pointer (some ⟨q, 0, none⟩)] w fun e w' => e = .returned (.int .i64 (syncDirF s).1) ∧ ∃ x', RD w' q (syncDirF s).2 x' ∧ Turn q x x' w w' := by
 have HF := Lib.hid (refFails q s x w h)
 have Hsm := Lib.hid (show (nowF (failsF s).2).length ≤ 1000000 by
  have := foldl_len (failsF s).2.chs (failsF s).2.dir
  rw [(failsF_lens s).1, (failsF_lens s).2.2.2.1] at this
  unfold nowF
  rw [(failsF_lens s).1, (failsF_lens s).2.2.2.1]
  omega)
 obtain ⟨fc, hfc⟩ : ∃ y, (failsF s).1 = y := ⟨_, rfl⟩
 obtain ⟨s1, hs1⟩ : ∃ y, (failsF s).2 = y := ⟨_, rfl⟩
 by_cases hf : fc = 0
 · have Hr : Hid (syncDirF s = (0, { s1 with dir := nowF s1, chs := [] })) := by
    show _ = _
    unfold syncDirF
    rw [guardF_yes (by rw [hfc, hf]), hs1]
   rw [hfc, hs1] at HF
   rw [hs1] at Hsm
   clear h hfc hs1 hsm
   subst hf
   go_enter Tryz.func47, Tryz.ntmps47
   go_wp2_with fail
   refine HF.out.mono ?_
   rintro e w1 ⟨rfl, hR, hB⟩
   have HR := Lib.hid hR
   have HT := Lib.hid (Turn.ofBut (x := x) hB)
   have HN := Lib.hid hR.nowS
   clear hR hB HF
   go_wp2_with fail
   refine HN.out.mono ?_
   rintro e w2 ⟨v, rfl, hE, hG, hv⟩
   obtain ⟨a, cap, rfl⟩ := own_form hE
   have hR2 := HR.out.grows hG
   have hD := hR2.setDir _ _ hE hR2.wf.now Hsm.out
   have c1 := hR2.cell 1 x.vd rfl
   have f1 := hR2.frozen 1
   have c2 := hD.cell 2 x.vc rfl
   have f2 := hD.frozen 2
   have HA := Lib.hid hD.noChs
   have HT2 : Hid (Turn q x { x with vd := .slice a (nowF s1).length cap, vc := .slice none 0 0 } w (((w2.setCell ⟨q, 1, none⟩ (.slice a (nowF s1).length cap)).setCell ⟨q, 2, none⟩ (.slice none 0 0)))) :=
    HT.out.trans (Turn.dir _ hv ((But.ofGrows hG).trans' (But.setCell (O := fun k => k = q) (But.setCell (O := fun k => k = q) (But.refl' _ w2) ⟨q, 1, none⟩ _ rfl) ⟨q, 2, none⟩ _ rfl)))
   obtain ⟨ln, Hln⟩ : ∃ y, Hid ((nowF s1).length = y) := ⟨_, rfl⟩
   rw [Hln.out] at HA HT2 c2 f2 ⊢
   clear hE hG hv hR2 hD
   go_wp2
   go_ret
   refine ⟨by rw [Hr.out]; rfl, { x with vd := .slice a ln cap, vc := .slice none 0 0 }, by rw [Hr.out]; exact HA.out, HT2.out⟩
 · have Hr : Hid (syncDirF s = (fc, s1)) := by show _ = _; unfold syncDirF; rw [guardF_no (by rw [hfc]; exact hf), ← hfc, ← hs1]
   rw [hfc, hs1] at HF
   clear h hfc hs1 hsm
   go_enter Tryz.func47, Tryz.ntmps47
   go_wp2_with fail
   refine HF.out.mono ?_
   rintro e w1 ⟨rfl, hR, hB⟩
   have HR := Lib.hid hR
   have HB := Lib.hid hB
   clear hR hB
   go_wp2
   go_ret
   exact ⟨by rw [Hr.out]; rfl, x, by rw [Hr.out]; exact HR.out, Turn.ofBut HB.out⟩
end Go.Proofs.YtoppcpiheaedlaaGreatDoor
end
section
/-
  The document's own disk: what a kept write makes of a disk.
-/
namespace Go.Proofs.YtoppcpiheaedlaaGreatDoor
open Go.RowKit
set_option linter.unusedVariables false
set_option linter.unusedSimpArgs false
attribute [local go_sem] sv nv
theorem getD_lset {α : Type} (l : List α) (i j : Nat) (a d : α) (h : i < l.length) : (l.set i a).getD j d = if j = i then a else l.getD j d := by
 rw [List.getD, List.getElem?_set]
 by_cases e : i = j
 · subst e; simp [h]
 · rw [if_neg e, if_neg (fun h => e h.symm), List.getD]
theorem own_set {W : World} {e g n cap : Nat} {xs : List Value} (h : W.ownsRow 0 e 1 (.slice (some ⟨g, 0, none⟩) n cap) n xs) (i : Nat) (hi : i < n) (u : Value) : (W.setCell ⟨g, i, none⟩ u).ownsRow 0 e 1 (.slice (some ⟨g, 0, none⟩) n cap) n (xs.set i u) := by
 refine ⟨by rw [List.length_set]; exact h.1, ?_⟩
 rcases h.2 with ⟨h0, _⟩ | ⟨g', cap', cur, e1, hb, hg, hn, hc, hs, ht⟩
 · cases h0
 · simp only [Value.slice.injEq, Option.some.injEq, Addr.mk.injEq] at e1
   obtain ⟨⟨rfl, -, -⟩, -, rfl⟩ := e1
   refine .inr ⟨g, cap, cur.setIfInBounds i u, rfl, hb, row_setCell hg i u, hn, hc, by simpa using hs, ?_⟩
   rw [Array.toList_setIfInBounds, List.take_set, ht]
theorem RD.keepW {W : World} {q : Nat} {s : Ds} {x : RDv} (h : RD W q s x) (c : Wr) (hid : c.id < s.fls.length) (hn : c.n < (secs s c.id).length) (h64 : c.p.length = 64) {gs cs : Nat}
 (hss : x.ss.getD c.id undef = .slice (some ⟨gs, 0, none⟩) (secs s c.id).length cs) (u : Value) (hu : Byt W u c.p) (huo : ∀ k, u.ownBlock = some k → ¬ mutB q x k) (huu : ∀ k, u.ownBlock = some k → useB q x k) :
 RD (W.setCell ⟨gs, c.n, none⟩ u) q { s with fls := keepF s.fls c } { x with sp := x.sp.set c.id ((x.sp.getD c.id []).set c.n u) } ∧ Turn q x { x with sp := x.sp.set c.id ((x.sp.getD c.id []).set c.n u) } W (W.setCell ⟨gs, c.n, none⟩ u) := by
 have hsi := h.sec c.id hid
 rw [hss] at hsi
 have hgm : mutB q x gs := .inr (.inr (.inr (.inr ⟨_, getD_mem x.ss c.id undef (by rw [h.ssl]; exact hid), by rw [hss]; rfl⟩)))
 have hB : But (fun k => k = gs) W (W.setCell ⟨gs, c.n, none⟩ u) := But.setCell (But.refl' _ _) _ _ rfl
 have hqg : q ≠ gs := fun e => own_ne hsi h.row (by decide) (by rw [e]; rfl)
 have keep : ∀ {B e k n : Nat} {v : Value} {xs : List Value}, W.ownsRow B e k v n xs → e ≠ 36 → (W.setCell ⟨gs, c.n, none⟩ u).ownsRow B e k v n xs := fun hv h1 =>
  own_but hv hB fun j hj hn => own_ne2 hv hsi h1 j hj (by rw [hn]; rfl)
 have keepB : ∀ {v : Value} {l : List UInt8}, Byt W v l → l.length = 64 → (∀ k, v.ownBlock = some k → ¬ mutB q x k) → Byt (W.setCell ⟨gs, c.n, none⟩ u) v l := fun hv h0 hn =>
  byt_own hv fun k hk => hB.block k (byt_lt hv (by omega) k hk) fun hx => hn k hk (by rw [hx]; exact hgm)
 have hfl : (keepF s.fls c).length = s.fls.length := by unfold keepF; rw [List.length_set]
 have hsec : ∀ i, secs { s with fls := keepF s.fls c } i = if i = c.id then (secs s c.id).set c.n c.p else secs s i := fun i => getD_lset s.fls c.id i _ [] hid
 have hspd : ∀ i, (x.sp.set c.id ((x.sp.getD c.id []).set c.n u)).getD i [] = if i = c.id then (x.sp.getD c.id []).set c.n u else x.sp.getD i [] := fun i => getD_lset x.sp c.id i _ [] (by rw [h.spl]; exact hid)
 have hsl : ∀ i, (secs { s with fls := keepF s.fls c } i).length = (secs s i).length := fun i => by
  rw [hsec]
  by_cases e : i = c.id
  · rw [if_pos e, List.length_set, e]
  · rw [if_neg e]
 have hspl : (x.sp.getD c.id []).length = (secs s c.id).length := by have := (h.sec c.id hid).1; omega
 have hsecm : ∀ i, i < s.fls.length → ∀ p ∈ secs s i, p.length = 64 := fun i hi p hp => (h.wf.sec _ (getD_mem s.fls i [] hi)).2 p hp
 have hmem : ∀ l ∈ x.sp.set c.id ((x.sp.getD c.id []).set c.n u), ∀ v ∈ l, v = u ∨ ∃ l' ∈ x.sp, v ∈ l' := by
  intro l hl v hv
  rcases List.mem_or_eq_of_mem_set hl with h' | h'
  · exact .inr ⟨l, h', hv⟩
  · rw [h'] at hv
    rcases List.mem_or_eq_of_mem_set hv with h'' | h''
    · exact .inr ⟨_, getD_mem x.sp c.id [] (by rw [h.spl]; exact hid), h''⟩
    · exact .inl h''
 refine ⟨⟨?_, keep h.dir (by decide), keep h.chs (by decide), ?_, ?_, h.psl, keep h.wrs (by decide), ?_, ?_, ?_, ?_, ⟨h.out.1, ?_⟩, ?_, ⟨?_, ?_, ?_, ?_, h.wf.room⟩, h.aft, ?_⟩, fun k hk => .inl hk, ?_, hB.mono fun k hk => by rw [hk]; exact hgm⟩
 · show (W.setCell _ _).heap[q]? = some (.cells (rdRow _ _ (keepF s.fls c).length) _ _)
   rw [hfl]
   exact (hB.block q (h.lt (.inl rfl)) hqg).trans h.row
 · show x.ss.length = (keepF s.fls c).length
   rw [hfl]; exact h.ssl
 · show World.ownsRow _ _ _ _ _ (keepF s.fls c).length _
   rw [hfl]; exact keep h.fls (by decide)
 · show (x.sp.set _ _).length = (keepF s.fls c).length
   rw [hfl, List.length_set]; exact h.spl
 · intro i hi
   have hi' : i < s.fls.length := by rw [← hfl]; exact hi
   show World.ownsRow _ _ _ _ (x.ss.getD i undef) _ ((x.sp.set _ _).getD i [])
   rw [hsl, hspd]
   by_cases e : i = c.id
   · rw [if_pos e, e, hss]
     exact own_set hsi c.n hn u
   · rw [if_neg e]
     refine own_but (h.sec i hi') hB fun j hj hn => ?_
     have e1 : (x.ss.getD c.id undef).ownBlock = some j := by rw [hss, hn]; rfl
     rcases Nat.lt_or_gt_of_ne e with hl | hl
     · exact h.dis i c.id hl hid j hj e1
     · exact h.dis c.id i hl hi' j e1 hj
 · intro i j hi hj
   have hi' : i < s.fls.length := by rw [← hfl]; exact hi
   have hj' : j < (secs s i).length := by rw [← hsl]; exact hj
   show Byt _ (((x.sp.set _ _).getD i []).getD j undef) _
   have hold : Byt (W.setCell ⟨gs, c.n, none⟩ u) ((x.sp.getD i []).getD j undef) ((secs s i).getD j []) :=
    keepB (h.byt i j hi' hj') (hsecm i hi' _ (getD_mem _ _ _ hj')) (h.out.2 (x.sp.getD i []) (getD_mem _ _ _ (by rw [h.spl]; exact hi')) _ (getD_mem _ _ _ (by have := (h.sec i hi').1; omega)))
   rw [hsec, hspd]
   by_cases e : i = c.id
   · rw [if_pos e, if_pos e, getD_lset _ _ _ _ _ (by rw [hspl]; exact hn), getD_lset _ _ _ _ _ hn]
     by_cases e2 : j = c.n
     · rw [if_pos e2, if_pos e2]
       exact keepB hu h64 huo
     · rw [if_neg e2, if_neg e2, ← e]
       exact hold
   · rw [if_neg e, if_neg e]
     exact hold
 · intro j hj
   exact keepB (h.pend j hj) (h.wf.wrs _ (List.getElem_mem hj)).2.2 (h.out.1 _ (getD_mem x.ps j undef (by rw [h.psl]; exact hj)))
 · intro l hl v hv k hk hmm
   rcases hmem l hl v hv with rfl | ⟨l', hl', hv'⟩
   · exact huo k hk hmm
   · exact h.out.2 l' hl' v hv' k hk hmm
 · intro i j hij hj
   exact h.dis i j hij (by rw [← hfl]; exact hj)
 · intro e he
   show e.2 < (keepF s.fls c).length
   rw [hfl]; exact h.wf.dir e he
 · intro c' hc' h0
   show c'.id < (keepF s.fls c).length
   rw [hfl]; exact h.wf.chs c' hc' h0
 · intro w hw
   have := h.wf.wrs w hw
   rw [hsl]
   exact ⟨by show w.id < (keepF s.fls c).length; rw [hfl]; exact this.1, this.2⟩
 · intro f hf
   rcases List.mem_or_eq_of_mem_set hf with h' | h'
   · exact h.wf.sec f h'
   · have hold := h.wf.sec _ (getD_mem s.fls c.id [] hid)
     rw [h', List.length_set]
     refine ⟨hold.1, fun p hp => ?_⟩
     rcases List.mem_or_eq_of_mem_set hp with h'' | h''
     · exact hold.2 p h''
     · rw [h'']; exact h64
 · have := h.small
   refine ⟨this.1, this.2.1, ?_, this.2.2.2⟩
   show (keepF s.fls c).length ≤ _
   rw [hfl]; exact this.2.2.1
 · intro k hk
   rcases hk with hk | hk | hk | ⟨l, hl, v, hv, hk⟩
   · exact .inl (.inl hk)
   · exact .inl (.inr (.inl hk))
   · exact .inl (.inr (.inr (.inl hk)))
   · rcases hmem l hl v hv with rfl | ⟨l', hl', hv'⟩
     · exact .inl (huu k hk)
     · exact .inl (.inr (.inr (.inr ⟨l', hl', v, hv', hk⟩)))
end Go.Proofs.YtoppcpiheaedlaaGreatDoor
end
section
/-
  The document's own disk: a write is kept.
-/
namespace Go.Proofs.YtoppcpiheaedlaaGreatDoor
open Go.RowKit
set_option linter.unusedVariables false
set_option linter.unusedSimpArgs false
attribute [local go_sem] sv nv
set_option maxRecDepth 100000 in
set_option maxHeartbeats 1000000 in
theorem refKeep (q : Nat) (s : Ds) (x : RDv) (c : Wr) (u : Value) (w : World) (h : RD w q s x) (hid : c.id < s.fls.length) (hn : c.n < (secs s c.id).length) (h64 : c.p.length = 64)
 (hu : Byt w u c.p) (huo : ∀ k, u.ownBlock = some k → ¬ mutB q x k) (huu : ∀ k, u.ownBlock = some k → useB q x k) :
 Calls Tryz.prog 90 #[.pointer (some ⟨q, 0, none⟩), .agg #[nv c.id, nv c.n, u]] w fun e w' => e = .returned (.tuple #[]) ∧ ∃ sp', RD w' q { s with fls := keepF s.fls c } { x with sp := sp' } ∧ Turn q x { x with sp := sp' } w w' ∧ ∀ k, useB q { x with sp := sp' } k → useB q x k := by
 have hmx : Tryz.prog.follows .mixedOrders = true := by kernel_rfl
 obtain ⟨id, m, p⟩ := c
 obtain ⟨au, cu, rfl⟩ := hu.slice
 have H := Lib.hid h
 have Hid' := Lib.hid hid
 have Hn := Lib.hid hn
 have H64 := Lib.hid h64
 have Hu := Lib.hid hu
 have Huo := Lib.hid huo
 have Huu := Lib.hid huu
 obtain ⟨pl, Hpl⟩ : ∃ y, Hid (p.length = y) := ⟨_, rfl⟩
 have hg1 := Grows.alloc' w (.cells #[nv id, nv m, .slice au p.length cu] 168)
 have h0 := heap_alloc_new w (.cells #[nv id, nv m, .slice au p.length cu] 168)
 have b0 : (w.alloc (.cells #[nv id, nv m, .slice au p.length cu] 168)).cell? ⟨w.heap.size, 0, none⟩ = some (.int .i64 (id : Int)) := by rw [cell_of_row _ _ 0 _ _ _ h0]; rfl
 have b1 : (w.alloc (.cells #[nv id, nv m, .slice au p.length cu] 168)).cell? ⟨w.heap.size, 1, none⟩ = some (.int .i64 (m : Int)) := by rw [cell_of_row _ _ 1 _ _ _ h0]; rfl
 have b2 : (w.alloc (.cells #[nv id, nv m, .slice au p.length cu] 168)).cell? ⟨w.heap.size, 2, none⟩ = some (.slice au p.length cu) := by rw [cell_of_row _ _ 2 _ _ _ h0]; rfl
 clear h hid hn h64 hu huo huu h0
 go_enter Tryz.func90, Tryz.ntmps90
 go_wp2
 change Code.wp _ _ _ _ (w.alloc (.cells #[nv id, nv m, .slice au p.length cu] 168))
 obtain ⟨gb, hgb⟩ : ∃ n, w.heap.size = n := ⟨_, rfl⟩
 obtain ⟨wb, hwb⟩ : ∃ x, w.alloc (.cells #[nv id, nv m, .slice au p.length cu] 168) = x := ⟨_, rfl⟩
 rw [hwb] at b0 b1 b2 hg1 ⊢
 rw [hgb] at b0 b1 b2 ⊢
 have H1 : Hid (RD wb q s x) := H.out.grows hg1
 have HT1 : Hid (Turn q x x w wb) := Turn.ofGrows hg1
 have Hub : Hid (Byt wb (.slice au p.length cu) p) := Hu.out.grows hg1
 obtain ⟨gs, cs, v0, es, hcs, -⟩ := H1.out.sect id m Hid'.out Hn.out
 obtain ⟨gf, kf, af, cf, -, Hss, c3, c5⟩ := H1.out.file id Hid'.out
 have e2 := Hss.symm.trans es
 simp only [Value.slice.injEq] at e2
 obtain ⟨rfl, -, rfl⟩ := e2
 have Hcs := Lib.hid hcs
 have Hes := Lib.hid es
 obtain ⟨L, HL⟩ : ∃ n, Hid ((secs s id).length = n) := ⟨_, rfl⟩
 obtain ⟨nf, Hnf⟩ : ∃ n, Hid (s.fls.length = n) := ⟨_, rfl⟩
 rw [HL.out] at c5
 rw [Hnf.out] at c3
 have hlm : (m : Int) < (L : Int) := by have h1 : m < (secs s id).length := Hn.out; have := HL.out; omega
 have hbl : ¬ (L : Int) ≤ (m : Int) := by omega
 have hidn : (id : Int) < (nf : Int) := by have h1 : id < s.fls.length := Hid'.out; have := Hnf.out; omega
 have hbi : ¬ (nf : Int) ≤ (id : Int) := by omega
 have Hlt : Hid (id < s.fls.length) := Hid'.out
 clear hwb hgb hg1 hcs es Hss
 have cX := fun X (hX : Grows _ X) => And.intro (Grows.cell' hX c3) (And.intro (Grows.cell' hX c5) (And.intro (Grows.cell' hX b0) (And.intro (Grows.cell' hX b1) (Grows.cell' hX b2))))
 refine specs_last 16
  #[[], [0], [0, 1], [0, 1, 2], [], [], [5], [4, 5, 6], [0, 1, 2, 3, 4, 5, 6, 7], [0, 1, 2, 3, 4, 5, 6, 7, 8], [0, 1, 2, 3, 4, 5, 6, 7, 8, 9], [], [11], [], [13], [0, 1, 2, 3, 4, 5, 6, 7, 8, 9, 10, 11, 12, 13, 14], [0, 1, 2, 3, 4, 5, 6, 7, 8, 9, 10, 11, 12, 13, 14, 15]] #[[0], [], [], [], [0], [3], [], [], [], [], [], [3], [], [3], [], [], []] #[true, true, true, true, true, true, true, true, true, true, true, true, true, true, true, true, true]
  ((.val ?v0) :: (.val ?v1) :: (.val ?v2) :: (.val ?v3) :: (.val ?v4) :: (.val ?v5) :: (.val ?v6) :: (.val ?v7) :: (.val ?v8) :: (.val ?v9) :: (.val ?v10) :: (.val ?v11) :: (.val ?v12) :: (.val ?v13) :: (.val ?v14) :: (.val ?v15) :: (.any) :: []).toArray
  hmx ?chk ?grd rfl ?stp ?rst
 case chk => rfl
 case stp =>
  refine ⟨?_, ?_, ?_, ?_, ?_, ?_, ?_, ?_, ?_, ?_, ?_, ?_, ?_, ?_, ?_, ?_, ?_, trivial⟩
  · refine stepO 0 ?v0 rfl (fun _ _ => rfl) rfl (fun _ => rfl) (by decide) ?_; show (.pointer (some ⟨q, 0, none⟩) : Value) = _; rfl
  · refine stepR (o := ⟨_, .nilCheck (.tmp 4), _, _, _, _⟩) ?v1 rfl rfl (fun _ => rfl) fun ρ X hc hf hgl hX hp ho => ?_; have k4 : ρ (.tmp 4) = ?v0 := hp 0 (by decide); clear hp ho hX; go_simp; (all_goals rfl)
  · refine stepR (o := ⟨_, .fieldAddr 76 (.tmp 5) 3, _, _, _, _⟩) ?v2 rfl rfl (fun _ => rfl) fun ρ X hc hf hgl hX hp ho => ?_; have k5 : ρ (.tmp 5) = ?v1 := hp 1 (by decide); clear hp ho hX; go_simp; (all_goals rfl)
  · refine stepR (o := ⟨_, .load 73 (.tmp 6), _, _, _, _⟩) ?v3 rfl rfl (fun _ => rfl) fun ρ X hc hf hgl hX hp ho => ?_; have k6 : ρ (.tmp 6) = ?v2 := hp 2 (by decide); have cX := cX X hX; clear hp ho hX; go_simp; (all_goals rfl)
  · refine stepO 0 ?v4 rfl (fun _ _ => rfl) rfl (fun _ => rfl) (by decide) ?_; show (.pointer (some ⟨q, 0, none⟩) : Value) = _; rfl
  · refine stepR (o := ⟨_, .fieldAddr 168 (.tmp 3) 0, _, _, _, _⟩) ?v5 rfl rfl (fun _ => rfl) fun ρ X hc hf hgl hX hp ho => ?_; have k3 : ρ (.tmp 3) = .pointer (some ⟨gb, 0, none⟩) := ho 3 (by decide); clear hp ho hX; go_simp; (all_goals rfl)
  · refine stepR (o := ⟨_, .load 3 (.tmp 9), _, _, _, _⟩) ?v6 rfl rfl (fun _ => rfl) fun ρ X hc hf hgl hX hp ho => ?_; have k9 : ρ (.tmp 9) = ?v5 := hp 5 (by decide); have cX := cX X hX; clear hp ho hX; go_simp; (all_goals rfl)
  · refine step_intro rfl rfl fun ρ X hc hf hgl hX hp ho => ?_
    change StepOk _ ⟨_, .call { callee := .value (.func 62), args := #[.tmp 8, .tmp 10], argTypes := #[30, 3] }, _, _, _, _⟩ _ _ _
    have k8 : ρ (.tmp 8) = ?v4 := hp 4 (by decide)
    have k10 : ρ (.tmp 10) = ?v6 := hp 6 (by decide)
    clear hp ho
    refine StepOk.of_call (f := 62) (args := #[?v4, ?v6]) (w' := X) ?_ ((H1.out.grows hX).at id Hlt.out) ?_
    · go_simp
      all_goals try go_bits
      all_goals try rfl
    · rintro e w'' ⟨rfl, rfl⟩; refine ⟨_, rfl, ?_, Below.refl _ _⟩; show _ = ?v7; rfl
  · refine stepR (o := ⟨_, .indexAddr 73 (.tmp 7) (.tmp 11), _, _, _, _⟩) ?v8 rfl rfl (fun _ => rfl) fun ρ X hc hf hgl hX hp ho => ?_; have k7 : ρ (.tmp 7) = ?v3 := hp 3 (by decide); have k11 : ρ (.tmp 11) = ?v7 := hp 7 (by decide); clear hp ho hX; go_simp; (all_goals try go_bits); (all_goals try simp only [IntWalk.iteOmega]); (all_goals try go_bits); (all_goals rfl)
  · refine stepR (o := ⟨_, .fieldAddr 116 (.tmp 12) 1, _, _, _, _⟩) ?v9 rfl rfl (fun _ => rfl) fun ρ X hc hf hgl hX hp ho => ?_; have k12 : ρ (.tmp 12) = ?v8 := hp 8 (by decide); clear hp ho hX; go_simp; (all_goals rfl)
  · refine stepR (o := ⟨_, .load 114 (.tmp 13), _, _, _, _⟩) ?v10 rfl rfl (fun _ => rfl) fun ρ X hc hf hgl hX hp ho => ?_; have k13 : ρ (.tmp 13) = ?v9 := hp 9 (by decide); have cX := cX X hX; clear hp ho hX; go_simp; (all_goals rfl)
  · refine stepR (o := ⟨_, .fieldAddr 168 (.tmp 3) 1, _, _, _, _⟩) ?v11 rfl rfl (fun _ => rfl) fun ρ X hc hf hgl hX hp ho => ?_; have k3 : ρ (.tmp 3) = .pointer (some ⟨gb, 0, none⟩) := ho 3 (by decide); clear hp ho hX; go_simp; (all_goals rfl)
  · refine stepR (o := ⟨_, .load 3 (.tmp 15), _, _, _, _⟩) ?v12 rfl rfl (fun _ => rfl) fun ρ X hc hf hgl hX hp ho => ?_; have k15 : ρ (.tmp 15) = ?v11 := hp 11 (by decide); have cX := cX X hX; clear hp ho hX; go_simp; (all_goals rfl)
  · refine stepR (o := ⟨_, .fieldAddr 168 (.tmp 3) 2, _, _, _, _⟩) ?v13 rfl rfl (fun _ => rfl) fun ρ X hc hf hgl hX hp ho => ?_; have k3 : ρ (.tmp 3) = .pointer (some ⟨gb, 0, none⟩) := ho 3 (by decide); clear hp ho hX; go_simp; (all_goals rfl)
  · refine stepR (o := ⟨_, .load 36 (.tmp 17), _, _, _, _⟩) ?v14 rfl rfl (fun _ => rfl) fun ρ X hc hf hgl hX hp ho => ?_; have k17 : ρ (.tmp 17) = ?v13 := hp 13 (by decide); have cX := cX X hX; clear hp ho hX; go_simp; (all_goals rfl)
  · refine stepR (o := ⟨_, .indexAddr 114 (.tmp 14) (.tmp 16), _, _, _, _⟩) ?v15 rfl rfl (fun _ => rfl) fun ρ X hc hf hgl hX hp ho => ?_; have k14 : ρ (.tmp 14) = ?v10 := hp 10 (by decide); have k16 : ρ (.tmp 16) = ?v12 := hp 12 (by decide); clear hp ho hX; go_simp; (all_goals try go_bits); (all_goals try simp only [IntWalk.iteOmega]); (all_goals try go_bits); (all_goals rfl)
  · exact last_intro rfl
 case grd => rfl
 case rst =>
  intro a0 X hb
  have hfr := hb.frame ((4, ?v0) :: (5, ?v1) :: (6, ?v2) :: (7, ?v3) :: (8, ?v4) :: (9, ?v5) :: (10, ?v6) :: (11, ?v7) :: (12, ?v8) :: (13, ?v9) :: (14, ?v10) :: (15, ?v11) :: (16, ?v12) :: (17, ?v13) :: (18, ?v14) :: (19, ?v15) :: []) rfl ⟨hb.done' 0 4 rfl rfl, hb.done' 1 5 rfl rfl, hb.done' 2 6 rfl rfl, hb.done' 3 7 rfl rfl, hb.done' 4 8 rfl rfl, hb.done' 5 9 rfl rfl, hb.done' 6 10 rfl rfl, hb.done' 7 11 rfl rfl, hb.done' 8 12 rfl rfl, hb.done' 9 13 rfl rfl, hb.done' 10 14 rfl rfl, hb.done' 11 15 rfl rfl, hb.done' 12 16 rfl rfl, hb.done' 13 17 rfl rfl, hb.done' 14 18 rfl rfl, hb.done' 15 19 rfl rfl, trivial⟩
  simp only [updL, ↓reduceIte, Nat.reduceEqDiff, Nat.reduceAdd, Nat.zero_add] at hfr
  have HX := Lib.hid hb.ext
  clear hb cX
  subst hfr
  change StepOk _ { dst := _, op := Op.store 36 (Operand.tmp 19) (Operand.tmp 18), type := _, pos := _, after := _, guard := _ } _ _ _
  have HX1 : Hid (RD X q s x) := H1.out.grows HX.out
  have cX := HX.out.cell' Hcs.out
  have hrX : ∃ cur T, X.heap[gs]? = some (.cells cur T (0, 0)) := by have hs := HX1.out.sec id Hlt.out; rw [Hes.out] at hs; rcases hs.2 with ⟨h0, _⟩ | ⟨g', _, cur, e1, _, hg, _⟩; cases h0; simp only [Value.slice.injEq, Option.some.injEq, Addr.mk.injEq] at e1; obtain ⟨⟨rfl, -, -⟩, -, -⟩ := e1; exact ⟨cur, _, hg⟩
  obtain ⟨cur, T, hrX⟩ := hrX
  have fX : X.frozen? ⟨gs, m, none⟩ = false := frozen_of_row X gs m _ _ hrX
  have hk := HX1.out.keepW ⟨id, m, p⟩ Hlt.out Hn.out H64.out Hes.out (.slice au p.length cu) (Hub.out.grows HX.out) Huo.out Huu.out
  have HK := Lib.hid hk
  have HT2 : Hid (Turn q x x w X) := HT1.out.trans (Turn.ofGrows HX.out)
  clear hk hrX c3 c5 b0 b1 b2 HX
  unfold StepOk
  simp [go_sem, execOp, cX, fX]
  go_wp2
  go_end0
  exact ⟨rfl, _, HK.out.1, HT2.out.trans HK.out.2, fun k hk => (HK.out.2.uses k hk).elim (fun h => h) fun hl => by have h8 := HK.out.1.ltU hk; have h9 : (X.setCell ⟨gs, m, none⟩ (.slice au p.length cu)).heap.size = X.heap.size := (by simp [World.setCell]); rw [h9] at h8; exact absurd h8 (by omega)⟩
end Go.Proofs.YtoppcpiheaedlaaGreatDoor
end
section
/-
  The document's own disk: what one more sector of a file makes of a disk.
-/
namespace Go.Proofs.YtoppcpiheaedlaaGreatDoor
open Go.RowKit
set_option linter.unusedVariables false
set_option linter.unusedSimpArgs false
attribute [local go_sem] sv nv
theorem own_setk {W : World} {e g n cap k : Nat} {xs : List Value} (h : W.ownsRow 0 e k (.slice (some ⟨g, 0, none⟩) n cap) n xs) (i : Nat) (u : Value) : (W.setCell ⟨g, i, none⟩ u).ownsRow 0 e k (.slice (some ⟨g, 0, none⟩) n cap) n (xs.set i u) := by
 refine ⟨by rw [List.length_set]; exact h.1, ?_⟩
 rcases h.2 with ⟨h0, _⟩ | ⟨g', cap', cur, e1, hb, hg, hn, hc, hs, ht⟩
 · cases h0
 · simp only [Value.slice.injEq, Option.some.injEq, Addr.mk.injEq] at e1
   obtain ⟨⟨rfl, -, -⟩, -, rfl⟩ := e1
   refine .inr ⟨g, cap, cur.setIfInBounds i u, rfl, hb, row_setCell hg i u, hn, hc, by simpa using hs, ?_⟩
   rw [Array.toList_setIfInBounds, List.take_set, ht]
theorem flP_set (ss : List Value) (id : Nat) (v : Value) (h : id < ss.length) : (flP (ss.set id v)).flatMap flC = ((flP ss).flatMap flC).set (id * 2 + 1) v := by
 refine List.ext_getElem? fun m => ?_
 have hm : m = m / 2 * 2 + m % 2 := by omega
 have hr : m % 2 < 2 := by omega
 rcases Nat.lt_or_ge (m / 2) ss.length with hl | hl
 · have h1 := flat_get flC 2 flC_len (flP (ss.set id v)) (m / 2) (m % 2) (by rw [flP_length, List.length_set]; exact hl) hr
   have h2 := flat_get flC 2 flC_len (flP ss) (m / 2) (m % 2) (by rw [flP_length]; exact hl) hr
   rw [← hm] at h1 h2
   have hfl := flP_length ss
   rw [h1, List.getElem?_set, flC_flat, h2]
   unfold flC
   rw [flP_fst, flP_snd, flP_fst, flP_snd, getD_lset _ _ _ _ _ h]
   by_cases e : m % 2 = 0
   · rw [e, if_neg (show ¬ id * 2 + 1 = m by omega)]; rfl
   · have e1 : m % 2 = 1 := by omega
     rw [e1]
     by_cases e2 : m / 2 = id
     · rw [if_pos e2, if_pos (show id * 2 + 1 = m by omega), if_pos (show id * 2 + 1 < (flP ss).length * 2 by omega)]; rfl
     · rw [if_neg e2, if_neg (show ¬ id * 2 + 1 = m by omega)]
 · rw [List.getElem?_eq_none (by rw [flC_flat, flP_length, List.length_set]; omega), List.getElem?_eq_none (by rw [List.length_set, flC_flat, flP_length]; omega)]
theorem RD.addSec {W W1 : World} {q : Nat} {s : Ds} {x : RDv} (h : RD W q s x) (id : Nat) (hid : id < s.fls.length) (v' u : Value) {gf kf : Nat} (hvf : x.vf = .slice (some ⟨gf, 0, none⟩) s.fls.length kf)
 (hb : But (fun k => (x.ss.getD id undef).ownBlock = some k) W W1) (ho : W1.ownsRow 0 36 1 v' ((secs s id).length + 1) (x.sp.getD id [] ++ [u])) (hun : Own 5 W.heap.size W1 u zero64)
 (hat : v'.ownBlock = (x.ss.getD id undef).ownBlock ∨ ∀ k, v'.ownBlock = some k → W.heap.size ≤ k) (hsm : (secs s id).length < 4096) :
 RD (W1.setCell ⟨gf, id * 2 + 1, none⟩ v') q { s with fls := s.fls.set id (secs s id ++ [zero64]) } { x with ss := x.ss.set id v', sp := x.sp.set id (x.sp.getD id [] ++ [u]) } ∧
 Turn q x { x with ss := x.ss.set id v', sp := x.sp.set id (x.sp.getD id [] ++ [u]) } W (W1.setCell ⟨gf, id * 2 + 1, none⟩ v') := by
 have hsi := h.sec id hid
 have hfl := h.fls
 have hgfo : x.vf.ownBlock = some gf := by rw [hvf]; rfl
 have hgl : gf < W.heap.size := own_lt hfl gf hgfo
 have hids : id < x.ss.length := by rw [h.ssl]; exact hid
 have hidp : id < x.sp.length := by rw [h.spl]; exact hid
 have hsm1 : ∀ k, (x.ss.getD id undef).ownBlock = some k → mutB q x k := fun k hk => .inr (.inr (.inr (.inr ⟨_, getD_mem x.ss id undef hids, hk⟩)))
 have hB : But (fun k => k = gf ∨ (x.ss.getD id undef).ownBlock = some k) W (W1.setCell ⟨gf, id * 2 + 1, none⟩ v') := But.setCell (hb.mono fun k hk => .inr hk) _ _ (.inl rfl)
 have hBm : ∀ k, (k = gf ∨ (x.ss.getD id undef).ownBlock = some k) → mutB q x k := fun k hk => hk.elim (fun e => .inr (.inr (.inl (by rw [e]; exact hgfo)))) (hsm1 k)
 have hqg : q ≠ gf := fun e => own_ne hfl h.row (by decide) (by rw [e]; exact hgfo)
 have hqs : (x.ss.getD id undef).ownBlock ≠ some q := own_ne hsi h.row (by decide)
 have hgs : (x.ss.getD id undef).ownBlock ≠ some gf := own_ne2 hfl hsi (by decide) gf hgfo
 have keep : ∀ {B e k n : Nat} {v : Value} {xs : List Value}, W.ownsRow B e k v n xs → e ≠ 116 → e ≠ 36 → (W1.setCell ⟨gf, id * 2 + 1, none⟩ v').ownsRow B e k v n xs := fun hv h1 h2 =>
  own_but hv hB fun j hj hn => by
   rcases hn with rfl | hn
   · exact own_ne2 hv hfl h1 _ hj hgfo
   · exact own_ne2 hv hsi h2 j hj hn
 have keepB : ∀ {v : Value} {l : List UInt8}, Byt W v l → l.length = 64 → (∀ k, v.ownBlock = some k → ¬ mutB q x k) → Byt (W1.setCell ⟨gf, id * 2 + 1, none⟩ v') v l := fun hv h0 hn =>
  byt_own hv fun k hk => hB.block k (byt_lt hv (by omega) k hk) fun hx => hn k hk (hBm k hx)
 have hsec : ∀ i, secs { s with fls := s.fls.set id (secs s id ++ [zero64]) } i = if i = id then secs s id ++ [zero64] else secs s i := fun i => getD_lset s.fls id i _ [] hid
 have hssd : ∀ i, (x.ss.set id v').getD i undef = if i = id then v' else x.ss.getD i undef := fun i => getD_lset x.ss id i _ undef hids
 have hspd : ∀ i, (x.sp.set id (x.sp.getD id [] ++ [u])).getD i [] = if i = id then x.sp.getD id [] ++ [u] else x.sp.getD i [] := fun i => getD_lset x.sp id i _ [] hidp
 have hspl : (x.sp.getD id []).length = (secs s id).length := by have := hsi.1; omega
 have hsecm : ∀ i, i < s.fls.length → ∀ p ∈ secs s i, p.length = 64 := fun i hi p hp => (h.wf.sec _ (getD_mem s.fls i [] hi)).2 p hp
 have hul : ∀ k, u.ownBlock = some k → W.heap.size ≤ k := fun k hk => own_base hun k hk
 have hm0 : ∀ k, mutB q { x with ss := x.ss.set id v', sp := x.sp.set id (x.sp.getD id [] ++ [u]) } k → mutB q x k ∨ v'.ownBlock = some k := by
  intro k hk
  rcases hk with hk | hk | hk | hk | ⟨v, hv, hk⟩
  · exact .inl (.inl hk)
  · exact .inl (.inr (.inl hk))
  · exact .inl (.inr (.inr (.inl hk)))
  · exact .inl (.inr (.inr (.inr (.inl hk))))
  · rcases List.mem_or_eq_of_mem_set hv with h' | h'
    · exact .inl (.inr (.inr (.inr (.inr ⟨v, h', hk⟩))))
    · rw [h'] at hk; exact .inr hk
 have hm : ∀ k, mutB q { x with ss := x.ss.set id v', sp := x.sp.set id (x.sp.getD id [] ++ [u]) } k → mutB q x k ∨ W.heap.size ≤ k := by
  intro k hk
  rcases hm0 k hk with hk | hk
  · exact .inl hk
  · rcases hat with h' | h'
    · exact .inl (hsm1 k (h'.symm.trans hk))
    · exact .inr (h' k hk)
 have hmem : ∀ l ∈ x.sp.set id (x.sp.getD id [] ++ [u]), ∀ v ∈ l, v = u ∨ ∃ l' ∈ x.sp, v ∈ l' := by
  intro l hl v hv
  rcases List.mem_or_eq_of_mem_set hl with h' | h'
  · exact .inr ⟨l, h', hv⟩
  · rw [h'] at hv
    rcases List.mem_append.1 hv with h'' | h''
    · exact .inr ⟨_, getD_mem x.sp id [] hidp, h''⟩
    · exact .inl (List.mem_singleton.1 h'')
 have hvn : ∀ j, j < s.fls.length → j ≠ id → ∀ k, (x.ss.getD j undef).ownBlock = some k → v'.ownBlock ≠ some k := by
  intro j hj hne k hk hv
  rcases hat with h' | h'
  · rcases Nat.lt_or_gt_of_ne hne with hl | hl
    · exact h.dis j id hl hid k hk (h'.symm.trans hv)
    · exact h.dis id j hl hj k (h'.symm.trans hv) hk
  · have := h' k hv
    have := own_lt (h.sec j hj) k hk
    omega
 refine ⟨⟨?_, keep h.dir (by decide) (by decide), keep h.chs (by decide) (by decide), ?_, ?_, h.psl, keep h.wrs (by decide) (by decide), ?_, ?_, ?_, ?_, ⟨?_, ?_⟩, ?_, ⟨?_, ?_, ?_, ?_, h.wf.room⟩, h.aft, ?_⟩, hm, ?_, hB.mono hBm⟩
 · show (W1.setCell _ _).heap[q]? = some (.cells (rdRow _ _ (s.fls.set id _).length) _ _)
   rw [List.length_set]
   exact (hB.block q (h.lt (.inl rfl)) (fun e => e.elim hqg hqs)).trans h.row
 · show (x.ss.set _ _).length = (s.fls.set id _).length
   rw [List.length_set, List.length_set]; exact h.ssl
 · show World.ownsRow _ _ _ _ x.vf (s.fls.set id _).length ((flP (x.ss.set id v')).flatMap flC)
   rw [List.length_set, flP_set _ _ _ hids]
   have h1 := own_but hfl hb fun j hj hn => own_ne2 hfl hsi (by decide) j hj hn
   rw [hvf] at h1 ⊢
   exact own_setk h1 _ _
 · show (x.sp.set _ _).length = (s.fls.set id _).length
   rw [List.length_set, List.length_set]; exact h.spl
 · intro i hi
   have hi' : i < s.fls.length := by have : i < (s.fls.set id (secs s id ++ [zero64])).length := hi; rw [List.length_set] at this; exact this
   show World.ownsRow _ _ _ _ ((x.ss.set _ _).getD i undef) _ ((x.sp.set _ _).getD i [])
   rw [hsec, hspd, hssd]
   by_cases e : i = id
   · rw [if_pos e, if_pos e, if_pos e, List.length_append]
     have h1 := own_but hfl hb fun j hj hn => own_ne2 hfl hsi (by decide) j hj hn
     exact own_but ho (But.setCell (But.refl' (fun k => k = gf) _) _ _ rfl) fun j hj hn => own_ne2 ho h1 (by decide) j hj (by rw [hn]; exact hgfo)
   · rw [if_neg e, if_neg e, if_neg e]
     refine own_but (h.sec i hi') hB fun j hj hn => ?_
     rcases hn with rfl | hn
     · exact own_ne2 (h.sec i hi') hfl (by decide) _ hj hgfo
     · rcases Nat.lt_or_gt_of_ne e with hl | hl
       · exact h.dis i id hl hid j hj hn
       · exact h.dis id i hl hi' j hn hj
 · intro i j hi hj
   have hi' : i < s.fls.length := by have : i < (s.fls.set id (secs s id ++ [zero64])).length := hi; rw [List.length_set] at this; exact this
   have hold : ∀ j, j < (secs s i).length → Byt (W1.setCell ⟨gf, id * 2 + 1, none⟩ v') ((x.sp.getD i []).getD j undef) ((secs s i).getD j []) := fun j hj' =>
    keepB (h.byt i j hi' hj') (hsecm i hi' _ (getD_mem _ _ _ hj')) (h.out.2 (x.sp.getD i []) (getD_mem _ _ _ (by rw [h.spl]; exact hi')) _ (getD_mem _ _ _ (by have := (h.sec i hi').1; omega)))
   rw [hsec] at hj
   show Byt _ (((x.sp.set _ _).getD i []).getD j undef) _
   rw [hsec, hspd]
   by_cases e : i = id
   · rw [if_pos e] at hj ⊢
     rw [if_pos e]
     rw [List.length_append, List.length_singleton] at hj
     subst e
     rcases Nat.lt_or_ge j (secs s i).length with hj' | hj'
     · rw [getD_left _ _ _ _ hj', getD_left _ _ _ _ (by rw [hspl]; exact hj')]
       exact hold j hj'
     · obtain rfl : j = (secs s i).length := by omega
       rw [getD_last, ← hspl, getD_last]
       have hb' : Own 5 W.heap.size (W1.setCell ⟨gf, i * 2 + 1, none⟩ v') u zero64 := own_but hun (But.setCell (But.refl' (fun k => k = gf) _) _ _ rfl) fun j hj hn => by have := own_base hun j hj; omega
       exact hb'.byt
   · rw [if_neg e] at hj ⊢
     rw [if_neg e]
     exact hold j hj
 · intro j hj
   exact keepB (h.pend j hj) (h.wf.wrs _ (List.getElem_mem hj)).2.2 (h.out.1 _ (getD_mem x.ps j undef (by rw [h.psl]; exact hj)))
 · intro v hv k hk hmm
   rcases hm k hmm with h' | h'
   · exact h.out.1 v hv k hk h'
   · have := h.ltU (k := k) (.inr (.inr (.inl ⟨v, hv, hk⟩))); omega
 · intro l hl v hv k hk hmm
   rcases hmem l hl v hv with rfl | ⟨l', hl', hv'⟩
   · rcases hm0 k hmm with h' | h'
     · have := h.lt h'; have := hul k hk; omega
     · exact own_ne2 ho hun (by decide) k h' hk
   · rcases hm k hmm with h' | h'
     · exact h.out.2 l' hl' v hv' k hk h'
     · have := h.ltU (k := k) (.inr (.inr (.inr ⟨l', hl', v, hv', hk⟩))); omega
 · intro i j hij hj k
   have hj' : j < s.fls.length := by have : j < (s.fls.set id (secs s id ++ [zero64])).length := hj; rw [List.length_set] at this; exact this
   show ((x.ss.set _ _).getD i undef).ownBlock = some k → ((x.ss.set _ _).getD j undef).ownBlock ≠ some k
   rw [hssd, hssd]
   by_cases e : i = id
   · rw [if_pos e, if_neg (by omega)]
     exact fun hv hk => hvn j hj' (by omega) k hk hv
   · rw [if_neg e]
     by_cases e2 : j = id
     · rw [if_pos e2]
       exact fun hk hv => hvn i (by omega) e k hk hv
     · rw [if_neg e2]
       exact h.dis i j hij hj' k
 · intro e he
   show e.2 < (s.fls.set id _).length
   rw [List.length_set]; exact h.wf.dir e he
 · intro c' hc' h0
   show c'.id < (s.fls.set id _).length
   rw [List.length_set]; exact h.wf.chs c' hc' h0
 · intro w hw
   have := h.wf.wrs w hw
   rw [hsec]
   refine ⟨by show w.id < (s.fls.set id _).length; rw [List.length_set]; exact this.1, ?_, this.2.2⟩
   split
   · rename_i e
     rw [List.length_append]
     have h2 := this.2.1
     rw [e] at h2
     omega
   · exact this.2.1
 · intro f hf
   rcases List.mem_or_eq_of_mem_set hf with h' | h'
   · exact h.wf.sec f h'
   · rw [h', List.length_append, List.length_singleton]
     refine ⟨by omega, fun p hp => ?_⟩
     rcases List.mem_append.1 hp with h'' | h''
     · exact hsecm id hid p h''
     · rw [List.mem_singleton.1 h'']; rfl
 · have := h.small
   refine ⟨this.1, this.2.1, ?_, this.2.2.2⟩
   show (s.fls.set id _).length ≤ _
   rw [List.length_set]; exact this.2.2.1
 · intro k hk
   rcases hk with hk | hk | hk | ⟨l, hl, v, hv, hk⟩
   · exact (hm k hk).imp .inl (fun h => h)
   · exact .inl (.inr (.inl hk))
   · exact .inl (.inr (.inr (.inl hk)))
   · rcases hmem l hl v hv with rfl | ⟨l', hl', hv'⟩
     · exact .inr (hul k hk)
     · exact .inl (.inr (.inr (.inr ⟨l', hl', v, hv', hk⟩)))
end Go.Proofs.YtoppcpiheaedlaaGreatDoor
end
section
/-
  The document's own disk: a file that grows.
-/
namespace Go.Proofs.YtoppcpiheaedlaaGreatDoor
open Go.RowKit
set_option linter.unusedVariables false
set_option linter.unusedSimpArgs false
attribute [local go_sem] sv nv
theorem infoBs : (Tryz.prog.info? 36).map (fun i => (i.zero, i.size, i.bytes)) = some (some (.slice none 0 0), 1, 24) := by kernel_rfl
theorem infoBs_parts : ∃ i z, Tryz.prog.info? 36 = some i ∧ i.zero = some z ∧ i.size = 1 ∧ i.bytes = 24 ∧ z.cells.size = 1 := by
 have h := infoBs
 cases hi : Tryz.prog.info? 36 with
 | none => rw [hi] at h; simp at h
 | some i =>
  rw [hi] at h
  simp only [Option.map_some, Option.some.injEq, Prod.mk.injEq] at h
  exact ⟨i, _, rfl, h.1, h.2.1, h.2.2, rfl⟩
def growD (s : Ds) (id i : Nat) : Ds := { s with fls := s.fls.set id (secs s id ++ List.replicate i zero64) }
theorem growD_zero (s : Ds) (id : Nat) : growD s id 0 = s := by
 unfold growD secs
 have : s.fls.set id (s.fls.getD id [] ++ List.replicate 0 zero64) = s.fls := by
  rw [List.replicate_zero, List.append_nil]
  rcases Nat.lt_or_ge id s.fls.length with h | h
  · rw [List.getD, List.getElem?_eq_getElem h, Option.getD_some, List.set_getElem_self]
  · rw [List.set_eq_of_length_le h]
 rw [this]
theorem growD_secs (s : Ds) (id i : Nat) (h : id < s.fls.length) : secs (growD s id i) id = secs s id ++ List.replicate i zero64 := by
 show (s.fls.set id _).getD id [] = _
 rw [getD_lset _ _ _ _ _ h, if_pos rfl]
theorem growD_succ (s : Ds) (id i : Nat) (h : id < s.fls.length) : { growD s id i with fls := (growD s id i).fls.set id (secs (growD s id i) id ++ [zero64]) } = growD s id (i + 1) := by
 rw [growD_secs s id i h]
 unfold growD
 simp only [List.set_set, List.append_assoc]
 rw [show List.replicate i zero64 ++ [zero64] = List.replicate (i + 1) zero64 by rw [List.replicate_succ']]
theorem growD_len (s : Ds) (id i : Nat) : (growD s id i).fls.length = s.fls.length := List.length_set
theorem usedF_le {w : World} {q : Nat} {s : Ds} {x : RDv} (h : RD w q s x) : usedF s ≤ 8192000000 := by
 rw [← useT_all]
 have := useT_le h.wf (nowF s) _ (Nat.le_refl _)
 have := nowF_len h
 omega
theorem made_z (n : Nat) : (madeCells (Value.cells (.int .u8 0)) (n * 1)).toList = (List.replicate n (0 : UInt8)).map bv := by
 apply List.ext_getElem
 · simp [madeCells]
 · intro i h1 h2
   simp [madeCells, Value.cells, Nat.mod_one, bv]
def lenCell (W : World) (a : Addr) : Nat := match W.cell? a with | some (.slice _ n _) => n | _ => 0
theorem lenCell_of {W : World} {a : Addr} {b : Option Addr} {n c : Nat} (h : W.cell? a = some (.slice b n c)) : lenCell W a = n := by unfold lenCell; rw [h]
set_option maxRecDepth 100000 in
set_option maxHeartbeats 4000000 in
theorem refGrow (q : Nat) (s : Ds) (x : RDv) (nm : Nm) (n : Int) (w : World) (h : RD w q s x) :
 Calls Tryz.prog 43 #[.pointer (some ⟨q, 0, none⟩), sv nm, .int .i64 n] w fun e w' => e = .returned (.int .i64 (growF s nm n).1) ∧ ∃ x', RD w' q (growF s nm n).2 x' ∧ Turn q x x' w w' := by
 have hmx : Tryz.prog.follows .mixedOrders = true := by kernel_rfl
 obtain ⟨i0, z0, hi, hz, hs2, hb2, hzs⟩ := infoBs_parts
 obtain ⟨i1, hi1, hz1, hz2, hz3⟩ := info_parts info5
 have HF := Lib.hid (refFails q s x w h)
 unfold sv
 obtain ⟨fc, hfc⟩ : ∃ y, (failsF s).1 = y := ⟨_, rfl⟩
 obtain ⟨s1, hs1⟩ : ∃ y, (failsF s).2 = y := ⟨_, rfl⟩
 by_cases hf : fc = 0
 · have Hg : Hid (growF s nm n = match idF s1 nm with
    | none => (7, s1)
    | some id => if n < (secs s1 id).length ∨ 4096 < n then (2, s1) else if (s1.room : Int) < (usedF s1 : Int) + n - (secs s1 id).length then (42, s1) else (0, growD s1 id (n.toNat - (secs s1 id).length))) := by
    show _ = _
    unfold growF
    rw [guardF_yes (by rw [hfc, hf]), hs1]
    cases idF s1 nm <;> rfl
   rw [hfc, hs1] at HF
   clear h hfc hs1
   subst hf
   go_enter Tryz.func43, Tryz.ntmps43
   go_wp2_with fail
   refine HF.out.mono ?_
   rintro e w1 ⟨rfl, hR, hB⟩
   have HR := Lib.hid hR
   have HT := Lib.hid (Turn.ofBut (x := x) hB)
   have HI := Lib.hid (refId q s1 x nm w1 hR)
   unfold sv at HI
   clear hR hB HF
   cases hid : idF s1 nm with
   | none =>
    have Hr : Hid (growF s nm n = (7, s1)) := by show _ = _; rw [Hg.out, hid]
    have hir : idR s1 nm = .tuple #[.int .i64 0, .bool false] := by unfold idR; rw [hid]; rfl
    rw [hir] at HI
    clear hid hir
    go_wp2_with fail
    refine HI.out.mono ?_
    rintro e w2 ⟨rfl, hG⟩
    have HG := Lib.hid hG
    clear hG
    go_wp2
    go_ret
    exact ⟨by rw [Hr.out]; rfl, x, by rw [Hr.out]; exact HR.out.grows HG.out, HT.out.trans (Turn.ofGrows HG.out)⟩
   | some id =>
    have hir : idR s1 nm = .tuple #[.int .i64 (id : Int), .bool true] := by unfold idR; rw [hid]; rfl
    rw [hir] at HI
    have Hlt := Lib.hid (HR.out.wf.id hid)
    have Hg2 : Hid (growF s nm n = if n < (secs s1 id).length ∨ 4096 < n then (2, s1) else if (s1.room : Int) < (usedF s1 : Int) + n - (secs s1 id).length then (42, s1) else (0, growD s1 id (n.toNat - (secs s1 id).length))) := by show _ = _; rw [Hg.out, hid]
    clear hid hir Hg
    go_wp2_with fail
    refine HI.out.mono ?_
    rintro e w2 ⟨rfl, hG⟩
    have HT2 := Lib.hid (HT.out.trans (Turn.ofGrows hG))
    have H1 := Lib.hid (HR.out.grows hG)
    obtain ⟨L, HL⟩ : ∃ n, Hid ((secs s1 id).length = n) := ⟨_, rfl⟩
    obtain ⟨nf, Hnf⟩ : ∃ n, Hid (s1.fls.length = n) := ⟨_, rfl⟩
    obtain ⟨gf, kf, af, cf, evf, -, c3, c5⟩ := H1.out.file id Hlt.out
    have Hvf := Lib.hid evf
    have hL4 := secs_len H1.out.wf id
    rw [HL.out] at c5 hL4
    rw [Hnf.out] at c3
    have hbi : ¬ ((nf : Int) ≤ (id : Int)) := by have := Hlt.out; have := Hnf.out; omega
    have hidn : (id : Int) < (nf : Int) := by omega
    have hLi : (L : Int) ≤ 4096 := by omega
    rw [HL.out] at Hg2
    clear hG HI evf hL4
    go_wp2
    have cXa := fun X (hX : Grows _ X) => Grows.cell' hX c3
    refine specs_region
     #[[], [0], [0, 1], [0, 1, 2], [], [], [4, 5], [0, 1, 2, 3, 4, 5, 6], [0, 1, 2, 3, 4, 5, 6, 7]] #[[0], [], [], [], [0], [8], [], [], []] #[true, true, true, true, true, true, true, true, true]
     ((.val ?va0) :: (.val ?va1) :: (.val ?va2) :: (.val ?va3) :: (.val ?va4) :: (.val ?va5) :: (.val ?va6) :: (.val ?va7) :: (.val ?va8) :: []).toArray
     hmx ?chka ?grda ?stpa ?rsta
    case chka => rfl
    case stpa =>
     refine ⟨?_, ?_, ?_, ?_, ?_, ?_, ?_, ?_, ?_, trivial⟩
     · refine stepO 0 ?va0 rfl (fun _ _ => rfl) rfl (fun _ => rfl) (by decide) ?_; show (.pointer (some ⟨q, 0, none⟩) : Value) = _; rfl
     · refine stepR (o := ⟨_, .nilCheck (.tmp 26), _, _, _, _⟩) ?va1 rfl rfl (fun _ => rfl) fun ρ X hc hf hgl hX hp ho => ?_; have k26 : ρ (.tmp 26) = ?va0 := hp 0 (by decide); clear hp ho hX; go_simp; (all_goals rfl)
     · refine stepR (o := ⟨_, .fieldAddr 76 (.tmp 27) 3, _, _, _, _⟩) ?va2 rfl rfl (fun _ => rfl) fun ρ X hc hf hgl hX hp ho => ?_; have k27 : ρ (.tmp 27) = ?va1 := hp 1 (by decide); clear hp ho hX; go_simp; (all_goals rfl)
     · refine stepR (o := ⟨_, .load 73 (.tmp 28), _, _, _, _⟩) ?va3 rfl rfl (fun _ => rfl) fun ρ X hc hf hgl hX hp ho => ?_; have k28 : ρ (.tmp 28) = ?va2 := hp 2 (by decide); have cX := cXa X hX; clear hp ho hX; go_simp; (all_goals rfl)
     · refine stepO 0 ?va4 rfl (fun _ _ => rfl) rfl (fun _ => rfl) (by decide) ?_; show (.pointer (some ⟨q, 0, none⟩) : Value) = _; rfl
     · refine stepO 8 ?va5 rfl (fun _ _ => rfl) rfl (fun _ => rfl) (by decide) ?_; show (.int .i64 (id : Int) : Value) = _; rfl
     · refine step_intro rfl rfl fun ρ X hc hf hgl hX hp ho => ?_
       change StepOk _ ⟨_, .call { callee := .value (.func 62), args := #[.tmp 30, .tmp 31], argTypes := #[30, 3] }, _, _, _, _⟩ _ _ _
       have k30 : ρ (.tmp 30) = ?va4 := hp 4 (by decide)
       have k31 : ρ (.tmp 31) = ?va5 := hp 5 (by decide)
       clear hp ho
       refine StepOk.of_call (f := 62) (args := #[?va4, ?va5]) (w' := X) ?_ ((H1.out.grows hX).at id Hlt.out) ?_
       · go_simp
         all_goals try go_bits
         all_goals try rfl
       · rintro e w'' ⟨rfl, rfl⟩; refine ⟨_, rfl, ?_, Below.refl _ _⟩; show _ = ?va6; rfl
     · refine stepR (o := ⟨_, .indexAddr 73 (.tmp 29) (.tmp 32), _, _, _, _⟩) ?va7 rfl rfl (fun _ => rfl) fun ρ X hc hf hgl hX hp ho => ?_; have k29 : ρ (.tmp 29) = ?va3 := hp 3 (by decide); have k32 : ρ (.tmp 32) = ?va6 := hp 6 (by decide); clear hp ho hX; go_simp; (all_goals try go_bits); (all_goals try simp only [IntWalk.iteOmega]); (all_goals try go_bits); (all_goals rfl)
     · refine stepP 33 7 (?va7) ?va8 rfl (fun _ _ => rfl) rfl (fun _ => rfl) (by decide) rfl (fun _ _ h => h) ?_; rfl
    case grda => rfl
    case rsta =>
     intro a0 X hb
     have hfr := hb.frame ((10, ?va8) :: (26, ?va0) :: (27, ?va1) :: (28, ?va2) :: (29, ?va3) :: (30, ?va4) :: (31, ?va5) :: (32, ?va6) :: (33, ?va7) :: []) rfl ⟨hb.done' 8 10 rfl rfl, hb.done' 0 26 rfl rfl, hb.done' 1 27 rfl rfl, hb.done' 2 28 rfl rfl, hb.done' 3 29 rfl rfl, hb.done' 4 30 rfl rfl, hb.done' 5 31 rfl rfl, hb.done' 6 32 rfl rfl, hb.done' 7 33 rfl rfl, trivial⟩
     simp only [updL, ↓reduceIte, Nat.reduceEqDiff, Nat.reduceAdd, Nat.zero_add] at hfr
     have HX := Lib.hid hb.ext
     clear hb cXa
     subst hfr
     have H2 := Lib.hid (H1.out.grows HX.out)
     have HT3 := Lib.hid (HT2.out.trans (Turn.ofGrows (x := x) HX.out))
     have c5X := HX.out.cell' c5
     clear c3 c5 HX H1 HT2
     obtain ⟨w3, hw3⟩ : ∃ y, X = y := ⟨_, rfl⟩
     rw [hw3] at H2 HT3 c5X ⊢
     clear hw3
     by_cases hneg : n < (L : Int)
     · have Hr : Hid (growF s nm n = (2, s1)) := by show _ = _; rw [Hg2.out]; exact if_pos (.inl hneg)
       go_wp2
       go_ret
       exact ⟨by rw [Hr.out]; rfl, x, by rw [Hr.out]; exact H2.out, HT3.out⟩
     · obtain ⟨m, rfl⟩ : ∃ m : Nat, n = m := ⟨n.toNat, by omega⟩
       by_cases hbig : (4096 : Int) < (m : Int)
       · have Hr : Hid (growF s nm (m : Int) = (2, s1)) := by show _ = _; rw [Hg2.out]; exact if_pos (.inr hbig)
         go_wp2
         go_ret
         exact ⟨by rw [Hr.out]; rfl, x, by rw [Hr.out]; exact H2.out, HT3.out⟩
       · have Hg3 : Hid (growF s nm (m : Int) = if (s1.room : Int) < (usedF s1 : Int) + m - L then (42, s1) else (0, growD s1 id (m - L))) := by show _ = _; rw [Hg2.out, if_neg (by omega)]; simp
         have hm4 : (m : Int) ≤ 4096 := by omega
         have hLm : (L : Int) ≤ (m : Int) := by omega
         have c0 : w3.cell? ⟨q, 0, none⟩ = some (.int .i64 (s1.room : Int)) := H2.out.cell 0 _ rfl
         have hur := usedF_le H2.out
         have hrm := H2.out.wf.room
         obtain ⟨us, Hus⟩ : ∃ y, Hid (usedF s1 = y) := ⟨_, rfl⟩
         obtain ⟨rm, Hrm⟩ : ∃ y, Hid (s1.room = y) := ⟨_, rfl⟩
         rw [Hus.out] at hur Hg3
         rw [Hrm.out] at hrm c0 Hg3
         have hui : (us : Int) ≤ 10000000000 := by omega
         have hri : (rm : Int) ≤ 4096 := by omega
         have HUS : Hid (∀ W, Grows w3 W → Calls Tryz.prog 89 #[.pointer (some ⟨q, 0, none⟩)] W fun e w' => e = .returned (.int .i64 (us : Int)) ∧ Grows W w') := fun W g => by have := refUsed q s1 x W (H2.out.grows g); rw [Hus.out] at this; exact this
         clear hur hrm hbig hneg
         by_cases hroom : (rm : Int) < (us : Int) + m - L
         · have Hr : Hid (growF s nm (m : Int) = (42, s1)) := by show _ = _; rw [Hg3.out]; exact if_pos hroom
           go_wp2
           have cXb := fun X (hX : Grows _ X) => And.intro (Grows.cell' hX c0) (Grows.cell' hX c5X)
           refine specs_region
            #[[], [0], [], [0, 1, 2], [], [4], [4, 5], [4, 5, 6], [4, 5, 6, 7], [0, 1, 2, 3, 4, 5, 6, 7, 8], [], [10], [10, 11], [10, 11, 12], [0, 1, 2, 3, 4, 5, 6, 7, 8, 9, 10, 11, 12, 13]] #[[0], [], [2], [], [10], [], [], [], [], [], [0], [], [], [], []] #[true, true, true, true, true, true, true, true, true, true, true, true, true, true, true]
            ((.val ?vb0) :: (.val ?vb1) :: (.val ?vb2) :: (.val ?vb3) :: (.val ?vb4) :: (.val ?vb5) :: (.val ?vb6) :: (.val ?vb7) :: (.val ?vb8) :: (.val ?vb9) :: (.val ?vb10) :: (.val ?vb11) :: (.val ?vb12) :: (.val ?vb13) :: (.val ?vb14) :: []).toArray
            hmx ?chkb ?grdb ?stpb ?rstb
           case chkb => rfl
           case stpb =>
            refine ⟨?_, ?_, ?_, ?_, ?_, ?_, ?_, ?_, ?_, ?_, ?_, ?_, ?_, ?_, ?_, trivial⟩
            · refine stepO 0 ?vb0 rfl (fun _ _ => rfl) rfl (fun _ => rfl) (by decide) ?_; show (.pointer (some ⟨q, 0, none⟩) : Value) = _; rfl
            · refine step_intro rfl rfl fun ρ X hc hf hgl hX hp ho => ?_
              change StepOk _ ⟨_, .call { callee := .value (.func 89), args := #[.tmp 45], argTypes := #[30] }, _, _, _, _⟩ _ _ _
              have k45 : ρ (.tmp 45) = ?vb0 := hp 0 (by decide)
              clear hp ho
              refine StepOk.of_call (f := 89) (args := #[?vb0]) (w' := X) ?_ (HUS.out X hX) ?_
              · go_simp
                all_goals try go_bits
                all_goals try rfl
              · rintro e w'' ⟨rfl, hg⟩; refine ⟨_, rfl, ?_, hg⟩; show _ = ?vb1; rfl
            · refine stepO 2 ?vb2 rfl (fun _ _ => rfl) rfl (fun _ => rfl) (by decide) ?_; show (.int .i64 (m : Int) : Value) = _; rfl
            · refine stepR (o := ⟨_, .binOp .add 3 (.tmp 46) (.tmp 47) 3, _, _, _, _⟩) ?vb3 rfl rfl (fun _ => rfl) fun ρ X hc hf hgl hX hp ho => ?_; have k46 : ρ (.tmp 46) = ?vb1 := hp 1 (by decide); have k47 : ρ (.tmp 47) = ?vb2 := hp 2 (by decide); clear hp ho hX; go_simp; (all_goals try go_bits); (all_goals try simp only [IntWalk.iteOmega]); (all_goals try go_bits); (all_goals rfl)
            · refine stepO 10 ?vb4 rfl (fun _ _ => rfl) rfl (fun _ => rfl) (by decide) ?_; show (.pointer (some ⟨gf, id * 2, none⟩) : Value) = _; rfl
            · refine stepR (o := ⟨_, .nilCheck (.tmp 49), _, _, _, _⟩) ?vb5 rfl rfl (fun _ => rfl) fun ρ X hc hf hgl hX hp ho => ?_; have k49 : ρ (.tmp 49) = ?vb4 := hp 4 (by decide); clear hp ho hX; go_simp; (all_goals rfl)
            · refine stepR (o := ⟨_, .fieldAddr 116 (.tmp 50) 1, _, _, _, _⟩) ?vb6 rfl rfl (fun _ => rfl) fun ρ X hc hf hgl hX hp ho => ?_; have k50 : ρ (.tmp 50) = ?vb5 := hp 5 (by decide); clear hp ho hX; go_simp; (all_goals rfl)
            · refine stepR (o := ⟨_, .load 114 (.tmp 51), _, _, _, _⟩) ?vb7 rfl rfl (fun _ => rfl) fun ρ X hc hf hgl hX hp ho => ?_; have k51 : ρ (.tmp 51) = ?vb6 := hp 6 (by decide); have cX := cXb X hX; clear hp ho hX; go_simp; (all_goals rfl)
            · refine stepR (o := ⟨_, .call { callee := .builtin .len, args := #[.tmp 52], argTypes := #[114] }, _, _, _, _⟩) ?vb8 rfl rfl (fun _ => rfl) fun ρ X hc hf hgl hX hp ho => ?_; have k52 : ρ (.tmp 52) = ?vb7 := hp 7 (by decide); clear hp ho hX; go_simp; (all_goals try go_bits); (all_goals try simp only [IntWalk.iteOmega]); (all_goals try go_bits); (all_goals rfl)
            · refine stepR (o := ⟨_, .binOp .sub 3 (.tmp 48) (.tmp 53) 3, _, _, _, _⟩) ?vb9 rfl rfl (fun _ => rfl) fun ρ X hc hf hgl hX hp ho => ?_; have k48 : ρ (.tmp 48) = ?vb3 := hp 3 (by decide); have k53 : ρ (.tmp 53) = ?vb8 := hp 8 (by decide); clear hp ho hX; go_simp; (all_goals try go_bits); (all_goals try simp only [IntWalk.iteOmega]); (all_goals try go_bits); (all_goals rfl)
            · refine stepO 0 ?vb10 rfl (fun _ _ => rfl) rfl (fun _ => rfl) (by decide) ?_; show (.pointer (some ⟨q, 0, none⟩) : Value) = _; rfl
            · refine stepR (o := ⟨_, .nilCheck (.tmp 55), _, _, _, _⟩) ?vb11 rfl rfl (fun _ => rfl) fun ρ X hc hf hgl hX hp ho => ?_; have k55 : ρ (.tmp 55) = ?vb10 := hp 10 (by decide); clear hp ho hX; go_simp; (all_goals rfl)
            · refine stepR (o := ⟨_, .fieldAddr 76 (.tmp 56) 0, _, _, _, _⟩) ?vb12 rfl rfl (fun _ => rfl) fun ρ X hc hf hgl hX hp ho => ?_; have k56 : ρ (.tmp 56) = ?vb11 := hp 11 (by decide); clear hp ho hX; go_simp; (all_goals rfl)
            · refine stepR (o := ⟨_, .load 3 (.tmp 57), _, _, _, _⟩) ?vb13 rfl rfl (fun _ => rfl) fun ρ X hc hf hgl hX hp ho => ?_; have k57 : ρ (.tmp 57) = ?vb12 := hp 12 (by decide); have cX := cXb X hX; clear hp ho hX; go_simp; (all_goals rfl)
            · refine stepR (o := ⟨_, .binOp .gtr 3 (.tmp 54) (.tmp 58) 3, _, _, _, _⟩) ?vb14 rfl rfl (fun _ => rfl) fun ρ X hc hf hgl hX hp ho => ?_; have k54 : ρ (.tmp 54) = ?vb9 := hp 9 (by decide); have k58 : ρ (.tmp 58) = ?vb13 := hp 13 (by decide); clear hp ho hX; go_simp; (all_goals try go_bits); (all_goals try simp only [IntWalk.iteOmega]); (all_goals try go_bits); (all_goals rfl)
           case grdb => rfl
           case rstb =>
            intro a0 X hb
            have hfr := hb.frame ((45, ?vb0) :: (46, ?vb1) :: (47, ?vb2) :: (48, ?vb3) :: (49, ?vb4) :: (50, ?vb5) :: (51, ?vb6) :: (52, ?vb7) :: (53, ?vb8) :: (54, ?vb9) :: (55, ?vb10) :: (56, ?vb11) :: (57, ?vb12) :: (58, ?vb13) :: (59, ?vb14) :: []) rfl ⟨hb.done' 0 45 rfl rfl, hb.done' 1 46 rfl rfl, hb.done' 2 47 rfl rfl, hb.done' 3 48 rfl rfl, hb.done' 4 49 rfl rfl, hb.done' 5 50 rfl rfl, hb.done' 6 51 rfl rfl, hb.done' 7 52 rfl rfl, hb.done' 8 53 rfl rfl, hb.done' 9 54 rfl rfl, hb.done' 10 55 rfl rfl, hb.done' 11 56 rfl rfl, hb.done' 12 57 rfl rfl, hb.done' 13 58 rfl rfl, hb.done' 14 59 rfl rfl, trivial⟩
            simp only [updL, ↓reduceIte, Nat.reduceEqDiff, Nat.reduceAdd, Nat.zero_add] at hfr
            have HX := Lib.hid hb.ext
            clear hb cXb
            subst hfr
            go_wp2
            go_ret
            exact ⟨by rw [Hr.out]; rfl, x, by rw [Hr.out]; exact H2.out.grows HX.out, HT3.out.trans (Turn.ofGrows HX.out)⟩
         · have Hr : Hid (growF s nm (m : Int) = (0, growD s1 id (m - L))) := by show _ = _; rw [Hg3.out]; exact if_neg hroom
           go_wp2
           have cXc := fun X (hX : Grows _ X) => And.intro (Grows.cell' hX c0) (Grows.cell' hX c5X)
           refine specs_region
            #[[], [0], [], [0, 1, 2], [], [4], [4, 5], [4, 5, 6], [4, 5, 6, 7], [0, 1, 2, 3, 4, 5, 6, 7, 8], [], [10], [10, 11], [10, 11, 12], [0, 1, 2, 3, 4, 5, 6, 7, 8, 9, 10, 11, 12, 13]] #[[0], [], [2], [], [10], [], [], [], [], [], [0], [], [], [], []] #[true, true, true, true, true, true, true, true, true, true, true, true, true, true, true]
            ((.val ?vc0) :: (.val ?vc1) :: (.val ?vc2) :: (.val ?vc3) :: (.val ?vc4) :: (.val ?vc5) :: (.val ?vc6) :: (.val ?vc7) :: (.val ?vc8) :: (.val ?vc9) :: (.val ?vc10) :: (.val ?vc11) :: (.val ?vc12) :: (.val ?vc13) :: (.val ?vc14) :: []).toArray
            hmx ?chkc ?grdc ?stpc ?rstc
           case chkc => rfl
           case stpc =>
            refine ⟨?_, ?_, ?_, ?_, ?_, ?_, ?_, ?_, ?_, ?_, ?_, ?_, ?_, ?_, ?_, trivial⟩
            · refine stepO 0 ?vc0 rfl (fun _ _ => rfl) rfl (fun _ => rfl) (by decide) ?_; show (.pointer (some ⟨q, 0, none⟩) : Value) = _; rfl
            · refine step_intro rfl rfl fun ρ X hc hf hgl hX hp ho => ?_
              change StepOk _ ⟨_, .call { callee := .value (.func 89), args := #[.tmp 45], argTypes := #[30] }, _, _, _, _⟩ _ _ _
              have k45 : ρ (.tmp 45) = ?vc0 := hp 0 (by decide)
              clear hp ho
              refine StepOk.of_call (f := 89) (args := #[?vc0]) (w' := X) ?_ (HUS.out X hX) ?_
              · go_simp
                all_goals try go_bits
                all_goals try rfl
              · rintro e w'' ⟨rfl, hg⟩; refine ⟨_, rfl, ?_, hg⟩; show _ = ?vc1; rfl
            · refine stepO 2 ?vc2 rfl (fun _ _ => rfl) rfl (fun _ => rfl) (by decide) ?_; show (.int .i64 (m : Int) : Value) = _; rfl
            · refine stepR (o := ⟨_, .binOp .add 3 (.tmp 46) (.tmp 47) 3, _, _, _, _⟩) ?vc3 rfl rfl (fun _ => rfl) fun ρ X hc hf hgl hX hp ho => ?_; have k46 : ρ (.tmp 46) = ?vc1 := hp 1 (by decide); have k47 : ρ (.tmp 47) = ?vc2 := hp 2 (by decide); clear hp ho hX; go_simp; (all_goals try go_bits); (all_goals try simp only [IntWalk.iteOmega]); (all_goals try go_bits); (all_goals rfl)
            · refine stepO 10 ?vc4 rfl (fun _ _ => rfl) rfl (fun _ => rfl) (by decide) ?_; show (.pointer (some ⟨gf, id * 2, none⟩) : Value) = _; rfl
            · refine stepR (o := ⟨_, .nilCheck (.tmp 49), _, _, _, _⟩) ?vc5 rfl rfl (fun _ => rfl) fun ρ X hc hf hgl hX hp ho => ?_; have k49 : ρ (.tmp 49) = ?vc4 := hp 4 (by decide); clear hp ho hX; go_simp; (all_goals rfl)
            · refine stepR (o := ⟨_, .fieldAddr 116 (.tmp 50) 1, _, _, _, _⟩) ?vc6 rfl rfl (fun _ => rfl) fun ρ X hc hf hgl hX hp ho => ?_; have k50 : ρ (.tmp 50) = ?vc5 := hp 5 (by decide); clear hp ho hX; go_simp; (all_goals rfl)
            · refine stepR (o := ⟨_, .load 114 (.tmp 51), _, _, _, _⟩) ?vc7 rfl rfl (fun _ => rfl) fun ρ X hc hf hgl hX hp ho => ?_; have k51 : ρ (.tmp 51) = ?vc6 := hp 6 (by decide); have cX := cXc X hX; clear hp ho hX; go_simp; (all_goals rfl)
            · refine stepR (o := ⟨_, .call { callee := .builtin .len, args := #[.tmp 52], argTypes := #[114] }, _, _, _, _⟩) ?vc8 rfl rfl (fun _ => rfl) fun ρ X hc hf hgl hX hp ho => ?_; have k52 : ρ (.tmp 52) = ?vc7 := hp 7 (by decide); clear hp ho hX; go_simp; (all_goals try go_bits); (all_goals try simp only [IntWalk.iteOmega]); (all_goals try go_bits); (all_goals rfl)
            · refine stepR (o := ⟨_, .binOp .sub 3 (.tmp 48) (.tmp 53) 3, _, _, _, _⟩) ?vc9 rfl rfl (fun _ => rfl) fun ρ X hc hf hgl hX hp ho => ?_; have k48 : ρ (.tmp 48) = ?vc3 := hp 3 (by decide); have k53 : ρ (.tmp 53) = ?vc8 := hp 8 (by decide); clear hp ho hX; go_simp; (all_goals try go_bits); (all_goals try simp only [IntWalk.iteOmega]); (all_goals try go_bits); (all_goals rfl)
            · refine stepO 0 ?vc10 rfl (fun _ _ => rfl) rfl (fun _ => rfl) (by decide) ?_; show (.pointer (some ⟨q, 0, none⟩) : Value) = _; rfl
            · refine stepR (o := ⟨_, .nilCheck (.tmp 55), _, _, _, _⟩) ?vc11 rfl rfl (fun _ => rfl) fun ρ X hc hf hgl hX hp ho => ?_; have k55 : ρ (.tmp 55) = ?vc10 := hp 10 (by decide); clear hp ho hX; go_simp; (all_goals rfl)
            · refine stepR (o := ⟨_, .fieldAddr 76 (.tmp 56) 0, _, _, _, _⟩) ?vc12 rfl rfl (fun _ => rfl) fun ρ X hc hf hgl hX hp ho => ?_; have k56 : ρ (.tmp 56) = ?vc11 := hp 11 (by decide); clear hp ho hX; go_simp; (all_goals rfl)
            · refine stepR (o := ⟨_, .load 3 (.tmp 57), _, _, _, _⟩) ?vc13 rfl rfl (fun _ => rfl) fun ρ X hc hf hgl hX hp ho => ?_; have k57 : ρ (.tmp 57) = ?vc12 := hp 12 (by decide); have cX := cXc X hX; clear hp ho hX; go_simp; (all_goals rfl)
            · refine stepR (o := ⟨_, .binOp .gtr 3 (.tmp 54) (.tmp 58) 3, _, _, _, _⟩) ?vc14 rfl rfl (fun _ => rfl) fun ρ X hc hf hgl hX hp ho => ?_; have k54 : ρ (.tmp 54) = ?vc9 := hp 9 (by decide); have k58 : ρ (.tmp 58) = ?vc13 := hp 13 (by decide); clear hp ho hX; go_simp; (all_goals try go_bits); (all_goals try simp only [IntWalk.iteOmega]); (all_goals try go_bits); (all_goals rfl)
           case grdc => rfl
           case rstc =>
            intro a0 X hb
            have hfr := hb.frame ((45, ?vc0) :: (46, ?vc1) :: (47, ?vc2) :: (48, ?vc3) :: (49, ?vc4) :: (50, ?vc5) :: (51, ?vc6) :: (52, ?vc7) :: (53, ?vc8) :: (54, ?vc9) :: (55, ?vc10) :: (56, ?vc11) :: (57, ?vc12) :: (58, ?vc13) :: (59, ?vc14) :: []) rfl ⟨hb.done' 0 45 rfl rfl, hb.done' 1 46 rfl rfl, hb.done' 2 47 rfl rfl, hb.done' 3 48 rfl rfl, hb.done' 4 49 rfl rfl, hb.done' 5 50 rfl rfl, hb.done' 6 51 rfl rfl, hb.done' 7 52 rfl rfl, hb.done' 8 53 rfl rfl, hb.done' 9 54 rfl rfl, hb.done' 10 55 rfl rfl, hb.done' 11 56 rfl rfl, hb.done' 12 57 rfl rfl, hb.done' 13 58 rfl rfl, hb.done' 14 59 rfl rfl, trivial⟩
            simp only [updL, ↓reduceIte, Nat.reduceEqDiff, Nat.reduceAdd, Nat.zero_add] at hfr
            have HX := Lib.hid hb.ext
            clear hb cXc
            subst hfr
            have HR0 : Hid (RD X q (growD s1 id 0) x) := by show RD _ _ _ _; rw [growD_zero]; exact H2.out.grows HX.out
            have HT0 := Lib.hid (HT3.out.trans (Turn.ofGrows (x := x) HX.out))
            clear c0 c5X HX H2 HT3 HUS
            go_wp2
            go_loopw [] (fun wr => ∃ (i : Nat) (xi : RDv), i ≤ m - L ∧ Hid (RD wr q (growD s1 id i) xi) ∧ Hid (xi.vf = x.vf) ∧ Hid (Turn q x xi w wr)) (fun wr => m - lenCell wr ⟨gf, id * 2 + 1, none⟩)
            case atStart => exact ⟨0, x, by omega, HR0.out, rfl, HT0.out⟩
            case round =>
             obtain ⟨i, xi, him, HRi, Hvx, HTi⟩ := hrel
             have Hlti : Hid (id < (growD s1 id i).fls.length) := by show _ < _; rw [growD_len]; exact Hlt.out
             have hcell : ∀ (W : World) (j : Nat) (xj : RDv), xj.vf = x.vf → RD W q (growD s1 id j) xj → ∃ a c, W.cell? ⟨gf, id * 2 + 1, none⟩ = some (.slice a (L + j) c) ∧ xj.ss.getD id undef = .slice a (L + j) c := fun W j xj hv hR => by
              obtain ⟨gf', kf', a, c, e1, e2, -, c5'⟩ := hR.file id (by rw [growD_len]; exact Hlt.out)
              rw [hv, Hvf.out] at e1
              simp only [Value.slice.injEq, Option.some.injEq, Addr.mk.injEq] at e1
              obtain ⟨⟨rfl, -, -⟩, -, -⟩ := e1
              rw [growD_secs s1 id j Hlt.out, List.length_append, List.length_replicate, HL.out] at c5' e2
              exact ⟨a, c, c5', e2⟩
             obtain ⟨ai, ci, c5, ess⟩ := hcell _ i xi Hvx.out HRi.out
             have hmeas : ∀ (W : World) (xj : RDv), xj.vf = x.vf → RD W q (growD s1 id (i + 1)) xj → i < m - L → m - lenCell W ⟨gf, id * 2 + 1, none⟩ < m - lenCell wr ⟨gf, id * 2 + 1, none⟩ := fun W xj hv hR hl => by
              obtain ⟨a, c, c5', -⟩ := hcell W (i + 1) xj hv hR
              rw [lenCell_of c5', lenCell_of c5]
              omega
             have hevf : xi.vf = .slice (some ⟨gf, 0, none⟩) s1.fls.length kf := Hvx.out.trans Hvf.out
             clear hcell
             obtain ⟨ni, HnI2⟩ : ∃ y, Hid ((secs (growD s1 id i) id).length = y) := ⟨_, rfl⟩
             have HnL : Hid (L + i = ni) := by show _ = _; have := HnI2.out; rw [growD_secs s1 id i Hlt.out, List.length_append, List.length_replicate, HL.out] at this; exact this
             rw [HnL.out] at c5 ess
             by_cases hlt : i < m - L
             · have hni : (ni : Int) < (m : Int) := by have := HnL.out; omega
               have HnI : Hid (ni < 4096) := by show _ < _; omega
               have hisucc : i + 1 ≤ m - L := by omega
               have Hssi := Lib.hid ess
               have Hvfi := Lib.hid hevf
               have Hms : Hid (∀ (W : World) (v : Value) (u : Value), RD W q (growD s1 id (i + 1)) { xi with ss := xi.ss.set id v, sp := xi.sp.set id (xi.sp.getD id [] ++ [u]) } → m - lenCell W ⟨gf, id * 2 + 1, none⟩ < m - lenCell wr ⟨gf, id * 2 + 1, none⟩) := fun W v u hR => hmeas W _ (show ({ xi with ss := xi.ss.set id v, sp := xi.sp.set id (xi.sp.getD id [] ++ [u]) } : RDv).vf = x.vf from Hvx.out) hR hlt
               have hown := HRi.out.sec id Hlti.out
               rw [ess, HnI2.out] at hown
               have hfli := HRi.out.fls
               have hngf : ¬ (Value.ownBlock (.slice ai ni ci) = some gf) := by rw [← ess]; exact own_ne2 hfli (HRi.out.sec id Hlti.out) (by decide) gf (by rw [hevf]; rfl)
               obtain ⟨xs, Hxs⟩ : ∃ y, Hid (xi.sp.getD id [] = y) := ⟨_, rfl⟩
               rw [Hxs.out] at hown
               obtain ⟨ws, Hws⟩ : ∃ y, Hid (wr.heap.size = y) := ⟨_, rfl⟩
               have hvs : ∀ j, Value.ownBlock (.slice ai ni ci) = some j → j < wr.heap.size := fun j hj => own_lt hown j hj
               rw [Hws.out] at hvs
               have Hvs := Lib.hid hvs
               have hgrow : ∃ cur, wr.heap[gf]? = some (.cells cur 116) := by rw [hevf] at hfli; rcases hfli.2 with ⟨h0, _⟩ | ⟨g', _, cur, e1, _, hg, _⟩; cases h0; simp only [Value.slice.injEq, Option.some.injEq, Addr.mk.injEq] at e1; obtain ⟨⟨rfl, -, -⟩, -, -⟩ := e1; exact ⟨cur, hg⟩
               obtain ⟨curf, hgrow⟩ := hgrow
               have Hgrow := Lib.hid hgrow
               have Hown := Lib.hid hown
               have HRO : Hid (∀ u a b, But (fun k => Value.ownBlock (.slice ai ni ci) = some k) a b → Own 5 ws a u zero64 → Own 5 ws b u zero64) := fun u a b g h => own_but h g (fun j hj hn => by have := own_base h j hj; have := Hvs.out j hn; omega)
               clear ess hevf hmeas hown hfli hvs hgrow hlt him
               go_wp2
               have cXe := fun X (hX : (EAppR (fun k => Value.ownBlock (.slice ai ni ci) = some k) 36 1 ni xs (fun u => [u]) (fun u W => Own 5 ws W u zero64)) _ X) => hX.but.cell (p := ⟨gf, _, none⟩) hngf c5
               refine region_K_last (E := (EAppR (fun k => Value.ownBlock (.slice ai ni ci) = some k) 36 1 ni xs (fun u => [u]) (fun u W => Own 5 ws W u zero64))) (EAppR.ok (fun k => Value.ownBlock (.slice ai ni ci) = some k) 36 1 ni xs (fun u => [u]) (fun u W => Own 5 ws W u zero64) (fun u w h => own_drew h)) (EAppR.ofGrows (R := (fun u W => Own 5 ws W u zero64)) (fun u a b g h => own_grows h g)) 10
                #[[], [], [1], [1, 2], [1, 2, 3], [], [5], [1, 2, 3, 4, 5, 6], [0, 1, 2, 3, 4, 5, 6, 7], [0, 1, 2, 3, 4, 5, 6, 7, 8], [0, 1, 2, 3, 4, 5, 6, 7, 8, 9]] #[[10], [10], [], [], [], [], [], [], [], [], []] #[true, true, true, true, true, true, true, true, true, true, true]
                ((.val ?ve0) :: (.val ?ve1) :: (.val ?ve2) :: (.val ?ve3) :: (.val ?ve4) :: (.pred (fun v W => Own 5 ws W v zero64) (fun v a b h ho => HRO.out v a b h.but ho)) :: (.pred (fun v W => ∃ u g, v = .slice (some ⟨g, 0, none⟩) 1 1 ∧ ws ≤ g ∧ W.heap[g]? = some (.cells #[u] 36) ∧ Own 5 ws W u zero64) (fun v a b h ho => by obtain ⟨u, g, e, hg, hh, hu⟩ := ho; exact ⟨u, g, e, hg, h.but.blockEq (fun hn => by have := Hvs.out g hn; omega) hh, HRO.out u a b h.but hu⟩)) :: (.pred (fun v W => OwnR 36 1 ni xs (fun u => [u]) (fun u W => Own 5 ws W u zero64) v W ∧ (v.ownBlock = Value.ownBlock (.slice ai ni ci) ∨ ∀ j, v.ownBlock = some j → ws ≤ j)) (fun v a b h ho => ⟨h.new v ho.1, ho.2⟩)) :: (.val ?ve8) :: (.val ?ve9) :: (.any) :: []).toArray
                (noState [7])
                (fun _ _ _ _ _ _ _ _ => trivial)
                (fun _ _ => trivial)
                hmx ?chke rfl ?grde rfl ?stpe ?rste
               case chke => rfl
               case stpe =>
                refine ⟨?_, ?_, ?_, ?_, ?_, ?_, ?_, ?_, ?_, ?_, ?_, trivial⟩
                · refine stepOK 10 ?ve0 rfl (fun _ _ => rfl) rfl rfl (fun _ => rfl) (by decide) ?_; show (.pointer (some ⟨gf, id * 2, none⟩) : Value) = _; rfl
                · refine stepOK 10 ?ve1 rfl (fun _ _ => rfl) rfl rfl (fun _ => rfl) (by decide) ?_; show (.pointer (some ⟨gf, id * 2, none⟩) : Value) = _; rfl
                · refine stepRK (o := ⟨_, .nilCheck (.tmp 68), _, _, _, _⟩) ?ve2 rfl rfl rfl (fun _ => rfl) fun ρ X hc hf hgl hX hp ho => ?_; have k68 : ρ (.tmp 68) = ?ve1 := hp 1 (by decide); clear hp ho hX; go_simp; (all_goals rfl)
                · refine stepRK (o := ⟨_, .fieldAddr 116 (.tmp 69) 1, _, _, _, _⟩) ?ve3 rfl rfl rfl (fun _ => rfl) fun ρ X hc hf hgl hX hp ho => ?_; have k69 : ρ (.tmp 69) = ?ve2 := hp 2 (by decide); clear hp ho hX; go_simp; (all_goals rfl)
                · refine stepRK (o := ⟨_, .load 114 (.tmp 70), _, _, _, _⟩) ?ve4 rfl rfl rfl (fun _ => rfl) fun ρ X hc hf hgl hX hp ho => ?_; have k70 : ρ (.tmp 70) = ?ve3 := hp 3 (by decide); have cX := cXe X hX; clear hp ho hX; go_simp; (all_goals rfl)
                · refine step_introK rfl rfl fun ρ X hc hf hgl hX hp ho hu => ?_
                  change StepOk _ ⟨_, .makeSlice 36 (.const (.int .i64 64)) (.const (.int .i64 64)), _, _, _, _⟩ _ _ _
                  refine stepK_plain (i := 5) rfl ?_
                  clear hu
                  clear hp ho
                  obtain ⟨W', hr, hown, hgr⟩ := run_make_full (P := Tryz.prog) X ws 36 5 i1 (.int .u8 0) 1 Tryz.underlying36 hi1 hz1 hz2 .i64 .i64 64 (by rw [hz3]; omega) (by unfold maxLen; omega) (by have := hX.but.size; have := Hws.out; omega)
                  have hown' : Own 5 ws W' (.slice (some ⟨X.heap.size, 0, none⟩) 64 64) zero64 := own_snoc (l := zero64) hown rfl (made_z 64)
                  refine StepOk.of_run (v := .slice (some ⟨X.heap.size, 0, none⟩) 64 64) (w' := W') ?_ ⟨hown', (Below.refl _ _).grown hgr (Nat.le_refl _) (fun _ h => by cases h)⟩
                  simp only [execOp, hc, Sem.run_bind, Sem.run_pure]
                  rw [show Sem.run _ (Instr.makeSlice 36 (Value.int IntKind.i64 64) (Value.int IntKind.i64 64)) X = _ from hr]
                  rfl
                · refine step_introK rfl rfl fun ρ X hc hf hgl hX hp ho hu => ?_
                  change StepOk _ ⟨_, .buildSlice 114 1 #[(0, .tmp 72)], _, _, _, _⟩ _ _ _
                  have k72 := hp 5 (by decide)
                  refine stepK_plain (i := 6) rfl ?_
                  clear hu
                  clear hp ho
                  obtain ⟨au, cu, eu⟩ := own_form (show X.ownsRow ws 5 1 (ρ (.tmp 72)) zero64.length (zero64.map bv) from k72)
                  refine StepOk.of_run (v := .slice (some ⟨X.heap.size, 0, none⟩) 1 1) (w' := X.alloc (.cells #[ρ (.tmp 72)] 36)) ?_ ⟨⟨_, _, rfl, by have := hX.but.size; have := Hws.out; omega, heap_alloc_new X _, own_grows k72 (Grows.alloc' _ _)⟩, Grows.alloc' _ _⟩
                  rw [eu]
                  simp [go_sem, execOp, hc, eu]
                · refine step_introK rfl rfl fun ρ X hc hf hgl hX hp ho hu => ?_
                  change StepOk _ ⟨_, .call { callee := .builtin .append, args := #[.tmp 71, .tmp 73], argTypes := #[114, 114] }, _, _, _, _⟩ _ _ _
                  have k71 : ρ (.tmp 71) = ?ve4 := hp 4 (by decide)
                  have k73 := hp 6 (by decide)
                  clear hu
                  clear hp ho
                  refine stepK_made rfl ?_
                  obtain ⟨u, g18, e18, hg18, hh18, hu18⟩ := k73
                  obtain ⟨au, cu, rfl⟩ := own_form hu18
                  have hoX := hX.old _ Hown.out
                  obtain ⟨v', W', hr, hnew, hat, hE⟩ := run_append_r (P := Tryz.prog) (O := (fun k => Value.ownBlock (.slice ai ni ci) = some k)) (e := 36) (k := 1) (n := ni) (xs := xs) (rc := (fun u => [u])) (R := (fun u W => Own 5 ws W u zero64)) HRO.out X 114 114 i0 z0 24 Tryz.underlying114 hi hz hs2 hb2 hzs (by omega) _ hoX (fun j hj => hj) ⟨g18, 0, none⟩ 1 (.slice au zero64.length cu) rfl (fun j u hu => by rw [Addr.add_lit, Nat.zero_add, cell_of_row X g18 j _ _ _ hh18]; simpa using hu) (by intro u hu; simp at hu; subst hu; rfl) hu18 (by have := HnI.out; unfold maxLen; omega) (by have := HnI.out; omega)
                  refine StepOk.of_run (v := v') (w' := W') ?_ ⟨⟨hnew, ?_⟩, hE, fun s hs => by simp [noState] at hs⟩
                  · simp only [execOp, resolve, invoke, builtin, Sem.run_bind, Sem.run_pure, Result.andThen_ok, List.map_toArray, List.map_cons, List.map_nil, k71, e18, hr]
                  · rcases hat with h | h
                    · exact .inl h
                    · right; intro j hj; rw [h] at hj; have := Option.some.inj hj; have := hX.but.size; have := Hws.out; omega
                · refine stepRK (o := ⟨_, .nilCheck (.tmp 67), _, _, _, _⟩) ?ve8 rfl rfl rfl (fun _ => rfl) fun ρ X hc hf hgl hX hp ho => ?_; have k67 : ρ (.tmp 67) = ?ve0 := hp 0 (by decide); clear hp ho hX; go_simp; (all_goals rfl)
                · refine stepRK (o := ⟨_, .fieldAddr 116 (.tmp 75) 1, _, _, _, _⟩) ?ve9 rfl rfl rfl (fun _ => rfl) fun ρ X hc hf hgl hX hp ho => ?_; have k75 : ρ (.tmp 75) = ?ve8 := hp 8 (by decide); clear hp ho hX; go_simp; (all_goals rfl)
                · exact last_intro rfl
               case grde => rfl
               case rste =>
                intro a0 X hb
                obtain ⟨x72, hx72⟩ : ∃ x, a0.tmps.getD 72 undef = x := ⟨_, rfl⟩
                have p72 := hb.done' 5 72 rfl rfl
                rw [hx72] at p72
                obtain ⟨x73, hx73⟩ : ∃ x, a0.tmps.getD 73 undef = x := ⟨_, rfl⟩
                have p73 := hb.done' 6 73 rfl rfl
                rw [hx73] at p73
                obtain ⟨x74, hx74⟩ : ∃ x, a0.tmps.getD 74 undef = x := ⟨_, rfl⟩
                have p74 := hb.done' 7 74 rfl rfl
                rw [hx74] at p74
                have hfr := hb.frame ((67, ?ve0) :: (68, ?ve1) :: (69, ?ve2) :: (70, ?ve3) :: (71, ?ve4) :: (72, x72) :: (73, x73) :: (74, x74) :: (75, ?ve8) :: (76, ?ve9) :: []) rfl ⟨hb.done' 0 67 rfl rfl, hb.done' 1 68 rfl rfl, hb.done' 2 69 rfl rfl, hb.done' 3 70 rfl rfl, hb.done' 4 71 rfl rfl, hx72, hx73, hx74, hb.done' 8 75 rfl rfl, hb.done' 9 76 rfl rfl, trivial⟩
                simp only [updL, ↓reduceIte, Nat.reduceEqDiff, Nat.reduceAdd, Nat.zero_add] at hfr
                have HX := Lib.hid hb.ext
                clear hb cXe
                subst hfr
                change StepOk _ { dst := _, op := Op.store 114 (Operand.tmp 76) (Operand.tmp 74), type := _, pos := _, after := _, guard := _ } _ _ _
                have cX := HX.out.but.cell (p := ⟨gf, _, none⟩) hngf c5
                have hrX := HX.out.but.blockEq hngf Hgrow.out
                have fX : X.frozen? ⟨gf, id * 2 + 1, none⟩ = false := frozen_of_row X gf _ _ _ hrX
                obtain ⟨⟨u, po, pu⟩, pa⟩ := (show OwnR 36 1 ni xs (fun u => [u]) (fun u W => Own 5 ws W u zero64) x74 X ∧ (x74.ownBlock = Value.ownBlock (.slice ai ni ci) ∨ ∀ j, x74.ownBlock = some j → ws ≤ j) from p74)
                obtain ⟨a6, c6, rfl⟩ := own_form po
                have hadd := HRi.out.addSec id (by rw [growD_len]; exact Hlt.out) (.slice a6 (ni + 1) c6) u (by rw [growD_len]; exact Hvfi.out) (by rw [Hssi.out]; exact HX.out.but) (by rw [HnI2.out, Hxs.out]; exact po) (by rw [Hws.out]; exact pu) (by rw [Hssi.out, Hws.out]; exact pa) (by rw [HnI2.out]; have := HnI.out; omega)
                rw [growD_succ s1 id i Hlt.out] at hadd
                have HA := Lib.hid hadd
                clear hadd po pa pu p74
                unfold StepOk
                simp [go_sem, execOp, cX, fX]
                go_wp2
                go_roundw
                case rel => exact ⟨i + 1, _, hisucc, HA.out.1, Hvx.out, HTi.out.trans HA.out.2⟩
                case measure => exact Hms.out _ _ _ HA.out.1
             · have hni : ¬ (ni : Int) < (m : Int) := by have := HnL.out; omega
               obtain rfl : i = m - L := by omega
               clear ess hevf hmeas hlt him
               go_wp2
               go_ret
               exact ⟨by rw [Hr.out]; rfl, xi, by rw [Hr.out]; exact HRi.out, HTi.out⟩
 · have Hr : Hid (growF s nm n = (fc, s1)) := by show _ = _; unfold growF; rw [guardF_no (by rw [hfc]; exact hf), ← hfc, ← hs1]
   rw [hfc, hs1] at HF
   clear h hfc hs1
   go_enter Tryz.func43, Tryz.ntmps43
   go_wp2_with fail
   refine HF.out.mono ?_
   rintro e w1 ⟨rfl, hR, hB⟩
   have HR := Lib.hid hR
   have HB := Lib.hid hB
   clear hR hB HF
   go_wp2
   go_ret
   exact ⟨by rw [Hr.out]; rfl, x, by rw [Hr.out]; exact HR.out, Turn.ofBut HB.out⟩
end Go.Proofs.YtoppcpiheaedlaaGreatDoor
end
section
/-
  The document's own disk: other pending writes.
-/
namespace Go.Proofs.YtoppcpiheaedlaaGreatDoor
open Go.RowKit
set_option linter.unusedVariables false
set_option linter.unusedSimpArgs false
attribute [local go_sem] sv nv
theorem RD.setWr {W : World} {q : Nat} {s : Ds} {x : RDv} (h : RD W q s x) (v : Value) (l : List (Wr × Value)) (hl : ∀ e ∈ l, e ∈ s.wrs.zip x.ps) (hln : l.length ≤ 1000000)
 (hv : W.ownsRow 0 168 3 v l.length (l.flatMap wrC)) (hn : ∀ k, v.ownBlock = some k → ¬ useB q x k) (B : Nat) (hB : ∀ k, v.ownBlock = some k → B ≤ k) (W0 : World) (hW0 : W0.heap.size ≤ B) (x0 : RDv) (hT : Turn q x0 x W0 W) :
 RD (W.setCell ⟨q, 4, none⟩ v) q { s with wrs := l.map (·.1) } { x with vw := v, ps := l.map (·.2) } ∧ Turn q x0 { x with vw := v, ps := l.map (·.2) } W0 (W.setCell ⟨q, 4, none⟩ v) := by
 have hz : (l.map (·.1)).zip (l.map (·.2)) = l := by
  rw [List.zip_map']
  exact List.map_id l
 have hw : ∀ e ∈ l, e.1 ∈ s.wrs := fun e he => (List.of_mem_zip (a := e.1) (b := e.2) (hl e he)).1
 have hp : ∀ e ∈ l, e.2 ∈ x.ps := fun e he => (List.of_mem_zip (a := e.1) (b := e.2) (hl e he)).2
 have hbt : ∀ e ∈ l, Byt W e.2 e.1.p := by
  intro e he
  obtain ⟨j, hj, hje⟩ := List.mem_iff_getElem.1 (hl e he)
  rw [List.length_zip, h.psl] at hj
  have hj' : j < s.wrs.length := by omega
  rw [List.getElem_zip] at hje
  have := h.pend j hj'
  rw [← hje]
  have hjp : j < x.ps.length := by rw [h.psl]; exact hj'
  rw [List.getD, List.getElem?_eq_getElem hjp, Option.getD_some] at this
  exact this
 have hm : ∀ k, mutB q { x with vw := v, ps := l.map (·.2) } k → mutB q x k ∨ v.ownBlock = some k := by
  intro k hk
  rcases hk with hk | hk | hk | hk | hk
  · exact .inl (.inl hk)
  · exact .inl (.inr (.inl hk))
  · exact .inl (.inr (.inr (.inl hk)))
  · exact .inr hk
  · exact .inl (.inr (.inr (.inr (.inr hk))))
 have hu : ∀ k, useB q { x with vw := v, ps := l.map (·.2) } k → useB q x k ∨ v.ownBlock = some k := by
  intro k hk
  rcases hk with hk | hk | ⟨y, hy, hk⟩ | hk
  · exact (hm k hk).imp .inl id
  · exact .inl (.inr (.inl hk))
  · obtain ⟨e, he, rfl⟩ := List.mem_map.1 hy
    exact .inl (.inr (.inr (.inl ⟨_, hp e he, hk⟩)))
  · exact .inl (.inr (.inr (.inr hk)))
 have hq : ¬ v.ownBlock = some q := fun e => hn q e (.inl (.inl rfl))
 refine ⟨⟨row_setCell h.row 4 v, h.keepQ 4 v h.dir (by decide), h.keepQ 4 v h.chs (by decide), h.ssl, h.keepQ 4 v h.fls (by decide), by simp, ?_, h.spl, fun i hi => h.keepQ 4 v (h.sec i hi) (by decide), h.secB 4 v, ?_, ⟨?_, ?_⟩, h.dis, ⟨h.wf.dir, h.wf.chs, ?_, h.wf.sec, h.wf.room⟩, h.aft, ?_⟩, ?_, ?_, ?_⟩
 · show (W.setCell ⟨q, 4, none⟩ v).ownsRow 0 _ 3 v (l.map (·.1)).length (((l.map (·.1)).zip (l.map (·.2))).flatMap wrC)
   rw [hz, List.length_map]
   exact h.keepQ 4 v hv (by decide)
 · intro j hj
   have hj' : j < l.length := by have : j < (l.map (·.1)).length := hj; rw [List.length_map] at this; exact this
   show Byt _ ((l.map fun e : Wr × Value => e.2).getD j undef) ((l.map fun e : Wr × Value => e.1)[j]'hj).p
   rw [List.getElem_map, List.getD, List.getElem?_map, List.getElem?_eq_getElem hj']
   have hel := List.getElem_mem hj'
   generalize l[j] = e at hel ⊢
   show Byt _ e.2 e.1.p
   have h64 : e.1.p.length = 64 := (h.wf.wrs e.1 (hw e hel)).2.2
   exact h.keepBQ 4 v (hbt e hel) (by omega) (h.out.1 e.2 (hp e hel))
 · intro y hy k hk hmm
   obtain ⟨e, he, rfl⟩ := List.mem_map.1 hy
   rcases hm k hmm with h' | h'
   · exact h.out.1 _ (hp e he) k hk h'
   · exact hn k h' (.inr (.inr (.inl ⟨_, hp e he, hk⟩)))
 · intro y hy u hu' k hk hmm
   rcases hm k hmm with h' | h'
   · exact h.out.2 y hy u hu' k hk h'
   · exact hn k h' (.inr (.inr (.inr ⟨y, hy, u, hu', hk⟩)))
 · intro c hc
   obtain ⟨e, he, rfl⟩ := List.mem_map.1 hc
   exact h.wf.wrs _ (hw e he)
 · have := h.small
   exact ⟨this.1, this.2.1, this.2.2.1, by show (l.map (·.1)).length ≤ _; rw [List.length_map]; exact hln⟩
 · intro k hk
   rcases hm k hk with h' | h'
   · exact hT.muts k h'
   · exact .inr (Nat.le_trans hW0 (hB k h'))
 · intro k hk
   rcases hu k hk with h' | h'
   · exact hT.uses k h'
   · exact .inr (Nat.le_trans hW0 (hB k h'))
 · exact (hT.trans (Turn.ofBut (x := x) (But.setCell (But.refl' (fun k => k = q) W) ⟨q, 4, none⟩ v rfl))).but
end Go.Proofs.YtoppcpiheaedlaaGreatDoor
end
section
/-
  The document's own disk: Sync.
-/
namespace Go.Proofs.YtoppcpiheaedlaaGreatDoor
open Go.RowKit
set_option linter.unusedVariables false
set_option linter.unusedSimpArgs false
attribute [local go_sem] sv nv
def syncT (s : Ds) (id i : Nat) : Ds := { s with fls := ((s.wrs.take i).filter fun w => w.id == id).foldl keepF s.fls }
def restL (s : Ds) (x : RDv) (id i : Nat) : List (Wr × Value) := ((s.wrs.zip x.ps).take i).filter fun e => !(e.1.id == id)
theorem syncT_yes (s : Ds) (id i : Nat) (hi : i < s.wrs.length) (e : (s.wrs[i]).id = id) : { syncT s id i with fls := keepF (syncT s id i).fls (s.wrs[i]) } = syncT s id (i + 1) := by
 unfold syncT
 rw [List.take_succ_eq_append_getElem hi, List.filter_append, List.foldl_append, List.filter_cons_of_pos (by simp [e])]
 rfl
theorem syncT_no (s : Ds) (id i : Nat) (hi : i < s.wrs.length) (e : (s.wrs[i]).id ≠ id) : syncT s id (i + 1) = syncT s id i := by
 unfold syncT
 rw [List.take_succ_eq_append_getElem hi, List.filter_append, List.filter_cons_of_neg (by simp [e])]
 simp
theorem zip_at (s : Ds) (x : RDv) (hp : x.ps.length = s.wrs.length) (i : Nat) (hi : i < s.wrs.length) : ∃ h : i < (s.wrs.zip x.ps).length, (s.wrs.zip x.ps)[i] = (s.wrs[i], x.ps.getD i undef) := by
 have h : i < (s.wrs.zip x.ps).length := by rw [List.length_zip, hp]; omega
 refine ⟨h, ?_⟩
 rw [List.getElem_zip, List.getD, List.getElem?_eq_getElem (by omega), Option.getD_some]
theorem restL_yes (s : Ds) (x : RDv) (hp : x.ps.length = s.wrs.length) (id i : Nat) (hi : i < s.wrs.length) (e : (s.wrs[i]).id = id) : restL s x id (i + 1) = restL s x id i := by
 obtain ⟨h, he⟩ := zip_at s x hp i hi
 unfold restL
 rw [List.take_succ_eq_append_getElem h, List.filter_append, he, List.filter_cons_of_neg (by simp [e])]
 simp
theorem restL_no (s : Ds) (x : RDv) (hp : x.ps.length = s.wrs.length) (id i : Nat) (hi : i < s.wrs.length) (e : (s.wrs[i]).id ≠ id) : restL s x id (i + 1) = restL s x id i ++ [(s.wrs[i], x.ps.getD i undef)] := by
 obtain ⟨h, he⟩ := zip_at s x hp i hi
 unfold restL
 rw [List.take_succ_eq_append_getElem h, List.filter_append, he, List.filter_cons_of_pos (by simp [e])]
 simp
theorem restL_len (s : Ds) (x : RDv) (id i : Nat) : (restL s x id i).length ≤ i := by
 unfold restL
 refine Nat.le_trans (List.length_filter_le _ _) ?_
 rw [List.length_take]
 omega
theorem restL_all (s : Ds) (x : RDv) (hp : x.ps.length = s.wrs.length) (id i : Nat) (hi : s.wrs.length ≤ i) : (restL s x id i).map (·.1) = s.wrs.filter fun w => !(w.id == id) := by
 unfold restL
 rw [List.take_of_length_le (by rw [List.length_zip, hp]; omega)]
 have := List.filter_map (f := fun e : Wr × Value => e.1) (p := fun w : Wr => !(w.id == id)) (l := s.wrs.zip x.ps)
 rw [List.map_fst_zip (by rw [hp]; exact Nat.le_refl _)] at this
 rw [this]
 rfl
theorem RD.writC {w : World} {q : Nat} {s : Ds} {x : RDv} (h : RD w q s x) {g n cap : Nat} (hv : x.vw = .slice (some ⟨g, 0, none⟩) n cap) (j : Nat) (hj : j < s.wrs.length) :
 ∀ r u, (wrC (s.wrs[j], x.ps.getD j undef))[r]? = some u → w.cell? ((⟨g, j * 3, none⟩ : Addr).add r) = some u := by
 have hw := h.wrs
 rw [hv] at hw
 have hn : n = s.wrs.length := by
  rcases hw.2 with ⟨h0, _⟩ | ⟨_, _, _, h0, _⟩
  · cases h0
  · simp only [Value.slice.injEq] at h0; exact h0.2.1
 subst hn
 intro r u hu
 have hr : r < 3 := (List.getElem?_eq_some_iff.1 hu).1
 obtain ⟨hz, he⟩ := zip_at s x h.psl j hj
 rw [Addr.add_lit]
 refine own_cell hw (j * 3 + r) u ?_
 rw [flat_get wrC 3 (fun _ => rfl) (s.wrs.zip x.ps) j r hz hr, he]
 exact hu
theorem sizeWrD : (Tryz.prog.info? 168).map (·.size) = some 3 := by kernel_rfl
set_option maxRecDepth 100000 in
set_option maxHeartbeats 4000000 in
theorem refSync (q : Nat) (s : Ds) (x : RDv) (nm : Nm) (w : World) (h : RD w q s x) :
 Calls Tryz.prog 46 #[.pointer (some ⟨q, 0, none⟩), sv nm] w fun e w' => e = .returned (.int .i64 (syncF s nm).1) ∧ ∃ x', RD w' q (syncF s nm).2 x' ∧ Turn q x x' w w' := by
 obtain ⟨i0, z0, hi, hz, hs2, hb2, hzs⟩ := infoWrD_parts
 have HF := Lib.hid (refFails q s x w h)
 unfold sv
 obtain ⟨fc, hfc⟩ : ∃ y, (failsF s).1 = y := ⟨_, rfl⟩
 obtain ⟨s1, hs1⟩ : ∃ y, (failsF s).2 = y := ⟨_, rfl⟩
 by_cases hf : fc = 0
 · have Hg : Hid (syncF s nm = match idF s1 nm with
    | none => (7, s1)
    | some id => (0, { s1 with fls := (s1.wrs.filter fun w => w.id == id).foldl keepF s1.fls, wrs := s1.wrs.filter fun w => !(w.id == id) })) := by
    show _ = _
    unfold syncF
    rw [guardF_yes (by rw [hfc, hf]), hs1]
    cases idF s1 nm <;> rfl
   rw [hfc, hs1] at HF
   clear h hfc hs1
   subst hf
   go_enter Tryz.func46, Tryz.ntmps46
   go_wp2_with fail
   refine HF.out.mono ?_
   rintro e w1 ⟨rfl, hR, hB⟩
   have HR := Lib.hid hR
   have HT := Lib.hid (Turn.ofBut (x := x) hB)
   have HI := Lib.hid (refId q s1 x nm w1 hR)
   unfold sv at HI
   clear hR hB HF
   cases hid : idF s1 nm with
   | none =>
    have Hr : Hid (syncF s nm = (7, s1)) := by show _ = _; rw [Hg.out, hid]
    have hir : idR s1 nm = .tuple #[.int .i64 0, .bool false] := by unfold idR; rw [hid]; rfl
    rw [hir] at HI
    clear hid hir
    go_wp2_with fail
    refine HI.out.mono ?_
    rintro e w2 ⟨rfl, hG⟩
    have HG := Lib.hid hG
    clear hG
    go_wp2
    go_ret
    exact ⟨by rw [Hr.out]; rfl, x, by rw [Hr.out]; exact HR.out.grows HG.out, HT.out.trans (Turn.ofGrows HG.out)⟩
   | some id =>
    have hir : idR s1 nm = .tuple #[.int .i64 (id : Int), .bool true] := by unfold idR; rw [hid]; rfl
    rw [hir] at HI
    have Hr : Hid (syncF s nm = (0, { s1 with fls := (s1.wrs.filter fun w => w.id == id).foldl keepF s1.fls, wrs := s1.wrs.filter fun w => !(w.id == id) })) := by show _ = _; rw [Hg.out, hid]
    clear hid hir Hg
    go_wp2_with fail
    refine HI.out.mono ?_
    rintro e w2 ⟨rfl, hG⟩
    have HT2 := Lib.hid (HT.out.trans (Turn.ofGrows hG))
    have H1 := Lib.hid (HR.out.grows hG)
    have hsm := H1.out.small.2.2.2
    obtain ⟨B, HB⟩ : ∃ y, Hid (w2.heap.size = y) := ⟨_, rfl⟩
    have HltB : Hid (∀ k, useB q x k → k < B) := fun k hk => by have := H1.out.ltU hk; have := HB.out; omega
    have HW0 : Hid (w.heap.size ≤ B) := by have := HT2.out.but.size; have := HB.out; show _ ≤ _; omega
    obtain ⟨n, Hn⟩ : ∃ y, Hid (s1.wrs.length = y) := ⟨_, rfl⟩
    rw [Hn.out] at hsm
    have hni : (n : Int) ≤ 1000000 := by omega
    clear hG HI hsm
    go_wp2
    go_loopw [8, 9] (fun t8 t9 wr => ∃ (i : Nat) (sp : List (List Value)), t9 = .int .i64 i ∧ i ≤ n ∧ Hid (RD wr q (syncT s1 id i) { x with sp := sp }) ∧ Hid (∀ k, useB q { x with sp := sp } k → useB q x k) ∧ Hid (Turn q x { x with sp := sp } w wr) ∧
     Hid (wr.ownsRow 0 168 3 t8 (restL s1 x id i).length ((restL s1 x id i).flatMap wrC)) ∧ Hid ((∀ j, t8.ownBlock = some j → B ≤ j) ∧ B ≤ wr.heap.size)) (fun _ t9 _ => n - (intOf t9).toNat)
    case atStart => exact ⟨0, x.sp, rfl, by omega, H1.out, fun k hk => hk, HT2.out, World.ownsRow_nil _ _ _ _, fun j hj => by simp [Value.ownBlock] at hj, by rw [HB.out]; exact Nat.le_refl _⟩
    case round =>
     obtain ⟨i, sp, rfl, hin, HRi, Hus, HTi, Hre, Hbs⟩ := hrel
     obtain ⟨a8, c8, rfl⟩ := own_form Hre.out
     have Hbl := Lib.hid Hbs.out.1
     have Hsw := Lib.hid Hbs.out.2
     clear Hbs
     have hwl : (syncT s1 id i).wrs.length = n := Hn.out
     have c4 := HRi.out.cell 4 x.vw rfl
     obtain ⟨aw, cw, evw⟩ := own_form (show wr.ownsRow 0 168 3 x.vw (syncT s1 id i).wrs.length _ from HRi.out.wrs)
     rw [hwl] at evw
     rw [evw] at c4
     have Hevw := Lib.hid evw
     obtain ⟨nr, Hnr⟩ : ∃ y, Hid ((restL s1 x id i).length = y) := ⟨_, rfl⟩
     have hnr := restL_len s1 x id i
     rw [Hnr.out] at hnr Hbl ⊢
     clear hwl
     by_cases hlt : i < n
     · have hltI : (i : Int) < (n : Int) := by omega
       have hbi : ¬ ((n : Int) ≤ (i : Int)) := by omega
       have hi1 : i < s1.wrs.length := by rw [Hn.out]; exact hlt
       obtain ⟨gw, kw, e1⟩ := own_some HRi.out.wrs (show 0 < (syncT s1 id i).wrs.length by show 0 < s1.wrs.length; omega)
       have e2 : Value.slice aw n cw = .slice (some ⟨gw, 0, none⟩) n kw := evw.symm.trans (by rw [show x.vw = _ from e1]; show Value.slice _ s1.wrs.length _ = _; rw [Hn.out])
       simp only [Value.slice.injEq, true_and] at e2
       obtain ⟨rfl, rfl⟩ := e2
       have hcs := HRi.out.writC (s := syncT s1 id i) evw i hi1
       have hwf := HRi.out.wf.wrs (s1.wrs[i]) (List.getElem_mem hi1)
       have hby := HRi.out.pend i hi1
       have hpm : x.ps.getD i undef ∈ x.ps := getD_mem x.ps i undef (by rw [H1.out.psl]; exact hi1)
       have hbo := HRi.out.out.1 _ hpm
       have hyes := syncT_yes s1 id i hi1
       have hno := syncT_no s1 id i hi1
       have hry := restL_yes s1 x H1.out.psl id i hi1
       have hrn := restL_no s1 x H1.out.psl id i hi1
       have hwi : (syncT s1 id i).wrs[i] = s1.wrs[i] := rfl
       rw [hwi] at hcs hby
       obtain ⟨c, hc⟩ : ∃ y, s1.wrs[i] = y := ⟨_, rfl⟩
       rw [hc] at hcs hwf hby hyes hno hry hrn
       obtain ⟨u, hu⟩ : ∃ y, x.ps.getD i undef = y := ⟨_, rfl⟩
       have hu' : ({ x with sp := sp } : RDv).ps.getD i undef = u := hu
       rw [hu'] at hcs hby
       rw [hu] at hpm hbo hrn
       obtain ⟨wi, wn, wp⟩ := c
       obtain ⟨au, cu, rfl⟩ := hby.slice
       have Hcs := Lib.hid hcs
       have c30 : wr.cell? ⟨gw, i * 3, none⟩ = some (.int .i64 (wi : Int)) := by have := hcs 0 _ rfl; rw [Addr.add_lit, Nat.add_zero] at this; exact this
       have HK := Lib.hid (refKeep q (syncT s1 id i) { x with sp := sp } ⟨wi, wn, wp⟩ (.slice au wp.length cu) wr HRi.out hwf.1 hwf.2.1 hwf.2.2 hby hbo (fun k hk => .inr (.inr (.inl ⟨_, hpm, hk⟩))))
       obtain ⟨lp, Hlp⟩ : ∃ y, Hid (wp.length = y) := ⟨_, rfl⟩
       rw [Hlp.out] at Hcs HK hrn
       have c31 : wr.cell? ⟨gw, i * 3 + 1, none⟩ = some (.int .i64 (wn : Int)) := by have := Hcs.out 1 _ rfl; rw [Addr.add_lit] at this; exact this
       have c32 : wr.cell? ⟨gw, i * 3 + 2, none⟩ = some (.slice au lp cu) := by have := Hcs.out 2 _ rfl; rw [Addr.add_lit] at this; exact this
       have Hsz := Lib.hid sizeWrD
       have Hi := Lib.hid hlt
       unfold nv at HK
       by_cases he : wi = id
       · have Hys := Lib.hid (hyes he)
         have Hry := Lib.hid (hry he)
         clear evw e1 hcs hwf hby hpm hbo hyes hno hry hrn hwi hc hu hu' hlt hin hi1 hnr
         have he' := he.symm
         clear he
         subst he'
         go_wp2_with (first
          | (refine wpList_loadPart rfl 168 _ rfl ⟨gw, i * 3, none⟩ rfl _ #[.int .i64 (wi : Int), .int .i64 (wn : Int), .slice au lp cu] rfl _ Hcs.out Tryz.underlying168 rfl Hsz.out ?_)
          | fail)
         refine HK.out.mono ?_
         rintro e w4 ⟨rfl, sp', hR4, hT4, hU4⟩
         have HR4 : Hid (RD w4 q (syncT s1 id (i + 1)) { x with sp := sp' }) := by show RD _ _ _ _; rw [← Hys.out]; exact hR4
         have HT4 : Hid (Turn q x { x with sp := sp' } w w4) := HTi.out.trans hT4
         have Hu4 : Hid (∀ k, useB q { x with sp := sp' } k → useB q x k) := fun k hk => Hus.out k (hU4 k hk)
         have Hre4 : Hid (w4.ownsRow 0 168 3 (.slice a8 nr c8) (restL s1 x id (i + 1)).length ((restL s1 x id (i + 1)).flatMap wrC)) := by
          show World.ownsRow _ _ _ _ _ _ _
          rw [Hry.out]
          have h8 := Hre.out
          rw [Hnr.out] at h8 ⊢
          exact own_but h8 hT4.but fun j hj hm => by have := Hbl.out j hj; have := HltB.out j (Hus.out j (.inl hm)); omega
         have Hs4 : Hid (B ≤ w4.heap.size) := Nat.le_trans Hsw.out hT4.but.size
         clear hR4 hT4 hU4 HK
         go_wp2
         go_roundw
         case rel => exact ⟨i + 1, sp', by simp, Hi.out, HR4.out, Hu4.out, HT4.out, Hre4.out, Hbl.out, Hs4.out⟩
         case measure => have := Hi.out; simp [intOf]; omega
       · have Hno := Lib.hid (hno he)
         have Hrn := Lib.hid (hrn he)
         have heI : ¬ (wi : Int) = (id : Int) := by omega
         have hnri : nr ≤ 1000000 := by omega
         have Hnri := Lib.hid hnri
         clear evw e1 hcs hwf hby hpm hbo hyes hno hry hrn hwi hc hu hu' hlt hin hi1 hnr he HK hnri
         go_wp2_with (first
          | (refine wpList_loadPart rfl 168 _ rfl ⟨gw, i * 3, none⟩ rfl _ #[.int .i64 (wi : Int), .int .i64 (wn : Int), .slice au lp cu] rfl _ Hcs.out Tryz.underlying168 rfl Hsz.out ?_)
          | (at_builtin; refine wpList_appendx rfl _ _ 74 168 rfl i0 z0 3 40 Tryz.underlying74 hi hz hs2 hb2 hzs (by omega) _ nr ((restL s1 x id i).flatMap wrC) rfl ?q1 ⟨wr.heap.size, 0, none⟩ 1 1 (wrC (⟨wi, wn, wp⟩, .slice au lp cu)) ?q2 rfl ?q3 ?q7 ?q4 ?q5 ?q6)
          | fail)
         case q1 => have h8 := Hre.out; rw [Hnr.out] at h8; exact own_grows h8 (Grows.alloc' _ _)
         case q3 =>
          intro j u hu
          first
           | (rw [Addr.add_lit, Nat.zero_add, World.cell?_alloc_at _ _ _ _ rfl]; simpa [wrC, nv] using hu)
           | simpa [wrC, nv] using hu
         case q7 => intro u hu; simp [wrC, nv] at hu; rcases hu with rfl | rfl | rfl <;> rfl
         case q4 => have := Hnri.out; unfold maxLen; omega
         case q5 => have := Hnri.out; omega
         intro v6 w6 hown6 hgrow6 hat6
         obtain ⟨a6, c6, rfl⟩ := own_form hown6
         have hbut : But (fun k => Value.ownBlock (.slice a8 nr c8) = some k) wr w6 := (But.ofGrows (Grows.alloc' _ _)).trans' (But.grown hgrow6 (fun j hj => hj))
         have HR4 : Hid (RD w6 q (syncT s1 id (i + 1)) { x with sp := sp }) := by
          show RD _ _ _ _
          rw [Hno.out]
          exact HRi.out.kept fun k hk => hbut.block k (HRi.out.ltU hk) fun hx => by have := Hbl.out k hx; have := HltB.out k (Hus.out k hk); omega
         have HT4 : Hid (Turn q x { x with sp := sp } w w6) := ⟨fun k hk => HTi.out.muts k hk, fun k hk => HTi.out.uses k hk,
          ⟨hbut.os.trans HTi.out.but.os, hbut.tape.trans HTi.out.but.tape, hbut.output.trans HTi.out.but.output, Nat.le_trans HTi.out.but.size hbut.size, fun k hk hn => (hbut.block k (Nat.lt_of_lt_of_le hk HTi.out.but.size) fun hx => by have := Hbl.out k hx; have := HW0.out; omega).trans (HTi.out.but.block k hk hn)⟩⟩
         have Hre4 : Hid (w6.ownsRow 0 168 3 (.slice a6 (nr + 1) c6) (restL s1 x id (i + 1)).length ((restL s1 x id (i + 1)).flatMap wrC)) := by
          show World.ownsRow _ _ _ _ _ _ _
          rw [Hrn.out, List.length_append, Hnr.out, List.flatMap_append]
          simpa using hown6
         have Hb4 : Hid (∀ j, Value.ownBlock (.slice a6 (nr + 1) c6) = some j → B ≤ j) := fun j hj => by
          rcases hat6 with h6 | h6
          · exact Hbl.out j (h6.symm.trans hj)
          · rw [h6] at hj
            have h7 := Option.some.inj hj
            have h8 := HTi.out.but.size
            have h9 := Hsw.out
            try simp at h7
            first | omega | (have h11 : (wr.alloc (.cells #[] 168)).heap.size = wr.heap.size + 1 := (by simp [World.alloc]); omega)
         have Hs4 : Hid (B ≤ w6.heap.size) := Nat.le_trans Hsw.out hbut.size
         clear hown6 hgrow6 hat6 hbut
         go_wp2
         go_roundw
         case rel => exact ⟨i + 1, sp, by simp, Hi.out, HR4.out, Hus.out, HT4.out, Hre4.out, Hb4.out, Hs4.out⟩
         case measure => have := Hi.out; simp [intOf]; omega
     · have hltI : ¬ (i : Int) < (n : Int) := by omega
       obtain rfl : i = n := by omega
       have hset := HRi.out.setWr (.slice a8 nr c8) (restL s1 x id i) (fun e he => List.mem_of_mem_take (List.mem_filter.1 he).1) (by rw [Hnr.out]; omega) (by have h8 := Hre.out; rw [Hnr.out] at h8 ⊢; exact h8) (fun k hk hus => by have := Hbl.out k hk; have := HltB.out k (Hus.out k hus); omega) B Hbl.out w HW0.out x HTi.out
       have hall : ({ syncT s1 id i with wrs := (restL s1 x id i).map fun e : Wr × Value => e.1 } : Ds) = { s1 with fls := (s1.wrs.filter fun w : Wr => w.id == id).foldl keepF s1.fls, wrs := s1.wrs.filter fun w : Wr => !(w.id == id) } := by
        rw [restL_all s1 x H1.out.psl id i (by rw [Hn.out]; exact Nat.le_refl _)]
        unfold syncT
        rw [List.take_of_length_le (by rw [Hn.out]; exact Nat.le_refl _)]
       rw [hall] at hset
       have HS := Lib.hid hset
       have f4 := HRi.out.frozen 4
       clear hset hall evw hnr hin
       go_wp2
       go_ret
       exact ⟨by rw [Hr.out]; rfl, _, by rw [Hr.out]; exact HS.out.1, HS.out.2⟩
 · have Hr : Hid (syncF s nm = (fc, s1)) := by show _ = _; unfold syncF; rw [guardF_no (by rw [hfc]; exact hf), ← hfc, ← hs1]
   rw [hfc, hs1] at HF
   clear h hfc hs1
   go_enter Tryz.func46, Tryz.ntmps46
   go_wp2_with fail
   refine HF.out.mono ?_
   rintro e w1 ⟨rfl, hR, hB⟩
   have HR := Lib.hid hR
   have HB := Lib.hid hB
   clear hR hB
   go_wp2
   go_ret
   exact ⟨by rw [Hr.out]; rfl, x, by rw [Hr.out]; exact HR.out, Turn.ofBut HB.out⟩
end Go.Proofs.YtoppcpiheaedlaaGreatDoor
end
