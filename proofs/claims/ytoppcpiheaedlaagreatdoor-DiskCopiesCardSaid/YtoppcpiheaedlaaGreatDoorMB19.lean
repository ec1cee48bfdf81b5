/-
  Whether the program's disk shows what the document's does: it does, if both are in step.
-/
import Derived.Test.YtoppcpiheaedlaaGreatDoorMB13
import Derived.Test.YtoppcpiheaedlaaGreatDoorMB11
import Derived.Test.YtoppcpiheaedlaaGreatDoorMB17
import Derived.Test.YtoppcpiheaedlaaGreatDoorMB12
import Derived.Test.YtoppcpiheaedlaaGreatDoorMB8
import Derived.Test.YtoppcpiheaedlaaGreatDoorMB7
namespace Go.Proofs.YtoppcpiheaedlaaGreatDoor
open Go.RowKit Go.Maps
set_option linter.unusedVariables false
set_option linter.unusedSimpArgs false
attribute [local go_sem] sv nv mv pv
theorem sortN_p (l : List Nm) : (sortN l).Perm l := List.mergeSort_perm _ _
theorem rel_same {a b : Ps} {t : Ds} (h : Rel b t) (e : SameP a b) : Rel a t where
 room := e.room.trans h.room
 arm := by rw [e.code, e.first]; exact h.arm
 made := e.made.trans h.made
 len := by rw [e.dirs]; exact h.len
 dir := fun i hi => by rw [e.dirs]; exact h.dir i hi
 nod := h.nod
 file := fun n v hv => h.file n v (by rw [← e.files]; exact hv)
 has := fun i hi x hx => by rw [e.files]; exact h.has i hi x hx
 pend := e.pend.trans h.pend
section
variable {w : World} {q : Nat} {x : Px} {s : Ds}
theorem names_eq (h : PD w q x) (hr : Rel x.s s) : outs ((nowF s).map (·.1)) (nowF s).length = sortN ((nowP x.s).map (·.1)) ∧ (nowF s).length = (nowP x.s).length := by
 have hp : ((nowP x.s).map (·.1)).Perm ((nowF s).map (·.1)) := by
  have := hr.now.map (·.1)
  rw [List.map_map] at this
  exact this
 have hne : ∀ y ∈ (nowF s).map (·.1), y ≠ [] := by
  intro y hy e
  obtain ⟨p, hp1, hp2⟩ := List.mem_map.1 (hp.mem_iff.2 hy)
  rw [nowX_s] at hp1
  have := (h.wf.names _ (nowX_mem x h.wf.ne)).2 p hp1
  rw [hp2, e] at this
  exact absurd this.1 (by decide)
 refine ⟨?_, hr.len'.symm⟩
 rw [sortN_perm hp]
 have := outs_sort ((nowF s).map (·.1)) hr.nowNod hne
 rw [List.length_map] at this
 exact this
theorem len_eq (hr : Rel x.s s) (nm : Nm) : lenP x.s nm = lenF s nm := by
 unfold lenP lenF
 rw [hr.find nm]
 cases hi : idF s nm with
 | none => rfl
 | some id =>
  show ((fileP x.s (id + 1)).1.length, (0 : Int)) = _
  rw [hr.fileP hi]
  show ((nowSecs s id).length, _) = _
  rw [nowSecs_len]
theorem len_le (h : PD w q x) (nm : Nm) : (lenP x.s nm).1 ≤ 4096 := by
 unfold lenP
 split
 · exact Nat.zero_le _
 · rename_i k hk
   rw [nowX_s] at hk
   obtain ⟨f, hf, rfl⟩ := h.named (nowX_mem x h.wf.ne) hk
   rw [h.fileP hf]
   exact (h.files.ok f hf).le
theorem name_find {nm : Nm} (hm : nm ∈ (nowP x.s).map (·.1)) : ∃ k, findA (nowP x.s) nm = some k := by
 cases hf : findA (nowP x.s) nm with
 | some k => exact ⟨k, rfl⟩
 | none =>
  obtain ⟨p, hp, e⟩ := List.mem_map.1 hm
  exact absurd e (findA_none_iff.1 hf p hp)
theorem read_eq (hr : Rel x.s s) (hc : x.s.code = 0) {nm : Nm} (hm : nm ∈ (nowP x.s).map (·.1)) (i : Nat) (hi : i < (lenP x.s nm).1) : readP x.s nm i = (((lookF s nm i).1, 0), x.s) := by
 have hb : beginP x.s = (0, x.s) := by unfold beginP; rw [if_pos hc]
 obtain ⟨k, hk⟩ := name_find hm
 have hl := rel_look hr nm (i : Int)
 have hlen : i < (fileP x.s k).1.length := by unfold lenP at hi; rw [hk] at hi; exact hi
 unfold readP
 rw [hb]
 simp only [ne_eq, not_true, if_false]
 rw [hk] at hl ⊢
 simp only at hl ⊢
 rw [if_neg (by omega)] at hl ⊢
 rw [← hl]
theorem same_arm {y : Px} (e : SameP y.s x.s) : SameP (armX y (-1) 0).s { x.s with first := 0, code := 0 } := by
 rw [armX_s]
 unfold armP
 rw [if_neg (by omega)]
 exact ⟨e.room, e.dirs, e.made, e.pend, rfl, rfl, e.files, e.perm⟩
theorem rel_dis (hr : Rel x.s s) : Rel { x.s with first := 0, code := 0 } { s with armed := false } :=
 ⟨hr.room, .inl ⟨rfl, rfl⟩, hr.made, hr.len, hr.dir, hr.nod, hr.file, hr.has, hr.pend⟩
end
theorem IsFault.nil0 {W : World} {v : Value} {op nm : List UInt8} {code : Int} (h : IsFault W v op nm code) (hc : code = 0) : v = .nilIface := by
 rcases h with ⟨_, h⟩ | ⟨h, _⟩
 · exact h
 · exact absurd hc h
theorem look_arm (s : Ds) (b : Bool) (nm : Nm) (n : Int) : lookF { s with armed := b } nm n = lookF s nm n := rfl
set_option maxRecDepth 100000 in
set_option maxHeartbeats 8000000 in
theorem pAlike {w : World} {q q2 : Nat} {x : Px} {s : Ds} {xr : RDv} (h : PD w q x) (hd : RD w q2 s xr) (hr : Rel x.s s) :
 Calls Tryz.prog 15 #[.pointer (some ⟨q, 0, none⟩), .pointer (some ⟨q2, 0, none⟩)] w fun e w' => e = .returned (.bool true) ∧ Grows w w' := by
 have hmx : Tryz.prog.follows .mixedOrders = true := by kernel_rfl
 have h8 : (nowP x.s).length ≤ 1000000 := by
  rw [nowX_s]
  have := (h.wf.names _ (nowX_mem x h.wf.ne)).1
  omega
 have HP := Lib.hid h
 have HD := Lib.hid hd
 have HR := Lib.hid hr
 obtain ⟨en, el⟩ := names_eq h hr
 obtain ⟨N, HN⟩ : ∃ N, Hid (sortN ((nowP x.s).map (·.1)) = N) := ⟨_, rfl⟩
 obtain ⟨L, HL⟩ : ∃ L, Hid ((nowP x.s).length = L) := ⟨_, rfl⟩
 have HNl : Hid (N.length = L) := by
  show _ = _
  rw [← HN.out, ← HL.out, (sortN_p _).length_eq, List.length_map]
 have HNm : Hid (∀ nm ∈ N, nm ∈ (nowP x.s).map (·.1)) := by
  intro nm hm
  rw [← HN.out] at hm
  exact (sortN_p _).mem_iff.1 hm
 have HA := Lib.hid (PNames h h8)
 have HB : Hid (∀ W, Grows w W → Calls Tryz.prog 50 #[.pointer (some ⟨q2, 0, none⟩)] W fun e w' => ∃ v, e = .returned v ∧ w'.ownsRow 0 9 1 v L (N.map sv) ∧ Grows W w') := by
  intro W g
  have := refNames q2 s xr W (hd.grows g)
  rw [en, el, HN.out, HL.out] at this
  exact this
 rw [HN.out, HL.out] at HA
 have HPe : Hid (∀ W, Grows w W → Calls Tryz.prog 25 #[.pointer (some ⟨q, 0, none⟩)] W fun e w' => e = .returned (.tuple #[nv s.wrs.length, nv s.chs.length]) ∧ Grows W w') := by
  intro W g
  have := PPending (h.grows g)
  rw [show x.s.pend.length = s.wrs.length by rw [hr.pend, List.length_map], show x.s.dirs.length - 1 = s.chs.length by rw [hr.len]; rfl] at this
  exact this
 have HPr : Hid (∀ W, Grows w W → Calls Tryz.prog 51 #[.pointer (some ⟨q2, 0, none⟩)] W fun e w' => e = .returned (.tuple #[nv s.wrs.length, nv s.chs.length]) ∧ Grows W w') := fun W g => refPending q2 s xr W (hd.grows g)
 have HCp : Hid (∀ W, Grows w W → Calls Tryz.prog 16 #[.pointer (some ⟨q, 0, none⟩)] W fun e w' => ∃ qc xc, e = .returned (.pointer (some ⟨qc, 0, none⟩)) ∧ PD w' qc xc ∧ SameP xc.s x.s ∧ Grows W w' ∧ (∀ k, useP qc xc k → W.heap.size ≤ k ∨ ∃ d ∈ x.dirs, k = d.1) ∧ ∀ k, mutP qc xc k → W.heap.size ≤ k) := fun W g => pCopy (h.grows g)
 have HLI : Hid ((L : Int) ≤ 1000000) := by show _ ≤ _; have := HL.out; omega
 obtain ⟨nw, Hnw⟩ : ∃ y, Hid (s.wrs.length = y) := ⟨_, rfl⟩
 obtain ⟨nc, Hnc⟩ : ∃ y, Hid (s.chs.length = y) := ⟨_, rfl⟩
 rw [Hnw.out, Hnc.out] at HPe HPr
 unfold nv at HPe HPr
 clear h hd hr en el h8
 go_enter Tryz.func15, Tryz.ntmps15
 go_wp2_with fail
 refine HA.out.mono ?_
 rintro e w1 ⟨va, rfl, hva, hG1⟩
 obtain ⟨aa, ca, rfl⟩ := own_form hva
 have HVa := Lib.hid hva
 have HG1 := Lib.hid hG1
 clear hva hG1 HA
 go_wp2_with fail
 refine (HB.out w1 HG1.out).mono ?_
 rintro e w2 ⟨vb, rfl, hvb, hG2⟩
 obtain ⟨ab, cb, rfl⟩ := own_form hvb
 have HVb := Lib.hid hvb
 have HVa2 := Lib.hid (own_grows HVa.out hG2)
 have HG2 := Lib.hid (Grows.trans' HG1.out hG2)
 clear hvb hG2 HB HVa
 go_wp2_with fail
 refine (HPe.out w2 HG2.out).mono ?_
 rintro e w3 ⟨rfl, hG3⟩
 have HG3a := Lib.hid hG3
 have HG3 := Lib.hid (Grows.trans' HG2.out hG3)
 clear hG3 HPe
 go_wp2_with fail
 refine (HPr.out w3 HG3.out).mono ?_
 rintro e w4 ⟨rfl, hG4⟩
 have HG4a := Lib.hid (Grows.trans' HG3a.out hG4)
 have HG4 := Lib.hid (Grows.trans' HG3.out hG4)
 clear hG4 HPr
 have HVa4 := Lib.hid (own_grows HVa2.out HG4a.out)
 have HVb4 := Lib.hid (own_grows HVb.out HG4a.out)
 go_wp2_with fail
 refine (HCp.out w4 HG4.out).mono ?_
 rintro e w5 ⟨qc, xc, rfl, hPc, hsc, hG5, _, hmc⟩
 have HPc := Lib.hid hPc
 have Hsc := Lib.hid hsc
 have HG5 := Lib.hid hG5
 have Hmc := Lib.hid hmc
 have HAr := Lib.hid (pArm hPc (-1) 0 (by omega))
 clear hPc hsc hG5 hmc HCp
 go_wp2_with fail
 refine HAr.out.mono ?_
 rintro e w6 ⟨rfl, hPa, hTa⟩
 obtain ⟨xa, Hxa⟩ : ∃ y, Hid (armX xc (-1) 0 = y) := ⟨_, rfl⟩
 rw [Hxa.out] at hPa hTa
 have HPa := Lib.hid hPa
 have Hma : Hid (∀ k, mutP qc xa k → w4.heap.size ≤ k) := fun k hk => (hTa.muts k hk).elim (Hmc.out k) (fun hl => Nat.le_trans HG5.out.size hl)
 have HG6 : Hid (Grows w4 w6) := ((But.ofGrows HG5.out).trans' hTa.but).below (Nat.le_refl _) (fun k hk => Hmc.out k hk)
 have HRa : Hid (Rel xa.s { s with armed := false }) := by show Rel _ _; rw [← Hxa.out]; exact rel_same (rel_dis HR.out) (same_arm Hsc.out)
 have Hca : Hid (xa.s.code = 0) := by show _ = _; rw [← Hxa.out]; exact (same_arm Hsc.out).code
 have HNa : Hid (∀ nm, nm ∈ N → nm ∈ (nowP xa.s).map (·.1)) := by
  intro nm hm
  have := HNm.out nm hm
  have e : nowP xa.s = nowP x.s := by unfold nowP; rw [← Hxa.out, (same_arm Hsc.out).dirs]
  rw [e]
  exact this
 have HLa : Hid (∀ nm, lenP xa.s nm = lenP x.s nm) := by
  intro nm
  rw [len_eq HRa.out, len_eq HR.out]
  rfl
 have Hbx : Hid (beginX xa = xa) := by
  show _ = _
  unfold beginX
  have hb : beginP xa.s = (0, xa.s) := by unfold beginP; rw [if_pos Hca.out]
  rw [hb]
  rfl
 clear hPa hTa HAr
 go_wp2
 go_loopw [12] (fun t12 wr => ∃ i : Nat, i ≤ L ∧ t12 = .int .i64 i ∧ Hid (PD wr qc xa) ∧ Hid (Grows w4 wr)) (fun t12 _ => L - (intOf t12).toNat)
 case atStart => exact ⟨0, by omega, rfl, HPa.out, HG6.out⟩
 case round =>
  obtain ⟨i, hiL, rfl, HPi, HGi⟩ := hrel
  have HGw := Lib.hid (Grows.trans' HG4.out HGi.out)
  have hLI := HLI.out
  by_cases hlt : i < L
  · have hltI : (i : Int) < (L : Int) := by omega
    have hbi : ¬ ((L : Int) ≤ (i : Int)) := by omega
    have hiN : i < N.length := by rw [HNl.out]; exact hlt
    obtain ⟨ga, ka, ea⟩ := own_some HVa4.out (by omega)
    obtain ⟨gb, kb, eb⟩ := own_some HVb4.out (by omega)
    simp only [Value.slice.injEq] at ea eb
    obtain ⟨rfl, -, rfl⟩ := ea
    obtain ⟨rfl, -, rfl⟩ := eb
    obtain ⟨nm, hnm⟩ : ∃ y, N[i] = y := ⟨_, rfl⟩
    have hnN : nm ∈ N := by rw [← hnm]; exact List.getElem_mem hiN
    have cai := HGi.out.cell' (own_cell HVa4.out i (sv nm) (by rw [List.getElem?_map, List.getElem?_eq_getElem hiN, hnm]; rfl))
    have cbi := HGi.out.cell' (own_cell HVb4.out i (sv nm) (by rw [List.getElem?_map, List.getElem?_eq_getElem hiN, hnm]; rfl))
    have Hsi0 : Hid ((N.map sv)[i]? = some (sv nm)) := by show _ = _; rw [List.getElem?_map, List.getElem?_eq_getElem hiN, hnm]; rfl
    have Hmm := Lib.hid (HNm.out nm hnN)
    have Hma2 := Lib.hid (HNa.out nm hnN)
    have HokN : Hid (okS nm) := by
     obtain ⟨p, hp, e⟩ := List.mem_map.1 Hmm.out
     rw [nowX_s] at hp
     rw [← e]
     exact HP.out.okD (nowX_mem x HP.out.wf.ne) p hp
    obtain ⟨n, Hn⟩ : ∃ y, Hid ((lenP x.s nm).1 = y) := ⟨_, rfl⟩
    have hn4 : n ≤ 4096 := by rw [← Hn.out]; exact len_le HP.out nm
    have hnI : (n : Int) ≤ 4096 := by omega
    have Hlp : Hid (lenP x.s nm = (n, 0)) := by
     show _ = _
     obtain ⟨k, hk⟩ := name_find Hmm.out
     rw [← Hn.out]
     unfold lenP
     rw [hk]
    have Hlf : Hid (lenF s nm = (n, 0)) := by show _ = _; rw [← len_eq HR.out]; exact Hlp.out
    have HLn : Hid (∀ W, Grows w W → Calls Tryz.prog 24 #[.pointer (some ⟨q, 0, none⟩), sv nm] W fun e w' => e = .returned (.tuple #[.int .i64 (n : Int), .nilIface]) ∧ Grows W w') := by
     intro W g
     refine (PLen (HP.out.grows g) nm HokN.out).mono ?_
     rintro e w' ⟨u, rfl, hf, hg⟩
     rw [Hlp.out] at hf ⊢
     rw [hf.nil0 rfl]
     exact ⟨rfl, hg⟩
    have HLr : Hid (∀ W, Grows w W → Calls Tryz.prog 52 #[.pointer (some ⟨q2, 0, none⟩), sv nm] W fun e w' => e = .returned (.tuple #[.int .i64 (n : Int), .int .i64 0]) ∧ Grows W w') := by
     intro W g
     have := refLen q2 s xr nm W (HD.out.grows g)
     rw [Hlf.out] at this
     exact this
    have HTl : Hid (∀ W, Calls Tryz.prog 12 #[.nilIface, .string ⟨#[108, 101, 110]⟩, sv nm] W fun e w' => e = .returned (.int .i64 0) ∧ Grows W w') := fun W => pTold0 [108, 101, 110] nm W
    have HTr : Hid (∀ W, Calls Tryz.prog 12 #[.nilIface, .string ⟨#[114, 101, 97, 100]⟩, sv nm] W fun e w' => e = .returned (.int .i64 0) ∧ Grows W w') := fun W => pTold0 [114, 101, 97, 100] nm W
    have HRd : Hid (∀ (j : Nat) W, j < n → PD W qc xa → Calls Tryz.prog 31 #[.pointer (some ⟨qc, 0, none⟩), sv nm, .int .i64 (j : Int)] W fun e w' => ∃ v, e = .returned (.tuple #[v, .nilIface]) ∧ Own 5 W.heap.size w' v (lookF s nm j).1 ∧ PD w' qc xa ∧ But (mutP qc xa) W w') := by
     intro j W hj hPW
     have hre := read_eq HRa.out Hca.out Hma2.out j (by rw [HLa.out, Hn.out]; exact hj)
     refine (PRead hPW nm HokN.out (j : Int) (by omega)).mono ?_
     rintro e w' ⟨v, u, rfl, ho, hf, hP, hs, hT⟩
     rw [hre] at ho hf
     rw [Hbx.out] at hP hT
     rw [hf.nil0 rfl]
     exact ⟨v, rfl, by rw [look_arm] at ho; exact ho, hP, hT.but⟩
    have HLk : Hid (∀ (j : Nat) W, Grows w W → Calls Tryz.prog 53 #[.pointer (some ⟨q2, 0, none⟩), sv nm, .int .i64 (j : Int)] W fun e w' => ∃ v, e = .returned (.tuple #[v, .int .i64 (lookF s nm j).2]) ∧ Own 5 W.heap.size w' v (lookF s nm j).1 ∧ Grows W w') := fun j W g => refLook q2 s xr nm j W (HD.out.grows g)
    have Hlt := Lib.hid hlt
    unfold sv at cai cbi HLn HLr HTl HTr HRd HLk
    obtain ⟨sn, Hsn⟩ : ∃ y : ByteArray, Hid (⟨nm.toArray⟩ = y) := ⟨_, rfl⟩
    rw [Hsn.out] at cai cbi HLn HLr HTl HTr HRd HLk
    have Hsi : Hid ((N.map sv)[i]? = some (.string sn)) := by show _ = _; rw [Hsi0.out, ← Hsn.out]; rfl
    have Hca1 := Lib.hid cai
    have Hcb1 := Lib.hid cbi
    clear hlt hiN hnm hnN hn4 hiL
    go_wp2_with fail
    refine (HLn.out wr HGw.out).mono ?_
    rintro e w7 ⟨rfl, hG7⟩
    have HG7 := Lib.hid hG7
    have cai := hG7.cell' Hca1.out
    clear hG7
    go_wp2_with fail
    refine (HLr.out w7 (Grows.trans' HGw.out HG7.out)).mono ?_
    rintro e w8 ⟨rfl, hG8⟩
    have HG8 := Lib.hid (Grows.trans' HG7.out hG8)
    have cai := hG8.cell' cai
    have cbi := HG8.out.cell' Hcb1.out
    have HPi8 := Lib.hid (HPi.out.grows HG8.out)
    have HGi8 := Lib.hid (Grows.trans' HGi.out HG8.out)
    clear hG8
    go_wp2
    have cXa := fun X (hX : Grows _ X) => And.intro (Grows.cell' hX cai) (Grows.cell' hX cbi)
    refine specs_region
     #[[], [], [0, 1], [0, 1, 2], [], [], [4, 5], [4, 5, 6], [0, 1, 2, 3, 4, 5, 6, 7], [0, 1, 2, 3, 4, 5, 6, 7, 8], [0, 1, 2, 3, 4, 5, 6, 7, 8, 9], [0, 1, 2, 3, 4, 5, 6, 7, 8, 9], [0, 1, 2, 3, 4, 5, 6, 7, 8, 9, 10, 11], [0, 1, 2, 3, 4, 5, 6, 7, 8, 9, 10, 11, 12], [0, 1, 2, 3, 4, 5, 6, 7, 8, 9, 10, 11, 12, 13], [0, 1, 2, 3, 4, 5, 6, 7, 8, 9, 10, 11, 12, 13, 14], [0, 1, 2, 3, 4, 5, 6, 7, 8, 9, 10, 11, 12, 13, 14], [0, 1, 2, 3, 4, 5, 6, 7, 8, 9, 10, 11, 12, 13, 14], [0, 1, 2, 3, 4, 5, 6, 7, 8, 9, 10, 11, 12, 13, 14, 16, 17], [0, 1, 2, 3, 4, 5, 6, 7, 8, 9, 10, 11, 12, 13, 14, 16, 17, 18], [0, 1, 2, 3, 4, 5, 6, 7, 8, 9, 10, 11, 12, 13, 14, 15, 16, 17, 18, 19], [0, 1, 2, 3, 4, 5, 6, 7, 8, 9, 10, 11, 12, 13, 14, 15, 16, 17, 18, 19, 20], [0, 1, 2, 3, 4, 5, 6, 7, 8, 9, 10, 11, 12, 13, 14, 15, 16, 17, 18, 19, 20, 21]] #[[5], [12], [], [], [6], [12], [], [], [], [], [13], [15], [], [], [], [14], [5], [12], [], [], [], [], []] #[true, true, true, true, true, true, true, true, true, true, true, true, true, true, true, true, true, true, true, true, true, true, true]
     ((.val ?va0) :: (.val ?va1) :: (.val ?va2) :: (.val ?va3) :: (.val ?va4) :: (.val ?va5) :: (.val ?va6) :: (.val ?va7) :: (.val ?va8) :: (.val ?va9) :: (.val ?va10) :: (.val ?va11) :: (.val ?va12) :: (.val ?va13) :: (.val ?va14) :: (.val ?va15) :: (.val ?va16) :: (.val ?va17) :: (.val ?va18) :: (.val ?va19) :: (.val ?va20) :: (.val ?va21) :: (.val ?va22) :: []).toArray
     hmx ?chka ?grda ?stpa ?rsta
    case chka => rfl
    case stpa =>
     refine ⟨?_, ?_, ?_, ?_, ?_, ?_, ?_, ?_, ?_, ?_, ?_, ?_, ?_, ?_, ?_, ?_, ?_, ?_, ?_, ?_, ?_, ?_, ?_, trivial⟩
     · refine stepO 5 ?va0 rfl (fun _ _ => rfl) rfl (fun _ => rfl) (by decide) ?_; show (.slice (some ⟨ga, 0, none⟩) L ca : Value) = _; rfl
     · refine stepO 12 ?va1 rfl (fun _ _ => rfl) rfl (fun _ => rfl) (by decide) ?_; show (.int .i64 (i : Int) : Value) = _; rfl
     · refine stepR (o := ⟨_, .indexAddr 58 (.tmp 79) (.tmp 80), _, _, _, _⟩) ?va2 rfl rfl (fun _ => rfl) fun ρ X hc hf hgl hX hp ho => ?_; have k79 : ρ (.tmp 79) = ?va0 := hp 0 (by decide); have k80 : ρ (.tmp 80) = ?va1 := hp 1 (by decide); clear hp ho hX; go_simp; (all_goals try go_bits); (all_goals try simp only [IntWalk.iteOmega]); (all_goals try go_bits); (all_goals rfl)
     · refine stepR (o := ⟨_, .load 9 (.tmp 81), _, _, _, _⟩) ?va3 rfl rfl (fun _ => rfl) fun ρ X hc hf hgl hX hp ho => ?_; have k81 : ρ (.tmp 81) = ?va2 := hp 2 (by decide); have cX := cXa X hX; clear hp ho hX; go_simp; (all_goals rfl)
     · refine stepO 6 ?va4 rfl (fun _ _ => rfl) rfl (fun _ => rfl) (by decide) ?_; show (.slice (some ⟨gb, 0, none⟩) L cb : Value) = _; rfl
     · refine stepO 12 ?va5 rfl (fun _ _ => rfl) rfl (fun _ => rfl) (by decide) ?_; show (.int .i64 (i : Int) : Value) = _; rfl
     · refine stepR (o := ⟨_, .indexAddr 58 (.tmp 83) (.tmp 84), _, _, _, _⟩) ?va6 rfl rfl (fun _ => rfl) fun ρ X hc hf hgl hX hp ho => ?_; have k83 : ρ (.tmp 83) = ?va4 := hp 4 (by decide); have k84 : ρ (.tmp 84) = ?va5 := hp 5 (by decide); clear hp ho hX; go_simp; (all_goals try go_bits); (all_goals try simp only [IntWalk.iteOmega]); (all_goals try go_bits); (all_goals rfl)
     · refine stepR (o := ⟨_, .load 9 (.tmp 85), _, _, _, _⟩) ?va7 rfl rfl (fun _ => rfl) fun ρ X hc hf hgl hX hp ho => ?_; have k85 : ρ (.tmp 85) = ?va6 := hp 6 (by decide); have cX := cXa X hX; clear hp ho hX; go_simp; (all_goals rfl)
     · refine stepR (o := ⟨_, .binOp .neq 9 (.tmp 82) (.tmp 86) 9, _, _, _, _⟩) ?va8 rfl rfl (fun _ => rfl) fun ρ X hc hf hgl hX hp ho => ?_; have k82 : ρ (.tmp 82) = ?va3 := hp 3 (by decide); have k86 : ρ (.tmp 86) = ?va7 := hp 7 (by decide); clear hp ho hX; go_simp; (all_goals try go_bits); (all_goals try simp only [IntWalk.iteOmega]); (all_goals try go_bits); (all_goals rfl)
     · refine stepP 87 8 (?va8) ?va9 rfl (fun _ _ => rfl) rfl (fun _ => rfl) (by decide) rfl (fun _ _ h => h) ?_; rfl
     · refine stepO 13 ?va10 rfl (fun _ _ => rfl) rfl (fun _ => rfl) (by decide) ?_; show (.int .i64 (n : Int) : Value) = _; rfl
     · refine stepO 15 ?va11 rfl (fun _ _ => rfl) rfl (fun _ => rfl) (by decide) ?_; show (.int .i64 (n : Int) : Value) = _; rfl
     · refine stepR (o := ⟨_, .binOp .neq 3 (.tmp 89) (.tmp 90) 3, _, _, _, _⟩) ?va12 rfl rfl (fun _ => rfl) fun ρ X hc hf hgl hX hp ho => ?_; have k89 : ρ (.tmp 89) = ?va10 := hp 10 (by decide); have k90 : ρ (.tmp 90) = ?va11 := hp 11 (by decide); clear hp ho hX; go_simp; (all_goals try go_bits); (all_goals try simp only [IntWalk.iteOmega]); (all_goals try go_bits); (all_goals rfl)
     · refine stepR (o := ⟨_, .pick (.tmp 88) (.const (.bool true)) (.tmp 91), _, _, _, _⟩) ?va13 rfl rfl (fun _ => rfl) fun ρ X hc hf hgl hX hp ho => ?_; have k88 : ρ (.tmp 88) = ?va9 := hp 9 (by decide); have k91 : ρ (.tmp 91) = ?va12 := hp 12 (by decide); clear hp ho hX; go_simp; (all_goals rfl)
     · refine stepP 92 13 (?va13) ?va14 rfl (fun _ _ => rfl) rfl (fun _ => rfl) (by decide) rfl (fun _ _ h => h) ?_; rfl
     · refine stepO 14 ?va15 rfl (fun _ _ => rfl) rfl (fun _ => rfl) (by decide) ?_; show (.nilIface : Value) = _; rfl
     · refine stepO 5 ?va16 rfl (fun _ _ => rfl) rfl (fun _ => rfl) (by decide) ?_; show (.slice (some ⟨ga, 0, none⟩) L ca : Value) = _; rfl
     · refine stepO 12 ?va17 rfl (fun _ _ => rfl) rfl (fun _ => rfl) (by decide) ?_; show (.int .i64 (i : Int) : Value) = _; rfl
     · refine stepR (o := ⟨_, .indexAddr 58 (.tmp 95) (.tmp 96), _, _, _, _⟩) ?va18 rfl rfl (fun _ => rfl) fun ρ X hc hf hgl hX hp ho => ?_; have k95 : ρ (.tmp 95) = ?va16 := hp 16 (by decide); have k96 : ρ (.tmp 96) = ?va17 := hp 17 (by decide); clear hp ho hX; go_simp; (all_goals try go_bits); (all_goals try simp only [IntWalk.iteOmega]); (all_goals try go_bits); (all_goals rfl)
     · refine stepR (o := ⟨_, .load 9 (.tmp 97), _, _, _, _⟩) ?va19 rfl rfl (fun _ => rfl) fun ρ X hc hf hgl hX hp ho => ?_; have k97 : ρ (.tmp 97) = ?va18 := hp 18 (by decide); have cX := cXa X hX; clear hp ho hX; go_simp; (all_goals rfl)
     · refine step_intro rfl rfl fun ρ X hc hf hgl hX hp ho => ?_
       change StepOk _ ⟨_, .call { callee := .value (.func 12), args := #[.tmp 94, .const (.string { data := #[108, 101, 110] }), .tmp 98], argTypes := #[27, 9, 9] }, _, _, _, _⟩ _ _ _
       have k94 : ρ (.tmp 94) = ?va15 := hp 15 (by decide)
       have k98 : ρ (.tmp 98) = ?va19 := hp 19 (by decide)
       clear hp ho
       refine StepOk.of_call (f := 12) (args := #[?va15, .string { data := #[108, 101, 110] }, ?va19]) (w' := X) ?_ (HTl.out X) ?_
       · go_simp
         all_goals try go_bits
         all_goals try rfl
       · rintro e w'' ⟨rfl, hg'⟩; refine ⟨_, rfl, ?_, hg'⟩; show _ = ?va20; rfl
     · refine stepR (o := ⟨_, .binOp .neq 3 (.tmp 99) (.const (.int .i64 0)) 3, _, _, _, _⟩) ?va21 rfl rfl (fun _ => rfl) fun ρ X hc hf hgl hX hp ho => ?_; have k99 : ρ (.tmp 99) = ?va20 := hp 20 (by decide); clear hp ho hX; go_simp; (all_goals try go_bits); (all_goals try simp only [IntWalk.iteOmega]); (all_goals try go_bits); (all_goals rfl)
     · refine stepR (o := ⟨_, .pick (.tmp 93) (.const (.bool true)) (.tmp 100), _, _, _, _⟩) ?va22 rfl rfl (fun _ => rfl) fun ρ X hc hf hgl hX hp ho => ?_; have k93 : ρ (.tmp 93) = ?va14 := hp 14 (by decide); have k100 : ρ (.tmp 100) = ?va21 := hp 21 (by decide); clear hp ho hX; go_simp; (all_goals rfl)
    case grda => rfl
    case rsta =>
     intro a0 X hb
     have hfr := hb.frame ((79, ?va0) :: (80, ?va1) :: (81, ?va2) :: (82, ?va3) :: (83, ?va4) :: (84, ?va5) :: (85, ?va6) :: (86, ?va7) :: (87, ?va8) :: (88, ?va9) :: (89, ?va10) :: (90, ?va11) :: (91, ?va12) :: (92, ?va13) :: (93, ?va14) :: (94, ?va15) :: (95, ?va16) :: (96, ?va17) :: (97, ?va18) :: (98, ?va19) :: (99, ?va20) :: (100, ?va21) :: (101, ?va22) :: []) rfl ⟨hb.done' 0 79 rfl rfl, hb.done' 1 80 rfl rfl, hb.done' 2 81 rfl rfl, hb.done' 3 82 rfl rfl, hb.done' 4 83 rfl rfl, hb.done' 5 84 rfl rfl, hb.done' 6 85 rfl rfl, hb.done' 7 86 rfl rfl, hb.done' 8 87 rfl rfl, hb.done' 9 88 rfl rfl, hb.done' 10 89 rfl rfl, hb.done' 11 90 rfl rfl, hb.done' 12 91 rfl rfl, hb.done' 13 92 rfl rfl, hb.done' 14 93 rfl rfl, hb.done' 15 94 rfl rfl, hb.done' 16 95 rfl rfl, hb.done' 17 96 rfl rfl, hb.done' 18 97 rfl rfl, hb.done' 19 98 rfl rfl, hb.done' 20 99 rfl rfl, hb.done' 21 100 rfl rfl, hb.done' 22 101 rfl rfl, trivial⟩
     simp only [updL, ↓reduceIte, Nat.reduceEqDiff, Nat.reduceAdd, Nat.zero_add] at hfr
     have HX := Lib.hid hb.ext
     clear hb cXa
     subst hfr
     have HPx := Lib.hid (HPi8.out.grows HX.out)
     have HGx := Lib.hid (Grows.trans' HGi8.out HX.out)
     have Hcx := Lib.hid (HX.out.cell' cai)
     clear HX cai cbi
     go_wp2
     go_loopw [17] (fun t17 wz => ∃ j : Nat, j ≤ n ∧ t17 = .int .i64 j ∧ Hid (PD wz qc xa) ∧ Hid (Grows w4 wz) ∧ Hid (wz.cell? ⟨ga, i, none⟩ = some (.string sn))) (fun t17 _ => n - (intOf t17).toNat)
     case atStart => exact ⟨0, by omega, rfl, HPx.out, HGx.out, Hcx.out⟩
     case round =>
      obtain ⟨j, hjn, rfl, HPj, HGj, Hcj⟩ := hrel
      by_cases hlj : j < n
      · have hljI : (j : Int) < (n : Int) := by omega
        have HRj := Lib.hid (HRd.out j wr hlj HPj.out)
        have Hlj := Lib.hid hlj
        have cai := Hcj.out
        obtain ⟨bs, Hbs⟩ : ∃ y, Hid ((lookF s nm (j : Int)).1 = y) := ⟨_, rfl⟩
        rw [Hbs.out] at HRj
        clear hlj
        go_wp2_with fail
        refine HRj.out.mono ?_
        rintro e w9 ⟨vp, rfl, hvp, hP9, hB9⟩
        obtain ⟨ap, cp, rfl⟩ := own_form hvp
        have HVp := Lib.hid hvp
        have HP9 := Lib.hid hP9
        have HG9 : Hid (Grows w4 w9) := ((But.ofGrows HGj.out).trans' hB9).below (Nat.le_refl _) (fun k hk => Hma.out k hk)
        have cai := Grows.cell' HG9.out (own_cell HVa4.out i (.string sn) Hsi.out)
        have HLj := Lib.hid (HLk.out j w9 (Grows.trans' HG4.out HG9.out))
        rw [Hbs.out] at HLj
        obtain ⟨lc, Hlc⟩ : ∃ y, Hid ((lookF s nm (j : Int)).2 = y) := ⟨_, rfl⟩
        rw [Hlc.out] at HLj
        obtain ⟨bl, Hbl⟩ : ∃ y, Hid (bs.length = y) := ⟨_, rfl⟩
        clear hvp hP9 hB9 HRj
        go_wp2_with fail
        refine HLj.out.mono ?_
        rintro e w10 ⟨vq, rfl, hvq, hG10⟩
        obtain ⟨aq, cq, rfl⟩ := own_form hvq
        have HBp : Hid (Byt w10 (.slice ap bs.length cp) bs) := (Own.byt HVp.out).grows hG10
        have HBq : Hid (Byt w10 (.slice aq bs.length cq) bs) := Own.byt hvq
        have HP10 := Lib.hid (HP9.out.grows hG10)
        have HG10 := Lib.hid (Grows.trans' HG9.out hG10)
        have cai := hG10.cell' cai
        have HG10a := Lib.hid hG10
        clear hvq hG10 HLj HVp
        go_wp2_with fail
        refine (HTr.out w10).mono ?_
        rintro e w11 ⟨rfl, hG11⟩
        have HBp1 := Lib.hid (HBp.out.grows hG11)
        have HBq1 := Lib.hid (HBq.out.grows hG11)
        have HP11 := Lib.hid (HP10.out.grows hG11)
        have HG11 := Lib.hid (Grows.trans' HG10.out hG11)
        have Hc11 := Lib.hid (hG11.cell' cai)
        rw [Hbl.out] at HBp1 HBq1 ⊢
        clear hG11 cai HBp HBq
        go_wp2_with (first
         | (refine wpList_conv rfl (.tmp 135) 36 5 9 rfl rfl rfl rfl (.slice ap bl cp) bs rfl HBp1.out ?_)
         | (refine wpList_conv rfl (.tmp 137) 36 5 9 rfl rfl rfl rfl (.slice aq bl cq) bs rfl HBq1.out ?_)
         | fail)
        go_roundw
        case rel => exact ⟨j + 1, Hlj.out, by simp, HP11.out, HG11.out, Hc11.out⟩
        case measure => have := Hlj.out; simp [intOf]; omega
      · have hj : j = n := by omega
        subst hj
        have hljI : ¬ (j : Int) < (j : Int) := by omega
        go_wp2
        go_roundw
        case rel => exact ⟨i + 1, Hlt.out, by simp, HPj.out, HGj.out⟩
        case measure => have := Hlt.out; simp [intOf]; omega
  · have hi : i = L := by omega
    subst hi
    have hltI : ¬ (i : Int) < (i : Int) := by omega
    go_wp2
    go_ret
    exact ⟨rfl, HGw.out⟩
end Go.Proofs.YtoppcpiheaedlaaGreatDoor
