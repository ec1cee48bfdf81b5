/-
  DiskDoes: every calls, syncs, crashes, on a disk.
-/
import Derived.Test.YtoppcpiheaedlaaGreatDoorMA24
namespace Go.Proofs.YtoppcpiheaedlaaGreatDoor
open Go.RowKit Go.Maps
set_option linter.unusedVariables false
set_option linter.unusedSimpArgs false
attribute [local go_sem] sv nv mv pv
set_option maxRecDepth 100000 in
set_option maxHeartbeats 8000000 in
theorem walkDoes (n : Int) (hn : -9223372036854775808 ≤ n ∧ n ≤ 9223372036854775807) (v1 : Value) (l : List Dd) (w : World) (hek : EK w) (h1 : DdsAt w v1 l) :
 Calls Tryz.prog 3 #[.int .i64 n, v1] w fun e w' => e = .returned (.bool true) ∧ Grows w w' := by
 have hmx : Tryz.prog.follows .mixedOrders = true := by kernel_rfl
 have HS1 := Lib.hid (pSmall v1 l w h1)
 have HLV : Hid (∀ W, Grows w W → Calls Tryz.prog 9 #[] W fun e w' => e = .returned (.bool true) ∧ Grows W w') := fun W g => pLive W (hek.grows g)
 have Hek := Lib.hid hek
 obtain ⟨a1, c1, rfl⟩ : ∃ a c, v1 = .slice a l.length c := by obtain ⟨a, c, e, _⟩ := h1; exact ⟨a, c, e⟩
 have H1 := Lib.hid h1
 obtain ⟨L, HL⟩ : ∃ y, Hid (l.length = y) := ⟨_, rfl⟩
 rw [HL.out] at HS1 ⊢
 have Hn := Lib.hid hn
 clear hek h1 hn
 by_cases hroom : 0 ≤ n ∧ n ≤ 4096
 · obtain ⟨R, rfl⟩ : ∃ R : Nat, n = (R : Int) := ⟨n.toNat, by omega⟩
   have hR : R ≤ 4096 := by omega
   have HN : Hid (∀ W, Calls Tryz.prog 10 #[.int .i64 (R : Int)] W fun e w' => ∃ q x, e = .returned (.tuple #[.pointer (some ⟨q, 0, none⟩), .nilIface]) ∧ PD w' q x ∧ x.s = newP R ∧ Grows W w' ∧ ∀ k, useP q x k → W.heap.size ≤ k) := fun W => pNew R hR W
   have HN2 : Hid (∀ W, Calls Tryz.prog 11 #[.int .i64 (R : Int)] W fun e w' => e = .returned (.tuple #[.pointer (some ⟨W.heap.size, 0, none⟩), .int .i64 0]) ∧ RD w' W.heap.size (newF R) x0 ∧ Grows W w') := fun W => refNew R hR W
   have HT0 : Hid (∀ W, Calls Tryz.prog 12 #[.nilIface, .string ⟨#[110, 101, 119]⟩, .string ⟨#[]⟩] W fun e w' => e = .returned (.int .i64 0) ∧ Grows W w') := fun W => pTold0 [110, 101, 119] [] W
   clear hroom hR
   go_enter Tryz.func3, Tryz.ntmps3
   go_wp2_with fail
   refine HS1.out.mono ?_
   rintro e w1 ⟨b1, rfl, hG1, hb1⟩
   have HG1 := Lib.hid hG1
   have Hb1 := Lib.hid hb1
   clear hG1 hb1 HS1
   cases b1 with
   | false =>
    go_wp2_with fail
    refine (HLV.out _ HG1.out).mono ?_
    rintro e w2 ⟨rfl, hG2⟩
    have HG2 := Lib.hid (Grows.trans' HG1.out hG2)
    clear hG2
    go_wp2
    go_ret
    exact ⟨rfl, HG2.out⟩
   | true =>
   have HSl : Hid (SmallL l) := by first | exact Hb1.out rfl | exact Hb1.out trivial
   go_wp2_with fail
   refine (HN.out w1).mono ?_
   rintro e w2 ⟨q, xp, rfl, hP, hs, hG, hU⟩
   have HP2 := Lib.hid hP
   have Hs2 := Lib.hid hs
   have HG2 := Lib.hid hG
   have HU2 := Lib.hid hU
   clear hP hs hG hU HN
   go_wp2_with fail
   refine (HN2.out w2).mono ?_
   rintro e w3 ⟨rfl, hR3, hG3⟩
   have HPa : Hid (Pair w w3 q xp w2.heap.size (newF R) x0) := pair_new HG1.out HP2.out HG2.out HU2.out hR3 hG3
   obtain ⟨q2, Hq2⟩ : ∃ y, Hid (w2.heap.size = y) := ⟨_, rfl⟩
   rw [Hq2.out] at HPa ⊢
   have Hrel : Hid (Rel xp.s (newF R)) := by show Rel _ _; rw [Hs2.out]; exact rel_new R
   have Hinv : Hid (Inv 0 xp.s R) := by show Inv _ _ _; rw [Hs2.out]; exact inv_newR R
   clear hR3 hG3 HN2 HP2 HG2 HU2 Hs2
   go_wp2_with fail
   refine (HT0.out w3).mono ?_
   rintro e w4 ⟨rfl, hG4⟩
   have HPa4 := Lib.hid (HPa.out.grows hG4)
   clear hG4 HPa HT0
   go_wp2
   go_loopw [9] (fun t9 wr => ∃ (i : Nat) (x : Px) (t : Ds) (xr : RDv), t9 = .int .i64 i ∧ i ≤ L ∧ Hid (Pair w wr q x q2 t xr) ∧ Hid (Rel x.s t) ∧ Hid (Inv i x.s R)) (fun t9 _ => L - (intOf t9).toNat)
   case atStart => exact ⟨0, xp, newF R, x0, rfl, by omega, HPa4.out, Hrel.out, Hinv.out⟩
   case round =>
    obtain ⟨i, x, t, xr, rfl, hiL, HPi, HRi, HIi⟩ := hrel
    by_cases hlt : (i : Int) < (L : Int)
    · have hil : i < l.length := by rw [HL.out]; omega
      obtain ⟨b, o, rfl, hcs⟩ := deed_at H1.out (Grows.rfl' w) i hil
      have Hc0 := Lib.hid hcs
      have hL80 : L ≤ 80 := by rw [← HL.out]; exact HSl.out.len
      obtain ⟨d, hd⟩ : ∃ d, l[i] = d := ⟨_, rfl⟩
      have hdm : d ∈ l := by rw [← hd]; exact List.getElem_mem hil
      have HDk := Lib.hid (dds_ok H1.out d hdm)
      have HDs := Lib.hid (dd_small HSl.out hdm)
      have HDg : Hid (¬ (d.dp.kind = 3 ∧ 100 < d.dp.n ∧ d.dp.n ≤ 4096)) := fun hq => HSl.out.good d hdm (.inr (.inr hq))
      have Hwf : Hid (Wf t) := HPi.out.rd.wf
      have HD := Lib.hid (pair_do HPi.out HIi.out HRi.out (by omega) Hek.out d HDk.out HDs.out)
      have HB := Lib.hid (pair_bounds HPi.out.pd HIi.out HRi.out (by omega)).2
      have HRD := Lib.hid (rel_do HRi.out Hwf.out d.dp)
      rw [HRD.out.1] at HD
      have HIn : Hid (Inv (i + 1) (doP x.s d.dp).2 R) := inv_do HIi.out _ HDg.out
      obtain ⟨C, HC⟩ : ∃ C, Hid (d.cs.toArray = C) := ⟨_, Lib.hid rfl⟩
      rw [show d.v = .agg d.cs.toArray from rfl, HC.out] at HD
      have HM : Hid (∀ W x', Pair w W q x' q2 t xr → Calls Tryz.prog 14 #[.pointer (some ⟨q2, 0, none⟩), .agg C] W fun e w' => e = .returned (.tuple #[.int .i64 (doD t d.dp).1.1, .string ⟨(doD t d.dp).1.2.toArray⟩]) ∧ ∃ xr', Pair w w' q x' q2 (doD t d.dp).2 xr' ∧ Turn q2 xr xr' W w') := by
       intro W x' hp
       have := pair_model hp HB.out d HDk.out HDs.out
       rw [show d.v = .agg d.cs.toArray from rfl, HC.out] at this
       exact this
      obtain ⟨ra, Hra⟩ : ∃ y, Hid ((doD t d.dp).1.1 = y) := ⟨_, Lib.hid rfl⟩
      obtain ⟨rs, Hrs⟩ : ∃ y : ByteArray, Hid (⟨(doD t d.dp).1.2.toArray⟩ = y) := ⟨_, Lib.hid rfl⟩
      obtain ⟨t2, Ht2⟩ : ∃ y, Hid ((doD t d.dp).2 = y) := ⟨_, Lib.hid rfl⟩
      obtain ⟨s2, Hs2⟩ : ∃ y, Hid ((doP x.s d.dp).2 = y) := ⟨_, Lib.hid rfl⟩
      rw [Hra.out, Hrs.out, Hs2.out] at HD
      rw [Hra.out, Hrs.out, Ht2.out] at HM
      have HR2 : Hid (Rel s2 t2) := by show Rel _ _; rw [← Hs2.out, ← Ht2.out]; exact HRD.out.2
      rw [Hs2.out] at HIn
      rw [hd] at Hc0
      have Hcs : Hid (∀ j u, d.cs[j]? = some u → wr.cell? ((⟨b, o + i * 6, none⟩ : Addr).add j) = some u) := fun j u hu => HPi.out.gr.cell' (Hc0.out j u hu)
      have Hhc : Hid ((Tryz.prog.info? 39).map (·.size) = some d.cs.length) := deedSize
      have hiI : (i : Int) ≤ 80 := by omega
      have HiL : Hid (i < L) := by show _ < _; omega
      clear hcs hd hdm hil hiL HRD Hra Hrs Ht2 Hs2 HB HIi HRi Hwf HDg
      go_wp2_with (first
       | (refine wpList_loadPart rfl 39 _ rfl ⟨b, o + i * 6, none⟩ rfl d.cs C HC.out _ Hcs.out Tryz.underlying39 rfl Hhc.out ?_)
       | fail)
      refine HD.out.mono ?_
      rintro e w5 ⟨rfl, x', hs', hP', hT'⟩
      have HP5 := Lib.hid hP'
      have Hs5 := Lib.hid hs'
      have Hcs5 : Hid (∀ j u, d.cs[j]? = some u → w5.cell? ((⟨b, o + i * 6, none⟩ : Addr).add j) = some u) := fun j u hu => hP'.gr.cell' (Hc0.out j u hu)
      have HM5 := Lib.hid (HM.out w5 x' hP')
      clear hP' hs' hT' HD HM
      go_wp2_with (first
       | (refine wpList_loadPart rfl 39 _ rfl ⟨b, o + i * 6, none⟩ rfl d.cs C HC.out _ Hcs5.out Tryz.underlying39 rfl Hhc.out ?_)
       | fail)
      refine HM5.out.mono ?_
      rintro e w6 ⟨rfl, xr', hP6, hT6⟩
      have HP6 := Lib.hid hP6
      have HR6 : Hid (Rel x'.s t2) := by show Rel _ _; rw [Hs5.out]; exact HR2.out
      have HI6 : Hid (Inv (i + 1) x'.s R) := by show Inv _ _ _; rw [Hs5.out]; exact HIn.out
      have HA6 := Lib.hid (pAlike hP6.pd hP6.rd HR6.out)
      clear hP6 hT6 HM5
      go_wp2_with fail
      refine HA6.out.mono ?_
      rintro e w7 ⟨rfl, hG7⟩
      have HP7 := Lib.hid (HP6.out.grows hG7)
      clear hG7 HA6
      go_wp2
      go_roundw
      case rel => exact ⟨i + 1, x', t2, xr', by simp, HiL.out, HP7.out, HR6.out, HI6.out⟩
      case measure => have := HiL.out; simp [intOf]; omega
    · have HGi := Lib.hid HPi.out.gr
      go_wp2_with fail
      refine (HLV.out _ HGi.out).mono ?_
      rintro e w5 ⟨rfl, hG5⟩
      have HG5 := Lib.hid (Grows.trans' HGi.out hG5)
      clear hG5
      go_wp2
      go_ret
      exact ⟨rfl, HG5.out⟩
 · have hbad : n < 0 ∨ 4096 < n := by omega
   have HN : Hid (∀ W, Calls Tryz.prog 10 #[.int .i64 n] W fun e w' => ∃ v, e = .returned (.tuple #[.pointer none, v]) ∧ IsFault w' v opNew [] 2 ∧ Grows W w') := fun W => pNewBad n hbad W
   have HN2 : Hid (∀ W, Calls Tryz.prog 11 #[.int .i64 n] W fun e w' => e = .returned (.tuple #[.pointer none, .int .i64 2]) ∧ Grows W w') := fun W => refNewBad n hbad W
   have HT0 : Hid (∀ W v, EK W → IsFault W v opNew [] 2 → Calls Tryz.prog 12 #[v, .string ⟨#[110, 101, 119]⟩, .string ⟨#[]⟩] W fun e w' => e = .returned (.int .i64 2) ∧ Grows W w') := fun W v hk hf => pTold v opNew [] 2 W hk hf (by omega)
   clear hroom hbad
   go_enter Tryz.func3, Tryz.ntmps3
   go_wp2_with fail
   refine HS1.out.mono ?_
   rintro e w1 ⟨b1, rfl, hG1, hb1⟩
   have HG1 := Lib.hid hG1
   clear hG1 hb1 HS1
   cases b1 with
   | false =>
    go_wp2_with fail
    refine (HLV.out _ HG1.out).mono ?_
    rintro e w2 ⟨rfl, hG2⟩
    have HG2 := Lib.hid (Grows.trans' HG1.out hG2)
    clear hG2
    go_wp2
    go_ret
    exact ⟨rfl, HG2.out⟩
   | true =>
   go_wp2_with fail
   refine (HN.out w1).mono ?_
   rintro e w2 ⟨v, rfl, hf, hG2⟩
   have Hf := Lib.hid hf
   have HG2 := Lib.hid (Grows.trans' HG1.out hG2)
   clear hf hG2 HN
   go_wp2_with fail
   refine (HN2.out w2).mono ?_
   rintro e w3 ⟨rfl, hG3⟩
   have HG3 := Lib.hid (Grows.trans' HG2.out hG3)
   have HT3 := Lib.hid (HT0.out w3 v (Hek.out.grows HG3.out) (Hf.out.grows hG3))
   clear hG3 HN2 HT0
   go_wp2_with fail
   refine HT3.out.mono ?_
   rintro e w4 ⟨rfl, hG4⟩
   have HG4 := Lib.hid (Grows.trans' HG3.out hG4)
   clear hG4 HT3
   go_wp2
   go_loopw [9] (fun t9 wr => t9 = .int .i64 0 ∧ Hid (Grows w wr)) (fun t9 _ => 0)
   case atStart => exact ⟨rfl, HG4.out⟩
   case round =>
    obtain ⟨rfl, HGi⟩ := hrel
    by_cases h0 : (0 : Int) < (L : Int)
    · go_wp2_with fail
      refine (HLV.out _ HGi.out).mono ?_
      rintro e w5 ⟨rfl, hG5⟩
      have HG5 := Lib.hid (Grows.trans' HGi.out hG5)
      clear hG5
      go_wp2
      go_ret
      exact ⟨rfl, HG5.out⟩
    · go_wp2_with fail
      refine (HLV.out _ HGi.out).mono ?_
      rintro e w5 ⟨rfl, hG5⟩
      have HG5 := Lib.hid (Grows.trans' HGi.out hG5)
      clear hG5
      go_wp2
      go_ret
      exact ⟨rfl, HG5.out⟩
end Go.Proofs.YtoppcpiheaedlaaGreatDoor
