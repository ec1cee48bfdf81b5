/-
  DiskCopies: a copy is the same, and goes its own ways.
-/
import Derived.Test.YtoppcpiheaedlaaGreatDoorMB24
import Derived.Test.YtoppcpiheaedlaaGreatDoorMB25
namespace Go.Proofs.YtoppcpiheaedlaaGreatDoor
open Go.RowKit Go.Maps
set_option linter.unusedVariables false
set_option linter.unusedSimpArgs false
attribute [local go_sem] sv nv mv pv
theorem inv_same {c R : Nat} {a b : Ps} (h : Inv c b R) (e : SameP a b) : Inv c a R where
 room := e.room.trans h.room
 code := by rw [e.code]; exact h.code
 dirs := by rw [e.dirs]; exact h.dirs
 made := by rw [e.made]; exact h.made
 files := by rw [e.perm.length_eq]; exact h.files
 pend := by rw [e.pend]; exact h.pend
 dir := fun d hd => by
  have h1 := h.dir d (by rw [← e.dirs]; exact hd)
  exact ⟨h1.1, h1.2.1, fun y hy => by rw [e.made, e.files]; exact h1.2.2 y hy⟩
 size := fun y hy => h.size y (e.perm.mem_iff.1 hy)
 keys := fun y hy => by rw [e.made]; exact h.keys y (e.perm.mem_iff.1 hy)
structure Quad (w0 w : World) (q : Nat) (x : Px) (q2 : Nat) (t : Ds) (xr : RDv) (qc : Nat) (xc : Px) (qn : Nat) (tn : Ds) (xn : RDv) : Prop where
 a : Pair w0 w q x q2 t xr
 b : Pair w0 w qc xc qn tn xn
 p1 : ∀ k, mutP q x k → ¬ useP qc xc k
 p2 : ∀ k, mutP qc xc k → ¬ useP q x k
 r1 : ∀ k, mutB q2 xr k → ¬ useB qn xn k
 r2 : ∀ k, mutB qn xn k → ¬ useB q2 xr k
 x1 : ∀ k, useP q x k → ¬ useB qn xn k
 x2 : ∀ k, useP qc xc k → ¬ useB q2 xr k
section
variable {w0 w w' : World} {q q2 qc qn : Nat} {x x' xc : Px} {t t' tn : Ds} {xr xr' xn : RDv}
theorem Quad.swap (h : Quad w0 w q x q2 t xr qc xc qn tn xn) : Quad w0 w qc xc qn tn xn q x q2 t xr := ⟨h.b, h.a, h.p2, h.p1, h.r2, h.r1, h.x2, h.x1⟩
theorem Quad.grows (h : Quad w0 w q x q2 t xr qc xc qn tn xn) (g : Grows w w') : Quad w0 w' q x q2 t xr qc xc qn tn xn := ⟨h.a.grows g, h.b.grows g, h.p1, h.p2, h.r1, h.r2, h.x1, h.x2⟩
theorem Quad.stepP (h : Quad w0 w q x q2 t xr qc xc qn tn xn) (hp : Pair w0 w' q x' q2 t xr) (hT : TurnP q x x' w w') : Quad w0 w' q x' q2 t xr qc xc qn tn xn where
 a := hp
 b := ⟨h.b.pd.kept fun k hk => hT.but.block k (h.b.pd.ltU hk) fun hm => h.p1 k hm hk, h.b.rd.kept fun k hk => hT.but.block k (h.b.rd.ltU hk) fun hm => h.x1 k (mut_use hm) hk, h.b.pnew, h.b.rnew, h.b.apart, hp.gr⟩
 p1 := fun k hk h2 => (hT.muts k hk).elim (fun hm => h.p1 k hm h2) fun hl => by have := h.b.pd.ltU h2; omega
 p2 := fun k hk h2 => (hT.uses k h2).elim (fun hm => h.p2 k hk hm) fun hl => by have := h.b.pd.ltU (mut_use hk); omega
 r1 := h.r1
 r2 := h.r2
 x1 := fun k hk h2 => (hT.uses k hk).elim (fun hm => h.x1 k hm h2) fun hl => by have := h.b.rd.ltU h2; omega
 x2 := h.x2
theorem Quad.stepD (h : Quad w0 w q x q2 t xr qc xc qn tn xn) (hp : Pair w0 w' q x q2 t' xr') (hT : Turn q2 xr xr' w w') : Quad w0 w' q x q2 t' xr' qc xc qn tn xn where
 a := hp
 b := ⟨h.b.pd.kept fun k hk => hT.but.block k (h.b.pd.ltU hk) fun hm => h.x2 k hk (.inl hm), h.b.rd.kept fun k hk => hT.but.block k (h.b.rd.ltU hk) fun hm => h.r1 k hm hk, h.b.pnew, h.b.rnew, h.b.apart, hp.gr⟩
 p1 := h.p1
 p2 := h.p2
 r1 := fun k hk h2 => (hT.muts k hk).elim (fun hm => h.r1 k hm h2) fun hl => by have := h.b.rd.ltU h2; omega
 r2 := fun k hk h2 => (hT.uses k h2).elim (fun hm => h.r2 k hk hm) fun hl => by have := h.b.rd.ltU (k := k) (.inl hk); omega
 x1 := h.x1
 x2 := fun k hk h2 => (hT.uses k h2).elim (fun hm => h.x2 k hk hm) fun hl => by have := h.b.pd.ltU hk; omega
theorem quad_new {w1 w2 : World} (h : Pair w0 w q x q2 t xr) (hc : PD w1 qc xc) (hG1 : Grows w w1) (hu : ∀ k, useP qc xc k → w.heap.size ≤ k ∨ ∃ d ∈ x.dirs, k = d.1) (hm : ∀ k, mutP qc xc k → w.heap.size ≤ k)
 (hn : RD w2 qn tn xn) (hG2 : Grows w1 w2) (hmn : ∀ k, mutB qn xn k → w1.heap.size ≤ k) (hun : ∀ k, useB qn xn k → w1.heap.size ≤ k ∨ (useB q2 xr k ∧ ¬ mutB q2 xr k)) : Quad w0 w2 q x q2 t xr qc xc qn tn xn := by
 have hsz := hG1.size
 have hdu : ∀ k, (∃ d ∈ x.dirs, k = d.1) → useP q x k := fun k ⟨d, hd, e⟩ => .inr (.inl (.inr ⟨d, hd, e⟩))
 have hdm : ∀ k, (∃ d ∈ x.dirs, k = d.1) → ¬ mutP q x k := by
  rintro k ⟨d, hd, rfl⟩ hmm
  have hk := kind_map (h.pd.dirs.map d hd)
  rcases hmm with e | e | e | e
  · rw [e] at hk
    rw [h.pd.kindQ] at hk
    cases hk
  · rw [kind_own h.pd.dirs.row e] at hk; cases hk
  · exact h.pd.dF (.inr ⟨d, hd, rfl⟩) e
  · exact h.pd.dP (.inr ⟨d, hd, rfl⟩) e
 have ha := h.grows (Grows.trans' hG1 hG2)
 refine ⟨ha, ⟨hc.grows hG2, hn, fun k hk => ?_, fun k hk => ?_, fun k hk h2 => ?_, ha.gr⟩, fun k hk h2 => ?_, fun k hk h2 => ?_, fun k hk h2 => ?_, fun k hk h2 => ?_, fun k hk h2 => ?_, fun k hk h2 => ?_⟩
 · exact (hu k hk).elim (fun hl => Nat.le_trans h.gr.size hl) fun hd => h.pnew k (hdu k hd)
 · exact (hun k hk).elim (fun hl => Nat.le_trans h.gr.size (Nat.le_trans hsz hl)) fun h3 => h.rnew k h3.1
 · have h3 := hc.ltU hk
   rcases hun k h2 with h4 | h4
   · omega
   · rcases hu k hk with h5 | h5
     · have := h.rd.ltU h4.1; omega
     · exact h.apart k (hdu k h5) h4.1
 · rcases hu k h2 with h5 | h5
   · have := h.pd.ltU (mut_use hk); omega
   · exact hdm k h5 hk
 · have h5 := hm k hk
   have := h.pd.ltU h2
   omega
 · rcases hun k h2 with h5 | h5
   · have := h.rd.lt hk; omega
   · exact h5.2 hk
 · have h5 := hmn k hk
   have := h.rd.ltU h2
   omega
 · rcases hun k h2 with h5 | h5
   · have := h.pd.ltU hk; omega
   · exact h.apart k hk h5.1
 · rcases hu k hk with h5 | h5
   · have := h.rd.ltU h2; omega
   · exact h.apart k (hdu k h5) h2
end
set_option maxRecDepth 100000 in
set_option maxHeartbeats 16000000 in
theorem walkCopies (n : Int) (hn : -9223372036854775808 ≤ n ∧ n ≤ 9223372036854775807) (v1 v2 v3 : Value) (l k j : List Dd) (w : World) (hek : EK w) (h1 : DdsAt w v1 l) (h2 : DdsAt w v2 k) (h3 : DdsAt w v3 j) :
 Calls Tryz.prog 4 #[.int .i64 n, v1, v2, v3] w fun e w' => e = .returned (.bool true) ∧ Grows w w' := by
 have hmx : Tryz.prog.follows .mixedOrders = true := by kernel_rfl
 have HS1 : Hid (∀ W, Grows w W → Calls Tryz.prog 8 #[v1] W (SmallPost W l)) := fun W g => pSmall v1 l W (dds_grow h1 g)
 have HS2 : Hid (∀ W, Grows w W → Calls Tryz.prog 8 #[v2] W (SmallPost W k)) := fun W g => pSmall v2 k W (dds_grow h2 g)
 have HS3 : Hid (∀ W, Grows w W → Calls Tryz.prog 8 #[v3] W (SmallPost W j)) := fun W g => pSmall v3 j W (dds_grow h3 g)
 have HLV : Hid (∀ W, Grows w W → Calls Tryz.prog 9 #[] W fun e w' => e = .returned (.bool true) ∧ Grows W w') := fun W g => pLive W (hek.grows g)
 have Hek := Lib.hid hek
 obtain ⟨a1, c1, rfl⟩ : ∃ a c, v1 = .slice a l.length c := by obtain ⟨a, c, e, _⟩ := h1; exact ⟨a, c, e⟩
 obtain ⟨a2, c2, rfl⟩ : ∃ a c, v2 = .slice a k.length c := by obtain ⟨a, c, e, _⟩ := h2; exact ⟨a, c, e⟩
 obtain ⟨a3, c3, rfl⟩ : ∃ a c, v3 = .slice a j.length c := by obtain ⟨a, c, e, _⟩ := h3; exact ⟨a, c, e⟩
 have H1 := Lib.hid h1
 have H2 := Lib.hid h2
 have H3 := Lib.hid h3
 obtain ⟨L, HL⟩ : ∃ y, Hid (l.length = y) := ⟨_, rfl⟩
 obtain ⟨M, HM⟩ : ∃ y, Hid (k.length = y) := ⟨_, rfl⟩
 obtain ⟨J, HJ⟩ : ∃ y, Hid (j.length = y) := ⟨_, rfl⟩
 rw [HL.out] at HS1 ⊢
 rw [HM.out] at HS2 ⊢
 rw [HJ.out] at HS3 ⊢
 have Hn := Lib.hid hn
 clear hek h1 h2 h3
 go_enter Tryz.func4, Tryz.ntmps4
 go_wp2_with fail
 refine (HS1.out _ (Grows.rfl' w)).mono ?_
 rintro e w1 ⟨b1, rfl, hG1, hb1⟩
 have HG1 := Lib.hid hG1
 have Hb1 := Lib.hid hb1
 clear hG1 hb1
 cases b1 with
 | false =>
  go_wp2_with fail
  refine (HLV.out _ HG1.out).mono ?_
  rintro e w9 ⟨rfl, hG9⟩
  have HG9 := Lib.hid (Grows.trans' HG1.out hG9)
  clear hG9
  go_wp2
  go_ret
  exact ⟨rfl, HG9.out⟩
 | true =>
 go_wp2_with fail
 refine (HS2.out _ HG1.out).mono ?_
 rintro e w2 ⟨b2, rfl, hG2, hb2⟩
 have HG2 := Lib.hid (Grows.trans' HG1.out hG2)
 have Hb2 := Lib.hid hb2
 clear hG2 hb2
 cases b2 with
 | false =>
  go_wp2_with fail
  refine (HLV.out _ HG2.out).mono ?_
  rintro e w9 ⟨rfl, hG9⟩
  have HG9 := Lib.hid (Grows.trans' HG2.out hG9)
  clear hG9
  go_wp2
  go_ret
  exact ⟨rfl, HG9.out⟩
 | true =>
 go_wp2_with fail
 refine (HS3.out _ HG2.out).mono ?_
 rintro e w3 ⟨b3, rfl, hG3, hb3⟩
 have HG3 := Lib.hid (Grows.trans' HG2.out hG3)
 have Hb3 := Lib.hid hb3
 clear hG3 hb3 HS1 HS2 HS3
 cases b3 with
 | false =>
  go_wp2_with fail
  refine (HLV.out _ HG3.out).mono ?_
  rintro e w9 ⟨rfl, hG9⟩
  have HG9 := Lib.hid (Grows.trans' HG3.out hG9)
  clear hG9
  go_wp2
  go_ret
  exact ⟨rfl, HG9.out⟩
 | true =>
 have HSl : Hid (SmallL l) := by first | exact Hb1.out rfl | exact Hb1.out trivial
 have HSk : Hid (SmallL k) := by first | exact Hb2.out rfl | exact Hb2.out trivial
 have HSj : Hid (SmallL j) := by first | exact Hb3.out rfl | exact Hb3.out trivial
 have HL80 : Hid (L ≤ 80) := by show _ ≤ _; rw [← HL.out]; exact HSl.out.len
 have HM80 : Hid (M ≤ 80) := by show _ ≤ _; rw [← HM.out]; exact HSk.out.len
 have HJ80 : Hid (J ≤ 80) := by show _ ≤ _; rw [← HJ.out]; exact HSj.out.len
 clear Hb1 Hb2 Hb3 hn
 by_cases hroom : 0 ≤ n ∧ n ≤ 4096
 · obtain ⟨R, rfl⟩ : ∃ R : Nat, n = (R : Int) := ⟨n.toNat, by omega⟩
   have hR : R ≤ 4096 := by omega
   have HN : Hid (∀ W, Calls Tryz.prog 10 #[.int .i64 (R : Int)] W fun e w' => ∃ q x, e = .returned (.tuple #[.pointer (some ⟨q, 0, none⟩), .nilIface]) ∧ PD w' q x ∧ x.s = newP R ∧ Grows W w' ∧ ∀ k, useP q x k → W.heap.size ≤ k) := fun W => pNew R hR W
   have HN2 : Hid (∀ W, Calls Tryz.prog 11 #[.int .i64 (R : Int)] W fun e w' => e = .returned (.tuple #[.pointer (some ⟨W.heap.size, 0, none⟩), .int .i64 0]) ∧ RD w' W.heap.size (newF R) x0 ∧ Grows W w') := fun W => refNew R hR W
   clear hroom hR
   go_wp2_with fail
   refine (HN.out w3).mono ?_
   rintro e w4 ⟨q, xp, rfl, hP, hs, hG, hU⟩
   have HP2 := Lib.hid hP
   have Hs2 := Lib.hid hs
   have HG4 := Lib.hid hG
   have HU2 := Lib.hid hU
   clear hP hs hG hU HN
   go_wp2_with fail
   refine (HN2.out w4).mono ?_
   rintro e w5 ⟨rfl, hR3, hG3⟩
   have HPa : Hid (Pair w w5 q xp w4.heap.size (newF R) x0) := pair_new HG3.out HP2.out HG4.out HU2.out hR3 hG3
   obtain ⟨q2, Hq2⟩ : ∃ y, Hid (w4.heap.size = y) := ⟨_, rfl⟩
   rw [Hq2.out] at HPa ⊢
   have Hrel : Hid (Rel xp.s (newF R)) := by show Rel _ _; rw [Hs2.out]; exact rel_new R
   have Hinv : Hid (Inv 0 xp.s R) := by show Inv _ _ _; rw [Hs2.out]; exact inv_newR R
   clear hR3 hG3 HN2 HP2 HG4 HU2 Hs2
   go_wp2
   go_loopw [13] (fun t13 wr => ∃ (i : Nat) (x : Px) (t : Ds) (xr : RDv), t13 = .int .i64 i ∧ i ≤ L ∧ Hid (Pair w wr q x q2 t xr) ∧ Hid (Rel x.s t) ∧ Hid (Inv i x.s R)) (fun t13 _ => L - (intOf t13).toNat)
   case atStart => exact ⟨0, xp, newF R, x0, rfl, by omega, HPa.out, Hrel.out, Hinv.out⟩
   case round =>
    obtain ⟨i, x, t, xr, rfl, hiL, HPi, HRi, HIi⟩ := hrel
    by_cases hlt : (i : Int) < (L : Int)
    · have hiI : (i : Int) ≤ 80 := by have := HL80.out; omega
      have HiL : Hid (i < L) := by show _ < _; omega
      have hil : i < l.length := by rw [HL.out]; omega
      obtain ⟨b, o, rfl, hcs⟩ := deed_at H1.out (Grows.rfl' w) i hil
      have Hc0 := Lib.hid hcs
      obtain ⟨d, hd⟩ : ∃ d, l[i] = d := ⟨_, rfl⟩
      have hdm : d ∈ l := by rw [← hd]; exact List.getElem_mem hil
      have HDk := Lib.hid (dds_ok H1.out d hdm)
      have HDs := Lib.hid (dd_small HSl.out hdm)
      have HDg : Hid (¬ (d.dp.kind = 3 ∧ 100 < d.dp.n ∧ d.dp.n ≤ 4096)) := fun hq => HSl.out.good d hdm (.inr (.inr hq))
      have HL8 := HL80.out
      have HD := Lib.hid (pair_do HPi.out HIi.out HRi.out (by omega) Hek.out d HDk.out HDs.out)
      have HB := Lib.hid (pair_bounds HPi.out.pd HIi.out HRi.out (by omega)).2
      have HRD := Lib.hid (rel_do HRi.out HPi.out.rd.wf d.dp)
      rw [HRD.out.1] at HD
      have HIn : Hid (Inv (i + 1) (doP x.s d.dp).2 R) := inv_do HIi.out _ HDg.out
      obtain ⟨C, HC⟩ : ∃ C, Hid (d.cs.toArray = C) := ⟨_, Lib.hid rfl⟩
      rw [show d.v = .agg d.cs.toArray from rfl, HC.out] at HD
      have HM9 : Hid (∀ W x', Pair w W q x' q2 t xr → Calls Tryz.prog 14 #[.pointer (some ⟨q2, 0, none⟩), .agg C] W fun e w' => e = .returned (.tuple #[.int .i64 (doD t d.dp).1.1, .string ⟨(doD t d.dp).1.2.toArray⟩]) ∧ ∃ xr', Pair w w' q x' q2 (doD t d.dp).2 xr' ∧ Turn q2 xr xr' W w') := by
       intro W x' hp
       have := pair_model hp HB.out d HDk.out HDs.out
       rw [show d.v = .agg d.cs.toArray from rfl, HC.out] at this
       exact this
      obtain ⟨ra, Hra⟩ : ∃ y, Hid ((doD t d.dp).1.1 = y) := ⟨_, Lib.hid rfl⟩
      obtain ⟨rs, Hrs⟩ : ∃ y : ByteArray, Hid (⟨(doD t d.dp).1.2.toArray⟩ = y) := ⟨_, Lib.hid rfl⟩
      obtain ⟨t9, Ht9⟩ : ∃ y, Hid ((doD t d.dp).2 = y) := ⟨_, Lib.hid rfl⟩
      obtain ⟨s9, Hs9⟩ : ∃ y, Hid ((doP x.s d.dp).2 = y) := ⟨_, Lib.hid rfl⟩
      rw [Hra.out, Hrs.out, Hs9.out] at HD
      rw [Hra.out, Hrs.out, Ht9.out] at HM9
      have HR9 : Hid (Rel s9 t9) := by show Rel _ _; rw [← Hs9.out, ← Ht9.out]; exact HRD.out.2
      rw [Hs9.out] at HIn
      rw [hd] at Hc0
      have Hcs : Hid (∀ j u, d.cs[j]? = some u → wr.cell? ((⟨b, o + i * 6, none⟩ : Addr).add j) = some u) := fun j u hu => HPi.out.gr.cell' (Hc0.out j u hu)
      have Hhc : Hid ((Tryz.prog.info? 39).map (·.size) = some d.cs.length) := deedSize
      clear hcs hd hdm hil HRD Hra Hrs Ht9 Hs9 HB HDg HL8
      go_wp2_with (first | (refine wpList_loadPart rfl 39 _ rfl ⟨b, o + i * 6, none⟩ rfl d.cs C HC.out _ Hcs.out Tryz.underlying39 rfl Hhc.out ?_) | fail)
      refine HD.out.mono ?_
      rintro e w15 ⟨rfl, x', hs', hP', hT'⟩
      have HP5 := Lib.hid hP'
      have Hs5 := Lib.hid hs'
      have HT5 := Lib.hid hT'
      have Hcs5 : Hid (∀ j u, d.cs[j]? = some u → w15.cell? ((⟨b, o + i * 6, none⟩ : Addr).add j) = some u) := fun j u hu => hP'.gr.cell' (Hc0.out j u hu)
      have HM5 := Lib.hid (HM9.out w15 x' hP')
      clear hP' hs' hT' HD HM9
      go_wp2_with (first | (refine wpList_loadPart rfl 39 _ rfl ⟨b, o + i * 6, none⟩ rfl d.cs C HC.out _ Hcs5.out Tryz.underlying39 rfl Hhc.out ?_) | fail)
      refine HM5.out.mono ?_
      rintro e w16 ⟨rfl, xr', hP6, hT6⟩
      have HP6 := Lib.hid hP6
      have HR6 : Hid (Rel x'.s t9) := by show Rel _ _; rw [Hs5.out]; exact HR9.out
      have HI6 : Hid (Inv (i + 1) x'.s R) := by show Inv _ _ _; rw [Hs5.out]; exact HIn.out
      clear hP6 hT6 HM5
      go_wp2
      go_roundw
      case rel => exact ⟨i + 1, x', t9, xr', by simp, HiL.out, HP6.out, HR6.out, HI6.out⟩
      case measure => have := HiL.out; simp [intOf]; omega
    · obtain rfl : i = L := by omega
      have HCp := Lib.hid (pCopy HPi.out.pd)
      have HCr : Hid (∀ W, Grows wr W → Calls Tryz.prog 17 #[.pointer (some ⟨q2, 0, none⟩)] W fun e w' => ∃ qc xc, e = .returned (.pointer (some ⟨qc, 0, none⟩)) ∧ RD w' qc t xc ∧ Grows W w' ∧ (∀ k, mutB qc xc k → W.heap.size ≤ k) ∧ ∀ k, useB qc xc k → W.heap.size ≤ k ∨ (useB q2 xr k ∧ ¬ mutB q2 xr k)) := fun W g => refCopy q2 t xr W (HPi.out.rd.grows g)
      go_wp2_with fail
      refine HCp.out.mono ?_
      rintro e w6 ⟨qc, xc, rfl, hPc, hsc, hG6, huc, hmc⟩
      have HPc := Lib.hid hPc
      have Hsc := Lib.hid hsc
      have HG6 := Lib.hid hG6
      have Huc := Lib.hid huc
      have Hmc := Lib.hid hmc
      clear hPc hsc hG6 huc hmc HCp
      go_wp2_with fail
      refine (HCr.out w6 HG6.out).mono ?_
      rintro e w7 ⟨qn, xn, rfl, hRn, hG7, hmn, hun⟩
      have HQ : Hid (Quad w w7 q x q2 t xr qc xc qn t xn) := quad_new HPi.out HPc.out HG6.out Huc.out Hmc.out hRn hG7 hmn hun
      have HRc : Hid (Rel xc.s t) := rel_same HRi.out Hsc.out
      have HIc : Hid (Inv i xc.s R) := inv_same HIi.out Hsc.out
      have HAl := Lib.hid (pAlike HQ.out.b.pd HQ.out.b.rd HRc.out)
      clear hRn hG7 hmn hun HCr HPc Hsc HG6 Huc Hmc
      go_wp2_with fail
      refine HAl.out.mono ?_
      rintro e w8 ⟨rfl, hG8⟩
      have HQ8 := Lib.hid (HQ.out.grows hG8)
      clear hG8 HAl HQ
      go_wp2
      go_loopw [16] (fun t16 wr => ∃ (m : Nat) (x : Px) (t2 : Ds) (xr : RDv), t16 = .int .i64 m ∧ m ≤ M ∧ Hid (Quad w wr q x q2 t2 xr qc xc qn t xn) ∧ Hid (Rel x.s t2) ∧ Hid (Inv (i + m) x.s R)) (fun t16 _ => M - (intOf t16).toNat)
      case atStart => exact ⟨0, x, t, xr, rfl, by omega, HQ8.out, HRi.out, HIi.out⟩
      case round =>
       obtain ⟨m, x2, t2, xr2, rfl, hmM, HQm, HRm, HIm⟩ := hrel
       clear HPi HRi HIi HQ8
       by_cases hlt2 : (m : Int) < (M : Int)
       · have hmI : (m : Int) ≤ 80 := by have := HM80.out; omega
         have HmL : Hid (m < M) := by show _ < _; omega
         have hil : m < k.length := by rw [HM.out]; omega
         obtain ⟨b, o, rfl, hcs⟩ := deed_at H2.out (Grows.rfl' w) m hil
         have Hc0 := Lib.hid hcs
         obtain ⟨d, hd⟩ : ∃ d, k[m] = d := ⟨_, rfl⟩
         have hdm : d ∈ k := by rw [← hd]; exact List.getElem_mem hil
         have HDk := Lib.hid (dds_ok H2.out d hdm)
         have HDs := Lib.hid (dd_small HSk.out hdm)
         have HDg : Hid (¬ (d.dp.kind = 3 ∧ 100 < d.dp.n ∧ d.dp.n ≤ 4096)) := fun hq => HSk.out.good d hdm (.inr (.inr hq))
         have HL8 := HL80.out
         have HD := Lib.hid (pair_do HQm.out.a HIm.out HRm.out (by omega) Hek.out d HDk.out HDs.out)
         have HB := Lib.hid (pair_bounds HQm.out.a.pd HIm.out HRm.out (by omega)).2
         have HRD := Lib.hid (rel_do HRm.out HQm.out.a.rd.wf d.dp)
         rw [HRD.out.1] at HD
         have HIn : Hid (Inv ((i + m) + 1) (doP x2.s d.dp).2 R) := inv_do HIm.out _ HDg.out
         obtain ⟨C, HC⟩ : ∃ C, Hid (d.cs.toArray = C) := ⟨_, Lib.hid rfl⟩
         rw [show d.v = .agg d.cs.toArray from rfl, HC.out] at HD
         have HM9 : Hid (∀ W x', Pair w W q x' q2 t2 xr2 → Calls Tryz.prog 14 #[.pointer (some ⟨q2, 0, none⟩), .agg C] W fun e w' => e = .returned (.tuple #[.int .i64 (doD t2 d.dp).1.1, .string ⟨(doD t2 d.dp).1.2.toArray⟩]) ∧ ∃ xr', Pair w w' q x' q2 (doD t2 d.dp).2 xr' ∧ Turn q2 xr2 xr' W w') := by
          intro W x' hp
          have := pair_model hp HB.out d HDk.out HDs.out
          rw [show d.v = .agg d.cs.toArray from rfl, HC.out] at this
          exact this
         obtain ⟨ra, Hra⟩ : ∃ y, Hid ((doD t2 d.dp).1.1 = y) := ⟨_, Lib.hid rfl⟩
         obtain ⟨rs, Hrs⟩ : ∃ y : ByteArray, Hid (⟨(doD t2 d.dp).1.2.toArray⟩ = y) := ⟨_, Lib.hid rfl⟩
         obtain ⟨t9, Ht9⟩ : ∃ y, Hid ((doD t2 d.dp).2 = y) := ⟨_, Lib.hid rfl⟩
         obtain ⟨s9, Hs9⟩ : ∃ y, Hid ((doP x2.s d.dp).2 = y) := ⟨_, Lib.hid rfl⟩
         rw [Hra.out, Hrs.out, Hs9.out] at HD
         rw [Hra.out, Hrs.out, Ht9.out] at HM9
         have HR9 : Hid (Rel s9 t9) := by show Rel _ _; rw [← Hs9.out, ← Ht9.out]; exact HRD.out.2
         rw [Hs9.out] at HIn
         rw [hd] at Hc0
         have Hcs : Hid (∀ j u, d.cs[j]? = some u → wr.cell? ((⟨b, o + m * 6, none⟩ : Addr).add j) = some u) := fun j u hu => HQm.out.a.gr.cell' (Hc0.out j u hu)
         have Hhc : Hid ((Tryz.prog.info? 39).map (·.size) = some d.cs.length) := deedSize
         clear hcs hd hdm hil HRD Hra Hrs Ht9 Hs9 HB HDg HL8
         go_wp2_with (first | (refine wpList_loadPart rfl 39 _ rfl ⟨b, o + m * 6, none⟩ rfl d.cs C HC.out _ Hcs.out Tryz.underlying39 rfl Hhc.out ?_) | fail)
         refine HD.out.mono ?_
         rintro e w15 ⟨rfl, x', hs', hP', hT'⟩
         have HP5 := Lib.hid hP'
         have Hs5 := Lib.hid hs'
         have HT5 := Lib.hid hT'
         have Hcs5 : Hid (∀ j u, d.cs[j]? = some u → w15.cell? ((⟨b, o + m * 6, none⟩ : Addr).add j) = some u) := fun j u hu => hP'.gr.cell' (Hc0.out j u hu)
         have HM5 := Lib.hid (HM9.out w15 x' hP')
         clear hP' hs' hT' HD HM9
         go_wp2_with (first | (refine wpList_loadPart rfl 39 _ rfl ⟨b, o + m * 6, none⟩ rfl d.cs C HC.out _ Hcs5.out Tryz.underlying39 rfl Hhc.out ?_) | fail)
         refine HM5.out.mono ?_
         rintro e w16 ⟨rfl, xr', hP6, hT6⟩
         have HQ6 := Lib.hid ((HQm.out.stepP HP5.out HT5.out).stepD hP6 hT6)
         have HR6 : Hid (Rel x'.s t9) := by show Rel _ _; rw [Hs5.out]; exact HR9.out
         have HI6 : Hid (Inv ((i + m) + 1) x'.s R) := by show Inv _ _ _; rw [Hs5.out]; exact HIn.out
         clear hP6 hT6 HM5
         go_wp2
         go_roundw
         case rel => exact ⟨m + 1, x', t9, xr', by simp, HmL.out, HQ6.out, HR6.out, HI6.out⟩
         case measure => have := HmL.out; simp [intOf]; omega
       · obtain rfl : m = M := by omega
         go_wp2
         go_loopw [17] (fun t17 wr => ∃ (p : Nat) (xc : Px) (t3 : Ds) (xn : RDv), t17 = .int .i64 p ∧ p ≤ J ∧ Hid (Quad w wr qc xc qn t3 xn q x2 q2 t2 xr2) ∧ Hid (Rel xc.s t3) ∧ Hid (Inv (i + p) xc.s R)) (fun t17 _ => J - (intOf t17).toNat)
         case atStart => exact ⟨0, xc, t, xn, rfl, by omega, HQm.out.swap, HRc.out, HIc.out⟩
         case round =>
          obtain ⟨p, xc3, t3, xn3, rfl, hpJ, HQp, HRp, HIp⟩ := hrel
          clear HRc HIc HQm
          by_cases hlt3 : (p : Int) < (J : Int)
          · have hpI : (p : Int) ≤ 80 := by have := HJ80.out; omega
            have HpL : Hid (p < J) := by show _ < _; omega
            have hil : p < j.length := by rw [HJ.out]; omega
            obtain ⟨b, o, rfl, hcs⟩ := deed_at H3.out (Grows.rfl' w) p hil
            have Hc0 := Lib.hid hcs
            obtain ⟨d, hd⟩ : ∃ d, j[p] = d := ⟨_, rfl⟩
            have hdm : d ∈ j := by rw [← hd]; exact List.getElem_mem hil
            have HDk := Lib.hid (dds_ok H3.out d hdm)
            have HDs := Lib.hid (dd_small HSj.out hdm)
            have HDg : Hid (¬ (d.dp.kind = 3 ∧ 100 < d.dp.n ∧ d.dp.n ≤ 4096)) := fun hq => HSj.out.good d hdm (.inr (.inr hq))
            have HL8 := HL80.out
            have HD := Lib.hid (pair_do HQp.out.a HIp.out HRp.out (by omega) Hek.out d HDk.out HDs.out)
            have HB := Lib.hid (pair_bounds HQp.out.a.pd HIp.out HRp.out (by omega)).2
            have HRD := Lib.hid (rel_do HRp.out HQp.out.a.rd.wf d.dp)
            rw [HRD.out.1] at HD
            have HIn : Hid (Inv ((i + p) + 1) (doP xc3.s d.dp).2 R) := inv_do HIp.out _ HDg.out
            obtain ⟨C, HC⟩ : ∃ C, Hid (d.cs.toArray = C) := ⟨_, Lib.hid rfl⟩
            rw [show d.v = .agg d.cs.toArray from rfl, HC.out] at HD
            have HM9 : Hid (∀ W x', Pair w W qc x' qn t3 xn3 → Calls Tryz.prog 14 #[.pointer (some ⟨qn, 0, none⟩), .agg C] W fun e w' => e = .returned (.tuple #[.int .i64 (doD t3 d.dp).1.1, .string ⟨(doD t3 d.dp).1.2.toArray⟩]) ∧ ∃ xr', Pair w w' qc x' qn (doD t3 d.dp).2 xr' ∧ Turn qn xn3 xr' W w') := by
             intro W x' hp
             have := pair_model hp HB.out d HDk.out HDs.out
             rw [show d.v = .agg d.cs.toArray from rfl, HC.out] at this
             exact this
            obtain ⟨ra, Hra⟩ : ∃ y, Hid ((doD t3 d.dp).1.1 = y) := ⟨_, Lib.hid rfl⟩
            obtain ⟨rs, Hrs⟩ : ∃ y : ByteArray, Hid (⟨(doD t3 d.dp).1.2.toArray⟩ = y) := ⟨_, Lib.hid rfl⟩
            obtain ⟨t9, Ht9⟩ : ∃ y, Hid ((doD t3 d.dp).2 = y) := ⟨_, Lib.hid rfl⟩
            obtain ⟨s9, Hs9⟩ : ∃ y, Hid ((doP xc3.s d.dp).2 = y) := ⟨_, Lib.hid rfl⟩
            rw [Hra.out, Hrs.out, Hs9.out] at HD
            rw [Hra.out, Hrs.out, Ht9.out] at HM9
            have HR9 : Hid (Rel s9 t9) := by show Rel _ _; rw [← Hs9.out, ← Ht9.out]; exact HRD.out.2
            rw [Hs9.out] at HIn
            rw [hd] at Hc0
            have Hcs : Hid (∀ j u, d.cs[j]? = some u → wr.cell? ((⟨b, o + p * 6, none⟩ : Addr).add j) = some u) := fun j u hu => HQp.out.a.gr.cell' (Hc0.out j u hu)
            have Hhc : Hid ((Tryz.prog.info? 39).map (·.size) = some d.cs.length) := deedSize
            clear hcs hd hdm hil HRD Hra Hrs Ht9 Hs9 HB HDg HL8
            go_wp2_with (first | (refine wpList_loadPart rfl 39 _ rfl ⟨b, o + p * 6, none⟩ rfl d.cs C HC.out _ Hcs.out Tryz.underlying39 rfl Hhc.out ?_) | fail)
            refine HD.out.mono ?_
            rintro e w15 ⟨rfl, x', hs', hP', hT'⟩
            have HP5 := Lib.hid hP'
            have Hs5 := Lib.hid hs'
            have HT5 := Lib.hid hT'
            have Hcs5 : Hid (∀ j u, d.cs[j]? = some u → w15.cell? ((⟨b, o + p * 6, none⟩ : Addr).add j) = some u) := fun j u hu => hP'.gr.cell' (Hc0.out j u hu)
            have HM5 := Lib.hid (HM9.out w15 x' hP')
            clear hP' hs' hT' HD HM9
            go_wp2_with (first | (refine wpList_loadPart rfl 39 _ rfl ⟨b, o + p * 6, none⟩ rfl d.cs C HC.out _ Hcs5.out Tryz.underlying39 rfl Hhc.out ?_) | fail)
            refine HM5.out.mono ?_
            rintro e w16 ⟨rfl, xr', hP6, hT6⟩
            have HQ6 := Lib.hid ((HQp.out.stepP HP5.out HT5.out).stepD hP6 hT6)
            have HR6 : Hid (Rel x'.s t9) := by show Rel _ _; rw [Hs5.out]; exact HR9.out
            have HI6 : Hid (Inv ((i + p) + 1) x'.s R) := by show Inv _ _ _; rw [Hs5.out]; exact HIn.out
            clear hP6 hT6 HM5
            go_wp2
            go_roundw
            case rel => exact ⟨p + 1, x', t9, xr', by simp, HpL.out, HQ6.out, HR6.out, HI6.out⟩
            case measure => have := HpL.out; simp [intOf]; omega
          · obtain rfl : p = J := by omega
            have HA1 := Lib.hid (pAlike HQp.out.b.pd HQp.out.b.rd HRm.out)
            have HA2 : Hid (∀ W, Grows wr W → Calls Tryz.prog 15 #[.pointer (some ⟨qc, 0, none⟩), .pointer (some ⟨qn, 0, none⟩)] W fun e w' => e = .returned (.bool true) ∧ Grows W w') := fun W g => pAlike (HQp.out.a.pd.grows g) (HQp.out.a.rd.grows g) HRp.out
            go_wp2_with fail
            refine HA1.out.mono ?_
            rintro e w9 ⟨rfl, hG9⟩
            have HG9 := Lib.hid hG9
            clear hG9 HA1
            go_wp2_with fail
            refine (HA2.out w9 HG9.out).mono ?_
            rintro e w10 ⟨rfl, hG10⟩
            have HG10 := Lib.hid (Grows.trans' HQp.out.a.gr (Grows.trans' HG9.out hG10))
            clear hG10 HA2
            go_wp2_with fail
            refine (HLV.out _ HG10.out).mono ?_
            rintro e w11 ⟨rfl, hG11⟩
            have HG11 := Lib.hid (Grows.trans' HG10.out hG11)
            clear hG11
            go_wp2
            go_ret
            exact ⟨rfl, HG11.out⟩
 · have hbad : n < 0 ∨ 4096 < n := by omega
   have HN : Hid (∀ W, Calls Tryz.prog 10 #[.int .i64 n] W fun e w' => ∃ v, e = .returned (.tuple #[.pointer none, v]) ∧ IsFault w' v opNew [] 2 ∧ Grows W w') := fun W => pNewBad n hbad W
   clear hbad
   go_wp2_with fail
   refine (HN.out w3).mono ?_
   rintro e w4 ⟨v, rfl, hf, hG4⟩
   have HG4 := Lib.hid (Grows.trans' HG3.out hG4)
   obtain ⟨fb, rfl⟩ : ∃ b, v = .iface 77 (.pointer (some ⟨b, 0, none⟩)) := by
    rcases hf with ⟨h, _⟩ | ⟨_, b, e, _⟩
    · cases h
    · exact ⟨b, e⟩
   clear hf hG4 HN
   by_cases h0 : 0 ≤ n
   · have h4 : ¬ n ≤ 4096 := fun h => hroom ⟨h0, h⟩
     clear hroom
     go_wp2_with fail
     refine (HLV.out _ HG4.out).mono ?_
     rintro e w5 ⟨rfl, hG5⟩
     have HG5 := Lib.hid (Grows.trans' HG4.out hG5)
     clear hG5
     go_wp2
     go_ret
     exact ⟨by first | rfl | (rw [decide_eq_false h4]; rfl) | simp [h4], HG5.out⟩
   · clear hroom
     go_wp2_with fail
     refine (HLV.out _ HG4.out).mono ?_
     rintro e w5 ⟨rfl, hG5⟩
     have HG5 := Lib.hid (Grows.trans' HG4.out hG5)
     clear hG5
     go_wp2
     go_ret
     exact ⟨rfl, HG5.out⟩
end Go.Proofs.YtoppcpiheaedlaaGreatDoor
