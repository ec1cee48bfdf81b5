/-
  A deed on the document's disk.
-/
import Derived.Test.YtoppcpiheaedlaaGreatDoorMB18
import Derived.Test.YtoppcpiheaedlaaGreatDoorMB21
import Derived.Test.YtoppcpiheaedlaaGreatDoorMB8
namespace Go.Proofs.YtoppcpiheaedlaaGreatDoor
open Go.RowKit
set_option linter.unusedVariables false
set_option linter.unusedSimpArgs false
attribute [local go_sem] sv nv
set_option maxRecDepth 100000 in
set_option maxHeartbeats 16000000 in
theorem pModel {w : World} {q : Nat} {s : Ds} {x : RDv} (h : RD w q s x) (d : Dd) (hd : DdOk w d) (hkl : d.keep.length ≤ 1000000) (hal : True) (hbl : True)
 (hoA : Outside (mutB q x) d.vp) (hoK : Outside (mutB q x) d.vk) (hsm : s.chs.length < 1000000 ∧ s.fls.length < 1000000 ∧ s.wrs.length < 1000000 ∧ s.dir.length + s.chs.length ≤ 1000000) (hlp : d.p.length ≤ 1000000) :
 Calls Tryz.prog 14 #[.pointer (some ⟨q, 0, none⟩), d.v] w fun e w' => e = .returned (.tuple #[.int .i64 (doD s d.dp).1.1, .string ⟨(doD s d.dp).1.2.toArray⟩]) ∧ ∃ x', RD w' q (doD s d.dp).2 x' ∧ Turn q x x' w w' := by
 have hmx : Tryz.prog.follows .mixedOrders = true := by kernel_rfl
 obtain ⟨kd, a, b, n, vp, p, vk, keep⟩ := d
 obtain ⟨ap, cp, ep⟩ : ∃ ap cp, vp = .slice ap p.length cp := hd.p.slice
 obtain ⟨ak, ck, ek⟩ : ∃ ak ck, vk = .slice ak keep.length ck := by obtain ⟨ak, ck, e, _⟩ := hd.keep; exact ⟨ak, ck, e⟩
 subst ep
 subst ek
 have Hn : Hid (-9223372036854775808 ≤ n ∧ n ≤ 9223372036854775807) := hd.n
 have Hkl : Hid (keep.length ≤ 1000000) := hkl
 have Hal : Hid True := trivial
 have Hbl : Hid True := trivial
 have Hsm := Lib.hid hsm
 have hlpi : (p.length : Int) ≤ 1000000 := by have : p.length ≤ 1000000 := hlp; omega
 show Calls _ _ #[_, .agg #[.int .i64 kd, .string ⟨a.toArray⟩, .string ⟨b.toArray⟩, .int .i64 n, .slice ap p.length cp, .slice ak keep.length ck]] _ _
 show Calls _ _ _ _ (fun e w' => e = .returned (.tuple #[.int .i64 (doD s ⟨kd, a, b, n, p, keep⟩).1.1, .string ⟨(doD s ⟨kd, a, b, n, p, keep⟩).1.2.toArray⟩]) ∧ ∃ x', RD w' q (doD s ⟨kd, a, b, n, p, keep⟩).2 x' ∧ Turn q x x' w w')
 obtain ⟨C, hC⟩ : ∃ C : Array Value, C = #[.int .i64 kd, .string ⟨a.toArray⟩, .string ⟨b.toArray⟩, .int .i64 n, .slice ap p.length cp, .slice ak keep.length ck] := ⟨_, rfl⟩
 rw [← hC]
 obtain ⟨g, Hg⟩ : ∃ g, Hid (w.heap.size = g) := ⟨_, rfl⟩
 obtain ⟨w1, Hw1⟩ : ∃ w1, Hid (w.alloc (.cells C 39) = w1) := ⟨_, rfl⟩
 have HG1 : Hid (Grows w w1) := by show Grows _ _; rw [← Hw1.out]; exact Grows.alloc' _ _
 have hrow : w1.heap[g]? = some (.cells C 39 (0, 0)) := by rw [← Hw1.out, ← Hg.out]; exact heap_alloc_new _ _
 have d0 : w1.cell? ⟨g, 0, none⟩ = some (.int .i64 kd) := by rw [cell_of_row _ g 0 _ _ _ hrow, hC]; rfl
 have d1 : w1.cell? ⟨g, 1, none⟩ = some (.string ⟨a.toArray⟩) := by rw [cell_of_row _ g 1 _ _ _ hrow, hC]; rfl
 have d2 : w1.cell? ⟨g, 2, none⟩ = some (.string ⟨b.toArray⟩) := by rw [cell_of_row _ g 2 _ _ _ hrow, hC]; rfl
 have d3 : w1.cell? ⟨g, 3, none⟩ = some (.int .i64 n) := by rw [cell_of_row _ g 3 _ _ _ hrow, hC]; rfl
 have d4 : w1.cell? ⟨g, 4, none⟩ = some (.slice ap p.length cp) := by rw [cell_of_row _ g 4 _ _ _ hrow, hC]; rfl
 have d5 : w1.cell? ⟨g, 5, none⟩ = some (.slice ak keep.length ck) := by rw [cell_of_row _ g 5 _ _ _ hrow, hC]; rfl
 have HxA : Hid (Byt w1 (.slice ap p.length cp) p) := hd.p.grows HG1.out
 have HxK : Hid (IntS w1 (.slice ak keep.length ck) keep) := hd.keep.grows HG1.out
 have HoA : Hid (Outside (mutB q x) (.slice ap p.length cp)) := hoA
 have HoK : Hid (Outside (mutB q x) (.slice ak keep.length ck)) := hoK
 have HR1 : Hid (RD w1 q s x) := h.grows HG1.out
 have HT1 : Hid (Turn q x x w w1) := Turn.ofGrows HG1.out
 clear hrow hd hkl hoA hoK hsm h hC hal hbl hlp
 obtain ⟨lp, Hlp⟩ : ∃ y, Hid (p.length = y) := ⟨_, rfl⟩
 obtain ⟨lk, Hlk⟩ : ∃ y, Hid (keep.length = y) := ⟨_, rfl⟩
 rw [Hlp.out] at d4 HxA HoA hlpi
 rw [Hlk.out] at d5 HxK HoK
 obtain ⟨sa, Hsa⟩ : ∃ y : ByteArray, Hid (⟨a.toArray⟩ = y) := ⟨_, rfl⟩
 obtain ⟨sb, Hsb⟩ : ∃ y : ByteArray, Hid (⟨b.toArray⟩ = y) := ⟨_, rfl⟩
 rw [Hsa.out] at d1
 rw [Hsb.out] at d2
 by_cases h0 : kd = 0
 · subst h0
   have Hr : Hid (doD s ⟨0, a, b, n, p, keep⟩ = (((createF s a).1, []), (createF s a).2)) := by show _ = _; unfold doD; rfl
   have HC := Lib.hid (refCreate q s x a w1 HR1.out Hsm.out.1 Hsm.out.2.1 Hal.out)
   unfold sv at HC
   rw [Hsa.out] at HC
   go_enter Tryz.func14, Tryz.ntmps14
   go_wp2_with (first | (refine wpList_boxT rfl 39 _ rfl C rfl ?_; rw [Hg.out, Hw1.out]) | fail)
   refine HC.out.mono ?_
   rintro e w2 ⟨rfl, x', hR', hT'⟩
   have HR2 := Lib.hid hR'
   have HT2 := Lib.hid (HT1.out.trans hT')
   clear hR' hT' HC
   go_wp2
   go_ret2
   exact ⟨by rw [Hr.out]; rfl, x', by rw [Hr.out]; exact HR2.out, HT2.out⟩
 have e0 : (kd == 0) = false := by simpa using h0
 by_cases h1 : kd = 1
 · subst h1
   have Hr : Hid (doD s ⟨1, a, b, n, p, keep⟩ = (((removeF s a).1, []), (removeF s a).2)) := by show _ = _; unfold doD; rfl
   clear h0 e0
   have HC := Lib.hid (refRemove q s x a w1 HR1.out Hsm.out.1)
   unfold sv at HC
   rw [Hsa.out] at HC
   go_enter Tryz.func14, Tryz.ntmps14
   go_wp2_with (first | (refine wpList_boxT rfl 39 _ rfl C rfl ?_; rw [Hg.out, Hw1.out]) | fail)
   refine HC.out.mono ?_
   rintro e w2 ⟨rfl, x', hR', hT'⟩
   have HR2 := Lib.hid hR'
   have HT2 := Lib.hid (HT1.out.trans hT')
   clear hR' hT' HC
   go_wp2
   go_ret2
   exact ⟨by rw [Hr.out]; rfl, x', by rw [Hr.out]; exact HR2.out, HT2.out⟩
 have e1 : (kd == 1) = false := by simpa using h1
 by_cases h2 : kd = 2
 · subst h2
   have Hr : Hid (doD s ⟨2, a, b, n, p, keep⟩ = (((renameF s a b).1, []), (renameF s a b).2)) := by show _ = _; unfold doD; rfl
   clear h0 e0 h1 e1
   have HC := Lib.hid (refRename q s x a b w1 HR1.out Hsm.out.1 Hbl.out)
   unfold sv at HC
   rw [Hsa.out] at HC
   rw [Hsb.out] at HC
   go_enter Tryz.func14, Tryz.ntmps14
   go_wp2_with (first | (refine wpList_boxT rfl 39 _ rfl C rfl ?_; rw [Hg.out, Hw1.out]) | fail)
   refine HC.out.mono ?_
   rintro e w2 ⟨rfl, x', hR', hT'⟩
   have HR2 := Lib.hid hR'
   have HT2 := Lib.hid (HT1.out.trans hT')
   clear hR' hT' HC
   go_wp2
   go_ret2
   exact ⟨by rw [Hr.out]; rfl, x', by rw [Hr.out]; exact HR2.out, HT2.out⟩
 have e2 : (kd == 2) = false := by simpa using h2
 by_cases h3 : kd = 3
 · subst h3
   have Hr : Hid (doD s ⟨3, a, b, n, p, keep⟩ = (((growF s a n).1, []), (growF s a n).2)) := by show _ = _; unfold doD; rfl
   clear h0 e0 h1 e1 h2 e2
   have HC := Lib.hid (refGrow q s x a n w1 HR1.out)
   unfold sv at HC
   rw [Hsa.out] at HC
   go_enter Tryz.func14, Tryz.ntmps14
   go_wp2_with (first | (refine wpList_boxT rfl 39 _ rfl C rfl ?_; rw [Hg.out, Hw1.out]) | fail)
   refine HC.out.mono ?_
   rintro e w2 ⟨rfl, x', hR', hT'⟩
   have HR2 := Lib.hid hR'
   have HT2 := Lib.hid (HT1.out.trans hT')
   clear hR' hT' HC
   go_wp2
   go_ret2
   exact ⟨by rw [Hr.out]; rfl, x', by rw [Hr.out]; exact HR2.out, HT2.out⟩
 have e3 : (kd == 3) = false := by simpa using h3
 by_cases h4 : kd = 4
 · subst h4
   have Hr : Hid (doD s ⟨4, a, b, n, p, keep⟩ = (((writeF s a n p).1, []), (writeF s a n p).2)) := by show _ = _; unfold doD; rfl
   clear h0 e0 h1 e1 h2 e2 h3 e3
   have HC := Lib.hid (refWrite q s x a n (.slice ap lp cp) p w1 HR1.out HxA.out HoA.out Hsm.out.2.2.1)
   unfold sv at HC
   rw [Hsa.out] at HC
   go_enter Tryz.func14, Tryz.ntmps14
   go_wp2_with (first | (refine wpList_boxT rfl 39 _ rfl C rfl ?_; rw [Hg.out, Hw1.out]) | fail)
   refine HC.out.mono ?_
   rintro e w2 ⟨rfl, x', hR', hT'⟩
   have HR2 := Lib.hid hR'
   have HT2 := Lib.hid (HT1.out.trans hT')
   clear hR' hT' HC
   go_wp2
   go_ret2
   exact ⟨by rw [Hr.out]; rfl, x', by rw [Hr.out]; exact HR2.out, HT2.out⟩
 have e4 : (kd == 4) = false := by simpa using h4
 by_cases h5 : kd = 5
 · subst h5
   have Hr : Hid (doD s ⟨5, a, b, n, p, keep⟩ = (((readF s a n).1.2, (readF s a n).1.1), (readF s a n).2)) := by show _ = _; unfold doD; rfl
   clear h0 e0 h1 e1 h2 e2 h3 e3 h4 e4
   have HC := Lib.hid (refRead q s x a n w1 HR1.out)
   unfold sv at HC
   rw [Hsa.out] at HC
   go_enter Tryz.func14, Tryz.ntmps14
   go_wp2_with (first | (refine wpList_boxT rfl 39 _ rfl C rfl ?_; rw [Hg.out, Hw1.out]) | fail)
   refine HC.out.mono ?_
   rintro e w2 ⟨v, rfl, ho, hR', hB'⟩
   obtain ⟨av, cv, rfl⟩ := own_form ho
   have HO := Lib.hid ho
   have HR2 := Lib.hid hR'
   have HT2 := Lib.hid (HT1.out.trans (Turn.ofBut (x := x) hB'))
   obtain ⟨R, HRr⟩ : ∃ R, Hid (readF s a n = R) := ⟨_, rfl⟩
   rw [HRr.out] at HO HR2 Hr ⊢
   obtain ⟨rl, Hrl⟩ : ∃ y, Hid (R.1.1.length = y) := ⟨_, rfl⟩
   rw [Hrl.out] at HO ⊢
   clear ho hR' hB' HC d0 d1 d2 d3 d4 d5
   go_wp2
   refine specs_region
    #[[], [], [1], [0], [0, 1, 2, 3]] #[[7], [6], [], [], []] #[true, true, true, true, true]
    ((.val ?vr50) :: (.val ?vr51) :: (.val (.string ⟨R.1.1.toArray⟩)) :: (.val ?vr53) :: (.val ?vr54) :: []).toArray
    hmx ?chkr5 ?grdr5 ?stpr5 ?rstr5
   case chkr5 => rfl
   case stpr5 =>
    refine ⟨?_, ?_, ?_, ?_, ?_, trivial⟩
    · refine stepO 7 ?vr50 rfl (fun _ _ => rfl) rfl (fun _ => rfl) (by decide) ?_; show (.int .i64 R.1.2 : Value) = _; rfl
    · refine stepO 6 ?vr51 rfl (fun _ _ => rfl) rfl (fun _ => rfl) (by decide) ?_; show (.slice av rl cv : Value) = _; rfl
    · refine step_intro rfl rfl fun ρ X hc hf hgl hX hp ho => ?_
      change StepOk _ ⟨_, .convert 36 9 (.tmp 60), _, _, _, _⟩ _ _ _
      have k60 : ρ (.tmp 60) = ?vr51 := hp 1 (by decide)
      have hbb : Byt X (.slice av rl cv) R.1.1 := Byt.grows (by have ho1 := HO.out; rw [← Hrl.out] at ho1 ⊢; exact Own.byt ho1) hX
      clear hp ho
      refine StepOk.of_run (v := .string ⟨R.1.1.toArray⟩) (w' := X) ?_ ⟨rfl, Below.refl _ _⟩
      simp only [execOp, Sem.run_bind, Sem.run_pure, Result.andThen_ok, k60]
      rw [run_string Tryz.underlying36 Tryz.underlying5 Tryz.underlying9 hbb]
      rfl
    · refine stepP 59 0 (?vr50) ?vr53 rfl (fun _ _ => rfl) rfl (fun _ => rfl) (by decide) rfl (fun _ _ h => h) ?_; rfl
    · refine stepP 61 2 ((.string ⟨R.1.1.toArray⟩)) ?vr54 rfl (fun _ _ => rfl) rfl (fun _ => rfl) (by decide) rfl (fun _ _ h => h) ?_; rfl
   case grdr5 => rfl
   case rstr5 =>
    intro a0 X hb
    have hfr := hb.frame ((4, ?vr53) :: (5, ?vr54) :: (59, ?vr50) :: (60, ?vr51) :: (61, (.string ⟨R.1.1.toArray⟩)) :: []) rfl ⟨hb.done' 3 4 rfl rfl, hb.done' 4 5 rfl rfl, hb.done' 0 59 rfl rfl, hb.done' 1 60 rfl rfl, hb.done' 2 61 rfl rfl, trivial⟩
    simp only [updL, ↓reduceIte, Nat.reduceEqDiff, Nat.reduceAdd, Nat.zero_add] at hfr
    have HX := Lib.hid hb.ext
    clear hb
    subst hfr
    have HRX := Lib.hid (HR2.out.grows HX.out)
    have HTX := Lib.hid (HT2.out.trans (Turn.ofGrows (x := x) HX.out))
    clear HX
    go_wp2
    go_ret2
    exact ⟨by rw [Hr.out]; rfl, x, by rw [Hr.out]; exact HRX.out, HTX.out⟩
 have e5 : (kd == 5) = false := by simpa using h5
 by_cases h6 : kd = 6
 · subst h6
   have Hr : Hid (doD s ⟨6, a, b, n, p, keep⟩ = (((syncF s a).1, []), (syncF s a).2)) := by show _ = _; unfold doD; rfl
   clear h0 e0 h1 e1 h2 e2 h3 e3 h4 e4 h5 e5
   have HC := Lib.hid (refSync q s x a w1 HR1.out)
   unfold sv at HC
   rw [Hsa.out] at HC
   go_enter Tryz.func14, Tryz.ntmps14
   go_wp2_with (first | (refine wpList_boxT rfl 39 _ rfl C rfl ?_; rw [Hg.out, Hw1.out]) | fail)
   refine HC.out.mono ?_
   rintro e w2 ⟨rfl, x', hR', hT'⟩
   have HR2 := Lib.hid hR'
   have HT2 := Lib.hid (HT1.out.trans hT')
   clear hR' hT' HC
   go_wp2
   go_ret2
   exact ⟨by rw [Hr.out]; rfl, x', by rw [Hr.out]; exact HR2.out, HT2.out⟩
 have e6 : (kd == 6) = false := by simpa using h6
 by_cases h7 : kd = 7
 · subst h7
   have Hr : Hid (doD s ⟨7, a, b, n, p, keep⟩ = (((syncDirF s).1, []), (syncDirF s).2)) := by show _ = _; unfold doD; rfl
   clear h0 e0 h1 e1 h2 e2 h3 e3 h4 e4 h5 e5 h6 e6
   have HC := Lib.hid (refSyncDir q s x w1 HR1.out Hsm.out.2.2.2)
   go_enter Tryz.func14, Tryz.ntmps14
   go_wp2_with (first | (refine wpList_boxT rfl 39 _ rfl C rfl ?_; rw [Hg.out, Hw1.out]) | fail)
   refine HC.out.mono ?_
   rintro e w2 ⟨rfl, x', hR', hT'⟩
   have HR2 := Lib.hid hR'
   have HT2 := Lib.hid (HT1.out.trans hT')
   clear hR' hT' HC
   go_wp2
   go_ret2
   exact ⟨by rw [Hr.out]; rfl, x', by rw [Hr.out]; exact HR2.out, HT2.out⟩
 have e7 : (kd == 7) = false := by simpa using h7
 by_cases h8 : kd = 8
 · subst h8
   have Hr : Hid (doD s ⟨8, a, b, n, p, keep⟩ = ((0, []), armF s n p.length)) := by show _ = _; unfold doD; rfl
   clear h0 e0 h1 e1 h2 e2 h3 e3 h4 e4 h5 e5 h6 e6 h7 e7
   have HC := Lib.hid (refArm q s x n (lp : Int) Hn.out w1 HR1.out)
   go_enter Tryz.func14, Tryz.ntmps14
   go_wp2_with (first | (refine wpList_boxT rfl 39 _ rfl C rfl ?_; rw [Hg.out, Hw1.out]) | fail)
   refine HC.out.mono ?_
   rintro e w2 ⟨rfl, hR', hB'⟩
   have HR2 := Lib.hid hR'
   have HT2 := Lib.hid (HT1.out.trans (Turn.ofBut (x := x) hB'))
   clear hR' hB' HC
   go_wp2
   go_ret2
   exact ⟨by rw [Hr.out]; rfl, x, by rw [Hr.out, Hlp.out]; exact HR2.out, HT2.out⟩
 have e8 : (kd == 8) = false := by simpa using h8
 by_cases h9 : kd = 9
 · subst h9
   have Hr : Hid (doD s ⟨9, a, b, n, p, keep⟩ = ((0, []), crashF s n keep)) := by show _ = _; unfold doD; rfl
   clear h0 e0 h1 e1 h2 e2 h3 e3 h4 e4 h5 e5 h6 e6 h7 e7 h8 e8
   have HC := Lib.hid (refCrash q s x n (.slice ak lk ck) keep w1 HR1.out HxK.out HoK.out Hkl.out Hsm.out.2.2.2)
   go_enter Tryz.func14, Tryz.ntmps14
   go_wp2_with (first | (refine wpList_boxT rfl 39 _ rfl C rfl ?_; rw [Hg.out, Hw1.out]) | fail)
   refine HC.out.mono ?_
   rintro e w2 ⟨rfl, x', hR', hT'⟩
   have HR2 := Lib.hid hR'
   have HT2 := Lib.hid (HT1.out.trans hT')
   clear hR' hT' HC
   go_wp2
   go_ret2
   exact ⟨by rw [Hr.out]; rfl, x', by rw [Hr.out]; exact HR2.out, HT2.out⟩
 have e9 : (kd == 9) = false := by simpa using h9
 have Hr : Hid (doD s ⟨kd, a, b, n, p, keep⟩ = ((0, []), s)) := by show _ = _; unfold doD; simp only [if_neg h0, if_neg h1, if_neg h2, if_neg h3, if_neg h4, if_neg h5, if_neg h6, if_neg h7, if_neg h8, if_neg h9, if_false]
 go_enter Tryz.func14, Tryz.ntmps14
 go_wp2_with (first | (refine wpList_boxT rfl 39 _ rfl C rfl ?_; rw [Hg.out, Hw1.out]) | fail)
 go_ret2
 exact ⟨by rw [Hr.out]; rfl, x, by rw [Hr.out]; exact HR1.out, HT1.out⟩
end Go.Proofs.YtoppcpiheaedlaaGreatDoor
