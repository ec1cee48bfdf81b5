/-
  The program's disk: a sector that is read.
-/
import Derived.Test.YtoppcpiheaedlaaGreatDoorPl
import Derived.Test.YtoppcpiheaedlaaGreatDoorFil
import Derived.Lib.SliceRun
namespace Go.Proofs.YtoppcpiheaedlaaGreatDoor
open Go.RowKit Go.Maps Go.MapKept
set_option linter.unusedVariables false
set_option linter.unusedSimpArgs false
attribute [local go_sem] sv nv mv pv

theorem info5d : (Tryz.prog.info? 5).map (fun i => (i.zero, i.size, i.bytes)) = some (some (.int .u8 0), 1, 1) := by kernel_rfl
theorem info5d_parts : ∃ i, Tryz.prog.info? 5 = some i ∧ i.zero = some (.int .u8 0) ∧ i.size = 1 ∧ i.bytes = 1 := by
  obtain ⟨i, h1, h2⟩ := Option.map_eq_some_iff.1 info5d
  simp only [Prod.mk.injEq] at h2
  exact ⟨i, h1, h2.1, h2.2.1, h2.2.2⟩
set_option maxRecDepth 100000 in
theorem pClone (g off cap : Nat) (l : List UInt8) (w : World) (h : Byt w (.slice (some ⟨g, off, none⟩) l.length cap) l) (hl : l.length ≤ 1000000) :
    Calls Tryz.prog 103 #[.slice (some ⟨g, off, none⟩) l.length cap] w fun e w' => ∃ v', e = .returned v' ∧ Own 5 w.heap.size w' v' l ∧ Grows w w' := by
  obtain ⟨i0, hi, hz, hs, hb⟩ := info5d_parts
  have hq := Lib.run_eql_slice_nil (P := Tryz.prog)
  have H := Lib.hid h
  have Hl := Lib.hid hl
  obtain ⟨n, Hn⟩ : ∃ n, Hid (l.length = n) := ⟨_, rfl⟩
  rw [Hn.out] at H ⊢
  clear h hl
  go_enter Tryz.func103, Tryz.ntmps103
  go_wp2_with (at_builtin; refine wpList_app rfl _ _ 36 5 i0 rfl Tryz.underlying36 hi hz hs hb w.heap.size _ _ [] l rfl (Own.empty _ _ w (Nat.le_refl _)) rfl (H.out.grows (Grows.alloc' _ _)) (by have := Hl.out; simp; omega) (by simp) ?_; intro v1 w1 ho hg)
  obtain ⟨a1, c1, rfl⟩ := own_form ho
  have HO := Lib.hid ho
  have HG : Hid (Grows w w1) := grows_app ((Below.refl _ _).alloc (Nat.le_refl _) _) (Own.empty 5 _ w (Nat.le_refl _)) (by simp) hg
  clear ho hg
  go_wp2
  go_ret
  exact ⟨_, rfl, by simpa using HO.out, HG.out⟩

theorem secC_get {l : List Sec} (h : ∀ p ∈ l, p.length = 64) (i : Nat) (hi : i < l.length) (j : Nat) (hj : j < 64) : (l.flatMap secC)[i * 64 + j]? = some (bv ((l.getD i []).getD j 0)) := by
  have : ∀ (l : List Sec) (i : Nat), (∀ p ∈ l, p.length = 64) → i < l.length → (l.flatMap secC)[i * 64 + j]? = some (bv ((l.getD i []).getD j 0)) := by
    intro l
    induction l with
    | nil => intro i _ hi; simp at hi
    | cons p l ih =>
      intro i h hi
      have hp := h p (by simp)
      have hpl : (secC p).length = 64 := by simp [secC, hp]
      cases i with
      | zero =>
        rw [List.flatMap_cons, Nat.zero_mul, Nat.zero_add, List.getElem?_append_left (by omega)]
        simp [secC, hp, hj, List.getD]
      | succ i =>
        rw [List.flatMap_cons, show (i + 1) * 64 + j = 64 + (i * 64 + j) by omega, List.getElem?_append_right (by omega), hpl, show 64 + (i * 64 + j) - 64 = i * 64 + j by omega, ih i (fun q hq => h q (by simp [hq])) (by simpa using hi)]
        simp [List.getD]
  exact this l i h hi
theorem FiOk.byt {W : World} {f : Fi} (h : FiOk W f) {g L c : Nat} (hv : f.vn = .slice (some ⟨g, 0, none⟩) L c) (i : Nat) (hi : i < f.now.length) : Byt W (.slice (some ⟨g, i * 64, none⟩) 64 64) (f.now.getD i []) := by
  have h64 : (f.now.getD i []).length = 64 := h.now64 _ (getD_mem _ _ _ hi)
  refine ⟨_, _, by rw [h64], by omega, by simp [maxLen], fun h => (by cases h), .inr ⟨g, i * 64, rfl, fun j hj => ?_⟩⟩
  have ho := h.now
  rw [hv] at ho
  have hL : L = f.now.length := by
    rcases ho.2 with ⟨e, _⟩ | ⟨_, _, _, e, _⟩
    · cases e
    · simp only [Value.slice.injEq] at e; exact e.2.1
  rw [hL] at ho
  exact own_cell ho _ _ (secC_get h.now64 i hi j (by omega))

set_option maxRecDepth 100000 in
set_option maxHeartbeats 2000000 in
theorem pReadI {w : World} {q : Nat} {x : Px} (h : PD w q x) (nm : Nm) (hn : okS nm) (n : Int) (hnI : -9223372036854775808 ≤ n ∧ n ≤ 9223372036854775807) :
    Calls Tryz.prog 77 #[.pointer (some ⟨q, 0, none⟩), sv nm, .int .i64 n] w fun e w' => ∃ v, e = .returned (.tuple #[v, .int .i64 (readP x.s nm n).1.2]) ∧ Own 5 w.heap.size w' v (readP x.s nm n).1.1 ∧ PD w' q (beginX x) ∧ (beginX x).s = (readP x.s nm n).2 ∧ TurnP q x (beginX x) w w' := by
  have HB := Lib.hid (pBeginWith h nm hn)
  unfold sv at HB ⊢
  have Hs2 : Hid ((beginX x).s = (readP x.s nm n).2) := by
    show _ = _
    rw [beginX_s]
    unfold readP
    split
    · rfl
    · split
      · rfl
      · split <;> rfl
  by_cases hf : (beginP x.s).1 = 0
  · have hr : bwR x nm = findR (nowX x).2 nm := by unfold bwR; rw [if_pos hf]
    rw [hr] at HB
    cases hd : findA (nowX x).2 nm with
    | none =>
      have hr' : findR (nowX x).2 nm = .tuple #[.int .i64 0, .int .i64 7] := by unfold findR; rw [hd]
      have Hr : Hid ((readP x.s nm n).1 = ([], 7)) := by
        show _ = _
        unfold readP
        rw [if_neg (by simpa using hf), ← beginX_s, nowX_s, show (nowX (beginX x)).2 = (nowX x).2 from rfl, hd]
      rw [hr'] at HB
      clear h hn hf hr hd hr' hnI
      go_enter Tryz.func77, Tryz.ntmps77
      go_wp2_with fail
      refine HB.out.mono ?_
      rintro e w1 ⟨rfl, hP, hT⟩
      have HP := Lib.hid hP
      have HT := Lib.hid hT
      clear hP hT
      go_wp2
      go_ret2
      exact ⟨_, by rw [Hr.out]; rfl, by rw [Hr.out]; exact Own.nil _ _ _, HP.out, Hs2.out, HT.out⟩
    | some k =>
      have hr' : findR (nowX x).2 nm = .tuple #[.int .i64 (k : Int), .int .i64 0] := by unfold findR; rw [hd]; rfl
      obtain ⟨f, hfm, hfn⟩ := h.named (nowX_mem x h.wf.ne) hd
      have Hfi := Lib.hid hfm
      have Hfn := Lib.hid hfn
      have hfp : fileP (beginX x).s k = (f.now, f.safe) := by rw [← hfn]; exact h.fileP hfm
      have Hs : Hid ((readP x.s nm n).1 = if n < 0 ∨ (f.now.length : Int) ≤ n then ([], 43) else (f.now.getD n.toNat [], 0)) := by
        show _ = _
        unfold readP
        rw [if_neg (by simpa using hf), ← beginX_s, nowX_s, show (nowX (beginX x)).2 = (nowX x).2 from rfl, hd]
        simp only [hfp]
        split <;> rfl
      have Hokp : Hid (okI k) := okI_small (by rw [← hfn]; exact Nat.le_trans (h.wf.nums f hfm) h.wf.small.2.2.2)
      have Hle := Lib.hid (h.files.ok f hfm).le
      rw [hr'] at HB
      clear h hn hf hr hd hr' hfm hfn hfp
      obtain ⟨L, HL⟩ : ∃ L, Hid (f.now.length = L) := ⟨_, rfl⟩
      obtain ⟨b, Hb⟩ : ∃ b, Hid (f.blk = b) := ⟨_, rfl⟩
      rw [HL.out] at Hs Hle
      have hLI : (L : Int) ≤ 4096 := by have := Hle.out; omega
      by_cases h1 : n < 0
      · have Hr : Hid ((readP x.s nm n).1 = ([], 43)) := by show _ = _; rw [Hs.out, if_pos (.inl h1)]
        go_enter Tryz.func77, Tryz.ntmps77
        go_wp2_with fail
        refine HB.out.mono ?_
        rintro e w1 ⟨rfl, hP, hT⟩
        have HP := Lib.hid hP
        have HT := Lib.hid hT
        have hfo := hP.files.ok f Hfi.out
        have Hfo := Lib.hid hfo
        obtain ⟨a, c, a', c', e1, e2, d0, d1⟩ := fi_form hfo
        have hlk := hP.look Hfi.out
        rw [Hfn.out, Hb.out] at hlk
        have Hlk1 := Lib.hid hlk
        have HM1 := Lib.hid hP.files.map
        have Hok1 := Lib.hid hP.okF
        have c2 := hP.cell 2 (mv (beginX x).fm) rfl
        have cr := hP.cell 0 (nv (beginX x).room) rfl
        obtain ⟨fm, Hfm⟩ : ∃ y, Hid ((beginX x).fm = y) := ⟨_, rfl⟩
        rw [Hfm.out] at c2 HM1
        rw [HL.out] at e1 e2 d0 d1
        rw [Hb.out] at d0 d1
        unfold mv at c2
        unfold nv at cr
        have E1 := Lib.hid e1
        have E2 := Lib.hid e2
        clear hP hT hfo hlk e1 e2
        go_wp2_with (at_lookup; refine wpList_lookA rfl _ _ 95 109 false rfl HM1.out keyF Hok1.out Tryz.underlying95 _ (zeroFile _) k Hokp.out rfl rfl (.pointer (some ⟨b, 0, none⟩)) (by rw [Hlk1.out]; rfl) ?_)
        go_ret2
        exact ⟨_, by rw [Hr.out]; rfl, by rw [Hr.out]; exact Own.nil _ _ _, HP.out, Hs2.out, HT.out⟩
      · by_cases h2 : (L : Int) ≤ n
        · have Hr : Hid ((readP x.s nm n).1 = ([], 43)) := by show _ = _; rw [Hs.out, if_pos (.inr h2)]
          go_enter Tryz.func77, Tryz.ntmps77
          go_wp2_with fail
          refine HB.out.mono ?_
          rintro e w1 ⟨rfl, hP, hT⟩
          have HP := Lib.hid hP
          have HT := Lib.hid hT
          have hfo := hP.files.ok f Hfi.out
          have Hfo := Lib.hid hfo
          obtain ⟨a, c, a', c', e1, e2, d0, d1⟩ := fi_form hfo
          have hlk := hP.look Hfi.out
          rw [Hfn.out, Hb.out] at hlk
          have Hlk1 := Lib.hid hlk
          have HM1 := Lib.hid hP.files.map
          have Hok1 := Lib.hid hP.okF
          have c2 := hP.cell 2 (mv (beginX x).fm) rfl
          have cr := hP.cell 0 (nv (beginX x).room) rfl
          obtain ⟨fm, Hfm⟩ : ∃ y, Hid ((beginX x).fm = y) := ⟨_, rfl⟩
          rw [Hfm.out] at c2 HM1
          rw [HL.out] at e1 e2 d0 d1
          rw [Hb.out] at d0 d1
          unfold mv at c2
          unfold nv at cr
          have E1 := Lib.hid e1
          have E2 := Lib.hid e2
          clear hP hT hfo hlk e1 e2
          go_wp2_with (at_lookup; refine wpList_lookA rfl _ _ 95 109 false rfl HM1.out keyF Hok1.out Tryz.underlying95 _ (zeroFile _) k Hokp.out rfl rfl (.pointer (some ⟨b, 0, none⟩)) (by rw [Hlk1.out]; rfl) ?_)
          go_ret2
          exact ⟨_, by rw [Hr.out]; rfl, by rw [Hr.out]; exact Own.nil _ _ _, HP.out, Hs2.out, HT.out⟩
        · obtain ⟨m, rfl⟩ : ∃ m : Nat, n = (m : Int) := ⟨n.toNat, by omega⟩
          have Hml : Hid (m < L) := by show _ < _; omega
          have hmL : (m : Int) < (L : Int) := by omega
          have Hr : Hid ((readP x.s nm (m : Int)).1 = (f.now.getD m [], 0)) := by show _ = _; rw [Hs.out, if_neg (by omega)]; rfl
          go_enter Tryz.func77, Tryz.ntmps77
          go_wp2_with fail
          refine HB.out.mono ?_
          rintro e w1 ⟨rfl, hP, hT⟩
          have HP := Lib.hid hP
          have HT := Lib.hid hT
          have hfo := hP.files.ok f Hfi.out
          have Hfo := Lib.hid hfo
          obtain ⟨a, c, a', c', e1, e2, d0, d1⟩ := fi_form hfo
          have hlk := hP.look Hfi.out
          rw [Hfn.out, Hb.out] at hlk
          have Hlk1 := Lib.hid hlk
          have HM1 := Lib.hid hP.files.map
          have Hok1 := Lib.hid hP.okF
          have c2 := hP.cell 2 (mv (beginX x).fm) rfl
          have cr := hP.cell 0 (nv (beginX x).room) rfl
          obtain ⟨fm, Hfm⟩ : ∃ y, Hid ((beginX x).fm = y) := ⟨_, rfl⟩
          rw [Hfm.out] at c2 HM1
          rw [HL.out] at e1 e2 d0 d1
          rw [Hb.out] at d0 d1
          unfold mv at c2
          unfold nv at cr
          have E1 := Lib.hid e1
          have E2 := Lib.hid e2
          clear hP hT hfo hlk e1 e2
          have hB1 := Hfo.out
          obtain ⟨g, cp, eg⟩ := own_some hB1.now (by have := Hml.out; rw [HL.out]; omega)
          rw [HL.out] at eg
          have eac := eg
          rw [E1.out] at eac
          simp only [Value.slice.injEq] at eac
          obtain ⟨rfl, -, rfl⟩ := eac
          have HBy := Lib.hid (hB1.byt eg m (by have := Hml.out; rw [HL.out]; omega))
          have H64 : Hid ((f.now.getD m []).length = 64) := hB1.now64 _ (getD_mem _ _ _ (by have := Hml.out; rw [HL.out]; omega))
          obtain ⟨sc, Hsc⟩ : ∃ y, Hid (f.now.getD m [] = y) := ⟨_, rfl⟩
          rw [Hsc.out] at HBy H64 Hr
          clear hB1 eg
          go_wp2_with (first
            | (at_lookup; refine wpList_lookA rfl _ _ 95 109 false rfl HM1.out keyF Hok1.out Tryz.underlying95 _ (zeroFile _) k Hokp.out rfl rfl (.pointer (some ⟨b, 0, none⟩)) (by rw [Hlk1.out]; rfl) ?_)
            | fail)
          have HCl := pClone g (m * 64) 64 sc w1 (by rw [H64.out]; exact HBy.out) (by rw [H64.out]; omega)
          rw [H64.out] at HCl
          refine HCl.mono ?_
          rintro e w2 ⟨v, rfl, ho, hG⟩
          have HO := Lib.hid (Own.mono ho HT.out.but.size)
          have HG := Lib.hid hG
          clear ho hG HCl
          go_wp2
          go_ret2
          exact ⟨v, by rw [Hr.out]; rfl, by rw [Hr.out]; exact HO.out, HP.out.grows HG.out, Hs2.out, HT.out.trans (TurnP.ofGrows HG.out)⟩
  · have Hr : Hid ((readP x.s nm n).1 = ([], (beginP x.s).1)) := by show _ = _; unfold readP; rw [if_pos hf]
    have hr : bwR x nm = .tuple #[.int .i64 0, .int .i64 (beginP x.s).1] := by unfold bwR; rw [if_neg hf]
    rw [hr] at HB
    obtain ⟨fc, Hfc⟩ : ∃ y, Hid ((beginP x.s).1 = y) := ⟨_, rfl⟩
    rw [Hfc.out] at HB hf Hr
    have hne : (fc == 0) = false := by simpa using hf
    clear h hn hf hr hnI
    go_enter Tryz.func77, Tryz.ntmps77
    go_wp2_with fail
    refine HB.out.mono ?_
    rintro e w1 ⟨rfl, hP, hT⟩
    have HP := Lib.hid hP
    have HT := Lib.hid hT
    clear hP hT
    go_wp2
    go_ret2
    exact ⟨_, by rw [Hr.out]; rfl, by rw [Hr.out]; exact Own.nil _ _ _, HP.out, Hs2.out, HT.out⟩
end Go.Proofs.YtoppcpiheaedlaaGreatDoor
