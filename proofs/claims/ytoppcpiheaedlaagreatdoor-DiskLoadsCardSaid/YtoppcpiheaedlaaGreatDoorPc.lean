/-
  The program's disk: what calls with a name ask first; a directory's copy; the next directory; a new file.
-/
import Derived.Test.YtoppcpiheaedlaaGreatDoorPb
import Derived.Shelf.SlMaps.Clone
namespace Go.Proofs.YtoppcpiheaedlaaGreatDoor
open Go.RowKit Go.Maps Go.MapKept
set_option linter.unusedVariables false
set_option linter.unusedSimpArgs false
attribute [local go_sem] sv nv mv pv

theorem guardP_no {s : Ps} {k : Ps → Int × Ps} (h : (beginP s).1 ≠ 0) : guardP s k = beginP s := if_pos h
theorem guardP_yes {s : Ps} {k : Ps → Int × Ps} (h : (beginP s).1 = 0) : guardP s k = k (beginP s).2 := if_neg (by simpa using h)
/-- What is answered to a call that asks for a name's file first. -/
def bwR (x : Px) (nm : Nm) : Value := if (beginP x.s).1 = 0 then findR (nowX x).2 nm else .tuple #[.int .i64 0, .int .i64 (beginP x.s).1]
set_option maxRecDepth 100000 in
theorem pBeginWith {w : World} {q : Nat} {x : Px} (h : PD w q x) (nm : Nm) (hn : okS nm) :
    Calls Tryz.prog 102 #[.pointer (some ⟨q, 0, none⟩), sv nm] w fun e w' => e = .returned (bwR x nm) ∧ PD w' q (beginX x) ∧ TurnP q x (beginX x) w w' := by
  have HB := Lib.hid (pBegin h)
  obtain ⟨fc, hfc⟩ : ∃ y, (beginP x.s).1 = y := ⟨_, rfl⟩
  rw [hfc] at HB
  unfold sv
  by_cases hf : fc = 0
  · have Hr : Hid (bwR x nm = findR (nowX x).2 nm) := by show _ = _; unfold bwR; rw [if_pos (by rw [hfc, hf])]
    clear h hfc
    subst hf
    go_enter Tryz.func102, Tryz.ntmps102
    go_wp2_with fail
    refine HB.out.mono ?_
    rintro e w1 ⟨rfl, hP, hT⟩
    have HP := Lib.hid hP
    have HT := Lib.hid hT
    have HF := Lib.hid (pFind hP nm hn)
    rw [show (nowX (beginX x)).2 = (nowX x).2 from rfl] at HF
    unfold sv at HF
    cases hd : findA (nowX x).2 nm with
    | none =>
      have hr : findR (nowX x).2 nm = .tuple #[.int .i64 0, .int .i64 7] := by unfold findR; rw [hd]
      rw [hr] at HF Hr
      clear hP hT hr hd
      go_wp2_with fail
      refine HF.out.mono ?_
      rintro e w2 ⟨rfl, hG⟩
      have HG := Lib.hid hG
      clear hG
      go_wp2
      go_ret2
      exact ⟨by rw [Hr.out]; rfl, HP.out.grows HG.out, HT.out.trans (TurnP.ofGrows HG.out)⟩
    | some n =>
      have hr : findR (nowX x).2 nm = .tuple #[nv n, .int .i64 0] := by unfold findR; rw [hd]
      rw [hr] at HF Hr
      clear hP hT hr hd
      go_wp2_with fail
      refine HF.out.mono ?_
      rintro e w2 ⟨rfl, hG⟩
      have HG := Lib.hid hG
      clear hG
      go_wp2
      go_ret2
      exact ⟨by rw [Hr.out]; rfl, HP.out.grows HG.out, HT.out.trans (TurnP.ofGrows HG.out)⟩
  · have Hr : Hid (bwR x nm = .tuple #[.int .i64 0, .int .i64 fc]) := by show _ = _; unfold bwR; rw [if_neg (by rw [hfc]; exact hf), hfc]
    have hne : (fc == 0) = false := by simpa using hf
    clear h hfc hf
    go_enter Tryz.func102, Tryz.ntmps102
    go_wp2_with fail
    refine HB.out.mono ?_
    rintro e w1 ⟨rfl, hP, hT⟩
    have HP := Lib.hid hP
    have HT := Lib.hid hT
    clear hP hT
    go_wp2
    go_ret2
    exact ⟨by rw [Hr.out]; rfl, HP.out, HT.out⟩

set_option maxRecDepth 100000 in
set_option maxHeartbeats 1000000 in
theorem pMapClone (b : Nat) (l : Dir) (w : World) (h : MapA sv nv w b l) :
    Calls Tryz.prog 116 #[.map (some b)] w fun e w' => e = .returned (.map (some w.heap.size)) ∧ MapA sv nv w' w.heap.size l ∧ Grows w w' ∧ w'.heap.size = w.heap.size + 1 := by
  obtain ⟨es, clock, hb, hc⟩ := h.cloned
  have hq := fun w => run_eql_map_nil_sl (P := Tryz.prog) w 103 _ _ (some b) Tryz.underlying103
  clear h
  have HC := Lib.hid hc
  clear hc
  go_enter Tryz.func116, Tryz.ntmps116
  go_wp2
  rw [run_callFunc_extern Tryz.func133 (by kernel_rfl) (by kernel_rfl) (by kernel_rfl) (e := Extern.MapsClone.clone) (by kernel_rfl), run_maps_clone_sl w 103 hb]
  simp only [Result.andThen]
  rw [Oper.upon_value]
  go_wp2
  rw [run_typeAssert_map_sl _ 103 20 _ _ _ Tryz.underlying103]
  simp only [Result.andThen]
  rw [Oper.upon_value]
  go_wp2
  go_ret
  exact ⟨rfl, HC.out, Grows.alloc' _ _, by simp⟩
end Go.Proofs.YtoppcpiheaedlaaGreatDoor
