/-
  The program's disk: which places stand in a list.
-/
import Derived.Test.YtoppcpiheaedlaaGreatDoorPp
import Derived.Laws.MakeOwn
namespace Go.Proofs.YtoppcpiheaedlaaGreatDoor
open Go.RowKit Go.Maps Go.MapKept
set_option linter.unusedVariables false
set_option linter.unusedSimpArgs false
attribute [local go_sem] sv nv mv pv

/-- A slice that reads as these numbers. -/
def IntS (W : World) (v : Value) (l : List Int) : Prop :=
  ∃ a cap, v = .slice a l.length cap ∧ (l = [] ∨ ∃ b off, a = some ⟨b, off, none⟩ ∧ ∀ i, i < l.length → W.cell? ⟨b, off + i, none⟩ = some (.int .i64 (l.getD i 0)))
theorem IntS.grows {W W' : World} {v : Value} {l : List Int} (h : IntS W v l) (g : Grows W W') : IntS W' v l := by
  obtain ⟨a, cap, e, h4⟩ := h
  refine ⟨a, cap, e, h4.imp id ?_⟩
  rintro ⟨b, off, e, hc⟩
  exact ⟨b, off, e, fun i hi => Grows.cell' g (hc i hi)⟩
theorem IntS.but {O : Nat → Prop} {W W' : World} {v : Value} {l : List Int} (h : IntS W v l) (g : But O W W') (ho : Outside O v) : IntS W' v l := by
  obtain ⟨a, cap, rfl, h4⟩ := h
  refine ⟨a, cap, rfl, h4.imp id ?_⟩
  rintro ⟨b, off, rfl, hc⟩
  by_cases h0 : l.length = 0
  · exact ⟨b, off, rfl, fun i hi => by omega⟩
  · exact ⟨b, off, rfl, fun i hi => g.cell (ho b off none _ _ rfl h0) (hc i hi)⟩
def marksF (keep : List Int) (n : Nat) : List Bool := (List.range n).map fun (i : Nat) => decide ((i : Int) ∈ keep)
theorem marksF_len (keep : List Int) (n : Nat) : (marksF keep n).length = n := by simp [marksF]
theorem marksF_get (keep : List Int) (n i : Nat) (h : i < n) : (marksF keep n)[i]? = some (decide ((i : Int) ∈ keep)) := by simp [marksF, h]
theorem marksF_nil (n : Nat) : marksF [] n = List.replicate n false := by
  apply List.ext_getElem?
  intro i
  by_cases h : i < n
  · rw [marksF_get _ _ _ h, List.getElem?_replicate, if_pos h]; simp
  · rw [List.getElem?_eq_none (by rw [marksF_len]; omega), List.getElem?_replicate, if_neg h]
theorem marksF_in (keep : List Int) (n : Nat) (m : Nat) (hm : m < n) : marksF (keep ++ [(m : Int)]) n = (marksF keep n).set m true := by
  apply List.ext_getElem?
  intro i
  by_cases h : i < n
  · rw [marksF_get _ _ _ h, List.getElem?_set, marksF_len, marksF_get _ _ _ h]
    by_cases he : m = i
    · subst he; simp [hm]
    · rw [if_neg he]
      have : ¬ (i : Int) = (m : Int) := by omega
      simp [this]
  · rw [List.getElem?_eq_none (by rw [marksF_len]; omega), List.getElem?_eq_none (by rw [List.length_set, marksF_len]; omega)]
theorem marksF_out (keep : List Int) (n : Nat) (z : Int) (hz : z < 0 ∨ (n : Int) ≤ z) : marksF (keep ++ [z]) n = marksF keep n := by
  apply List.ext_getElem?
  intro i
  by_cases h : i < n
  · rw [marksF_get _ _ _ h, marksF_get _ _ _ h]
    have : ¬ (i : Int) = z := by omega
    simp [this]
  · rw [List.getElem?_eq_none (by rw [marksF_len]; omega), List.getElem?_eq_none (by rw [marksF_len]; omega)]
theorem infoBool : (Tryz.prog.info? 4).map (fun i => (i.zero, i.size, i.bytes)) = some (some (.bool false), 1, 1) := by kernel_rfl
theorem infoBool_parts : ∃ i, Tryz.prog.info? 4 = some i ∧ i.zero = some (.bool false) ∧ i.size = 1 ∧ i.bytes = 1 := by
  obtain ⟨i, h1, h2⟩ := Option.map_eq_some_iff.1 infoBool
  simp only [Prod.mk.injEq] at h2
  exact ⟨i, h1, h2.1, h2.2.1, h2.2.2⟩
theorem made_bool (n : Nat) : (madeCells (Value.cells (.bool false)) (n * 1)).toList = (List.replicate n false).map Value.bool := by
  apply List.ext_getElem
  · simp [madeCells]
  · intro i h1 h2
    simp [madeCells, Value.cells, Nat.mod_one]

set_option maxRecDepth 100000 in
set_option maxHeartbeats 1000000 in
theorem pMarked (n : Nat) (v : Value) (keep : List Int) (w : World) (hn : n ≤ 1000000) (hv : IntS w v keep) (hk : keep.length ≤ 1000000000) (hr : ∀ z ∈ keep, -9223372036854775808 ≤ z ∧ z ≤ 9223372036854775807) :
    Calls Tryz.prog 70 #[.int .i64 (n : Int), v] w fun e w' => ∃ g, e = .returned (.slice (some ⟨g, 0, none⟩) n n) ∧ w.heap.size ≤ g ∧ w'.ownsRow 0 4 1 (.slice (some ⟨g, 0, none⟩) n n) n ((marksF keep n).map Value.bool) ∧ Grows w w' := by
  obtain ⟨ib, hib, hzb, hsb, hbb⟩ := infoBool_parts
  obtain ⟨a, cap, rfl, hvc⟩ := hv
  have Hvc := Lib.hid hvc
  have Hr := Lib.hid hr
  have hnI : (n : Int) ≤ 1000000 := by omega
  have hkI : (keep.length : Int) ≤ 1000000000 := by omega
  have Hn := Lib.hid hn
  obtain ⟨kl, Hkl⟩ : ∃ k, Hid (keep.length = k) := ⟨_, rfl⟩
  rw [Hkl.out] at hkI ⊢
  clear hn hvc hk hr
  go_enter Tryz.func70, Tryz.ntmps70
  go_wp2_with (first | (at_make; refine wpList_make_full _ rfl _ _ 136 rfl 0 4 ib _ 1 Tryz.underlying136 hib hzb hsb .i64 .i64 _ _ n rfl rfl rfl rfl (by have := Hn.out; rw [hbb]; omega) (by have := Hn.out; unfold maxLen; omega) (by omega) ?_; intro w1 ho1 hg1) | go_in)
  rw [made_bool, ← marksF_nil] at ho1
  obtain ⟨g, Hg⟩ : ∃ g, Hid (w.heap.size = g) := ⟨_, rfl⟩
  rw [Hg.out] at ho1 ⊢
  have HO1 := Lib.hid ho1
  have HG1 : Hid (Grows w w1) := Below.grown (Below.refl _ _) hg1 (Nat.le_refl _) (fun j hj => by cases hj)
  clear ho1 hg1
  try go_frame
  go_loopw [7, 12] (fun _ t12 wr => ∃ j : Nat, j ≤ kl ∧ t12 = .int .i64 j ∧ wr.ownsRow 0 4 1 (.slice (some ⟨g, 0, none⟩) n n) n ((marksF (keep.take j) n).map Value.bool) ∧ Grows w wr)
    (fun _ t12 _ => kl - (intOf t12).toNat)
  case atStart => exact ⟨0, by omega, rfl, HO1.out, HG1.out⟩
  case round =>
    obtain ⟨j, hj, rfl, ho, hG⟩ := hrel
    have HO := Lib.hid ho
    have HG := Lib.hid hG
    clear ho hG
    by_cases hlt : j < kl
    · have hltI : (j : Int) < (kl : Int) := by omega
      have hbi : ¬ ((kl : Int) ≤ (j : Int)) := by omega
      have hjk : j < keep.length := by rw [Hkl.out]; exact hlt
      obtain ⟨z, hz⟩ : ∃ z, keep.getD j 0 = z := ⟨_, rfl⟩
      obtain ⟨b, off, rfl, hcc⟩ : ∃ b off, a = some ⟨b, off, none⟩ ∧ ∀ i, i < keep.length → w.cell? ⟨b, off + i, none⟩ = some (.int .i64 (keep.getD i 0)) := by
        rcases Hvc.out with h | h
        · rw [h] at hjk; simp at hjk
        · exact h
      have hcell := HG.out.cell' (hcc j hjk)
      rw [hz] at hcell
      have hzr := Hr.out z (by rw [← hz]; exact getD_mem _ _ _ hjk)
      have Hsn : Hid (keep.take (j + 1) = keep.take j ++ [z]) := by
        show _ = _
        rw [List.take_succ_eq_append_getElem hjk, ← hz]
        simp [List.getD, hjk]
      have Hlt := Lib.hid hlt
      clear hcc hz hlt hj hjk
      by_cases h0 : 0 ≤ z
      · by_cases h1 : z < (n : Int)
        · obtain ⟨m, rfl⟩ : ∃ m : Nat, z = (m : Int) := ⟨z.toNat, by omega⟩
          have hmn : m < n := by omega
          have cm := HO.out.cellAt (g := g) m (by omega)
          rw [List.getElem?_map, marksF_get _ _ _ hmn, Option.map_some] at cm
          have fm := HO.out.frozenAt (g := g) m
          have hst := (World.ownsRow.stored HO.out m (.bool true)).1
          rw [← List.map_set, ← marksF_in _ _ _ hmn, ← Hsn.out] at hst
          have HS := Lib.hid hst
          have HG2 : Hid (Grows w (wr.setCell ⟨g, m, none⟩ (.bool true))) := Below.setCell HG.out (by show w.heap.size ≤ g; rw [Hg.out]; exact Nat.le_refl _) _
          have hnb : ¬ ((n : Int) ≤ (m : Int)) := by omega
          clear hst
          go_wp2
          go_roundw
          case rel => exact ⟨j + 1, Hlt.out, by simp, HS.out, HG2.out⟩
          case measure => have := Hlt.out; simp [intOf]; omega
        · have HS := HO.out
          rw [← marksF_out _ _ z (.inr (by omega)), ← Hsn.out] at HS
          have HS := Lib.hid HS
          go_wp2
          go_roundw
          case rel => exact ⟨j + 1, Hlt.out, by simp, HS.out, HG.out⟩
          case measure => have := Hlt.out; simp [intOf]; omega
      · have HS := HO.out
        rw [← marksF_out _ _ z (.inl (by omega)), ← Hsn.out] at HS
        have HS := Lib.hid HS
        go_wp2
        go_roundw
        case rel => exact ⟨j + 1, Hlt.out, by simp, HS.out, HG.out⟩
        case measure => have := Hlt.out; simp [intOf]; omega
    · have hltI : ¬ (j : Int) < (kl : Int) := by omega
      have HF := HO.out
      rw [List.take_of_length_le (by rw [Hkl.out]; omega)] at HF
      have HF := Lib.hid HF
      go_wp2
      go_ret
      exact ⟨g, rfl, by rw [Hg.out]; exact Nat.le_refl _, HF.out, HG.out⟩
end Go.Proofs.YtoppcpiheaedlaaGreatDoor
