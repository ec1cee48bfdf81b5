/-
  An append onto an empty literal: what came in, copied.
-/
import Derived.Test.YtoppcpiheaedlaaGreatDoorDd
namespace Go.Proofs.YtoppcpiheaedlaaGreatDoor
open Go.RowKit Go.Maps
set_option linter.unusedVariables false
set_option linter.unusedSimpArgs false

theorem run_app_lit {P : Program} (B : Nat) (w : World) (t ty e : TypeId) (i : TypeInfo) (z : Value) (ht : P.underlying t = some (.slice e)) (hi : P.info? e = some i) (hz : i.zero = some z)
    (hs : i.size = 1) (hzs : z.cells.size = 1) (hb : i.bytes ≤ 8) (hB : B ≤ w.heap.size) (g : Nat) (hown : w.ownsRow B e 1 (.slice (some ⟨g, 0, none⟩) 0 0) 0 [])
    (a : Option Addr) (c : Nat) (news : List Value) (hn : ∀ x, a = some x → ∀ j u, news[j]? = some u → w.cell? (x.add j) = some u) (h0 : a = none → news = []) (hm : news.length ≤ 1000000) :
    ∃ v' w', (Builtin.append_ #[t, t] ty #[.slice (some ⟨g, 0, none⟩) 0 0, .slice a news.length c]).run P w = .ok v' w' ∧ w'.ownsRow B e 1 v' news.length news ∧ Grows w w' := by
  by_cases hm0 : news = []
  · subst hm0
    refine ⟨.slice (some ⟨g, 0, none⟩) 0 0, w, ?_, hown, Below.refl _ _⟩
    have hf : ∀ w : World, (Builtin.firstCells i.size 0 (Value.slice a 0 c)).run P w = .ok #[] w := fun w => by
      cases a with
      | none => exact run_firstCells_none w i.size 0 0 c
      | some x => exact run_firstCells_some w i.size 0 x 0 c [] (by simp) (by simp)
    simp [Builtin.append_, run_underlying ht, sizeOf, typeInfo, hi, Builtin.lenOf, hf, storeCells]
  · cases a with
    | none => exact absurd (h0 rfl) hm0
    | some x =>
      have hpos : 0 < news.length := List.length_pos_iff.2 hm0
      have hr := run_append_grow (P := P) w t ty e i z ht hi hz ⟨g, 0, none⟩ 0 0 [] (by simp) (by simp) x news.length c news (by rw [hs, Nat.mul_one]) (hn x rfl) (by omega) (by omega)
        (growslice_fits (by omega) (by have : (0 + news.length) * i.bytes ≤ 1000000 * 8 := Nat.mul_le_mul (by omega) hb; omega))
      simp only [Nat.zero_add] at hr
      have hge := grownCap_ge w news.length 0 e
      have hle := grownCap_le_maxLen w news.length 0 e (by unfold maxLen; omega)
      refine ⟨_, _, hr, ⟨by simp, .inr ⟨w.heap.size, _, _, rfl, hB, heap_alloc_new w.drew _, hge, hle, ?_, ?_⟩⟩, (Below.refl _ _).drew.alloc (Nat.le_refl _) _⟩
      · simp only [Array.size_append, List.size_toArray, size_zeroCells, hzs, List.length_nil, Nat.zero_add]
        omega
      · simp only [Array.toList_append, List.nil_append]
        rw [Nat.mul_one]
        exact List.take_left
theorem infoU8 : (Tryz.prog.info? 5).map (fun i => (i.zero, i.size, i.bytes)) = some (some (.int .u8 0), 1, 1) := by kernel_rfl
theorem infoInt : (Tryz.prog.info? 3).map (fun i => (i.zero, i.size, i.bytes)) = some (some (.int .i64 0), 1, 8) := by kernel_rfl
/-- Bytes that came in, copied. -/
theorem run_copyB (B : Nat) (w : World) (hB : B ≤ w.heap.size) (g : Nat) (hown : w.ownsRow B 5 1 (.slice (some ⟨g, 0, none⟩) 0 0) 0 []) (v : Value) (l : List UInt8) (h : Byt w v l) (hl : l.length ≤ 1000000) :
    ∃ v' w', (Builtin.append_ #[36, 36] 36 #[.slice (some ⟨g, 0, none⟩) 0 0, v]).run Tryz.prog w = .ok v' w' ∧ Own 5 B w' v' l ∧ Grows w w' := by
  obtain ⟨i, h1, h2⟩ := Option.map_eq_some_iff.1 infoU8
  simp only [Prod.mk.injEq] at h2
  obtain ⟨a, cap, rfl, h3, h4, h5, h6⟩ := h
  obtain ⟨v', w', hr, ho, hg⟩ := run_app_lit (P := Tryz.prog) B w 36 36 5 i (.int .u8 0) Tryz.underlying36 h1 h2.1 h2.2.1 rfl (by omega) hB g hown a cap (l.map bv)
    (fun x hx j u hj => by
      rcases h6 with h6 | ⟨b, off, e, hc⟩
      · rw [h6] at hj; simp at hj
      · rw [e] at hx
        obtain rfl := Option.some.inj hx
        have hjl : j < l.length := by have := (List.getElem?_eq_some_iff.1 hj).1; simpa using this
        rw [Addr.add_lit, hc j hjl, ← hj, List.getElem?_map, List.getD, List.getElem?_eq_getElem hjl]
        rfl)
    (fun hn => by
      rcases h6 with h6 | ⟨b, off, e, hc⟩
      · rw [h6]; rfl
      · rw [hn] at e; cases e) (by simpa using hl)
  rw [List.length_map] at hr ho
  exact ⟨v', w', hr, ho, hg⟩
/-- Numbers that came in, copied. -/
theorem run_copyI (B : Nat) (w : World) (hB : B ≤ w.heap.size) (g : Nat) (hown : w.ownsRow B 3 1 (.slice (some ⟨g, 0, none⟩) 0 0) 0 []) (v : Value) (l : List Int) (h : IntS w v l) (hl : l.length ≤ 1000000) :
    ∃ v' w', (Builtin.append_ #[37, 37] 37 #[.slice (some ⟨g, 0, none⟩) 0 0, v]).run Tryz.prog w = .ok v' w' ∧ w'.ownsRow B 3 1 v' l.length (l.map fun z => .int .i64 z) ∧ Grows w w' := by
  obtain ⟨i, h1, h2⟩ := Option.map_eq_some_iff.1 infoInt
  simp only [Prod.mk.injEq] at h2
  obtain ⟨a, cap, rfl, h6⟩ := h
  obtain ⟨v', w', hr, ho, hg⟩ := run_app_lit (P := Tryz.prog) B w 37 37 3 i (.int .i64 0) Tryz.underlying37 h1 h2.1 h2.2.1 rfl (by omega) hB g hown a cap (l.map fun z => .int .i64 z)
    (fun x hx j u hj => by
      rcases h6 with h6 | ⟨b, off, e, hc⟩
      · rw [h6] at hj; simp at hj
      · rw [e] at hx
        obtain rfl := Option.some.inj hx
        have hjl : j < l.length := by have := (List.getElem?_eq_some_iff.1 hj).1; simpa using this
        rw [Addr.add_lit, hc j hjl, ← hj, List.getElem?_map, List.getD, List.getElem?_eq_getElem hjl]
        rfl)
    (fun hn => by
      rcases h6 with h6 | ⟨b, off, e, hc⟩
      · rw [h6]; rfl
      · rw [hn] at e; cases e) (by simpa using hl)
  rw [List.length_map] at hr ho
  exact ⟨v', w', hr, ho, hg⟩
theorem ints_of_own {B : Nat} {w : World} {v : Value} {l : List Int} (h : w.ownsRow B 3 1 v l.length (l.map fun z => .int .i64 z)) : IntS w v l := by
  rcases h.2 with ⟨rfl, h0⟩ | ⟨g, cap, cur, rfl, hb, hg, hnc, hcm, hcs, htake⟩
  · exact ⟨none, 0, by rw [h0], .inl (List.eq_nil_of_length_eq_zero h0)⟩
  · refine ⟨_, cap, rfl, .inr ⟨g, 0, rfl, fun i hi => ?_⟩⟩
    rw [Nat.zero_add]
    refine own_cell h i _ ?_
    rw [List.getElem?_map, List.getD, List.getElem?_eq_getElem hi]
    rfl
end Go.Proofs.YtoppcpiheaedlaaGreatDoor
