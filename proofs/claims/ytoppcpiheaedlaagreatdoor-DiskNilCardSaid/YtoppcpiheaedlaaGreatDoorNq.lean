/-
  A deed that comes in: its parts.
-/
import Derived.Test.YtoppcpiheaedlaaGreatDoorNp
import Derived.ChangeSlices
import Derived.WideShapes
import Derived.ChangeArms
namespace Go.Proofs.YtoppcpiheaedlaaGreatDoor
open Go.ChangeShapes Go.WideShapes Go.ChangeAt Go.RowKit
set_option linter.unusedVariables false
set_option linter.unusedSimpArgs false

theorem i64_ranged {a : Int} (h : (Lit.int .i64 a).wf = true) : -9223372036854775808 ≤ a ∧ a ≤ 9223372036854775807 := by
  simp [Lit.wf, IntKind.min, IntKind.max, IntKind.bits, IntKind.signed] at h
  omega
theorem ints_rowed {w : World} {a : Option Addr} {len cap : Nat} {zs : List Int}
    (h : (a = none ∧ len = 0 ∧ cap = 0 ∧ zs = []) ∨
      ∃ x, a = some x ∧ len ≤ cap ∧ cap ≤ maxLen ∧ zs.length = cap ∧ (∀ i, i < zs.length → w.cell? (x.add i) = some (.int .i64 (zs.getD i 0))) ∧ ∀ n ∈ zs, (Lit.int .i64 n).wf = true) :
    ∃ l : List Int, len = l.length ∧ IntS w (.slice a len cap) l ∧ (∀ z ∈ l, -9223372036854775808 ≤ z ∧ z ≤ 9223372036854775807) ∧ l.length ≤ 9223372036854775807 := by
  rcases h with ⟨rfl, rfl, rfl, rfl⟩ | ⟨x, rfl, h1, h2, h3, h4, h5⟩
  · exact ⟨[], rfl, ⟨none, 0, rfl, .inl rfl⟩, by simp, by simp⟩
  · have hl : (zs.take len).length = len := by simp; omega
    refine ⟨zs.take len, hl.symm, ⟨some x, cap, by rw [hl], ?_⟩, fun z hz => i64_ranged (h5 z (List.mem_of_mem_take hz)), by rw [hl]; unfold maxLen at h2; omega⟩
    by_cases h0 : len = 0
    · left; subst h0; simp
    · right
      obtain ⟨b, off, spot⟩ := x
      have hc := h4 0 (by omega)
      have hspot : spot = none := by simpa [Addr.add] using World.cell?_spot hc
      subst hspot
      refine ⟨b, off, rfl, fun i hi => ?_⟩
      rw [hl] at hi
      have hci := h4 i (by omega)
      rw [Addr.add_lit] at hci
      rw [hci]
      simp [List.getD, List.getElem?_take, hi]

section
variable {H : Type} {enc : TypeId × Value → H} {w : World}
theorem c1int : Tryz.prog.cellsOf 3 = 1 := by kernel_rfl
theorem c1str : Tryz.prog.cellsOf 9 = 1 := by kernel_rfl
theorem c1row : Tryz.prog.cellsOf 36 = 1 := by kernel_rfl
theorem c1ins : Tryz.prog.cellsOf 37 = 1 := by kernel_rfl
theorem c1u8 : Tryz.prog.cellsOf 5 = 1 := by kernel_rfl
theorem c6deed : Tryz.prog.cellsOf 39 = 6 := by kernel_rfl
theorem int_cell {n : Nat} {c : Value} {y : DataW H × List MemPlace} (h : DataW.trod enc Tryz.prog w 0 (fun _ => true) true n 3 [c] = some y) : ∃ k : Int, c = .int .i64 k ∧ (-9223372036854775808 ≤ k ∧ k ≤ 9223372036854775807) := by
  obtain ⟨k, hc, _, hw⟩ := DataW.trod_int Tryz.underlying3 h
  simp only [List.cons.injEq, and_true] at hc
  exact ⟨k, hc, i64_ranged hw⟩
theorem str_cell {n : Nat} {c : Value} {y : DataW H × List MemPlace} (h : DataW.trod enc Tryz.prog w 0 (fun _ => true) true n 9 [c] = some y) : ∃ s : Nm, c = sv s ∧ okS s := by
  obtain ⟨s, hc, _, hw⟩ := DataW.trod_string Tryz.underlying9 h
  simp only [List.cons.injEq, and_true] at hc
  refine ⟨s.data.toList, by rw [hc]; rfl, ?_⟩
  show s.data.toList.length ≤ maxLen
  rw [Array.length_toList]
  exact hw
theorem row_cell {n : Nat} {c : Value} {y : DataW H × List MemPlace} (h : DataW.trod enc Tryz.prog w 0 (fun _ => true) true n 36 [c] = some y) : ∃ l : List UInt8, Byt w c l := by
  rcases open_ints Tryz.underlying36 Tryz.underlying5 c1u8 h with ⟨hc, _⟩ | ⟨x, l, cp, zs, hc, _, hl, hm, hz, _, hcell, hwz⟩
  · simp only [List.cons.injEq, and_true] at hc
    obtain ⟨l, e, hb⟩ := byt_of_row (w := w) (a := none) (len := 0) (cap := 0) (zs := []) (.inl ⟨rfl, rfl, rfl, rfl⟩)
    exact ⟨l, by rw [hc]; exact hb⟩
  · simp only [List.cons.injEq, and_true] at hc
    obtain ⟨l', e, hb⟩ := byt_of_row (w := w) (a := some x) (len := l) (cap := cp) (zs := zs) (.inr ⟨_, rfl, hl, hm, by simpa using hz, hcell, hwz⟩)
    exact ⟨l', by rw [hc]; exact hb⟩
theorem ins_cell {n : Nat} {c : Value} {y : DataW H × List MemPlace} (h : DataW.trod enc Tryz.prog w 0 (fun _ => true) true n 37 [c] = some y) : ∃ l : List Int, IntS w c l ∧ (∀ z ∈ l, -9223372036854775808 ≤ z ∧ z ≤ 9223372036854775807) ∧ l.length ≤ 9223372036854775807 := by
  rcases open_ints Tryz.underlying37 Tryz.underlying3 c1int h with ⟨hc, _⟩ | ⟨x, l, cp, zs, hc, _, hl, hm, hz, _, hcell, hwz⟩
  · simp only [List.cons.injEq, and_true] at hc
    obtain ⟨l, e, hb⟩ := ints_rowed (w := w) (a := none) (len := 0) (cap := 0) (zs := []) (.inl ⟨rfl, rfl, rfl, rfl⟩)
    exact ⟨l, by rw [hc]; exact hb⟩
  · simp only [List.cons.injEq, and_true] at hc
    obtain ⟨l', e, hb⟩ := ints_rowed (w := w) (a := some x) (len := l) (cap := cp) (zs := zs) (.inr ⟨_, rfl, hl, hm, by simpa using hz, hcell, hwz⟩)
    exact ⟨l', by rw [hc]; exact hb⟩
set_option maxRecDepth 100000 in
/-- The six cells of a deed. -/
theorem deed_cells {n : Nat} {cs : List Value} {y : DataW H × List MemPlace} (h : DataW.trod enc Tryz.prog w 0 (fun _ => true) true n 39 cs = some y) : ∃ x : Dd, cs = x.cs ∧ DdOk w x := by
  obtain ⟨xs, m, _, _, hlen, hxl, hg⟩ := DataW.trod_struct Tryz.underlying39 h
  rw [c6deed] at hlen
  have hxl : xs.length = 6 := hxl
  match cs, hlen, xs, hxl with
  | [v0, v1, v2, v3, v4, v5], _, [y0, y1, y2, y3, y4, y5], _ =>
    have t0 := hg 0 _ rfl
    have t1 := hg 1 _ rfl
    have t2 := hg 2 _ rfl
    have t3 := hg 3 _ rfl
    have t4 := hg 4 _ rfl
    have t5 := hg 5 _ rfl
    simp only [c1int, c1str, c1row, c1ins, List.drop, List.take, List.getElem?_cons_zero, List.getElem?_cons_succ] at t0 t1 t2 t3 t4 t5
    obtain ⟨kd, rfl, h0⟩ := int_cell t0
    obtain ⟨a, rfl, h1⟩ := str_cell t1
    obtain ⟨b, rfl, h2⟩ := str_cell t2
    obtain ⟨k, rfl, h3⟩ := int_cell t3
    obtain ⟨p, h4⟩ := row_cell t4
    obtain ⟨q, h5, h6, h7⟩ := ins_cell t5
    exact ⟨⟨kd, a, b, k, v4, p, v5, q⟩, rfl, h0, h1, h2, h3, h4, h5, h6, h7⟩
set_option maxRecDepth 100000 in
theorem deed_open {b0 : Nat} {v : Value} {d : DataW H} {p : List MemPlace} (hv : Value.okWide Tryz.prog w .any b0 39 v) (h : DataW.Trod enc Tryz.prog w 0 (fun _ => true) true 39 v d p) : ∃ x : Dd, v = x.v ∧ DdOk w x := by
  obtain ⟨cs, rfl, hsz⟩ := okWide_struct Tryz.underlying39 hv
  obtain ⟨fuel, hf⟩ := h
  obtain ⟨x, hx, hok⟩ := deed_cells hf
  refine ⟨x, ?_, hok⟩
  have : cs.toList = x.cs := hx
  unfold Dd.v
  congr 1
  exact Array.toList_inj.1 (by rw [this]; rfl)
end
end Go.Proofs.YtoppcpiheaedlaaGreatDoor
