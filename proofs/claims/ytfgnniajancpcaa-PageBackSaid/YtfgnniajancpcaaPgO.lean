/-
  What comes in: a page, bytes, numbers.
-/
import Derived.Test.YtfgnniajancpcaaPgL
import Derived.ChangeSlices
import Derived.WideShapes
import Derived.ChangeArms
namespace Go.Proofs.Ytfgnniajancpcaa
open Go.ChangeShapes Go.WideShapes Go.ChangeAt Go.RowKit
set_option linter.unusedVariables false
set_option linter.unusedSimpArgs false

section
variable {H : Type} {enc : TypeId × Value → H} {w : World}
theorem c1int : Try.prog.cellsOf 3 = 1 := by kernel_rfl
theorem c1u64 : Try.prog.cellsOf 22 = 1 := by kernel_rfl
theorem c1row : Try.prog.cellsOf 23 = 1 := by kernel_rfl
theorem c1u8 : Try.prog.cellsOf 5 = 1 := by kernel_rfl
theorem c3page : Try.prog.cellsOf 25 = 3 := by kernel_rfl
theorem int_cell {n : Nat} {c : Value} {y : DataW H × List MemPlace} (h : DataW.trod enc Try.prog w 0 (fun _ => true) true n 3 [c] = some y) : ∃ k : Int, c = .int .i64 k ∧ (-9223372036854775808 ≤ k ∧ k ≤ 9223372036854775807) := by
  obtain ⟨k, hc, _, hw⟩ := DataW.trod_int Try.underlying3 h
  simp only [List.cons.injEq, and_true] at hc
  exact ⟨k, hc, range_of_i64 hw⟩
theorem u64_cell {n : Nat} {c : Value} {y : DataW H × List MemPlace} (h : DataW.trod enc Try.prog w 0 (fun _ => true) true n 22 [c] = some y) : ∃ k : Nat, c = .int .u64 (k : Int) ∧ k < 18446744073709551616 := by
  obtain ⟨k, hc, _, hw⟩ := DataW.trod_int Try.underlying22 h
  simp only [List.cons.injEq, and_true] at hc
  obtain ⟨m, rfl, hm⟩ := nat_of_u64 hw
  exact ⟨m, hc, hm⟩
theorem u8_cell {n : Nat} {c : Value} {y : DataW H × List MemPlace} (h : DataW.trod enc Try.prog w 0 (fun _ => true) true n 5 [c] = some y) : ∃ x : UInt8, c = .int .u8 (x.toNat : Int) := by
  obtain ⟨k, hc, _, hw⟩ := DataW.trod_int Try.underlying5 h
  simp only [List.cons.injEq, and_true] at hc
  obtain ⟨m, rfl⟩ := byte_of_u8 hw
  exact ⟨m, hc⟩
theorem row_cell {n : Nat} {c : Value} {y : DataW H × List MemPlace} (h : DataW.trod enc Try.prog w 0 (fun _ => true) true n 23 [c] = some y) : ∃ l : List UInt8, Byt w c l := by
  rcases open_ints Try.underlying23 Try.underlying5 c1u8 h with ⟨hc, _⟩ | ⟨x, l, cp, zs, hc, _, hl, hm, hz, _, hcell, hwz⟩
  · simp only [List.cons.injEq, and_true] at hc
    obtain ⟨l, e, hb⟩ := byt_of_row (w := w) (a := none) (len := 0) (cap := 0) (zs := []) (.inl ⟨rfl, rfl, rfl, rfl⟩)
    exact ⟨l, by rw [hc]; exact hb⟩
  · simp only [List.cons.injEq, and_true] at hc
    obtain ⟨l', e, hb⟩ := byt_of_row (w := w) (a := some x) (len := l) (cap := cp) (zs := zs) (.inr ⟨_, rfl, hl, hm, by simpa using hz, hcell, hwz⟩)
    exact ⟨l', by rw [hc]; exact hb⟩
theorem int_open {b0 : Nat} {v : Value} {d : DataW H} {p : List MemPlace} (hv : Value.okWide Try.prog w .any b0 3 v) (h : DataW.Trod enc Try.prog w 0 (fun _ => true) true 3 v d p) : ∃ k : Int, v = .int .i64 k ∧ (-9223372036854775808 ≤ k ∧ k ≤ 9223372036854775807) := by
  obtain ⟨k, rfl, _, _, hw⟩ := open_int Try.underlying3 hv h
  exact ⟨k, rfl, range_of_i64 hw⟩
theorem u8_open {b0 : Nat} {v : Value} {d : DataW H} {p : List MemPlace} (hv : Value.okWide Try.prog w .any b0 5 v) (h : DataW.Trod enc Try.prog w 0 (fun _ => true) true 5 v d p) : ∃ x : UInt8, v = .int .u8 (x.toNat : Int) := by
  obtain ⟨k, rfl, _, _, hw⟩ := open_int Try.underlying5 hv h
  obtain ⟨x, rfl⟩ := byte_of_u8 hw
  exact ⟨x, rfl⟩
theorem row_open {b0 : Nat} {v : Value} {d : DataW H} {p : List MemPlace} (hv : Value.okWide Try.prog w .any b0 23 v) (h : DataW.Trod enc Try.prog w 0 (fun _ => true) true 23 v d p) : ∃ l : List UInt8, Byt w v l := by
  obtain ⟨a, ln, cp, rfl⟩ := okWide_slice Try.underlying23 hv
  obtain ⟨fuel, hf⟩ := h
  exact row_cell hf
set_option maxRecDepth 100000 in
theorem page_open {b0 : Nat} {v : Value} {d : DataW H} {p : List MemPlace} (hv : Value.okWide Try.prog w .any b0 25 v) (h : DataW.Trod enc Try.prog w 0 (fun _ => true) true 25 v d p) :
    ∃ (k : Int) (n : Nat) (u : Value) (l : List UInt8), v = pgv k n u ∧ (-9223372036854775808 ≤ k ∧ k ≤ 9223372036854775807) ∧ n < 18446744073709551616 ∧ Byt w u l := by
  obtain ⟨cs, rfl, hsz⟩ := okWide_struct Try.underlying25 hv
  obtain ⟨fuel, hf⟩ := h
  obtain ⟨xs, m, _, _, hlen, hxl, hg⟩ := DataW.trod_struct Try.underlying25 hf
  rw [c3page] at hlen
  have hxl : xs.length = 3 := hxl
  have hcs : cs.toList.length = 3 := hlen
  obtain ⟨cl, hcl⟩ : ∃ cl, cs.toList = cl := ⟨_, rfl⟩
  rw [show Value.cells (.agg cs) = cs from rfl] at hg
  rw [hcl] at hg hcs
  match cl, hcs, xs, hxl with
  | [v0, v1, v2], _, [y0, y1, y2], _ =>
    have t0 := hg 0 _ rfl
    have t1 := hg 1 _ rfl
    have t2 := hg 2 _ rfl
    simp only [c1int, c1u64, c1row, List.drop, List.take, List.getElem?_cons_zero, List.getElem?_cons_succ] at t0 t1 t2
    obtain ⟨k, rfl, h0⟩ := int_cell t0
    obtain ⟨n, rfl, h1⟩ := u64_cell t1
    obtain ⟨l, h2⟩ := row_cell t2
    refine ⟨k, n, v2, l, ?_, h0, h1, h2⟩
    unfold pgv
    congr 1
    exact Array.toList_inj.1 (by rw [hcl])
end
end Go.Proofs.Ytfgnniajancpcaa
