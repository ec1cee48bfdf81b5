/-
  What comes in: deeds; small.
-/
import Derived.Test.YtpodbhimkbadhaaSlN
import Derived.ChangeSlices
import Derived.WideShapes
import Derived.ChangeArms
namespace Go.Proofs.Ytpodbhimkbadhaa
open Go.ChangeShapes Go.WideShapes Go.ChangeAt Go.RowKit
set_option linter.unusedVariables false
set_option linter.unusedSimpArgs false

structure De where
  k : Int
  i : Int
  pv : Value
  p : List UInt8
def De.cs (x : De) : List Value := [.int .i64 x.k, .int .i64 x.i, x.pv]
def De.v (x : De) : Value := .agg #[.int .i64 x.k, .int .i64 x.i, x.pv]
structure DeOk (w : World) (x : De) : Prop where
  k : -9223372036854775808 ≤ x.k ∧ x.k ≤ 9223372036854775807
  i : -9223372036854775808 ≤ x.i ∧ x.i ≤ 9223372036854775807
  p : Byt w x.pv x.p
theorem DeOk.grows {w w' : World} {x : De} (h : DeOk w x) (g : Grows w w') : DeOk w' x := ⟨h.k, h.i, h.p.grows g⟩
def deZ : De := ⟨0, 0, .slice none 0 0, []⟩
def dx (l : List De) (k : Nat) : De := l.getD k deZ
/-- A slice value that reads as these deeds. -/
structure DeS (w : World) (v : Value) (l : List De) : Prop where
  form : ∃ a cap, v = .slice a l.length cap ∧ l.length ≤ maxLen ∧ (l = [] ∨ ∃ b off, a = some ⟨b, off, none⟩ ∧ ∀ k, k < l.length → (w.cell? ⟨b, off + k * 3, none⟩ = some (.int .i64 (dx l k).k) ∧ w.cell? ⟨b, off + k * 3 + 1, none⟩ = some (.int .i64 (dx l k).i) ∧ w.cell? ⟨b, off + k * 3 + 2, none⟩ = some (dx l k).pv))
  ok : ∀ k, DeOk w (dx l k)

section
variable {H : Type} {enc : TypeId × Value → H} {w : World}
theorem c1int : Try.prog.cellsOf 3 = 1 := by kernel_rfl
theorem c1row : Try.prog.cellsOf 30 = 1 := by kernel_rfl
theorem c1u8 : Try.prog.cellsOf 5 = 1 := by kernel_rfl
theorem c3deed : Try.prog.cellsOf 32 = 3 := by kernel_rfl
theorem int_cell {n : Nat} {c : Value} {y : DataW H × List MemPlace} (h : DataW.trod enc Try.prog w 0 (fun _ => true) true n 3 [c] = some y) : ∃ k : Int, c = .int .i64 k ∧ (-9223372036854775808 ≤ k ∧ k ≤ 9223372036854775807) := by
  obtain ⟨k, hc, _, hw⟩ := DataW.trod_int Try.underlying3 h
  simp only [List.cons.injEq, and_true] at hc
  exact ⟨k, hc, range_of_i64 hw⟩
theorem row_cell {n : Nat} {c : Value} {y : DataW H × List MemPlace} (h : DataW.trod enc Try.prog w 0 (fun _ => true) true n 30 [c] = some y) : ∃ l : List UInt8, Byt w c l := by
  rcases open_ints Try.underlying30 Try.underlying5 c1u8 h with ⟨hc, _⟩ | ⟨x, l, cp, zs, hc, _, hl, hm, hz, _, hcell, hwz⟩
  · simp only [List.cons.injEq, and_true] at hc
    obtain ⟨l, e, hb⟩ := byt_of_row (w := w) (a := none) (len := 0) (cap := 0) (zs := []) (.inl ⟨rfl, rfl, rfl, rfl⟩)
    exact ⟨l, by rw [hc]; exact hb⟩
  · simp only [List.cons.injEq, and_true] at hc
    obtain ⟨l', e, hb⟩ := byt_of_row (w := w) (a := some x) (len := l) (cap := cp) (zs := zs) (.inr ⟨_, rfl, hl, hm, by simpa using hz, hcell, hwz⟩)
    exact ⟨l', by rw [hc]; exact hb⟩
set_option maxRecDepth 100000 in
theorem deed_cells {n : Nat} {cs : List Value} {y : DataW H × List MemPlace} (h : DataW.trod enc Try.prog w 0 (fun _ => true) true n 32 cs = some y) : ∃ x : De, cs = x.cs ∧ DeOk w x := by
  obtain ⟨xs, m, _, _, hlen, hxl, hg⟩ := DataW.trod_struct Try.underlying32 h
  rw [c3deed] at hlen
  have hxl : xs.length = 3 := hxl
  match cs, hlen, xs, hxl with
  | [v0, v1, v2], _, [y0, y1, y2], _ =>
    have t0 := hg 0 _ rfl
    have t1 := hg 1 _ rfl
    have t2 := hg 2 _ rfl
    simp only [c1int, c1row, List.drop, List.take, List.getElem?_cons_zero, List.getElem?_cons_succ] at t0 t1 t2
    obtain ⟨k, rfl, h0⟩ := int_cell t0
    obtain ⟨i, rfl, h1⟩ := int_cell t1
    obtain ⟨p, h2⟩ := row_cell t2
    exact ⟨⟨k, i, v2, p⟩, rfl, h0, h1, h2⟩
theorem deed_open {b0 : Nat} {v : Value} {d : DataW H} {p : List MemPlace} (hv : Value.okWide Try.prog w .any b0 32 v) (h : DataW.Trod enc Try.prog w 0 (fun _ => true) true 32 v d p) : ∃ x : De, v = x.v ∧ DeOk w x := by
  obtain ⟨cs, rfl, hsz⟩ := okWide_struct Try.underlying32 hv
  obtain ⟨fuel, hf⟩ := h
  obtain ⟨x, hx, hok⟩ := deed_cells hf
  refine ⟨x, ?_, hok⟩
  have : cs.toList = x.cs := hx
  unfold De.v
  congr 1
  exact Array.toList_inj.1 (by rw [this]; rfl)
theorem choose_lt' {α : Type} {n : Nat} {R : Nat → α → Prop} (d : α) (h : ∀ r, r < n → ∃ y, R r y) : ∃ f : Nat → α, ∀ r, r < n → R r (f r) := by
  induction n with
  | zero => exact ⟨fun _ => d, fun r hr => by omega⟩
  | succ n ih =>
    obtain ⟨f, hf⟩ := ih fun r hr => h r (by omega)
    obtain ⟨y, hy⟩ := h n (by omega)
    refine ⟨fun r => if r = n then y else f r, fun r hr => ?_⟩
    by_cases e : r = n
    · subst e; simpa using hy
    · simpa [e] using hf r (by omega)
theorem deZ_ok : DeOk w deZ := ⟨by simp [deZ], by simp [deZ], Byt.nil w⟩
theorem dx_map (f : Nat → De) (n k : Nat) (h : k < n) : dx ((List.range n).map f) k = f k := by simp [dx, List.getD, h]
theorem dx_out (l : List De) (k : Nat) (h : l.length ≤ k) : dx l k = deZ := by simp [dx, List.getD, List.getElem?_eq_none h]
set_option maxRecDepth 100000 in
theorem deeds_open {b0 : Nat} {v : Value} {d : DataW H} {p : List MemPlace} (hv : Value.okWide Try.prog w .any b0 22 v) (h : DataW.Trod enc Try.prog w 0 (fun _ => true) true 22 v d p) : ∃ l : List De, DeS w v l := by
  obtain ⟨a, ln, cp, rfl⟩ := okWide_slice Try.underlying22 hv
  obtain ⟨fuel, hf⟩ := h
  rcases DataW.trod_slice Try.underlying22 hf with ⟨hc, _⟩ | ⟨x, len, cap, elems, rest, n, _, hc, _, _, hl, hm, hlen, hel, _, _⟩
  · rw [show Value.cells (.slice a ln cp) = #[.slice a ln cp] from rfl] at hc
    simp only [List.cons.injEq, and_true, Value.slice.injEq] at hc
    obtain ⟨rfl, rfl, rfl⟩ := hc
    exact ⟨[], ⟨none, 0, rfl, by simp [maxLen], .inl rfl⟩, fun k => by rw [dx_out _ _ (Nat.zero_le _)]; exact deZ_ok⟩
  · rw [show Value.cells (.slice a ln cp) = #[.slice a ln cp] from rfl] at hc
    simp only [List.cons.injEq, and_true, Value.slice.injEq] at hc
    obtain ⟨rfl, rfl, rfl⟩ := hc
    rw [c3deed] at hel
    have each : ∀ k, k < ln → ∃ y : De, DeOk w y ∧ ∀ j, j < 3 → w.cell? ((x.add (k * 3)).add j) = y.cs[j]? := fun k hk => by
      have h1 := hel k hk
      have hk' : k < elems.length := by omega
      rw [List.getElem?_eq_getElem hk'] at h1
      obtain ⟨cs', hcs, ht⟩ := Option.bind_eq_some_iff.1 h1
      obtain ⟨y, rfl, hok⟩ := deed_cells ht
      obtain ⟨_, _, hat⟩ := World.cells?_some hcs
      exact ⟨y, hok, fun j hj => hat j hj⟩
    obtain ⟨f, hf'⟩ := choose_lt' deZ each
    refine ⟨(List.range ln).map f, ⟨some x, cp, by simp, by simp; omega, ?_⟩, fun k => ?_⟩
    · by_cases h0 : ln = 0
      · left; subst h0; rfl
      · right
        obtain ⟨b, off, spot⟩ := x
        have hc := (hf' 0 (by omega)).2 0 (by omega)
        have hspot : spot = none := by
          have h2 := World.cell?_spot (v := .int .i64 (f 0).k) hc
          simpa [Addr.add] using h2
        subst hspot
        refine ⟨b, off, rfl, fun k hk => ?_⟩
        have hk' : k < ln := by simpa using hk
        rw [dx_map f ln k hk']
        have h3 := (hf' k hk').2
        have e0 := h3 0 (by omega)
        have e1 := h3 1 (by omega)
        have e2 := h3 2 (by omega)
        simp only [Addr.add_lit] at e0 e1 e2
        exact ⟨e0, e1, e2⟩
    · by_cases hk : k < ln
      · rw [dx_map f ln k hk]; exact (hf' k hk).1
      · rw [dx_out _ _ (by simp; omega)]; exact deZ_ok
end
def Sm (l : List De) : Prop := l.length ≤ 120 ∧ ∀ k, (dx l k).p.length ≤ 2000
theorem DeS.grows {w w' : World} {v : Value} {l : List De} (h : DeS w v l) (g : Grows w w') : DeS w' v l := by
  obtain ⟨⟨a, cap, e, hm, hc⟩, ho⟩ := h
  refine ⟨⟨a, cap, e, hm, hc.imp id ?_⟩, fun k => (ho k).grows g⟩
  rintro ⟨b, off, e', h3⟩
  exact ⟨b, off, e', fun k hk => ⟨Grows.cell' g (h3 k hk).1, Grows.cell' g (h3 k hk).2.1, Grows.cell' g (h3 k hk).2.2⟩⟩
end Go.Proofs.Ytpodbhimkbadhaa
