import Derived.Test.YtoppcpiheaedlaaGreatDoorMB21
import Derived.ChangeSlices
import Derived.WideShapes
import Derived.ChangeArms
import Derived.Test.YtoppcpiheaedlaaGreatDoorMB8
section
/-
  A deed that comes in: its parts.
-/
namespace Go.Proofs.YtoppcpiheaedlaaGreatDoor
open Go.ChangeShapes Go.WideShapes Go.ChangeAt Go.RowKit
set_option linter.unusedVariables false
set_option linter.unusedSimpArgs false
theorem i64_ranged {a : Int} (h : (Lit.int .i64 a).wf = true) : -9223372036854775808 ≤ a ∧ a ≤ 9223372036854775807 := by
 simp [Lit.wf, IntKind.min, IntKind.max, IntKind.bits, IntKind.signed] at h
 omega
theorem ints_rowed {w : World} {a : Option Addr} {len cap : Nat} {zs : List Int}
 (h : (a = none ∧ len = 0 ∧ cap = 0 ∧ zs = []) ∨
  ∃ x, a = some x ∧ len ≤ cap ∧ cap ≤ maxLen ∧ zs.length = cap ∧ (∀ i, i < zs.length → w.cell? (x.add i) = some (.int .i64 (zs.getD i 0))) ∧ ∀ n ∈ zs, (Lit.int .i64 n).wf = true) :
 ∃ l : List Int, len = l.length ∧ IntS w (.slice a len cap) l ∧ (∀ z ∈ l, -9223372036854775808 ≤ z ∧ z ≤ 9223372036854775807) ∧ l.length ≤ 9223372036854775807 := by
 rcases h with ⟨rfl, rfl, rfl, rfl⟩ | ⟨x, rfl, h1, h2, h3, h4, h5⟩
 · exact ⟨[], rfl, ⟨none, 0, rfl, .inl rfl⟩, by simp, by simp⟩
 · have hl : (zs.take len).length = len := by simp; omega
   refine ⟨zs.take len, hl.symm, ⟨some x, cap, by rw [hl], ?_⟩, fun z hz => i64_ranged (h5 z (List.mem_of_mem_take hz)), by rw [hl]; unfold maxLen at h2; omega⟩
   by_cases h0 : len = 0
   · left; subst h0; simp
   · right
     obtain ⟨b, off, spot⟩ := x
     have hc := h4 0 (by omega)
     have hspot : spot = none := by simpa [Addr.add] using World.cell?_spot hc
     subst hspot
     refine ⟨b, off, rfl, fun i hi => ?_⟩
     rw [hl] at hi
     have hci := h4 i (by omega)
     rw [Addr.add_lit] at hci
     rw [hci]
     simp [List.getD, List.getElem?_take, hi]
section
variable {H : Type} {enc : TypeId × Value → H} {w : World}
theorem c1int : Tryz.prog.cellsOf 3 = 1 := by kernel_rfl
theorem c1str : Tryz.prog.cellsOf 9 = 1 := by kernel_rfl
theorem c1row : Tryz.prog.cellsOf 36 = 1 := by kernel_rfl
theorem c1ins : Tryz.prog.cellsOf 37 = 1 := by kernel_rfl
theorem c1u8 : Tryz.prog.cellsOf 5 = 1 := by kernel_rfl
theorem c6deed : Tryz.prog.cellsOf 39 = 6 := by kernel_rfl
theorem int_cell {n : Nat} {c : Value} {y : DataW H × List MemPlace} (h : DataW.trod enc Tryz.prog w 0 (fun _ => true) true n 3 [c] = some y) : ∃ k : Int, c = .int .i64 k ∧ (-9223372036854775808 ≤ k ∧ k ≤ 9223372036854775807) := by
 obtain ⟨k, hc, _, hw⟩ := DataW.trod_int Tryz.underlying3 h
 simp only [List.cons.injEq, and_true] at hc
 exact ⟨k, hc, i64_ranged hw⟩
theorem str_cell {n : Nat} {c : Value} {y : DataW H × List MemPlace} (h : DataW.trod enc Tryz.prog w 0 (fun _ => true) true n 9 [c] = some y) : ∃ s : Nm, c = sv s ∧ okS s := by
 obtain ⟨s, hc, _, hw⟩ := DataW.trod_string Tryz.underlying9 h
 simp only [List.cons.injEq, and_true] at hc
 refine ⟨s.data.toList, by rw [hc]; rfl, ?_⟩
 show s.data.toList.length ≤ maxLen
 rw [Array.length_toList]
 exact hw
theorem row_cell {n : Nat} {c : Value} {y : DataW H × List MemPlace} (h : DataW.trod enc Tryz.prog w 0 (fun _ => true) true n 36 [c] = some y) : ∃ l : List UInt8, Byt w c l := by
 rcases open_ints Tryz.underlying36 Tryz.underlying5 c1u8 h with ⟨hc, _⟩ | ⟨x, l, cp, zs, hc, _, hl, hm, hz, _, hcell, hwz⟩
 · simp only [List.cons.injEq, and_true] at hc
   obtain ⟨l, e, hb⟩ := byt_of_row (w := w) (a := none) (len := 0) (cap := 0) (zs := []) (.inl ⟨rfl, rfl, rfl, rfl⟩)
   exact ⟨l, by rw [hc]; exact hb⟩
 · simp only [List.cons.injEq, and_true] at hc
   obtain ⟨l', e, hb⟩ := byt_of_row (w := w) (a := some x) (len := l) (cap := cp) (zs := zs) (.inr ⟨_, rfl, hl, hm, by simpa using hz, hcell, hwz⟩)
   exact ⟨l', by rw [hc]; exact hb⟩
theorem ins_cell {n : Nat} {c : Value} {y : DataW H × List MemPlace} (h : DataW.trod enc Tryz.prog w 0 (fun _ => true) true n 37 [c] = some y) : ∃ l : List Int, IntS w c l ∧ (∀ z ∈ l, -9223372036854775808 ≤ z ∧ z ≤ 9223372036854775807) ∧ l.length ≤ 9223372036854775807 := by
 rcases open_ints Tryz.underlying37 Tryz.underlying3 c1int h with ⟨hc, _⟩ | ⟨x, l, cp, zs, hc, _, hl, hm, hz, _, hcell, hwz⟩
 · simp only [List.cons.injEq, and_true] at hc
   obtain ⟨l, e, hb⟩ := ints_rowed (w := w) (a := none) (len := 0) (cap := 0) (zs := []) (.inl ⟨rfl, rfl, rfl, rfl⟩)
   exact ⟨l, by rw [hc]; exact hb⟩
 · simp only [List.cons.injEq, and_true] at hc
   obtain ⟨l', e, hb⟩ := ints_rowed (w := w) (a := some x) (len := l) (cap := cp) (zs := zs) (.inr ⟨_, rfl, hl, hm, by simpa using hz, hcell, hwz⟩)
   exact ⟨l', by rw [hc]; exact hb⟩
set_option maxRecDepth 100000 in
theorem deed_cells {n : Nat} {cs : List Value} {y : DataW H × List MemPlace} (h : DataW.trod enc Tryz.prog w 0 (fun _ => true) true n 39 cs = some y) : ∃ x : Dd, cs = x.cs ∧ DdOk w x := by
 obtain ⟨xs, m, _, _, hlen, hxl, hg⟩ := DataW.trod_struct Tryz.underlying39 h
 rw [c6deed] at hlen
 have hxl : xs.length = 6 := hxl
 match cs, hlen, xs, hxl with
 | [v0, v1, v2, v3, v4, v5], _, [y0, y1, y2, y3, y4, y5], _ =>
  have t0 := hg 0 _ rfl
  have t1 := hg 1 _ rfl
  have t2 := hg 2 _ rfl
  have t3 := hg 3 _ rfl
  have t4 := hg 4 _ rfl
  have t5 := hg 5 _ rfl
  simp only [c1int, c1str, c1row, c1ins, List.drop, List.take, List.getElem?_cons_zero, List.getElem?_cons_succ] at t0 t1 t2 t3 t4 t5
  obtain ⟨kd, rfl, h0⟩ := int_cell t0
  obtain ⟨a, rfl, h1⟩ := str_cell t1
  obtain ⟨b, rfl, h2⟩ := str_cell t2
  obtain ⟨k, rfl, h3⟩ := int_cell t3
  obtain ⟨p, h4⟩ := row_cell t4
  obtain ⟨q, h5, h6, h7⟩ := ins_cell t5
  exact ⟨⟨kd, a, b, k, v4, p, v5, q⟩, rfl, h0, h1, h2, h3, h4, h5, h6, h7⟩
theorem choose_lt' {α : Type} {n : Nat} {R : Nat → α → Prop} (d : α) (h : ∀ r, r < n → ∃ y, R r y) : ∃ f : Nat → α, ∀ r, r < n → R r (f r) := by
 induction n with
 | zero => exact ⟨fun _ => d, fun r hr => by omega⟩
 | succ n ih =>
  obtain ⟨f, hf⟩ := ih fun r hr => h r (by omega)
  obtain ⟨y, hy⟩ := h n (by omega)
  refine ⟨fun r => if r = n then y else f r, fun r hr => ?_⟩
  by_cases e : r = n
  · subst e; simpa using hy
  · simpa [e] using hf r (by omega)
set_option maxRecDepth 100000 in
theorem deeds_open {b0 : Nat} {v : Value} {d : DataW H} {p : List MemPlace} (hv : Value.okWide Tryz.prog w .any b0 22 v) (h : DataW.Trod enc Tryz.prog w 0 (fun _ => true) true 22 v d p) : ∃ l : List Dd, DdsAt w v l := by
 obtain ⟨a, ln, cp, rfl⟩ := okWide_slice Tryz.underlying22 hv
 obtain ⟨fuel, hf⟩ := h
 rcases DataW.trod_slice Tryz.underlying22 hf with ⟨hc, _⟩ | ⟨x, len, cap, elems, rest, n, _, hc, _, _, hl, hm, hlen, hel, _, _⟩
 · rw [show Value.cells (.slice a ln cp) = #[.slice a ln cp] from rfl] at hc
   simp only [List.cons.injEq, and_true, Value.slice.injEq] at hc
   obtain ⟨rfl, rfl, rfl⟩ := hc
   exact ⟨[], none, 0, rfl, by simp, by simp, .inl rfl⟩
 · rw [show Value.cells (.slice a ln cp) = #[.slice a ln cp] from rfl] at hc
   simp only [List.cons.injEq, and_true, Value.slice.injEq] at hc
   obtain ⟨rfl, rfl, rfl⟩ := hc
   rw [c6deed] at hel
   have each : ∀ k, k < ln → ∃ y : Dd, DdOk w y ∧ ∀ j, j < 6 → w.cell? ((x.add (k * 6)).add j) = y.cs[j]? := fun k hk => by
    have h1 := hel k hk
    have hk' : k < elems.length := by omega
    rw [List.getElem?_eq_getElem hk'] at h1
    obtain ⟨cs', hcs, ht⟩ := Option.bind_eq_some_iff.1 h1
    obtain ⟨y, rfl, hok⟩ := deed_cells ht
    obtain ⟨_, _, hat⟩ := World.cells?_some hcs
    exact ⟨y, hok, fun j hj => hat j hj⟩
   by_cases h0 : ln = 0
   · subst h0
     exact ⟨[], some x, cp, rfl, by simp, by simp, .inl rfl⟩
   · obtain ⟨f, hf'⟩ := choose_lt' ⟨0, [], [], 0, .slice none 0 0, [], .slice none 0 0, []⟩ each
     refine ⟨(List.range ln).map f, some x, cp, by simp, by simp; unfold maxLen at hm; omega, ?_, ?_⟩
     · intro y hy
       obtain ⟨k, hk, rfl⟩ := List.mem_map.1 hy
       exact (hf' k (List.mem_range.1 hk)).1
     · right
       obtain ⟨b, off, spot⟩ := x
       have hc := (hf' 0 (by omega)).2 0 (by omega)
       have hspot : spot = none := by
        have h2 := World.cell?_spot (v := .int .i64 (f 0).kind) hc
        simpa [Addr.add] using h2
       subst hspot
       refine ⟨b, off, rfl, fun i hi j u hu => ?_⟩
       have hi' : i < ln := by simpa using hi
       have e0 : ((List.range ln).map f)[i]'hi = f i := by simp
       rw [e0] at hu
       have hj : j < 6 := by have := (List.getElem?_eq_some_iff.1 hu).1; simpa [Dd.cs] using this
       have h3 := (hf' i hi').2 j hj
       simp only [Addr.add_lit] at h3
       rw [h3, hu]
end
end Go.Proofs.YtoppcpiheaedlaaGreatDoor
end
section
/-
  Deeds one behind the other; what came in stands outside of what is the call's own.
-/
namespace Go.Proofs.YtoppcpiheaedlaaGreatDoor
open Go.RowKit Go.Maps
set_option linter.unusedVariables false
set_option linter.unusedSimpArgs false
theorem dd_small {l : List Dd} (hl : SmallL l) {x : Dd} (hx : x ∈ l) : x.p.length ≤ 1000000 ∧ x.keep.length ≤ 1000000 := by
 have := hl.good x hx
 unfold Dd.bad at this
 omega
theorem dds_ok {w : World} {v : Value} {l : List Dd} (h : DdsAt w v l) : ∀ x ∈ l, DdOk w x := by
 obtain ⟨a, cap, e, h1, h2, h3⟩ := h
 exact h2
theorem dds_grow {w w' : World} {v : Value} {l : List Dd} (h : DdsAt w v l) (g : Grows w w') : DdsAt w' v l := by
 obtain ⟨a, cap, e, h1, h2, h3⟩ := h
 refine ⟨a, cap, e, h1, fun x hx => (h2 x hx).grows g, h3.imp id ?_⟩
 rintro ⟨b, o, e2, hc⟩
 exact ⟨b, o, e2, fun i hi j u hu => g.cell' (hc i hi j u hu)⟩
theorem out_new {B : Nat} {O : Nat → Prop} {w : World} {v : Value} {l : List UInt8} (hB : w.heap.size = B) (h : Byt w v l) (hO : ∀ k, O k → B ≤ k) : Outside O v := by
 intro b off sp n c e hn hb
 obtain ⟨a, cap, e2, _, _, _, h5⟩ := h
 rw [e] at e2
 simp only [Value.slice.injEq] at e2
 obtain ⟨e3, e4, _⟩ := e2
 rcases h5 with h5 | ⟨b', o', e5, hc⟩
 · rw [h5] at e4; exact hn e4
 · have hl : 0 < l.length := by omega
   have h6 := World.block_lt_of_cell? w _ (hc 0 hl)
   rw [e5] at e3
   simp only [Option.some.injEq, Addr.mk.injEq] at e3
   have h7 := hO b hb
   have h8 : b = b' := e3.1
   have h9 : b' < w.heap.size := h6
   omega
theorem out_newI {B : Nat} {O : Nat → Prop} {w : World} {v : Value} {l : List Int} (hB : w.heap.size = B) (h : IntS w v l) (hO : ∀ k, O k → B ≤ k) : Outside O v := by
 intro b off sp n c e hn hb
 obtain ⟨a, cap, e2, h5⟩ := h
 rw [e] at e2
 simp only [Value.slice.injEq] at e2
 obtain ⟨e3, e4, _⟩ := e2
 rcases h5 with h5 | ⟨b', o', e5, hc⟩
 · rw [h5] at e4; exact hn e4
 · have hl : 0 < l.length := by omega
   have h6 := World.block_lt_of_cell? w _ (hc 0 hl)
   rw [e5] at e3
   simp only [Option.some.injEq, Addr.mk.injEq] at e3
   have h7 := hO b hb
   have h8 : b = b' := e3.1
   have h9 : b' < w.heap.size := h6
   omega
theorem deedSize : (Tryz.prog.info? 39).map (·.size) = some 6 := by kernel_rfl
theorem deed_at {w0 w : World} {a : Option Addr} {c : Nat} {l : List Dd} (h : DdsAt w0 (.slice a l.length c) l) (g : Grows w0 w) (i : Nat) (hi : i < l.length) : ∃ b o, a = some ⟨b, o, none⟩ ∧ ∀ j u, (l[i]).cs[j]? = some u → w.cell? ((⟨b, o + i * 6, none⟩ : Addr).add j) = some u := by
 obtain ⟨a', c', e, _, _, h3⟩ := h
 simp only [Value.slice.injEq, true_and] at e
 obtain ⟨rfl, rfl⟩ := e
 rcases h3 with h3 | ⟨b, o, e2, hc⟩
 · rw [h3] at hi; simp at hi
 · refine ⟨b, o, e2, fun j u hu => ?_⟩
   rw [Addr.add_lit]
   exact g.cell' (hc i hi j u hu)
end Go.Proofs.YtoppcpiheaedlaaGreatDoor
end
