/-
  Contracts of page: isKind, parts, Same; of the document's own kind, Same; bytes.Equal; num.
-/
import Derived.Test.YtfgnniajancpcaaPgF
import Derived.Test.YtfgnniajancpcaaCrcV
import Derived.Test.YtfgnniajancpcaaRn
import Derived.BigQuiet
import Derived.Laws.CopyRow
import Derived.Laws.CopyOwn
import Derived.Test.YtfgnniajancpcaaCpM
namespace Go.Proofs.Ytfgnniajancpcaa
open Go.RowKit
set_option linter.unusedVariables false
set_option linter.unusedSimpArgs false

theorem vIsKind (k : Int) (w : World) : Calls Try.prog 14 #[.int .i64 k] w fun e w' => e = .returned (.bool (isK k)) ∧ w = w' := by
  by_cases h : 1 ≤ k ∧ k ≤ 5
  · have H : Hid (isK k = true) := (isK_iff k).2 h
    have hk : k = 1 ∨ k = 2 ∨ k = 3 ∨ k = 4 ∨ k = 5 := by omega
    clear h
    rcases hk with rfl | rfl | rfl | rfl | rfl
    all_goals
      go_enter Try.func14, Try.ntmps14
      go_wp2
      go_ret
      exact ⟨by rw [H.out]; rfl, rfl⟩
  · have H : Hid (isK k = false) := by
      show _ = _
      rw [Bool.eq_false_iff]
      exact fun hh => h ((isK_iff k).1 hh)
    have h1 : ¬ k = 1 := by omega
    have h2 : ¬ k = 2 := by omega
    have h3 : ¬ k = 3 := by omega
    have h4 : ¬ k = 4 := by omega
    have h5 : ¬ k = 5 := by omega
    clear h
    go_enter Try.func14, Try.ntmps14
    go_wp2
    go_ret
    exact ⟨by rw [H.out]; rfl, rfl⟩

theorem refKind (k : Int) (w : World) : Calls Try.prog 18 #[.int .i64 k] w fun e w' => e = .returned (.bool (isK k)) ∧ w = w' := by
  by_cases h1 : 1 ≤ k
  · by_cases h5 : k ≤ 5
    · have H : Hid (isK k = true) := (isK_iff k).2 ⟨h1, h5⟩
      go_enter Try.func18, Try.ntmps18
      go_wp2
      go_ret
      exact ⟨by rw [H.out]; rfl, rfl⟩
    · have H : Hid (isK k = false) := by
        show _ = _
        rw [Bool.eq_false_iff]
        exact fun hh => h5 ((isK_iff k).1 hh).2
      have h5' : 5 < k := by omega
      go_enter Try.func18, Try.ntmps18
      go_wp2
      go_ret
      exact ⟨by rw [H.out]; rfl, rfl⟩
  · have H : Hid (isK k = false) := by
      show _ = _
      rw [Bool.eq_false_iff]
      exact fun hh => h1 ((isK_iff k).1 hh).1
    have h1' : k < 1 := by omega
    go_enter Try.func18, Try.ntmps18
    go_wp2
    go_ret
    exact ⟨by rw [H.out]; rfl, rfl⟩

theorem vNum (n : Int) (w : World) : Calls Try.prog 11 #[.int .i64 n] w fun e w' => e = .returned (.int .i64 n) ∧ w = w' := by
  go_enter Try.func11, Try.ntmps11
  go_wp2
  go_ret
  exact ⟨rfl, rfl⟩

/-- 'append(v, x...)' where v has no room for it: new memory. -/
theorem run_app_full {P : Program} {T e : TypeId} {W : World} {ty : TypeId} {i : TypeInfo} {ad : Addr} {c : Nat} {x : Value} {l m : List UInt8} (hT : P.underlying T = some (.slice e)) (hi : P.info? e = some i) (hz : i.zero = some (.int .u8 0)) (hs : i.size = 1) (hb : i.bytes = 1)
    (hv : Byt W (.slice (some ad) l.length c) l) (hx : Byt W x m) (hc : c < l.length + m.length) (hlen : l.length + m.length ≤ 140737488355328) :
    ∃ v' W', (Builtin.append_ #[T, T] ty #[.slice (some ad) l.length c, x]).run P W = .ok v' W' ∧ Own e W.heap.size W' v' (l ++ m) ∧ Grows W W' := by
  obtain ⟨a0, c0, e0, h1, h2, h3, h4⟩ := hv
  simp only [Value.slice.injEq, true_and] at e0
  obtain ⟨rfl, rfl⟩ := e0
  obtain ⟨a1, c1, rfl, k1, k2, k3, k4⟩ := hx
  have hm : m ≠ [] := by
    rintro rfl
    simp at hc
    omega
  obtain ⟨b, o, rfl, hcl⟩ := k4.resolve_left hm
  have hr := run_append_grow (P := P) W T ty e i (.int .u8 0) hT hi hz ad l.length c (l.map bv) (by simp [hs]) (fun j u hu => by
      have hj : j < l.length := by simpa using (List.getElem?_eq_some_iff.1 hu).1
      rcases h4 with rfl | ⟨b', o', e', hc'⟩
      · simp at hj
      · obtain rfl := Option.some.inj e'
        rw [Addr.add_lit, hc' j hj]
        simpa [hj, List.getD] using hu)
    ⟨b, o, none⟩ m.length c1 (m.map bv) (by simp [hs]) (fun j u hu => by
      have hj : j < m.length := by simpa using (List.getElem?_eq_some_iff.1 hu).1
      rw [Addr.add_lit, hcl j hj]
      simpa [hj, List.getD] using hu) hc (by omega) (growslice_fits hc (by rw [hb]; omega))
  have hge := grownCap_ge W (l.length + m.length) c e
  have hcm : grownCap W (l.length + m.length) c e ≤ maxLen := grownCap_le_maxLen W (l.length + m.length) c e (by unfold maxLen; omega)
  refine ⟨_, _, hr, ?_, Grows.trans' (Grows.drew' W) (Grows.alloc' _ _)⟩
  refine ⟨by simp, .inr ⟨W.heap.size, _, _, by rw [List.length_append], Nat.le_refl _, heap_alloc_new W.drew _, by rw [List.length_append]; exact hge, hcm, ?_, ?_⟩⟩
  · simp only [Array.size_append, List.size_toArray, size_zeroCells, List.length_map]
    rw [show (Value.cells (.int .u8 0)).size = 1 from rfl]
    omega
  · simp only [Array.toList_append, List.map_append, List.append_assoc, List.length_append, Nat.mul_one]
    rw [← List.append_assoc, ← List.map_append, List.take_append_of_le_length (by simp), List.take_of_length_le (by simp), List.map_append]

/-- A row of bytes that is known whole. -/
def RowB (W : World) (g : Nat) (l : List UInt8) : Prop := W.heap[g]? = some (.cells (l.map bv).toArray 5 (0, 0))
theorem RowB.grows {W W' : World} {g : Nat} {l : List UInt8} (h : RowB W g l) (k : Grows W W') : RowB W' g l := k.heap' h
theorem RowB.cell {W : World} {g : Nat} {l : List UInt8} (h : RowB W g l) (i : Nat) (hi : i < l.length) : W.cell? ⟨g, i, none⟩ = some (bv (l.getD i 0)) := by
  rw [cell_of_row W g i _ _ (0, 0) h]
  simp [hi, List.getD]
theorem RowB.byt {W : World} {g : Nat} {l : List UInt8} (h : RowB W g l) (o n c : Nat) (hn : o + n ≤ l.length) (hc : n ≤ c) (hm : c ≤ maxLen) : Byt W (.slice (some ⟨g, o, none⟩) n c) ((l.drop o).take n) := by
  have hl : ((l.drop o).take n).length = n := by rw [List.length_take, List.length_drop]; omega
  refine ⟨some ⟨g, o, none⟩, c, by rw [hl], by omega, hm, (fun hh => by cases hh), Or.inr ⟨g, o, rfl, fun i hi => ?_⟩⟩
  rw [h.cell (o + i) (by omega)]
  congr 2
  simp only [List.getD]
  rw [List.getElem?_take_of_lt (by omega), List.getElem?_drop]
theorem RowB.of_own {B : Nat} {W : World} {g n : Nat} {l : List UInt8} (h : Own 5 B W (.slice (some ⟨g, 0, none⟩) n n) l) (hn : 0 < l.length) : RowB W g l := by
  have hl : n = l.length := h.byt.len
  subst hl
  rcases h.2 with ⟨e, _⟩ | ⟨g', cap, cur, e, _, hg, _, _, hs, ht⟩
  · cases e
  · simp only [Value.slice.injEq, Option.some.injEq, Addr.mk.injEq, and_true, true_and] at e
    obtain ⟨rfl, rfl⟩ := e
    unfold RowB
    rw [hg]
    have : cur.toList = l.map bv := by
      rw [← ht, List.take_of_length_le (by rw [Array.length_toList, hs]; exact Nat.le_refl _)]
    rw [← this]

/-- 'copy(d, s)' into a row that is known whole. -/
theorem wpList_copyB {P : Program} {w : World} {ops : Array Oper} {rest : List Oper} {o : Oper} {a : Act} {Q : Exit → Act → World → Prop} (hgd : o.guard = none) (x y : Operand) (T : TypeId)
    (ho : o.op = .call { callee := .builtin .copy, args := #[x, y], argTypes := #[T, T] }) (hT : P.underlying T = some (.slice 5)) (hs : (P.info? 5).map (·.size) = some 1)
    (g off dn dc : Nat) (hx : a.eval x = .slice (some ⟨g, off, none⟩) dn dc) (l : List UInt8) (hg : RowB w g l) (hfit : off + dn ≤ l.length)
    (v : Value) (m : List UInt8) (hy : a.eval y = v) (hv : Byt w v m) (hk : m.length = dn)
    (h : ∀ w', RowB w' g (l.take off ++ m ++ l.drop (off + dn)) → (∀ B w0, Below B w0 w → B ≤ g → Below B w0 w') → wpList P ops Q rest (a.put o.dst (.int .i64 (dn : Int))) w') : wpList P ops Q (o :: rest) a w := by
  obtain ⟨ad, cap, rfl⟩ := hv.slice
  refine wpList_copyMid hgd x y T 5 ho hT hs g off dn dc hx _ _ hg (by simpa using hfit) ad m.length cap m rfl hy hv dn (by omega) _ rfl ?_
  refine h _ ?_ (fun B w0 hb hB => below_setRow hb hB _)
  unfold RowB
  rw [setRow_heap w g _ _ _ _ hg]
  congr 2
  simp [List.map_take, List.map_drop, List.take_of_length_le (Nat.le_of_eq hk)]
end Go.Proofs.Ytfgnniajancpcaa
