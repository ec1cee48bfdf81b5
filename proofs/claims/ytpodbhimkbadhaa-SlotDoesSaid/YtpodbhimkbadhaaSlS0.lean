/-
  The list of a body's cells; rows of strings.
-/
import Derived.Test.YtpodbhimkbadhaaSlQ2
import Derived.Laws.AppendOwnNone
import Derived.Test.YtpodbhimkbadhaaSlRw
namespace Go.Proofs.Ytpodbhimkbadhaa
open Go.RowKit
set_option linter.unusedVariables false
set_option linter.unusedSimpArgs false

def ps (A : Bo) : List (List UInt8) := A.l.map (·.p)
theorem ps_len (A : Bo) : (ps A).length = A.l.length := by simp [ps]
theorem ps_get (A : Bo) (k : Nat) (h : k < A.l.length) : (ps A)[k]? = some (cl A.l k).p := by rw [cl_get _ _ h]; simp [ps, h]
theorem ps_pack (A : Bo) : ps (packA A) = ps A := by
  refine List.ext_getElem? (fun k => ?_)
  by_cases h : k < A.l.length
  · have hl : (packA A).l.length = A.l.length := packL_length _ _
    rw [ps_get _ k (by rw [hl]; exact h), ps_get _ k h]
    congr 1
    show (cl (packL A.l.length A.l) k).p = _
    rw [cl_pack _ _ _ h, if_pos h]
  · rw [List.getElem?_eq_none (by rw [ps_len]; show (packL A.l.length A.l).length ≤ k; rw [packL_length]; omega), List.getElem?_eq_none (by rw [ps_len]; omega)]
theorem ps_pre (A : Bo) (c : List UInt8) : ps (preA A c) = ps A := by unfold preA; split; exact ps_pack A; rfl
theorem ps_ins (A : Bo) (i : Nat) (c : List UInt8) : ps (insA A i c) = (ps A).take i ++ [c] ++ (ps A).drop i := by
  rw [← ps_pre A c]
  show (insL (preA A c).l i _).map (·.p) = _
  unfold insL ps
  simp
theorem ps_del (A : Bo) (i : Nat) : ps (delA A i) = (ps A).take i ++ (ps A).drop (i + 1) := by
  show (delL A.l i).map (·.p) = _
  unfold delL ps
  simp
theorem pack_len (A : Bo) : (packA A).l.length = A.l.length := packL_length _ _
theorem free_pack (A : Bo) : freeA (packA A) = freeA A := by
  unfold freeA
  rw [pack_len]
  show 241 - 2 * A.l.length - sumL (packL A.l.length A.l) = _
  rw [sum_pack]
theorem pre_len (A : Bo) (c : List UInt8) : (preA A c).l.length = A.l.length := by unfold preA; split; exact pack_len A; rfl
theorem ins_len (A : Bo) (i : Nat) (c : List UInt8) (h : i ≤ A.l.length) : (insA A i c).l.length = A.l.length + 1 := by
  show (insL (preA A c).l i _).length = _
  rw [insL_length _ _ _ (by rw [pre_len]; exact h), pre_len]
theorem del_len (A : Bo) (i : Nat) (h : i < A.l.length) : (delA A i).l.length = A.l.length - 1 := delL_length _ _ h
theorem pre_sum (A : Bo) (c : List UInt8) : sumL (preA A c).l = sumL A.l := by unfold preA; split; exact sum_pack _ _; rfl
theorem free_ins (A : Bo) (i : Nat) (c : List UInt8) (h : i ≤ A.l.length) : freeA (insA A i c) = freeA A - 2 - c.length := by
  unfold freeA
  rw [ins_len A i c h]
  show 241 - 2 * (A.l.length + 1) - sumL (insL (preA A c).l i _) = _
  rw [sum_ins, pre_sum]
  show 241 - 2 * (A.l.length + 1) - (sumL A.l + c.length) = _
  omega
theorem free_del {A : Bo} (hw : Wf A) (i : Nat) (h : i < A.l.length) : freeA (delA A i) = freeA A + 2 + (cl A.l i).p.length := by
  unfold freeA
  rw [del_len A i h]
  show 241 - 2 * (A.l.length - 1) - sumL (delL A.l i) = _
  have := sum_del A.l i h
  have := hw.dir
  have := hw.sum
  omega
theorem holes_pack {A : Bo} (hw : Wf A) : holesA (packA A) = 0 := by
  unfold holesA
  show 243 - (243 - sumL A.l) - sumL (packL A.l.length A.l) = 0
  rw [sum_pack]
  omega

/-- A slice value that reads as these cells. -/
def RdN (w : World) (x : Value) (m : Nat) (news : List Value) : Prop := ∃ a c, x = .slice a m c ∧ (a = none → m = 0 ∧ c = 0) ∧ ∀ ad, a = some ad → ∀ j u, news[j]? = some u → w.cell? (ad.add j) = some u
theorem run_appendR {P : Program} (w : World) (t ty e : TypeId) (i : TypeInfo) (z : Value) (size bytes : Nat) (ht : P.underlying t = some (.slice e)) (hi : P.info? e = some i) (hz : i.zero = some z)
    (hsize : i.size = size) (hby : i.bytes = bytes) (hzs : z.cells.size = size) (hsz : 0 < size)
    (v : Value) (n : Nat) (xs : List Value) (hown : w.ownsRow 0 e size v n xs)
    (x : Value) (m : Nat) (news : List Value) (hx : RdN w x m news) (hl : news.length = m * size) (h1 : ∀ u ∈ news, u.oneCell' = true)
    (h63 : n + m ≤ maxLen) (hbytes : (n + m) * bytes ≤ 140737488355328) (ls : List (Nat × List Value)) (hls : ∀ p ∈ ls, p.1 ≤ n ∨ (p.1 ≤ n + m ∧ p.2 = (xs ++ news).take (p.1 * size))) :
    ∃ v' w', (Builtin.append_ #[t, t] ty #[v, x]).run P w = .ok v' w' ∧ w'.ownsRow 0 e size v' (n + m) (xs ++ news) ∧ w.grownBy w' v.ownBlock ∧
      (v'.ownBlock = v.ownBlock ∨ v'.ownBlock = some w.heap.size) ∧ Spared e size ls w w' := by
  obtain ⟨a, c, rfl, hn, hc⟩ := hx
  cases a with
  | none =>
    obtain ⟨rfl, rfl⟩ := hn rfl
    have hnil : news = [] := List.eq_nil_of_length_eq_zero (by omega)
    subst hnil
    exact ⟨v, w, run_append_owned_none w 0 t ty e i size ht hi v n _ hown, by simpa using hown, ⟨rfl, rfl, rfl, Nat.le_refl _, fun _ _ _ => rfl⟩, .inl rfl, fun _ _ _ h => h⟩
  | some ad => exact run_append_x w t ty e i z size bytes ht hi hz hsize hby hzs hsz v n xs hown ad m c news hl (hc ad rfl) h1 h63 hbytes ls hls
theorem RdN.but {O : Nat → Prop} {w w' : World} {x : Value} {m : Nat} {news : List Value} (h : RdN w x m news) (k : But O w w') (ho : ∀ b, b < w.heap.size → ¬ O b) : RdN w' x m news := by
  obtain ⟨a, c, e, hn, hc⟩ := h
  exact ⟨a, c, e, hn, fun ad had j u hu => k.cell (ho _ (World.block_lt_of_cell? _ _ (hc ad had j u hu))) (hc ad had j u hu)⟩
theorem own_take {w : World} {e k n cap i : Nat} {a : Option Addr} {xs : List Value} (h : w.ownsRow 0 e k (.slice a n cap) n xs) (hi : i ≤ n) : RdN w (sliced a 0 i cap k) i (xs.take (i * k)) := by
  rcases h.2 with ⟨e1, h0⟩ | ⟨g, cap', cur, e1, hb, hg, hnc, hcm, hcs, htake⟩
  · simp only [Value.slice.injEq] at e1
    obtain ⟨rfl, rfl, rfl⟩ := e1
    obtain rfl : i = 0 := by omega
    exact ⟨none, 0, rfl, fun _ => ⟨rfl, rfl⟩, fun ad had => by cases had⟩
  · simp only [Value.slice.injEq, true_and] at e1
    obtain ⟨rfl, rfl⟩ := e1
    by_cases h0 : cap = 0
    · subst h0
      obtain rfl : i = 0 := by omega
      exact ⟨some ⟨g, 0, none⟩, 0, rfl, (fun hh => (by cases hh)), fun ad had j u hu => by rw [Nat.zero_mul, List.take_zero] at hu; simp at hu⟩
    · refine ⟨some ⟨g, 0, none⟩, cap, ?_, fun hh => (by cases hh), fun ad had j u hu => ?_⟩
      · unfold sliced
        rw [if_neg h0]
        simp [Addr.add]
      · obtain rfl := Option.some.inj had
        have hj : xs[j]? = some u := by
          have hjl := (List.getElem?_eq_some_iff.1 hu).1
          rw [List.length_take] at hjl
          rw [List.getElem?_take_of_lt (by omega)] at hu
          exact hu
        have := h.cells (g := g) rfl j u hj
        exact this
theorem own_drop {w : World} {e k n cap i : Nat} {a : Option Addr} {xs : List Value} (h : w.ownsRow 0 e k (.slice a n cap) n xs) (hi : i ≤ n) : RdN w (sliced a i n cap k) (n - i) (xs.drop (i * k)) := by
  rcases h.2 with ⟨e1, h0⟩ | ⟨g, cap', cur, e1, hb, hg, hnc, hcm, hcs, htake⟩
  · simp only [Value.slice.injEq] at e1
    obtain ⟨rfl, rfl, rfl⟩ := e1
    obtain rfl : i = 0 := by omega
    exact ⟨none, 0, rfl, fun _ => ⟨rfl, rfl⟩, fun ad had => by cases had⟩
  · simp only [Value.slice.injEq, true_and] at e1
    obtain ⟨rfl, rfl⟩ := e1
    have hxl := h.1
    by_cases h0 : cap = i
    · subst h0
      have hn : n = cap := by omega
      subst hn
      refine ⟨some ⟨g, 0, none⟩, n - n, by unfold sliced; rw [if_pos rfl], (fun hh => (by cases hh)), fun ad had j u hu => ?_⟩
      rw [List.getElem?_eq_none (by rw [List.length_drop, hxl]; omega)] at hu
      cases hu
    · refine ⟨some ⟨g, i * k, none⟩, cap - i, ?_, fun hh => (by cases hh), fun ad had j u hu => ?_⟩
      · unfold sliced
        rw [if_neg h0]
        simp [Addr.add_lit]
      · obtain rfl := Option.some.inj had
        rw [List.getElem?_drop] at hu
        have := h.cells (g := g) rfl _ u hu
        rw [Addr.add_lit] at this ⊢
        rw [Nat.zero_add] at this
        exact this
theorem infoStr : (Try.prog.info? 9).map (fun i => (i.zero, i.size, i.bytes)) = some (some (.string ⟨#[]⟩), 1, 16) := by kernel_rfl
theorem szStr (w : World) : (sizeOf 9).run Try.prog w = .ok 1 w := by
  obtain ⟨i, hi, _, hs, _⟩ := info_parts infoStr
  simp [sizeOf, typeInfo, hi, hs, Result.andThen]
theorem run_slSh (w : World) (a : Option Addr) (n cap i : Nat) (h : i ≤ n) (h2 : n ≤ cap) : (Instr.sliceAt 34 (.slice a n cap) none (some (.int .i64 (i : Int))) none).run Try.prog w = .ok (sliced a 0 i cap 1) w := by
  have he : Try.prog.elem 34 = 9 := by kernel_rfl
  have hT : Try.prog.underlying 34 = some (.slice (Try.prog.elem 34)) := by rw [he]; exact Try.underlying34
  rw [run_sliceAt_slice w _ _ _ _ _ hT, run_slice_h w _ _ n cap hT .i64 i (by omega) (by omega), he, szStr]
  simp [Result.andThen]
theorem run_slSl (w : World) (a : Option Addr) (n cap i : Nat) (h : i ≤ n) (h2 : n ≤ cap) (z : Int) (hz : z = (i : Int)) : (Instr.sliceAt 34 (.slice a n cap) (some (.int .i64 z)) none none).run Try.prog w = .ok (sliced a i n cap 1) w := by
  subst hz
  have he : Try.prog.elem 34 = 9 := by kernel_rfl
  have hT : Try.prog.underlying 34 = some (.slice (Try.prog.elem 34)) := by rw [he]; exact Try.underlying34
  rw [run_sliceAt_slice w _ _ _ _ _ hT, run_slice_l w _ _ n cap hT .i64 i (by omega) (by omega), he, szStr]
  simp [Result.andThen]
theorem own_some' {W : World} {B e k n cap : Nat} {a : Option Addr} {xs : List Value} (h : W.ownsRow B e k (.slice a n cap) n xs) (hn : 0 < n) : ∃ g, a = some ⟨g, 0, none⟩ := by
  obtain ⟨g, c, e⟩ := own_some h hn
  simp only [Value.slice.injEq] at e
  exact ⟨g, e.1⟩
theorem hls2 (xs : List Value) (ii : Nat) (u : Value) (h : ii ≤ xs.length) : ∀ p' ∈ [(0, []), (ii, xs.take ii), (1, [u]), (ii + 1, xs.take ii ++ [u])], p'.1 ≤ ii ∨ (p'.1 ≤ ii + 1 ∧ p'.2 = (xs.take ii ++ [u]).take (p'.1 * 1)) := by
  intro p' hp'
  simp only [List.mem_cons, List.not_mem_nil, or_false] at hp'
  rcases hp' with rfl | rfl | rfl | rfl
  · left; exact Nat.zero_le _
  · left; exact Nat.le_refl _
  · by_cases h0 : ii = 0
    · right; subst h0; exact ⟨by omega, by simp⟩
    · left; show 1 ≤ ii; omega
  · right
    refine ⟨Nat.le_refl _, ?_⟩
    have hl : (xs.take ii ++ [u]).length ≤ (ii + 1) * 1 := by rw [List.length_append, List.length_take, List.length_singleton]; omega
    exact (List.take_of_length_le hl).symm
end Go.Proofs.Ytpodbhimkbadhaa
