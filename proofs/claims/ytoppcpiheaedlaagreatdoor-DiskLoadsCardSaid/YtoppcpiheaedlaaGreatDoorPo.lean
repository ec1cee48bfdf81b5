/-
  The program's disk: the writes of one file are told; they are taken away from the pending ones.
-/
import Derived.Test.YtoppcpiheaedlaaGreatDoorPn
namespace Go.Proofs.YtoppcpiheaedlaaGreatDoor
open Go.RowKit Go.Maps Go.MapKept
set_option linter.unusedVariables false
set_option linter.unusedSimpArgs false
attribute [local go_sem] sv nv mv pv

set_option maxRecDepth 100000 in
theorem pDel (c : Wr) (k cv : Nat) (w : World) (hc : w.cell? ⟨cv, 0, none⟩ = some (.int .i64 (k : Int))) :
    Calls Tryz.prog 107 #[.agg (wpC c).toArray, .pointer (some ⟨cv, 0, none⟩)] w fun e w' => e = .returned (.bool (c.id == k)) ∧ Grows w w' := by
  have h0 : (w.alloc (.cells (wpC c).toArray 108)).cell? ⟨w.heap.size, 0, none⟩ = some (.int .i64 (c.id : Int)) := by
    rw [World.cell?_alloc_at _ _ _ _ rfl]; rfl
  have hcv := (Grows.alloc' w (.cells (wpC c).toArray 108)).cell' hc
  obtain ⟨C, HC⟩ : ∃ C, Hid ((wpC c).toArray = C) := ⟨_, rfl⟩
  rw [HC.out] at h0 hcv ⊢
  have He : Hid (((c.id : Int) == (k : Int)) = (c.id == k)) := by
    show _ = _
    by_cases h : c.id = k
    · simp [h]
    · have : ¬ (c.id : Int) = (k : Int) := by omega
      rw [beq_eq_false_iff_ne.2 h, beq_eq_false_iff_ne.2 this]
  have HG := Lib.hid (Grows.alloc' w (.cells C 108))
  clear hc
  go_enter Tryz.func107, Tryz.ntmps107
  go_wp2_with (first | (refine wpList_boxT rfl 108 _ rfl C rfl ?_) | go_in)
  go_ret
  exact ⟨by rw [← He.out]; rfl, HG.out⟩

theorem wpC_get {l : List Wr} (h : ∀ w ∈ l, w.p.length = 64) (i : Nat) (hi : i < l.length) (j : Nat) (hj : j < 66) : (l.flatMap wpC)[i * 66 + j]? = (wpC (l[i]))[j]? := by
  induction l generalizing i with
  | nil => simp at hi
  | cons a l ih =>
    have ha : (wpC a).length = 66 := wpC_len a (h a (by simp))
    cases i with
    | zero =>
      rw [List.flatMap_cons, Nat.zero_mul, Nat.zero_add, List.getElem?_append_left (by omega)]
      rfl
    | succ i =>
      rw [List.flatMap_cons, show (i + 1) * 66 + j = 66 + (i * 66 + j) by omega, List.getElem?_append_right (by omega), ha, show 66 + (i * 66 + j) - 66 = i * 66 + j by omega, ih (fun w hw => h w (by simp [hw])) i (by simpa using hi)]
      rfl
theorem sizeWr : (Tryz.prog.info? 108).map (·.size) = some 66 := by kernel_rfl
def firstIdx (l : List Wr) (k : Nat) : Nat := l.findIdx fun w => w.id == k

set_option maxRecDepth 100000 in
set_option maxHeartbeats 1000000 in
theorem pIndexFunc (v : Value) (l : List Wr) (k cv : Nat) (w : World) (hv : w.ownsRow 0 108 66 v l.length (l.flatMap wpC)) (h64 : ∀ c ∈ l, c.p.length = 64) (hl : l.length ≤ 1000000) (hc : w.cell? ⟨cv, 0, none⟩ = some (.int .i64 (k : Int))) :
    Calls Tryz.prog 117 #[v, .func (.func 107) #[] #[.pointer (some ⟨cv, 0, none⟩)]] w fun e w' => e = .returned (.int .i64 (if firstIdx l k < l.length then (firstIdx l k : Int) else -1)) ∧ Grows w w' := by
  obtain ⟨a, cap, rfl⟩ := own_form hv
  have Hv := Lib.hid hv
  have H64 := Lib.hid h64
  have Hc := Lib.hid hc
  have hlI : (l.length : Int) ≤ 1000000 := by omega
  obtain ⟨rv, Hrv⟩ : ∃ r : Int, Hid ((if firstIdx l k < l.length then (firstIdx l k : Int) else -1) = r) := ⟨_, rfl⟩
  rw [Hrv.out]
  clear hv h64 hl hc
  go_enter Tryz.func117, Tryz.ntmps117
  go_wp2
  go_loopw [5, 8] (fun _ t8 wr => ∃ i : Nat, i ≤ l.length ∧ t8 = .int .i64 i ∧ Hid (i ≤ firstIdx l k) ∧ Grows w wr)
    (fun _ t8 _ => l.length - (intOf t8).toNat)
  case atStart => exact ⟨0, by omega, rfl, Nat.zero_le _, Below.refl _ _⟩
  case round =>
    obtain ⟨i, hin, rfl, Hb, hG⟩ := hrel
    have HG := Lib.hid hG
    clear hG
    by_cases hlt : i < l.length
    · have hltI : (i : Int) < (l.length : Int) := by omega
      have hbi : ¬ ((l.length : Int) ≤ (i : Int)) := by omega
      obtain ⟨g, cap', e1⟩ := own_some Hv.out (by omega)
      simp only [Value.slice.injEq] at e1
      obtain ⟨rfl, -, rfl⟩ := e1
      obtain ⟨c, hcc⟩ : ∃ c, l[i] = c := ⟨_, rfl⟩
      have Hc64 : Hid (c.p.length = 64) := by rw [← hcc]; exact H64.out _ (List.getElem_mem hlt)
      have HcX : Hid (wr.rangeAt g (i * 66) (wpC c)) := fun j u hu => by
        have hj : j < 66 := by have := (List.getElem?_eq_some_iff.1 hu).1; rwa [wpC_len c Hc64.out] at this
        refine HG.out.cell' (own_cell Hv.out (i * 66 + j) _ ?_)
        rw [wpC_get H64.out i hlt j hj, hcc]
        exact hu
      have HD := Lib.hid (pDel c k cv wr (HG.out.cell' Hc.out))
      obtain ⟨b, Hb'⟩ : ∃ b, Hid ((c.id == k) = b) := ⟨_, rfl⟩
      rw [Hb'.out] at HD
      have Hhit : Hid (b = true → firstIdx l k = i) := fun hb => by
        have hb' : (l[i].id == k) = true := by rw [hcc, Hb'.out, hb]
        have := Hb.out
        unfold firstIdx at this ⊢
        rcases Nat.lt_or_ge i (l.findIdx fun w => w.id == k) with h' | h'
        · have h2 := List.not_of_lt_findIdx h'
          rw [h2] at hb'
          cases hb'
        · omega
      have Hmiss : Hid (b = false → i + 1 ≤ firstIdx l k) := fun hb => by
        have := Hb.out
        unfold firstIdx at this ⊢
        rcases Nat.lt_or_ge i (l.findIdx fun w => w.id == k) with h' | h'
        · exact h'
        · have he : (l.findIdx fun w => w.id == k) = i := by omega
          have h2 := List.findIdx_getElem (p := fun w : Wr => w.id == k) (xs := l) (w := by rw [he]; exact hlt)
          simp only [he] at h2
          rw [hcc, Hb'.out, hb] at h2
          cases h2
      have Hlt := Lib.hid hlt
      clear hcc hlt hin Hb
      go_wp2_with (first | (refine wpList_load_mid rfl 108 _ rfl g (i * 66) rfl (wpC c) _ HcX.out Tryz.underlying108 rfl (by rw [sizeWr, wpC_len c Hc64.out]) ?_) | fail)
      refine HD.out.mono ?_
      rintro e w2 ⟨rfl, hG2⟩
      have HG2 := Lib.hid (Grows.trans' HG.out hG2)
      clear hG2
      cases b with
      | true =>
        have Hi := Lib.hid (Hhit.out rfl)
        go_wp2
        go_ret
        have er : rv = (i : Int) := by rw [← Hrv.out, if_pos (by rw [Hi.out]; exact Hlt.out), Hi.out]
        exact ⟨by rw [er]; rfl, HG2.out⟩
      | false =>
        have Hi := Lib.hid (Hmiss.out rfl)
        go_wp2
        go_roundw
        case rel => exact ⟨i + 1, Hlt.out, by simp, Hi.out, HG2.out⟩
        case measure => have := Hlt.out; simp [intOf]; omega
    · have hltI : ¬ (i : Int) < (l.length : Int) := by omega
      have Hno : Hid (¬ firstIdx l k < l.length) := by show ¬ _; have := Hb.out; omega
      go_wp2
      go_ret
      have er : rv = -1 := by rw [← Hrv.out, if_neg Hno.out]
      exact ⟨by rw [er]; rfl, HG.out⟩

theorem run_clearK {P : Program} (w : World) (t e ty : TypeId) (z : Value) (k n : Nat) (ht : P.underlying t = some (.slice e)) (hv : ∀ w, (zeroValue e).run P w = .ok z w) (hz : z.cells.size = k) (h1 : ∀ u ∈ (Builtin.zeroCells z.cells n).toList, u.oneCell' = true) (g o c : Nat) (hn : 0 < n)
    (cur : Array Value) (T : TypeId) (hg : w.heap[g]? = some (.cells cur T (0, 0))) (hfit : o + n * k ≤ cur.size) :
    (Builtin.clear_ #[t] ty #[.slice (some ⟨g, o, none⟩) n c]).run P w = .ok (.tuple #[]) (w.setRow g (ovr cur o (Builtin.zeroCells z.cells n).toList)) := by
  have hl : (Builtin.zeroCells z.cells n).toList.length = n * k := by rw [Array.length_toList, size_zeroCells, hz]
  have hst := run_storeCells_at P g o T (Builtin.zeroCells z.cells n).toList 0 cur w hg (by rw [hl]; omega) h1
  simp only [Nat.add_zero] at hst
  obtain ⟨m, rfl⟩ : ∃ m, n = m + 1 := ⟨n - 1, by omega⟩
  simp [Builtin.clear_, run_underlying ht, hv, hst, ovr, Result.andThen]
theorem wpList_clearK {P : Program} {w : World} {ops : Array Oper} {rest : List Oper} {o : Oper} {a : Act} {Q : Exit → Act → World → Prop} (hgd : o.guard = none) (x : Operand) (t e : TypeId) (ho : o.op = .call { callee := .builtin .clear, args := #[x], argTypes := #[t] })
    (z : Value) (k : Nat) (ht : P.underlying t = some (.slice e)) (hv : ∀ w, (zeroValue e).run P w = .ok z w) (hz : z.cells.size = k) (n : Nat) (h1 : ∀ u ∈ (Builtin.zeroCells z.cells n).toList, u.oneCell' = true) (g of c : Nat) (hn : 0 < n)
    (cur : Array Value) (T : TypeId) (hg : w.heap[g]? = some (.cells cur T (0, 0))) (hfit : of + n * k ≤ cur.size) (hx : a.eval x = .slice (some ⟨g, of, none⟩) n c) (Z : List Value) (hZ : (Builtin.zeroCells z.cells n).toList = Z)
    (h : wpList P ops Q rest (a.put o.dst (.tuple #[])) (w.setRow g (ovr cur of Z))) : wpList P ops Q (o :: rest) a w := by
  subst hZ
  refine wpList_plain hgd fun K hK => ?_
  have hr := run_clearK w t e o.type z k n ht hv hz h1 g of c hn cur T hg hfit
  unfold Oper.wp execOp
  simp only [ho, resolve, invoke, builtin, Sem.run_bind, Sem.run_pure, Result.andThen_ok, List.map_toArray, List.map_cons, List.map_nil, hx, hr]
  exact hK _ _ h

def flt (k : Nat) (l : List Wr) : List Wr := l.filter fun w => !(w.id == k)
theorem flt_le (k : Nat) (l : List Wr) : (flt k l).length ≤ l.length := List.length_filter_le _ _
/-- What stands in the row while writes are taken away: i of those ahead of j are left. -/
structure DelRow (W : World) (g cap : Nat) (l : List Wr) (k j i : Nat) : Prop where
  row : ∃ cur, W.heap[g]? = some (.cells cur 108 (0, 0)) ∧ cur.size = cap * 66 ∧ cur.toList.take (i * 66) = (flt k (l.take j)).flatMap wpC ∧ (cur.toList.drop (j * 66)).take ((l.length - j) * 66) = (l.drop j).flatMap wpC
  len : i = (flt k (l.take j)).length
theorem DelRow.le {W : World} {g cap : Nat} {l : List Wr} {k j i : Nat} (h : DelRow W g cap l k j i) : i ≤ j := by
  rw [h.len]
  exact Nat.le_trans (flt_le _ _) (List.length_take_le _ _)
theorem DelRow.grows {W W' : World} {g cap : Nat} {l : List Wr} {k j i : Nat} (h : DelRow W g cap l k j i) (hg : Grows W W') : DelRow W' g cap l k j i := by
  obtain ⟨⟨cur, hr, rest⟩, hl⟩ := h
  exact ⟨⟨cur, hg.heap' hr, rest⟩, hl⟩
theorem DelRow.row_eq {W W' : World} {g cap : Nat} {l : List Wr} {k j i : Nat} (h : DelRow W g cap l k j i) (he : W'.heap[g]? = W.heap[g]?) : DelRow W' g cap l k j i := by
  obtain ⟨⟨cur, hr, rest⟩, hl⟩ := h
  exact ⟨⟨cur, he.trans hr, rest⟩, hl⟩
theorem DelRow.start {W : World} {g cap n : Nat} {l : List Wr} {k : Nat} (h : W.ownsRow 0 108 66 (.slice (some ⟨g, 0, none⟩) n cap) n (l.flatMap wpC)) (hn : n = l.length) (h64 : ∀ c ∈ l, c.p.length = 64) (hi : firstIdx l k < l.length) : DelRow W g cap l k (firstIdx l k + 1) (firstIdx l k) := by
  subst hn
  have hflt : flt k (l.take (firstIdx l k + 1)) = l.take (firstIdx l k) := by
    unfold flt
    rw [List.take_succ_eq_append_getElem hi, List.filter_append]
    have h1 : (l.take (firstIdx l k)).filter (fun w => !(w.id == k)) = l.take (firstIdx l k) := by
      refine List.filter_eq_self.2 fun w hw => ?_
      obtain ⟨j, hj, rfl⟩ := List.mem_iff_getElem.1 hw
      have hj' : j < firstIdx l k := by simp at hj; omega
      have := List.not_of_lt_findIdx (p := fun w : Wr => w.id == k) (xs := l) (i := j) hj'
      simpa using this
    have h2 : (l[firstIdx l k].id == k) = true := List.findIdx_getElem (p := fun w : Wr => w.id == k) (xs := l) (w := hi)
    rw [h1, List.filter_cons_of_neg (by simp [h2])]
    simp
  rcases h.2 with ⟨h0, _⟩ | ⟨g', cap', cur, h0, hb, hg, hnc, hcm, hcs, ht⟩
  · cases h0
  · simp only [Value.slice.injEq, Option.some.injEq, Addr.mk.injEq] at h0
    obtain ⟨⟨rfl, -⟩, -, rfl⟩ := h0
    have hwl := wpC_flat h64
    refine ⟨⟨cur, hg, hcs, ?_, ?_⟩, by rw [hflt, List.length_take]; omega⟩
    · rw [hflt]
      have e1 : l.flatMap wpC = (l.take (firstIdx l k)).flatMap wpC ++ (l.drop (firstIdx l k)).flatMap wpC := by rw [← List.flatMap_append, List.take_append_drop]
      have e2 : ((l.take (firstIdx l k)).flatMap wpC).length = firstIdx l k * 66 := by
        rw [wpC_flat fun c hc => h64 c (List.mem_of_mem_take hc), List.length_take]
        congr 1
        omega
      have e3 : cur.toList.take (firstIdx l k * 66) = (cur.toList.take (l.length * 66)).take (firstIdx l k * 66) := by rw [List.take_take, Nat.min_eq_left (by omega)]
      rw [e3, ht, e1, List.take_left' e2]
    · have e1 : l.flatMap wpC = (l.take (firstIdx l k + 1)).flatMap wpC ++ (l.drop (firstIdx l k + 1)).flatMap wpC := by rw [← List.flatMap_append, List.take_append_drop]
      have e2 : ((l.take (firstIdx l k + 1)).flatMap wpC).length = (firstIdx l k + 1) * 66 := by
        rw [wpC_flat fun c hc => h64 c (List.mem_of_mem_take hc), List.length_take]
        congr 1
        omega
      have e3 : (cur.toList.drop ((firstIdx l k + 1) * 66)).take ((l.length - (firstIdx l k + 1)) * 66) = (cur.toList.take (l.length * 66)).drop ((firstIdx l k + 1) * 66) := by
        rw [List.drop_take]
        congr 1
        omega
      rw [e3, ht, e1, List.drop_left' e2]
/-- The element at j. -/
theorem DelRow.at {W : World} {g cap : Nat} {l : List Wr} {k j i : Nat} (h : DelRow W g cap l k j i) (h64 : ∀ c ∈ l, c.p.length = 64) (hj : j < l.length) : W.rangeAt g (j * 66) (wpC (l[j])) := by
  obtain ⟨⟨cur, hr, hs, h1, h2⟩, _⟩ := h
  intro t u hu
  have ht : t < 66 := by have := (List.getElem?_eq_some_iff.1 hu).1; rwa [wpC_len _ (h64 _ (List.getElem_mem hj))] at this
  rw [cell_of_row W g _ _ _ _ hr]
  have e1 : ((cur.toList.drop (j * 66)).take ((l.length - j) * 66))[t]? = cur.toList[j * 66 + t]? := by
    rw [List.getElem?_take_of_lt (by have : 1 ≤ l.length - j := by omega
                                     have := Nat.mul_le_mul_right 66 this
                                     omega), List.getElem?_drop]
  rw [← Array.getElem?_toList, ← e1, h2, List.drop_eq_getElem_cons hj, List.flatMap_cons, List.getElem?_append_left (by rw [wpC_len _ (h64 _ (List.getElem_mem hj))]; exact ht)]
  exact hu
theorem DelRow.skip {W : World} {g cap : Nat} {l : List Wr} {k j i : Nat} (h : DelRow W g cap l k j i) (h64 : ∀ c ∈ l, c.p.length = 64) (hj : j < l.length) (hc : (l[j].id == k) = true) : DelRow W g cap l k (j + 1) i := by
  obtain ⟨⟨cur, hr, hs, h1, h2⟩, hl⟩ := h
  have hf : flt k (l.take (j + 1)) = flt k (l.take j) := by
    unfold flt
    rw [List.take_succ_eq_append_getElem hj, List.filter_append, List.filter_cons_of_neg (by simp [hc])]
    simp
  refine ⟨⟨cur, hr, hs, by rw [hf]; exact h1, ?_⟩, by rw [hf]; exact hl⟩
  have ha := wpC_len _ (h64 _ (List.getElem_mem hj))
  rw [List.drop_eq_getElem_cons hj, List.flatMap_cons] at h2
  have h3 := congrArg (List.drop 66) h2
  rw [List.drop_take, List.drop_drop, List.drop_left' ha] at h3
  rw [show (j + 1) * 66 = j * 66 + 66 by omega, show (l.length - (j + 1)) * 66 = (l.length - j) * 66 - 66 by omega]
  exact h3
theorem DelRow.move {W : World} {g cap : Nat} {l : List Wr} {k j i : Nat} (h : DelRow W g cap l k j i) (h64 : ∀ c ∈ l, c.p.length = 64) (hn : l.length ≤ cap) (hj : j < l.length) (hc : (l[j].id == k) = false) :
    ∃ cur, W.heap[g]? = some (.cells cur 108 (0, 0)) ∧ i * 66 + (wpC (l[j])).length ≤ cur.size ∧ DelRow (W.setRow g (ovr cur (i * 66) (wpC (l[j])))) g cap l k (j + 1) (i + 1) := by
  have hij := h.le
  obtain ⟨⟨cur, hr, hs, h1, h2⟩, hl⟩ := h
  have ha := wpC_len _ (h64 _ (List.getElem_mem hj))
  have hcj : (j + 1) * 66 ≤ cap * 66 := Nat.mul_le_mul_right _ (by omega)
  have hfit : i * 66 + (wpC (l[j])).length ≤ cur.size := by
    rw [ha, hs]
    have := Nat.mul_le_mul_right 66 hij
    omega
  have hf : flt k (l.take (j + 1)) = flt k (l.take j) ++ [l[j]] := by
    unfold flt
    rw [List.take_succ_eq_append_getElem hj, List.filter_append, List.filter_cons_of_pos (by simp [hc])]
    simp
  refine ⟨cur, hr, hfit, ⟨⟨_, setRow_heap W g cur _ _ _ hr, by rw [ovr_size hfit]; exact hs, ?_, ?_⟩, by rw [hf, List.length_append, ← hl]; rfl⟩⟩
  · rw [hf, List.flatMap_append, ← h1]
    simp only [List.flatMap_cons, List.flatMap_nil, List.append_nil]
    unfold ovr
    rw [List.toList_toArray]
    have e : (cur.toList.take (i * 66) ++ wpC (l[j])).length = (i + 1) * 66 := by
      rw [List.length_append, ha, List.length_take, Array.length_toList]
      omega
    exact List.take_left' e
  · have h3 : ((ovr cur (i * 66) (wpC (l[j]))).toList.drop ((j + 1) * 66)) = cur.toList.drop ((j + 1) * 66) := by
      unfold ovr
      rw [List.toList_toArray]
      have e : (cur.toList.take (i * 66) ++ wpC (l[j])).length = i * 66 + 66 := by
        rw [List.length_append, ha, List.length_take, Array.length_toList]
        omega
      have hle := Nat.mul_le_mul_right 66 hij
      rw [List.drop_append, e, List.drop_eq_nil_of_le (by rw [e]; omega), List.nil_append, List.drop_drop, ha]
      congr 1
      omega
    rw [h3]
    rw [List.drop_eq_getElem_cons hj, List.flatMap_cons] at h2
    have h4 := congrArg (List.drop 66) h2
    rw [List.drop_take, List.drop_drop, List.drop_left' ha] at h4
    rw [show (j + 1) * 66 = j * 66 + 66 by omega, show (l.length - (j + 1)) * 66 = (l.length - j) * 66 - 66 by omega]
    exact h4
theorem DelRow.done {W : World} {g cap : Nat} {l : List Wr} {k i : Nat} (h : DelRow W g cap l k l.length i) (h64 : ∀ c ∈ l, c.p.length = 64) (hn : l.length ≤ cap) (hm : cap ≤ maxLen) (Z : List Value) (hZ : i * 66 + Z.length ≤ cap * 66) :
    ∃ cur, W.heap[g]? = some (.cells cur 108 (0, 0)) ∧ cur.size = cap * 66 ∧ (W.setRow g (ovr cur (i * 66) Z)).ownsRow 0 108 66 (.slice (some ⟨g, 0, none⟩) i cap) i ((flt k l).flatMap wpC) := by
  have hij := h.le
  obtain ⟨⟨cur, hr, hs, h1, h2⟩, hl⟩ := h
  rw [List.take_length] at h1 hl
  have hfit : i * 66 + Z.length ≤ cur.size := by rw [hs]; exact hZ
  refine ⟨cur, hr, hs, ?_, .inr ⟨g, cap, _, rfl, Nat.zero_le _, setRow_heap W g cur _ _ _ hr, by omega, hm, by rw [ovr_size hfit]; exact hs, ?_⟩⟩
  · have hfl : ((flt k l).flatMap wpC).length = (flt k l).length * 66 := wpC_flat fun c hc => h64 c (List.mem_filter.1 hc).1
    rw [hfl, hl]
  · rw [← h1]
    unfold ovr
    rw [List.toList_toArray, List.append_assoc, List.take_append_of_le_length (by rw [List.length_take, Array.length_toList]; omega), List.take_take, Nat.min_self]
theorem zeroWr : ∃ z : Value, z.cells.size = 66 ∧ (∀ u ∈ z.cells, u.oneCell' = true) ∧ ∀ w, (zeroValue 108).run Tryz.prog w = .ok z w := by
  obtain ⟨i, z, hi, hz, _, _, hzs⟩ := infoWr_parts
  have hone : (match (Tryz.prog.info? 108).bind (·.zero) with | some z => z.cells.all (·.oneCell') | none => false) = true := by kernel_rfl
  rw [hi] at hone
  simp only [Option.bind_some, hz] at hone
  exact ⟨z, hzs, fun u hu => (Array.all_eq_true_iff_forall_mem.1 hone) u hu, fun w => by simp [zeroValue, typeInfo, hi, hz]⟩
theorem zero_one {z : Value} {k : Nat} (hk : z.cells.size = k) (h0 : 0 < k) (h1 : ∀ u ∈ z.cells, u.oneCell' = true) (n : Nat) : ∀ u ∈ (Builtin.zeroCells z.cells n).toList, u.oneCell' = true := by
  intro u hu
  unfold Builtin.zeroCells at hu
  simp only [Array.toList_map, List.mem_map] at hu
  obtain ⟨j, _, rfl⟩ := hu
  have hj : j % z.cells.size < z.cells.size := Nat.mod_lt _ (by omega)
  rw [getElem!_pos z.cells (j % z.cells.size) hj]
  exact h1 _ (Array.getElem_mem hj)
theorem zeroWrC : ((Tryz.prog.info? 108).bind (fun i => i.zero)).map (fun z => z.cells.size) = some 66 := by
  obtain ⟨i, z, hi, hz, _, _, hzs⟩ := infoWr_parts
  rw [hi]
  simp [hz, hzs]

set_option maxRecDepth 100000 in
set_option maxHeartbeats 2000000 in
theorem pDeleteFunc (v : Value) (l : List Wr) (k cv : Nat) (w : World) (hv : w.ownsRow 0 108 66 v l.length (l.flatMap wpC)) (h64 : ∀ c ∈ l, c.p.length = 64) (hl : l.length ≤ 1000000) (hc : w.cell? ⟨cv, 0, none⟩ = some (.int .i64 (k : Int))) (hcv : v.ownBlock ≠ some cv) :
    Calls Tryz.prog 106 #[v, .func (.func 107) #[] #[.pointer (some ⟨cv, 0, none⟩)]] w fun e w' => ∃ v', e = .returned v' ∧ w'.ownsRow 0 108 66 v' (flt k l).length ((flt k l).flatMap wpC) ∧ But (fun j => v.ownBlock = some j) w w' ∧ v'.ownBlock = v.ownBlock := by
  have HI := Lib.hid (pIndexFunc v l k cv w hv h64 hl hc)
  have Hv := Lib.hid hv
  have H64 := Lib.hid h64
  have Hc := Lib.hid hc
  have Hcv := Lib.hid hcv
  have hlI : (l.length : Int) ≤ 1000000 := by omega
  by_cases hi : firstIdx l k < l.length
  · rw [if_pos hi] at HI
    obtain ⟨g, cap, rfl⟩ := own_some hv (by omega)
    have Hcap : Hid (l.length ≤ cap ∧ cap ≤ maxLen) := by
      rcases hv.2 with ⟨h0, _⟩ | ⟨g', cap', cur, h0, hb, hg, hnc, hcm, hcs, ht⟩
      · cases h0
      · simp only [Value.slice.injEq] at h0
        rw [h0.2.2]
        exact ⟨hnc, hcm⟩
    obtain ⟨i0, Hi0⟩ : ∃ i, Hid (firstIdx l k = i) := ⟨_, rfl⟩
    have Hst := Lib.hid (DelRow.start hv rfl h64 hi)
    rw [Hi0.out] at HI Hst hi
    have Hlt := Lib.hid hi
    have h1 : ¬ ((i0 : Int) = -1) := by omega
    have h2 : ((i0 : Int) == -1) = false := by simp [h1]
    clear hv h64 hl hc hcv
    obtain ⟨ln, Hln⟩ : ∃ n, Hid (l.length = n) := ⟨_, rfl⟩
    rw [Hln.out] at HI hlI hi ⊢
    have hiI : (i0 : Int) < (ln : Int) := by omega
    clear hi
    go_enter Tryz.func106, Tryz.ntmps106
    go_wp2_with fail
    refine HI.out.mono ?_
    rintro e w1 ⟨rfl, hG⟩
    have HG := Lib.hid hG
    have HS1 := Lib.hid (Hst.out.grows hG)
    clear hG
    go_wp2
    go_loopw [5, 6, 7] (fun t5 t6 _ wr => ∃ i j : Nat, i0 + 1 ≤ j ∧ j ≤ ln ∧ t5 = .int .i64 i ∧ t6 = .int .i64 j ∧ DelRow wr g cap l k j i ∧ But (fun j => j = g) w wr)
      (fun _ t6 _ _ => ln - (intOf t6).toNat)
    case atStart => exact ⟨i0, i0 + 1, by omega, by omega, rfl, by simp, HS1.out, But.ofGrows HG.out⟩
    case round =>
      obtain ⟨i, j, hj1, hjn, rfl, rfl, hD, hB⟩ := hrel
      have HD := Lib.hid hD
      have HB := Lib.hid hB
      clear hD hB
      have Hij := Lib.hid HD.out.le
      by_cases hlt : j < ln
      · have hltI : (j : Int) < (ln : Int) := by omega
        have hbi : ¬ ((ln : Int) ≤ (j : Int)) := by omega
        have hiln : (i : Int) < (ln : Int) := by have := Hij.out; omega
        have hjl : j < l.length := by rw [Hln.out]; exact hlt
        obtain ⟨c, hcc⟩ : ∃ c, l[j] = c := ⟨_, rfl⟩
        have Hc64 : Hid (c.p.length = 64) := by rw [← hcc]; exact H64.out _ (List.getElem_mem hjl)
        have hat := HD.out.at H64.out hjl
        rw [hcc] at hat
        have Hat := Lib.hid hat
        have hcvr : wr.cell? ⟨cv, 0, none⟩ = some (.int .i64 (k : Int)) := HB.out.cell (p := ⟨cv, 0, none⟩) (fun e => Hcv.out (by show some g = some cv; rw [show cv = g from e])) Hc.out
        obtain ⟨b, Hb'⟩ : ∃ b, Hid ((c.id == k) = b) := ⟨_, rfl⟩
        have Hskip : Hid (b = true → DelRow wr g cap l k (j + 1) i) := fun hb => HD.out.skip H64.out hjl (by rw [hcc, Hb'.out, hb])
        have Hmove : Hid (b = false → ∃ cur, wr.heap[g]? = some (.cells cur 108 (0, 0)) ∧ i * 66 + (wpC c).length ≤ cur.size ∧ DelRow (wr.setRow g (ovr cur (i * 66) (wpC c))) g cap l k (j + 1) (i + 1)) := fun hb => by
          have := HD.out.move H64.out Hcap.out.1 hjl (by rw [hcc, Hb'.out, hb])
          rw [hcc] at this
          exact this
        have Hgr : Hid (∃ cur, wr.heap[g]? = some (.cells cur 108 (0, 0))) := by obtain ⟨⟨cur, hr, _⟩, _⟩ := HD.out; exact ⟨cur, hr⟩
        obtain ⟨iw, zw, hiw, hzw, hsw, -, hzsw⟩ := infoWr_parts
        obtain ⟨zc, Hzc⟩ : ∃ y, Hid (zw.cells = y) := ⟨_, rfl⟩
        have Hzi : Hid (((Tryz.prog.info? 108).bind (fun i => i.zero)).map (fun z => z.cells) = some zc) := by show _ = _; rw [hiw]; simp [hzw, Hzc.out]
        have Hzn : Hid (zc.size = 66) := by show _ = _; rw [← Hzc.out]; exact hzsw
        obtain ⟨C, HC⟩ : ∃ C, Hid ((wpC c).toArray = C) := ⟨_, rfl⟩
        have HCn : Hid (C.size = 66) := by show _ = _; rw [← HC.out, List.size_toArray, wpC_len c Hc64.out]
        have Hlt' := Lib.hid hlt
        have Hj1 := Lib.hid hj1
        obtain ⟨nb, Hnb⟩ : ∃ n, Hid (wr.heap.size = n) := ⟨_, rfl⟩
        have hnew := heap_alloc_new wr (.cells zc 108)
        rw [Hnb.out] at hnew
        have Hnew := Lib.hid hnew
        have hG2 : Grows wr ((wr.alloc (.cells zc 108)).setRow nb C) := by
          refine ⟨rfl, rfl, rfl, by simp, fun k hk => ?_⟩
          rw [setRow_other _ nb k C (by have := Hnb.out; omega)]
          exact heap_alloc_old wr _ hk
        have Hrow2 : Hid (((wr.alloc (.cells zc 108)).setRow nb C).heap[nb]? = some (.cells C 108 (0, 0))) := setRow_heap _ nb zc C _ _ hnew
        have HG2 := Lib.hid hG2
        have HDl := pDel c k cv ((wr.alloc (.cells zc 108)).setRow nb C) (hG2.cell' hcvr)
        rw [HC.out, Hb'.out] at HDl
        have HDl := Lib.hid HDl
        clear hcc hlt hjl hat hcvr hiw hzw hsw hzsw hj1 hjn hnew hG2
        go_wp2_with (first
          | (refine wpList_load_mid rfl 108 _ rfl g (j * 66) rfl (wpC c) _ Hat.out Tryz.underlying108 rfl (by rw [sizeWr, wpC_len c Hc64.out]) ?_; rw [HC.out])
          | (refine wpList_allocT rfl 108 rfl zc Hzi.out ?_; rw [Hnb.out])
          | (refine wpList_storeT rfl 108 _ _ rfl nb 108 zc C rfl rfl Hnew.out (by rw [sizeWr, HCn.out]) (by rw [Hzn.out, HCn.out]) (by rw [← HC.out]; exact all_oneCell_toArray (wpC_one c)) ?_)
          | (refine wpList_load_row rfl 108 _ rfl nb rfl 108 C (0, 0) _ Hrow2.out Tryz.underlying108 rfl (by rw [sizeWr, HCn.out]) ?_)
          | fail)
        refine HDl.out.mono ?_
        rintro e w5 ⟨rfl, hG5⟩
        have HG5 := Lib.hid (Grows.trans' HG2.out hG5)
        have HR5 := Lib.hid (hG5.heap' Hrow2.out)
        clear hG5
        cases b with
        | true =>
          have HS := Lib.hid ((Hskip.out rfl).grows HG5.out)
          go_wp2
          go_roundw
          case rel => exact ⟨i, j + 1, by have := Hj1.out; omega, Hlt'.out, rfl, by simp, HS.out, HB.out.trans' (But.ofGrows HG5.out)⟩
          case measure => have := Hlt'.out; simp [intOf]; omega
        | false =>
          obtain ⟨cur, hcur, hfit, hD6⟩ := Hmove.out rfl
          have Hcur := Lib.hid (HG5.out.heap' hcur)
          have Hfit := Lib.hid hfit
          have HD6 : Hid (DelRow (w5.setRow g (ovr cur (i * 66) (wpC c))) g cap l k (j + 1) (i + 1)) := hD6.row_eq (by rw [setRow_heap w5 g cur _ _ _ Hcur.out, setRow_heap wr g cur _ _ _ hcur])
          have HB6 : Hid (But (fun j => j = g) w (w5.setRow g (ovr cur (i * 66) (wpC c)))) := But.setRow (HB.out.trans' (But.ofGrows HG5.out)) _ _ rfl
          clear hcur hfit hD6
          go_wp2_with (first
            | (refine wpList_load_row rfl 108 _ rfl nb rfl 108 C (0, 0) _ HR5.out Tryz.underlying108 rfl (by rw [sizeWr, HCn.out]) ?_)
            | (refine wpList_storePart rfl 108 _ _ rfl g (i * 66) 108 cur (wpC c) C HC.out rfl rfl Hcur.out Hfit.out (by rw [sizeWr, wpC_len c Hc64.out]) (wpC_one c) ?_)
            | go_in)
          go_roundw
          case rel => exact ⟨i + 1, j + 1, by have := Hj1.out; omega, Hlt'.out, by simp, by simp, HD6.out, HB6.out⟩
          case measure => have := Hlt'.out; simp [intOf]; omega
      · have hltI : ¬ (j : Int) < (ln : Int) := by omega
        have hje : j = l.length := by rw [Hln.out]; omega
        have hD := HD.out
        rw [hje] at hD
        obtain ⟨zc, hzs, hz1, hzv⟩ := zeroWr
        have hin : i < ln := by
          rw [hD.len, List.take_length]
          have hm : ∃ x ∈ l, ¬ (!(x.id == k)) = true := by
            have hlt2 : firstIdx l k < l.length := by rw [Hi0.out]; exact Hlt.out
            have h2 : (l[firstIdx l k].id == k) = true := List.findIdx_getElem (p := fun w : Wr => w.id == k) (xs := l) (w := hlt2)
            exact ⟨l[firstIdx l k], List.getElem_mem hlt2, by simp [h2]⟩
          have := List.length_filter_lt_length_iff_exists.2 hm
          unfold flt
          omega
        obtain ⟨Z, HZ⟩ : ∃ Z, Hid ((Builtin.zeroCells zc.cells (ln - i)).toList = Z) := ⟨_, rfl⟩
        have hZl : Z.length = (ln - i) * 66 := by rw [← HZ.out, Array.length_toList, size_zeroCells, hzs]
        have hcapm := Nat.mul_le_mul_right 66 Hcap.out.1
        have hZfit : i * 66 + Z.length ≤ cap * 66 := by
          rw [hZl, ← Nat.add_mul]
          rw [Hln.out] at hcapm
          rw [show i + (ln - i) = ln by omega]
          exact hcapm
        obtain ⟨cur, hcur, hcs, hown⟩ := hD.done H64.out Hcap.out.1 Hcap.out.2 Z hZfit
        have hncap : ¬ (cap = i) := by have := Hcap.out.1; rw [Hln.out] at this; omega
        have hilI : (i : Int) ≤ (ln : Int) := by omega
        have hcapI : (i : Int) ≤ (cap : Int) := by have := Hcap.out.1; rw [Hln.out] at this; omega
        have Hcur := Lib.hid hcur
        have Hown := Lib.hid hown
        have Hzf : Hid (i * 66 + (ln - i) * 66 ≤ cur.size) := by show _ ≤ _; rw [hcs, ← hZl]; exact hZfit
        have HB6 : Hid (But (fun j => j = g) w (wr.setRow g (ovr cur (i * 66) Z))) := But.setRow HB.out _ _ rfl
        have Hin := Lib.hid hin
        have Hlen : Hid (i = (flt k l).length) := by have := hD.len; rw [List.take_length] at this; exact this
        clear hje hD hin hZl hcapm hZfit hcur hcs hown
        have hcl := run_clearK (P := Tryz.prog) wr 96 108 0 zc 66 (ln - i) Tryz.underlying96 hzv hzs (zero_one hzs (by omega) hz1 _) g (i * 66) (cap - i) (by have := Hin.out; omega) cur _ Hcur.out Hzf.out
        rw [HZ.out] at hcl
        have Hcl := Lib.hid hcl
        clear hcl
        go_wp2
        rw [Hcl.out]
        simp only [Result.andThen]
        rw [Oper.upon_value]
        go_wp2
        go_ret
        refine ⟨.slice (some ⟨g, 0, none⟩) i cap, rfl, by rw [← Hlen.out]; exact Hown.out, HB6.out.mono fun j hj => by rw [hj]; rfl, rfl⟩
  · rw [if_neg hi] at HI
    obtain ⟨a, cap, rfl⟩ := own_form hv
    have hall : flt k l = l := by
      unfold flt
      refine List.filter_eq_self.2 fun x hx => ?_
      have h0 : firstIdx l k = l.length := by
        unfold firstIdx at hi ⊢
        have := List.findIdx_le_length (p := fun w : Wr => w.id == k) (xs := l)
        omega
      obtain ⟨j, hj, rfl⟩ := List.mem_iff_getElem.1 hx
      have := List.not_of_lt_findIdx (p := fun w : Wr => w.id == k) (xs := l) (i := j) (by unfold firstIdx at h0; omega)
      simpa using this
    rw [hall]
    obtain ⟨ln, Hln⟩ : ∃ n, Hid (l.length = n) := ⟨_, rfl⟩
    rw [Hln.out] at HI Hv hlI ⊢
    clear hv h64 hl hc hcv hi hall
    go_enter Tryz.func106, Tryz.ntmps106
    go_wp2_with fail
    refine HI.out.mono ?_
    rintro e w1 ⟨rfl, hG⟩
    have HG := Lib.hid hG
    clear hG
    go_wp2
    go_ret
    exact ⟨_, rfl, own_grows Hv.out HG.out, But.ofGrows HG.out, rfl⟩
end Go.Proofs.YtoppcpiheaedlaaGreatDoor
