/-
  Contracts: take, within, Parse.
-/
import Derived.Test.YtpodbhimkbadhaaSlK
import Derived.Laws.Cover3
namespace Go.Proofs.Ytpodbhimkbadhaa
open Go.RowKit
set_option linter.unusedVariables false
set_option linter.unusedSimpArgs false

/-! A row of 243 bools. -/
abbrev Marks := Nat → Bool
def markRow (T : Marks) (n : Nat) : List Value := (List.range n).map fun j => .bool (T j)
theorem markRow_length (T : Marks) (n : Nat) : (markRow T n).length = n := by simp [markRow]
def MarkAt (W : World) (q : Nat) (T : Marks) : Prop := W.heap[q]? = some (.cells (markRow T 243).toArray 60 (0, 0))
theorem MarkAt.cell {W : World} {q : Nat} {T : Marks} (h : MarkAt W q T) (i : Nat) (hi : i < 243) : W.cell? ⟨q, i, none⟩ = some (.bool (T i)) := by
  rw [cell_of_row W q i _ _ (0, 0) h]
  simp [markRow, hi]
theorem MarkAt.frozen {W : World} {q : Nat} {T : Marks} (h : MarkAt W q T) (i : Nat) : W.frozen? ⟨q, i, none⟩ = false := frozen_of_row W q i _ _ h
theorem MarkAt.grows {W W' : World} {q : Nat} {T : Marks} (h : MarkAt W q T) (k : Grows W W') : MarkAt W' q T := k.heap' h
theorem MarkAt.set {W : World} {q : Nat} {T : Marks} (h : MarkAt W q T) (i : Nat) (hi : i < 243) (b : Bool) : MarkAt (W.setCell ⟨q, i, none⟩ (.bool b)) q (fun j => if j = i then b else T j) := by
  unfold MarkAt
  rw [row_setCell h i]
  congr 2
  apply Array.ext'
  apply List.ext_getElem?
  intro j
  by_cases hj : j < 243
  · simp only [Array.toList_setIfInBounds, List.getElem?_set, markRow_length, markRow, List.getElem?_map, List.length_map, List.length_range]
    rw [List.getElem?_range hj]
    by_cases e : i = j
    · subst e; simp [hi]
    · have e' : ¬ j = i := fun h => e h.symm
      rw [if_neg e]; simp [e']
  · rw [List.getElem?_eq_none (by simp [markRow_length]; omega), List.getElem?_eq_none (by simp [markRow_length]; omega)]
theorem MarkAt.congr {W : World} {q : Nat} {T U : Marks} (h : MarkAt W q T) (he : ∀ j, T j = U j) : MarkAt W q U := by
  have : T = U := funext he
  rw [← this]; exact h
theorem markZero : ((Try.prog.info? 60).bind (fun i => i.zero)).map (fun z => z.cells) = some (markRow (fun _ => false) 243).toArray := by kernel_rfl
theorem wpList_allocM {w : World} {ops : Array Oper} {rest : List Oper} {o : Oper} {a : Act} {Q : Exit → Act → World → Prop} (hgd : o.guard = none) (ho : o.op = .alloc 60)
    (h : ∀ w', MarkAt w' w.heap.size (fun _ => false) → Grows w w' → wpList Try.prog ops Q rest (a.put o.dst (pb w.heap.size)) w') : wpList Try.prog ops Q (o :: rest) a w :=
  wpList_allocT hgd 60 ho _ markZero (h _ (heap_alloc_new _ _) (Grows.alloc' _ _))
theorem run_slM (w : World) (g L H : Nat) (lo hi : Int) (hlo : lo = (L : Int)) (hhi : hi = (H : Int)) (h1 : L ≤ H) (h2 : H ≤ 243) : (Instr.sliceAt 60 (.pointer (some ⟨g, 0, none⟩)) (some (.int .i64 lo)) (some (.int .i64 hi)) none).run Try.prog w = .ok (slv g L H) w := by
  subst hlo; subst hhi
  have hsz : (Try.prog.info? 4).map (·.size) = some 1 := by kernel_rfl
  obtain ⟨i, hi, hs⟩ := Option.map_eq_some_iff.1 hsz
  have he : Try.prog.elem 60 = 4 := by kernel_rfl
  have hn : Try.prog.arrayLen 60 = 243 := by kernel_rfl
  rw [run_sliceAt_array_lh w _ _ (by rw [he, hn]; exact Try.underlying60) .i64 .i64 L H (by omega) (by omega) (by rw [hn]; omega), he, hn]
  have hz : (sizeOf 4).run Try.prog w = .ok 1 w := by simp [sizeOf, typeInfo, hi, hs, Result.andThen]
  rw [hz]
  unfold slv sOff slicedAt
  simp only [Result.andThen_ok, Int.toNat_natCast, Nat.mul_one, Addr.add_lit, Nat.zero_add]
  split <;> rfl
def mk (T : Marks) (a b : Nat) : Marks := fun j => T j || decide (a ≤ j ∧ j < b)
set_option maxRecDepth 100000 in
theorem vTake (w : World) (q o s cap : Nat) (T : Marks) (h : MarkAt w q T) (hos : o + s ≤ 243) (hT : ∀ j, j < s → T (o + j) = false) :
    Calls Try.prog 40 #[.slice (some ⟨q, o, none⟩) s cap] w fun e w' => e = .returned (.bool true) ∧ MarkAt w' q (mk T o (o + s)) ∧ But (At q) w w' := by
  have H := Lib.hid h
  have HT := Lib.hid hT
  clear h hT
  go_enter Try.func40, Try.ntmps40
  go_wp2
  go_loopw [7] (fun t7 wr => ∃ k : Nat, k ≤ s ∧ t7 = .int .i64 k ∧ Hid (MarkAt wr q (mk T o (o + k))) ∧ Hid (But (At q) w wr)) (fun t7 _ => s - (intOf t7).toNat)
  case atStart => exact ⟨0, by omega, rfl, Lib.hid (H.out.congr fun j => by unfold mk; simp; omega), Lib.hid (But.refl' _ _)⟩
  case round =>
    obtain ⟨k, hk, rfl, Hm, Hu⟩ := hrel
    by_cases hlt : k < s
    · have hlt' : (k : Int) < (s : Int) := by omega
      have hok : o + k < 243 := by omega
      have ck := Hm.out.cell (o + k) hok
      have hf : mk T o (o + k) (o + k) = false := by
        unfold mk
        rw [HT.out k hlt]
        simp
      rw [hf] at ck
      have fk := Hm.out.frozen (o + k)
      have Hm2 := Lib.hid (Hm.out.set (o + k) hok true)
      clear hf
      go_wp2
      go_roundw
      case rel =>
        refine ⟨k + 1, by omega, by simp, Lib.hid (Hm2.out.congr fun j => ?_), Lib.hid (But.setCell Hu.out _ _ rfl)⟩
        unfold mk
        by_cases e : j = o + k
        · rw [if_pos e]; simp; right; omega
        · rw [if_neg e]
          congr 1
          rw [decide_eq_decide]
          omega
      case measure => simp [intOf]; omega
    · obtain rfl : k = s := by omega
      go_wp2
      go_ret
      exact ⟨rfl, Hm.out, Hu.out⟩
theorem vTakeS (w : World) (q p s : Nat) (T : Marks) (h : MarkAt w q T) (hps : p + s ≤ 243) (hT : ∀ j, j < s → T (p + j) = false) :
    Calls Try.prog 40 #[slv q p (p + s)] w fun e w' => e = .returned (.bool true) ∧ MarkAt w' q (mk T p (p + s)) ∧ But (At q) w w' := by
  unfold slv
  rw [show p + s - p = s by omega]
  by_cases e : 243 = p
  · have hs : s = 0 := by omega
    subst hs
    refine (vTake w q (sOff p) 0 (243 - p) T h (by unfold sOff; rw [if_pos e]; omega) (fun j hj => by omega)).mono ?_
    rintro e w' ⟨rfl, hm, hu⟩
    refine ⟨rfl, hm.congr fun j => ?_, hu⟩
    unfold mk
    congr 1
    rw [decide_eq_decide]
    omega
  · rw [show sOff p = p by unfold sOff; rw [if_neg e]]
    exact vTake w q p s (243 - p) T h hps hT
def tk (l : List Cl) : Marks := fun j => l.any fun c => decide (c.pl ≤ j ∧ j < c.pl + c.p.length)
theorem tk_succ (l : List Cl) (k : Nat) (h : k < l.length) (j : Nat) : tk (l.take (k + 1)) j = mk (tk (l.take k)) (cl l k).pl ((cl l k).pl + (cl l k).p.length) j := by
  unfold tk mk
  rw [List.take_succ_eq_append_getElem h, List.any_append, cl_get l k h]
  simp [tk]
theorem tk_free {A : Bo} (h : Wf A) (k : Nat) (hk : k < A.l.length) (m : Nat) (hm : m < (cl A.l k).p.length) : tk (A.l.take k) ((cl A.l k).pl + m) = false := by
  unfold tk
  rw [List.any_eq_false]
  intro c hc
  obtain ⟨i, hi, rfl⟩ := List.getElem_of_mem hc
  rw [List.length_take] at hi
  have e : (List.take k A.l)[i] = cl A.l i := by rw [cl_get A.l i (by omega)]; simp
  rw [e]
  simp only [decide_eq_true_eq, not_and, Nat.not_lt]
  intro h1
  by_cases h0 : 0 < (cl A.l i).p.length
  · rcases h.apart i k (by omega) hk (by omega) h0 (by omega) with h2 | h2 <;> omega
  · omega
set_option maxRecDepth 100000 in
set_option maxHeartbeats 1000000 in
theorem hWithin {w : World} {g : Nat} {f : Raw} {A : Bo} (h : Has w g f A) (hlow : ∀ k, k < A.l.length → A.top ≤ (cl A.l k).pl) : Calls Try.prog 38 #[pb g] w fun e w' => e = .returned (.bool true) ∧ Grows w w' := by
  obtain ⟨q, Hq⟩ : ∃ q, Hid (w.heap.size = q) := ⟨_, rfl⟩
  obtain ⟨n, Hn⟩ : ∃ n, Hid (A.l.length = n) := ⟨_, rfl⟩
  obtain ⟨t, Ht⟩ : ∃ t, Hid (A.top = t) := ⟨_, rfl⟩
  have Hh := Lib.hid h
  have hn := h.wf.dir
  have ht := h.wf.ntop.2.1
  rw [Hn.out, Ht.out] at hn
  rw [Ht.out] at ht
  have HD := Lib.hid (hDirEnd h)
  have HT := Lib.hid (fun (w : World) (h : Has w g f A) => hTop h)
  rw [Hn.out] at HD
  rw [Ht.out] at HT
  obtain ⟨d, Hd⟩ : ∃ d, Hid (2 + 2 * n = d) := ⟨_, rfl⟩
  rw [Hd.out] at HD
  have h1 : ¬ (t : Int) < (d : Int) := by have := Hd.out; omega
  have h2 : ¬ (243 : Int) < (t : Int) := by omega
  have hn120 : n ≤ 120 := by omega
  have Hlow := Lib.hid hlow
  clear h hn hlow
  go_enter Try.func38, Try.ntmps38
  go_wp2_with (first
    | (go_at_call 29; refine HD.out.mono ?_; rintro e w1 ⟨rfl, rfl⟩)
    | (go_at_call 30; refine (HT.out _ Hh.out).mono ?_; rintro e w1 ⟨rfl, rfl⟩)
    | (refine wpList_allocM rfl rfl ?_; intro w1 hb1 hg1; rw [Hq.out] at hb1 ⊢; have Hg1 := Lib.hid hg1; have Hb1 := Lib.hid hb1; clear hg1 hb1)
    | (go_at_call 18; refine (hLen (Hh.out.grows Hg1.out)).mono ?_; rintro e w1 ⟨rfl, rfl⟩; rw [Hn.out]))
  unfold pb
  go_loopw [19] (fun t19 wr => ∃ k : Nat, k ≤ n ∧ t19 = .int .i64 k ∧ Hid (MarkAt wr q (tk (A.l.take k))) ∧ Hid (Grows w wr)) (fun t19 _ => n - (intOf t19).toNat)
  case atStart => exact ⟨0, by omega, rfl, Lib.hid (Hb1.out.congr fun j => by simp [tk]), Hg1⟩
  case round =>
    obtain ⟨k, hk, rfl, Hm, Hg⟩ := hrel
    by_cases hlt : k < n
    · have hlt' : (k : Int) < (n : Int) := by omega
      have Hkn : Hid (k < A.l.length) := by show _ < _; rw [Hn.out]; exact hlt
      have Hhk := Lib.hid (Hh.out.grows Hg.out)
      have HEn := Lib.hid (hEntry Hhk.out k Hkn.out)
      obtain ⟨p, Hp⟩ : ∃ p, Hid ((cl A.l k).pl = p) := ⟨_, rfl⟩
      obtain ⟨s, Hs⟩ : ∃ s, Hid ((cl A.l k).p.length = s) := ⟨_, rfl⟩
      rw [Hp.out, Hs.out] at HEn
      have hps : p + s ≤ 243 := by rw [← Hp.out, ← Hs.out]; exact Hh.out.wf.end_ k Hkn.out
      have htp : t ≤ p := by rw [← Hp.out, ← Ht.out]; exact Hlow.out k Hkn.out
      have hs78 : s ≤ 78 := by rw [← Hs.out]; exact Hh.out.wf.len k Hkn.out
      have h3 : ¬ (p : Int) < (t : Int) := by omega
      have h4 : ¬ (243 : Int) < (p : Int) + (s : Int) := by omega
      have h5 : ¬ (78 : Int) < (s : Int) := by omega
      have Hfree : Hid (∀ j, j < s → tk (A.l.take k) (p + j) = false) := by
        show ∀ _, _
        intro j hj
        have := tk_free Hh.out.wf k Hkn.out j (by rw [Hs.out]; exact hj)
        rw [Hp.out] at this
        exact this
      have hpsI : (p : Int) + (s : Int) = ((p + s : Nat) : Int) := by omega
      have Hps := Lib.hid hps
      have hsl := fun w => run_slM w q p (p + s) (p : Int) ((p : Int) + (s : Int)) rfl (by omega) (by omega) hps
      unfold pb at HEn
      clear hpsI
      go_wp2_with (first
        | (go_at_call 34; refine HEn.out.mono ?_; rintro e w4 ⟨rfl, hg⟩; have Hge := Lib.hid (Grows.trans' Hg.out hg); have Hme := Lib.hid (Hm.out.grows hg); have Hhe := Lib.hid (Hhk.out.grows hg); clear hg)
        | (go_at_call 30; refine (HT.out _ Hhe.out).mono ?_; rintro e w5 ⟨rfl, rfl⟩))
      refine (vTakeS w4 q p s _ Hme.out Hps.out Hfree.out).mono ?_
      rintro e w5 ⟨rfl, hm5, hu5⟩
      have Hm5 : Hid (MarkAt w5 q (tk (A.l.take (k + 1)))) := hm5.congr fun j => by rw [tk_succ _ _ Hkn.out, Hp.out, Hs.out]
      have Hg5 := Lib.hid (but_new Hge.out hu5 (by rw [Hq.out]; exact Nat.le_refl _))
      clear hm5 hu5
      go_wp2
      go_roundw
      case rel => exact ⟨k + 1, by omega, by simp, Hm5, Hg5⟩
      case measure => simp [intOf]; omega
    · obtain rfl : k = n := by omega
      go_wp2
      go_ret
      exact ⟨rfl, Hg.out⟩
/-! Parse. -/
theorem fold_set (l : List Value) : ∀ (k : Nat) (z : Array Value), k + l.length ≤ z.size → ∀ j, ((l.zipIdx k).foldl (fun r (x : Value × Nat) => r.setIfInBounds (0 + x.2) x.1) z)[j]? = if k ≤ j ∧ j < k + l.length then l[j - k]? else z[j]? := by
  induction l with
  | nil => intro k z _ j; simp; intro h1 h2; omega
  | cons c l ih =>
    intro k z hz j
    simp only [List.length_cons] at hz
    rw [List.zipIdx_cons, List.foldl_cons, ih (k + 1) _ (by simp; omega) j]
    simp only [Nat.zero_add, List.length_cons]
    by_cases h1 : k + 1 ≤ j ∧ j < k + 1 + l.length
    · rw [if_pos h1, if_pos (by omega), show j - k = (j - (k + 1)) + 1 by omega, List.getElem?_cons_succ]
    · rw [if_neg h1]
      by_cases h2 : j = k
      · subst h2
        rw [if_pos (by omega), Nat.sub_self, Array.getElem?_setIfInBounds_self_of_lt (by omega)]
        rfl
      · rw [if_neg (by omega), Array.getElem?_setIfInBounds_ne (fun h => h2 h.symm)]
theorem fold_all (cs z : Array Value) (h : cs.size = z.size) : cs.zipIdx.foldl (fun r (x : Value × Nat) => r.setIfInBounds (0 + x.2) x.1) z = cs := by
  rw [← Array.foldl_toList, Array.toList_zipIdx]
  apply Array.ext_getElem?
  intro j
  rw [fold_set cs.toList 0 z (by simp; omega) j]
  simp only [Nat.zero_le, true_and, Nat.zero_add, Nat.sub_zero, Array.length_toList, Array.getElem?_toList]
  by_cases hj : j < cs.size
  · rw [if_pos hj]
  · rw [if_neg hj, Array.getElem?_eq_none (by omega), Array.getElem?_eq_none (by omega)]
theorem fill_one (place : Nat → Option (Nat × Nat)) (z cs : Array Value) (n : Nat) (hp : place 0 = some (0, n)) (h1 : cs.size = n) (h2 : z.size = n) : Instr.fill place z [(0, .agg cs)] = some cs := by
  have hf := fold_all cs z (by rw [h1, h2])
  have hv : (Value.agg cs).cells = cs := rfl
  unfold Instr.fill
  rw [hp]
  simp only [hv, h1, h2, Nat.zero_add, Nat.lt_irrefl, gt_iff_lt, ne_eq, not_true_eq_false, decide_false, Bool.or_self, Bool.false_eq_true, ↓reduceIte]
  unfold Instr.fill
  simp only [Nat.zero_add] at hf
  exact congrArg some hf
theorem run_buildOf (w : World) (cs : Array Value) (hcs : cs.size = 243) : (Instr.build 47 #[(0, .agg cs)]).run Try.prog w = .ok (.agg cs) w := by
  have hz := bodyZero
  have hu := Try.underlying47
  have hs : ((Try.prog.info? 45).map (·.size)) = some 243 := by kernel_rfl
  obtain ⟨j, hj, hjs⟩ := Option.map_eq_some_iff.1 hs
  cases hi : Try.prog.info? 47 with
  | none => rw [hi] at hz; simp at hz
  | some i =>
    cases hzz : i.zero with
    | none => rw [hi] at hz; simp [hzz] at hz
    | some z =>
      rw [hi] at hz
      simp only [Option.bind_some, hzz, Option.map_some] at hz
      have hcz := Option.some.inj hz
      have hf := fold_all cs ((rowOf zR 243).map bv).toArray (by rw [hcs, cellsB_size])
      simp [Instr.build, zeroValue, typeInfo, hi, hzz, run_underlying hu, sizeOf, hj, hjs, hcz]
      have hfl : Instr.fill (fun x => [(0, 243)][x]?) ((rowOf zR 243).map bv).toArray [(0, Value.agg cs)] = some cs := by
        exact fill_one _ _ cs 243 rfl hcs (cellsB_size zR)
      rw [hfl]
      rfl
/-- A load of several cells out of a longer row. -/
theorem wpList_loadPart {P : Program} {w : World} {ops : Array Oper} {rest : List Oper} {o : Oper} {a : Act} {Q : Exit → Act → World → Prop} (hgd : o.guard = none) (ty : TypeId) (x : Operand) (ho : o.op = .load ty x)
    (ad : Addr) (hx : a.eval x = .pointer (some ad)) (cs : List Value) (C : Array Value) (hC : cs.toArray = C) (d : TypeDesc) (hc : ∀ j v, cs[j]? = some v → w.cell? (ad.add j) = some v)
    (hu : P.underlying ty = some d) (hd : (match d with | .struct _ | .array _ _ => true | _ => false) = true) (hi : (P.info? ty).map (·.size) = some cs.length)
    (h : wpList P ops Q rest (a.put o.dst (.agg C)) w) : wpList P ops Q (o :: rest) a w := by
  subst hC
  refine wpList_plain hgd fun K hK => ?_
  have hl := run_loadCells_list (P := P) w ad cs hc
  cases hq : P.info? ty with
  | none => simp [hq] at hi
  | some i =>
    have hs : i.size = cs.length := by simpa [hq] using hi
    have hagg : (isAgg ty).run P w = .ok true w := by
      unfold isAgg
      simp only [Sem.run_bind, run_underlying hu, Result.andThen_ok]
      cases d <;> simp at hd <;> rfl
    have hlv : (loadVar ty ad).run P w = .ok (.agg cs.toArray) w := by
      simp [loadVar, hagg, sizeOf, typeInfo, hq, hs, hl]
    unfold Oper.wp execOp
    simp only [ho, hx, Instr.loadAt, Instr.sureAddr, Sem.run_bind, Sem.run_pure, Result.andThen_ok, hlv, Oper.upon]
    exact hK _ _ h

theorem wpList_buildOf {w : World} {ops : Array Oper} {rest : List Oper} {o : Oper} {a : Act} {Q : Exit → Act → World → Prop} (hgd : o.guard = none) (x : Operand) (ho : o.op = .build 47 #[(0, x)]) (cs : Array Value) (hx : a.eval x = .agg cs) (hcs : cs.size = 243)
    (h : wpList Try.prog ops Q rest (a.put o.dst (.agg cs)) w) : wpList Try.prog ops Q (o :: rest) a w := by
  refine wpList_plain hgd fun K hK => ?_
  unfold Oper.wp execOp
  simp only [ho, Sem.run_bind, Sem.run_pure, List.map_toArray, List.map_cons, List.map_nil, hx, run_buildOf w cs hcs, Result.andThen_ok]
  exact hK _ _ h
set_option maxRecDepth 100000 in
theorem hParse (w : World) (v : Value) (f : Raw) (B : Bo) (hv : Byt w v (rowOf f 243)) (he : Enc f B) (hw : Wf B) (hlow : ∀ k, k < B.l.length → B.top ≤ (cl B.l k).pl) :
    Calls Try.prog 21 #[v] w fun e w' => ∃ q, e = .returned (.tuple #[pb q, .int .i64 0]) ∧ Has w' q f B ∧ w.heap.size ≤ q ∧ Grows w w' := by
  obtain ⟨ad, cap, rfl, h1, h2, h3, h4⟩ := hv
  rw [rowOf_length] at h1 h4 ⊢
  obtain ⟨b, off, rfl, hc⟩ := h4.resolve_left (by intro h; have := congrArg List.length h; rw [rowOf_length] at this; cases this)
  obtain ⟨q, Hq⟩ : ∃ q, Hid (w.heap.size = q) := ⟨_, rfl⟩
  have HB := Lib.hid (alloc_body w f)
  rw [Hq.out] at HB
  obtain ⟨W0, HW0⟩ : ∃ W0, Hid (w.alloc (.cells ((rowOf f 243).map bv).toArray 47) = W0) := ⟨_, rfl⟩
  have HG : Hid (Grows w W0) := by show Grows _ _; rw [← HW0.out]; exact Grows.alloc' _ _
  rw [HW0.out] at HB
  have HH : Hid (Has W0 q f B) := ⟨HB.out, he, hw⟩
  have HWi := Lib.hid (hWithin HH.out hlow)
  have HC : Hid (∀ j v, ((rowOf f 243).map bv)[j]? = some v → w.cell? ((⟨b, off, none⟩ : Addr).add j) = some v) := by
    show ∀ _, _
    intro j v hj
    have hjl : j < 243 := by have := (List.getElem?_eq_some_iff.1 hj).1; simpa [rowOf_length] using this
    rw [Addr.add_lit, hc j hjl, ← hj, List.getElem?_map, rowOf_get _ _ _ hjl, rowOf_getD _ _ _ hjl]
    rfl
  have hsz : ((Try.prog.info? 45).map (·.size)) = some ((rowOf f 243).map bv).length := by rw [show ((rowOf f 243).map bv).length = 243 by simp [rowOf_length]]; kernel_rfl
  have Hsz := Lib.hid hsz
  have hat := fun (w : World) => run_arrayAt (P := Try.prog) (w := w) 45 5 243 (some ⟨b, off, none⟩) 243 cap Try.underlying45 (Nat.le_refl _)
  clear hc he hw hlow hsz h1 h2 h3 h4
  obtain ⟨C, HCs⟩ : ∃ C, Hid (((rowOf f 243).map bv).toArray = C) := ⟨_, rfl⟩
  have HCz : Hid (C.size = 243) := by show _ = _; rw [← HCs.out, cellsB_size]
  rw [HCs.out] at HW0
  go_enter Try.func21, Try.ntmps21
  go_wp2_with (first
    | (refine wpList_loadPart rfl 45 (.tmp 9) rfl ⟨b, off, none⟩ rfl ((rowOf f 243).map bv) C HCs.out _ HC.out Try.underlying45 rfl Hsz.out ?_)
    | (refine wpList_buildOf rfl (.tmp 10) rfl C rfl HCz.out ?_)
    | (refine wpList_boxT rfl 47 (.tmp 11) rfl C rfl ?_; rw [HW0.out, Hq.out])
    | (go_at_call 38; refine HWi.out.mono ?_; rintro e w2 ⟨rfl, hg⟩))
  go_ret2
  exact ⟨q, rfl, HH.out.grows hg, by rw [Hq.out]; exact Nat.le_refl _, Grows.trans' HG.out hg⟩
end Go.Proofs.Ytpodbhimkbadhaa
