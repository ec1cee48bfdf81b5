/-
  Small laws that every stage's walks use: what a byte's type is, slices that read as lists, the end of a law's body.
-/
import Derived.Test.YtoppcpiheaedlaaGreatDoorChecked
import Derived.Test.YtoppcpiheaedlaaGreatDoorByt
import Derived.Laws.Rows
import Derived.Laws.Tables
import Derived.Deep.MidRow
import Derived.Maps.AppendAt
import Derived.Laws.ResultCell
namespace Go.Proofs.YtoppcpiheaedlaaGreatDoor
open Go.RowKit
set_option linter.unusedVariables false
set_option linter.unusedSimpArgs false

theorem take_snoc (l : List UInt8) (k : Nat) (hk : k < l.length) : l.take (k + 1) = l.take k ++ [l.getD k 0] := by
  rw [List.take_succ_eq_append_getElem hk]; simp [List.getD, hk]
theorem info5 : (Tryz.prog.info? 5).map (fun i => (i.zero, i.size, i.bytes)) = some (some (.int .u8 0), 1, 1) := by kernel_rfl
theorem own_snoc {e : TypeId} {B : Nat} {W : World} {v : Value} {n : Nat} {xs : List Value} {l : List UInt8} (h : W.ownsRow B e 1 v n xs) (hn : n = l.length) (hx : xs = l.map bv) : Own e B W v l := by
  subst hn; subst hx; exact h
theorem get_drop (l : List UInt8) (k : Nat) (hk : k < l.length) : l.drop k = l.getD k 0 :: l.drop (k + 1) := by
  rw [List.drop_eq_getElem_cons hk]; simp [List.getD, hk]
theorem Own.empty (e : TypeId) (B : Nat) (W : World) (hB : B ≤ W.heap.size) : Own e B (W.alloc (.cells #[] e)) (.slice (some ⟨W.heap.size, 0, none⟩) 0 0) [] := by
  have := Own.lit e B W [] hB (by simp)
  simpa using this
theorem Byt.slice {W : World} {v : Value} {l : List UInt8} (h : Byt W v l) : ∃ a cap, v = .slice a l.length cap := by
  obtain ⟨a, cap, e, _⟩ := h
  exact ⟨a, cap, e⟩
theorem retTrue {P : Program} {fn : Func} {t : Tmp} {a : Act} {w0 W : World} (hr : fn.results = #[.tmp t]) (hd : a.defers = []) (h0 : a.tmps.getD t undef = .bool true) (hg : Grows w0 W) :
    bodyPost P fn (fun e w' => e = .returned (.bool true) ∧ Grows w0 w') .ret a W :=
  bodyPost_ret (results_tmp hr _ _ _) hd ⟨by rw [h0], hg⟩
theorem takeN (l : List Nat) (k : Nat) (hk : k < l.length) : l.take (k + 1) = l.take k ++ [l.getD k 0] := by
  rw [List.take_succ_eq_append_getElem hk]; simp [List.getD, hk]
theorem dropN (l : List Nat) (k : Nat) (hk : k < l.length) : l.drop k = l.getD k 0 :: l.drop (k + 1) := by
  rw [List.drop_eq_getElem_cons hk]; simp [List.getD, hk]
/-- What came in as a slice of 64-bit numbers. -/
theorem words_of_row {w : World} {a : Option Addr} {len cap : Nat} {zs : List Int}
    (h : (a = none ∧ len = 0 ∧ cap = 0 ∧ zs = []) ∨
      ∃ x, a = some x ∧ len ≤ cap ∧ cap ≤ maxLen ∧ zs.length = cap ∧ (∀ i, i < zs.length → w.cell? (x.add i) = some (.int .u64 (zs.getD i 0))) ∧ ∀ n ∈ zs, (Lit.int .u64 n).wf = true) :
    ∃ ns : List Nat, len = ns.length ∧ (∀ i, ns.getD i 0 < 18446744073709551616) ∧ (ns = [] ∨ ∃ b off, a = some ⟨b, off, none⟩ ∧ ∀ i, i < ns.length → w.cell? ⟨b, off + i, none⟩ = some (.int .u64 ((ns.getD i 0 : Nat) : Int))) := by
  rcases h with ⟨rfl, rfl, rfl, rfl⟩ | ⟨x, rfl, h1, h2, h3, h4, h5⟩
  · exact ⟨[], rfl, by simp, .inl rfl⟩
  · have hl : ((zs.take len).map Int.toNat).length = len := by simp; omega
    have hin : ∀ i, i < zs.length → 0 ≤ zs.getD i 0 ∧ zs.getD i 0 < 18446744073709551616 := fun i hi => by
      have hm : zs.getD i 0 ∈ zs := by
        rw [List.getD, List.getElem?_eq_getElem hi, Option.getD_some]
        exact List.getElem_mem _
      have hwf := h5 _ hm
      simp [Lit.wf, IntKind.min, IntKind.max, IntKind.bits, IntKind.signed] at hwf
      simp [List.getD] at *
      omega
    have e1 : ∀ i, i < len → ((zs.take len).map Int.toNat).getD i 0 = (zs.getD i 0).toNat := fun i hi => by
      simp [List.getD, hi, show i < zs.length by omega]
    refine ⟨(zs.take len).map Int.toNat, hl.symm, fun i => ?_, ?_⟩
    · by_cases hi : i < len
      · rw [e1 i hi]
        have := hin i (by omega)
        omega
      · have : ((zs.take len).map Int.toNat).getD i 0 = 0 := by
          rw [List.getD, List.getElem?_eq_none (by omega)]; rfl
        omega
    · by_cases h0 : len = 0
      · left; subst h0; simp
      · right
        obtain ⟨b, off, spot⟩ := x
        have hc := h4 0 (by omega)
        have hspot : spot = none := by simpa [Addr.add] using World.cell?_spot hc
        subst hspot
        refine ⟨b, off, rfl, fun i hi => ?_⟩
        rw [hl] at hi
        have hci := h4 i (by omega)
        rw [Addr.add_lit] at hci
        have := hin i (by omega)
        rw [hci, e1 i hi]
        congr 2
        omega

/-! Bytes of the call's own, one by one. -/
theorem Own.form {e : TypeId} {B : Nat} {W : World} {v : Value} {l : List UInt8} (h : Own e B W v l) (hn : 0 < l.length) : ∃ g cap, v = .slice (some ⟨g, 0, none⟩) l.length cap ∧ B ≤ g := by
  rcases h.2 with ⟨_, h0⟩ | ⟨g, cap, _, hv, hg, _⟩
  · omega
  · exact ⟨g, cap, hv, hg⟩
theorem Own.cell {e : TypeId} {B : Nat} {W : World} {g n cap : Nat} {l : List UInt8} (h : Own e B W (.slice (some ⟨g, 0, none⟩) n cap) l) (j : Nat) (hj : j < l.length) : W.cell? ⟨g, j, none⟩ = some (bv (l.getD j 0)) := by
  have hn : n = l.length := h.byt.len
  subst hn
  rw [World.ownsRow.cellAt h j (by omega)]
  simp [List.getD, hj]
theorem Own.unfrozen {e : TypeId} {B : Nat} {W : World} {g n cap : Nat} {l : List UInt8} (h : Own e B W (.slice (some ⟨g, 0, none⟩) n cap) l) (j : Nat) : W.frozen? ⟨g, j, none⟩ = false := by
  have hn : n = l.length := h.byt.len
  subst hn
  exact World.ownsRow.frozenAt h j
theorem Own.store {e : TypeId} {B : Nat} {W : World} {g n cap : Nat} {l : List UInt8} (h : Own e B W (.slice (some ⟨g, 0, none⟩) n cap) l) (j : Nat) (d : UInt8) : Own e B (W.setCell ⟨g, j, none⟩ (bv d)) (.slice (some ⟨g, 0, none⟩) n cap) (l.set j d) := by
  have hn : n = l.length := h.byt.len
  subst hn
  have := (World.ownsRow.stored h j (bv d)).1
  unfold Own
  rw [List.length_set, List.map_set]
  exact this

theorem nat_of_u32 {a : Int} (h : (Lit.int .u32 a).wf = true) : ∃ n : Nat, a = n ∧ n < 4294967296 := by
  simp [Lit.wf, IntKind.min, IntKind.max, IntKind.bits, IntKind.signed] at h
  exact ⟨a.toNat, by omega, by omega⟩
theorem byte_of_u8 {a : Int} (h : (Lit.int .u8 a).wf = true) : ∃ x : UInt8, a = (x.toNat : Int) := by
  simp [Lit.wf, IntKind.min, IntKind.max, IntKind.bits, IntKind.signed] at h
  exact ⟨UInt8.ofNat a.toNat, by rw [UInt8.toNat_ofNat']; omega⟩
theorem range_of_i64 {a : Int} (h : (Lit.int .i64 a).wf = true) : -9223372036854775808 ≤ a ∧ a ≤ 9223372036854775807 := by
  simp [Lit.wf, IntKind.min, IntKind.max, IntKind.bits, IntKind.signed] at h
  omega

theorem row_setCell {w : World} {b : Nat} {cs : Array Value} {t : TypeId} (h : w.heap[b]? = some (.cells cs t (0, 0))) (i : Nat) (u : Value) : (w.setCell ⟨b, i, none⟩ u).heap[b]? = some (.cells (cs.setIfInBounds i u) t (0, 0)) := by
  have hlt : b < w.heap.size := by
    rcases Nat.lt_or_ge b w.heap.size with h' | h'
    · exact h'
    · simp [Array.getElem?_eq_none h'] at h
  have h' : w.heap[b] = .cells cs t (0, 0) := by simpa [Array.getElem?_eq_getElem hlt] using h
  show (w.heap.modify b _)[b]? = _
  rw [Array.getElem?_eq_getElem (by simpa using hlt), Array.getElem_modify_self, h']
  rfl

theorem Grows.heap' {a b : World} (g : Grows a b) {k : Nat} {o : Obj} (h : a.heap[k]? = some o) : b.heap[k]? = some o := (g.block k (Array.getElem?_eq_some_iff.1 h).1).trans h
/-- 'append(v, x...)' onto bytes of the call's own, and where the new row lies. -/
theorem run_app_at {P : Program} {T e : TypeId} {W : World} {ty : TypeId} {i : TypeInfo} {B : Nat} {v x : Value} {l m : List UInt8} (hT : P.underlying T = some (.slice e)) (hi : P.info? e = some i) (hz : i.zero = some (.int .u8 0)) (hs : i.size = 1) (hb : i.bytes = 1)
    (hv : Own e B W v l) (hx : Byt W x m) (hlen : l.length + m.length ≤ 140737488355328) (hB : B ≤ W.heap.size) :
    ∃ v' W', (Builtin.append_ #[T, T] ty #[v, x]).run P W = .ok v' W' ∧ Own e B W' v' (l ++ m) ∧ W.grownBy W' v.ownBlock ∧ (v'.ownBlock = v.ownBlock ∨ v'.ownBlock = some W.heap.size) := by
  obtain ⟨a, cap, rfl, h1, h2, h3, h4⟩ := hx
  cases a with
  | none =>
    have hl : m = [] := by
      have := h3 rfl
      exact List.eq_nil_of_length_eq_zero (by omega)
    obtain rfl := h3 rfl
    subst hl
    exact ⟨v, W, run_append_owned_none W B T ty e i 1 hT hi v l.length _ hv, by simpa using hv, ⟨rfl, rfl, rfl, Nat.le_refl _, fun _ _ _ => rfl⟩, .inl rfl⟩
  | some x =>
    obtain ⟨v', W', hr, ho, hg, _, hat⟩ := run_append_own_at (P := P) W B T ty e i (.int .u8 0) 1 1 hT hi hz hs hb rfl (by decide) v l.length (l.map bv) hv x m.length cap (m.map bv) (by simp)
      (fun j u hu => by
        have hj : j < m.length := by simpa using (List.getElem?_eq_some_iff.1 hu).1
        rcases h4 with rfl | ⟨b, off, hx, hc⟩
        · simp at hj
        · obtain rfl := Option.some.inj hx
          rw [Addr.add_lit, hc j hj]
          simpa [hj, List.getD] using hu)
      (fun u hu => by
        obtain ⟨b, _, rfl⟩ := List.mem_map.1 hu
        rfl)
      (by simp [maxLen]; omega) (by omega) hB
    exact ⟨v', W', hr, by simpa [Own] using ho, hg, hat⟩
theorem wpList_app_at {P : Program} {W : World} {ops : Array Oper} {rest : List Oper} {o : Oper} {a : Act} {Q : Exit → Act → World → Prop} (hgd : o.guard = none) (s x : Operand) (T e : TypeId) (i : TypeInfo)
    (ho : o.op = .call { callee := .builtin .append, args := #[s, x], argTypes := #[T, T] })
    (hT : P.underlying T = some (.slice e)) (hi : P.info? e = some i) (hz : i.zero = some (.int .u8 0)) (hs : i.size = 1) (hb : i.bytes = 1)
    (B : Nat) (v u : Value) (l m : List UInt8) (hv : a.eval s = v) (hown : Own e B W v l) (hx : a.eval x = u) (hu : Byt W u m)
    (hlen : l.length + m.length ≤ 140737488355328) (hB : B ≤ W.heap.size)
    (hK : ∀ v' W', Own e B W' v' (l ++ m) → W.grownBy W' v.ownBlock → (v'.ownBlock = v.ownBlock ∨ v'.ownBlock = some W.heap.size) → wpList P ops Q rest (a.put o.dst v') W') : wpList P ops Q (o :: rest) a W := by
  refine wpList_plain hgd fun K hK' => ?_
  obtain ⟨v', W', hr, h1, h2, h3⟩ := run_app_at (ty := o.type) hT hi hz hs hb hown hu hlen hB
  unfold Oper.wp execOp
  simp only [ho, resolve, invoke, builtin, Sem.run_bind, Sem.run_pure, Result.andThen_ok, List.map_toArray, List.map_cons, List.map_nil, hv, hx, hr]
  exact hK' _ _ (hK v' W' h1 h2 h3)

/-! Variables of more than one cell. -/
theorem run_allocT {P : Program} (w : World) (T : TypeId) (i : TypeInfo) (z : Value) (hi : P.info? T = some i) (hz : i.zero = some z) :
    (Instr.alloc T true (.tuple #[])).run P w = .ok (.pointer (some ⟨w.heap.size, 0, none⟩)) (w.alloc (.cells z.cells T)) := by
  simp [Instr.alloc, zeroValue, typeInfo, hi, hz, newVar, newRow]
theorem wpList_allocT {P : Program} {w : World} {ops : Array Oper} {rest : List Oper} {o : Oper} {a : Act} {Q : Exit → Act → World → Prop} (hgd : o.guard = none) (T : TypeId) (ho : o.op = .alloc T)
    (cs : Array Value) (hz : ((P.info? T).bind (fun i => i.zero)).map (fun z => z.cells) = some cs)
    (h : wpList P ops Q rest (a.put o.dst (.pointer (some ⟨w.heap.size, 0, none⟩))) (w.alloc (.cells cs T))) : wpList P ops Q (o :: rest) a w := by
  cases hi : P.info? T with
  | none => rw [hi] at hz; simp at hz
  | some i =>
    cases hzz : i.zero with
    | none => rw [hi] at hz; simp [hzz] at hz
    | some z =>
      rw [hi] at hz
      have hcz : z.cells = cs := by
        simp only [Option.bind_some, hzz, Option.map_some] at hz
        exact Option.some.inj hz
      refine wpList_plain hgd fun K hK => ?_
      unfold Oper.wp execOp
      simp only [ho, Sem.run_bind, Sem.run_pure, run_allocT w T i z hi hzz, Result.andThen_ok]
      rw [hcz]
      exact hK _ _ h
theorem wpList_storeT {P : Program} {w : World} {ops : Array Oper} {rest : List Oper} {o : Oper} {a : Act} {Q : Exit → Act → World → Prop} (hgd : o.guard = none) (ty : TypeId) (x y : Operand) (ho : o.op = .store ty x y)
    (g : Nat) (t : TypeId) (old cells : Array Value) (hx : a.eval x = .pointer (some ⟨g, 0, none⟩)) (hy : a.eval y = .agg cells) (hg : w.heap[g]? = some (.cells old t (0, 0))) (hi : (P.info? ty).map (·.size) = some cells.size)
    (hs : old.size = cells.size) (h1 : cells.all (·.oneCell') = true)
    (h : wpList P ops Q rest (a.put o.dst undef) (w.setRow g cells)) : wpList P ops Q (o :: rest) a w := by
  refine wpList_plain hgd fun K hK => ?_
  unfold Oper.wp execOp
  simp only [ho, hx, hy, Instr.storeAt, Instr.sureAddr, Sem.run_bind, Sem.run_pure, Result.andThen_ok, run_storeVar_row w g t ty old cells hg hi hs h1]
  exact hK _ _ h
theorem wpList_boxT {P : Program} {w : World} {ops : Array Oper} {rest : List Oper} {o : Oper} {a : Act} {Q : Exit → Act → World → Prop} (hgd : o.guard = none) (T : TypeId) (x : Operand) (ho : o.op = .box T x) (cs : Array Value) (hx : a.eval x = .agg cs)
    (h : wpList P ops Q rest (a.put o.dst (.pointer (some ⟨w.heap.size, 0, none⟩))) (w.alloc (.cells cs T))) : wpList P ops Q (o :: rest) a w := by
  refine wpList_plain hgd fun K hK => ?_
  unfold Oper.wp execOp
  simp only [ho, hx, Instr.box, newVar, newRow, Value.cells, Sem.run_bind, Sem.run_pure, Result.andThen_ok]
  exact hK _ _ h
theorem wpList_buildT {P : Program} {w : World} {ops : Array Oper} {rest : List Oper} {o : Oper} {a : Act} {Q : Exit → Act → World → Prop} (hgd : o.guard = none) (T : TypeId) (ho : o.op = .build T #[]) (n : Nat) (e : TypeId) (hu : P.underlying T = some (.array n e))
    (cs : Array Value) (hz : ((P.info? T).bind (fun i => i.zero)).map (fun z => z.cells) = some cs) (he : (P.info? e).isSome = true)
    (h : wpList P ops Q rest (a.put o.dst (.agg cs)) w) : wpList P ops Q (o :: rest) a w := by
  cases hi : P.info? T with
  | none => rw [hi] at hz; simp at hz
  | some i =>
    cases hzz : i.zero with
    | none => rw [hi] at hz; simp [hzz] at hz
    | some z =>
      rw [hi] at hz
      have hcz : z.cells = cs := by
        simp only [Option.bind_some, hzz, Option.map_some] at hz
        exact Option.some.inj hz
      obtain ⟨ie, hie⟩ := Option.isSome_iff_exists.1 he
      refine wpList_plain hgd fun K hK => ?_
      unfold Oper.wp execOp
      have hr : (Instr.build T #[]).run P w = .ok (.agg cs) w := by
        simp [Instr.build, zeroValue, typeInfo, hi, hzz, run_underlying hu, sizeOf, hie, Instr.fill, hcz]
      simp only [ho, Sem.run_bind, Sem.run_pure, Array.map_empty, List.map_toArray, List.map_nil, hr, Result.andThen_ok]
      exact hK _ _ h
theorem ret_cell_tmp {P : Program} {fn : Func} {p u : Tmp} {ty : TypeId} {a : Act} {W : World} {R : Ending → World → Prop} (h : fn.results = #[.cell p ty, .tmp u]) (g : Nat) (t : TypeId) (cs : Array Value) (d : TypeDesc)
    (hp : a.tmps.getD p undef = .pointer (some ⟨g, 0, none⟩)) (hg : W.heap[g]? = some (.cells cs t (0, 0)))
    (hu : P.underlying ty = some d) (hd : (match d with | .struct _ | .array _ _ => true | _ => false) = true) (hi : (P.info? ty).map (·.size) = some cs.size) (hdf : a.defers = [])
    (hR : R (.returned (.tuple #[.agg cs, a.tmps.getD u undef])) W) : bodyPost P fn R .ret a W := by
  refine bodyPost_ret (v := .tuple #[.agg cs, a.tmps.getD u undef]) ?_ hdf hR
  rw [results_cell_tmp h, hp]
  simp [asAddr, run_loadVar_row W g t ty cs (0, 0) d hg hu hd hi]
theorem ret_cell {P : Program} {fn : Func} {p : Tmp} {ty : TypeId} {a : Act} {W : World} {R : Ending → World → Prop} (h : fn.results = #[.cell p ty]) (g : Nat) (t : TypeId) (cs : Array Value) (d : TypeDesc)
    (hp : a.tmps.getD p undef = .pointer (some ⟨g, 0, none⟩)) (hg : W.heap[g]? = some (.cells cs t (0, 0)))
    (hu : P.underlying ty = some d) (hd : (match d with | .struct _ | .array _ _ => true | _ => false) = true) (hi : (P.info? ty).map (·.size) = some cs.size) (hdf : a.defers = [])
    (hR : R (.returned (.agg cs)) W) : bodyPost P fn R .ret a W :=
  bodyPost_ret (results_cell_row h a.tmps W g t cs (0, 0) d hp hg hu hd hi) hdf hR
end Go.Proofs.YtoppcpiheaedlaaGreatDoor
