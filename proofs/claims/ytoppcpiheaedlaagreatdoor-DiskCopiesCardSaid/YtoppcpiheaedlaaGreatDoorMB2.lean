import Derived.Test.YtoppcpiheaedlaaGreatDoorMB1
import Derived.Deep.MidRow
import Derived.Shelf.SlMaps.Clone
import Derived.Lib.AppendZeros
section
/-
  The program's disk: names; faults.
-/
namespace Go.Proofs.YtoppcpiheaedlaaGreatDoor
open Go.RowKit
set_option linter.unusedVariables false
set_option linter.unusedSimpArgs false
attribute [local go_sem] sv nv
set_option maxRecDepth 100000 in
theorem pMayName (c : UInt8) (w : World) : Calls Tryz.prog 115 #[.int .u8 (c.toNat : Int)] w fun e w' => e = .returned (.bool (nmByte c)) ∧ w' = w := by
 have hc46 : c = 46 ↔ c.toNat = 46 := ⟨fun h => by rw [h]; rfl, fun h => UInt8.toNat_inj.1 h⟩
 obtain ⟨b, Hb⟩ : ∃ b, Hid (nmByte c = b) := ⟨_, rfl⟩
 rw [Hb.out]
 by_cases hA : 97 ≤ c.toNat
 · by_cases hB : c.toNat ≤ 122
   · have hf0 : (97 : Int) ≤ (c.toNat : Int) := by omega
     have hf1 : (c.toNat : Int) ≤ 122 := by omega
     have hb : b = true := by rw [← Hb.out]; unfold nmByte; simp [hc46]; omega
     subst hb
     clear hc46
     go_enter Tryz.func115, Tryz.ntmps115
     go_wp2
     go_ret
     exact ⟨rfl, rfl⟩
   · have hf0 : (97 : Int) ≤ (c.toNat : Int) := by omega
     have hf1 : ¬ (c.toNat : Int) ≤ 122 := by omega
     have hf2 : (48 : Int) ≤ (c.toNat : Int) := by omega
     have hf3 : ¬ (c.toNat : Int) ≤ 57 := by omega
     have hf4 : ((c.toNat : Int) == 46) = false := by simp; omega
     have hb : b = false := by rw [← Hb.out]; unfold nmByte; simp [hc46]; omega
     subst hb
     clear hc46
     go_enter Tryz.func115, Tryz.ntmps115
     go_wp2
     go_ret
     exact ⟨rfl, rfl⟩
 · by_cases hC : 48 ≤ c.toNat
   · by_cases hD : c.toNat ≤ 57
     · have hf0 : ¬ (97 : Int) ≤ (c.toNat : Int) := by omega
       have hf1 : (48 : Int) ≤ (c.toNat : Int) := by omega
       have hf2 : (c.toNat : Int) ≤ 57 := by omega
       have hb : b = true := by rw [← Hb.out]; unfold nmByte; simp [hc46]; omega
       subst hb
       clear hc46
       go_enter Tryz.func115, Tryz.ntmps115
       go_wp2
       go_ret
       exact ⟨rfl, rfl⟩
     · have hf0 : ¬ (97 : Int) ≤ (c.toNat : Int) := by omega
       have hf1 : (48 : Int) ≤ (c.toNat : Int) := by omega
       have hf2 : ¬ (c.toNat : Int) ≤ 57 := by omega
       have hf4 : ((c.toNat : Int) == 46) = false := by simp; omega
       have hb : b = false := by rw [← Hb.out]; unfold nmByte; simp [hc46]; omega
       subst hb
       clear hc46
       go_enter Tryz.func115, Tryz.ntmps115
       go_wp2
       go_ret
       exact ⟨rfl, rfl⟩
   · by_cases hE : c.toNat = 46
     · have hf0 : ¬ (97 : Int) ≤ (c.toNat : Int) := by omega
       have hf1 : ¬ (48 : Int) ≤ (c.toNat : Int) := by omega
       have hf4 : ((c.toNat : Int) == 46) = true := by simp; omega
       have hb : b = true := by rw [← Hb.out]; unfold nmByte; simp [hc46]; omega
       subst hb
       clear hc46 hE
       go_enter Tryz.func115, Tryz.ntmps115
       go_wp2
       go_ret
       exact ⟨rfl, rfl⟩
     · have hf0 : ¬ (97 : Int) ≤ (c.toNat : Int) := by omega
       have hf1 : ¬ (48 : Int) ≤ (c.toNat : Int) := by omega
       have hf4 : ((c.toNat : Int) == 46) = false := by simp; omega
       have hb : b = false := by rw [← Hb.out]; unfold nmByte; simp [hc46]; omega
       subst hb
       clear hc46
       go_enter Tryz.func115, Tryz.ntmps115
       go_wp2
       go_ret
       exact ⟨rfl, rfl⟩
set_option maxRecDepth 100000 in
set_option maxHeartbeats 1000000 in
theorem pIsName (s : Nm) (hs : True) (w : World) :
 Calls Tryz.prog 100 #[sv s] w fun e w' => e = .returned (.bool (nameOK s)) ∧ w' = w := by
 unfold sv
 by_cases h1 : s.length < 1
 · have h1' : (s.length : Int) < 1 := by omega
   have hr : nameOK s = false := by unfold nameOK; simp; intro h; omega
   rw [hr]
   go_enter Tryz.func100, Tryz.ntmps100
   go_wp2
   go_ret
   exact ⟨rfl, rfl⟩
 · have h1' : ¬ (s.length : Int) < 1 := by omega
   by_cases h16 : 16 < s.length
   · have h16' : (16 : Int) < (s.length : Int) := by omega
     have hr : nameOK s = false := by unfold nameOK; simp; intro _ h; omega
     rw [hr]
     go_enter Tryz.func100, Tryz.ntmps100
     go_wp2
     go_ret
     exact ⟨rfl, rfl⟩
   · have h16' : ¬ (16 : Int) < (s.length : Int) := by omega
     have hr : nameOK s = s.all nmByte := by unfold nameOK; simp; intro _; omega
     rw [hr]
     have Hs16 := Lib.hid (show s.length ≤ 16 by omega)
     clear h16 h1 hr hs
     go_enter Tryz.func100, Tryz.ntmps100
     go_wp2
     go_loop [3, 14] (fun _ t3 => ∃ k : Nat, k ≤ s.length ∧ t3 = .int .i64 k ∧ Hid ((s.take k).all nmByte = true))
      (fun _ t3 => s.length - (intOf t3).toNat)
     case atStart => exact ⟨0, by omega, rfl, rfl⟩
     case round =>
      obtain ⟨k, hk, rfl, Hall⟩ := hrel
      by_cases hlt : k < s.length
      · have hlt' : (k : Int) < (s.length : Int) := by omega
        obtain ⟨c, Hc⟩ : ∃ c, Hid (s.getD k 0 = c) := ⟨_, rfl⟩
        have hget : ∀ h, ({ data := s.toArray } : ByteArray)[k]'h = c := fun h => by
         rw [← Hc.out]
         show s.toArray[k]'_ = _
         simp [List.getD, hlt]
        have Hsn : Hid ((s.take (k + 1)).all nmByte = nmByte c) := by
         show _ = _
         rw [take_snoc s k hlt, List.all_append, Hall.out, Hc.out]
         simp
        have Hbad : Hid (nmByte c = false → s.all nmByte = false) := fun hb => by
         rw [List.all_eq_false]
         refine ⟨c, ?_, by simp [hb]⟩
         rw [← Hc.out, List.getD, List.getElem?_eq_getElem hlt, Option.getD_some]
         exact List.getElem_mem hlt
        have Hlt := Lib.hid hlt
        have hk16 : (k : Int) < 16 := by have := Hs16.out; omega
        have HM := Lib.hid (pMayName c)
        obtain ⟨b, Hb⟩ : ∃ b, Hid (nmByte c = b) := ⟨_, rfl⟩
        rw [Hb.out] at HM Hsn Hbad
        clear hk hlt
        go_wp2_with fail
        refine (HM.out _).mono ?_
        rintro e w3 ⟨rfl, e3⟩
        have e4 := e3.symm
        subst e4
        cases b with
        | true =>
         go_wp2
         go_round
         case rel => exact ⟨k + 1, Hlt.out, by simp, Hsn.out⟩
         case measure => have := Hlt.out; simp [intOf]; omega
        | false =>
         have Hno : Hid (s.all nmByte = false) := Hbad.out rfl
         go_wp2
         go_ret
         exact ⟨by rw [Hno.out]; rfl, rfl⟩
      · have hlt' : ¬ (k : Int) < (s.length : Int) := by omega
        have Hyes : Hid (s.all nmByte = true) := by show _ = _; rw [← Hall.out, List.take_of_length_le (by omega)]
        go_wp2
        go_ret
        exact ⟨by rw [Hyes.out]; rfl, rfl⟩
def IsFault (W : World) (v : Value) (op nm : List UInt8) (code : Int) : Prop :=
 (code = 0 ∧ v = .nilIface) ∨ (code ≠ 0 ∧ ∃ b, v = .iface 77 (.pointer (some ⟨b, 0, none⟩)) ∧ W.heap[b]? = some (.cells #[sv op, sv nm, .iface 53 (.int .i64 code)] 81 (0, 0)))
theorem IsFault.grows {W W' : World} {v : Value} {op nm : List UInt8} {code : Int} (h : IsFault W v op nm code) (g : Grows W W') : IsFault W' v op nm code := by
 rcases h with h | ⟨h, b, e, hb⟩
 · exact .inl h
 · exact .inr ⟨h, b, e, g.heap' hb⟩
set_option maxRecDepth 100000 in
theorem pFault (op nm : List UInt8) (code : Int) (w : World) :
 Calls Tryz.prog 35 #[sv op, sv nm, .int .i64 code] w fun e w' => ∃ v, e = .returned v ∧ IsFault w' v op nm code ∧ Grows w w' := by
 unfold sv
 by_cases h0 : code = 0
 · subst h0
   go_enter Tryz.func35, Tryz.ntmps35
   go_wp2
   go_ret
   exact ⟨_, rfl, .inl ⟨rfl, rfl⟩, Below.refl _ _⟩
 · have hne : (code == 0) = false := by simpa using h0
   go_enter Tryz.func35, Tryz.ntmps35
   go_wp2
   go_ret
   exact ⟨_, rfl, .inr ⟨h0, _, rfl, heap_alloc_new _ _⟩, Grows.alloc' _ _⟩
end Go.Proofs.YtoppcpiheaedlaaGreatDoor
end
section
/-
  Values of several cells, stored into the middle of a row; rows of such values, copied.
-/
namespace Go.Proofs.YtoppcpiheaedlaaGreatDoor
open Go.RowKit
set_option linter.unusedVariables false
set_option linter.unusedSimpArgs false
def ovr (cur : Array Value) (o : Nat) (cs : List Value) : Array Value := (cur.toList.take o ++ cs ++ cur.toList.drop (o + cs.length)).toArray
theorem ovr_size {cur : Array Value} {o : Nat} {cs : List Value} (h : o + cs.length ≤ cur.size) : (ovr cur o cs).size = cur.size := by
 unfold ovr
 simp
 omega
theorem run_storePart {P : Program} (w : World) (g o : Nat) (t ty : TypeId) (cur : Array Value) (cs : List Value) (hg : w.heap[g]? = some (.cells cur t (0, 0))) (hl : o + cs.length ≤ cur.size) (hi : (P.info? ty).map (·.size) = some cs.length) (h1 : ∀ v ∈ cs, v.oneCell' = true) :
 (storeVar ty ⟨g, o, none⟩ (.agg cs.toArray)).run P w = .ok () (w.setRow g (ovr cur o cs)) := by
 have := run_storeCells_at P g o t cs 0 cur w hg (by simpa using hl) h1
 cases hq : P.info? ty with
 | none => simp [hq] at hi
 | some i =>
  have hs : cs.length = i.size := by simp [hq] at hi; omega
  simp only [Nat.add_zero] at this
  simp [storeVar, sizeOf, typeInfo, hq, Value.cells, hs, this]
  unfold ovr
  rw [hs, List.append_assoc]
theorem wpList_storePart {P : Program} {w : World} {ops : Array Oper} {rest : List Oper} {o : Oper} {a : Act} {Q : Exit → Act → World → Prop} (hgd : o.guard = none) (ty : TypeId) (x y : Operand) (ho : o.op = .store ty x y)
 (g of : Nat) (t : TypeId) (cur : Array Value) (cs : List Value) (C : Array Value) (hC : cs.toArray = C) (hx : a.eval x = .pointer (some ⟨g, of, none⟩)) (hy : a.eval y = .agg C) (hg : w.heap[g]? = some (.cells cur t (0, 0))) (hl : of + cs.length ≤ cur.size) (hi : (P.info? ty).map (·.size) = some cs.length)
 (h1 : ∀ v ∈ cs, v.oneCell' = true) (h : wpList P ops Q rest (a.put o.dst undef) (w.setRow g (ovr cur of cs))) : wpList P ops Q (o :: rest) a w := by
 subst hC
 refine wpList_plain hgd fun K hK => ?_
 unfold Oper.wp execOp
 simp only [ho, hx, hy, Instr.storeAt, Instr.sureAddr, Sem.run_bind, Sem.run_pure, Result.andThen_ok, run_storePart w g of t ty cur cs hg hl hi h1]
 exact hK _ _ h
theorem stepOk_storePart {P : Program} {w : World} {o : Oper} {ρ : Operand → Value} {Ψ : Value → World → Prop} (ty : TypeId) (x y : Operand) (ho : o.op = .store ty x y)
 (g of : Nat) (t : TypeId) (cur : Array Value) (cs : List Value) (C : Array Value) (hC : cs.toArray = C) (hx : ρ x = .pointer (some ⟨g, of, none⟩)) (hy : ρ y = .agg C) (hg : w.heap[g]? = some (.cells cur t (0, 0))) (hl : of + cs.length ≤ cur.size) (hi : (P.info? ty).map (·.size) = some cs.length)
 (h1 : ∀ v ∈ cs, v.oneCell' = true) (h : Ψ undef (w.setRow g (ovr cur of cs))) : StepOk P o ρ w Ψ := by
 subst hC
 unfold StepOk execOp
 simp only [ho, hx, hy, Instr.storeAt, Instr.sureAddr, Sem.run_bind, Sem.run_pure, Result.andThen_ok, run_storePart w g of t ty cur cs hg hl hi h1]
 exact h
theorem stepOk_loadPart {P : Program} {w : World} {o : Oper} {ρ : Operand → Value} {Ψ : Value → World → Prop} (ty : TypeId) (x : Operand) (ho : o.op = .load ty x)
 (g of : Nat) (cs : List Value) (d : TypeDesc) (hx : ρ x = .pointer (some ⟨g, of, none⟩)) (hc : w.rangeAt g of cs) (hu : P.underlying ty = some d) (hd : d.isRow = true) (hi : (P.info? ty).map (·.size) = some cs.length)
 (h : Ψ (.agg cs.toArray) w) : StepOk P o ρ w Ψ := by
 unfold StepOk execOp
 simp only [ho, hx, run_loadAt_mid w g of ty cs d hc hu hd hi, Sem.run_bind, Sem.run_pure, Result.andThen_ok]
 exact h
theorem run_copyK {P : Program} (w : World) (dT sT ty elem : TypeId) (k : Nat) (g n dCap : Nat) (a : Addr) (sCap : Nat) (cur : Array Value) (t : TypeId) (cs : List Value)
 (hu : P.underlying dT = some (.slice elem)) (hs : (P.info? elem).map (·.size) = some k)
 (hg : w.heap[g]? = some (.cells cur t (0, 0))) (hn : cs.length = n * k) (hsrc : ∀ j v, cs[j]? = some v → w.cell? (a.add j) = some v) (hfit : cs.length ≤ cur.size) (h1 : ∀ v ∈ cs, v.oneCell' = true) :
 (Builtin.copy_ #[dT, sT] ty #[.slice (some ⟨g, 0, none⟩) n dCap, .slice (some a) n sCap]).run P w = .ok (goInt n) (w.setRow g (ovr cur 0 cs)) := by
 have hl := run_loadCells_list (P := P) w a cs hsrc
 have hst := run_storeCells_at P g 0 t cs 0 cur w hg (by simpa using hfit) h1
 simp only [Nat.zero_add] at hst
 cases hq : P.info? elem with
 | none => simp [hq] at hs
 | some i =>
  have hi : i.size = k := by simpa [hq] using hs
  have hmin : Nat.min n n = n := Nat.min_self n
  simp [Builtin.copy_, run_underlying hu, Builtin.lenOf, Builtin.firstCells, sizeOf, typeInfo, hq, hi, hmin, ← hn, hl, hst, ovr]
theorem run_copy00 {P : Program} (w : World) (dT sT ty elem : TypeId) (a b : Option Addr) (dCap sCap : Nat) (hu : P.underlying dT = some (.slice elem)) (hs : ((P.info? elem).map (·.size)).isSome = true) :
 (Builtin.copy_ #[dT, sT] ty #[.slice a 0 dCap, .slice b 0 sCap]).run P w = .ok (goInt 0) w := by
 cases hq : P.info? elem with
 | none => simp [hq] at hs
 | some i =>
  have h0 : ∀ x, (loadCells x 0).run P w = .ok #[] w := fun x => by
   have := run_loadCells_list (P := P) w x [] (fun j v hv => by simp at hv)
   simpa using this
  have hf : (Builtin.firstCells i.size 0 (Value.slice b 0 sCap)).run P w = .ok #[] w := by
   cases b with
   | none => rfl
   | some x => simp [Builtin.firstCells, h0]
  cases a <;> simp [Builtin.copy_, run_underlying hu, Builtin.lenOf, sizeOf, typeInfo, hq, hf, storeCells]
theorem own_ovr {W : World} {B e k n g cap : Nat} {xs ys : List Value} (h : W.ownsRow B e k (.slice (some ⟨g, 0, none⟩) n cap) n xs) (o : Nat) (hl : o + ys.length ≤ n * k) :
 ∃ cur, W.heap[g]? = some (.cells cur e (0, 0)) ∧ o + ys.length ≤ cur.size ∧ (W.setRow g (ovr cur o ys)).ownsRow B e k (.slice (some ⟨g, 0, none⟩) n cap) n (xs.take o ++ ys ++ xs.drop (o + ys.length)) := by
 rcases h.2 with ⟨h0, _⟩ | ⟨g', cap', cur, h0, hb, hg, hnc, hcm, hcs, ht⟩
 · cases h0
 · simp only [Value.slice.injEq, Option.some.injEq, Addr.mk.injEq] at h0
   obtain ⟨⟨rfl, -⟩, -, rfl⟩ := h0
   have hnk : n * k ≤ cap * k := Nat.mul_le_mul_right _ hnc
   have hfit : o + ys.length ≤ cur.size := by omega
   refine ⟨cur, hg, hfit, ?_, .inr ⟨g, cap, _, rfl, hb, setRow_heap W g cur _ e _ hg, hnc, hcm, by rw [ovr_size hfit]; exact hcs, ?_⟩⟩
   · simp only [List.length_append, List.length_take, List.length_drop, h.1]
     omega
   · rw [← ht]
     unfold ovr
     apply List.ext_getElem?
     intro i
     simp only [List.getElem?_append, List.getElem?_take, List.getElem?_drop, List.length_append, List.length_take, List.length_drop, Array.length_toList, List.toList_toArray, List.append_assoc]
     have hn1 : cur.toList.length = cur.size := rfl
     by_cases h1 : i < o
     · simp [h1, show i < n * k by omega, show i < min o cur.size by omega, show i < min o (n * k) by omega, show min (n * k) cur.size = n * k by omega]
     · by_cases h2 : i < o + ys.length
       · simp [h1, show i < n * k by omega, show ¬ i < min o cur.size by omega, show min o cur.size = o by omega, show min o (min (n * k) cur.size) = o by omega, show i - o < ys.length by omega]
       · simp [h1, show min o cur.size = o by omega, show min o (min (n * k) cur.size) = o by omega, show ¬ i - o < ys.length by omega]
         by_cases h3 : i < n * k
         · simp [h3, show o + ys.length + (i - o - ys.length) = i by omega]
         · simp [h3, show ¬ o + ys.length + (i - o - ys.length) < n * k by omega]
end Go.Proofs.YtoppcpiheaedlaaGreatDoor
end
section
/-
  The program's disk: the directory as it is now; a name's file; what each call asks first.
-/
namespace Go.Proofs.YtoppcpiheaedlaaGreatDoor
open Go.RowKit Go.Maps
set_option linter.unusedVariables false
set_option linter.unusedSimpArgs false
attribute [local go_sem] sv nv mv pv
def nowX (x : Px) : Nat × Dir := x.dirs.getLastD (0, [])
theorem nowX_s (x : Px) : nowP x.s = (nowX x).2 := by
 unfold nowP nowX Px.s
 show (x.dirs.map (·.2)).getLastD [] = _
 rw [List.getLastD_eq_getLast?, List.getLastD_eq_getLast?, List.getLast?_map]
 cases x.dirs.getLast? <;> rfl
theorem nowX_get (x : Px) (h : x.dirs ≠ []) : x.dirs[x.dirs.length - 1]? = some (nowX x) := by
 unfold nowX
 rw [List.getLastD_eq_getLast?, ← List.getLast?_eq_getElem?]
 cases hl : x.dirs.getLast? with
 | none => simp at hl; exact absurd hl h
 | some a => rfl
theorem nowX_mem (x : Px) (h : x.dirs ≠ []) : nowX x ∈ x.dirs := List.mem_of_getElem? (nowX_get x h)
set_option maxRecDepth 100000 in
theorem pNow {w : World} {q : Nat} {x : Px} (h : PD w q x) :
 Calls Tryz.prog 72 #[.pointer (some ⟨q, 0, none⟩)] w fun e w' => e = .returned (mv (nowX x).1) ∧ Grows w w' := by
 have hmx : Tryz.prog.follows .mixedOrders = true := by kernel_rfl
 have hpos : 0 < x.dirs.length := List.length_pos_iff.2 h.wf.ne
 obtain ⟨g, cap, e1⟩ := own_some h.dirs.row hpos
 have c1 := h.cell 1 x.vd rfl
 have hrow := h.dirs.row
 rw [e1] at c1 hrow
 have ci := own_cell hrow (x.dirs.length - 1) (mv (nowX x).1) (by rw [List.getElem?_map, nowX_get x h.wf.ne]; rfl)
 have hm := h.wf.small.1
 obtain ⟨m, Hm⟩ : ∃ m, Hid (x.dirs.length = m + 1) := ⟨x.dirs.length - 1, by show _ = _; omega⟩
 rw [Hm.out] at c1 ci hm
 simp only [Nat.add_sub_cancel] at ci
 obtain ⟨b, Hb⟩ : ∃ b, Hid ((nowX x).1 = b) := ⟨_, rfl⟩
 rw [Hb.out] at ci ⊢
 have hmI : (m : Int) ≤ 1000000 := by omega
 unfold mv at ci ⊢
 clear h hpos e1 hrow hm
 go_enter Tryz.func72, Tryz.ntmps72
 go_wp2
 have cX := fun X (hX : Grows _ X) => And.intro (Grows.cell' hX c1) (Grows.cell' hX ci)
 refine specs_region
  #[[], [0], [0, 1], [0, 1, 2], [], [4], [4, 5], [4, 5, 6], [4, 5, 6, 7], [4, 5, 6, 7, 8], [0, 1, 2, 3, 4, 5, 6, 7, 8, 9], [0, 1, 2, 3, 4, 5, 6, 7, 8, 9, 10], [0, 1, 2, 3, 4, 5, 6, 7, 8, 9, 10, 11]] #[[0], [], [], [], [0], [], [], [], [], [], [], [], []] #[true, true, true, true, true, true, true, true, true, true, true, true, true]
  ((.val ?v0) :: (.val ?v1) :: (.val ?v2) :: (.val ?v3) :: (.val ?v4) :: (.val ?v5) :: (.val ?v6) :: (.val ?v7) :: (.val ?v8) :: (.val ?v9) :: (.val ?v10) :: (.val ?v11) :: (.val ?v12) :: []).toArray
  hmx ?chk ?grd ?stp ?rst
 case chk => rfl
 case stp =>
  refine ⟨?_, ?_, ?_, ?_, ?_, ?_, ?_, ?_, ?_, ?_, ?_, ?_, ?_, trivial⟩
  · refine stepO 0 ?v0 rfl (fun _ _ => rfl) rfl (fun _ => rfl) (by decide) ?_; show (.pointer (some ⟨q, 0, none⟩) : Value) = _; rfl
  · refine stepR (o := ⟨_, .nilCheck (.tmp 3), _, _, _, _⟩) ?v1 rfl rfl (fun _ => rfl) fun ρ X hc hf hgl hX hp ho => ?_; have k3 : ρ (.tmp 3) = ?v0 := hp 0 (by decide); clear hp ho hX; go_simp; (all_goals rfl)
  · refine stepR (o := ⟨_, .fieldAddr 100 (.tmp 4) 1, _, _, _, _⟩) ?v2 rfl rfl (fun _ => rfl) fun ρ X hc hf hgl hX hp ho => ?_; have k4 : ρ (.tmp 4) = ?v1 := hp 1 (by decide); clear hp ho hX; go_simp; (all_goals rfl)
  · refine stepR (o := ⟨_, .load 94 (.tmp 5), _, _, _, _⟩) ?v3 rfl rfl (fun _ => rfl) fun ρ X hc hf hgl hX hp ho => ?_; have k5 : ρ (.tmp 5) = ?v2 := hp 2 (by decide); have cX := cX X hX; clear hp ho hX; go_simp; (all_goals rfl)
  · refine stepO 0 ?v4 rfl (fun _ _ => rfl) rfl (fun _ => rfl) (by decide) ?_; show (.pointer (some ⟨q, 0, none⟩) : Value) = _; rfl
  · refine stepR (o := ⟨_, .nilCheck (.tmp 7), _, _, _, _⟩) ?v5 rfl rfl (fun _ => rfl) fun ρ X hc hf hgl hX hp ho => ?_; have k7 : ρ (.tmp 7) = ?v4 := hp 4 (by decide); clear hp ho hX; go_simp; (all_goals rfl)
  · refine stepR (o := ⟨_, .fieldAddr 100 (.tmp 8) 1, _, _, _, _⟩) ?v6 rfl rfl (fun _ => rfl) fun ρ X hc hf hgl hX hp ho => ?_; have k8 : ρ (.tmp 8) = ?v5 := hp 5 (by decide); clear hp ho hX; go_simp; (all_goals rfl)
  · refine stepR (o := ⟨_, .load 94 (.tmp 9), _, _, _, _⟩) ?v7 rfl rfl (fun _ => rfl) fun ρ X hc hf hgl hX hp ho => ?_; have k9 : ρ (.tmp 9) = ?v6 := hp 6 (by decide); have cX := cX X hX; clear hp ho hX; go_simp; (all_goals rfl)
  · refine stepR (o := ⟨_, .call { callee := .builtin .len, args := #[.tmp 10], argTypes := #[94] }, _, _, _, _⟩) ?v8 rfl rfl (fun _ => rfl) fun ρ X hc hf hgl hX hp ho => ?_; have k10 : ρ (.tmp 10) = ?v7 := hp 7 (by decide); clear hp ho hX; go_simp; (all_goals try go_bits); (all_goals try simp only [IntWalk.iteOmega]); (all_goals try go_bits); (all_goals rfl)
  · refine stepR (o := ⟨_, .binOp .sub 3 (.tmp 11) (.const (.int .i64 1)) 3, _, _, _, _⟩) ?v9 rfl rfl (fun _ => rfl) fun ρ X hc hf hgl hX hp ho => ?_; have k11 : ρ (.tmp 11) = ?v8 := hp 8 (by decide); clear hp ho hX; go_simp; (all_goals try go_bits); (all_goals try simp only [IntWalk.iteOmega]); (all_goals try go_bits); (all_goals rfl)
  · refine stepR (o := ⟨_, .indexAddr 94 (.tmp 6) (.tmp 12), _, _, _, _⟩) ?v10 rfl rfl (fun _ => rfl) fun ρ X hc hf hgl hX hp ho => ?_; have k6 : ρ (.tmp 6) = ?v3 := hp 3 (by decide); have k12 : ρ (.tmp 12) = ?v9 := hp 9 (by decide); clear hp ho hX; go_simp; (all_goals try go_bits); (all_goals try simp only [IntWalk.iteOmega]); (all_goals try go_bits); (all_goals rfl)
  · refine stepR (o := ⟨_, .load 103 (.tmp 13), _, _, _, _⟩) ?v11 rfl rfl (fun _ => rfl) fun ρ X hc hf hgl hX hp ho => ?_; have k13 : ρ (.tmp 13) = ?v10 := hp 10 (by decide); have cX := cX X hX; clear hp ho hX; go_simp; (all_goals rfl)
  · refine stepP 14 11 (?v11) ?v12 rfl (fun _ _ => rfl) rfl (fun _ => rfl) (by decide) rfl (fun _ _ h => h) ?_; rfl
 case grd => rfl
 case rst =>
  intro a0 X hb
  have hfr := hb.frame ((2, ?v12) :: (3, ?v0) :: (4, ?v1) :: (5, ?v2) :: (6, ?v3) :: (7, ?v4) :: (8, ?v5) :: (9, ?v6) :: (10, ?v7) :: (11, ?v8) :: (12, ?v9) :: (13, ?v10) :: (14, ?v11) :: []) rfl ⟨hb.done' 12 2 rfl rfl, hb.done' 0 3 rfl rfl, hb.done' 1 4 rfl rfl, hb.done' 2 5 rfl rfl, hb.done' 3 6 rfl rfl, hb.done' 4 7 rfl rfl, hb.done' 5 8 rfl rfl, hb.done' 6 9 rfl rfl, hb.done' 7 10 rfl rfl, hb.done' 8 11 rfl rfl, hb.done' 9 12 rfl rfl, hb.done' 10 13 rfl rfl, hb.done' 11 14 rfl rfl, trivial⟩
  simp only [updL, ↓reduceIte, Nat.reduceEqDiff, Nat.reduceAdd, Nat.zero_add] at hfr
  have HX := Lib.hid hb.ext
  clear hb cX
  subst hfr
  go_wp2
  go_ret
  exact ⟨rfl, HX.out⟩
theorem zeroInt (w : World) : (zeroValue 3).run Tryz.prog w = .ok (.int .i64 0) w := by kernel_rfl
theorem zeroFile (w : World) : (zeroValue 109).run Tryz.prog w = .ok (.pointer none) w := by kernel_rfl
theorem keyD : KeyA Tryz.prog 9 sv okS := keyS Tryz.underlying9
theorem keyF : KeyA Tryz.prog 3 nv okI := keyI Tryz.underlying3
theorem nameOK_okS {s : Nm} (h : nameOK s = true) : okS s := by
 unfold nameOK at h
 simp at h
 unfold okS maxLen
 omega
theorem PD.okD {w : World} {q : Nat} {x : Px} (h : PD w q x) {d : Nat × Dir} (hd : d ∈ x.dirs) : ∀ p ∈ d.2, okS p.1 := fun p hp => nameOK_okS ((h.wf.names d hd).2 p hp).1
theorem PD.okF {w : World} {q : Nat} {x : Px} (h : PD w q x) : ∀ p ∈ x.fs.map Fi.ent, okI p.1 := fun p hp => by
 obtain ⟨f, hf, rfl⟩ := List.mem_map.1 hp
 have := h.wf.nums f hf
 have := h.wf.small
 show f.num < _
 omega
def findR (d : Dir) (nm : Nm) : Value := match findA d nm with | some n => .tuple #[nv n, .int .i64 0] | none => .tuple #[.int .i64 0, .int .i64 7]
set_option maxRecDepth 100000 in
theorem pFind {w : World} {q : Nat} {x : Px} (h : PD w q x) (nm : Nm) (hn : okS nm) :
 Calls Tryz.prog 71 #[.pointer (some ⟨q, 0, none⟩), sv nm] w fun e w' => e = .returned (findR (nowX x).2 nm) ∧ Grows w w' := by
 have HN := Lib.hid (pNow h)
 have HM := Lib.hid (h.dirs.map _ (nowX_mem x h.wf.ne))
 have Hok := Lib.hid (h.okD (nowX_mem x h.wf.ne))
 have Hnm := Lib.hid hn
 obtain ⟨b, hb⟩ : ∃ b, (nowX x).1 = b := ⟨_, rfl⟩
 obtain ⟨d, hd⟩ : ∃ d, (nowX x).2 = d := ⟨_, rfl⟩
 rw [hb] at HN HM
 rw [hd] at HM Hok ⊢
 unfold mv at HN
 clear h hb hd hn
 cases hf : findA d nm with
 | none =>
  have Hr : Hid (findR d nm = .tuple #[.int .i64 0, .int .i64 7]) := by show _ = _; unfold findR; rw [hf]
  have Hf := Lib.hid hf
  clear hf
  go_enter Tryz.func71, Tryz.ntmps71
  go_wp2_with fail
  refine HN.out.mono ?_
  rintro e w1 ⟨rfl, hG⟩
  have HM1 := Lib.hid (HM.out.grows hG)
  have HG := Lib.hid hG
  clear hG
  go_wp2_with (at_lookup; refine wpList_lookA rfl _ _ 103 3 true rfl HM1.out keyD Hok.out Tryz.underlying103 _ (zeroInt _) nm Hnm.out rfl rfl (.tuple #[.int .i64 0, .bool false]) (by rw [Hf.out]; rfl) ?_)
  go_ret2
  exact ⟨by rw [Hr.out]; rfl, HG.out⟩
 | some n =>
  have Hr : Hid (findR d nm = .tuple #[nv n, .int .i64 0]) := by show _ = _; unfold findR; rw [hf]
  have Hf := Lib.hid hf
  clear hf
  go_enter Tryz.func71, Tryz.ntmps71
  go_wp2_with fail
  refine HN.out.mono ?_
  rintro e w1 ⟨rfl, hG⟩
  have HM1 := Lib.hid (HM.out.grows hG)
  have HG := Lib.hid hG
  clear hG
  go_wp2_with (at_lookup; refine wpList_lookA rfl _ _ 103 3 true rfl HM1.out keyD Hok.out Tryz.underlying103 _ (zeroInt _) nm Hnm.out rfl rfl (.tuple #[nv n, .bool true]) (by rw [Hf.out]; rfl) ?_)
  go_ret2
  exact ⟨by rw [Hr.out]; rfl, HG.out⟩
def Px.arm (x : Px) (first code : Int) : Px := { x with first := first, code := code }
theorem WfP.arm {x : Px} (h : WfP x) (first code : Int) (hf : -9223372036854775808 ≤ first ∧ first ≤ 9223372036854775807) : WfP (x.arm first code) := ⟨h.room, h.ne, h.names, h.nums, h.pend, hf, h.small⟩
theorem PD.setArm {w w' : World} {q : Nat} {x : Px} (h : PD w q x) (first code : Int) (hf : -9223372036854775808 ≤ first ∧ first ≤ 9223372036854775807) (hr : w'.heap[q]? = some (.cells (pdRow (x.arm first code)) 100 (0, 0))) (hB : But (fun k => k = q) w w') :
 PD w' q (x.arm first code) ∧ TurnP q x (x.arm first code) w w' :=
 ⟨h.head hr hB ⟨rfl, rfl, rfl, rfl, rfl, rfl⟩ (h.wf.arm _ _ hf), TurnP.head hB (fun _ hk => hk) (fun _ hk => hk)⟩
def beginX (x : Px) : Px := x.arm (beginP x.s).2.first (beginP x.s).2.code
theorem beginX_s (x : Px) : (beginX x).s = (beginP x.s).2 := by
 unfold beginX beginP Px.arm Px.s
 split
 · rfl
 · split <;> rfl
theorem setRow_cells {w : World} {g : Nat} {cur : Array Value} {t : TypeId} (hg : w.heap[g]? = some (.cells cur t (0, 0))) (C : Array Value) : (w.setRow g C).heap[g]? = some (.cells C t (0, 0)) := setRow_heap w g cur C t _ hg
set_option maxRecDepth 100000 in
theorem pBegin {w : World} {q : Nat} {x : Px} (h : PD w q x) :
 Calls Tryz.prog 99 #[.pointer (some ⟨q, 0, none⟩)] w fun e w' => e = .returned (.int .i64 (beginP x.s).1) ∧ PD w' q (beginX x) ∧ TurnP q x (beginX x) w w' := by
 have c5 := h.cell 5 (.int .i64 x.first) rfl
 have c6 := h.cell 6 (.int .i64 x.code) rfl
 have f5 := h.frozen 5
 by_cases h0 : x.code = 0
 · have e1 : beginP x.s = (0, x.s) := if_pos h0
   have e2 : beginX x = x := by unfold beginX; rw [e1]; rfl
   rw [e1, e2]
   have H := Lib.hid h
   clear h e1 e2
   rw [h0] at c6
   clear h0
   go_enter Tryz.func99, Tryz.ntmps99
   go_wp2
   go_ret
   exact ⟨rfl, H.out, TurnP.refl _ _ _⟩
 · have hne : (x.code == 0) = false := by simpa using h0
   by_cases h1 : 0 < x.first
   · have e1 : beginP x.s = (0, (x.arm (x.first - 1) x.code).s) := by
      unfold beginP
      rw [if_neg (show ¬ x.s.code = 0 from h0), if_pos (show 0 < x.s.first from h1)]
      rfl
     have e2 : beginX x = x.arm (x.first - 1) x.code := by unfold beginX; rw [e1]; rfl
     have hw := h.wf.first
     have HA := Lib.hid (h.setArm (w' := w.setCell ⟨q, 5, none⟩ (.int .i64 (x.first - 1))) (x.first - 1) x.code (by omega) (row_setCell h.row 5 _) (But.setCell (But.refl' _ _) _ _ rfl))
     rw [e1, e2]
     clear h e1 e2 h0
     go_enter Tryz.func99, Tryz.ntmps99
     go_wp2
     go_ret
     exact ⟨rfl, HA.out.1, HA.out.2⟩
   · have e1 : beginP x.s = (x.code, (x.arm 0 0).s) := by
      unfold beginP
      rw [if_neg (show ¬ x.s.code = 0 from h0), if_neg (show ¬ 0 < x.s.first from h1)]
      rfl
     have e2 : beginX x = x.arm 0 0 := by unfold beginX; rw [e1]; rfl
     have hrow := Lib.hid h.row
     have HA := Lib.hid (h.setArm (w' := w.setRow q (ovr (pdRow x) 5 [.int .i64 0, .int .i64 0])) 0 0 (by omega) (setRow_cells h.row _) (But.setRow (But.refl' _ _) _ _ rfl))
     have hsz : (Tryz.prog.info? 98).map (·.size) = some 2 := by kernel_rfl
     rw [e1, e2]
     clear h e1 e2 h0
     go_enter Tryz.func99, Tryz.ntmps99
     go_wp2_with (refine wpList_storePart rfl 98 _ _ rfl q 5 _ _ [.int .i64 0, .int .i64 0] #[.int .i64 0, .int .i64 0] rfl rfl rfl hrow.out (by simp [pdRow]) hsz (by simp [Value.oneCell']) ?_)
     go_ret
     exact ⟨rfl, HA.out.1, HA.out.2⟩
end Go.Proofs.YtoppcpiheaedlaaGreatDoor
end
section
/-
  The program's disk: what calls with a name ask first; a directory's copy; the next directory; a new file.
-/
namespace Go.Proofs.YtoppcpiheaedlaaGreatDoor
open Go.RowKit Go.Maps Go.MapKept
set_option linter.unusedVariables false
set_option linter.unusedSimpArgs false
attribute [local go_sem] sv nv mv pv
theorem guardP_no {s : Ps} {k : Ps → Int × Ps} (h : (beginP s).1 ≠ 0) : guardP s k = beginP s := if_pos h
theorem guardP_yes {s : Ps} {k : Ps → Int × Ps} (h : (beginP s).1 = 0) : guardP s k = k (beginP s).2 := if_neg (by simpa using h)
def bwR (x : Px) (nm : Nm) : Value := if (beginP x.s).1 = 0 then findR (nowX x).2 nm else .tuple #[.int .i64 0, .int .i64 (beginP x.s).1]
set_option maxRecDepth 100000 in
theorem pBeginWith {w : World} {q : Nat} {x : Px} (h : PD w q x) (nm : Nm) (hn : okS nm) :
 Calls Tryz.prog 102 #[.pointer (some ⟨q, 0, none⟩), sv nm] w fun e w' => e = .returned (bwR x nm) ∧ PD w' q (beginX x) ∧ TurnP q x (beginX x) w w' := by
 have HB := Lib.hid (pBegin h)
 obtain ⟨fc, hfc⟩ : ∃ y, (beginP x.s).1 = y := ⟨_, rfl⟩
 rw [hfc] at HB
 unfold sv
 by_cases hf : fc = 0
 · have Hr : Hid (bwR x nm = findR (nowX x).2 nm) := by show _ = _; unfold bwR; rw [if_pos (by rw [hfc, hf])]
   clear h hfc
   subst hf
   go_enter Tryz.func102, Tryz.ntmps102
   go_wp2_with fail
   refine HB.out.mono ?_
   rintro e w1 ⟨rfl, hP, hT⟩
   have HP := Lib.hid hP
   have HT := Lib.hid hT
   have HF := Lib.hid (pFind hP nm hn)
   rw [show (nowX (beginX x)).2 = (nowX x).2 from rfl] at HF
   unfold sv at HF
   cases hd : findA (nowX x).2 nm with
   | none =>
    have hr : findR (nowX x).2 nm = .tuple #[.int .i64 0, .int .i64 7] := by unfold findR; rw [hd]
    rw [hr] at HF Hr
    clear hP hT hr hd
    go_wp2_with fail
    refine HF.out.mono ?_
    rintro e w2 ⟨rfl, hG⟩
    have HG := Lib.hid hG
    clear hG
    go_wp2
    go_ret2
    exact ⟨by rw [Hr.out]; rfl, HP.out.grows HG.out, HT.out.trans (TurnP.ofGrows HG.out)⟩
   | some n =>
    have hr : findR (nowX x).2 nm = .tuple #[nv n, .int .i64 0] := by unfold findR; rw [hd]
    rw [hr] at HF Hr
    clear hP hT hr hd
    go_wp2_with fail
    refine HF.out.mono ?_
    rintro e w2 ⟨rfl, hG⟩
    have HG := Lib.hid hG
    clear hG
    go_wp2
    go_ret2
    exact ⟨by rw [Hr.out]; rfl, HP.out.grows HG.out, HT.out.trans (TurnP.ofGrows HG.out)⟩
 · have Hr : Hid (bwR x nm = .tuple #[.int .i64 0, .int .i64 fc]) := by show _ = _; unfold bwR; rw [if_neg (by rw [hfc]; exact hf), hfc]
   have hne : (fc == 0) = false := by simpa using hf
   clear h hfc hf
   go_enter Tryz.func102, Tryz.ntmps102
   go_wp2_with fail
   refine HB.out.mono ?_
   rintro e w1 ⟨rfl, hP, hT⟩
   have HP := Lib.hid hP
   have HT := Lib.hid hT
   clear hP hT
   go_wp2
   go_ret2
   exact ⟨by rw [Hr.out]; rfl, HP.out, HT.out⟩
set_option maxRecDepth 100000 in
set_option maxHeartbeats 1000000 in
theorem pMapClone (b : Nat) (l : Dir) (w : World) (h : MapA sv nv w b l) :
 Calls Tryz.prog 116 #[.map (some b)] w fun e w' => e = .returned (.map (some w.heap.size)) ∧ MapA sv nv w' w.heap.size l ∧ Grows w w' ∧ w'.heap.size = w.heap.size + 1 := by
 obtain ⟨es, clock, hb, hc⟩ := h.cloned
 have hq := fun w => run_eql_map_nil_sl (P := Tryz.prog) w 103 _ _ (some b) Tryz.underlying103
 clear h
 have HC := Lib.hid hc
 clear hc
 go_enter Tryz.func116, Tryz.ntmps116
 go_wp2
 rw [run_callFunc_extern Tryz.func133 (by kernel_rfl) (by kernel_rfl) (by kernel_rfl) (e := Extern.MapsClone.clone) (by kernel_rfl), run_maps_clone_sl w 103 hb]
 simp only [Result.andThen]
 rw [Oper.upon_value]
 go_wp2
 rw [run_typeAssert_map_sl _ 103 20 _ _ _ Tryz.underlying103]
 simp only [Result.andThen]
 rw [Oper.upon_value]
 go_wp2
 go_ret
 exact ⟨rfl, HC.out, Grows.alloc' _ _, by simp⟩
end Go.Proofs.YtoppcpiheaedlaaGreatDoor
end
section
/-
  The program's disk: what a new directory, a change in the last one, a new file, another file's rows make of it.
-/
namespace Go.Proofs.YtoppcpiheaedlaaGreatDoor
open Go.RowKit Go.Maps Go.MapKept
set_option linter.unusedVariables false
set_option linter.unusedSimpArgs false
theorem But.one {W W' : World} {b : Nat} (h : W.grownBy W' (some b)) : But (fun k => k = b) W W' :=
 But.grown h fun k hk => (Option.some.inj hk).symm
theorem PD.pushDir {W W1 : World} {q : Nat} {x : Px} (h : PD W q x) (nb : Nat) (d : Dir) (v' : Value) (hB : But (fun k => x.vd.ownBlock = some k) W W1)
 (hrow : W1.ownsRow 0 103 1 v' (x.dirs.length + 1) (x.dirs.map (fun d => mv d.1) ++ [mv nb])) (hat : v'.ownBlock = x.vd.ownBlock ∨ ∀ k, v'.ownBlock = some k → W.heap.size ≤ k)
 (hmap : MapA sv nv W1 nb d) (hnb : W.heap.size ≤ nb) (hn : d.length ≤ 8 ∧ ∀ e ∈ d, nameOK e.1 = true ∧ ∃ f ∈ x.fs, f.num = e.2) (hsm : x.dirs.length < 1000000) :
 PD (W1.setCell ⟨q, 1, none⟩ v') q { x with vd := v', dirs := x.dirs ++ [(nb, d)] } ∧ TurnP q x { x with vd := v', dirs := x.dirs ++ [(nb, d)] } W (W1.setCell ⟨q, 1, none⟩ v') := by
 have hqn : x.vd.ownBlock ≠ some q := fun e => h.qD (.inl e)
 have hB2 : But (fun k => k = q ∨ x.vd.ownBlock = some k) W (W1.setCell ⟨q, 1, none⟩ v') := But.setCell (hB.mono fun k hk => .inr hk) _ _ (.inl rfl)
 have hrow1 := hB.blockEq hqn h.row
 have hq1 : q < W.heap.size := h.ltU (.inl rfl)
 have hm : ∀ k, mutP q { x with vd := v', dirs := x.dirs ++ [(nb, d)] } k → mutP q x k ∨ W.heap.size ≤ k := by
  intro k hk
  rcases hk with hk | hk | hk | hk
  · exact .inl (.inl hk)
  · rcases hat with h' | h'
    · exact .inl (.inr (.inl (h'.symm.trans hk)))
    · exact .inr (h' k hk)
  · exact .inl (.inr (.inr (.inl hk)))
  · exact .inl (.inr (.inr (.inr hk)))
 refine ⟨⟨row_setCell hrow1 1 v', ⟨?_, ?_⟩, ?_, ?_, ?_, ⟨h.wf.room, by simp, ?_, h.wf.nums, h.wf.pend, h.wf.first, ?_⟩⟩, hm, ?_, ?_⟩
 · show (W1.setCell ⟨q, 1, none⟩ v').ownsRow 0 _ 1 v' (x.dirs ++ [(nb, d)]).length _
   rw [List.length_append, List.map_append]
   exact own_but hrow (But.setCell (But.refl' (fun k => k = q) _) _ _ rfl) fun j hj hn => own_ne hrow hrow1 (by decide) (by rw [hj, hn])
 · intro e he
   rcases List.mem_append.1 he with he | he
   · have hd := h.dirs.map e he
     refine hd.kept (hB2.block _ hd.lt fun hk => ?_)
     rcases hk with hk | hk
     · exact h.qD (.inr ⟨e, he, hk.symm⟩)
     · have h1 := kind_own h.dirs.row hk
       have h2 := kind_map hd
       rw [h2] at h1
       simp at h1
   · rw [List.mem_singleton.1 he]
     exact hmap.kept ((But.setCell (But.refl' (fun k => k = q) W1) ⟨q, 1, none⟩ v' rfl).block nb hmap.lt (fun e => by omega))
 · exact h.keepF hB2 fun k hk hf => hk.elim (fun e => h.qF (e ▸ hf)) (fun e => h.dF (.inl e) hf)
 · exact h.keepP hB2 fun k hk hf => hk.elim (fun e => h.qP (e ▸ hf)) (fun e => h.dP (.inl e) hf)
 · intro e he
   rcases List.mem_append.1 he with he | he
   · exact h.fnd e he
   · rw [List.mem_singleton.1 he]
     have : x.fm < W.heap.size := h.ltU (.inr (.inr (.inl (.inl rfl))))
     show nb ≠ x.fm
     omega
 · intro e he
   rcases List.mem_append.1 he with he | he
   · exact h.wf.names e he
   · rw [List.mem_singleton.1 he]; exact hn
 · have := h.wf.small
   refine ⟨?_, this.2⟩
   show (x.dirs ++ [(nb, d)]).length ≤ _
   rw [List.length_append]
   exact hsm
 · intro k hk
   rcases hk with hk | hk | hk | hk
   · exact .inl (.inl hk)
   · rcases hk with hk | ⟨e, he, rfl⟩
     · rcases hat with h' | h'
       · exact .inl (.inr (.inl (.inl (h'.symm.trans hk))))
       · exact .inr (h' k hk)
     · rcases List.mem_append.1 he with he | he
       · exact .inl (.inr (.inl (.inr ⟨e, he, rfl⟩)))
       · rw [List.mem_singleton.1 he]; exact .inr hnb
   · exact .inl (.inr (.inr (.inl hk)))
   · exact .inl (.inr (.inr (.inr hk)))
 · refine hB2.mono fun k hk => ?_
   rcases hk with hk | hk
   · exact .inl hk
   · exact .inr (.inl hk)
theorem PD.turnDir {W W' : World} {q : Nat} {x : Px} (h : PD W q x) (ds : List (Nat × Dir)) (nb : Nat) (d d' : Dir) (hx : x.dirs = ds ++ [(nb, d)]) (hne : ∀ e ∈ ds, e.1 ≠ nb) (hg : W.grownBy W' (some nb)) (hm : MapA sv nv W' nb d')
 (hn : d'.length ≤ 8 ∧ ∀ e ∈ d', nameOK e.1 = true ∧ ∃ f ∈ x.fs, f.num = e.2) : PD W' q { x with dirs := ds ++ [(nb, d')] } := by
 have hB := But.one hg
 have hnb : dUse x nb := .inr ⟨(nb, d), by rw [hx]; simp, rfl⟩
 refine ⟨hB.blockEq (fun e => h.qD (e ▸ hnb)) h.row, ⟨?_, ?_⟩, ?_, ?_, ?_, ⟨h.wf.room, by simp, ?_, h.wf.nums, h.wf.pend, h.wf.first, ?_⟩⟩
 · have hr := h.dirs.row
   rw [hx] at hr
   have e1 : (ds ++ [(nb, d)]).length = (ds ++ [(nb, d')]).length := by simp
   have e2 : (ds ++ [(nb, d)]).map (fun d => mv d.1) = (ds ++ [(nb, d')]).map fun d => mv d.1 := by simp
   rw [e1, e2] at hr
   refine own_but hr hB fun j hj hn => ?_
   have h1 := kind_own hr hj
   have h2 := kind_map (h.dirs.map (nb, d) (by rw [hx]; simp))
   rw [hn, h2] at h1
   simp at h1
 · intro e he
   rcases List.mem_append.1 he with he | he
   · have hd := h.dirs.map e (by rw [hx]; simp [he])
     exact hd.kept (hB.block _ hd.lt (hne e he))
   · rw [List.mem_singleton.1 he]; exact hm
 · exact h.keepF hB fun k hk hf => h.dF (hk ▸ hnb) hf
 · exact h.keepP hB fun k hk hf => h.dP (hk ▸ hnb) hf
 · intro e he
   rcases List.mem_append.1 he with he | he
   · exact h.fnd e (by rw [hx]; simp [he])
   · rw [List.mem_singleton.1 he]
     exact h.fnd (nb, d) (by rw [hx]; simp)
 · intro e he
   rcases List.mem_append.1 he with he | he
   · exact h.wf.names e (by rw [hx]; simp [he])
   · rw [List.mem_singleton.1 he]; exact hn
 · have := h.wf.small
   rw [hx] at this
   refine ⟨?_, this.2⟩
   have e1 : (ds ++ [(nb, d)]).length = (ds ++ [(nb, d')]).length := by simp
   rw [← e1]
   exact this.1
theorem TurnP.step {q : Nat} {x x' x'' : Px} {w w' w'' : World} {O : Nat → Prop} (h : TurnP q x x' w w') (hB : But O w' w'') (hO : ∀ k, O k → mutP q x' k ∨ w.heap.size ≤ k) (hm : ∀ k, mutP q x'' k → mutP q x' k ∨ w.heap.size ≤ k) (hu : ∀ k, useP q x'' k → useP q x' k ∨ w.heap.size ≤ k) : TurnP q x x'' w w'' where
 muts := fun k hk => (hm k hk).elim (h.muts k) .inr
 uses := fun k hk => (hu k hk).elim (h.uses k) .inr
 but := ⟨hB.os.trans h.but.os, hB.tape.trans h.but.tape, hB.output.trans h.but.output, Nat.le_trans h.but.size hB.size, fun k hk hn => (hB.block k (Nat.lt_of_lt_of_le hk h.but.size) (fun ho => (hO k ho).elim (fun hm' => (h.muts k hm').elim hn (fun hl => by omega)) (fun hl => by omega))).trans (h.but.block k hk hn)⟩
theorem PD.addFile {W W' : World} {q : Nat} {x : Px} (h : PD W q x) (fb : Nat) (hfb : ∀ f ∈ x.fs, f.blk ≠ fb) (hrow : W.heap[fb]? = some (.cells #[.slice none 0 0, .slice none 0 0] 113 (0, 0))) (hB : But (fun k => k = q ∨ k = x.fm) W W')
 (hq : W'.heap[q]? = some (.cells (pdRow { x with made := x.made + 1 }) 100 (0, 0))) (hm : MapA nv pv W' x.fm ((x.fs.map Fi.ent) ++ [(x.made + 1, fb)])) (hsm : x.made < 1000000 ∧ x.fs.length < 1000000) :
 PD W' q { x with fs := x.fs ++ [⟨x.made + 1, fb, .slice none 0 0, .slice none 0 0, [], []⟩], made := x.made + 1 } := by
 have hfO : ¬ (fb = q ∨ fb = x.fm) := by
  have h1 := kind_cells hrow
  rintro (e | e)
  · rw [e, h.kindQ] at h1; simp at h1
  · rw [e, kind_map h.files.map] at h1; simp at h1
 refine ⟨hq, ?_, ⟨?_, ?_, ?_⟩, ?_, h.fnd, ⟨h.wf.room, h.wf.ne, ?_, ?_, ?_, h.wf.first, ?_⟩⟩
 · refine h.keepD hB fun k hk hd => ?_
   rcases hk with rfl | rfl
   · exact h.qD hd
   · exact h.dF hd (.inl rfl)
 · show MapA nv pv W' x.fm ((x.fs ++ [_]).map Fi.ent)
   rw [List.map_append]
   exact hm
 · intro f hf
   rcases List.mem_append.1 hf with hf | hf
   · have hk := h.files.ok f hf
     refine hk.kept (hB.block _ (Array.getElem?_eq_some_iff.1 hk.row).1 ?_) fun k hk' => hB.block _ (kind_lt (hk.kind hk')) ?_
     · rintro (e | e)
       · exact h.qF (.inr ⟨f, hf, .inl e.symm⟩)
       · have h1 := kind_cells hk.row
         rw [e, kind_map h.files.map] at h1
         simp at h1
     · rintro (e | e)
       · exact h.qF (.inr ⟨f, hf, .inr (e ▸ hk')⟩)
       · have h1 := hk.kind hk'
         rw [e, kind_map h.files.map] at h1
         simp at h1
   · rw [List.mem_singleton.1 hf]
     exact ⟨hB.blockEq hfO hrow, World.ownsRow_nil _ 0 _ 64, World.ownsRow_nil _ 0 _ 64, rfl, by simp, by simp, by simp, by simp [Value.ownBlock]⟩
 · intro f hf g hg hne
   rcases List.mem_append.1 hf with hf | hf <;> rcases List.mem_append.1 hg with hg | hg
   · exact h.files.apart f hf g hg hne
   · rw [List.mem_singleton.1 hg]
     exact ⟨hfb f hf, fun k _ hk => by rcases hk with hk | hk <;> simp [Value.ownBlock] at hk⟩
   · rw [List.mem_singleton.1 hf]
     exact ⟨fun e => hfb g hg e.symm, fun k hk _ => by rcases hk with hk | hk <;> simp [Value.ownBlock] at hk⟩
   · rw [List.mem_singleton.1 hf, List.mem_singleton.1 hg] at hne
     exact absurd rfl hne
 · refine h.keepP hB fun k hk hd => ?_
   rcases hk with rfl | rfl
   · exact h.qP hd
   · exact h.fP (.inl rfl) hd
 · intro d hd
   refine ⟨(h.wf.names d hd).1, fun e he => ?_⟩
   obtain ⟨h1, f, hf, h2⟩ := (h.wf.names d hd).2 e he
   exact ⟨h1, f, List.mem_append.2 (.inl hf), h2⟩
 · intro f hf
   rcases List.mem_append.1 hf with hf | hf
   · have := h.wf.nums f hf
     show f.num ≤ x.made + 1
     omega
   · rw [List.mem_singleton.1 hf]; exact Nat.le_refl _
 · intro w hw
   obtain ⟨h1, h2, h3, h4⟩ := h.wf.pend w hw
   refine ⟨h1, by show w.id ≤ x.made + 1; omega, h3, fun f hf he => ?_⟩
   rcases List.mem_append.1 hf with hf | hf
   · exact h4 f hf he
   · rw [List.mem_singleton.1 hf] at he
     have : x.made + 1 = w.id := he
     omega
 · have := h.wf.small
   refine ⟨this.1, ?_, this.2.2.1, hsm.1⟩
   show (x.fs ++ [_]).length ≤ _
   rw [List.length_append]
   exact hsm.2
end Go.Proofs.YtoppcpiheaedlaaGreatDoor
end
section
/-
  The program's disk: the next directory; names that are taken away; new files; names that are made.
-/
namespace Go.Proofs.YtoppcpiheaedlaaGreatDoor
open Go.RowKit Go.Maps Go.MapKept
set_option linter.unusedVariables false
set_option linter.unusedSimpArgs false
attribute [local go_sem] sv nv mv pv
theorem infoDir : (Tryz.prog.info? 103).map (fun i => (i.zero, i.size, i.bytes)) = some (some (.map none), 1, 8) := by kernel_rfl
theorem infoDir_parts : ∃ i z, Tryz.prog.info? 103 = some i ∧ i.zero = some z ∧ i.size = 1 ∧ i.bytes = 8 ∧ z.cells.size = 1 := by
 obtain ⟨i, h1, h2⟩ := Option.map_eq_some_iff.1 infoDir
 simp only [Prod.mk.injEq] at h2
 exact ⟨i, _, h1, h2.1, h2.2.1, h2.2.2, rfl⟩
def Px.push (x : Px) (v : Value) (nb : Nat) (d : Dir) : Px := { x with vd := v, dirs := x.dirs ++ [(nb, d)] }
set_option maxRecDepth 100000 in
set_option maxHeartbeats 1000000 in
theorem pChange {w : World} {q : Nat} {x : Px} (h : PD w q x) (hsm : x.dirs.length < 1000000) :
 Calls Tryz.prog 101 #[.pointer (some ⟨q, 0, none⟩)] w fun e w' => ∃ nb v, e = .returned (.map (some nb)) ∧ w.heap.size ≤ nb ∧ PD w' q (x.push v nb (nowX x).2) ∧ TurnP q x (x.push v nb (nowX x).2) w w' ∧ MapA sv nv w' nb (nowX x).2 := by
 obtain ⟨i0, z0, hi, hz, hs2, hb2, hzs⟩ := infoDir_parts
 have HN := Lib.hid (pNow h)
 have H := Lib.hid h
 have HM := Lib.hid (h.dirs.map _ (nowX_mem x h.wf.ne))
 have Hnames := Lib.hid (h.wf.names _ (nowX_mem x h.wf.ne))
 obtain ⟨a, cap, e1⟩ := own_form h.dirs.row
 have c1 := h.cell 1 x.vd rfl
 have hown := h.dirs.row
 obtain ⟨n, Hn⟩ : ∃ n, Hid (x.dirs.length = n) := ⟨_, rfl⟩
 obtain ⟨xs, Hxs⟩ : ∃ xs, Hid (x.dirs.map (fun d => mv d.1) = xs) := ⟨_, rfl⟩
 have Hvc : Hid (x.vd = .slice a n cap) := by show _ = _; rw [e1, Hn.out]
 have hqn : ¬ (x.vd.ownBlock = some q) := fun e => h.qD (.inl e)
 rw [Hvc.out] at c1 hown hqn
 rw [Hn.out] at hown hsm
 rw [Hxs.out] at hown
 have Hown := Lib.hid hown
 have Hsm := Lib.hid hsm
 obtain ⟨b, hb⟩ : ∃ b, (nowX x).1 = b := ⟨_, rfl⟩
 obtain ⟨d, hd⟩ : ∃ d, (nowX x).2 = d := ⟨_, rfl⟩
 rw [hb] at HN HM
 rw [hd] at HM Hnames ⊢
 unfold mv at HN
 clear h e1 hown hsm hb hd
 go_enter Tryz.func101, Tryz.ntmps101
 go_wp2_with fail
 refine HN.out.mono ?_
 rintro e w1 ⟨rfl, hG⟩
 have HC := Lib.hid (pMapClone b d w1 (HM.out.grows hG))
 have HG := Lib.hid hG
 clear hG
 go_wp2_with fail
 refine HC.out.mono ?_
 rintro e w2 ⟨rfl, hm, hG, hs⟩
 have HM2 := Lib.hid hm
 have HG2 := Lib.hid (Grows.trans' HG.out hG)
 have c2 := HG2.out.cell' c1
 have hle : w.heap.size ≤ w1.heap.size := HG.out.size
 obtain ⟨nb, Hnb⟩ : ∃ nb, Hid (w1.heap.size = nb) := ⟨_, rfl⟩
 rw [Hnb.out] at HM2 hle ⊢
 have Hle := Lib.hid hle
 clear hm hG hs c1 hle
 go_wp2_with (at_builtin; refine wpList_appendx rfl _ _ 94 103 rfl i0 z0 1 8 Tryz.underlying94 hi hz hs2 hb2 hzs (by omega) _ n xs rfl ?q1 ⟨w2.heap.size, 0, none⟩ 1 1 [.map (some nb)] ?q2 rfl ?q3 ?q7 ?q4 ?q5 ?q6)
 case q1 => exact own_grows Hown.out (Grows.trans' HG2.out (Grows.alloc' _ _))
 case q2 => rfl
 case q3 =>
  intro j u hu
  rw [Addr.add_lit, Nat.zero_add, World.cell?_alloc_at _ _ _ _ rfl]
  simpa using hu
 case q7 => intro u hu; simp at hu; subst hu; rfl
 case q4 => have := Hsm.out; unfold maxLen; omega
 case q5 => have := Hsm.out; omega
 intro v6 w6 hown6 hgrow6 hat6
 obtain ⟨a6, c6, rfl⟩ := own_form hown6
 have hbut : But (fun k => x.vd.ownBlock = some k) w w6 := (But.ofGrows (Grows.trans' HG2.out (Grows.alloc' _ _))).trans' (But.grown hgrow6 (fun j hj => by rw [Hvc.out]; exact hj))
 have hM6 : MapA sv nv w6 nb d := (HM2.out.grows (Grows.alloc' _ _)).kept (hgrow6.block nb (by have := HM2.out.lt; first | omega | (simp; omega)) (fun e => by
  have h1 := kind_own Hown.out e.symm
  have h2 := kind_lt h1
  have := Hle.out
  omega))
 have HA := Lib.hid (H.out.pushDir nb d (.slice a6 (n + 1) c6) hbut (by rw [Hn.out, Hxs.out]; exact hown6) (by
  rw [Hvc.out]
  rcases hat6 with h | h
  · exact .inl h
  · right; intro j hj; rw [h] at hj; have := Option.some.inj hj; have := HG2.out.size; omega) hM6 Hle.out Hnames.out (by rw [Hn.out]; exact Hsm.out))
 have HM6 := Lib.hid hM6
 have hrow6 := hbut.blockEq (by rw [Hvc.out]; exact hqn) H.out.row
 have cX := cell_of_row w6 q 1 _ _ _ hrow6
 rw [show (pdRow x)[1]? = some x.vd from rfl, Hvc.out] at cX
 have fX : w6.frozen? ⟨q, 1, none⟩ = false := frozen_of_row w6 q 1 _ _ hrow6
 have Hnq : Hid (nb ≠ q) := by have := H.out.ltU (.inl rfl); have := Hle.out; show _ ≠ _; omega
 clear hown6 hgrow6 hat6 hbut hM6 hrow6
 go_wp2
 go_ret
 exact ⟨nb, _, rfl, Hle.out, HA.out.1, HA.out.2, HM6.out.kept ((But.setCell (But.refl' (fun k => k = q) w6) ⟨q, 1, none⟩ _ rfl).block nb HM6.out.lt Hnq.out)⟩
theorem delA_len {α β : Type} [DecidableEq α] (l : List (α × β)) (a : α) : (delA l a).length ≤ l.length := List.length_filter_le _ _
theorem delA_mem {α β : Type} [DecidableEq α] {l : List (α × β)} {a : α} {p : α × β} (h : p ∈ delA l a) : p ∈ l := (List.mem_filter.1 h).1
theorem delA_id {α β : Type} [DecidableEq α] {l : List (α × β)} {a : α} (h : ∀ p ∈ l, p.1 ≠ a) : delA l a = l := List.filter_eq_self.2 fun p hp => by simpa using h p hp
theorem PD.oldDirs {w : World} {q : Nat} {x : Px} (h : PD w q x) {nb : Nat} (hnb : w.heap.size ≤ nb) : ∀ e ∈ x.dirs, e.1 ≠ nb := fun e he => by
 have := h.ltU (k := e.1) (.inr (.inl (.inr ⟨e, he, rfl⟩)))
 omega
theorem push_mut {q : Nat} {x : Px} {v : Value} {nb : Nat} {d d' : Dir} {k : Nat} (h : mutP q (x.push v nb d) k) : mutP q (x.push v nb d') k := h
theorem push_use {q : Nat} {x : Px} {v : Value} {nb : Nat} {d d' : Dir} {k : Nat} (h : useP q (x.push v nb d) k) : useP q (x.push v nb d') k := by
 rcases h with h | h | h | h
 · exact .inl h
 · refine .inr (.inl ?_)
   rcases h with h | ⟨e, he, rfl⟩
   · exact .inl h
   · rcases List.mem_append.1 he with he | he
     · exact .inr ⟨e, List.mem_append.2 (.inl he), rfl⟩
     · rw [List.mem_singleton.1 he]
       exact .inr ⟨(nb, d'), by simp [Px.push], rfl⟩
 · exact .inr (.inr (.inl h))
 · exact .inr (.inr (.inr h))
theorem PD.turnPush {w w' w'' : World} {q : Nat} {x : Px} {v : Value} {nb : Nat} {d d' : Dir} (h0 : PD w q x) (hnb : w.heap.size ≤ nb) (h : PD w' q (x.push v nb d)) (hT : TurnP q x (x.push v nb d) w w') (hg : w'.grownBy w'' (some nb)) (hm : MapA sv nv w'' nb d')
 (hn : d'.length ≤ 8 ∧ ∀ e ∈ d', nameOK e.1 = true ∧ ∃ f ∈ x.fs, f.num = e.2) : PD w'' q (x.push v nb d') ∧ TurnP q x (x.push v nb d') w w'' :=
 ⟨h.turnDir x.dirs nb d d' rfl (h0.oldDirs hnb) hg hm hn, hT.step (But.one hg) (fun k hk => .inr (by omega)) (fun k hk => .inl (push_mut hk)) (fun k hk => .inl (push_use hk))⟩
set_option maxRecDepth 100000 in
set_option maxHeartbeats 1000000 in
theorem pRemove {w : World} {q : Nat} {x : Px} (h : PD w q x) (nm : Nm) (hn : okS nm) (hsm : x.dirs.length < 1000000) :
 Calls Tryz.prog 80 #[.pointer (some ⟨q, 0, none⟩), sv nm] w fun e w' => e = .returned (.int .i64 (removeP x.s nm).1) ∧ ∃ x', PD w' q x' ∧ x'.s = (removeP x.s nm).2 ∧ TurnP q x x' w w' := by
 have HB := Lib.hid (pBeginWith h nm hn)
 have Hn := Lib.hid hn
 have Hsm := Lib.hid hsm
 unfold sv at HB ⊢
 by_cases hf : (beginP x.s).1 = 0
 · have Hs : Hid (removeP x.s nm = if (findA (nowX x).2 nm).isNone then (7, (beginP x.s).2) else (0, { (beginP x.s).2 with dirs := (beginP x.s).2.dirs ++ [delA (nowX x).2 nm] })) := by
    show _ = _
    unfold removeP
    rw [guardP_yes hf, ← beginX_s, nowX_s]
    rfl
   have hr : bwR x nm = findR (nowX x).2 nm := by unfold bwR; rw [if_pos hf]
   rw [hr] at HB
   cases hd : findA (nowX x).2 nm with
   | none =>
    have hr' : findR (nowX x).2 nm = .tuple #[.int .i64 0, .int .i64 7] := by unfold findR; rw [hd]
    have Hr : Hid (removeP x.s nm = (7, (beginP x.s).2)) := by show _ = _; rw [Hs.out, hd]; rfl
    rw [hr'] at HB
    clear h hn hsm hf hr hd hr'
    go_enter Tryz.func80, Tryz.ntmps80
    go_wp2_with fail
    refine HB.out.mono ?_
    rintro e w1 ⟨rfl, hP, hT⟩
    have HP := Lib.hid hP
    have HT := Lib.hid hT
    clear hP hT
    go_wp2
    go_ret
    exact ⟨by rw [Hr.out]; rfl, beginX x, HP.out, by rw [Hr.out, beginX_s], HT.out⟩
   | some n =>
    have hr' : findR (nowX x).2 nm = .tuple #[nv n, .int .i64 0] := by unfold findR; rw [hd]
    have Hr : Hid (removeP x.s nm = (0, { (beginP x.s).2 with dirs := (beginP x.s).2.dirs ++ [delA (nowX x).2 nm] })) := by show _ = _; rw [Hs.out, hd]; rfl
    rw [hr'] at HB
    clear h hn hsm hf hr hd hr'
    go_enter Tryz.func80, Tryz.ntmps80
    go_wp2_with fail
    refine HB.out.mono ?_
    rintro e w1 ⟨rfl, hP, hT⟩
    have HP := Lib.hid hP
    have HT := Lib.hid hT
    have HC := Lib.hid (pChange hP Hsm.out)
    clear hP hT
    go_wp2_with fail
    refine HC.out.mono ?_
    rintro e w2 ⟨nb, v, rfl, hle, hP2, hT2, hM2⟩
    have HP2 := Lib.hid hP2
    have HT2 := Lib.hid hT2
    have HM2 := Lib.hid hM2
    have Hle := Lib.hid hle
    have Hok : Hid (∀ p ∈ (nowX (beginX x)).2, okS p.1) := HP.out.okD (nowX_mem _ HP.out.wf.ne)
    clear hle hP2 hT2 hM2
    go_wp2_with (at_delete; refine wpList_dropA rfl _ _ 103 3 rfl HM2.out keyD Hok.out Tryz.underlying103 nm Hn.out rfl rfl ?_; intro w3 hm3 hg3 hs3)
    have hnames := HP.out.wf.names _ (nowX_mem _ HP.out.wf.ne)
    have HA := Lib.hid (HP.out.turnPush Hle.out HP2.out HT2.out hg3 hm3 ⟨Nat.le_trans (delA_len _ _) hnames.1, fun e he => hnames.2 e (delA_mem he)⟩)
    clear hm3 hg3 hs3 hnames
    go_wp2
    go_ret
    refine ⟨by rw [Hr.out]; rfl, _, HA.out.1, ?_, HT.out.trans HA.out.2⟩
    rw [Hr.out, ← beginX_s]
    unfold Px.push Px.s
    simp
    rfl
 · have Hr : Hid (removeP x.s nm = beginP x.s) := guardP_no hf
   have hr : bwR x nm = .tuple #[.int .i64 0, .int .i64 (beginP x.s).1] := by unfold bwR; rw [if_neg hf]
   rw [hr] at HB
   obtain ⟨fc, Hfc⟩ : ∃ y, Hid ((beginP x.s).1 = y) := ⟨_, rfl⟩
   rw [Hfc.out] at HB hf
   have hne : (fc == 0) = false := by simpa using hf
   clear h hn hsm hf hr
   go_enter Tryz.func80, Tryz.ntmps80
   go_wp2_with fail
   refine HB.out.mono ?_
   rintro e w1 ⟨rfl, hP, hT⟩
   have HP := Lib.hid hP
   have HT := Lib.hid hT
   clear hP hT
   go_wp2
   go_ret
   exact ⟨by rw [Hr.out, Hfc.out]; rfl, beginX x, HP.out, by rw [Hr.out, beginX_s], HT.out⟩
end Go.Proofs.YtoppcpiheaedlaaGreatDoor
end
section
/-
  The program's disk: a new file; names that are made.
-/
namespace Go.Proofs.YtoppcpiheaedlaaGreatDoor
open Go.RowKit Go.Maps Go.MapKept
set_option linter.unusedVariables false
set_option linter.unusedSimpArgs false
attribute [local go_sem] sv nv mv pv
def Px.addF (x : Px) (fb : Nat) : Px := { x with fs := x.fs ++ [⟨x.made + 1, fb, .slice none 0 0, .slice none 0 0, [], []⟩], made := x.made + 1 }
set_option maxRecDepth 100000 in
set_option maxHeartbeats 1000000 in
theorem pAdd {w : World} {q : Nat} {x : Px} (h : PD w q x) (fb : Nat) (hfb : ∀ f ∈ x.fs, f.blk ≠ fb) (hrow : w.heap[fb]? = some (.cells #[.slice none 0 0, .slice none 0 0] 113 (0, 0))) (hsm : x.made < 1000000 ∧ x.fs.length < 1000000) :
 Calls Tryz.prog 97 #[.pointer (some ⟨q, 0, none⟩), .pointer (some ⟨fb, 0, none⟩)] w fun e w' => e = .returned (nv (x.made + 1)) ∧ PD w' q (x.addF fb) ∧ But (fun k => k = q ∨ k = x.fm) w w' := by
 have hmx : Tryz.prog.follows .mixedOrders = true := by kernel_rfl
 obtain ⟨m, Hm⟩ : ∃ m, Hid (x.made = m) := ⟨_, rfl⟩
 obtain ⟨m1, hm1⟩ : ∃ m1, m + 1 = m1 := ⟨_, rfl⟩
 have Hm1 : Hid (x.made + 1 = m1) := by show _ = _; rw [Hm.out, hm1]
 have em : (m : Int) + 1 = (m1 : Int) := by omega
 have hmI : (m1 : Int) ≤ 1000000 := by have := hsm.1; rw [Hm.out] at this; omega
 have d3 := h.cell 3 (nv x.made) rfl
 have d2 := h.cell 2 (mv x.fm) rfl
 have f3 := h.frozen 3
 rw [Hm.out] at d3
 obtain ⟨fm, Hfm⟩ : ∃ b, Hid (x.fm = b) := ⟨_, rfl⟩
 rw [Hfm.out] at d2
 unfold nv at d3
 unfold mv at d2
 have hr1 := row_setCell h.row 3 (.int .i64 (m1 : Int))
 have hB1 : But (fun k => k = q) w (w.setCell ⟨q, 3, none⟩ (.int .i64 (m1 : Int))) := But.setCell (But.refl' _ _) _ _ rfl
 have c3 : (w.setCell ⟨q, 3, none⟩ (.int .i64 (m1 : Int))).cell? ⟨q, 3, none⟩ = some (.int .i64 (m1 : Int)) := by rw [cell_of_row _ q 3 _ _ _ hr1]; rfl
 have c2 : (w.setCell ⟨q, 3, none⟩ (.int .i64 (m1 : Int))).cell? ⟨q, 2, none⟩ = some (.map (some fm)) := by rw [cell_of_row _ q 2 _ _ _ hr1]; show some (mv x.fm) = _; rw [Hfm.out]; rfl
 have HM := Lib.hid (h.files.map.kept (hB1.block _ h.files.map.lt fun e => h.qF (.inl e.symm)))
 have Hok := Lib.hid h.okF
 have Hlen : Hid ((x.fs.map Fi.ent).length < maxLen ∧ okI m1 ∧ ∀ p ∈ x.fs.map Fi.ent, p.1 ≠ m1) := by
  show _ ∧ _ ∧ _
  refine ⟨?_, ?_, ?_⟩
  · rw [List.length_map]; unfold maxLen; omega
  · unfold okI; omega
  · intro p hp
    obtain ⟨f, hf, rfl⟩ := List.mem_map.1 hp
    have := h.wf.nums f hf
    have := Hm1.out
    show f.num ≠ m1
    omega
 rw [Hfm.out] at HM
 have H := Lib.hid h
 have Hrow := Lib.hid hrow
 have Hfb := Lib.hid hfb
 have Hsm := Lib.hid hsm
 have Hr1 := Lib.hid hr1
 have HB1 := Lib.hid hB1
 clear h hrow hfb hsm hr1 hB1 hm1
 rw [Hm1.out]
 unfold nv
 go_enter Tryz.func97, Tryz.ntmps97
 go_wp2
 have cX := fun X (hX : Grows _ X) => And.intro (Grows.cell' hX c2) (Grows.cell' hX c3)
 refine specs_last 9
  #[[], [0], [0, 1], [0, 1, 2], [], [4], [4, 5], [4, 5, 6], [], [0, 1, 2, 3, 4, 5, 6, 7, 8]] #[[0], [], [], [], [0], [], [], [], [1], []] #[true, true, true, true, true, true, true, true, true, true]
  ((.val ?v0) :: (.val ?v1) :: (.val ?v2) :: (.val ?v3) :: (.val ?v4) :: (.val ?v5) :: (.val ?v6) :: (.val ?v7) :: (.val ?v8) :: (.any) :: []).toArray
  hmx ?chk ?grd rfl ?stp ?rst
 case chk => rfl
 case stp =>
  refine ⟨?_, ?_, ?_, ?_, ?_, ?_, ?_, ?_, ?_, ?_, trivial⟩
  · refine stepO 0 ?v0 rfl (fun _ _ => rfl) rfl (fun _ => rfl) (by decide) ?_; show (.pointer (some ⟨q, 0, none⟩) : Value) = _; rfl
  · refine stepR (o := ⟨_, .nilCheck (.tmp 12), _, _, _, _⟩) ?v1 rfl rfl (fun _ => rfl) fun ρ X hc hf hgl hX hp ho => ?_; have k12 : ρ (.tmp 12) = ?v0 := hp 0 (by decide); clear hp ho hX; go_simp; (all_goals rfl)
  · refine stepR (o := ⟨_, .fieldAddr 100 (.tmp 13) 2, _, _, _, _⟩) ?v2 rfl rfl (fun _ => rfl) fun ρ X hc hf hgl hX hp ho => ?_; have k13 : ρ (.tmp 13) = ?v1 := hp 1 (by decide); clear hp ho hX; go_simp; (all_goals rfl)
  · refine stepR (o := ⟨_, .load 95 (.tmp 14), _, _, _, _⟩) ?v3 rfl rfl (fun _ => rfl) fun ρ X hc hf hgl hX hp ho => ?_; have k14 : ρ (.tmp 14) = ?v2 := hp 2 (by decide); have cX := cX X hX; clear hp ho hX; go_simp; (all_goals rfl)
  · refine stepO 0 ?v4 rfl (fun _ _ => rfl) rfl (fun _ => rfl) (by decide) ?_; show (.pointer (some ⟨q, 0, none⟩) : Value) = _; rfl
  · refine stepR (o := ⟨_, .nilCheck (.tmp 16), _, _, _, _⟩) ?v5 rfl rfl (fun _ => rfl) fun ρ X hc hf hgl hX hp ho => ?_; have k16 : ρ (.tmp 16) = ?v4 := hp 4 (by decide); clear hp ho hX; go_simp; (all_goals rfl)
  · refine stepR (o := ⟨_, .fieldAddr 100 (.tmp 17) 3, _, _, _, _⟩) ?v6 rfl rfl (fun _ => rfl) fun ρ X hc hf hgl hX hp ho => ?_; have k17 : ρ (.tmp 17) = ?v5 := hp 5 (by decide); clear hp ho hX; go_simp; (all_goals rfl)
  · refine stepR (o := ⟨_, .load 3 (.tmp 18), _, _, _, _⟩) ?v7 rfl rfl (fun _ => rfl) fun ρ X hc hf hgl hX hp ho => ?_; have k18 : ρ (.tmp 18) = ?v6 := hp 6 (by decide); have cX := cX X hX; clear hp ho hX; go_simp; (all_goals rfl)
  · refine stepO 1 ?v8 rfl (fun _ _ => rfl) rfl (fun _ => rfl) (by decide) ?_; show (.pointer (some ⟨fb, 0, none⟩) : Value) = _; rfl
  · exact last_intro rfl
 case grd => rfl
 case rst =>
  intro a0 X hb
  have hfr := hb.frame ((12, ?v0) :: (13, ?v1) :: (14, ?v2) :: (15, ?v3) :: (16, ?v4) :: (17, ?v5) :: (18, ?v6) :: (19, ?v7) :: (20, ?v8) :: []) rfl ⟨hb.done' 0 12 rfl rfl, hb.done' 1 13 rfl rfl, hb.done' 2 14 rfl rfl, hb.done' 3 15 rfl rfl, hb.done' 4 16 rfl rfl, hb.done' 5 17 rfl rfl, hb.done' 6 18 rfl rfl, hb.done' 7 19 rfl rfl, hb.done' 8 20 rfl rfl, trivial⟩
  simp only [updL, ↓reduceIte, Nat.reduceEqDiff, Nat.reduceAdd, Nat.zero_add] at hfr
  have HX := Lib.hid hb.ext
  clear hb cX
  subst hfr
  change StepOk _ { dst := _, op := Op.mapUpdate 95 (Operand.tmp 15) (Operand.tmp 19) (Operand.tmp 20), type := _, pos := _, after := _, guard := _ } _ _ _
  obtain ⟨W3, hrun, hm3, hg3, hs3⟩ := (HM.out.grows HX.out).put keyF Hok.out Tryz.underlying95 Hlen.out.1 m1 Hlen.out.2.1 fb
  unfold nv pv at hrun
  have cX : W3.cell? ⟨q, 3, none⟩ = some (.int .i64 (m1 : Int)) := (World.cell?_of_block (a := ⟨q, 3, none⟩) (hg3.block q (by have := World.block_lt_of_cell? _ _ c3; have := HX.out.size; simp at *; omega) (fun e => H.out.qF (.inl (by rw [Hfm.out]; exact Option.some.inj e))))).trans (HX.out.cell' c3)
  have hB3 : But (fun k => k = q ∨ k = x.fm) w W3 := (HB1.out.mono fun k hk => .inl hk).trans' ((But.ofGrows HX.out).trans' ((But.one hg3).mono fun k hk => .inr (by rw [Hfm.out]; exact hk)))
  have hq3 : W3.heap[q]? = some (.cells (pdRow { x with made := x.made + 1 }) 100 (0, 0)) := by
   have hr3 := HX.out.heap' Hr1.out
   rw [hg3.block q (Array.getElem?_eq_some_iff.1 hr3).1 (fun e => H.out.qF (.inl (by rw [Hfm.out]; exact Option.some.inj e))), hr3]
   show some (Obj.cells ((pdRow x).setIfInBounds 3 _) _ _) = _
   unfold pdRow
   rw [show nv ({ x with made := x.made + 1 } : Px).made = .int .i64 (m1 : Int) by show nv (x.made + 1) = _; rw [Hm1.out]; rfl]
   rfl
  have HF := Lib.hid (H.out.addFile fb Hfb.out Hrow.out hB3 hq3 (by
   have hm4 := hm3
   unfold putA at hm4
   rw [delA_id Hlen.out.2.2] at hm4
   rw [Hm1.out, Hfm.out]
   exact hm4) Hsm.out)
  have HB3 := Lib.hid hB3
  clear hB3 hq3 hm3 hg3 hs3
  unfold StepOk
  simp [go_sem, execOp, hrun]
  clear hrun
  go_wp2
  go_ret
  exact ⟨rfl, HF.out, HB3.out⟩
set_option maxRecDepth 100000 in
set_option maxHeartbeats 1000000 in
theorem pCreate {w : World} {q : Nat} {x : Px} (h : PD w q x) (nm : Nm) (hn : okS nm) (hnl : True) (hsm : x.dirs.length < 1000000 ∧ x.made < 1000000 ∧ x.fs.length < 1000000) :
 Calls Tryz.prog 73 #[.pointer (some ⟨q, 0, none⟩), sv nm] w fun e w' => e = .returned (.int .i64 (createP x.s nm).1) ∧ ∃ x', PD w' q x' ∧ x'.s = (createP x.s nm).2 ∧ TurnP q x x' w w' := by
 have HB := Lib.hid (pBegin h)
 have HN := Lib.hid (pIsName nm hnl)
 have Hn := Lib.hid hn
 have Hsm := Lib.hid hsm
 unfold sv at HN ⊢
 by_cases hf : (beginP x.s).1 = 0
 · have Hs : Hid (createP x.s nm = if nameOK nm = false then (2, (beginX x).s) else if (findA (nowX x).2 nm).isSome then (40, (beginX x).s) else if 8 ≤ (nowX x).2.length then (6, (beginX x).s)
    else (0, { (beginX x).s with dirs := (beginX x).s.dirs ++ [putA (nowX x).2 nm (x.made + 1)], files := (beginX x).s.files ++ [(x.made + 1, ([], []))], made := x.made + 1 })) := by
    show _ = _
    unfold createP
    rw [guardP_yes hf, ← beginX_s, nowX_s]
    rfl
   rw [hf] at HB
   clear h hn hnl hsm hf
   by_cases hok : nameOK nm = false
   · have Hr : Hid (createP x.s nm = (2, (beginX x).s)) := by show _ = _; rw [Hs.out, if_pos hok]
     rw [hok] at HN
     clear hok
     go_enter Tryz.func73, Tryz.ntmps73
     go_wp2_with fail
     refine HB.out.mono ?_
     rintro e w1 ⟨rfl, hP, hT⟩
     have HP := Lib.hid hP
     have HT := Lib.hid hT
     clear hP hT
     go_wp2_with fail
     refine (HN.out _).mono ?_
     rintro e w2 ⟨rfl, e3⟩
     have e4 := e3.symm
     subst e4
     go_wp2
     go_ret
     exact ⟨by rw [Hr.out]; rfl, beginX x, HP.out, by rw [Hr.out], HT.out⟩
   · have hok' : nameOK nm = true := by simpa using hok
     have Hok := Lib.hid hok'
     have Hs2 : Hid (createP x.s nm = if (findA (nowX x).2 nm).isSome then (40, (beginX x).s) else if 8 ≤ (nowX x).2.length then (6, (beginX x).s)
      else (0, { (beginX x).s with dirs := (beginX x).s.dirs ++ [putA (nowX x).2 nm (x.made + 1)], files := (beginX x).s.files ++ [(x.made + 1, ([], []))], made := x.made + 1 })) := by
      show _ = _; rw [Hs.out, if_neg hok]
     rw [hok'] at HN
     clear hok hok' Hs
     cases hd : findA (nowX x).2 nm with
     | some n =>
      have hr' : findR (nowX x).2 nm = .tuple #[nv n, .int .i64 0] := by unfold findR; rw [hd]
      have Hr : Hid (createP x.s nm = (40, (beginX x).s)) := by show _ = _; rw [Hs2.out, hd]; rfl
      have Hr' := Lib.hid hr'
      clear hd hr'
      go_enter Tryz.func73, Tryz.ntmps73
      go_wp2_with fail
      refine HB.out.mono ?_
      rintro e w1 ⟨rfl, hP, hT⟩
      have HP := Lib.hid hP
      have HT := Lib.hid hT
      have HF := Lib.hid (pFind hP nm Hn.out)
      rw [show (nowX (beginX x)).2 = (nowX x).2 from rfl, Hr'.out] at HF
      unfold sv at HF
      clear hP hT
      go_wp2_with fail
      refine (HN.out _).mono ?_
      rintro e w2 ⟨rfl, e3⟩
      have e4 := e3.symm
      subst e4
      go_wp2_with fail
      refine HF.out.mono ?_
      rintro e w3 ⟨rfl, hG⟩
      have HG := Lib.hid hG
      clear hG
      go_wp2
      go_ret
      exact ⟨by rw [Hr.out]; rfl, beginX x, HP.out.grows HG.out, by rw [Hr.out], HT.out.trans (TurnP.ofGrows HG.out)⟩
     | none =>
      have hr' : findR (nowX x).2 nm = .tuple #[.int .i64 0, .int .i64 7] := by unfold findR; rw [hd]
      have Hs3 : Hid (createP x.s nm = if 8 ≤ (nowX x).2.length then (6, (beginX x).s)
       else (0, { (beginX x).s with dirs := (beginX x).s.dirs ++ [putA (nowX x).2 nm (x.made + 1)], files := (beginX x).s.files ++ [(x.made + 1, ([], []))], made := x.made + 1 })) := by
       show _ = _; rw [Hs2.out, hd]; rfl
      have Hr' := Lib.hid hr'
      have Hd := Lib.hid hd
      obtain ⟨L, HL⟩ : ∃ L, Hid ((nowX x).2.length = L) := ⟨_, rfl⟩
      clear hd hr' Hs2
      by_cases h8 : 8 ≤ L
      · have Hr : Hid (createP x.s nm = (6, (beginX x).s)) := by show _ = _; rw [Hs3.out, HL.out, if_pos h8]
        have h8I : (8 : Int) ≤ (L : Int) := by omega
        clear h8
        go_enter Tryz.func73, Tryz.ntmps73
        go_wp2_with fail
        refine HB.out.mono ?_
        rintro e w1 ⟨rfl, hP, hT⟩
        have HP := Lib.hid hP
        have HT := Lib.hid hT
        have HF := Lib.hid (pFind hP nm Hn.out)
        rw [show (nowX (beginX x)).2 = (nowX x).2 from rfl, Hr'.out] at HF
        unfold sv at HF
        clear hP hT
        go_wp2_with fail
        refine (HN.out _).mono ?_
        rintro e w2 ⟨rfl, e3⟩
        have e4 := e3.symm
        subst e4
        go_wp2_with fail
        refine HF.out.mono ?_
        rintro e w3 ⟨rfl, hG⟩
        have hP3 := HP.out.grows hG
        have HW := Lib.hid (pNow hP3)
        have HM3 := Lib.hid (hP3.dirs.map _ (nowX_mem _ hP3.wf.ne))
        have HG := Lib.hid hG
        clear hG hP3
        rw [show nowX (beginX x) = nowX x from rfl] at HW HM3
        unfold mv at HW
        go_wp2_with fail
        refine HW.out.mono ?_
        rintro e w4 ⟨rfl, hG⟩
        have HM4 := Lib.hid (HM3.out.grows hG)
        have HG4 := Lib.hid (Grows.trans' HG.out hG)
        clear hG
        go_wp2_with (at_len; refine wpList_lenA rfl _ 103 3 rfl HM4.out Tryz.underlying103 rfl ?_; rw [HL.out])
        go_ret
        exact ⟨by rw [Hr.out]; rfl, beginX x, HP.out.grows HG4.out, by rw [Hr.out], HT.out.trans (TurnP.ofGrows HG4.out)⟩
      · have Hr : Hid (createP x.s nm = (0, { (beginX x).s with dirs := (beginX x).s.dirs ++ [putA (nowX x).2 nm (x.made + 1)], files := (beginX x).s.files ++ [(x.made + 1, ([], []))], made := x.made + 1 })) := by
         show _ = _; rw [Hs3.out, HL.out, if_neg h8]
        have h8I : ¬ (8 : Int) ≤ (L : Int) := by omega
        have H8 := Lib.hid h8
        clear h8 Hs3
        go_enter Tryz.func73, Tryz.ntmps73
        go_wp2_with fail
        refine HB.out.mono ?_
        rintro e w1 ⟨rfl, hP, hT⟩
        have HP := Lib.hid hP
        have HT := Lib.hid hT
        have HF := Lib.hid (pFind hP nm Hn.out)
        rw [show (nowX (beginX x)).2 = (nowX x).2 from rfl, Hr'.out] at HF
        unfold sv at HF
        clear hP hT
        go_wp2_with fail
        refine (HN.out _).mono ?_
        rintro e w2 ⟨rfl, e3⟩
        have e4 := e3.symm
        subst e4
        go_wp2_with fail
        refine HF.out.mono ?_
        rintro e w3 ⟨rfl, hG⟩
        have hP3 := HP.out.grows hG
        have HW := Lib.hid (pNow hP3)
        have HM3 := Lib.hid (hP3.dirs.map _ (nowX_mem _ hP3.wf.ne))
        have HG := Lib.hid hG
        clear hG hP3
        rw [show nowX (beginX x) = nowX x from rfl] at HW HM3
        unfold mv at HW
        go_wp2_with fail
        refine HW.out.mono ?_
        rintro e w4 ⟨rfl, hG⟩
        have HM4 := Lib.hid (HM3.out.grows hG)
        have HG4 := Lib.hid (Grows.trans' HG.out hG)
        have HP4 := Lib.hid (HP.out.grows HG4.out)
        have HT4 := Lib.hid (HT.out.trans (TurnP.ofGrows HG4.out))
        have HC := Lib.hid (pChange HP4.out Hsm.out.1)
        clear hG
        go_wp2_with (at_len; refine wpList_lenA rfl _ 103 3 rfl HM4.out Tryz.underlying103 rfl ?_; rw [HL.out])
        refine HC.out.mono ?_
        rintro e w5 ⟨nb, v, rfl, hle, hP5, hT5, hM5⟩
        have HP5 := Lib.hid hP5
        have HT5 := Lib.hid hT5
        have HM5 := Lib.hid hM5
        have Hle := Lib.hid hle
        have hP6 := hP5.grows (Grows.alloc' w5 (.cells #[.slice none 0 0, .slice none 0 0] 113))
        have HA := Lib.hid (pAdd hP6 w5.heap.size (fun f hf => by have := hP5.ltU (k := f.blk) (.inr (.inr (.inl (.inr ⟨f, hf, .inl rfl⟩)))); omega) (heap_alloc_new w5 _) Hsm.out.2)
        have HP6 := Lib.hid hP6
        clear hle hP5 hT5 hM5 hP6
        rw [show ((beginX x).push v nb (nowX (beginX x)).2).made + 1 = x.made + 1 from rfl] at HA
        go_wp2_with fail
        refine HA.out.mono ?_
        rintro e w6 ⟨rfl, hP7, hB7⟩
        have HP7 := Lib.hid hP7
        have HB7 := Lib.hid hB7
        have Hok6 : Hid (∀ p ∈ (nowX x).2, okS p.1) := HP.out.okD (nowX_mem _ HP.out.wf.ne)
        have hM6 : MapA sv nv w6 nb (nowX x).2 := HP7.out.dirs.map (nb, (nowX x).2) (by simp [Px.addF, Px.push]; right; rfl)
        have HM6 := Lib.hid hM6
        have HlenL : Hid ((nowX x).2.length < maxLen) := by show _ < _; have := HP.out.wf.names _ (nowX_mem _ HP.out.wf.ne); have e : (nowX (beginX x)).2.length = (nowX x).2.length := rfl; unfold maxLen; omega
        clear hP7 hB7 hM6
        go_wp2_with (at_mapUpdate; refine wpList_putA rfl _ _ _ 103 3 rfl HM6.out keyD Hok6.out Tryz.underlying103 HlenL.out nm Hn.out (x.made + 1) rfl rfl rfl ?_; intro w7 hm7 hg7 hs7)
        have HF7 : Hid (PD w7 q (((beginX x).addF w5.heap.size).push v nb (putA (nowX x).2 nm (x.made + 1))) ∧ TurnP q (beginX x) (((beginX x).addF w5.heap.size).push v nb (putA (nowX x).2 nm (x.made + 1))) w4 w7) := by
         have e0 : ((beginX x).push v nb (nowX (beginX x)).2).addF w5.heap.size = ((beginX x).addF w5.heap.size).push v nb (nowX x).2 := rfl
         have h7 := HP7.out
         rw [e0] at h7
         have hnb : ∀ e ∈ (beginX x).dirs, e.1 ≠ nb := HP4.out.oldDirs Hle.out
         refine ⟨h7.turnDir _ nb _ _ rfl hnb hg7 hm7 ⟨?_, ?_⟩, ?_⟩
         · unfold putA
           rw [List.length_append]
           have := delA_len (nowX x).2 nm
           have := HL.out
           have := H8.out
           simp only [List.length_cons, List.length_nil]
           omega
         · intro e he
           rcases List.mem_append.1 he with he | he
           · obtain ⟨h1, f, hf, h2⟩ := (HP.out.wf.names _ (nowX_mem _ HP.out.wf.ne)).2 e (delA_mem he)
             exact ⟨h1, f, List.mem_append.2 (.inl hf), h2⟩
           · rw [List.mem_singleton.1 he]
             exact ⟨Hok.out, _, List.mem_append.2 (.inr (List.mem_singleton.2 rfl)), rfl⟩
         · have hsz := HT5.out.but.size
           refine HT5.out.step (O := fun k => k = q ∨ k = x.fm ∨ w4.heap.size ≤ k) ((But.ofGrows (Grows.alloc' w5 _)).trans' ((HB7.out.mono fun k hk => hk.imp id .inl).trans' ((But.one hg7).mono fun k hk => .inr (.inr (by rw [hk]; exact Hle.out))))) ?_ ?_ ?_
           · intro k hk
             rcases hk with hk | hk | hk
             · exact .inl (.inl hk)
             · exact .inl (.inr (.inr (.inl (.inl hk))))
             · exact .inr hk
           · intro k hk
             rcases hk with hk | hk | hk | hk
             · exact .inl (.inl hk)
             · exact .inl (.inr (.inl hk))
             · rcases hk with hk | ⟨f, hf, hk⟩
               · exact .inl (.inr (.inr (.inl (.inl hk))))
               · rcases List.mem_append.1 hf with hf | hf
                 · exact .inl (.inr (.inr (.inl (.inr ⟨f, hf, hk⟩))))
                 · rw [List.mem_singleton.1 hf] at hk
                   rcases hk with hk | hk | hk
                   · right; have : k = w5.heap.size := hk; omega
                   · simp [Value.ownBlock] at hk
                   · simp [Value.ownBlock] at hk
             · exact .inl (.inr (.inr (.inr hk)))
           · intro k hk
             rcases hk with hk | hk | hk | hk
             · exact .inl (.inl hk)
             · rcases hk with hk | ⟨e, he, rfl⟩
               · exact .inl (.inr (.inl (.inl hk)))
               · rcases List.mem_append.1 he with he | he
                 · exact .inl (.inr (.inl (.inr ⟨e, List.mem_append.2 (.inl he), rfl⟩)))
                 · rw [List.mem_singleton.1 he]; exact .inr Hle.out
             · rcases hk with hk | ⟨f, hf, hk⟩
               · exact .inl (.inr (.inr (.inl (.inl hk))))
               · rcases List.mem_append.1 hf with hf | hf
                 · exact .inl (.inr (.inr (.inl (.inr ⟨f, hf, hk⟩))))
                 · rw [List.mem_singleton.1 hf] at hk
                   rcases hk with hk | hk | hk
                   · right; have : k = w5.heap.size := hk; omega
                   · simp [Value.ownBlock] at hk
                   · simp [Value.ownBlock] at hk
             · exact .inl (.inr (.inr (.inr hk)))
        clear hm7 hg7 hs7
        go_wp2
        go_ret
        refine ⟨by rw [Hr.out]; rfl, _, HF7.out.1, ?_, HT4.out.trans HF7.out.2⟩
        rw [Hr.out]
        unfold Px.push Px.addF Px.s
        simp
        exact ⟨rfl, rfl⟩
 · have Hr : Hid (createP x.s nm = beginP x.s) := guardP_no hf
   obtain ⟨fc, Hfc⟩ : ∃ y, Hid ((beginP x.s).1 = y) := ⟨_, rfl⟩
   rw [Hfc.out] at HB hf
   have hne : (fc == 0) = false := by simpa using hf
   clear h hn hsm hf hnl
   go_enter Tryz.func73, Tryz.ntmps73
   go_wp2_with fail
   refine HB.out.mono ?_
   rintro e w1 ⟨rfl, hP, hT⟩
   have HP := Lib.hid hP
   have HT := Lib.hid hT
   clear hP hT
   go_wp2
   go_ret
   exact ⟨by rw [Hr.out, Hfc.out]; rfl, beginX x, HP.out, by rw [Hr.out, beginX_s], HT.out⟩
end Go.Proofs.YtoppcpiheaedlaaGreatDoor
end
section
/-
  The program's disk: one directory alone, and the files that it names; all changes made safe; a new disk; arming.
-/
namespace Go.Proofs.YtoppcpiheaedlaaGreatDoor
open Go.RowKit Go.Maps Go.MapKept
set_option linter.unusedVariables false
set_option linter.unusedSimpArgs false
attribute [local go_sem] sv nv mv pv
theorem RangeA.left {α β : Type} {kv : α → Value} {vv : β → Value} {W : World} {b r : Nat} {l todo : List (α × β)} (h : RangeA kv vv W b r l todo) : W.rangeLeft b r = todo.length := by
 obtain ⟨es, clock, since, seen, c0, hb, hs, hm, h2, hr, h3, h4, h5, h6⟩ := h
 simp only [World.rangeLeft, hb, hr]
 have := h6.length_eq
 simpa using this
def named (d : Dir) (f : Fi) : Bool := d.any fun e => e.2 == f.num
theorem fs_nodup {w : World} {q : Nat} {x : Px} (h : PD w q x) : (x.fs.map fun f => f.num).Nodup := by
 have := h.files.map.nodup
 rw [List.map_map] at this
 exact this
theorem ent_nodup {fs : List Fi} (h : (fs.map fun f => f.num).Nodup) : (fs.map Fi.ent).Nodup := by
 have h1 : ((fs.map Fi.ent).map (·.1)).Nodup := by rw [List.map_map]; exact h
 rw [List.Nodup, List.pairwise_map] at h1
 exact h1.imp fun h e => h (by rw [e])
theorem putA_nodup {α β : Type} [DecidableEq α] {l : List (α × β)} (h : (l.map (·.1)).Nodup) (a : α) (b : β) : ((putA l a b).map (·.1)).Nodup := by
 unfold putA
 rw [List.map_append, List.nodup_append]
 refine ⟨(List.filter_sublist.map _).nodup h, by simp, ?_⟩
 intro x hx y hy e
 simp at hy
 obtain ⟨p, hp, rfl⟩ := List.mem_map.1 hx
 have := (List.mem_filter.1 hp).2
 simp at this
 exact this (e.trans hy)
theorem nodup_of_keys {α β : Type} {l : List (α × β)} (h : (l.map (·.1)).Nodup) : l.Nodup := by
 rw [List.Nodup, List.pairwise_map] at h
 exact h.imp fun h e => h (by rw [e])
theorem num_inj {fs : List Fi} (h : (fs.map fun f => f.num).Nodup) {f g : Fi} (hf : f ∈ fs) (hg : g ∈ fs) (e : f.num = g.num) : f = g := by
 induction fs with
 | nil => simp at hf
 | cons a l ih =>
  rw [List.map_cons, List.nodup_cons] at h
  rcases List.mem_cons.1 hf with hf | hf <;> rcases List.mem_cons.1 hg with hg | hg
  · rw [hf, hg]
  · exact absurd (List.mem_map.2 ⟨g, hg, by rw [← e, hf]⟩) h.1
  · exact absurd (List.mem_map.2 ⟨f, hf, by rw [e, hg]⟩) h.1
  · exact ih h.2 hf hg
theorem settle_step {fs : List Fi} (hnd : (fs.map fun f => f.num).Nodup) (done : Dir) (e : Nm × Nat) (f : Fi) (hf : f ∈ fs) (he : f.num = e.2) :
 (putA ((fs.filter (named done)).map Fi.ent) e.2 f.blk).Perm ((fs.filter (named (done ++ [e]))).map Fi.ent) := by
 have h1 : ((fs.filter (named done)).map fun f => f.num).Nodup := (List.filter_sublist.map _).nodup hnd
 have h2 : ((fs.filter (named (done ++ [e]))).map fun f => f.num).Nodup := (List.filter_sublist.map _).nodup hnd
 refine (List.perm_ext_iff_of_nodup (nodup_of_keys (putA_nodup (by rw [List.map_map]; exact h1) _ _)) (ent_nodup h2)).2 fun p => ?_
 unfold putA delA
 simp only [List.mem_append, List.mem_filter, List.mem_map, List.mem_singleton]
 constructor
 · rintro (⟨⟨g, ⟨hg, hn⟩, rfl⟩, _⟩ | rfl)
   · refine ⟨g, ⟨hg, ?_⟩, rfl⟩
     unfold named at hn ⊢
     rw [List.any_append, hn]
     rfl
   · refine ⟨f, ⟨hf, ?_⟩, by show (f.num, f.blk) = _; rw [he]⟩
     unfold named
     rw [List.any_append]
     simp [he]
 · rintro ⟨g, ⟨hg, hn⟩, rfl⟩
   by_cases hge : g.num = e.2
   · right
     have : g = f := num_inj hnd hg hf (hge.trans he.symm)
     rw [this]
     show (f.num, f.blk) = _
     rw [he]
   · left
     refine ⟨⟨g, ⟨hg, ?_⟩, rfl⟩, decide_eq_true hge⟩
     unfold named at hn ⊢
     rw [List.any_append] at hn
     simp at hn
     rcases hn with hn | hn
     · simpa using hn
     · exact absurd hn.symm hge
def Px.settled (x : Px) (v : Value) (d : Nat × Dir) (fm : Nat) : Px := { x with vd := v, dirs := [d], fm := fm, fs := x.fs.filter (named d.2) }
theorem settled_s (x : Px) (v : Value) (d : Nat × Dir) (fm : Nat) : (x.settled v d fm).s = settleP x.s d.2 := by
 unfold Px.settled Px.s settleP named
 simp only [List.map_cons, List.map_nil, List.filter_map]
 rfl
theorem PD.settled {W W1 : World} {q : Nat} {x : Px} (h : PD W q x) (d : Nat × Dir) (hd : d ∈ x.dirs) (fm : Nat) (hG : Grows W W1) (hfm : W.heap.size ≤ fm) (hm : MapA nv pv W1 fm ((x.fs.filter (named d.2)).map Fi.ent)) :
 PD (((W1.alloc (.cells #[mv d.1] 103)).setCell ⟨q, 1, none⟩ (.slice (some ⟨W1.heap.size, 0, none⟩) 1 1)).setCell ⟨q, 2, none⟩ (mv fm)) q (x.settled (.slice (some ⟨W1.heap.size, 0, none⟩) 1 1) d fm) ∧
 TurnP q x (x.settled (.slice (some ⟨W1.heap.size, 0, none⟩) 1 1) d fm) W (((W1.alloc (.cells #[mv d.1] 103)).setCell ⟨q, 1, none⟩ (.slice (some ⟨W1.heap.size, 0, none⟩) 1 1)).setCell ⟨q, 2, none⟩ (mv fm)) := by
 have hq := h.ltU (k := q) (.inl rfl)
 have hqs : q < W1.heap.size := Nat.lt_of_lt_of_le hq hG.size
 have hG2 : Grows W (W1.alloc (.cells #[mv d.1] 103)) := Grows.trans' hG (Grows.alloc' _ _)
 have hB : But (fun k => k = q) W (((W1.alloc (.cells #[mv d.1] 103)).setCell ⟨q, 1, none⟩ (.slice (some ⟨W1.heap.size, 0, none⟩) 1 1)).setCell ⟨q, 2, none⟩ (mv fm)) := But.setCell (O := fun k => k = q) (But.setCell (O := fun k => k = q) (But.ofGrows hG2) ⟨q, 1, none⟩ _ rfl) ⟨q, 2, none⟩ _ rfl
 have hB1 : But (fun k => k = q) (W1.alloc (.cells #[mv d.1] 103)) (((W1.alloc (.cells #[mv d.1] 103)).setCell ⟨q, 1, none⟩ (.slice (some ⟨W1.heap.size, 0, none⟩) 1 1)).setCell ⟨q, 2, none⟩ (mv fm)) := But.setCell (O := fun k => k = q) (But.setCell (O := fun k => k = q) (But.refl' _ _) ⟨q, 1, none⟩ _ rfl) ⟨q, 2, none⟩ _ rfl
 have hD := h.keepD hB fun k hk hd => h.qD (hk ▸ hd)
 have hF := h.keepF hB fun k hk hd => h.qF (hk ▸ hd)
 have hdl := (h.dirs.map d hd).lt
 refine ⟨⟨row_setCell (row_setCell (hG2.heap' h.row) 1 _) 2 _, ⟨?_, ?_⟩, ⟨?_, ?_, ?_⟩, h.keepP hB fun k hk hd => h.qP (hk ▸ hd), ?_, ⟨h.wf.room, by simp [Px.settled], ?_, ?_, ?_, h.wf.first, ?_⟩⟩, ?_, ?_, hB.mono fun k hk => .inl hk⟩
 · have hr : (W1.alloc (.cells #[mv d.1] 103)).ownsRow 0 103 1 (.slice (some ⟨W1.heap.size, 0, none⟩) 1 1) 1 [mv d.1] :=
    ⟨rfl, .inr ⟨W1.heap.size, 1, _, rfl, Nat.zero_le _, heap_alloc_new W1 _, Nat.le_refl _, by simp [maxLen], rfl, rfl⟩⟩
   exact own_but hr hB1 fun j hj hn => by
    have hj' : Value.ownBlock (.slice (some ⟨W1.heap.size, 0, none⟩) 1 1) = some j := hj
    have : W1.heap.size = j := by simpa [Value.ownBlock] using hj'
    omega
 · intro e he
   rw [List.mem_singleton.1 he]
   exact hD.map d hd
 · exact (hm.grows (Grows.alloc' _ _)).kept (hB1.block fm (by simp; have := hm.lt; omega) (by omega))
 · intro f hf
   exact hF.ok f (List.mem_filter.1 hf).1
 · intro f hf g hg hne
   exact hF.apart f (List.mem_filter.1 hf).1 g (List.mem_filter.1 hg).1 hne
 · intro e he
   rw [List.mem_singleton.1 he]
   show d.1 ≠ fm
   omega
 · intro e he
   rw [List.mem_singleton.1 he]
   refine ⟨(h.wf.names d hd).1, fun p hp => ?_⟩
   obtain ⟨h1, f, hf, h2⟩ := (h.wf.names d hd).2 p hp
   refine ⟨h1, f, List.mem_filter.2 ⟨hf, ?_⟩, h2⟩
   unfold named
   exact List.any_eq_true.2 ⟨p, hp, by simp [h2]⟩
 · intro f hf
   exact h.wf.nums f (List.mem_filter.1 hf).1
 · intro w hw
   obtain ⟨h1, h2, h3, h4⟩ := h.wf.pend w hw
   exact ⟨h1, h2, h3, fun f hf => h4 f (List.mem_filter.1 hf).1⟩
 · have := h.wf.small
   refine ⟨by simp [Px.settled], ?_, this.2.2⟩
   exact Nat.le_trans (List.length_filter_le _ _) this.2.1
 · intro k hk
   rcases hk with hk | hk | hk | hk
   · exact .inl (.inl hk)
   · have hk' : Value.ownBlock (.slice (some ⟨W1.heap.size, 0, none⟩) 1 1) = some k := hk
     have : W1.heap.size = k := by simpa [Value.ownBlock] using hk'
     right; have := hG.size; omega
   · rcases hk with hk | ⟨f, hf, hk⟩
     · right; have : k = fm := hk; omega
     · exact .inl (.inr (.inr (.inl (.inr ⟨f, (List.mem_filter.1 hf).1, hk⟩))))
   · exact .inl (.inr (.inr (.inr hk)))
 · intro k hk
   rcases hk with hk | hk | hk | hk
   · exact .inl (.inl hk)
   · rcases hk with hk | ⟨e, he, rfl⟩
     · have hk' : Value.ownBlock (.slice (some ⟨W1.heap.size, 0, none⟩) 1 1) = some k := hk
       have : W1.heap.size = k := by simpa [Value.ownBlock] using hk'
       right; have := hG.size; omega
     · rw [List.mem_singleton.1 he]
       exact .inl (.inr (.inl (.inr ⟨d, hd, rfl⟩)))
   · rcases hk with hk | ⟨f, hf, hk⟩
     · right; have : k = fm := hk; omega
     · exact .inl (.inr (.inr (.inl (.inr ⟨f, (List.mem_filter.1 hf).1, hk⟩))))
   · exact .inl (.inr (.inr (.inr hk)))
theorem okI_small {n : Nat} (h : n ≤ 1000000) : okI n := by unfold okI; omega
theorem PD.look {w : World} {q : Nat} {x : Px} (h : PD w q x) {f : Fi} (hf : f ∈ x.fs) : findA (x.fs.map Fi.ent) f.num = some f.blk :=
 findA_of_mem (by rw [List.map_map]; exact fs_nodup h) (List.mem_map.2 ⟨f, hf, rfl⟩)
set_option maxRecDepth 100000 in
set_option maxHeartbeats 1000000 in
theorem pSettle {w : World} {q : Nat} {x : Px} (h : PD w q x) (d : Nat × Dir) (hd : d ∈ x.dirs) :
 Calls Tryz.prog 69 #[.pointer (some ⟨q, 0, none⟩), .map (some d.1)] w fun e w' => e = .returned (.tuple #[]) ∧ ∃ v fm, PD w' q (x.settled v d fm) ∧ TurnP q x (x.settled v d fm) w w' := by
 have H := Lib.hid h
 have Hd := Lib.hid hd
 obtain ⟨db, Hdb⟩ : ∃ b, Hid (d.1 = b) := ⟨_, rfl⟩
 obtain ⟨dl, Hdl⟩ : ∃ b, Hid (d.2 = b) := ⟨_, rfl⟩
 have HM : Hid (MapA sv nv w db dl) := by have := h.dirs.map d hd; rw [Hdb.out, Hdl.out] at this; exact this
 have Hnum : Hid (∀ e ∈ dl, ∃ f ∈ x.fs, f.num = e.2) := fun e he => ((h.wf.names d hd).2 e (by rw [Hdl.out]; exact he)).2
 have c2 := h.cell 2 (mv x.fm) rfl
 have hql := h.ltU (k := q) (.inl rfl)
 have Hql := Lib.hid hql
 have Hok := Lib.hid h.okF
 have Hfm := Lib.hid h.files.map
 have Hnd := Lib.hid (fs_nodup h)
 have Hsm := Lib.hid (show x.fs.length ≤ 1000000 ∧ ∀ f ∈ x.fs, f.num ≤ 1000000 from ⟨h.wf.small.2.1, fun f hf => Nat.le_trans (h.wf.nums f hf) h.wf.small.2.2.2⟩)
 have Hlook : Hid (∀ f ∈ x.fs, findA (x.fs.map Fi.ent) f.num = some f.blk) := fun f hf => h.look hf
 obtain ⟨fm, Hfmb⟩ : ∃ b, Hid (x.fm = b) := ⟨_, rfl⟩
 rw [Hfmb.out] at c2 Hfm
 unfold mv at c2
 rw [Hdb.out]
 have hmk := @run_makeMap Tryz.prog
 clear h hd hql
 have Hc2 := Lib.hid c2
 clear c2
 go_enter Tryz.func69, Tryz.ntmps69
 go_wp2_with (at_range; refine wpList_rangeA rfl _ 103 3 rfl (HM.out.grows (Grows.alloc' _ _)) Tryz.underlying103 rfl ?_; intro w1 hr1 hg1 hs1)
 have Hs0 : Hid ((w.alloc (.map #[] 0)).heap.size = w.heap.size + 1) := by show _ = _; simp
 have HG1 : Hid (Grows w w1) := Grows.trans' (Grows.alloc' _ _) hg1
 rw [Hs0.out] at hr1 ⊢
 have HM0 : Hid (MapA nv pv w1 w.heap.size ((x.fs.filter (named [])).map Fi.ent)) := by
  have : x.fs.filter (named []) = [] := by simp [named]
  rw [this]
  exact (MapA.made w).grows hg1
 have HR1 := Lib.hid hr1
 clear hmk hr1 hg1 hs1
 go_frame
 go_loopw [6] (fun _ wr => ∃ done todo, dl.Perm (done ++ todo) ∧ RangeA sv nv wr db (w.heap.size + 1) dl todo ∧ MapA nv pv wr w.heap.size ((x.fs.filter (named done)).map Fi.ent) ∧ Grows w wr)
  (fun _ wr => wr.rangeLeft db (w.heap.size + 1))
 case atStart => exact ⟨[], dl, by simp, HR1.out, HM0.out, HG1.out⟩
 case round =>
  obtain ⟨done, todo, hp, hrg, hmm, hgw⟩ := hrel
  have Hp := Lib.hid hp
  have Hrg := Lib.hid hrg
  have Hmm := Lib.hid hmm
  have Hgw := Lib.hid hgw
  clear hp hrg hmm hgw
  go_wp2_with (at_next; refine wpList_nextA rfl _ rfl _ todo Hrg.out rfl ?_ ?_)
  · intro h0
    subst h0
    have hfin : MapA nv pv wr w.heap.size ((x.fs.filter (named d.2)).map Fi.ent) := by
     have : x.fs.filter (named d.2) = x.fs.filter (named done) := by
      refine List.filter_congr fun f _ => ?_
      unfold named
      have := Hp.out
      rw [List.append_nil] at this
      rw [Hdl.out]
      exact this.any_eq
     rw [this]
     exact Hmm.out
    have hqw : Hid (q < wr.heap.size) := Nat.lt_of_lt_of_le Hql.out Hgw.out.size
    have HF := Lib.hid (H.out.settled d Hd.out w.heap.size Hgw.out (Nat.le_refl _) hfin)
    rw [Hdb.out] at HF
    unfold mv at HF
    have hrow := Hgw.out.heap' H.out.row
    have r1 := cell_of_row _ q 1 _ _ _ ((Grows.alloc' wr (.cells #[.map (some db)] 103)).heap' hrow)
    have r2 := cell_of_row _ q 2 _ _ _ (row_setCell ((Grows.alloc' wr (.cells #[.map (some db)] 103)).heap' hrow) 1 (.slice (some ⟨wr.heap.size, 0, none⟩) 1 1))
    have s1 : (wr.alloc (.cells #[.map (some db)] 103)).frozen? ⟨q, 1, none⟩ = false := frozen_of_row _ q 1 _ _ ((Grows.alloc' wr (.cells #[.map (some db)] 103)).heap' hrow)
    have s2 : ((wr.alloc (.cells #[.map (some db)] 103)).setCell ⟨q, 1, none⟩ (.slice (some ⟨wr.heap.size, 0, none⟩) 1 1)).frozen? ⟨q, 2, none⟩ = false := frozen_of_row _ q 2 _ _ (row_setCell ((Grows.alloc' wr (.cells #[.map (some db)] 103)).heap' hrow) 1 (.slice (some ⟨wr.heap.size, 0, none⟩) 1 1))
    rw [show (pdRow x)[1]? = some x.vd from rfl] at r1
    rw [show ((pdRow x).setIfInBounds 1 (.slice (some ⟨wr.heap.size, 0, none⟩) 1 1))[2]? = some (mv x.fm) from rfl, Hfmb.out] at r2
    unfold mv at r2
    obtain ⟨vd, Hvd⟩ : ∃ v, Hid (x.vd = v) := ⟨_, rfl⟩
    obtain ⟨a, cap, e1⟩ := own_form H.out.dirs.row
    rw [e1] at r1
    clear hfin hrow
    go_wp2
    go_end0
    exact ⟨rfl, _, _, HF.out.1, HF.out.2⟩
  · intro p1 p2 todo' w2 hp2 hr2 hg2 hs2 hen
    have Hr2 := Lib.hid hr2
    have Hp2 := Lib.hid hp2
    obtain ⟨f, hf, hfn⟩ := Hnum.out (p1, p2) (Hp.out.mem_iff.2 (List.mem_append.2 (.inr (hp2.mem_iff.2 (by simp)))))
    have HFf := Lib.hid hf
    have Hfn := Lib.hid hfn
    have hg2' : Grows w w2 := ⟨hg2.os.trans Hgw.out.os, hg2.tape.trans Hgw.out.tape, hg2.output.trans Hgw.out.output, Nat.le_trans Hgw.out.size hg2.size, fun k hk => (hg2.block k (Nat.lt_of_lt_of_le hk Hgw.out.size) (fun e => by have := Option.some.inj e; omega)).trans (Hgw.out.block k hk)⟩
    have Hg2 := Lib.hid hg2'
    have c2 := hg2'.cell' Hc2.out
    have hmm2 : MapA nv pv w2 w.heap.size ((x.fs.filter (named done)).map Fi.ent) := Hmm.out.kept (hg2.block _ Hmm.out.lt (fun e => by have := Option.some.inj e; omega))
    have Hmm2 := Lib.hid hmm2
    have Hfm2 := Lib.hid (Hfm.out.grows hg2')
    have hlk := Hlook.out f hf
    rw [hfn] at hlk
    have Hlk := Lib.hid hlk
    have Hokp := Lib.hid (show okI p2 from okI_small (by have := Hsm.out.2 f hf; rw [hfn] at this; exact this))
    have Hfil : Hid ((∀ g ∈ (x.fs.filter (named done)).map Fi.ent, okI g.1) ∧ ((x.fs.filter (named done)).map Fi.ent).length < maxLen) := by
     refine ⟨fun g hg => ?_, ?_⟩
     · obtain ⟨g', hg', rfl⟩ := List.mem_map.1 hg
       exact Hok.out _ (List.mem_map.2 ⟨g', (List.mem_filter.1 hg').1, rfl⟩)
     · rw [List.length_map]
       have := List.length_filter_le (named done) x.fs
       have := Hsm.out.1
       unfold maxLen
       omega
    clear hp2 hr2 hg2 hs2 hf hfn hg2' hmm2 hlk
    go_wp2_with (first
     | (at_lookup; refine wpList_lookA rfl _ _ 95 109 false rfl Hfm2.out keyF Hok.out Tryz.underlying95 _ (zeroFile _) p2 Hokp.out rfl rfl (pv f.blk) (by rw [Hlk.out]; rfl) ?_)
     | (at_mapUpdate; refine wpList_putA rfl _ _ _ 95 109 rfl Hmm2.out keyF Hfil.out.1 Tryz.underlying95 Hfil.out.2 p2 Hokp.out f.blk rfl rfl rfl ?_; intro w3 hm3 hg3 hs3; go_frame)
     | go_in)
    have hr3 : RangeA sv nv w3 db (w.heap.size + 1) dl todo' := Hr2.out.kept (hg3.block _ Hr2.out.map.lt (fun e => by have := Option.some.inj e; have := HM.out.lt; omega)) (hg3.block _ Hr2.out.lt (fun e => by have := Option.some.inj e; omega))
    have hg3' : Grows w w3 := ⟨hg3.os.trans Hg2.out.os, hg3.tape.trans Hg2.out.tape, hg3.output.trans Hg2.out.output, Nat.le_trans Hg2.out.size hg3.size, fun k hk => (hg3.block k (Nat.lt_of_lt_of_le hk Hg2.out.size) (fun e => by have := Option.some.inj e; omega)).trans (Hg2.out.block k hk)⟩
    go_roundw
    case rel =>
     refine ⟨done ++ [(p1, p2)], todo', ?_, hr3, hm3.perm (settle_step Hnd.out done (p1, p2) f HFf.out Hfn.out), hg3'⟩
     refine Hp.out.trans ?_
     rw [List.append_assoc]
     exact Hp2.out.append_left done
    case measure =>
     rw [hr3.left, Hrg.out.left]
     have := Hp2.out.length_eq
     simp at this
     omega
end Go.Proofs.YtoppcpiheaedlaaGreatDoor
end
section
/-
  The program's disk: a new disk; arming; all changes made safe; what is answered with an error.
-/
namespace Go.Proofs.YtoppcpiheaedlaaGreatDoor
open Go.RowKit Go.Maps Go.MapKept
set_option linter.unusedVariables false
set_option linter.unusedSimpArgs false
attribute [local go_sem] sv nv mv pv
set_option maxRecDepth 100000 in
set_option maxHeartbeats 1000000 in
theorem pSyncDir {w : World} {q : Nat} {x : Px} (h : PD w q x) :
 Calls Tryz.prog 74 #[.pointer (some ⟨q, 0, none⟩)] w fun e w' => e = .returned (.int .i64 (syncDirP x.s).1) ∧ ∃ x', PD w' q x' ∧ x'.s = (syncDirP x.s).2 ∧ TurnP q x x' w w' := by
 have HB := Lib.hid (pBegin h)
 by_cases hf : (beginP x.s).1 = 0
 · have Hr : Hid (syncDirP x.s = (0, settleP (beginX x).s (nowX (beginX x)).2)) := by
    show _ = _
    unfold syncDirP
    rw [guardP_yes hf, ← beginX_s, nowX_s]
   rw [hf] at HB
   clear h hf
   go_enter Tryz.func74, Tryz.ntmps74
   go_wp2_with fail
   refine HB.out.mono ?_
   rintro e w1 ⟨rfl, hP, hT⟩
   have HP := Lib.hid hP
   have HT := Lib.hid hT
   have HN := Lib.hid (pNow hP)
   obtain ⟨d, Hd⟩ : ∃ d, Hid (nowX (beginX x) = d) := ⟨_, rfl⟩
   rw [Hd.out] at HN Hr
   have hdm := nowX_mem _ hP.wf.ne
   rw [Hd.out] at hdm
   have Hdm := Lib.hid hdm
   unfold mv at HN
   clear hP hT hdm
   go_wp2_with fail
   refine HN.out.mono ?_
   rintro e w2 ⟨rfl, hG⟩
   have HT2 := Lib.hid (HT.out.trans (TurnP.ofGrows hG))
   have HS := Lib.hid (pSettle (HP.out.grows hG) d Hdm.out)
   clear hG
   go_wp2_with fail
   refine HS.out.mono ?_
   rintro e w3 ⟨rfl, v, fm, hP, hT⟩
   have HP3 := Lib.hid hP
   have HT3 := Lib.hid (HT2.out.trans hT)
   clear hP hT
   go_wp2
   go_ret
   exact ⟨by rw [Hr.out]; rfl, _, HP3.out, by rw [Hr.out, settled_s], HT3.out⟩
 · have Hr : Hid (syncDirP x.s = beginP x.s) := guardP_no hf
   obtain ⟨fc, Hfc⟩ : ∃ y, Hid ((beginP x.s).1 = y) := ⟨_, rfl⟩
   rw [Hfc.out] at HB hf
   have hne : (fc == 0) = false := by simpa using hf
   clear h hf
   go_enter Tryz.func74, Tryz.ntmps74
   go_wp2_with fail
   refine HB.out.mono ?_
   rintro e w1 ⟨rfl, hP, hT⟩
   have HP := Lib.hid hP
   have HT := Lib.hid hT
   clear hP hT
   go_wp2
   go_ret
   exact ⟨by rw [Hr.out, Hfc.out]; rfl, beginX x, HP.out, by rw [Hr.out, beginX_s], HT.out⟩
def Px.new (m : Nat) (v : Value) (b fm : Nat) : Px := ⟨m, v, [(b, [])], fm, [], 0, .slice none 0 0, [], 0, 0⟩
theorem PD.new {W : World} {q m g b fm : Nat} (hm : m ≤ 4096) (hr : W.heap[q]? = some (.cells (pdRow (Px.new m (.slice (some ⟨g, 0, none⟩) 1 1) b fm)) 100 (0, 0))) (hg : W.heap[g]? = some (.cells #[mv b] 103 (0, 0)))
 (hb : W.heap[b]? = some (.map #[] 0)) (hf : W.heap[fm]? = some (.map #[] 0)) (hne : b ≠ fm) : PD W q (Px.new m (.slice (some ⟨g, 0, none⟩) 1 1) b fm) where
 row := hr
 dirs := ⟨⟨rfl, .inr ⟨g, 1, _, rfl, Nat.zero_le _, hg, Nat.le_refl _, by simp [maxLen], rfl, rfl⟩⟩, fun d hd => by
  rw [List.mem_singleton.1 hd]
  exact ⟨#[], 0, hb, stamped_empty 0, by simp, by simp⟩⟩
 files := ⟨⟨#[], 0, hf, stamped_empty 0, by simp, by simp [Px.new]⟩, fun f hf => by simp [Px.new] at hf, fun f hf => by simp [Px.new] at hf⟩
 pend := World.ownsRow_nil _ 0 _ 66
 fnd := fun d hd => by rw [List.mem_singleton.1 hd]; exact hne
 wf := ⟨hm, by simp [Px.new], fun d hd => by rw [List.mem_singleton.1 hd]; simp, fun f hf => by simp [Px.new] at hf, fun w hw => by simp [Px.new] at hw, by show _ ≤ (0 : Int) ∧ (0 : Int) ≤ _; omega, by simp [Px.new]⟩
set_option maxRecDepth 100000 in
theorem pEmpty (m : Nat) (hm : m ≤ 4096) (w : World) :
 Calls Tryz.prog 34 #[.int .i64 (m : Int)] w fun e w' => ∃ q x, e = .returned (.tuple #[.pointer (some ⟨q, 0, none⟩), .int .i64 0]) ∧ PD w' q x ∧ x.s = newP m ∧ Grows w w' ∧ ∀ k, useP q x k → w.heap.size ≤ k := by
 have h1 : ¬ (m : Int) < 0 := by omega
 have h2 : ¬ (4096 : Int) < (m : Int) := by omega
 have Hm := Lib.hid hm
 have hmk := @run_makeMap Tryz.prog
 clear hm
 go_enter Tryz.func34, Tryz.ntmps34
 go_wp2
 go_ret2
 have e1 : (w.alloc (.map #[] 0)).heap.size = w.heap.size + 1 := by simp
 have e2 : ((w.alloc (.map #[] 0)).alloc (.cells #[.map (some w.heap.size)] 103)).heap.size = w.heap.size + 1 + 1 := by simp
 have e3 : (((w.alloc (.map #[] 0)).alloc (.cells #[.map (some w.heap.size)] 103)).alloc (.map #[] 0)).heap.size = w.heap.size + 1 + 1 + 1 := by simp
 have a1 := heap_alloc_new w (.map #[] 0)
 have a2 := heap_alloc_new (w.alloc (.map #[] 0)) (.cells #[.map (some w.heap.size)] 103)
 have a3 := heap_alloc_new ((w.alloc (.map #[] 0)).alloc (.cells #[.map (some w.heap.size)] 103)) (.map #[] 0)
 have a4 := heap_alloc_new (((w.alloc (.map #[] 0)).alloc (.cells #[.map (some w.heap.size)] 103)).alloc (.map #[] 0)) (.cells #[.int .i64 (m : Int), .slice (some ⟨w.heap.size + 1, 0, none⟩) 1 1, .map (some (w.heap.size + 1 + 1)), .int .i64 0, .slice none 0 0, .int .i64 0, .int .i64 0] 100)
 rw [e1] at a2
 rw [e2] at a3
 rw [e3] at a4
 refine ⟨w.heap.size + 1 + 1 + 1, rfl, Px.new m (.slice (some ⟨w.heap.size + 1, 0, none⟩) 1 1) w.heap.size (w.heap.size + 1 + 1), PD.new Hm.out a4 ?_ ?_ ?_ (by omega), rfl, ?_, ?_⟩
 · exact (Grows.alloc' _ _).heap' ((Grows.alloc' _ _).heap' a2)
 · exact (Grows.alloc' _ _).heap' ((Grows.alloc' _ _).heap' ((Grows.alloc' _ _).heap' a1))
 · exact (Grows.alloc' _ _).heap' a3
 · exact Grows.trans' (Grows.trans' (Grows.trans' (Grows.alloc' _ _) (Grows.alloc' _ _)) (Grows.alloc' _ _)) (Grows.alloc' _ _)
 · intro k hk
   rcases hk with hk | hk | hk | hk
   · omega
   · rcases hk with hk | ⟨e, he, rfl⟩
     · have hk' : Value.ownBlock (.slice (some ⟨w.heap.size + 1, 0, none⟩) 1 1) = some k := hk
       have : w.heap.size + 1 = k := by simpa [Value.ownBlock] using hk'
       omega
     · rw [List.mem_singleton.1 he]; exact Nat.le_refl _
   · rcases hk with hk | ⟨f, hf, hk⟩
     · have : k = w.heap.size + 1 + 1 := hk; omega
     · simp [Px.new] at hf
   · have hk' : Value.ownBlock (.slice none 0 0) = some k := hk
     simp [Value.ownBlock] at hk'
set_option maxRecDepth 100000 in
theorem pEmptyBad (n : Int) (hn : n < 0 ∨ 4096 < n) (w : World) :
 Calls Tryz.prog 34 #[.int .i64 n] w fun e w' => e = .returned (.tuple #[.pointer none, .int .i64 2]) ∧ Grows w w' := by
 by_cases h1 : n < 0
 · clear hn
   go_enter Tryz.func34, Tryz.ntmps34
   go_wp2
   go_ret2
   exact ⟨rfl, Below.refl _ _⟩
 · have h2 : (4096 : Int) < n := by omega
   clear hn
   go_enter Tryz.func34, Tryz.ntmps34
   go_wp2
   go_ret2
   exact ⟨rfl, Below.refl _ _⟩
def opNew : List UInt8 := [110, 101, 119]
set_option maxRecDepth 100000 in
theorem pNew (m : Nat) (hm : m ≤ 4096) (w : World) :
 Calls Tryz.prog 10 #[.int .i64 (m : Int)] w fun e w' => ∃ q x, e = .returned (.tuple #[.pointer (some ⟨q, 0, none⟩), .nilIface]) ∧ PD w' q x ∧ x.s = newP m ∧ Grows w w' ∧ ∀ k, useP q x k → w.heap.size ≤ k := by
 have HE := Lib.hid (pEmpty m hm w)
 clear hm
 go_enter Tryz.func10, Tryz.ntmps10
 go_wp2_with fail
 refine HE.out.mono ?_
 rintro e w1 ⟨q, x, rfl, hP, hs, hG, hu⟩
 have HP := Lib.hid hP
 have HS := Lib.hid hs
 have HG := Lib.hid hG
 have HU := Lib.hid hu
 clear hP hs hG hu
 go_wp2_with fail
 refine (pFault opNew [] 0 w1).mono ?_
 rintro e w2 ⟨v, rfl, hF, hG2⟩
 rcases hF with ⟨_, rfl⟩ | ⟨h0, _⟩
 · have HG2 := Lib.hid hG2
   clear hG2
   go_wp2
   go_ret2
   exact ⟨q, x, rfl, HP.out.grows HG2.out, HS.out, Grows.trans' HG.out HG2.out, HU.out⟩
 · exact absurd rfl h0
set_option maxRecDepth 100000 in
theorem pNewBad (n : Int) (hn : n < 0 ∨ 4096 < n) (w : World) :
 Calls Tryz.prog 10 #[.int .i64 n] w fun e w' => ∃ v, e = .returned (.tuple #[.pointer none, v]) ∧ IsFault w' v opNew [] 2 ∧ Grows w w' := by
 have HE := Lib.hid (pEmptyBad n hn w)
 clear hn
 go_enter Tryz.func10, Tryz.ntmps10
 go_wp2_with fail
 refine HE.out.mono ?_
 rintro e w1 ⟨rfl, hG⟩
 have HG := Lib.hid hG
 clear hG
 go_wp2_with fail
 refine (pFault opNew [] 2 w1).mono ?_
 rintro e w2 ⟨v, rfl, hF, hG2⟩
 have HF := Lib.hid hF
 have HG2 := Lib.hid hG2
 clear hG2 hF
 go_wp2
 go_ret2
 exact ⟨v, rfl, HF.out, Grows.trans' HG.out HG2.out⟩
def armX (x : Px) (after code : Int) : Px := x.arm (armP x.s after code).first (armP x.s after code).code
theorem armX_s (x : Px) (after code : Int) : (armX x after code).s = armP x.s after code := by
 unfold armX armP Px.arm Px.s
 split <;> rfl
set_option maxRecDepth 100000 in
set_option maxHeartbeats 1000000 in
theorem pArm {w : World} {q : Nat} {x : Px} (h : PD w q x) (after code : Int) (ha : -9223372036854775808 ≤ after ∧ after ≤ 9223372036854775807) :
 Calls Tryz.prog 23 #[.pointer (some ⟨q, 0, none⟩), .int .i64 after, .int .i64 code] w fun e w' => e = .returned (.tuple #[]) ∧ PD w' q (armX x after code) ∧ TurnP q x (armX x after code) w w' := by
 have Hrow := Lib.hid h.row
 have hsz : (Tryz.prog.info? 98).map (·.size) = some 2 := by kernel_rfl
 have HA := Lib.hid (h.setArm (w' := w.setRow q (ovr (pdRow x) 5 [.int .i64 0, .int .i64 0])) 0 0 (by omega) (setRow_cells h.row _) (But.setRow (But.refl' _ _) _ _ rfl))
 have Hrow2 := Lib.hid HA.out.1.row
 have HA2 := Lib.hid (HA.out.1.setArm (w' := (w.setRow q (ovr (pdRow x) 5 [.int .i64 0, .int .i64 0])).setRow q (ovr (pdRow (x.arm 0 0)) 5 [.int .i64 after, .int .i64 code])) after code ha (setRow_cells HA.out.1.row _) (But.setRow (But.refl' _ _) _ _ rfl))
 by_cases hc : 0 ≤ after ∧ (code = 41 ∨ code = 42)
 · have e : armX x after code = x.arm after code := by unfold armX armP; rw [if_pos hc]
   rw [e]
   obtain ⟨ha0, hc⟩ := hc
   have HT : Hid (TurnP q x (x.arm after code) w ((w.setRow q (ovr (pdRow x) 5 [.int .i64 0, .int .i64 0])).setRow q (ovr (pdRow (x.arm 0 0)) 5 [.int .i64 after, .int .i64 code]))) := HA.out.2.trans HA2.out.2
   clear h e ha
   rcases hc with hc | hc
   · have e41 : (code == 41) = true := by simpa using hc
     have He := Lib.hid hc
     clear hc
     go_enter Tryz.func23, Tryz.ntmps23
     go_wp2_with (first | (refine wpList_storePart rfl 98 _ _ rfl q 5 _ _ [.int .i64 0, .int .i64 0] #[.int .i64 0, .int .i64 0] rfl rfl rfl Hrow.out (by simp [pdRow]) hsz (by simp [Value.oneCell']) ?_) | (refine wpList_storePart rfl 98 _ _ rfl q 5 _ _ [.int .i64 after, .int .i64 code] #[.int .i64 after, .int .i64 code] rfl rfl rfl Hrow2.out (by simp [pdRow]) hsz (by simp [Value.oneCell']) ?_) | go_in)
     go_end0
     exact ⟨rfl, HA2.out.1, HT.out⟩
   · have e41 : (code == 41) = false := by simp; omega
     have e42 : (code == 42) = true := by simpa using hc
     have He := Lib.hid hc
     clear hc
     go_enter Tryz.func23, Tryz.ntmps23
     go_wp2_with (first | (refine wpList_storePart rfl 98 _ _ rfl q 5 _ _ [.int .i64 0, .int .i64 0] #[.int .i64 0, .int .i64 0] rfl rfl rfl Hrow.out (by simp [pdRow]) hsz (by simp [Value.oneCell']) ?_) | (refine wpList_storePart rfl 98 _ _ rfl q 5 _ _ [.int .i64 after, .int .i64 code] #[.int .i64 after, .int .i64 code] rfl rfl rfl Hrow2.out (by simp [pdRow]) hsz (by simp [Value.oneCell']) ?_) | go_in)
     go_end0
     exact ⟨rfl, HA2.out.1, HT.out⟩
 · have e : armX x after code = x.arm 0 0 := by unfold armX armP; rw [if_neg hc]
   rw [e]
   by_cases ha0 : 0 ≤ after
   · have e41 : (code == 41) = false := by simp; intro hh; exact hc ⟨ha0, .inl hh⟩
     have e42 : (code == 42) = false := by simp; intro hh; exact hc ⟨ha0, .inr hh⟩
     clear h e ha hc
     go_enter Tryz.func23, Tryz.ntmps23
     go_wp2_with (first | (refine wpList_storePart rfl 98 _ _ rfl q 5 _ _ [.int .i64 0, .int .i64 0] #[.int .i64 0, .int .i64 0] rfl rfl rfl Hrow.out (by simp [pdRow]) hsz (by simp [Value.oneCell']) ?_) | go_in)
     go_end0
     exact ⟨rfl, HA.out.1, HA.out.2⟩
   · clear h e ha hc
     go_enter Tryz.func23, Tryz.ntmps23
     go_wp2_with (first | (refine wpList_storePart rfl 98 _ _ rfl q 5 _ _ [.int .i64 0, .int .i64 0] #[.int .i64 0, .int .i64 0] rfl rfl rfl Hrow.out (by simp [pdRow]) hsz (by simp [Value.oneCell']) ?_) | go_in)
     go_end0
     exact ⟨rfl, HA.out.1, HA.out.2⟩
end Go.Proofs.YtoppcpiheaedlaaGreatDoor
end
section
/-
  An append of so many zeros ('append(s, make([]T, n)...)') onto what is owned.
-/
namespace Go.Proofs.YtoppcpiheaedlaaGreatDoor
open Go.RowKit
set_option linter.unusedVariables false
set_option linter.unusedSimpArgs false
theorem run_append_zeros {P : Program} (w : World) (t tn ty e : TypeId) (i : TypeInfo) (z : Value) (size bytes : Nat) (k kn : IntKind) (ht : P.underlying t = some (.slice e)) (htn : P.underlying tn = some (.int kn)) (hi : P.info? e = some i) (hz : i.zero = some z)
 (hsize : i.size = size) (hby : i.bytes = bytes) (hzs : z.cells.size = size) (hsz : 0 < size) (h1 : ∀ u ∈ z.cells, u.oneCell' = true)
 (v : Value) (n : Nat) (xs : List Value) (hown : w.ownsRow 0 e size v n xs) (m : Nat)
 (h63 : n + m ≤ maxLen) (hbytes : (n + m) * bytes ≤ 140737488355328) :
 ∃ v' w', (Builtin.append_ #[t, tn] ty #[v, .int k (m : Int)]).run P w = .ok v' w' ∧ w'.ownsRow 0 e size v' (n + m) (xs ++ (Builtin.zeroCells z.cells m).toList) ∧ w.grownBy w' v.ownBlock ∧
  (v'.ownBlock = v.ownBlock ∨ v'.ownBlock = some w.heap.size) := by
 subst hsize
 subst hby
 have hsmall : n + m ≤ 9223372036854775807 := by simp only [maxLen] at h63; omega
 have hzl : (Builtin.zeroCells z.cells m).toList.length = m * i.size := by rw [Array.length_toList, size_zeroCells, hzs]
 have hlen : (xs ++ (Builtin.zeroCells z.cells m).toList).length = (n + m) * i.size := by rw [List.length_append, hown.1, hzl, Nat.add_mul]
 have hz1 : ∀ u ∈ (Builtin.zeroCells z.cells m).toList, u.oneCell' = true := by
  intro u hu
  unfold Builtin.zeroCells at hu
  simp only [Array.toList_map, List.mem_map] at hu
  obtain ⟨j, _, rfl⟩ := hu
  have hj : j % z.cells.size < z.cells.size := Nat.mod_lt _ (by omega)
  rw [getElem!_pos z.cells (j % z.cells.size) hj]
  exact h1 _ (Array.getElem_mem hj)
 have hw : IntKind.i64.wrap (m : Int) = m := by rw [IntKind.wrap_i64]; omega
 have hneg : ¬ ((m : Int) < 0) := by omega
 have hw0 : IntKind.i64.wrap 0 = 0 := by rw [IntKind.wrap_i64]; omega
 have hmb : m * i.bytes ≤ 140737488355328 := Nat.le_trans (Nat.mul_le_mul_right _ (Nat.le_add_left m n)) hbytes
 have h48i : ¬ (281474976710656 < (m : Int) * (i.bytes : Int)) := by
  rw [← Int.natCast_mul]
  omega
 have h63' : ¬ (9223372036854775807 < ((n : Int) + (m : Int))) := by omega
 have grown : ∀ (old : Nat), ∀ (row : Option Nat),
  (w.drew.alloc (.cells (xs.toArray ++ Builtin.zeroCells z.cells m ++ Builtin.zeroCells z.cells (grownCap w (n + m) old e - (n + m))) e)).ownsRow 0 e i.size
   (.slice (some ⟨w.heap.size, 0, none⟩) (n + m) (grownCap w (n + m) old e)) (n + m) (xs ++ (Builtin.zeroCells z.cells m).toList) ∧
  w.grownBy (w.drew.alloc (.cells (xs.toArray ++ Builtin.zeroCells z.cells m ++ Builtin.zeroCells z.cells (grownCap w (n + m) old e - (n + m))) e)) row := by
  intro old row
  have hge := grownCap_ge w (n + m) old e
  have hcm : grownCap w (n + m) old e ≤ maxLen := grownCap_le_maxLen w (n + m) old e h63
  refine ⟨⟨hlen, .inr ⟨w.heap.size, _, _, rfl, Nat.zero_le _, heap_alloc_new w.drew _, hge, hcm, ?_, ?_⟩⟩, ⟨rfl, rfl, rfl, by simp, fun k hk _ => heap_alloc_old w.drew _ hk⟩⟩
  · simp only [Array.size_append, List.size_toArray, size_zeroCells, hzs, hown.1, ← Nat.add_mul]
    congr 1
    omega
  · simp only [Array.toList_append, List.append_assoc]
    rw [← List.append_assoc, ← hlen]
    exact List.take_left
 rcases hown.2 with ⟨rfl, rfl⟩ | ⟨g, cap, cur, rfl, hbg, hg, hnc, hcm, hcs, htake⟩
 · have hx : xs = [] := List.eq_nil_of_length_eq_zero (by simpa using hown.1)
   subst hx
   by_cases hm : m = 0
   · subst hm
     refine ⟨.slice none 0 0, w, ?_, ?_, ⟨rfl, rfl, rfl, Nat.le_refl _, fun _ _ _ => rfl⟩, .inl rfl⟩
     · simp [Builtin.append_, run_underlying ht, run_underlying htn, sizeOf, typeInfo, hi, asInt, asIntOf, hw0, storeCells]
     · have e0 : (Builtin.zeroCells z.cells 0).toList = [] := by simp [Builtin.zeroCells]
       rw [e0]
       exact World.ownsRow_nil w 0 e i.size
   · have hr := Lib.run_append_nil_zeros (P := P) w t tn ty e i z k kn ht htn hi hz m (by omega) hsz (by omega) (by omega)
     have hgr := grown 0 (Value.ownBlock (.slice none 0 0))
     simp only [Nat.zero_add, List.nil_append, Array.empty_append] at hgr ⊢
     exact ⟨_, _, hr, hgr.1, hgr.2, .inr rfl⟩
 · by_cases hroom : n + m ≤ cap
   · have hfit : n * i.size + (Builtin.zeroCells z.cells m).toList.length ≤ cur.size := by rw [hzl, hcs, ← Nat.add_mul]; exact Nat.mul_le_mul_right _ hroom
     have hst := run_storeCells_at P g (n * i.size) e (Builtin.zeroCells z.cells m).toList 0 cur w hg (by simpa using hfit) hz1
     simp only [Nat.add_zero] at hst
     have hr : (Builtin.append_ #[t, tn] ty #[.slice (some ⟨g, 0, none⟩) n cap, .int k (m : Int)]).run P w = .ok (.slice (some ⟨g, 0, none⟩) (n + m) cap) (w.setRow g (cur.toList.take (n * i.size) ++ (Builtin.zeroCells z.cells m).toList ++ cur.toList.drop (n * i.size + (Builtin.zeroCells z.cells m).toList.length)).toArray) := by
      by_cases hm0 : m * i.size = 0
      · have hmz : m = 0 := by
         rcases Nat.mul_eq_zero.1 hm0 with h | h
         · exact h
         · omega
        subst hmz
        have e0 : (Builtin.zeroCells z.cells 0).toList = [] := by simp [Builtin.zeroCells]
        have hs0 : w.setRow g cur = w := setRow_self w g cur e (0, 0) hg
        simp [Builtin.append_, run_underlying ht, run_underlying htn, sizeOf, typeInfo, hi, asInt, asIntOf, hw0, e0, storeCells, hnc, hs0]
      · simp [Builtin.append_, run_underlying ht, run_underlying htn, sizeOf, typeInfo, zeroValue, hi, hz, asInt, asIntOf, hw, hneg, h48i, hroom, hm0, Addr.add_lit, hst]
     have hsame : (cur.toList.take (n * i.size) ++ (Builtin.zeroCells z.cells m).toList ++ cur.toList.drop (n * i.size + (Builtin.zeroCells z.cells m).toList.length)).toArray.size = cap * i.size := by
      simp only [List.size_toArray, List.length_append, List.length_take, List.length_drop, Array.length_toList]
      rw [Array.length_toList] at hfit
      omega
     have hfull : ((cur.toList.take (n * i.size) ++ (Builtin.zeroCells z.cells m).toList ++ cur.toList.drop (n * i.size + (Builtin.zeroCells z.cells m).toList.length)).toArray.toList.take ((n + m) * i.size)) = xs ++ (Builtin.zeroCells z.cells m).toList := by
      rw [htake, ← hlen]
      exact List.take_left
     exact ⟨_, _, hr, ⟨hlen, .inr ⟨g, cap, _, rfl, hbg, setRow_heap w g cur _ e _ hg, hroom, hcm, hsame, hfull⟩⟩, ⟨rfl, rfl, rfl, by simp, fun k _ hk => setRow_other w g k _ (fun e => hk (by simp [Value.ownBlock, e]))⟩, .inl rfl⟩
   · have holds : ∀ j u, xs[j]? = some u → w.cell? ((⟨g, 0, none⟩ : Addr).add j) = some u := hown.cells (g := g) rfl
     have hfo := run_firstCells_some (P := P) w.drew i.size n ⟨g, 0, none⟩ n cap xs hown.1 (by simpa using holds)
     have h48' : ¬ (281474976710656 < Builtin.nextslicecap (n + m) cap * i.bytes) := by have := growslice_fits (old := cap) (by omega : cap < n + m) hbytes; omega
     have hns : ¬ (m * i.size = 0) := Nat.mul_ne_zero (by omega) (by omega)
     have hgr := grown cap (Value.ownBlock (.slice (some ⟨g, 0, none⟩) n cap))
     refine ⟨_, _, ?_, hgr.1, hgr.2, .inr rfl⟩
     simp [Builtin.append_, run_underlying ht, run_underlying htn, sizeOf, typeInfo, zeroValue, hi, hz, asInt, asIntOf, hw, hneg, h48i, hroom, hns, h63', h48', Question.forced, hfo, newRow, grownCap]
theorem wpList_append_zeros {P : Program} {w : World} {ops : Array Oper} {rest : List Oper} {o : Oper} {a : Act} {Q : Exit → Act → World → Prop} (hgd : o.guard = none) (s x : Operand) (t tn e : TypeId)
 (ho : o.op = .call { callee := .builtin .append, args := #[s, x], argTypes := #[t, tn] }) (i : TypeInfo) (z : Value) (size bytes : Nat) (k kn : IntKind) (ht : P.underlying t = some (.slice e)) (htn : P.underlying tn = some (.int kn)) (hi : P.info? e = some i) (hz : i.zero = some z)
 (hsize : i.size = size) (hby : i.bytes = bytes) (hzs : z.cells.size = size) (hsz : 0 < size) (h1 : ∀ u ∈ z.cells, u.oneCell' = true)
 (v : Value) (n : Nat) (xs : List Value) (hs : a.eval s = v) (hown : w.ownsRow 0 e size v n xs) (m : Nat) (hx : a.eval x = .int k (m : Int)) (h63 : n + m ≤ maxLen) (hbytes : (n + m) * bytes ≤ 140737488355328) (Z : List Value) (hZ : (Builtin.zeroCells z.cells m).toList = Z)
 (h : ∀ v' w', w'.ownsRow 0 e size v' (n + m) (xs ++ Z) → w.grownBy w' v.ownBlock → (v'.ownBlock = v.ownBlock ∨ v'.ownBlock = some w.heap.size) → wpList P ops Q rest (a.put o.dst v') w') : wpList P ops Q (o :: rest) a w := by
 subst hZ
 refine wpList_plain hgd fun K hK => ?_
 obtain ⟨v', w', hr, h2, h3, h4⟩ := run_append_zeros (P := P) w t tn o.type e i z size bytes k kn ht htn hi hz hsize hby hzs hsz h1 v n xs hown m h63 hbytes
 unfold Oper.wp execOp
 simp only [ho, resolve, invoke, builtin, Sem.run_bind, Sem.run_pure, Result.andThen_ok, List.map_toArray, List.map_cons, List.map_nil, hs, hx, hr]
 exact hK _ _ (h v' w' h2 h3 h4)
end Go.Proofs.YtoppcpiheaedlaaGreatDoor
end
section
/-
  The program's disk: another file's rows; how many sectors are taken; a file that grows.
-/
namespace Go.Proofs.YtoppcpiheaedlaaGreatDoor
open Go.RowKit Go.Maps Go.MapKept
set_option linter.unusedVariables false
set_option linter.unusedSimpArgs false
attribute [local go_sem] sv nv mv pv
def Px.setF (x : Px) (f' : Fi) : Px := { x with fs := x.fs.map fun g => if g.num = f'.num then f' else g }
theorem setF_s (x : Px) (f' : Fi) : (x.setF f').s = { x.s with files := setFile x.s.files f'.num (f'.now, f'.safe) } := by
 unfold Px.setF Px.s setFile
 simp only [List.map_map, Ps.mk.injEq, true_and, and_true]
 refine List.map_congr_left fun g _ => ?_
 simp only [Function.comp_apply]
 by_cases h : g.num = f'.num
 · rw [if_pos h, if_pos (show g.pure.1 = f'.num from h)]; rfl
 · rw [if_neg h, if_neg (show ¬ g.pure.1 = f'.num from h)]
theorem setF_mem {x : Px} {f f' g : Fi} (hf : f ∈ x.fs) (hn : f'.num = f.num) (hg : g ∈ (x.setF f').fs) : g = f' ∨ (g ∈ x.fs ∧ g.num ≠ f.num) := by
 obtain ⟨g0, hg0, rfl⟩ := List.mem_map.1 hg
 by_cases h : g0.num = f'.num
 · rw [if_pos h]; exact .inl rfl
 · rw [if_neg h]; exact .inr ⟨hg0, fun e => h (e.trans hn.symm)⟩
theorem PD.setF {W W' : World} {q : Nat} {x : Px} {O : Nat → Prop} (h : PD W q x) (f f' : Fi) (hf : f ∈ x.fs) (hn : f'.num = f.num) (hb : f'.blk = f.blk) (hB : But O W W') (hO : ∀ k, O k → k = f.blk ∨ FiRows f k ∨ W.heap.size ≤ k) (hok : FiOk W' f')
 (hr : ∀ k, FiRows f' k → FiRows f k ∨ W.heap.size ≤ k) (hl : f.now.length ≤ f'.now.length) : PD W' q (x.setF f') ∧ TurnP q x (x.setF f') W W' := by
 have hfU : ∀ k, k = f.blk ∨ FiRows f k → fUse x k := fun k hk => .inr ⟨f, hf, hk⟩
 have hOf : ∀ k, O k → fUse x k ∨ W.heap.size ≤ k := fun k hk => by
  rcases hO k hk with h' | h' | h'
  · exact .inl (hfU k (.inl h'))
  · exact .inl (hfU k (.inr h'))
  · exact .inr h'
 have hOx : ∀ k, O k → k < W.heap.size → fUse x k := fun k hk hl => (hOf k hk).elim id fun h' => by omega
 have blk : ∀ k, k < W.heap.size → (fUse x k → False) → W'.heap[k]? = W.heap[k]? := fun k hk hn => hB.block k hk fun ho => hn (hOx k ho hk)
 have hmem : ∀ g ∈ (x.setF f').fs, g = f' ∨ (g ∈ x.fs ∧ g.num ≠ f.num) := fun g hg => setF_mem hf hn hg
 have other : ∀ g ∈ x.fs, g.num ≠ f.num → ∀ k, k = g.blk ∨ FiRows g k → k < W.heap.size ∧ ¬ O k := fun g hg hne k hk => by
  have hl : k < W.heap.size := h.ltU (.inr (.inr (.inl (.inr ⟨g, hg, hk⟩))))
  refine ⟨hl, fun ho => ?_⟩
  have hap := h.files.apart f hf g hg (fun e => hne e.symm)
  rcases hO k ho with h' | h' | h'
  · rcases hk with hk | hk
    · exact hap.1 (h'.symm.trans hk)
    · have h1 := kind_cells (h.files.ok f hf).row
      have h2 := (h.files.ok g hg).kind hk
      rw [h', h1] at h2
      simp at h2
  · rcases hk with hk | hk
    · have h1 := kind_cells (h.files.ok g hg).row
      have h2 := (h.files.ok f hf).kind h'
      rw [hk, h1] at h2
      simp at h2
    · exact hap.2 k h' hk
  · omega
 have hmapE : (x.setF f').fs.map Fi.ent = x.fs.map Fi.ent := by
  unfold Px.setF
  rw [List.map_map]
  refine List.map_congr_left fun g hg => ?_
  simp only [Function.comp_apply]
  by_cases h' : g.num = f'.num
  · rw [if_pos h']
    have : g = f := num_inj (fs_nodup h) hg hf (h'.trans hn)
    rw [this]
    show (f'.num, f'.blk) = (f.num, f.blk)
    rw [hn, hb]
  · rw [if_neg h']
 refine ⟨⟨?_, ?_, ⟨?_, ?_, ?_⟩, ?_, h.fnd, ⟨h.wf.room, h.wf.ne, ?_, ?_, ?_, h.wf.first, ?_⟩⟩, ?_, ?_, ?_⟩
 · exact (blk q (h.ltU (.inl rfl)) h.qF).trans h.row
 · exact h.dirs.kept (fun k hk => blk k (h.ltU (.inr (.inl (.inl hk)))) fun hf' => h.dF (.inl hk) hf') fun d hd => blk _ (h.ltU (.inr (.inl (.inr ⟨d, hd, rfl⟩)))) fun hf' => h.dF (.inr ⟨d, hd, rfl⟩) hf'
 · rw [hmapE]
   refine h.files.map.kept (hB.block _ h.files.map.lt fun ho => ?_)
   have hk := kind_map h.files.map
   rcases hO _ ho with h' | h' | h'
   · have := kind_cells (h.files.ok f hf).row
     rw [← h', show kindAt W x.fm = _ from hk] at this
     simp at this
   · have := (h.files.ok f hf).kind h'
     rw [show kindAt W x.fm = _ from hk] at this
     simp at this
   · have := h.files.map.lt
     have : W.heap.size ≤ x.fm := h'
     have : x.fm < W.heap.size := h.files.map.lt
     omega
 · intro g hg
   rcases hmem g hg with rfl | ⟨hg, hne⟩
   · exact hok
   · exact (h.files.ok g hg).kept (hB.block _ (other g hg hne _ (.inl rfl)).1 (other g hg hne _ (.inl rfl)).2) fun k hk => hB.block _ (other g hg hne k (.inr hk)).1 (other g hg hne k (.inr hk)).2
 · intro g hg g' hg' hne
   have sideA : ∀ g ∈ x.fs, g.num ≠ f.num → Apart f' g := fun g hg hne => by
    have hap := h.files.apart f hf g hg (fun e => hne e.symm)
    refine ⟨by rw [hb]; exact hap.1, fun k hk hk' => ?_⟩
    rcases hr k hk with h' | h'
    · exact hap.2 k h' hk'
    · have := (other g hg hne k (.inr hk')).1; omega
   rcases hmem g hg with e1 | ⟨hgo, hne1⟩ <;> rcases hmem g' hg' with e2 | ⟨hgo', hne2⟩
   · rw [e1, e2] at hne; exact absurd rfl hne
   · rw [e1]; exact sideA g' hgo' hne2
   · rw [e2]
     have := sideA g hgo hne1
     exact ⟨fun e => this.1 e.symm, fun k hk hk' => this.2 k hk' hk⟩
   · exact h.files.apart g hgo g' hgo' hne
 · exact own_own h.pend fun k hk => blk k (h.ltU (.inr (.inr (.inr hk)))) fun hf' => h.fP hf' hk
 · intro d hd
   refine ⟨(h.wf.names d hd).1, fun e he => ?_⟩
   obtain ⟨h1, g, hg, h2⟩ := (h.wf.names d hd).2 e he
   by_cases hgf : g.num = f'.num
   · exact ⟨h1, f', List.mem_map.2 ⟨g, hg, by rw [if_pos hgf]⟩, by rw [← hgf]; exact h2⟩
   · exact ⟨h1, g, List.mem_map.2 ⟨g, hg, by rw [if_neg hgf]⟩, h2⟩
 · intro g hg
   rcases hmem g hg with rfl | ⟨hg, _⟩
   · rw [hn]; exact h.wf.nums f hf
   · exact h.wf.nums g hg
 · intro w hw
   obtain ⟨h1, h2, h3, h4⟩ := h.wf.pend w hw
   refine ⟨h1, h2, h3, fun g hg he => ?_⟩
   rcases hmem g hg with rfl | ⟨hg, _⟩
   · have := h4 f hf (hn.symm.trans he)
     omega
   · exact h4 g hg he
 · have := h.wf.small
   refine ⟨this.1, ?_, this.2.2⟩
   show (x.fs.map _).length ≤ _
   rw [List.length_map]
   exact this.2.1
 · intro k hk
   rcases hk with hk | hk | hk | hk
   · exact .inl (.inl hk)
   · exact .inl (.inr (.inl hk))
   · rcases hk with hk | ⟨g, hg, hk⟩
     · exact .inl (.inr (.inr (.inl (.inl hk))))
     · rcases hmem g hg with rfl | ⟨hg, _⟩
       · rcases hk with hk | hk
         · exact .inl (.inr (.inr (.inl (.inr ⟨f, hf, .inl (hk.trans hb)⟩))))
         · rcases hr k hk with h' | h'
           · exact .inl (.inr (.inr (.inl (.inr ⟨f, hf, .inr h'⟩))))
           · exact .inr h'
       · exact .inl (.inr (.inr (.inl (.inr ⟨g, hg, hk⟩))))
   · exact .inl (.inr (.inr (.inr hk)))
 · intro k hk
   rcases hk with hk | hk | hk | hk
   · exact .inl (.inl hk)
   · exact .inl (.inr (.inl hk))
   · rcases hk with hk | ⟨g, hg, hk⟩
     · exact .inl (.inr (.inr (.inl (.inl hk))))
     · rcases hmem g hg with rfl | ⟨hg, _⟩
       · rcases hk with hk | hk
         · exact .inl (.inr (.inr (.inl (.inr ⟨f, hf, .inl (hk.trans hb)⟩))))
         · rcases hr k hk with h' | h'
           · exact .inl (.inr (.inr (.inl (.inr ⟨f, hf, .inr h'⟩))))
           · exact .inr h'
       · exact .inl (.inr (.inr (.inl (.inr ⟨g, hg, hk⟩))))
   · exact .inl (.inr (.inr (.inr hk)))
 · exact ⟨hB.os, hB.tape, hB.output, hB.size, fun k hk hn => hB.block k hk fun ho => hn (.inr (.inr (.inl (hOx k ho hk))))⟩
theorem PD.fileP {w : World} {q : Nat} {x : Px} (h : PD w q x) {f : Fi} (hf : f ∈ x.fs) : fileP x.s f.num = (f.now, f.safe) := by
 unfold Go.Proofs.YtoppcpiheaedlaaGreatDoor.fileP Px.s
 have hn : ((x.fs.map Fi.pure).map (·.1)).Nodup := by rw [List.map_map]; exact fs_nodup h
 rw [findA_of_mem hn (a := f.num) (b := (f.now, f.safe)) (List.mem_map.2 ⟨f, hf, rfl⟩)]
 rfl
theorem PD.named {w : World} {q : Nat} {x : Px} (h : PD w q x) {d : Nat × Dir} (hd : d ∈ x.dirs) {nm : Nm} {n : Nat} (hn : findA d.2 nm = some n) : ∃ f ∈ x.fs, f.num = n := by
 obtain ⟨_, f, hf, h2⟩ := (h.wf.names d hd).2 _ (findA_mem hn)
 exact ⟨f, hf, h2⟩
theorem fi_form {w : World} {f : Fi} (h : FiOk w f) : ∃ a c a' c', f.vn = .slice a f.now.length c ∧ f.vs = .slice a' f.now.length c' ∧ w.cell? ⟨f.blk, 0, none⟩ = some (.slice a f.now.length c) ∧ w.cell? ⟨f.blk, 1, none⟩ = some (.slice a' f.now.length c') := by
 obtain ⟨a, c, e1⟩ := own_form h.now
 obtain ⟨a', c', e2⟩ := own_form h.safe
 rw [h.len] at e2
 refine ⟨a, c, a', c', e1, e2, ?_, ?_⟩
 · rw [cell_of_row w f.blk 0 _ _ _ h.row, ← e1]; rfl
 · rw [cell_of_row w f.blk 1 _ _ _ h.row, ← e2]; rfl
set_option maxRecDepth 100000 in
set_option maxHeartbeats 1000000 in
theorem pTaken {w : World} {q : Nat} {x : Px} (h : PD w q x) :
 Calls Tryz.prog 98 #[.pointer (some ⟨q, 0, none⟩)] w fun e w' => e = .returned (.int .i64 (takenP x.s : Int)) ∧ Grows w w' := by
 have H := Lib.hid h
 have HN := Lib.hid (pNow h)
 have hdm := nowX_mem x h.wf.ne
 have HM := Lib.hid (h.dirs.map _ hdm)
 have Hnum : Hid (∀ e ∈ (nowX x).2, ∃ f ∈ x.fs, f.num = e.2) := fun e he => ((h.wf.names _ hdm).2 e he).2
 have Hlen : Hid ((nowX x).2.length ≤ 8) := (h.wf.names _ hdm).1
 have Htk : Hid (takenP x.s = ((nowX x).2.map fun e => (Go.Proofs.YtoppcpiheaedlaaGreatDoor.fileP x.s e.2).1.length).sum) := by show _ = _; unfold takenP; rw [nowX_s]
 obtain ⟨db, hb⟩ : ∃ b, (nowX x).1 = b := ⟨_, rfl⟩
 obtain ⟨dl, hd⟩ : ∃ d, (nowX x).2 = d := ⟨_, rfl⟩
 rw [hb] at HN HM
 rw [hd] at HM Hnum Hlen Htk
 have c2 := h.cell 2 (mv x.fm) rfl
 have Hok := Lib.hid h.okF
 have Hfm := Lib.hid h.files.map
 have Hsm := Lib.hid (show ∀ f ∈ x.fs, f.num ≤ 1000000 from fun f hf => Nat.le_trans (h.wf.nums f hf) h.wf.small.2.2.2)
 obtain ⟨fm, Hfmb⟩ : ∃ b, Hid (x.fm = b) := ⟨_, rfl⟩
 rw [Hfmb.out] at c2 Hfm
 unfold mv at c2 HN
 have Hc2 := Lib.hid c2
 clear h hdm hb hd c2
 go_enter Tryz.func98, Tryz.ntmps98
 go_wp2_with fail
 refine HN.out.mono ?_
 rintro e w1 ⟨rfl, hG⟩
 have HM1 := Lib.hid (HM.out.grows hG)
 have HG := Lib.hid hG
 clear hG
 go_wp2_with (at_range; refine wpList_rangeA rfl _ 103 3 rfl HM1.out Tryz.underlying103 rfl ?_; intro w2 hr1 hg1 hs1)
 obtain ⟨rr, Hrr⟩ : ∃ r, Hid (w1.heap.size = r) := ⟨_, rfl⟩
 rw [Hrr.out] at hr1 ⊢
 have HR1 := Lib.hid hr1
 have HG2 := Lib.hid (Grows.trans' HG.out hg1)
 have Hrw : Hid (w.heap.size ≤ rr) := by show _ ≤ _; rw [← Hrr.out]; exact HG.out.size
 clear hr1 hg1 hs1
 go_frame
 go_loopw [3, 5] (fun t3 _ wr => ∃ done todo, dl.Perm (done ++ todo) ∧ RangeA sv nv wr db rr dl todo ∧ t3 = .int .i64 ((((done.map fun e => (Go.Proofs.YtoppcpiheaedlaaGreatDoor.fileP x.s e.2).1.length).sum : Nat)) : Int) ∧ Grows w wr)
  (fun _ _ wr => wr.rangeLeft db rr)
 case atStart => exact ⟨[], dl, by simp, HR1.out, rfl, HG2.out⟩
 case round =>
  obtain ⟨done, todo, hp, hrg, rfl, hgw⟩ := hrel
  have Hp := Lib.hid hp
  have Hrg := Lib.hid hrg
  have Hgw := Lib.hid hgw
  clear hp hrg hgw
  go_wp2_with (at_next; refine wpList_nextA rfl _ rfl _ todo Hrg.out rfl ?_ ?_)
  · intro h0
    subst h0
    have Hfin : Hid (takenP x.s = (done.map fun e => (Go.Proofs.YtoppcpiheaedlaaGreatDoor.fileP x.s e.2).1.length).sum) := by
     show _ = _
     rw [Htk.out]
     have := Hp.out
     rw [List.append_nil] at this
     exact (this.map _).sum_nat
    go_wp2
    go_ret
    exact ⟨by rw [Hfin.out]; rfl, Hgw.out⟩
  · intro p1 p2 todo' w3 hp2 hr2 hg2 hs2 hen
    have Hr2 := Lib.hid hr2
    have Hp2 := Lib.hid hp2
    obtain ⟨f, hf, hfn⟩ := Hnum.out (p1, p2) (Hp.out.mem_iff.2 (List.mem_append.2 (.inr (hp2.mem_iff.2 (by simp)))))
    have hg2' : Grows w w3 := ⟨hg2.os.trans Hgw.out.os, hg2.tape.trans Hgw.out.tape, hg2.output.trans Hgw.out.output, Nat.le_trans Hgw.out.size hg2.size, fun k hk => (hg2.block k (Nat.lt_of_lt_of_le hk Hgw.out.size) (fun e => by have := Option.some.inj e; have := Hrw.out; omega)).trans (Hgw.out.block k hk)⟩
    have Hg2 := Lib.hid hg2'
    have c2 := hg2'.cell' Hc2.out
    have Hfm2 := Lib.hid (Hfm.out.grows hg2')
    have hlk := H.out.look hf
    rw [hfn] at hlk
    have Hlk := Lib.hid hlk
    have Hokp := Lib.hid (show okI p2 from okI_small (by have := Hsm.out f hf; rw [hfn] at this; exact this))
    obtain ⟨a, c, a', c', e1, e2, d0, d1⟩ := fi_form (H.out.files.ok f hf)
    have c0 := hg2'.cell' d0
    have Hle := Lib.hid (H.out.files.ok f hf).le
    have Hfl : Hid ((Go.Proofs.YtoppcpiheaedlaaGreatDoor.fileP x.s p2).1.length = f.now.length) := by show _ = _; rw [← show f.num = p2 from hfn, H.out.fileP hf]
    obtain ⟨b, Hb⟩ : ∃ b, Hid (f.blk = b) := ⟨_, rfl⟩
    rw [Hb.out] at c0 Hlk
    obtain ⟨L, HL⟩ : ∃ L, Hid (f.now.length = L) := ⟨_, rfl⟩
    rw [HL.out] at c0 Hle Hfl
    have Hsum : Hid ((done.map fun e => (Go.Proofs.YtoppcpiheaedlaaGreatDoor.fileP x.s e.2).1.length).sum ≤ 4096 * done.length ∧ done.length ≤ 8) := by
     have hdl : done.length ≤ 8 := by
      have := Hp.out.length_eq
      rw [List.length_append] at this
      have := Hlen.out
      omega
     refine ⟨?_, hdl⟩
     have hall : ∀ e ∈ done, (Go.Proofs.YtoppcpiheaedlaaGreatDoor.fileP x.s e.2).1.length ≤ 4096 := fun e he => by
      obtain ⟨g, hg, hgn⟩ := Hnum.out e (Hp.out.mem_iff.2 (List.mem_append.2 (.inl he)))
      rw [← hgn, H.out.fileP hg]
      exact (H.out.files.ok g hg).le
     clear hdl Hp
     induction done with
     | nil => simp
     | cons e l ih =>
      have := ih (fun e he => hall e (by simp [he]))
      have := hall e (by simp)
      simp only [List.map_cons, List.sum_cons, List.length_cons]
      omega
    obtain ⟨sm, Hsmm⟩ : ∃ sm, Hid ((done.map fun e => (Go.Proofs.YtoppcpiheaedlaaGreatDoor.fileP x.s e.2).1.length).sum = sm) := ⟨_, rfl⟩
    rw [Hsmm.out] at Hsum ⊢
    have hsI : (sm : Int) ≤ 32768 := by have := Hsum.out; omega
    have hLI : (L : Int) ≤ 4096 := by have := Hle.out; omega
    clear hp2 hr2 hg2 hs2 hf hfn hg2' hlk e1 e2 d0 d1
    go_wp2_with (first
     | (at_lookup; refine wpList_lookA rfl _ _ 95 109 false rfl Hfm2.out keyF Hok.out Tryz.underlying95 _ (zeroFile _) p2 Hokp.out rfl rfl (.pointer (some ⟨b, 0, none⟩)) (by rw [Hlk.out]; rfl) ?_)
     | go_in)
    go_roundw
    case rel =>
     refine ⟨done ++ [(p1, p2)], todo', ?_, Hr2.out, ?_, Hg2.out⟩
     · refine Hp.out.trans ?_
       rw [List.append_assoc]
       exact Hp2.out.append_left done
     · rw [List.map_append, List.sum_append]
       simp only [List.map_cons, List.map_nil, List.sum_cons, List.sum_nil]
       rw [Hsmm.out, Hfl.out]
       simp
    case measure =>
     rw [Hr2.out.left, Hrg.out.left]
     have := Hp2.out.length_eq
     simp at this
     omega
end Go.Proofs.YtoppcpiheaedlaaGreatDoor
end
