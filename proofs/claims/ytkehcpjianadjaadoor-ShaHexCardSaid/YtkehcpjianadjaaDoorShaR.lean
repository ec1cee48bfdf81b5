/-
  Contracts of the document's own answer for sha.
-/
import Derived.Test.YtkehcpjianadjaaDoorShaF
namespace Go.Proofs.YtkehcpjianadjaaDoor
open Go.RowKit
set_option linter.unusedVariables false
set_option linter.unusedSimpArgs false

def Stop (p : Prop) : Prop := p
theorem stopHere {p : Prop} (h : Stop p) : p := h
theorem u32_unsigned : IntKind.u32.signed = false := rfl
theorem shl24 (x : UInt32) : IntKind.u32.wrap (wn x * (16777216 : Int)) = wn (x <<< 24) := wn_shl x 24 (by decide)
theorem shl16 (x : UInt32) : IntKind.u32.wrap (wn x * (65536 : Int)) = wn (x <<< 16) := wn_shl x 16 (by decide)
theorem shl8 (x : UInt32) : IntKind.u32.wrap (wn x * (256 : Int)) = wn (x <<< 8) := wn_shl x 8 (by decide)
theorem shr10 (x : UInt32) : wn x / (1024 : Int) = wn (x >>> 10) := wn_shr x 10 (by decide)
theorem shr3 (x : UInt32) : wn x / (8 : Int) = wn (x >>> 3) := wn_shr x 3 (by decide)
attribute [local go_sem] wn_add wn_xor wn_and wn_or wn_not wn_byte wn_low shl24 shl16 shl8 shr10 shr3

theorem set_app_rep (xs : List UInt32) (m n : Nat) (v : UInt32) (hn : n = xs.length) : ((xs ++ List.replicate (m + 1) 0).map wv).set n (wv v) = ((xs ++ [v]) ++ List.replicate m 0).map wv := by
  subst hn
  rw [← List.map_set]
  congr 1
  rw [List.replicate_succ, List.set_append_right _ _ (Nat.le_refl _), Nat.sub_self, List.set_cons_zero]
  simp

theorem w16_snoc (l : List UInt8) (k : Nat) (hk : k < 16) : (w16 l).take (k + 1) = (w16 l).take k ++ [wordAt l k] := by
  rw [List.take_succ_eq_append_getElem (by rw [w16_length]; exact hk)]
  simp [w16]
theorem _root_.Go.World.ownsRow.grows1 {W X : World} {B : Nat} {e : TypeId} {v : Value} {n : Nat} {xs : List Value} (h : W.ownsRow B e 1 v n xs) (g : Grows W X) : X.ownsRow B e 1 v n xs := by
  refine ⟨h.1, ?_⟩
  rcases h.2 with h' | ⟨b, cap, cur, e1, hb, hg, rest⟩
  · exact .inl h'
  · exact .inr ⟨b, cap, cur, e1, hb, (g.block b (Array.getElem?_eq_some_iff.1 hg).1).trans hg, rest⟩

/-- A slice of words, by what it reads as. -/
def Wds (l : List UInt32) (v : Value) (W : World) : Prop := ∃ g c, v = .slice (some ⟨g, 0, none⟩) l.length c ∧ ∀ i, i < l.length → W.cell? ⟨g, i, none⟩ = some (.int .u32 (wn (l.getD i 0)))
theorem Wds.grows {l : List UInt32} (v : Value) (W X : World) (g : Grows W X) (h : Wds l v W) : Wds l v X := by
  obtain ⟨b, c, e, hc⟩ := h
  exact ⟨b, c, e, fun i hi => g.cell' (hc i hi)⟩
theorem wds_lit (W : World) (e : TypeId) (s : R8) : Wds s.list (.slice (some ⟨W.heap.size, 0, none⟩) 8 8) (W.alloc (.cells #[wv s.a, wv s.b, wv s.c, wv s.d, wv s.e, wv s.f, wv s.g, wv s.h] e)) := by
  refine ⟨_, _, rfl, fun i hi => ?_⟩
  rw [World.cell?_alloc_at _ _ _ _ rfl]
  match i, hi with
  | 0, _ => rfl
  | 1, _ => rfl
  | 2, _ => rfl
  | 3, _ => rfl
  | 4, _ => rfl
  | 5, _ => rfl
  | 6, _ => rfl
  | 7, _ => rfl
  | i + 8, h => exact absurd h (by simp [R8.list])
theorem wds_row {W : World} {B : Nat} {e : TypeId} {v : Value} {n : Nat} {l : List UInt32} (h : W.ownsRow B e 1 v n (l.map wv)) (hn : n = l.length) (h0 : 0 < n) : Wds l v W := by
  rcases h.2 with ⟨_, h1⟩ | ⟨g, cap, cur, rfl, hB, rest⟩
  · omega
  · refine ⟨g, cap, by rw [hn], fun i hi => ?_⟩
    rw [World.ownsRow.cellAt h i (by omega)]
    simp [hi, wv]

theorem addR_get (h s : R8) (i : Nat) (hi : i < 8) : (addR h s).list.getD i 0 = h.list.getD i 0 + s.list.getD i 0 := by
  match i, hi with
  | 0, _ => rfl
  | 1, _ => rfl
  | 2, _ => rfl
  | 3, _ => rfl
  | 4, _ => rfl
  | 5, _ => rfl
  | 6, _ => rfl
  | 7, _ => rfl
  | i + 8, h => exact absurd h (by omega)
theorem take_snocW (l : List UInt32) (k : Nat) (hk : k < l.length) : l.take (k + 1) = l.take k ++ [l.getD k 0] := by
  rw [List.take_succ_eq_append_getElem hk]; simp [List.getD, hk]

set_option maxRecDepth 100000 in
theorem refK (w : World) : Calls Tryd.prog 28 #[] w fun e w' => e = .returned (.slice (some ⟨w.heap.size, 0, none⟩) 64 64) ∧ w' = w.alloc (.cells (kK.map wv).toArray 44) := by
  go_enter Tryd.func28, Tryd.ntmps28
  go_wp2
  go_ret
  exact ⟨rfl, rfl⟩

set_option maxRecDepth 100000 in
set_option maxHeartbeats 4000000 in
theorem refBlock (gh ch gb ob cb : Nat) (h : R8) (l : List UInt8) (w : World) (h64 : l.length = 64)
    (hh : ∀ i, i < 8 → w.cell? ⟨gh, i, none⟩ = some (.int .u32 (wn (h.list.getD i 0)))) (hb : ∀ i, i < 64 → w.cell? ⟨gb, ob + i, none⟩ = some (.int .u8 ((l.getD i 0).toNat : Int))) :
    Calls Tryd.prog 18 #[.slice (some ⟨gh, 0, none⟩) 8 ch, .slice (some ⟨gb, ob, none⟩) 64 cb] w fun e w' => ∃ v, e = .returned v ∧ Wds (blockF h l).list v w' ∧ Grows w w' := by
  obtain ⟨i0, hi, hz0, hz1, hz2⟩ := info_parts info32
  have hmx : Tryd.prog.follows .mixedOrders = true := by kernel_rfl
  have HH := Lib.hid hh
  have HB := Lib.hid hb
  clear hh hb
  go_enter Tryd.func18, Tryd.ntmps18
  go_wp2_with (at_make; refine wpList_make_full _ rfl _ _ 45 rfl w.heap.size 44 i0 (.int .u32 0) 1 Tryd.underlying45 hi hz0 hz1 .i64 .i64 _ _ 64 rfl rfl rfl rfl (by rw [hz2]; omega) (by unfold maxLen; omega) (Nat.le_refl _) ?_; intro w1 hown hgrow)
  go_loopw [6] (fun t6 wr => ∃ (k : Nat), k ≤ 16 ∧ t6 = .int .i64 k ∧ wr.ownsRow w.heap.size 44 1 (.slice (some ⟨w.heap.size, 0, none⟩) 64 64) 64 (((w16 l).take k ++ List.replicate (64 - k) 0).map wv) ∧ Grows w wr)
    (fun t6 _ => 16 - (intOf t6).toNat)
  case atStart => exact ⟨0, by omega, rfl, by simpa [toList_madeCells_one, Value.cells, wv, wn] using hown, (Below.refl _ _).grown hgrow (Nat.le_refl _) (fun _ h => by cases h)⟩
  case round =>
    obtain ⟨k, hk, rfl, hown, hG⟩ := hrel
    by_cases hlt : k < 16
    · obtain ⟨q0, hq0⟩ : ∃ q : Nat, 4 * (k : Int) = (q : Int) := ⟨4 * k, by omega⟩
      obtain ⟨q1, hq1⟩ : ∃ q : Nat, (q0 : Int) + 1 = (q : Int) := ⟨q0 + 1, by omega⟩
      obtain ⟨q2, hq2⟩ : ∃ q : Nat, (q0 : Int) + 2 = (q : Int) := ⟨q0 + 2, by omega⟩
      obtain ⟨q3, hq3⟩ : ∃ q : Nat, (q0 : Int) + 3 = (q : Int) := ⟨q0 + 3, by omega⟩
      have b0 : ¬ 64 ≤ (q0 : Int) := by omega
      have b1 : ¬ 64 ≤ (q1 : Int) := by omega
      have b2 : ¬ 64 ≤ (q2 : Int) := by omega
      have b3 : ¬ 64 ≤ (q3 : Int) := by omega
      have bk : ¬ 64 ≤ (k : Int) := by omega
      have Hword : Hid (wordAt l k = word4 (l.getD q0 0) (l.getD q1 0) (l.getD q2 0) (l.getD q3 0)) := by
        show _ = _
        unfold wordAt
        rw [show 4 * k = q0 by omega, show q0 + 1 = q1 by omega, show q0 + 2 = q2 by omega, show q0 + 3 = q3 by omega]
      have c0 := hG.cell' (HB.out q0 (by omega))
      have c1 := hG.cell' (HB.out q1 (by omega))
      have c2 := hG.cell' (HB.out q2 (by omega))
      have c3 := hG.cell' (HB.out q3 (by omega))
      obtain ⟨d0, Hd0⟩ : ∃ d, Hid (l.getD q0 0 = d) := ⟨_, rfl⟩
      obtain ⟨d1, Hd1⟩ : ∃ d, Hid (l.getD q1 0 = d) := ⟨_, rfl⟩
      obtain ⟨d2, Hd2⟩ : ∃ d, Hid (l.getD q2 0 = d) := ⟨_, rfl⟩
      obtain ⟨d3, Hd3⟩ : ∃ d, Hid (l.getD q3 0 = d) := ⟨_, rfl⟩
      rw [Hd0.out] at c0 Hword
      rw [Hd1.out] at c1 Hword
      rw [Hd2.out] at c2 Hword
      rw [Hd3.out] at c3 Hword
      have Hk := Lib.hid hlt
      have cw : wr.cell? ⟨w.heap.size, k, none⟩ = some (.int .u32 (wn 0)) := by
        rw [hown.cellAt k (by omega)]
        simp [List.getElem?_append, w16_length, show k ≤ 16 by omega, show 0 < 64 - k by omega, wv]
      have fw : wr.frozen? ⟨w.heap.size, k, none⟩ = false := hown.frozenAt k
      have Hown := Lib.hid hown
      have HG := Lib.hid hG
      have Cw := Lib.hid cw
      have Fw := Lib.hid fw
      clear hown hG hlt hk cw fw
      go_wp2
      refine specs_last 36
        #[[], [], [], [], [3], [2, 3, 4], [2, 3, 4, 5], [2, 3, 4, 5, 6], [2, 3, 4, 5, 6, 7], [], [], [10], [10, 11], [9, 10, 11, 12], [9, 10, 11, 12, 13], [9, 10, 11, 12, 13, 14], [9, 10, 11, 12, 13, 14, 15], [2, 3, 4, 5, 6, 7, 8, 9, 10, 11, 12, 13, 14, 15, 16], [], [], [19], [19, 20], [18, 19, 20, 21], [18, 19, 20, 21, 22], [18, 19, 20, 21, 22, 23], [18, 19, 20, 21, 22, 23, 24], [2, 3, 4, 5, 6, 7, 8, 9, 10, 11, 12, 13, 14, 15, 16, 17, 18, 19, 20, 21, 22, 23, 24, 25], [], [], [28], [28, 29], [27, 28, 29, 30], [27, 28, 29, 30, 31], [27, 28, 29, 30, 31, 32], [2, 3, 4, 5, 6, 7, 8, 9, 10, 11, 12, 13, 14, 15, 16, 17, 18, 19, 20, 21, 22, 23, 24, 25, 26, 27, 28, 29, 30, 31, 32, 33], [0, 1, 2, 3, 4, 5, 6, 7, 8, 9, 10, 11, 12, 13, 14, 15, 16, 17, 18, 19, 20, 21, 22, 23, 24, 25, 26, 27, 28, 29, 30, 31, 32, 33, 34], [0, 1, 2, 3, 4, 5, 6, 7, 8, 9, 10, 11, 12, 13, 14, 15, 16, 17, 18, 19, 20, 21, 22, 23, 24, 25, 26, 27, 28, 29, 30, 31, 32, 33, 34, 35]] #[[5], [6], [1], [6], [], [], [], [], [], [1], [6], [], [], [], [], [], [], [], [1], [6], [], [], [], [], [], [], [], [1], [6], [], [], [], [], [], [], [], []] #[true, true, true, true, true, true, true, true, true, true, true, true, true, true, true, true, true, true, true, true, true, true, true, true, true, true, true, true, true, true, true, true, true, true, true, true, true]
        ((.val ?v0) :: (.val ?v1) :: (.val ?v2) :: (.val ?v3) :: (.val ?v4) :: (.val ?v5) :: (.val ?v6) :: (.val ?v7) :: (.val ?v8) :: (.val ?v9) :: (.val ?v10) :: (.val ?v11) :: (.val ?v12) :: (.val ?v13) :: (.val ?v14) :: (.val ?v15) :: (.val ?v16) :: (.val ?v17) :: (.val ?v18) :: (.val ?v19) :: (.val ?v20) :: (.val ?v21) :: (.val ?v22) :: (.val ?v23) :: (.val ?v24) :: (.val ?v25) :: (.val ?v26) :: (.val ?v27) :: (.val ?v28) :: (.val ?v29) :: (.val ?v30) :: (.val ?v31) :: (.val ?v32) :: (.val ?v33) :: (.val ?v34) :: (.val ?v35) :: (.any) :: []).toArray
        hmx ?chk ?grd rfl ?stp ?rst
      case chk => rfl
      case stp =>
        refine ⟨?_, ?_, ?_, ?_, ?_, ?_, ?_, ?_, ?_, ?_, ?_, ?_, ?_, ?_, ?_, ?_, ?_, ?_, ?_, ?_, ?_, ?_, ?_, ?_, ?_, ?_, ?_, ?_, ?_, ?_, ?_, ?_, ?_, ?_, ?_, ?_, ?_, trivial⟩
        · refine step_intro rfl rfl fun ρ X hc hf hgl hX hp ho => ?_
          change StepOk _ { dst := _, op := Op.move (Operand.tmp 5), type := _, pos := _, after := _, guard := _ } _ _ _
          have k5 : ρ (.tmp 5) = .slice (some ⟨w.heap.size, 0, none⟩) 64 64 := ho 5 (by decide)
          clear hp ho
          refine StepOk.of_run (v := ?v0) (w' := X) ?_ ⟨rfl, Below.refl _ _⟩
          clear hX
          go_simp
          all_goals try go_bits
          all_goals try simp only [IntWalk.iteOmega]
          all_goals try go_bits
          all_goals rfl
        · refine step_intro rfl rfl fun ρ X hc hf hgl hX hp ho => ?_
          change StepOk _ { dst := _, op := Op.move (Operand.tmp 6), type := _, pos := _, after := _, guard := _ } _ _ _
          have k6 : ρ (.tmp 6) = .int .i64 (k : Int) := ho 6 (by decide)
          clear hp ho
          refine StepOk.of_run (v := ?v1) (w' := X) ?_ ⟨rfl, Below.refl _ _⟩
          clear hX
          go_simp
          all_goals try go_bits
          all_goals try simp only [IntWalk.iteOmega]
          all_goals try go_bits
          all_goals rfl
        · refine step_intro rfl rfl fun ρ X hc hf hgl hX hp ho => ?_
          change StepOk _ { dst := _, op := Op.move (Operand.tmp 1), type := _, pos := _, after := _, guard := _ } _ _ _
          have k1 : ρ (.tmp 1) = .slice (some ⟨gb, ob, none⟩) 64 cb := ho 1 (by decide)
          clear hp ho
          refine StepOk.of_run (v := ?v2) (w' := X) ?_ ⟨rfl, Below.refl _ _⟩
          clear hX
          go_simp
          all_goals try go_bits
          all_goals try simp only [IntWalk.iteOmega]
          all_goals try go_bits
          all_goals rfl
        · refine step_intro rfl rfl fun ρ X hc hf hgl hX hp ho => ?_
          change StepOk _ { dst := _, op := Op.move (Operand.tmp 6), type := _, pos := _, after := _, guard := _ } _ _ _
          have k6 : ρ (.tmp 6) = .int .i64 (k : Int) := ho 6 (by decide)
          clear hp ho
          refine StepOk.of_run (v := ?v3) (w' := X) ?_ ⟨rfl, Below.refl _ _⟩
          clear hX
          go_simp
          all_goals try go_bits
          all_goals try simp only [IntWalk.iteOmega]
          all_goals try go_bits
          all_goals rfl
        · refine step_intro rfl rfl fun ρ X hc hf hgl hX hp ho => ?_
          change StepOk _ { dst := _, op := Op.binOp BinOp.mul 3 (Operand.const (Value.int IntKind.i64 4)) (Operand.tmp 27) 3, type := _, pos := _, after := _, guard := _ } _ _ _
          have k27 : ρ (.tmp 27) = ?v3 := hp 3 (by decide)
          clear hp ho
          refine StepOk.of_run (v := ?v4) (w' := X) ?_ ⟨rfl, Below.refl _ _⟩
          clear hX
          go_simp
          all_goals try go_bits
          all_goals try simp only [IntWalk.iteOmega]
          all_goals try go_bits
          all_goals rfl
        · refine step_intro rfl rfl fun ρ X hc hf hgl hX hp ho => ?_
          change StepOk _ { dst := _, op := Op.indexAddr 22 (Operand.tmp 26) (Operand.tmp 28), type := _, pos := _, after := _, guard := _ } _ _ _
          have k26 : ρ (.tmp 26) = ?v2 := hp 2 (by decide)
          have k28 : ρ (.tmp 28) = ?v4 := hp 4 (by decide)
          clear hp ho
          refine StepOk.of_run (v := ?v5) (w' := X) ?_ ⟨rfl, Below.refl _ _⟩
          clear hX
          go_simp
          all_goals try go_bits
          all_goals try simp only [IntWalk.iteOmega]
          all_goals try go_bits
          all_goals rfl
        · refine step_intro rfl rfl fun ρ X hc hf hgl hX hp ho => ?_
          change StepOk _ { dst := _, op := Op.load 5 (Operand.tmp 29), type := _, pos := _, after := _, guard := _ } _ _ _
          have k29 : ρ (.tmp 29) = ?v5 := hp 5 (by decide)
          have c0X := Grows.cell' hX c0
          have c1X := Grows.cell' hX c1
          have c2X := Grows.cell' hX c2
          have c3X := Grows.cell' hX c3
          clear hp ho
          refine StepOk.of_run (v := ?v6) (w' := X) ?_ ⟨rfl, Below.refl _ _⟩
          clear hX
          go_simp
          all_goals try go_bits
          all_goals try simp only [IntWalk.iteOmega]
          all_goals try go_bits
          all_goals rfl
        · refine step_intro rfl rfl fun ρ X hc hf hgl hX hp ho => ?_
          change StepOk _ { dst := _, op := Op.convert 5 44 (Operand.tmp 30), type := _, pos := _, after := _, guard := _ } _ _ _
          have k30 : ρ (.tmp 30) = ?v6 := hp 6 (by decide)
          clear hp ho
          refine StepOk.of_run (v := ?v7) (w' := X) ?_ ⟨rfl, Below.refl _ _⟩
          clear hX
          go_simp
          all_goals try go_bits
          all_goals try simp only [IntWalk.iteOmega]
          all_goals try go_bits
          all_goals rfl
        · refine step_intro rfl rfl fun ρ X hc hf hgl hX hp ho => ?_
          change StepOk _ { dst := _, op := Op.binOp BinOp.shl 44 (Operand.tmp 31) (Operand.const (Value.int IntKind.u64 24)) 57, type := _, pos := _, after := _, guard := _ } _ _ _
          have k31 : ρ (.tmp 31) = ?v7 := hp 7 (by decide)
          clear hp ho
          refine StepOk.of_run (v := ?v8) (w' := X) ?_ ⟨rfl, Below.refl _ _⟩
          clear hX
          go_simp
          all_goals try go_bits
          all_goals try simp only [IntWalk.iteOmega]
          all_goals try go_bits
          all_goals rfl
        · refine step_intro rfl rfl fun ρ X hc hf hgl hX hp ho => ?_
          change StepOk _ { dst := _, op := Op.move (Operand.tmp 1), type := _, pos := _, after := _, guard := _ } _ _ _
          have k1 : ρ (.tmp 1) = .slice (some ⟨gb, ob, none⟩) 64 cb := ho 1 (by decide)
          clear hp ho
          refine StepOk.of_run (v := ?v9) (w' := X) ?_ ⟨rfl, Below.refl _ _⟩
          clear hX
          go_simp
          all_goals try go_bits
          all_goals try simp only [IntWalk.iteOmega]
          all_goals try go_bits
          all_goals rfl
        · refine step_intro rfl rfl fun ρ X hc hf hgl hX hp ho => ?_
          change StepOk _ { dst := _, op := Op.move (Operand.tmp 6), type := _, pos := _, after := _, guard := _ } _ _ _
          have k6 : ρ (.tmp 6) = .int .i64 (k : Int) := ho 6 (by decide)
          clear hp ho
          refine StepOk.of_run (v := ?v10) (w' := X) ?_ ⟨rfl, Below.refl _ _⟩
          clear hX
          go_simp
          all_goals try go_bits
          all_goals try simp only [IntWalk.iteOmega]
          all_goals try go_bits
          all_goals rfl
        · refine step_intro rfl rfl fun ρ X hc hf hgl hX hp ho => ?_
          change StepOk _ { dst := _, op := Op.binOp BinOp.mul 3 (Operand.const (Value.int IntKind.i64 4)) (Operand.tmp 34) 3, type := _, pos := _, after := _, guard := _ } _ _ _
          have k34 : ρ (.tmp 34) = ?v10 := hp 10 (by decide)
          clear hp ho
          refine StepOk.of_run (v := ?v11) (w' := X) ?_ ⟨rfl, Below.refl _ _⟩
          clear hX
          go_simp
          all_goals try go_bits
          all_goals try simp only [IntWalk.iteOmega]
          all_goals try go_bits
          all_goals rfl
        · refine step_intro rfl rfl fun ρ X hc hf hgl hX hp ho => ?_
          change StepOk _ { dst := _, op := Op.binOp BinOp.add 3 (Operand.tmp 35) (Operand.const (Value.int IntKind.i64 1)) 3, type := _, pos := _, after := _, guard := _ } _ _ _
          have k35 : ρ (.tmp 35) = ?v11 := hp 11 (by decide)
          clear hp ho
          refine StepOk.of_run (v := ?v12) (w' := X) ?_ ⟨rfl, Below.refl _ _⟩
          clear hX
          go_simp
          all_goals try go_bits
          all_goals try simp only [IntWalk.iteOmega]
          all_goals try go_bits
          all_goals rfl
        · refine step_intro rfl rfl fun ρ X hc hf hgl hX hp ho => ?_
          change StepOk _ { dst := _, op := Op.indexAddr 22 (Operand.tmp 33) (Operand.tmp 36), type := _, pos := _, after := _, guard := _ } _ _ _
          have k33 : ρ (.tmp 33) = ?v9 := hp 9 (by decide)
          have k36 : ρ (.tmp 36) = ?v12 := hp 12 (by decide)
          clear hp ho
          refine StepOk.of_run (v := ?v13) (w' := X) ?_ ⟨rfl, Below.refl _ _⟩
          clear hX
          go_simp
          all_goals try go_bits
          all_goals try simp only [IntWalk.iteOmega]
          all_goals try go_bits
          all_goals rfl
        · refine step_intro rfl rfl fun ρ X hc hf hgl hX hp ho => ?_
          change StepOk _ { dst := _, op := Op.load 5 (Operand.tmp 37), type := _, pos := _, after := _, guard := _ } _ _ _
          have k37 : ρ (.tmp 37) = ?v13 := hp 13 (by decide)
          have c0X := Grows.cell' hX c0
          have c1X := Grows.cell' hX c1
          have c2X := Grows.cell' hX c2
          have c3X := Grows.cell' hX c3
          clear hp ho
          refine StepOk.of_run (v := ?v14) (w' := X) ?_ ⟨rfl, Below.refl _ _⟩
          clear hX
          go_simp
          all_goals try go_bits
          all_goals try simp only [IntWalk.iteOmega]
          all_goals try go_bits
          all_goals rfl
        · refine step_intro rfl rfl fun ρ X hc hf hgl hX hp ho => ?_
          change StepOk _ { dst := _, op := Op.convert 5 44 (Operand.tmp 38), type := _, pos := _, after := _, guard := _ } _ _ _
          have k38 : ρ (.tmp 38) = ?v14 := hp 14 (by decide)
          clear hp ho
          refine StepOk.of_run (v := ?v15) (w' := X) ?_ ⟨rfl, Below.refl _ _⟩
          clear hX
          go_simp
          all_goals try go_bits
          all_goals try simp only [IntWalk.iteOmega]
          all_goals try go_bits
          all_goals rfl
        · refine step_intro rfl rfl fun ρ X hc hf hgl hX hp ho => ?_
          change StepOk _ { dst := _, op := Op.binOp BinOp.shl 44 (Operand.tmp 39) (Operand.const (Value.int IntKind.u64 16)) 57, type := _, pos := _, after := _, guard := _ } _ _ _
          have k39 : ρ (.tmp 39) = ?v15 := hp 15 (by decide)
          clear hp ho
          refine StepOk.of_run (v := ?v16) (w' := X) ?_ ⟨rfl, Below.refl _ _⟩
          clear hX
          go_simp
          all_goals try go_bits
          all_goals try simp only [IntWalk.iteOmega]
          all_goals try go_bits
          all_goals rfl
        · refine step_intro rfl rfl fun ρ X hc hf hgl hX hp ho => ?_
          change StepOk _ { dst := _, op := Op.binOp BinOp.or 44 (Operand.tmp 32) (Operand.tmp 40) 44, type := _, pos := _, after := _, guard := _ } _ _ _
          have k32 : ρ (.tmp 32) = ?v8 := hp 8 (by decide)
          have k40 : ρ (.tmp 40) = ?v16 := hp 16 (by decide)
          clear hp ho
          refine StepOk.of_run (v := ?v17) (w' := X) ?_ ⟨rfl, Below.refl _ _⟩
          clear hX
          go_simp
          all_goals try go_bits
          all_goals try simp only [IntWalk.iteOmega]
          all_goals try go_bits
          all_goals rfl
        · refine step_intro rfl rfl fun ρ X hc hf hgl hX hp ho => ?_
          change StepOk _ { dst := _, op := Op.move (Operand.tmp 1), type := _, pos := _, after := _, guard := _ } _ _ _
          have k1 : ρ (.tmp 1) = .slice (some ⟨gb, ob, none⟩) 64 cb := ho 1 (by decide)
          clear hp ho
          refine StepOk.of_run (v := ?v18) (w' := X) ?_ ⟨rfl, Below.refl _ _⟩
          clear hX
          go_simp
          all_goals try go_bits
          all_goals try simp only [IntWalk.iteOmega]
          all_goals try go_bits
          all_goals rfl
        · refine step_intro rfl rfl fun ρ X hc hf hgl hX hp ho => ?_
          change StepOk _ { dst := _, op := Op.move (Operand.tmp 6), type := _, pos := _, after := _, guard := _ } _ _ _
          have k6 : ρ (.tmp 6) = .int .i64 (k : Int) := ho 6 (by decide)
          clear hp ho
          refine StepOk.of_run (v := ?v19) (w' := X) ?_ ⟨rfl, Below.refl _ _⟩
          clear hX
          go_simp
          all_goals try go_bits
          all_goals try simp only [IntWalk.iteOmega]
          all_goals try go_bits
          all_goals rfl
        · refine step_intro rfl rfl fun ρ X hc hf hgl hX hp ho => ?_
          change StepOk _ { dst := _, op := Op.binOp BinOp.mul 3 (Operand.const (Value.int IntKind.i64 4)) (Operand.tmp 43) 3, type := _, pos := _, after := _, guard := _ } _ _ _
          have k43 : ρ (.tmp 43) = ?v19 := hp 19 (by decide)
          clear hp ho
          refine StepOk.of_run (v := ?v20) (w' := X) ?_ ⟨rfl, Below.refl _ _⟩
          clear hX
          go_simp
          all_goals try go_bits
          all_goals try simp only [IntWalk.iteOmega]
          all_goals try go_bits
          all_goals rfl
        · refine step_intro rfl rfl fun ρ X hc hf hgl hX hp ho => ?_
          change StepOk _ { dst := _, op := Op.binOp BinOp.add 3 (Operand.tmp 44) (Operand.const (Value.int IntKind.i64 2)) 3, type := _, pos := _, after := _, guard := _ } _ _ _
          have k44 : ρ (.tmp 44) = ?v20 := hp 20 (by decide)
          clear hp ho
          refine StepOk.of_run (v := ?v21) (w' := X) ?_ ⟨rfl, Below.refl _ _⟩
          clear hX
          go_simp
          all_goals try go_bits
          all_goals try simp only [IntWalk.iteOmega]
          all_goals try go_bits
          all_goals rfl
        · refine step_intro rfl rfl fun ρ X hc hf hgl hX hp ho => ?_
          change StepOk _ { dst := _, op := Op.indexAddr 22 (Operand.tmp 42) (Operand.tmp 45), type := _, pos := _, after := _, guard := _ } _ _ _
          have k42 : ρ (.tmp 42) = ?v18 := hp 18 (by decide)
          have k45 : ρ (.tmp 45) = ?v21 := hp 21 (by decide)
          clear hp ho
          refine StepOk.of_run (v := ?v22) (w' := X) ?_ ⟨rfl, Below.refl _ _⟩
          clear hX
          go_simp
          all_goals try go_bits
          all_goals try simp only [IntWalk.iteOmega]
          all_goals try go_bits
          all_goals rfl
        · refine step_intro rfl rfl fun ρ X hc hf hgl hX hp ho => ?_
          change StepOk _ { dst := _, op := Op.load 5 (Operand.tmp 46), type := _, pos := _, after := _, guard := _ } _ _ _
          have k46 : ρ (.tmp 46) = ?v22 := hp 22 (by decide)
          have c0X := Grows.cell' hX c0
          have c1X := Grows.cell' hX c1
          have c2X := Grows.cell' hX c2
          have c3X := Grows.cell' hX c3
          clear hp ho
          refine StepOk.of_run (v := ?v23) (w' := X) ?_ ⟨rfl, Below.refl _ _⟩
          clear hX
          go_simp
          all_goals try go_bits
          all_goals try simp only [IntWalk.iteOmega]
          all_goals try go_bits
          all_goals rfl
        · refine step_intro rfl rfl fun ρ X hc hf hgl hX hp ho => ?_
          change StepOk _ { dst := _, op := Op.convert 5 44 (Operand.tmp 47), type := _, pos := _, after := _, guard := _ } _ _ _
          have k47 : ρ (.tmp 47) = ?v23 := hp 23 (by decide)
          clear hp ho
          refine StepOk.of_run (v := ?v24) (w' := X) ?_ ⟨rfl, Below.refl _ _⟩
          clear hX
          go_simp
          all_goals try go_bits
          all_goals try simp only [IntWalk.iteOmega]
          all_goals try go_bits
          all_goals rfl
        · refine step_intro rfl rfl fun ρ X hc hf hgl hX hp ho => ?_
          change StepOk _ { dst := _, op := Op.binOp BinOp.shl 44 (Operand.tmp 48) (Operand.const (Value.int IntKind.u64 8)) 57, type := _, pos := _, after := _, guard := _ } _ _ _
          have k48 : ρ (.tmp 48) = ?v24 := hp 24 (by decide)
          clear hp ho
          refine StepOk.of_run (v := ?v25) (w' := X) ?_ ⟨rfl, Below.refl _ _⟩
          clear hX
          go_simp
          all_goals try go_bits
          all_goals try simp only [IntWalk.iteOmega]
          all_goals try go_bits
          all_goals rfl
        · refine step_intro rfl rfl fun ρ X hc hf hgl hX hp ho => ?_
          change StepOk _ { dst := _, op := Op.binOp BinOp.or 44 (Operand.tmp 41) (Operand.tmp 49) 44, type := _, pos := _, after := _, guard := _ } _ _ _
          have k41 : ρ (.tmp 41) = ?v17 := hp 17 (by decide)
          have k49 : ρ (.tmp 49) = ?v25 := hp 25 (by decide)
          clear hp ho
          refine StepOk.of_run (v := ?v26) (w' := X) ?_ ⟨rfl, Below.refl _ _⟩
          clear hX
          go_simp
          all_goals try go_bits
          all_goals try simp only [IntWalk.iteOmega]
          all_goals try go_bits
          all_goals rfl
        · refine step_intro rfl rfl fun ρ X hc hf hgl hX hp ho => ?_
          change StepOk _ { dst := _, op := Op.move (Operand.tmp 1), type := _, pos := _, after := _, guard := _ } _ _ _
          have k1 : ρ (.tmp 1) = .slice (some ⟨gb, ob, none⟩) 64 cb := ho 1 (by decide)
          clear hp ho
          refine StepOk.of_run (v := ?v27) (w' := X) ?_ ⟨rfl, Below.refl _ _⟩
          clear hX
          go_simp
          all_goals try go_bits
          all_goals try simp only [IntWalk.iteOmega]
          all_goals try go_bits
          all_goals rfl
        · refine step_intro rfl rfl fun ρ X hc hf hgl hX hp ho => ?_
          change StepOk _ { dst := _, op := Op.move (Operand.tmp 6), type := _, pos := _, after := _, guard := _ } _ _ _
          have k6 : ρ (.tmp 6) = .int .i64 (k : Int) := ho 6 (by decide)
          clear hp ho
          refine StepOk.of_run (v := ?v28) (w' := X) ?_ ⟨rfl, Below.refl _ _⟩
          clear hX
          go_simp
          all_goals try go_bits
          all_goals try simp only [IntWalk.iteOmega]
          all_goals try go_bits
          all_goals rfl
        · refine step_intro rfl rfl fun ρ X hc hf hgl hX hp ho => ?_
          change StepOk _ { dst := _, op := Op.binOp BinOp.mul 3 (Operand.const (Value.int IntKind.i64 4)) (Operand.tmp 52) 3, type := _, pos := _, after := _, guard := _ } _ _ _
          have k52 : ρ (.tmp 52) = ?v28 := hp 28 (by decide)
          clear hp ho
          refine StepOk.of_run (v := ?v29) (w' := X) ?_ ⟨rfl, Below.refl _ _⟩
          clear hX
          go_simp
          all_goals try go_bits
          all_goals try simp only [IntWalk.iteOmega]
          all_goals try go_bits
          all_goals rfl
        · refine step_intro rfl rfl fun ρ X hc hf hgl hX hp ho => ?_
          change StepOk _ { dst := _, op := Op.binOp BinOp.add 3 (Operand.tmp 53) (Operand.const (Value.int IntKind.i64 3)) 3, type := _, pos := _, after := _, guard := _ } _ _ _
          have k53 : ρ (.tmp 53) = ?v29 := hp 29 (by decide)
          clear hp ho
          refine StepOk.of_run (v := ?v30) (w' := X) ?_ ⟨rfl, Below.refl _ _⟩
          clear hX
          go_simp
          all_goals try go_bits
          all_goals try simp only [IntWalk.iteOmega]
          all_goals try go_bits
          all_goals rfl
        · refine step_intro rfl rfl fun ρ X hc hf hgl hX hp ho => ?_
          change StepOk _ { dst := _, op := Op.indexAddr 22 (Operand.tmp 51) (Operand.tmp 54), type := _, pos := _, after := _, guard := _ } _ _ _
          have k51 : ρ (.tmp 51) = ?v27 := hp 27 (by decide)
          have k54 : ρ (.tmp 54) = ?v30 := hp 30 (by decide)
          clear hp ho
          refine StepOk.of_run (v := ?v31) (w' := X) ?_ ⟨rfl, Below.refl _ _⟩
          clear hX
          go_simp
          all_goals try go_bits
          all_goals try simp only [IntWalk.iteOmega]
          all_goals try go_bits
          all_goals rfl
        · refine step_intro rfl rfl fun ρ X hc hf hgl hX hp ho => ?_
          change StepOk _ { dst := _, op := Op.load 5 (Operand.tmp 55), type := _, pos := _, after := _, guard := _ } _ _ _
          have k55 : ρ (.tmp 55) = ?v31 := hp 31 (by decide)
          have c0X := Grows.cell' hX c0
          have c1X := Grows.cell' hX c1
          have c2X := Grows.cell' hX c2
          have c3X := Grows.cell' hX c3
          clear hp ho
          refine StepOk.of_run (v := ?v32) (w' := X) ?_ ⟨rfl, Below.refl _ _⟩
          clear hX
          go_simp
          all_goals try go_bits
          all_goals try simp only [IntWalk.iteOmega]
          all_goals try go_bits
          all_goals rfl
        · refine step_intro rfl rfl fun ρ X hc hf hgl hX hp ho => ?_
          change StepOk _ { dst := _, op := Op.convert 5 44 (Operand.tmp 56), type := _, pos := _, after := _, guard := _ } _ _ _
          have k56 : ρ (.tmp 56) = ?v32 := hp 32 (by decide)
          clear hp ho
          refine StepOk.of_run (v := ?v33) (w' := X) ?_ ⟨rfl, Below.refl _ _⟩
          clear hX
          go_simp
          all_goals try go_bits
          all_goals try simp only [IntWalk.iteOmega]
          all_goals try go_bits
          all_goals rfl
        · refine step_intro rfl rfl fun ρ X hc hf hgl hX hp ho => ?_
          change StepOk _ { dst := _, op := Op.binOp BinOp.or 44 (Operand.tmp 50) (Operand.tmp 57) 44, type := _, pos := _, after := _, guard := _ } _ _ _
          have k50 : ρ (.tmp 50) = ?v26 := hp 26 (by decide)
          have k57 : ρ (.tmp 57) = ?v33 := hp 33 (by decide)
          clear hp ho
          refine StepOk.of_run (v := ?v34) (w' := X) ?_ ⟨rfl, Below.refl _ _⟩
          clear hX
          go_simp
          all_goals try go_bits
          all_goals try simp only [IntWalk.iteOmega]
          all_goals try go_bits
          all_goals rfl
        · refine step_intro rfl rfl fun ρ X hc hf hgl hX hp ho => ?_
          change StepOk _ { dst := _, op := Op.indexAddr 45 (Operand.tmp 24) (Operand.tmp 25), type := _, pos := _, after := _, guard := _ } _ _ _
          have k24 : ρ (.tmp 24) = ?v0 := hp 0 (by decide)
          have k25 : ρ (.tmp 25) = ?v1 := hp 1 (by decide)
          clear hp ho
          refine StepOk.of_run (v := ?v35) (w' := X) ?_ ⟨rfl, Below.refl _ _⟩
          clear hX
          go_simp
          all_goals try go_bits
          all_goals try simp only [IntWalk.iteOmega]
          all_goals try go_bits
          all_goals rfl
        · exact last_intro rfl
      case grd => rfl
      case rst =>
        intro a0 X hb
        have hfr := hb.frame ((24, ?v0) :: (25, ?v1) :: (26, ?v2) :: (27, ?v3) :: (28, ?v4) :: (29, ?v5) :: (30, ?v6) :: (31, ?v7) :: (32, ?v8) :: (33, ?v9) :: (34, ?v10) :: (35, ?v11) :: (36, ?v12) :: (37, ?v13) :: (38, ?v14) :: (39, ?v15) :: (40, ?v16) :: (41, ?v17) :: (42, ?v18) :: (43, ?v19) :: (44, ?v20) :: (45, ?v21) :: (46, ?v22) :: (47, ?v23) :: (48, ?v24) :: (49, ?v25) :: (50, ?v26) :: (51, ?v27) :: (52, ?v28) :: (53, ?v29) :: (54, ?v30) :: (55, ?v31) :: (56, ?v32) :: (57, ?v33) :: (58, ?v34) :: (59, ?v35) :: []) rfl ⟨hb.done' 0 24 rfl rfl, hb.done' 1 25 rfl rfl, hb.done' 2 26 rfl rfl, hb.done' 3 27 rfl rfl, hb.done' 4 28 rfl rfl, hb.done' 5 29 rfl rfl, hb.done' 6 30 rfl rfl, hb.done' 7 31 rfl rfl, hb.done' 8 32 rfl rfl, hb.done' 9 33 rfl rfl, hb.done' 10 34 rfl rfl, hb.done' 11 35 rfl rfl, hb.done' 12 36 rfl rfl, hb.done' 13 37 rfl rfl, hb.done' 14 38 rfl rfl, hb.done' 15 39 rfl rfl, hb.done' 16 40 rfl rfl, hb.done' 17 41 rfl rfl, hb.done' 18 42 rfl rfl, hb.done' 19 43 rfl rfl, hb.done' 20 44 rfl rfl, hb.done' 21 45 rfl rfl, hb.done' 22 46 rfl rfl, hb.done' 23 47 rfl rfl, hb.done' 24 48 rfl rfl, hb.done' 25 49 rfl rfl, hb.done' 26 50 rfl rfl, hb.done' 27 51 rfl rfl, hb.done' 28 52 rfl rfl, hb.done' 29 53 rfl rfl, hb.done' 30 54 rfl rfl, hb.done' 31 55 rfl rfl, hb.done' 32 56 rfl rfl, hb.done' 33 57 rfl rfl, hb.done' 34 58 rfl rfl, hb.done' 35 59 rfl rfl, trivial⟩
        simp only [updL, ↓reduceIte, Nat.reduceEqDiff, Nat.reduceAdd, Nat.zero_add] at hfr
        have HX := Lib.hid hb.ext
        clear hb
        subst hfr
        change StepOk _ { dst := none, op := Op.store 44 (Operand.tmp 59) (Operand.tmp 58), type := _, pos := _, after := _, guard := _ } _ _ _
        have cX := Grows.cell' HX.out Cw.out
        have fX : X.frozen? ⟨w.heap.size, k, none⟩ = false := (Below.frozen HX.out (p := ⟨w.heap.size, k, none⟩) (World.block_lt_of_cell? _ _ Cw.out)).trans Fw.out
        unfold StepOk
        simp [go_sem, execOp, cX, fX]
        clear cX fX
        go_wp2
        go_roundw
        case rel =>
          refine ⟨k + 1, by have := Hk.out; omega, by simp, ?_, Below.setCell (p := ⟨w.heap.size, k, none⟩) (Grows.trans' HG.out HX.out) (Nat.le_refl _) _⟩
          have h1 := ((Hown.out.grows1 HX.out).stored k (wv (wordAt l k))).1
          rw [show 64 - k = (64 - (k + 1)) + 1 by have := Hk.out; omega, set_app_rep _ _ k _ (by rw [List.length_take, w16_length]; have := Hk.out; omega), ← w16_snoc l k Hk.out, Hword.out] at h1
          exact h1
        case measure => have := Hk.out; simp [intOf]; omega
    · have hk16 : k = 16 := by omega
      have hown1 : wr.ownsRow w.heap.size 44 1 (.slice (some ⟨w.heap.size, 0, none⟩) 64 64) 64 ((sched l 0 ++ List.replicate (48 - 0) 0).map wv) := by
        rw [List.take_of_length_le (by rw [w16_length]; omega), hk16] at hown
        exact hown
      clear hown hk hk16
      go_wp2
      go_loopw [7] (fun t7 wr => ∃ (j t : Nat), j ≤ 48 ∧ t = 16 + j ∧ t7 = .int .i64 t ∧ wr.ownsRow w.heap.size 44 1 (.slice (some ⟨w.heap.size, 0, none⟩) 64 64) 64 ((sched l j ++ List.replicate (48 - j) 0).map wv) ∧ Grows w wr)
        (fun t7 _ => 64 - (intOf t7).toNat)
      case atStart => exact ⟨0, 16, by omega, rfl, rfl, hown1, hG⟩
      case round =>
        obtain ⟨j, t, hj, ht, rfl, hown, hG⟩ := hrel
        clear hown1
        by_cases hlt : t < 64
        · have hcw : ∀ i, i < t → wr.cell? ⟨w.heap.size, i, none⟩ = some (.int .u32 (wn ((sched l j).getD i 0))) := fun i hi => by
            rw [hown.cellAt i (by omega)]
            have h1 : i < (sched l j).length := by rw [sched_length]; omega
            simp [List.getElem?_append, h1, wv]
          obtain ⟨q2, hq2⟩ : ∃ q : Nat, (t : Int) - 2 = (q : Int) := ⟨t - 2, by omega⟩
          obtain ⟨q15, hq15⟩ : ∃ q : Nat, (t : Int) - 15 = (q : Int) := ⟨t - 15, by omega⟩
          obtain ⟨q7, hq7⟩ : ∃ q : Nat, (t : Int) - 7 = (q : Int) := ⟨t - 7, by omega⟩
          obtain ⟨q16, hq16⟩ : ∃ q : Nat, (t : Int) - 16 = (q : Int) := ⟨t - 16, by omega⟩
          have bq2 : ¬ 64 ≤ (q2 : Int) := by omega
          have bq15 : ¬ 64 ≤ (q15 : Int) := by omega
          have bq7 : ¬ 64 ≤ (q7 : Int) := by omega
          have bq16 : ¬ 64 ≤ (q16 : Int) := by omega
          have bt : ¬ 64 ≤ (t : Int) := by omega
          have Hnx : Hid (nextW (sched l j) t = (rotr ((sched l j).getD q2 0) 17 ^^^ rotr ((sched l j).getD q2 0) 19 ^^^ (sched l j).getD q2 0 >>> 10) + (sched l j).getD q7 0 + (rotr ((sched l j).getD q15 0) 7 ^^^ rotr ((sched l j).getD q15 0) 18 ^^^ (sched l j).getD q15 0 >>> 3) + (sched l j).getD q16 0) := by
            show _ = _
            unfold nextW
            rw [show t - 2 = q2 by omega, show t - 15 = q15 by omega, show t - 7 = q7 by omega, show t - 16 = q16 by omega]
          have c2 := hcw q2 (by omega)
          have c15 := hcw q15 (by omega)
          have c7 := hcw q7 (by omega)
          have c16 := hcw q16 (by omega)
          obtain ⟨x2, Hx2⟩ : ∃ x, Hid ((sched l j).getD q2 0 = x) := ⟨_, rfl⟩
          obtain ⟨x15, Hx15⟩ : ∃ x, Hid ((sched l j).getD q15 0 = x) := ⟨_, rfl⟩
          obtain ⟨x7, Hx7⟩ : ∃ x, Hid ((sched l j).getD q7 0 = x) := ⟨_, rfl⟩
          obtain ⟨x16, Hx16⟩ : ∃ x, Hid ((sched l j).getD q16 0 = x) := ⟨_, rfl⟩
          rw [Hx2.out] at c2 Hnx
          rw [Hx15.out] at c15 Hnx
          rw [Hx7.out] at c7 Hnx
          rw [Hx16.out] at c16 Hnx
          have Cw : Hid (wr.cell? ⟨w.heap.size, t, none⟩ = some (.int .u32 (wn 0))) := by
            show _ = _
            rw [hown.cellAt t (by omega)]
            have h1 : (sched l j).length = t := by rw [sched_length]; omega
            simp [List.getElem?_append, h1, wv, show 0 < 48 - j by omega]
          have Fw : Hid (wr.frozen? ⟨w.heap.size, t, none⟩ = false) := hown.frozenAt t
          have Hj := Lib.hid (show j < 48 by omega)
          have Ht := Lib.hid ht
          have Hown := Lib.hid hown
          have HG := Lib.hid hG
          clear hown hG hlt hj hcw ht
          go_wp2
          refine specs_region
            #[[], [], [1], [0, 1, 2], [0, 1, 2, 3], [], [], [6], [5, 6, 7], [5, 6, 7, 8], [0, 1, 2, 3, 4], [0, 1, 2, 3, 4, 5, 6, 7, 8, 9, 10]] #[[5], [7], [], [], [], [5], [7], [], [], [], [], []] #[true, true, true, true, true, true, true, true, true, true, true, true]
            ((.val ?va0) :: (.val ?va1) :: (.val ?va2) :: (.val ?va3) :: (.val ?va4) :: (.val ?va5) :: (.val ?va6) :: (.val ?va7) :: (.val ?va8) :: (.val ?va9) :: (.val ?va10) :: (.val ?va11) :: []).toArray
            hmx ?chka ?grda ?stpa ?rsta
          case chka => rfl
          case stpa =>
            refine ⟨?_, ?_, ?_, ?_, ?_, ?_, ?_, ?_, ?_, ?_, ?_, ?_, trivial⟩
            · refine step_intro rfl rfl fun ρ X hc hf hgl hX hp ho => ?_
              change StepOk _ { dst := _, op := Op.move (Operand.tmp 5), type := _, pos := _, after := _, guard := _ } _ _ _
              have k5 : ρ (.tmp 5) = .slice (some ⟨w.heap.size, 0, none⟩) 64 64 := ho 5 (by decide)
              clear hp ho
              refine StepOk.of_run (v := ?va0) (w' := X) ?_ ⟨rfl, Below.refl _ _⟩
              clear hX
              go_simp
              all_goals try go_bits
              all_goals try simp only [IntWalk.iteOmega]
              all_goals try go_bits
              all_goals rfl
            · refine step_intro rfl rfl fun ρ X hc hf hgl hX hp ho => ?_
              change StepOk _ { dst := _, op := Op.move (Operand.tmp 7), type := _, pos := _, after := _, guard := _ } _ _ _
              have k7 : ρ (.tmp 7) = .int .i64 (t : Int) := ho 7 (by decide)
              clear hp ho
              refine StepOk.of_run (v := ?va1) (w' := X) ?_ ⟨rfl, Below.refl _ _⟩
              clear hX
              go_simp
              all_goals try go_bits
              all_goals try simp only [IntWalk.iteOmega]
              all_goals try go_bits
              all_goals rfl
            · refine step_intro rfl rfl fun ρ X hc hf hgl hX hp ho => ?_
              change StepOk _ { dst := _, op := Op.binOp BinOp.sub 3 (Operand.tmp 65) (Operand.const (Value.int IntKind.i64 2)) 3, type := _, pos := _, after := _, guard := _ } _ _ _
              have k65 : ρ (.tmp 65) = ?va1 := hp 1 (by decide)
              clear hp ho
              refine StepOk.of_run (v := ?va2) (w' := X) ?_ ⟨rfl, Below.refl _ _⟩
              clear hX
              go_simp
              all_goals try go_bits
              all_goals try simp only [IntWalk.iteOmega]
              all_goals try go_bits
              all_goals rfl
            · refine step_intro rfl rfl fun ρ X hc hf hgl hX hp ho => ?_
              change StepOk _ { dst := _, op := Op.indexAddr 45 (Operand.tmp 64) (Operand.tmp 66), type := _, pos := _, after := _, guard := _ } _ _ _
              have k64 : ρ (.tmp 64) = ?va0 := hp 0 (by decide)
              have k66 : ρ (.tmp 66) = ?va2 := hp 2 (by decide)
              clear hp ho
              refine StepOk.of_run (v := ?va3) (w' := X) ?_ ⟨rfl, Below.refl _ _⟩
              clear hX
              go_simp
              all_goals try go_bits
              all_goals try simp only [IntWalk.iteOmega]
              all_goals try go_bits
              all_goals rfl
            · refine step_intro rfl rfl fun ρ X hc hf hgl hX hp ho => ?_
              change StepOk _ { dst := _, op := Op.load 44 (Operand.tmp 67), type := _, pos := _, after := _, guard := _ } _ _ _
              have k67 : ρ (.tmp 67) = ?va3 := hp 3 (by decide)
              have c2X := Grows.cell' hX c2
              have c15X := Grows.cell' hX c15
              clear hp ho
              refine StepOk.of_run (v := ?va4) (w' := X) ?_ ⟨rfl, Below.refl _ _⟩
              clear hX
              go_simp
              all_goals try go_bits
              all_goals try simp only [IntWalk.iteOmega]
              all_goals try go_bits
              all_goals rfl
            · refine step_intro rfl rfl fun ρ X hc hf hgl hX hp ho => ?_
              change StepOk _ { dst := _, op := Op.move (Operand.tmp 5), type := _, pos := _, after := _, guard := _ } _ _ _
              have k5 : ρ (.tmp 5) = .slice (some ⟨w.heap.size, 0, none⟩) 64 64 := ho 5 (by decide)
              clear hp ho
              refine StepOk.of_run (v := ?va5) (w' := X) ?_ ⟨rfl, Below.refl _ _⟩
              clear hX
              go_simp
              all_goals try go_bits
              all_goals try simp only [IntWalk.iteOmega]
              all_goals try go_bits
              all_goals rfl
            · refine step_intro rfl rfl fun ρ X hc hf hgl hX hp ho => ?_
              change StepOk _ { dst := _, op := Op.move (Operand.tmp 7), type := _, pos := _, after := _, guard := _ } _ _ _
              have k7 : ρ (.tmp 7) = .int .i64 (t : Int) := ho 7 (by decide)
              clear hp ho
              refine StepOk.of_run (v := ?va6) (w' := X) ?_ ⟨rfl, Below.refl _ _⟩
              clear hX
              go_simp
              all_goals try go_bits
              all_goals try simp only [IntWalk.iteOmega]
              all_goals try go_bits
              all_goals rfl
            · refine step_intro rfl rfl fun ρ X hc hf hgl hX hp ho => ?_
              change StepOk _ { dst := _, op := Op.binOp BinOp.sub 3 (Operand.tmp 70) (Operand.const (Value.int IntKind.i64 15)) 3, type := _, pos := _, after := _, guard := _ } _ _ _
              have k70 : ρ (.tmp 70) = ?va6 := hp 6 (by decide)
              clear hp ho
              refine StepOk.of_run (v := ?va7) (w' := X) ?_ ⟨rfl, Below.refl _ _⟩
              clear hX
              go_simp
              all_goals try go_bits
              all_goals try simp only [IntWalk.iteOmega]
              all_goals try go_bits
              all_goals rfl
            · refine step_intro rfl rfl fun ρ X hc hf hgl hX hp ho => ?_
              change StepOk _ { dst := _, op := Op.indexAddr 45 (Operand.tmp 69) (Operand.tmp 71), type := _, pos := _, after := _, guard := _ } _ _ _
              have k69 : ρ (.tmp 69) = ?va5 := hp 5 (by decide)
              have k71 : ρ (.tmp 71) = ?va7 := hp 7 (by decide)
              clear hp ho
              refine StepOk.of_run (v := ?va8) (w' := X) ?_ ⟨rfl, Below.refl _ _⟩
              clear hX
              go_simp
              all_goals try go_bits
              all_goals try simp only [IntWalk.iteOmega]
              all_goals try go_bits
              all_goals rfl
            · refine step_intro rfl rfl fun ρ X hc hf hgl hX hp ho => ?_
              change StepOk _ { dst := _, op := Op.load 44 (Operand.tmp 72), type := _, pos := _, after := _, guard := _ } _ _ _
              have k72 : ρ (.tmp 72) = ?va8 := hp 8 (by decide)
              have c2X := Grows.cell' hX c2
              have c15X := Grows.cell' hX c15
              clear hp ho
              refine StepOk.of_run (v := ?va9) (w' := X) ?_ ⟨rfl, Below.refl _ _⟩
              clear hX
              go_simp
              all_goals try go_bits
              all_goals try simp only [IntWalk.iteOmega]
              all_goals try go_bits
              all_goals rfl
            · refine step_intro rfl rfl fun ρ X hc hf hgl hX hp ho => ?_
              change StepOk _ { dst := _, op := Op.assign (Operand.tmp 68), type := _, pos := _, after := _, guard := _ } _ _ _
              have k68 : ρ (.tmp 68) = ?va4 := hp 4 (by decide)
              clear hp ho
              refine StepOk.of_run (v := ?va10) (w' := X) ?_ ⟨rfl, Below.refl _ _⟩
              clear hX
              go_simp
              all_goals try go_bits
              all_goals try simp only [IntWalk.iteOmega]
              all_goals try go_bits
              all_goals rfl
            · refine step_intro rfl rfl fun ρ X hc hf hgl hX hp ho => ?_
              change StepOk _ { dst := _, op := Op.assign (Operand.tmp 73), type := _, pos := _, after := _, guard := _ } _ _ _
              have k73 : ρ (.tmp 73) = ?va9 := hp 9 (by decide)
              clear hp ho
              refine StepOk.of_run (v := ?va11) (w' := X) ?_ ⟨rfl, Below.refl _ _⟩
              clear hX
              go_simp
              all_goals try go_bits
              all_goals try simp only [IntWalk.iteOmega]
              all_goals try go_bits
              all_goals rfl
          case grda => rfl
          case rsta =>
            intro a0 X hb
            have hfr := hb.frame ((8, ?va10) :: (9, ?va11) :: (64, ?va0) :: (65, ?va1) :: (66, ?va2) :: (67, ?va3) :: (68, ?va4) :: (69, ?va5) :: (70, ?va6) :: (71, ?va7) :: (72, ?va8) :: (73, ?va9) :: []) rfl ⟨hb.done' 10 8 rfl rfl, hb.done' 11 9 rfl rfl, hb.done' 0 64 rfl rfl, hb.done' 1 65 rfl rfl, hb.done' 2 66 rfl rfl, hb.done' 3 67 rfl rfl, hb.done' 4 68 rfl rfl, hb.done' 5 69 rfl rfl, hb.done' 6 70 rfl rfl, hb.done' 7 71 rfl rfl, hb.done' 8 72 rfl rfl, hb.done' 9 73 rfl rfl, trivial⟩
            simp only [updL, ↓reduceIte, Nat.reduceEqDiff, Nat.reduceAdd, Nat.zero_add] at hfr
            have HX := Lib.hid hb.ext
            clear hb
            subst hfr
            have HXa := HX
            have c7X := HX.out.cell' c7
            have c16X := HX.out.cell' c16
            clear c2 c15 c7 c16
            go_wp2
            refine specs_last 32
              #[[], [], [], [2], [], [2, 3, 4], [2, 3, 4, 5], [], [7], [2, 3, 4, 5, 6, 7, 8], [], [], [11], [10, 11, 12], [10, 11, 12, 13], [2, 3, 4, 5, 6, 7, 8, 9, 10, 11, 12, 13, 14], [], [2, 3, 4, 5, 16], [], [2, 3, 4, 5, 16, 17, 18], [2, 3, 4, 5, 16, 17, 18, 19], [], [21], [2, 3, 4, 5, 16, 17, 18, 19, 20, 21, 22], [2, 3, 4, 5, 6, 7, 8, 9, 10, 11, 12, 13, 14, 15, 16, 17, 18, 19, 20, 21, 22, 23], [], [], [26], [25, 26, 27], [25, 26, 27, 28], [2, 3, 4, 5, 6, 7, 8, 9, 10, 11, 12, 13, 14, 15, 16, 17, 18, 19, 20, 21, 22, 23, 24, 25, 26, 27, 28, 29], [0, 1, 2, 3, 4, 5, 6, 7, 8, 9, 10, 11, 12, 13, 14, 15, 16, 17, 18, 19, 20, 21, 22, 23, 24, 25, 26, 27, 28, 29, 30], [0, 1, 2, 3, 4, 5, 6, 7, 8, 9, 10, 11, 12, 13, 14, 15, 16, 17, 18, 19, 20, 21, 22, 23, 24, 25, 26, 27, 28, 29, 30, 31]] #[[5], [7], [8], [], [8], [], [], [8], [], [], [5], [7], [], [], [], [], [9], [], [9], [], [], [9], [], [], [], [5], [7], [], [], [], [], [], []] #[true, true, true, true, true, true, true, true, true, true, true, true, true, true, true, true, true, true, true, true, true, true, true, true, true, true, true, true, true, true, true, true, true]
              ((.val ?vb0) :: (.val ?vb1) :: (.val ?vb2) :: (.val ?vb3) :: (.val ?vb4) :: (.val ?vb5) :: (.val ?vb6) :: (.val ?vb7) :: (.val ?vb8) :: (.val ?vb9) :: (.val ?vb10) :: (.val ?vb11) :: (.val ?vb12) :: (.val ?vb13) :: (.val ?vb14) :: (.val ?vb15) :: (.val ?vb16) :: (.val ?vb17) :: (.val ?vb18) :: (.val ?vb19) :: (.val ?vb20) :: (.val ?vb21) :: (.val ?vb22) :: (.val ?vb23) :: (.val ?vb24) :: (.val ?vb25) :: (.val ?vb26) :: (.val ?vb27) :: (.val ?vb28) :: (.val ?vb29) :: (.val ?vb30) :: (.val ?vb31) :: (.any) :: []).toArray
              hmx ?chkb ?grdb rfl ?stpb ?rstb
            case chkb => rfl
            case stpb =>
              refine ⟨?_, ?_, ?_, ?_, ?_, ?_, ?_, ?_, ?_, ?_, ?_, ?_, ?_, ?_, ?_, ?_, ?_, ?_, ?_, ?_, ?_, ?_, ?_, ?_, ?_, ?_, ?_, ?_, ?_, ?_, ?_, ?_, ?_, trivial⟩
              · refine step_intro rfl rfl fun ρ X hc hf hgl hX hp ho => ?_
                change StepOk _ { dst := _, op := Op.move (Operand.tmp 5), type := _, pos := _, after := _, guard := _ } _ _ _
                have k5 : ρ (.tmp 5) = .slice (some ⟨w.heap.size, 0, none⟩) 64 64 := ho 5 (by decide)
                clear hp ho
                refine StepOk.of_run (v := ?vb0) (w' := X) ?_ ⟨rfl, Below.refl _ _⟩
                clear hX
                go_simp
                all_goals try go_bits
                all_goals try simp only [IntWalk.iteOmega]
                all_goals try go_bits
                all_goals rfl
              · refine step_intro rfl rfl fun ρ X hc hf hgl hX hp ho => ?_
                change StepOk _ { dst := _, op := Op.move (Operand.tmp 7), type := _, pos := _, after := _, guard := _ } _ _ _
                have k7 : ρ (.tmp 7) = .int .i64 (t : Int) := ho 7 (by decide)
                clear hp ho
                refine StepOk.of_run (v := ?vb1) (w' := X) ?_ ⟨rfl, Below.refl _ _⟩
                clear hX
                go_simp
                all_goals try go_bits
                all_goals try simp only [IntWalk.iteOmega]
                all_goals try go_bits
                all_goals rfl
              · refine step_intro rfl rfl fun ρ X hc hf hgl hX hp ho => ?_
                change StepOk _ { dst := _, op := Op.move (Operand.tmp 8), type := _, pos := _, after := _, guard := _ } _ _ _
                have k8 : ρ (.tmp 8) = .int .u32 (wn x2) := ho 8 (by decide)
                clear hp ho
                refine StepOk.of_run (v := ?vb2) (w' := X) ?_ ⟨rfl, Below.refl _ _⟩
                clear hX
                go_simp
                all_goals try go_bits
                all_goals try simp only [IntWalk.iteOmega]
                all_goals try go_bits
                all_goals rfl
              · refine step_intro rfl rfl fun ρ X hc hf hgl hX hp ho => ?_
                change StepOk _ { dst := _, op := Op.call { callee := Callee.value (Operand.func 27), args := #[Operand.tmp 76, Operand.const (Value.int IntKind.i64 17)], argTypes := #[44, 3] }, type := _, pos := _, after := _, guard := _ } _ _ _
                have k76 : ρ (.tmp 76) = ?vb2 := hp 2 (by decide)
                clear hp ho
                refine StepOk.of_call (f := 27) (args := #[?vb2, .int .i64 17]) (w' := X) ?_ (refTurn _ 17 (by decide) (by decide) _) ?_
                · go_simp
                  all_goals try go_bits
                  all_goals try rfl
                · rintro e w'' ⟨rfl, rfl⟩; refine ⟨_, rfl, ?_, (Below.refl _ _).drew⟩; show _ = ?vb3; rfl
              · refine step_intro rfl rfl fun ρ X hc hf hgl hX hp ho => ?_
                change StepOk _ { dst := _, op := Op.move (Operand.tmp 8), type := _, pos := _, after := _, guard := _ } _ _ _
                have k8 : ρ (.tmp 8) = .int .u32 (wn x2) := ho 8 (by decide)
                clear hp ho
                refine StepOk.of_run (v := ?vb4) (w' := X) ?_ ⟨rfl, Below.refl _ _⟩
                clear hX
                go_simp
                all_goals try go_bits
                all_goals try simp only [IntWalk.iteOmega]
                all_goals try go_bits
                all_goals rfl
              · refine step_intro rfl rfl fun ρ X hc hf hgl hX hp ho => ?_
                change StepOk _ { dst := _, op := Op.call { callee := Callee.value (Operand.func 27), args := #[Operand.tmp 78, Operand.const (Value.int IntKind.i64 19)], argTypes := #[44, 3] }, type := _, pos := _, after := _, guard := _ } _ _ _
                have k78 : ρ (.tmp 78) = ?vb4 := hp 4 (by decide)
                clear hp ho
                refine StepOk.of_call (f := 27) (args := #[?vb4, .int .i64 19]) (w' := X) ?_ (refTurn _ 19 (by decide) (by decide) _) ?_
                · go_simp
                  all_goals try go_bits
                  all_goals try rfl
                · rintro e w'' ⟨rfl, rfl⟩; refine ⟨_, rfl, ?_, (Below.refl _ _).drew⟩; show _ = ?vb5; rfl
              · refine step_intro rfl rfl fun ρ X hc hf hgl hX hp ho => ?_
                change StepOk _ { dst := _, op := Op.binOp BinOp.xor 44 (Operand.tmp 77) (Operand.tmp 79) 44, type := _, pos := _, after := _, guard := _ } _ _ _
                have k77 : ρ (.tmp 77) = ?vb3 := hp 3 (by decide)
                have k79 : ρ (.tmp 79) = ?vb5 := hp 5 (by decide)
                clear hp ho
                refine StepOk.of_run (v := ?vb6) (w' := X) ?_ ⟨rfl, Below.refl _ _⟩
                clear hX
                go_simp
                all_goals try go_bits
                all_goals try simp only [IntWalk.iteOmega]
                all_goals try go_bits
                all_goals rfl
              · refine step_intro rfl rfl fun ρ X hc hf hgl hX hp ho => ?_
                change StepOk _ { dst := _, op := Op.move (Operand.tmp 8), type := _, pos := _, after := _, guard := _ } _ _ _
                have k8 : ρ (.tmp 8) = .int .u32 (wn x2) := ho 8 (by decide)
                clear hp ho
                refine StepOk.of_run (v := ?vb7) (w' := X) ?_ ⟨rfl, Below.refl _ _⟩
                clear hX
                go_simp
                all_goals try go_bits
                all_goals try simp only [IntWalk.iteOmega]
                all_goals try go_bits
                all_goals rfl
              · refine step_intro rfl rfl fun ρ X hc hf hgl hX hp ho => ?_
                change StepOk _ { dst := _, op := Op.binOp BinOp.shr 44 (Operand.tmp 81) (Operand.const (Value.int IntKind.u64 10)) 57, type := _, pos := _, after := _, guard := _ } _ _ _
                have k81 : ρ (.tmp 81) = ?vb7 := hp 7 (by decide)
                clear hp ho
                refine StepOk.of_run (v := ?vb8) (w' := X) ?_ ⟨rfl, Below.refl _ _⟩
                clear hX
                go_simp
                all_goals try go_bits
                all_goals try simp only [IntWalk.iteOmega]
                all_goals try go_bits
                all_goals rfl
              · refine step_intro rfl rfl fun ρ X hc hf hgl hX hp ho => ?_
                change StepOk _ { dst := _, op := Op.binOp BinOp.xor 44 (Operand.tmp 80) (Operand.tmp 82) 44, type := _, pos := _, after := _, guard := _ } _ _ _
                have k80 : ρ (.tmp 80) = ?vb6 := hp 6 (by decide)
                have k82 : ρ (.tmp 82) = ?vb8 := hp 8 (by decide)
                clear hp ho
                refine StepOk.of_run (v := ?vb9) (w' := X) ?_ ⟨rfl, Below.refl _ _⟩
                clear hX
                go_simp
                all_goals try go_bits
                all_goals try simp only [IntWalk.iteOmega]
                all_goals try go_bits
                all_goals rfl
              · refine step_intro rfl rfl fun ρ X hc hf hgl hX hp ho => ?_
                change StepOk _ { dst := _, op := Op.move (Operand.tmp 5), type := _, pos := _, after := _, guard := _ } _ _ _
                have k5 : ρ (.tmp 5) = .slice (some ⟨w.heap.size, 0, none⟩) 64 64 := ho 5 (by decide)
                clear hp ho
                refine StepOk.of_run (v := ?vb10) (w' := X) ?_ ⟨rfl, Below.refl _ _⟩
                clear hX
                go_simp
                all_goals try go_bits
                all_goals try simp only [IntWalk.iteOmega]
                all_goals try go_bits
                all_goals rfl
              · refine step_intro rfl rfl fun ρ X hc hf hgl hX hp ho => ?_
                change StepOk _ { dst := _, op := Op.move (Operand.tmp 7), type := _, pos := _, after := _, guard := _ } _ _ _
                have k7 : ρ (.tmp 7) = .int .i64 (t : Int) := ho 7 (by decide)
                clear hp ho
                refine StepOk.of_run (v := ?vb11) (w' := X) ?_ ⟨rfl, Below.refl _ _⟩
                clear hX
                go_simp
                all_goals try go_bits
                all_goals try simp only [IntWalk.iteOmega]
                all_goals try go_bits
                all_goals rfl
              · refine step_intro rfl rfl fun ρ X hc hf hgl hX hp ho => ?_
                change StepOk _ { dst := _, op := Op.binOp BinOp.sub 3 (Operand.tmp 85) (Operand.const (Value.int IntKind.i64 7)) 3, type := _, pos := _, after := _, guard := _ } _ _ _
                have k85 : ρ (.tmp 85) = ?vb11 := hp 11 (by decide)
                clear hp ho
                refine StepOk.of_run (v := ?vb12) (w' := X) ?_ ⟨rfl, Below.refl _ _⟩
                clear hX
                go_simp
                all_goals try go_bits
                all_goals try simp only [IntWalk.iteOmega]
                all_goals try go_bits
                all_goals rfl
              · refine step_intro rfl rfl fun ρ X hc hf hgl hX hp ho => ?_
                change StepOk _ { dst := _, op := Op.indexAddr 45 (Operand.tmp 84) (Operand.tmp 86), type := _, pos := _, after := _, guard := _ } _ _ _
                have k84 : ρ (.tmp 84) = ?vb10 := hp 10 (by decide)
                have k86 : ρ (.tmp 86) = ?vb12 := hp 12 (by decide)
                clear hp ho
                refine StepOk.of_run (v := ?vb13) (w' := X) ?_ ⟨rfl, Below.refl _ _⟩
                clear hX
                go_simp
                all_goals try go_bits
                all_goals try simp only [IntWalk.iteOmega]
                all_goals try go_bits
                all_goals rfl
              · refine step_intro rfl rfl fun ρ X hc hf hgl hX hp ho => ?_
                change StepOk _ { dst := _, op := Op.load 44 (Operand.tmp 87), type := _, pos := _, after := _, guard := _ } _ _ _
                have k87 : ρ (.tmp 87) = ?vb13 := hp 13 (by decide)
                have c7XX := Grows.cell' hX c7X
                have c16XX := Grows.cell' hX c16X
                clear hp ho
                refine StepOk.of_run (v := ?vb14) (w' := X) ?_ ⟨rfl, Below.refl _ _⟩
                clear hX
                go_simp
                all_goals try go_bits
                all_goals try simp only [IntWalk.iteOmega]
                all_goals try go_bits
                all_goals rfl
              · refine step_intro rfl rfl fun ρ X hc hf hgl hX hp ho => ?_
                change StepOk _ { dst := _, op := Op.binOp BinOp.add 44 (Operand.tmp 83) (Operand.tmp 88) 44, type := _, pos := _, after := _, guard := _ } _ _ _
                have k83 : ρ (.tmp 83) = ?vb9 := hp 9 (by decide)
                have k88 : ρ (.tmp 88) = ?vb14 := hp 14 (by decide)
                clear hp ho
                refine StepOk.of_run (v := ?vb15) (w' := X) ?_ ⟨rfl, Below.refl _ _⟩
                clear hX
                go_simp
                all_goals try go_bits
                all_goals try simp only [IntWalk.iteOmega]
                all_goals try go_bits
                all_goals rfl
              · refine step_intro rfl rfl fun ρ X hc hf hgl hX hp ho => ?_
                change StepOk _ { dst := _, op := Op.move (Operand.tmp 9), type := _, pos := _, after := _, guard := _ } _ _ _
                have k9 : ρ (.tmp 9) = .int .u32 (wn x15) := ho 9 (by decide)
                clear hp ho
                refine StepOk.of_run (v := ?vb16) (w' := X) ?_ ⟨rfl, Below.refl _ _⟩
                clear hX
                go_simp
                all_goals try go_bits
                all_goals try simp only [IntWalk.iteOmega]
                all_goals try go_bits
                all_goals rfl
              · refine step_intro rfl rfl fun ρ X hc hf hgl hX hp ho => ?_
                change StepOk _ { dst := _, op := Op.call { callee := Callee.value (Operand.func 27), args := #[Operand.tmp 90, Operand.const (Value.int IntKind.i64 7)], argTypes := #[44, 3] }, type := _, pos := _, after := _, guard := _ } _ _ _
                have k90 : ρ (.tmp 90) = ?vb16 := hp 16 (by decide)
                clear hp ho
                refine StepOk.of_call (f := 27) (args := #[?vb16, .int .i64 7]) (w' := X) ?_ (refTurn _ 7 (by decide) (by decide) _) ?_
                · go_simp
                  all_goals try go_bits
                  all_goals try rfl
                · rintro e w'' ⟨rfl, rfl⟩; refine ⟨_, rfl, ?_, (Below.refl _ _).drew⟩; show _ = ?vb17; rfl
              · refine step_intro rfl rfl fun ρ X hc hf hgl hX hp ho => ?_
                change StepOk _ { dst := _, op := Op.move (Operand.tmp 9), type := _, pos := _, after := _, guard := _ } _ _ _
                have k9 : ρ (.tmp 9) = .int .u32 (wn x15) := ho 9 (by decide)
                clear hp ho
                refine StepOk.of_run (v := ?vb18) (w' := X) ?_ ⟨rfl, Below.refl _ _⟩
                clear hX
                go_simp
                all_goals try go_bits
                all_goals try simp only [IntWalk.iteOmega]
                all_goals try go_bits
                all_goals rfl
              · refine step_intro rfl rfl fun ρ X hc hf hgl hX hp ho => ?_
                change StepOk _ { dst := _, op := Op.call { callee := Callee.value (Operand.func 27), args := #[Operand.tmp 92, Operand.const (Value.int IntKind.i64 18)], argTypes := #[44, 3] }, type := _, pos := _, after := _, guard := _ } _ _ _
                have k92 : ρ (.tmp 92) = ?vb18 := hp 18 (by decide)
                clear hp ho
                refine StepOk.of_call (f := 27) (args := #[?vb18, .int .i64 18]) (w' := X) ?_ (refTurn _ 18 (by decide) (by decide) _) ?_
                · go_simp
                  all_goals try go_bits
                  all_goals try rfl
                · rintro e w'' ⟨rfl, rfl⟩; refine ⟨_, rfl, ?_, (Below.refl _ _).drew⟩; show _ = ?vb19; rfl
              · refine step_intro rfl rfl fun ρ X hc hf hgl hX hp ho => ?_
                change StepOk _ { dst := _, op := Op.binOp BinOp.xor 44 (Operand.tmp 91) (Operand.tmp 93) 44, type := _, pos := _, after := _, guard := _ } _ _ _
                have k91 : ρ (.tmp 91) = ?vb17 := hp 17 (by decide)
                have k93 : ρ (.tmp 93) = ?vb19 := hp 19 (by decide)
                clear hp ho
                refine StepOk.of_run (v := ?vb20) (w' := X) ?_ ⟨rfl, Below.refl _ _⟩
                clear hX
                go_simp
                all_goals try go_bits
                all_goals try simp only [IntWalk.iteOmega]
                all_goals try go_bits
                all_goals rfl
              · refine step_intro rfl rfl fun ρ X hc hf hgl hX hp ho => ?_
                change StepOk _ { dst := _, op := Op.move (Operand.tmp 9), type := _, pos := _, after := _, guard := _ } _ _ _
                have k9 : ρ (.tmp 9) = .int .u32 (wn x15) := ho 9 (by decide)
                clear hp ho
                refine StepOk.of_run (v := ?vb21) (w' := X) ?_ ⟨rfl, Below.refl _ _⟩
                clear hX
                go_simp
                all_goals try go_bits
                all_goals try simp only [IntWalk.iteOmega]
                all_goals try go_bits
                all_goals rfl
              · refine step_intro rfl rfl fun ρ X hc hf hgl hX hp ho => ?_
                change StepOk _ { dst := _, op := Op.binOp BinOp.shr 44 (Operand.tmp 95) (Operand.const (Value.int IntKind.u64 3)) 57, type := _, pos := _, after := _, guard := _ } _ _ _
                have k95 : ρ (.tmp 95) = ?vb21 := hp 21 (by decide)
                clear hp ho
                refine StepOk.of_run (v := ?vb22) (w' := X) ?_ ⟨rfl, Below.refl _ _⟩
                clear hX
                go_simp
                all_goals try go_bits
                all_goals try simp only [IntWalk.iteOmega]
                all_goals try go_bits
                all_goals rfl
              · refine step_intro rfl rfl fun ρ X hc hf hgl hX hp ho => ?_
                change StepOk _ { dst := _, op := Op.binOp BinOp.xor 44 (Operand.tmp 94) (Operand.tmp 96) 44, type := _, pos := _, after := _, guard := _ } _ _ _
                have k94 : ρ (.tmp 94) = ?vb20 := hp 20 (by decide)
                have k96 : ρ (.tmp 96) = ?vb22 := hp 22 (by decide)
                clear hp ho
                refine StepOk.of_run (v := ?vb23) (w' := X) ?_ ⟨rfl, Below.refl _ _⟩
                clear hX
                go_simp
                all_goals try go_bits
                all_goals try simp only [IntWalk.iteOmega]
                all_goals try go_bits
                all_goals rfl
              · refine step_intro rfl rfl fun ρ X hc hf hgl hX hp ho => ?_
                change StepOk _ { dst := _, op := Op.binOp BinOp.add 44 (Operand.tmp 89) (Operand.tmp 97) 44, type := _, pos := _, after := _, guard := _ } _ _ _
                have k89 : ρ (.tmp 89) = ?vb15 := hp 15 (by decide)
                have k97 : ρ (.tmp 97) = ?vb23 := hp 23 (by decide)
                clear hp ho
                refine StepOk.of_run (v := ?vb24) (w' := X) ?_ ⟨rfl, Below.refl _ _⟩
                clear hX
                go_simp
                all_goals try go_bits
                all_goals try simp only [IntWalk.iteOmega]
                all_goals try go_bits
                all_goals rfl
              · refine step_intro rfl rfl fun ρ X hc hf hgl hX hp ho => ?_
                change StepOk _ { dst := _, op := Op.move (Operand.tmp 5), type := _, pos := _, after := _, guard := _ } _ _ _
                have k5 : ρ (.tmp 5) = .slice (some ⟨w.heap.size, 0, none⟩) 64 64 := ho 5 (by decide)
                clear hp ho
                refine StepOk.of_run (v := ?vb25) (w' := X) ?_ ⟨rfl, Below.refl _ _⟩
                clear hX
                go_simp
                all_goals try go_bits
                all_goals try simp only [IntWalk.iteOmega]
                all_goals try go_bits
                all_goals rfl
              · refine step_intro rfl rfl fun ρ X hc hf hgl hX hp ho => ?_
                change StepOk _ { dst := _, op := Op.move (Operand.tmp 7), type := _, pos := _, after := _, guard := _ } _ _ _
                have k7 : ρ (.tmp 7) = .int .i64 (t : Int) := ho 7 (by decide)
                clear hp ho
                refine StepOk.of_run (v := ?vb26) (w' := X) ?_ ⟨rfl, Below.refl _ _⟩
                clear hX
                go_simp
                all_goals try go_bits
                all_goals try simp only [IntWalk.iteOmega]
                all_goals try go_bits
                all_goals rfl
              · refine step_intro rfl rfl fun ρ X hc hf hgl hX hp ho => ?_
                change StepOk _ { dst := _, op := Op.binOp BinOp.sub 3 (Operand.tmp 100) (Operand.const (Value.int IntKind.i64 16)) 3, type := _, pos := _, after := _, guard := _ } _ _ _
                have k100 : ρ (.tmp 100) = ?vb26 := hp 26 (by decide)
                clear hp ho
                refine StepOk.of_run (v := ?vb27) (w' := X) ?_ ⟨rfl, Below.refl _ _⟩
                clear hX
                go_simp
                all_goals try go_bits
                all_goals try simp only [IntWalk.iteOmega]
                all_goals try go_bits
                all_goals rfl
              · refine step_intro rfl rfl fun ρ X hc hf hgl hX hp ho => ?_
                change StepOk _ { dst := _, op := Op.indexAddr 45 (Operand.tmp 99) (Operand.tmp 101), type := _, pos := _, after := _, guard := _ } _ _ _
                have k99 : ρ (.tmp 99) = ?vb25 := hp 25 (by decide)
                have k101 : ρ (.tmp 101) = ?vb27 := hp 27 (by decide)
                clear hp ho
                refine StepOk.of_run (v := ?vb28) (w' := X) ?_ ⟨rfl, Below.refl _ _⟩
                clear hX
                go_simp
                all_goals try go_bits
                all_goals try simp only [IntWalk.iteOmega]
                all_goals try go_bits
                all_goals rfl
              · refine step_intro rfl rfl fun ρ X hc hf hgl hX hp ho => ?_
                change StepOk _ { dst := _, op := Op.load 44 (Operand.tmp 102), type := _, pos := _, after := _, guard := _ } _ _ _
                have k102 : ρ (.tmp 102) = ?vb28 := hp 28 (by decide)
                have c7XX := Grows.cell' hX c7X
                have c16XX := Grows.cell' hX c16X
                clear hp ho
                refine StepOk.of_run (v := ?vb29) (w' := X) ?_ ⟨rfl, Below.refl _ _⟩
                clear hX
                go_simp
                all_goals try go_bits
                all_goals try simp only [IntWalk.iteOmega]
                all_goals try go_bits
                all_goals rfl
              · refine step_intro rfl rfl fun ρ X hc hf hgl hX hp ho => ?_
                change StepOk _ { dst := _, op := Op.binOp BinOp.add 44 (Operand.tmp 98) (Operand.tmp 103) 44, type := _, pos := _, after := _, guard := _ } _ _ _
                have k98 : ρ (.tmp 98) = ?vb24 := hp 24 (by decide)
                have k103 : ρ (.tmp 103) = ?vb29 := hp 29 (by decide)
                clear hp ho
                refine StepOk.of_run (v := ?vb30) (w' := X) ?_ ⟨rfl, Below.refl _ _⟩
                clear hX
                go_simp
                all_goals try go_bits
                all_goals try simp only [IntWalk.iteOmega]
                all_goals try go_bits
                all_goals rfl
              · refine step_intro rfl rfl fun ρ X hc hf hgl hX hp ho => ?_
                change StepOk _ { dst := _, op := Op.indexAddr 45 (Operand.tmp 74) (Operand.tmp 75), type := _, pos := _, after := _, guard := _ } _ _ _
                have k74 : ρ (.tmp 74) = ?vb0 := hp 0 (by decide)
                have k75 : ρ (.tmp 75) = ?vb1 := hp 1 (by decide)
                clear hp ho
                refine StepOk.of_run (v := ?vb31) (w' := X) ?_ ⟨rfl, Below.refl _ _⟩
                clear hX
                go_simp
                all_goals try go_bits
                all_goals try simp only [IntWalk.iteOmega]
                all_goals try go_bits
                all_goals rfl
              · exact last_intro rfl
            case grdb => rfl
            case rstb =>
              intro a0 X hb
              have hfr := hb.frame ((74, ?vb0) :: (75, ?vb1) :: (76, ?vb2) :: (77, ?vb3) :: (78, ?vb4) :: (79, ?vb5) :: (80, ?vb6) :: (81, ?vb7) :: (82, ?vb8) :: (83, ?vb9) :: (84, ?vb10) :: (85, ?vb11) :: (86, ?vb12) :: (87, ?vb13) :: (88, ?vb14) :: (89, ?vb15) :: (90, ?vb16) :: (91, ?vb17) :: (92, ?vb18) :: (93, ?vb19) :: (94, ?vb20) :: (95, ?vb21) :: (96, ?vb22) :: (97, ?vb23) :: (98, ?vb24) :: (99, ?vb25) :: (100, ?vb26) :: (101, ?vb27) :: (102, ?vb28) :: (103, ?vb29) :: (104, ?vb30) :: (105, ?vb31) :: []) rfl ⟨hb.done' 0 74 rfl rfl, hb.done' 1 75 rfl rfl, hb.done' 2 76 rfl rfl, hb.done' 3 77 rfl rfl, hb.done' 4 78 rfl rfl, hb.done' 5 79 rfl rfl, hb.done' 6 80 rfl rfl, hb.done' 7 81 rfl rfl, hb.done' 8 82 rfl rfl, hb.done' 9 83 rfl rfl, hb.done' 10 84 rfl rfl, hb.done' 11 85 rfl rfl, hb.done' 12 86 rfl rfl, hb.done' 13 87 rfl rfl, hb.done' 14 88 rfl rfl, hb.done' 15 89 rfl rfl, hb.done' 16 90 rfl rfl, hb.done' 17 91 rfl rfl, hb.done' 18 92 rfl rfl, hb.done' 19 93 rfl rfl, hb.done' 20 94 rfl rfl, hb.done' 21 95 rfl rfl, hb.done' 22 96 rfl rfl, hb.done' 23 97 rfl rfl, hb.done' 24 98 rfl rfl, hb.done' 25 99 rfl rfl, hb.done' 26 100 rfl rfl, hb.done' 27 101 rfl rfl, hb.done' 28 102 rfl rfl, hb.done' 29 103 rfl rfl, hb.done' 30 104 rfl rfl, hb.done' 31 105 rfl rfl, trivial⟩
              simp only [updL, ↓reduceIte, Nat.reduceEqDiff, Nat.reduceAdd, Nat.zero_add] at hfr
              have HX := Lib.hid hb.ext
              clear hb
              subst hfr
              change StepOk _ { dst := none, op := Op.store 44 (Operand.tmp 105) (Operand.tmp 104), type := _, pos := _, after := _, guard := _ } _ _ _
              have cX := Grows.cell' HX.out (Grows.cell' HXa.out Cw.out)
              have fX : X.frozen? ⟨w.heap.size, t, none⟩ = false := (Below.frozen HX.out (p := ⟨w.heap.size, t, none⟩) (World.block_lt_of_cell? _ _ (Grows.cell' HXa.out Cw.out))).trans ((Below.frozen HXa.out (p := ⟨w.heap.size, t, none⟩) (World.block_lt_of_cell? _ _ Cw.out)).trans Fw.out)
              unfold StepOk
              simp [go_sem, execOp, cX, fX]
              clear cX fX
              go_wp2
              go_roundw
              case rel =>
                have hg3 := Grows.trans' HXa.out HX.out
                refine ⟨j + 1, t + 1, by have := Hj.out; omega, by have := Ht.out; omega, by simp, ?_, Below.setCell (p := ⟨w.heap.size, t, none⟩) (Grows.trans' HG.out hg3) (Nat.le_refl _) _⟩
                have h1 := ((Hown.out.grows1 hg3).stored t (wv (nextW (sched l j) t))).1
                rw [show 48 - j = (48 - (j + 1)) + 1 by have := Hj.out; omega, set_app_rep _ _ t _ (by rw [sched_length]; exact Ht.out), Hnx.out] at h1
                rw [show sched l (j + 1) = sched l j ++ [nextW (sched l j) t] by rw [sched, Ht.out], Hnx.out]
                exact h1
              case measure => have := Ht.out; have := Hj.out; simp [intOf]; omega
        · have hj48 : j = 48 := by omega
          rw [hj48] at hown
          have hwl : (sched l 48).length = 64 := sched_length l 48
          obtain ⟨ws, Hws⟩ : ∃ ws, Shut (sched l 48 = ws) := ⟨_, ⟨rfl⟩⟩
          rw [Hws.out] at hown hwl
          have hW : Hid (∀ i, i < 64 → wr.cell? ⟨w.heap.size, i, none⟩ = some (.int .u32 (wn (ws.getD i 0)))) := fun i hi => by
            rw [hown.cellAt i (by omega)]
            simp [hwl, hi, wv]
          have HHr : Hid (∀ i, i < 8 → wr.cell? ⟨gh, i, none⟩ = some (.int .u32 (wn (h.list.getD i 0)))) := fun i hi => hG.cell' (HH.out i hi)
          have HG := Lib.hid hG
          have hsz := hG.size
          have hnews : ∀ (j : Nat) (u : Value), (h.list.map wv)[j]? = some u → (wr.alloc (.cells #[] 44)).cell? (Addr.add ⟨gh, 0, none⟩ j) = some u := fun j u hu => by
            have hj8 : j < 8 := by simpa [R8.list] using (List.getElem?_eq_some_iff.1 hu).1
            rw [Addr.add_lit, Nat.zero_add, (Grows.alloc' wr _).cell' (HHr.out j hj8), ← hu]
            have h1 : j < h.list.length := hj8
            simp [h1, wv]
          have hone : ∀ u ∈ h.list.map wv, u.oneCell' = true := fun u hu => by
            obtain ⟨x, _, rfl⟩ := List.mem_map.1 hu
            rfl
          clear hown hj ht hG hj48 hwl
          go_wp2_with (at_builtin; refine wpList_append_own _ rfl _ _ 45 rfl w.heap.size 44 i0 (.int .u32 0) 1 4 Tryd.underlying45 hi hz0 hz1 hz2 rfl (by decide) _ 0 [] rfl (Own.empty 44 w.heap.size wr hsz) ⟨gh, 0, none⟩ 8 ch (h.list.map wv) rfl rfl hnews hone (by unfold maxLen; omega) (by omega) (by simp; omega) ?_; intro v1 w2 hv1 hg2 _)
          have hb2 : Below w.heap.size w w2 := Below.grown (HG.out.alloc hsz _) hg2 (by simp; omega) (fun j hj => (World.ownsRow.lt (Own.empty 44 w.heap.size wr hsz) j hj).1)
          have hg2' : Grows wr w2 := Below.grown ((Below.refl _ _).alloc (Nat.le_refl _) _) hg2 (by simp) (fun j hj => (World.ownsRow.lt (Own.empty 44 wr.heap.size wr (Nat.le_refl _)) j hj).1)
          obtain ⟨g1, c1, hv1e, hcv1⟩ := wds_row (l := h.list) (n := 8) (by simpa using hv1) rfl (by omega)
          subst hv1e
          refine (refK _).mono ?_
          rintro e w3 ⟨rfl, rfl⟩
          have hg3 : Grows w2 (w2.alloc (.cells (kK.map wv).toArray 44)) := Grows.alloc' _ _
          have hKc : ∀ i, i < 64 → (w2.alloc (.cells (kK.map wv).toArray 44)).cell? ⟨w2.heap.size, i, none⟩ = some (.int .u32 (wn (kK.getD i 0))) := fun i hi => by
            rw [World.cell?_alloc_at _ _ _ _ rfl]
            have h1 : i < kK.length := hi
            simp [h1, wv]
          obtain ⟨wk, hwk⟩ : ∃ wk, wk = w2.alloc (.cells (kK.map wv).toArray 44) := ⟨_, rfl⟩
          rw [← hwk] at hg3 hKc ⊢
          obtain ⟨gk, hgk⟩ : ∃ gk, gk = w2.heap.size := ⟨_, rfl⟩
          rw [← hgk] at hKc ⊢
          have Hw3 : Hid (Below w.heap.size w wk) := Below.trans hb2 (Below.mono hg3 hb2.size)
          have HK3 := Lib.hid hKc
          have HW3 : Hid (∀ i, i < 64 → wk.cell? ⟨w.heap.size, i, none⟩ = some (.int .u32 (wn (ws.getD i 0)))) := fun i hi => hg3.cell' (hg2'.cell' (hW.out i hi))
          have HH3 : Hid (∀ i, i < 8 → wk.cell? ⟨gh, i, none⟩ = some (.int .u32 (wn (h.list.getD i 0)))) := fun i hi => hg3.cell' (hg2'.cell' (HHr.out i hi))
          have HV3 : Hid (∀ i, i < 8 → wk.cell? ⟨g1, i, none⟩ = some (.int .u32 (wn (h.list.getD i 0)))) := fun i hi => hg3.cell' (hcv1 i hi)
          clear hwk hgk hg3 hKc hb2 hg2' hcv1 hv1 hnews hone hW HHr hg2
          show _
          go_wp2
          go_loopw [10, 12] (fun t10 t12 wr => ∃ (tt g c : Nat), tt ≤ 64 ∧ t12 = .int .i64 tt ∧ t10 = .slice (some ⟨g, 0, none⟩) 8 c ∧ (∀ i, i < 8 → wr.cell? ⟨g, i, none⟩ = some (.int .u32 (wn ((rounds h ws tt).list.getD i 0)))) ∧ Grows wk wr)
            (fun _ t12 _ => 64 - (intOf t12).toNat)
          case atStart => exact ⟨0, g1, c1, by omega, rfl, rfl, HV3.out, Below.refl _ _⟩
          case round =>
            obtain ⟨tt, g, c, htt, rfl, rfl, hv, hGk⟩ := hrel
            by_cases hlt : tt < 64
            · have cw := hGk.cell' (HW3.out tt hlt)
              have ck := hGk.cell' (HK3.out tt hlt)
              have btt : ¬ 64 ≤ (tt : Int) := by omega
              obtain ⟨s, Hs⟩ : ∃ s, Hid (rounds h ws tt = s) := ⟨_, rfl⟩
              rw [Hs.out] at hv
              have v0 : wr.cell? ⟨g, 0, none⟩ = some (.int .u32 (wn s.a)) := hv 0 (by omega)
              have v1 : wr.cell? ⟨g, 1, none⟩ = some (.int .u32 (wn s.b)) := hv 1 (by omega)
              have v2 : wr.cell? ⟨g, 2, none⟩ = some (.int .u32 (wn s.c)) := hv 2 (by omega)
              have v3 : wr.cell? ⟨g, 3, none⟩ = some (.int .u32 (wn s.d)) := hv 3 (by omega)
              have v4 : wr.cell? ⟨g, 4, none⟩ = some (.int .u32 (wn s.e)) := hv 4 (by omega)
              have v5 : wr.cell? ⟨g, 5, none⟩ = some (.int .u32 (wn s.f)) := hv 5 (by omega)
              have v6 : wr.cell? ⟨g, 6, none⟩ = some (.int .u32 (wn s.g)) := hv 6 (by omega)
              have v7 : wr.cell? ⟨g, 7, none⟩ = some (.int .u32 (wn s.h)) := hv 7 (by omega)
              obtain ⟨kt, Hkt⟩ : ∃ x, Hid (kK.getD tt 0 = x) := ⟨_, rfl⟩
              obtain ⟨wt, Hwt⟩ : ∃ x, Hid (ws.getD tt 0 = x) := ⟨_, rfl⟩
              rw [Hkt.out] at ck
              rw [Hwt.out] at cw
              have HGk := Lib.hid hGk
              have Htt := Lib.hid hlt
              clear hv hGk hlt htt
              have hus := u32_unsigned
              go_wp2
              refine specs_region
                #[[], [0], [0, 1], [], [3], [3, 4], [0, 1, 2], [0, 1, 2, 3, 4, 5, 6]] #[[10], [], [], [10], [], [], [], []] #[true, true, true, true, true, true, true, true]
                ((.val ?vc0) :: (.val ?vc1) :: (.val ?vc2) :: (.val ?vc3) :: (.val ?vc4) :: (.val ?vc5) :: (.val ?vc6) :: (.val ?vc7) :: []).toArray
                hmx ?chkc ?grdc ?stpc ?rstc
              case chkc => rfl
              case stpc =>
                refine ⟨?_, ?_, ?_, ?_, ?_, ?_, ?_, ?_, trivial⟩
                · refine step_intro rfl rfl fun ρ X hc hf hgl hX hp ho => ?_
                  change StepOk _ { dst := _, op := Op.move (Operand.tmp 10), type := _, pos := _, after := _, guard := _ } _ _ _
                  have k10 : ρ (.tmp 10) = .slice (some ⟨g, 0, none⟩) 8 c := ho 10 (by decide)
                  clear hp ho
                  refine StepOk.of_run (v := ?vc0) (w' := X) ?_ ⟨rfl, Below.refl _ _⟩
                  clear hX
                  go_simp
                  all_goals try go_bits
                  all_goals try simp only [IntWalk.iteOmega]
                  all_goals try go_bits
                  all_goals rfl
                · refine step_intro rfl rfl fun ρ X hc hf hgl hX hp ho => ?_
                  change StepOk _ { dst := _, op := Op.indexAddr 45 (Operand.tmp 114) (Operand.const (Value.int IntKind.i64 0)), type := _, pos := _, after := _, guard := _ } _ _ _
                  have k114 : ρ (.tmp 114) = ?vc0 := hp 0 (by decide)
                  clear hp ho
                  refine StepOk.of_run (v := ?vc1) (w' := X) ?_ ⟨rfl, Below.refl _ _⟩
                  clear hX
                  go_simp
                  all_goals try go_bits
                  all_goals try simp only [IntWalk.iteOmega]
                  all_goals try go_bits
                  all_goals rfl
                · refine step_intro rfl rfl fun ρ X hc hf hgl hX hp ho => ?_
                  change StepOk _ { dst := _, op := Op.load 44 (Operand.tmp 115), type := _, pos := _, after := _, guard := _ } _ _ _
                  have k115 : ρ (.tmp 115) = ?vc1 := hp 1 (by decide)
                  have v0X := Grows.cell' hX v0
                  have v4X := Grows.cell' hX v4
                  clear hp ho
                  refine StepOk.of_run (v := ?vc2) (w' := X) ?_ ⟨rfl, Below.refl _ _⟩
                  clear hX
                  go_simp
                  all_goals try go_bits
                  all_goals try simp only [IntWalk.iteOmega]
                  all_goals try go_bits
                  all_goals rfl
                · refine step_intro rfl rfl fun ρ X hc hf hgl hX hp ho => ?_
                  change StepOk _ { dst := _, op := Op.move (Operand.tmp 10), type := _, pos := _, after := _, guard := _ } _ _ _
                  have k10 : ρ (.tmp 10) = .slice (some ⟨g, 0, none⟩) 8 c := ho 10 (by decide)
                  clear hp ho
                  refine StepOk.of_run (v := ?vc3) (w' := X) ?_ ⟨rfl, Below.refl _ _⟩
                  clear hX
                  go_simp
                  all_goals try go_bits
                  all_goals try simp only [IntWalk.iteOmega]
                  all_goals try go_bits
                  all_goals rfl
                · refine step_intro rfl rfl fun ρ X hc hf hgl hX hp ho => ?_
                  change StepOk _ { dst := _, op := Op.indexAddr 45 (Operand.tmp 117) (Operand.const (Value.int IntKind.i64 4)), type := _, pos := _, after := _, guard := _ } _ _ _
                  have k117 : ρ (.tmp 117) = ?vc3 := hp 3 (by decide)
                  clear hp ho
                  refine StepOk.of_run (v := ?vc4) (w' := X) ?_ ⟨rfl, Below.refl _ _⟩
                  clear hX
                  go_simp
                  all_goals try go_bits
                  all_goals try simp only [IntWalk.iteOmega]
                  all_goals try go_bits
                  all_goals rfl
                · refine step_intro rfl rfl fun ρ X hc hf hgl hX hp ho => ?_
                  change StepOk _ { dst := _, op := Op.load 44 (Operand.tmp 118), type := _, pos := _, after := _, guard := _ } _ _ _
                  have k118 : ρ (.tmp 118) = ?vc4 := hp 4 (by decide)
                  have v0X := Grows.cell' hX v0
                  have v4X := Grows.cell' hX v4
                  clear hp ho
                  refine StepOk.of_run (v := ?vc5) (w' := X) ?_ ⟨rfl, Below.refl _ _⟩
                  clear hX
                  go_simp
                  all_goals try go_bits
                  all_goals try simp only [IntWalk.iteOmega]
                  all_goals try go_bits
                  all_goals rfl
                · refine step_intro rfl rfl fun ρ X hc hf hgl hX hp ho => ?_
                  change StepOk _ { dst := _, op := Op.assign (Operand.tmp 116), type := _, pos := _, after := _, guard := _ } _ _ _
                  have k116 : ρ (.tmp 116) = ?vc2 := hp 2 (by decide)
                  clear hp ho
                  refine StepOk.of_run (v := ?vc6) (w' := X) ?_ ⟨rfl, Below.refl _ _⟩
                  clear hX
                  go_simp
                  all_goals try go_bits
                  all_goals try simp only [IntWalk.iteOmega]
                  all_goals try go_bits
                  all_goals rfl
                · refine step_intro rfl rfl fun ρ X hc hf hgl hX hp ho => ?_
                  change StepOk _ { dst := _, op := Op.assign (Operand.tmp 119), type := _, pos := _, after := _, guard := _ } _ _ _
                  have k119 : ρ (.tmp 119) = ?vc5 := hp 5 (by decide)
                  clear hp ho
                  refine StepOk.of_run (v := ?vc7) (w' := X) ?_ ⟨rfl, Below.refl _ _⟩
                  clear hX
                  go_simp
                  all_goals try go_bits
                  all_goals try simp only [IntWalk.iteOmega]
                  all_goals try go_bits
                  all_goals rfl
              case grdc => rfl
              case rstc =>
                intro a0 X hb
                have hfr := hb.frame ((13, ?vc6) :: (14, ?vc7) :: (114, ?vc0) :: (115, ?vc1) :: (116, ?vc2) :: (117, ?vc3) :: (118, ?vc4) :: (119, ?vc5) :: []) rfl ⟨hb.done' 6 13 rfl rfl, hb.done' 7 14 rfl rfl, hb.done' 0 114 rfl rfl, hb.done' 1 115 rfl rfl, hb.done' 2 116 rfl rfl, hb.done' 3 117 rfl rfl, hb.done' 4 118 rfl rfl, hb.done' 5 119 rfl rfl, trivial⟩
                simp only [updL, ↓reduceIte, Nat.reduceEqDiff, Nat.reduceAdd, Nat.zero_add] at hfr
                have HX := Lib.hid hb.ext
                clear hb
                subst hfr
                have HX16 := HX
                have v0A := Grows.cell' HX.out v0
                have v1A := Grows.cell' HX.out v1
                have v2A := Grows.cell' HX.out v2
                have v3A := Grows.cell' HX.out v3
                have v4A := Grows.cell' HX.out v4
                have v5A := Grows.cell' HX.out v5
                have v6A := Grows.cell' HX.out v6
                have v7A := Grows.cell' HX.out v7
                have ckA := Grows.cell' HX.out ck
                have cwA := Grows.cell' HX.out cw
                clear v0 v1 v2 v3 v4 v5 v6 v7 ck cw
                go_wp2
                refine specs_region
                  #[[], [0], [0, 1], [], [3], [], [3, 4, 5], [3, 4, 5, 6], [], [3, 4, 5, 6, 8], [3, 4, 5, 6, 7, 8, 9], [0, 1, 2, 3, 4, 5, 6, 7, 8, 9, 10], [], [], [13], [13, 14], [12, 13, 14, 15], [], [17], [], [19], [19, 20], [17, 18, 19, 20, 21], [12, 13, 14, 15, 16, 17, 18, 19, 20, 21, 22], [0, 1, 2, 3, 4, 5, 6, 7, 8, 9, 10, 11, 12, 13, 14, 15, 16, 17, 18, 19, 20, 21, 22, 23], [], [], [25, 26], [25, 26, 27], [0, 1, 2, 3, 4, 5, 6, 7, 8, 9, 10, 11, 12, 13, 14, 15, 16, 17, 18, 19, 20, 21, 22, 23, 24, 25, 26, 27, 28], [], [], [30, 31], [30, 31, 32], [0, 1, 2, 3, 4, 5, 6, 7, 8, 9, 10, 11, 12, 13, 14, 15, 16, 17, 18, 19, 20, 21, 22, 23, 24, 25, 26, 27, 28, 29, 30, 31, 32, 33], [0, 1, 2, 3, 4, 5, 6, 7, 8, 9, 10, 11, 12, 13, 14, 15, 16, 17, 18, 19, 20, 21, 22, 23, 24, 25, 26, 27, 28, 29, 30, 31, 32, 33, 34]] #[[10], [], [], [14], [], [14], [], [], [14], [], [], [], [14], [10], [], [], [], [14], [], [10], [], [], [], [], [], [11], [12], [], [], [], [5], [12], [], [], [], []] #[true, true, true, true, true, true, true, true, true, true, true, true, true, true, true, true, true, true, true, true, true, true, true, true, true, true, true, true, true, true, true, true, true, true, true, true]
                  ((.val ?vd0) :: (.val ?vd1) :: (.val ?vd2) :: (.val ?vd3) :: (.val ?vd4) :: (.val ?vd5) :: (.val ?vd6) :: (.val ?vd7) :: (.val ?vd8) :: (.val ?vd9) :: (.val ?vd10) :: (.val ?vd11) :: (.val ?vd12) :: (.val ?vd13) :: (.val ?vd14) :: (.val ?vd15) :: (.val ?vd16) :: (.val ?vd17) :: (.val ?vd18) :: (.val ?vd19) :: (.val ?vd20) :: (.val ?vd21) :: (.val ?vd22) :: (.val ?vd23) :: (.val ?vd24) :: (.val ?vd25) :: (.val ?vd26) :: (.val ?vd27) :: (.val ?vd28) :: (.val ?vd29) :: (.val ?vd30) :: (.val ?vd31) :: (.val ?vd32) :: (.val ?vd33) :: (.val ?vd34) :: (.val ?vd35) :: []).toArray
                  hmx ?chkd ?grdd ?stpd ?rstd
                case chkd => rfl
                case stpd =>
                  refine ⟨?_, ?_, ?_, ?_, ?_, ?_, ?_, ?_, ?_, ?_, ?_, ?_, ?_, ?_, ?_, ?_, ?_, ?_, ?_, ?_, ?_, ?_, ?_, ?_, ?_, ?_, ?_, ?_, ?_, ?_, ?_, ?_, ?_, ?_, ?_, ?_, trivial⟩
                  · refine step_intro rfl rfl fun ρ X hc hf hgl hX hp ho => ?_
                    change StepOk _ { dst := _, op := Op.move (Operand.tmp 10), type := _, pos := _, after := _, guard := _ } _ _ _
                    have k10 : ρ (.tmp 10) = .slice (some ⟨g, 0, none⟩) 8 c := ho 10 (by decide)
                    clear hp ho
                    refine StepOk.of_run (v := ?vd0) (w' := X) ?_ ⟨rfl, Below.refl _ _⟩
                    clear hX
                    go_simp
                    all_goals try go_bits
                    all_goals try simp only [IntWalk.iteOmega]
                    all_goals try go_bits
                    all_goals rfl
                  · refine step_intro rfl rfl fun ρ X hc hf hgl hX hp ho => ?_
                    change StepOk _ { dst := _, op := Op.indexAddr 45 (Operand.tmp 120) (Operand.const (Value.int IntKind.i64 7)), type := _, pos := _, after := _, guard := _ } _ _ _
                    have k120 : ρ (.tmp 120) = ?vd0 := hp 0 (by decide)
                    clear hp ho
                    refine StepOk.of_run (v := ?vd1) (w' := X) ?_ ⟨rfl, Below.refl _ _⟩
                    clear hX
                    go_simp
                    all_goals try go_bits
                    all_goals try simp only [IntWalk.iteOmega]
                    all_goals try go_bits
                    all_goals rfl
                  · refine step_intro rfl rfl fun ρ X hc hf hgl hX hp ho => ?_
                    change StepOk _ { dst := _, op := Op.load 44 (Operand.tmp 121), type := _, pos := _, after := _, guard := _ } _ _ _
                    have k121 : ρ (.tmp 121) = ?vd1 := hp 1 (by decide)
                    have v5AX := Grows.cell' hX v5A
                    have v6AX := Grows.cell' hX v6A
                    have v7AX := Grows.cell' hX v7A
                    have ckAX := Grows.cell' hX ckA
                    have cwAX := Grows.cell' hX cwA
                    clear hp ho
                    refine StepOk.of_run (v := ?vd2) (w' := X) ?_ ⟨rfl, Below.refl _ _⟩
                    clear hX
                    go_simp
                    all_goals try go_bits
                    all_goals try simp only [IntWalk.iteOmega]
                    all_goals try go_bits
                    all_goals rfl
                  · refine step_intro rfl rfl fun ρ X hc hf hgl hX hp ho => ?_
                    change StepOk _ { dst := _, op := Op.move (Operand.tmp 14), type := _, pos := _, after := _, guard := _ } _ _ _
                    have k14 : ρ (.tmp 14) = .int .u32 (wn s.e) := ho 14 (by decide)
                    clear hp ho
                    refine StepOk.of_run (v := ?vd3) (w' := X) ?_ ⟨rfl, Below.refl _ _⟩
                    clear hX
                    go_simp
                    all_goals try go_bits
                    all_goals try simp only [IntWalk.iteOmega]
                    all_goals try go_bits
                    all_goals rfl
                  · refine step_intro rfl rfl fun ρ X hc hf hgl hX hp ho => ?_
                    change StepOk _ { dst := _, op := Op.call { callee := Callee.value (Operand.func 27), args := #[Operand.tmp 123, Operand.const (Value.int IntKind.i64 6)], argTypes := #[44, 3] }, type := _, pos := _, after := _, guard := _ } _ _ _
                    have k123 : ρ (.tmp 123) = ?vd3 := hp 3 (by decide)
                    clear hp ho
                    refine StepOk.of_call (f := 27) (args := #[?vd3, .int .i64 6]) (w' := X) ?_ (refTurn _ 6 (by decide) (by decide) _) ?_
                    · go_simp
                      all_goals try go_bits
                      all_goals try rfl
                    · rintro e w'' ⟨rfl, rfl⟩; refine ⟨_, rfl, ?_, (Below.refl _ _).drew⟩; show _ = ?vd4; rfl
                  · refine step_intro rfl rfl fun ρ X hc hf hgl hX hp ho => ?_
                    change StepOk _ { dst := _, op := Op.move (Operand.tmp 14), type := _, pos := _, after := _, guard := _ } _ _ _
                    have k14 : ρ (.tmp 14) = .int .u32 (wn s.e) := ho 14 (by decide)
                    clear hp ho
                    refine StepOk.of_run (v := ?vd5) (w' := X) ?_ ⟨rfl, Below.refl _ _⟩
                    clear hX
                    go_simp
                    all_goals try go_bits
                    all_goals try simp only [IntWalk.iteOmega]
                    all_goals try go_bits
                    all_goals rfl
                  · refine step_intro rfl rfl fun ρ X hc hf hgl hX hp ho => ?_
                    change StepOk _ { dst := _, op := Op.call { callee := Callee.value (Operand.func 27), args := #[Operand.tmp 125, Operand.const (Value.int IntKind.i64 11)], argTypes := #[44, 3] }, type := _, pos := _, after := _, guard := _ } _ _ _
                    have k125 : ρ (.tmp 125) = ?vd5 := hp 5 (by decide)
                    clear hp ho
                    refine StepOk.of_call (f := 27) (args := #[?vd5, .int .i64 11]) (w' := X) ?_ (refTurn _ 11 (by decide) (by decide) _) ?_
                    · go_simp
                      all_goals try go_bits
                      all_goals try rfl
                    · rintro e w'' ⟨rfl, rfl⟩; refine ⟨_, rfl, ?_, (Below.refl _ _).drew⟩; show _ = ?vd6; rfl
                  · refine step_intro rfl rfl fun ρ X hc hf hgl hX hp ho => ?_
                    change StepOk _ { dst := _, op := Op.binOp BinOp.xor 44 (Operand.tmp 124) (Operand.tmp 126) 44, type := _, pos := _, after := _, guard := _ } _ _ _
                    have k124 : ρ (.tmp 124) = ?vd4 := hp 4 (by decide)
                    have k126 : ρ (.tmp 126) = ?vd6 := hp 6 (by decide)
                    clear hp ho
                    refine StepOk.of_run (v := ?vd7) (w' := X) ?_ ⟨rfl, Below.refl _ _⟩
                    clear hX
                    go_simp
                    all_goals try go_bits
                    all_goals try simp only [IntWalk.iteOmega]
                    all_goals try go_bits
                    all_goals rfl
                  · refine step_intro rfl rfl fun ρ X hc hf hgl hX hp ho => ?_
                    change StepOk _ { dst := _, op := Op.move (Operand.tmp 14), type := _, pos := _, after := _, guard := _ } _ _ _
                    have k14 : ρ (.tmp 14) = .int .u32 (wn s.e) := ho 14 (by decide)
                    clear hp ho
                    refine StepOk.of_run (v := ?vd8) (w' := X) ?_ ⟨rfl, Below.refl _ _⟩
                    clear hX
                    go_simp
                    all_goals try go_bits
                    all_goals try simp only [IntWalk.iteOmega]
                    all_goals try go_bits
                    all_goals rfl
                  · refine step_intro rfl rfl fun ρ X hc hf hgl hX hp ho => ?_
                    change StepOk _ { dst := _, op := Op.call { callee := Callee.value (Operand.func 27), args := #[Operand.tmp 128, Operand.const (Value.int IntKind.i64 25)], argTypes := #[44, 3] }, type := _, pos := _, after := _, guard := _ } _ _ _
                    have k128 : ρ (.tmp 128) = ?vd8 := hp 8 (by decide)
                    clear hp ho
                    refine StepOk.of_call (f := 27) (args := #[?vd8, .int .i64 25]) (w' := X) ?_ (refTurn _ 25 (by decide) (by decide) _) ?_
                    · go_simp
                      all_goals try go_bits
                      all_goals try rfl
                    · rintro e w'' ⟨rfl, rfl⟩; refine ⟨_, rfl, ?_, (Below.refl _ _).drew⟩; show _ = ?vd9; rfl
                  · refine step_intro rfl rfl fun ρ X hc hf hgl hX hp ho => ?_
                    change StepOk _ { dst := _, op := Op.binOp BinOp.xor 44 (Operand.tmp 127) (Operand.tmp 129) 44, type := _, pos := _, after := _, guard := _ } _ _ _
                    have k127 : ρ (.tmp 127) = ?vd7 := hp 7 (by decide)
                    have k129 : ρ (.tmp 129) = ?vd9 := hp 9 (by decide)
                    clear hp ho
                    refine StepOk.of_run (v := ?vd10) (w' := X) ?_ ⟨rfl, Below.refl _ _⟩
                    clear hX
                    go_simp
                    all_goals try go_bits
                    all_goals try simp only [IntWalk.iteOmega]
                    all_goals try go_bits
                    all_goals rfl
                  · refine step_intro rfl rfl fun ρ X hc hf hgl hX hp ho => ?_
                    change StepOk _ { dst := _, op := Op.binOp BinOp.add 44 (Operand.tmp 122) (Operand.tmp 130) 44, type := _, pos := _, after := _, guard := _ } _ _ _
                    have k122 : ρ (.tmp 122) = ?vd2 := hp 2 (by decide)
                    have k130 : ρ (.tmp 130) = ?vd10 := hp 10 (by decide)
                    clear hp ho
                    refine StepOk.of_run (v := ?vd11) (w' := X) ?_ ⟨rfl, Below.refl _ _⟩
                    clear hX
                    go_simp
                    all_goals try go_bits
                    all_goals try simp only [IntWalk.iteOmega]
                    all_goals try go_bits
                    all_goals rfl
                  · refine step_intro rfl rfl fun ρ X hc hf hgl hX hp ho => ?_
                    change StepOk _ { dst := _, op := Op.move (Operand.tmp 14), type := _, pos := _, after := _, guard := _ } _ _ _
                    have k14 : ρ (.tmp 14) = .int .u32 (wn s.e) := ho 14 (by decide)
                    clear hp ho
                    refine StepOk.of_run (v := ?vd12) (w' := X) ?_ ⟨rfl, Below.refl _ _⟩
                    clear hX
                    go_simp
                    all_goals try go_bits
                    all_goals try simp only [IntWalk.iteOmega]
                    all_goals try go_bits
                    all_goals rfl
                  · refine step_intro rfl rfl fun ρ X hc hf hgl hX hp ho => ?_
                    change StepOk _ { dst := _, op := Op.move (Operand.tmp 10), type := _, pos := _, after := _, guard := _ } _ _ _
                    have k10 : ρ (.tmp 10) = .slice (some ⟨g, 0, none⟩) 8 c := ho 10 (by decide)
                    clear hp ho
                    refine StepOk.of_run (v := ?vd13) (w' := X) ?_ ⟨rfl, Below.refl _ _⟩
                    clear hX
                    go_simp
                    all_goals try go_bits
                    all_goals try simp only [IntWalk.iteOmega]
                    all_goals try go_bits
                    all_goals rfl
                  · refine step_intro rfl rfl fun ρ X hc hf hgl hX hp ho => ?_
                    change StepOk _ { dst := _, op := Op.indexAddr 45 (Operand.tmp 133) (Operand.const (Value.int IntKind.i64 5)), type := _, pos := _, after := _, guard := _ } _ _ _
                    have k133 : ρ (.tmp 133) = ?vd13 := hp 13 (by decide)
                    clear hp ho
                    refine StepOk.of_run (v := ?vd14) (w' := X) ?_ ⟨rfl, Below.refl _ _⟩
                    clear hX
                    go_simp
                    all_goals try go_bits
                    all_goals try simp only [IntWalk.iteOmega]
                    all_goals try go_bits
                    all_goals rfl
                  · refine step_intro rfl rfl fun ρ X hc hf hgl hX hp ho => ?_
                    change StepOk _ { dst := _, op := Op.load 44 (Operand.tmp 134), type := _, pos := _, after := _, guard := _ } _ _ _
                    have k134 : ρ (.tmp 134) = ?vd14 := hp 14 (by decide)
                    have v5AX := Grows.cell' hX v5A
                    have v6AX := Grows.cell' hX v6A
                    have v7AX := Grows.cell' hX v7A
                    have ckAX := Grows.cell' hX ckA
                    have cwAX := Grows.cell' hX cwA
                    clear hp ho
                    refine StepOk.of_run (v := ?vd15) (w' := X) ?_ ⟨rfl, Below.refl _ _⟩
                    clear hX
                    go_simp
                    all_goals try go_bits
                    all_goals try simp only [IntWalk.iteOmega]
                    all_goals try go_bits
                    all_goals rfl
                  · refine step_intro rfl rfl fun ρ X hc hf hgl hX hp ho => ?_
                    change StepOk _ { dst := _, op := Op.binOp BinOp.and 44 (Operand.tmp 132) (Operand.tmp 135) 44, type := _, pos := _, after := _, guard := _ } _ _ _
                    have k132 : ρ (.tmp 132) = ?vd12 := hp 12 (by decide)
                    have k135 : ρ (.tmp 135) = ?vd15 := hp 15 (by decide)
                    clear hp ho
                    refine StepOk.of_run (v := ?vd16) (w' := X) ?_ ⟨rfl, Below.refl _ _⟩
                    clear hX
                    go_simp
                    all_goals try go_bits
                    all_goals try simp only [IntWalk.iteOmega]
                    all_goals try go_bits
                    all_goals rfl
                  · refine step_intro rfl rfl fun ρ X hc hf hgl hX hp ho => ?_
                    change StepOk _ { dst := _, op := Op.move (Operand.tmp 14), type := _, pos := _, after := _, guard := _ } _ _ _
                    have k14 : ρ (.tmp 14) = .int .u32 (wn s.e) := ho 14 (by decide)
                    clear hp ho
                    refine StepOk.of_run (v := ?vd17) (w' := X) ?_ ⟨rfl, Below.refl _ _⟩
                    clear hX
                    go_simp
                    all_goals try go_bits
                    all_goals try simp only [IntWalk.iteOmega]
                    all_goals try go_bits
                    all_goals rfl
                  · refine step_intro rfl rfl fun ρ X hc hf hgl hX hp ho => ?_
                    change StepOk _ { dst := _, op := Op.unOp UnOp.xor 44 (Operand.tmp 137), type := _, pos := _, after := _, guard := _ } _ _ _
                    have k137 : ρ (.tmp 137) = ?vd17 := hp 17 (by decide)
                    clear hp ho
                    refine StepOk.of_run (v := ?vd18) (w' := X) ?_ ⟨rfl, Below.refl _ _⟩
                    clear hX
                    go_simp
                    all_goals try go_bits
                    all_goals try simp only [IntWalk.iteOmega]
                    all_goals try go_bits
                    all_goals rfl
                  · refine step_intro rfl rfl fun ρ X hc hf hgl hX hp ho => ?_
                    change StepOk _ { dst := _, op := Op.move (Operand.tmp 10), type := _, pos := _, after := _, guard := _ } _ _ _
                    have k10 : ρ (.tmp 10) = .slice (some ⟨g, 0, none⟩) 8 c := ho 10 (by decide)
                    clear hp ho
                    refine StepOk.of_run (v := ?vd19) (w' := X) ?_ ⟨rfl, Below.refl _ _⟩
                    clear hX
                    go_simp
                    all_goals try go_bits
                    all_goals try simp only [IntWalk.iteOmega]
                    all_goals try go_bits
                    all_goals rfl
                  · refine step_intro rfl rfl fun ρ X hc hf hgl hX hp ho => ?_
                    change StepOk _ { dst := _, op := Op.indexAddr 45 (Operand.tmp 139) (Operand.const (Value.int IntKind.i64 6)), type := _, pos := _, after := _, guard := _ } _ _ _
                    have k139 : ρ (.tmp 139) = ?vd19 := hp 19 (by decide)
                    clear hp ho
                    refine StepOk.of_run (v := ?vd20) (w' := X) ?_ ⟨rfl, Below.refl _ _⟩
                    clear hX
                    go_simp
                    all_goals try go_bits
                    all_goals try simp only [IntWalk.iteOmega]
                    all_goals try go_bits
                    all_goals rfl
                  · refine step_intro rfl rfl fun ρ X hc hf hgl hX hp ho => ?_
                    change StepOk _ { dst := _, op := Op.load 44 (Operand.tmp 140), type := _, pos := _, after := _, guard := _ } _ _ _
                    have k140 : ρ (.tmp 140) = ?vd20 := hp 20 (by decide)
                    have v5AX := Grows.cell' hX v5A
                    have v6AX := Grows.cell' hX v6A
                    have v7AX := Grows.cell' hX v7A
                    have ckAX := Grows.cell' hX ckA
                    have cwAX := Grows.cell' hX cwA
                    clear hp ho
                    refine StepOk.of_run (v := ?vd21) (w' := X) ?_ ⟨rfl, Below.refl _ _⟩
                    clear hX
                    go_simp
                    all_goals try go_bits
                    all_goals try simp only [IntWalk.iteOmega]
                    all_goals try go_bits
                    all_goals rfl
                  · refine step_intro rfl rfl fun ρ X hc hf hgl hX hp ho => ?_
                    change StepOk _ { dst := _, op := Op.binOp BinOp.and 44 (Operand.tmp 138) (Operand.tmp 141) 44, type := _, pos := _, after := _, guard := _ } _ _ _
                    have k138 : ρ (.tmp 138) = ?vd18 := hp 18 (by decide)
                    have k141 : ρ (.tmp 141) = ?vd21 := hp 21 (by decide)
                    clear hp ho
                    refine StepOk.of_run (v := ?vd22) (w' := X) ?_ ⟨rfl, Below.refl _ _⟩
                    clear hX
                    go_simp
                    all_goals try go_bits
                    all_goals try simp only [IntWalk.iteOmega]
                    all_goals try go_bits
                    all_goals rfl
                  · refine step_intro rfl rfl fun ρ X hc hf hgl hX hp ho => ?_
                    change StepOk _ { dst := _, op := Op.binOp BinOp.xor 44 (Operand.tmp 136) (Operand.tmp 142) 44, type := _, pos := _, after := _, guard := _ } _ _ _
                    have k136 : ρ (.tmp 136) = ?vd16 := hp 16 (by decide)
                    have k142 : ρ (.tmp 142) = ?vd22 := hp 22 (by decide)
                    clear hp ho
                    refine StepOk.of_run (v := ?vd23) (w' := X) ?_ ⟨rfl, Below.refl _ _⟩
                    clear hX
                    go_simp
                    all_goals try go_bits
                    all_goals try simp only [IntWalk.iteOmega]
                    all_goals try go_bits
                    all_goals rfl
                  · refine step_intro rfl rfl fun ρ X hc hf hgl hX hp ho => ?_
                    change StepOk _ { dst := _, op := Op.binOp BinOp.add 44 (Operand.tmp 131) (Operand.tmp 143) 44, type := _, pos := _, after := _, guard := _ } _ _ _
                    have k131 : ρ (.tmp 131) = ?vd11 := hp 11 (by decide)
                    have k143 : ρ (.tmp 143) = ?vd23 := hp 23 (by decide)
                    clear hp ho
                    refine StepOk.of_run (v := ?vd24) (w' := X) ?_ ⟨rfl, Below.refl _ _⟩
                    clear hX
                    go_simp
                    all_goals try go_bits
                    all_goals try simp only [IntWalk.iteOmega]
                    all_goals try go_bits
                    all_goals rfl
                  · refine step_intro rfl rfl fun ρ X hc hf hgl hX hp ho => ?_
                    change StepOk _ { dst := _, op := Op.move (Operand.tmp 11), type := _, pos := _, after := _, guard := _ } _ _ _
                    have k11 : ρ (.tmp 11) = .slice (some ⟨gk, 0, none⟩) 64 64 := ho 11 (by decide)
                    clear hp ho
                    refine StepOk.of_run (v := ?vd25) (w' := X) ?_ ⟨rfl, Below.refl _ _⟩
                    clear hX
                    go_simp
                    all_goals try go_bits
                    all_goals try simp only [IntWalk.iteOmega]
                    all_goals try go_bits
                    all_goals rfl
                  · refine step_intro rfl rfl fun ρ X hc hf hgl hX hp ho => ?_
                    change StepOk _ { dst := _, op := Op.move (Operand.tmp 12), type := _, pos := _, after := _, guard := _ } _ _ _
                    have k12 : ρ (.tmp 12) = .int .i64 (tt : Int) := ho 12 (by decide)
                    clear hp ho
                    refine StepOk.of_run (v := ?vd26) (w' := X) ?_ ⟨rfl, Below.refl _ _⟩
                    clear hX
                    go_simp
                    all_goals try go_bits
                    all_goals try simp only [IntWalk.iteOmega]
                    all_goals try go_bits
                    all_goals rfl
                  · refine step_intro rfl rfl fun ρ X hc hf hgl hX hp ho => ?_
                    change StepOk _ { dst := _, op := Op.indexAddr 45 (Operand.tmp 145) (Operand.tmp 146), type := _, pos := _, after := _, guard := _ } _ _ _
                    have k145 : ρ (.tmp 145) = ?vd25 := hp 25 (by decide)
                    have k146 : ρ (.tmp 146) = ?vd26 := hp 26 (by decide)
                    clear hp ho
                    refine StepOk.of_run (v := ?vd27) (w' := X) ?_ ⟨rfl, Below.refl _ _⟩
                    clear hX
                    go_simp
                    all_goals try go_bits
                    all_goals try simp only [IntWalk.iteOmega]
                    all_goals try go_bits
                    all_goals rfl
                  · refine step_intro rfl rfl fun ρ X hc hf hgl hX hp ho => ?_
                    change StepOk _ { dst := _, op := Op.load 44 (Operand.tmp 147), type := _, pos := _, after := _, guard := _ } _ _ _
                    have k147 : ρ (.tmp 147) = ?vd27 := hp 27 (by decide)
                    have v5AX := Grows.cell' hX v5A
                    have v6AX := Grows.cell' hX v6A
                    have v7AX := Grows.cell' hX v7A
                    have ckAX := Grows.cell' hX ckA
                    have cwAX := Grows.cell' hX cwA
                    clear hp ho
                    refine StepOk.of_run (v := ?vd28) (w' := X) ?_ ⟨rfl, Below.refl _ _⟩
                    clear hX
                    go_simp
                    all_goals try go_bits
                    all_goals try simp only [IntWalk.iteOmega]
                    all_goals try go_bits
                    all_goals rfl
                  · refine step_intro rfl rfl fun ρ X hc hf hgl hX hp ho => ?_
                    change StepOk _ { dst := _, op := Op.binOp BinOp.add 44 (Operand.tmp 144) (Operand.tmp 148) 44, type := _, pos := _, after := _, guard := _ } _ _ _
                    have k144 : ρ (.tmp 144) = ?vd24 := hp 24 (by decide)
                    have k148 : ρ (.tmp 148) = ?vd28 := hp 28 (by decide)
                    clear hp ho
                    refine StepOk.of_run (v := ?vd29) (w' := X) ?_ ⟨rfl, Below.refl _ _⟩
                    clear hX
                    go_simp
                    all_goals try go_bits
                    all_goals try simp only [IntWalk.iteOmega]
                    all_goals try go_bits
                    all_goals rfl
                  · refine step_intro rfl rfl fun ρ X hc hf hgl hX hp ho => ?_
                    change StepOk _ { dst := _, op := Op.move (Operand.tmp 5), type := _, pos := _, after := _, guard := _ } _ _ _
                    have k5 : ρ (.tmp 5) = .slice (some ⟨w.heap.size, 0, none⟩) 64 64 := ho 5 (by decide)
                    clear hp ho
                    refine StepOk.of_run (v := ?vd30) (w' := X) ?_ ⟨rfl, Below.refl _ _⟩
                    clear hX
                    go_simp
                    all_goals try go_bits
                    all_goals try simp only [IntWalk.iteOmega]
                    all_goals try go_bits
                    all_goals rfl
                  · refine step_intro rfl rfl fun ρ X hc hf hgl hX hp ho => ?_
                    change StepOk _ { dst := _, op := Op.move (Operand.tmp 12), type := _, pos := _, after := _, guard := _ } _ _ _
                    have k12 : ρ (.tmp 12) = .int .i64 (tt : Int) := ho 12 (by decide)
                    clear hp ho
                    refine StepOk.of_run (v := ?vd31) (w' := X) ?_ ⟨rfl, Below.refl _ _⟩
                    clear hX
                    go_simp
                    all_goals try go_bits
                    all_goals try simp only [IntWalk.iteOmega]
                    all_goals try go_bits
                    all_goals rfl
                  · refine step_intro rfl rfl fun ρ X hc hf hgl hX hp ho => ?_
                    change StepOk _ { dst := _, op := Op.indexAddr 45 (Operand.tmp 150) (Operand.tmp 151), type := _, pos := _, after := _, guard := _ } _ _ _
                    have k150 : ρ (.tmp 150) = ?vd30 := hp 30 (by decide)
                    have k151 : ρ (.tmp 151) = ?vd31 := hp 31 (by decide)
                    clear hp ho
                    refine StepOk.of_run (v := ?vd32) (w' := X) ?_ ⟨rfl, Below.refl _ _⟩
                    clear hX
                    go_simp
                    all_goals try go_bits
                    all_goals try simp only [IntWalk.iteOmega]
                    all_goals try go_bits
                    all_goals rfl
                  · refine step_intro rfl rfl fun ρ X hc hf hgl hX hp ho => ?_
                    change StepOk _ { dst := _, op := Op.load 44 (Operand.tmp 152), type := _, pos := _, after := _, guard := _ } _ _ _
                    have k152 : ρ (.tmp 152) = ?vd32 := hp 32 (by decide)
                    have v5AX := Grows.cell' hX v5A
                    have v6AX := Grows.cell' hX v6A
                    have v7AX := Grows.cell' hX v7A
                    have ckAX := Grows.cell' hX ckA
                    have cwAX := Grows.cell' hX cwA
                    clear hp ho
                    refine StepOk.of_run (v := ?vd33) (w' := X) ?_ ⟨rfl, Below.refl _ _⟩
                    clear hX
                    go_simp
                    all_goals try go_bits
                    all_goals try simp only [IntWalk.iteOmega]
                    all_goals try go_bits
                    all_goals rfl
                  · refine step_intro rfl rfl fun ρ X hc hf hgl hX hp ho => ?_
                    change StepOk _ { dst := _, op := Op.binOp BinOp.add 44 (Operand.tmp 149) (Operand.tmp 153) 44, type := _, pos := _, after := _, guard := _ } _ _ _
                    have k149 : ρ (.tmp 149) = ?vd29 := hp 29 (by decide)
                    have k153 : ρ (.tmp 153) = ?vd33 := hp 33 (by decide)
                    clear hp ho
                    refine StepOk.of_run (v := ?vd34) (w' := X) ?_ ⟨rfl, Below.refl _ _⟩
                    clear hX
                    go_simp
                    all_goals try go_bits
                    all_goals try simp only [IntWalk.iteOmega]
                    all_goals try go_bits
                    all_goals rfl
                  · refine step_intro rfl rfl fun ρ X hc hf hgl hX hp ho => ?_
                    change StepOk _ { dst := _, op := Op.assign (Operand.tmp 154), type := _, pos := _, after := _, guard := _ } _ _ _
                    have k154 : ρ (.tmp 154) = ?vd34 := hp 34 (by decide)
                    clear hp ho
                    refine StepOk.of_run (v := ?vd35) (w' := X) ?_ ⟨rfl, Below.refl _ _⟩
                    clear hX
                    go_simp
                    all_goals try go_bits
                    all_goals try simp only [IntWalk.iteOmega]
                    all_goals try go_bits
                    all_goals rfl
                case grdd => rfl
                case rstd =>
                  intro a0 X hb
                  have hfr := hb.frame ((15, ?vd35) :: (120, ?vd0) :: (121, ?vd1) :: (122, ?vd2) :: (123, ?vd3) :: (124, ?vd4) :: (125, ?vd5) :: (126, ?vd6) :: (127, ?vd7) :: (128, ?vd8) :: (129, ?vd9) :: (130, ?vd10) :: (131, ?vd11) :: (132, ?vd12) :: (133, ?vd13) :: (134, ?vd14) :: (135, ?vd15) :: (136, ?vd16) :: (137, ?vd17) :: (138, ?vd18) :: (139, ?vd19) :: (140, ?vd20) :: (141, ?vd21) :: (142, ?vd22) :: (143, ?vd23) :: (144, ?vd24) :: (145, ?vd25) :: (146, ?vd26) :: (147, ?vd27) :: (148, ?vd28) :: (149, ?vd29) :: (150, ?vd30) :: (151, ?vd31) :: (152, ?vd32) :: (153, ?vd33) :: (154, ?vd34) :: []) rfl ⟨hb.done' 35 15 rfl rfl, hb.done' 0 120 rfl rfl, hb.done' 1 121 rfl rfl, hb.done' 2 122 rfl rfl, hb.done' 3 123 rfl rfl, hb.done' 4 124 rfl rfl, hb.done' 5 125 rfl rfl, hb.done' 6 126 rfl rfl, hb.done' 7 127 rfl rfl, hb.done' 8 128 rfl rfl, hb.done' 9 129 rfl rfl, hb.done' 10 130 rfl rfl, hb.done' 11 131 rfl rfl, hb.done' 12 132 rfl rfl, hb.done' 13 133 rfl rfl, hb.done' 14 134 rfl rfl, hb.done' 15 135 rfl rfl, hb.done' 16 136 rfl rfl, hb.done' 17 137 rfl rfl, hb.done' 18 138 rfl rfl, hb.done' 19 139 rfl rfl, hb.done' 20 140 rfl rfl, hb.done' 21 141 rfl rfl, hb.done' 22 142 rfl rfl, hb.done' 23 143 rfl rfl, hb.done' 24 144 rfl rfl, hb.done' 25 145 rfl rfl, hb.done' 26 146 rfl rfl, hb.done' 27 147 rfl rfl, hb.done' 28 148 rfl rfl, hb.done' 29 149 rfl rfl, hb.done' 30 150 rfl rfl, hb.done' 31 151 rfl rfl, hb.done' 32 152 rfl rfl, hb.done' 33 153 rfl rfl, hb.done' 34 154 rfl rfl, trivial⟩
                  simp only [updL, ↓reduceIte, Nat.reduceEqDiff, Nat.reduceAdd, Nat.zero_add] at hfr
                  have HX := Lib.hid hb.ext
                  clear hb
                  subst hfr
                  have HX17 := HX
                  have v0B := Grows.cell' HX.out v0A
                  have v1B := Grows.cell' HX.out v1A
                  have v2B := Grows.cell' HX.out v2A
                  have v3B := Grows.cell' HX.out v3A
                  have v4B := Grows.cell' HX.out v4A
                  have v5B := Grows.cell' HX.out v5A
                  have v6B := Grows.cell' HX.out v6A
                  have v7B := Grows.cell' HX.out v7A
                  clear v0A v1A v2A v3A v4A v5A v6A v7A
                  clear ckA cwA
                  go_wp2
                  refine specs_region
                    #[[], [0], [], [0, 1, 2], [0, 1, 2, 3], [], [0, 1, 2, 3, 5], [0, 1, 2, 3, 4, 5, 6], [], [], [9], [9, 10], [8, 9, 10, 11], [], [], [14], [14, 15], [13, 14, 15, 16], [8, 9, 10, 11, 12, 13, 14, 15, 16, 17], [], [19], [19, 20], [], [22], [22, 23], [19, 20, 21, 22, 23, 24], [8, 9, 10, 11, 12, 13, 14, 15, 16, 17, 18, 19, 20, 21, 22, 23, 24, 25], [0, 1, 2, 3, 4, 5, 6, 7, 8, 9, 10, 11, 12, 13, 14, 15, 16, 17, 18, 19, 20, 21, 22, 23, 24, 25, 26], [0, 1, 2, 3, 4, 5, 6, 7, 8, 9, 10, 11, 12, 13, 14, 15, 16, 17, 18, 19, 20, 21, 22, 23, 24, 25, 26, 27]] #[[13], [], [13], [], [], [13], [], [], [13], [10], [], [], [], [13], [10], [], [], [], [], [10], [], [], [10], [], [], [], [], [], []] #[true, true, true, true, true, true, true, true, true, true, true, true, true, true, true, true, true, true, true, true, true, true, true, true, true, true, true, true, true]
                    ((.val ?ve0) :: (.val ?ve1) :: (.val ?ve2) :: (.val ?ve3) :: (.val ?ve4) :: (.val ?ve5) :: (.val ?ve6) :: (.val ?ve7) :: (.val ?ve8) :: (.val ?ve9) :: (.val ?ve10) :: (.val ?ve11) :: (.val ?ve12) :: (.val ?ve13) :: (.val ?ve14) :: (.val ?ve15) :: (.val ?ve16) :: (.val ?ve17) :: (.val ?ve18) :: (.val ?ve19) :: (.val ?ve20) :: (.val ?ve21) :: (.val ?ve22) :: (.val ?ve23) :: (.val ?ve24) :: (.val ?ve25) :: (.val ?ve26) :: (.val ?ve27) :: (.val ?ve28) :: []).toArray
                    hmx ?chke ?grde ?stpe ?rste
                  case chke => rfl
                  case stpe =>
                    refine ⟨?_, ?_, ?_, ?_, ?_, ?_, ?_, ?_, ?_, ?_, ?_, ?_, ?_, ?_, ?_, ?_, ?_, ?_, ?_, ?_, ?_, ?_, ?_, ?_, ?_, ?_, ?_, ?_, ?_, trivial⟩
                    · refine step_intro rfl rfl fun ρ X hc hf hgl hX hp ho => ?_
                      change StepOk _ { dst := _, op := Op.move (Operand.tmp 13), type := _, pos := _, after := _, guard := _ } _ _ _
                      have k13 : ρ (.tmp 13) = .int .u32 (wn s.a) := ho 13 (by decide)
                      clear hp ho
                      refine StepOk.of_run (v := ?ve0) (w' := X) ?_ ⟨rfl, Below.refl _ _⟩
                      clear hX
                      go_simp
                      all_goals try go_bits
                      all_goals try simp only [IntWalk.iteOmega]
                      all_goals try go_bits
                      all_goals rfl
                    · refine step_intro rfl rfl fun ρ X hc hf hgl hX hp ho => ?_
                      change StepOk _ { dst := _, op := Op.call { callee := Callee.value (Operand.func 27), args := #[Operand.tmp 155, Operand.const (Value.int IntKind.i64 2)], argTypes := #[44, 3] }, type := _, pos := _, after := _, guard := _ } _ _ _
                      have k155 : ρ (.tmp 155) = ?ve0 := hp 0 (by decide)
                      clear hp ho
                      refine StepOk.of_call (f := 27) (args := #[?ve0, .int .i64 2]) (w' := X) ?_ (refTurn _ 2 (by decide) (by decide) _) ?_
                      · go_simp
                        all_goals try go_bits
                        all_goals try rfl
                      · rintro e w'' ⟨rfl, rfl⟩; refine ⟨_, rfl, ?_, (Below.refl _ _).drew⟩; show _ = ?ve1; rfl
                    · refine step_intro rfl rfl fun ρ X hc hf hgl hX hp ho => ?_
                      change StepOk _ { dst := _, op := Op.move (Operand.tmp 13), type := _, pos := _, after := _, guard := _ } _ _ _
                      have k13 : ρ (.tmp 13) = .int .u32 (wn s.a) := ho 13 (by decide)
                      clear hp ho
                      refine StepOk.of_run (v := ?ve2) (w' := X) ?_ ⟨rfl, Below.refl _ _⟩
                      clear hX
                      go_simp
                      all_goals try go_bits
                      all_goals try simp only [IntWalk.iteOmega]
                      all_goals try go_bits
                      all_goals rfl
                    · refine step_intro rfl rfl fun ρ X hc hf hgl hX hp ho => ?_
                      change StepOk _ { dst := _, op := Op.call { callee := Callee.value (Operand.func 27), args := #[Operand.tmp 157, Operand.const (Value.int IntKind.i64 13)], argTypes := #[44, 3] }, type := _, pos := _, after := _, guard := _ } _ _ _
                      have k157 : ρ (.tmp 157) = ?ve2 := hp 2 (by decide)
                      clear hp ho
                      refine StepOk.of_call (f := 27) (args := #[?ve2, .int .i64 13]) (w' := X) ?_ (refTurn _ 13 (by decide) (by decide) _) ?_
                      · go_simp
                        all_goals try go_bits
                        all_goals try rfl
                      · rintro e w'' ⟨rfl, rfl⟩; refine ⟨_, rfl, ?_, (Below.refl _ _).drew⟩; show _ = ?ve3; rfl
                    · refine step_intro rfl rfl fun ρ X hc hf hgl hX hp ho => ?_
                      change StepOk _ { dst := _, op := Op.binOp BinOp.xor 44 (Operand.tmp 156) (Operand.tmp 158) 44, type := _, pos := _, after := _, guard := _ } _ _ _
                      have k156 : ρ (.tmp 156) = ?ve1 := hp 1 (by decide)
                      have k158 : ρ (.tmp 158) = ?ve3 := hp 3 (by decide)
                      clear hp ho
                      refine StepOk.of_run (v := ?ve4) (w' := X) ?_ ⟨rfl, Below.refl _ _⟩
                      clear hX
                      go_simp
                      all_goals try go_bits
                      all_goals try simp only [IntWalk.iteOmega]
                      all_goals try go_bits
                      all_goals rfl
                    · refine step_intro rfl rfl fun ρ X hc hf hgl hX hp ho => ?_
                      change StepOk _ { dst := _, op := Op.move (Operand.tmp 13), type := _, pos := _, after := _, guard := _ } _ _ _
                      have k13 : ρ (.tmp 13) = .int .u32 (wn s.a) := ho 13 (by decide)
                      clear hp ho
                      refine StepOk.of_run (v := ?ve5) (w' := X) ?_ ⟨rfl, Below.refl _ _⟩
                      clear hX
                      go_simp
                      all_goals try go_bits
                      all_goals try simp only [IntWalk.iteOmega]
                      all_goals try go_bits
                      all_goals rfl
                    · refine step_intro rfl rfl fun ρ X hc hf hgl hX hp ho => ?_
                      change StepOk _ { dst := _, op := Op.call { callee := Callee.value (Operand.func 27), args := #[Operand.tmp 160, Operand.const (Value.int IntKind.i64 22)], argTypes := #[44, 3] }, type := _, pos := _, after := _, guard := _ } _ _ _
                      have k160 : ρ (.tmp 160) = ?ve5 := hp 5 (by decide)
                      clear hp ho
                      refine StepOk.of_call (f := 27) (args := #[?ve5, .int .i64 22]) (w' := X) ?_ (refTurn _ 22 (by decide) (by decide) _) ?_
                      · go_simp
                        all_goals try go_bits
                        all_goals try rfl
                      · rintro e w'' ⟨rfl, rfl⟩; refine ⟨_, rfl, ?_, (Below.refl _ _).drew⟩; show _ = ?ve6; rfl
                    · refine step_intro rfl rfl fun ρ X hc hf hgl hX hp ho => ?_
                      change StepOk _ { dst := _, op := Op.binOp BinOp.xor 44 (Operand.tmp 159) (Operand.tmp 161) 44, type := _, pos := _, after := _, guard := _ } _ _ _
                      have k159 : ρ (.tmp 159) = ?ve4 := hp 4 (by decide)
                      have k161 : ρ (.tmp 161) = ?ve6 := hp 6 (by decide)
                      clear hp ho
                      refine StepOk.of_run (v := ?ve7) (w' := X) ?_ ⟨rfl, Below.refl _ _⟩
                      clear hX
                      go_simp
                      all_goals try go_bits
                      all_goals try simp only [IntWalk.iteOmega]
                      all_goals try go_bits
                      all_goals rfl
                    · refine step_intro rfl rfl fun ρ X hc hf hgl hX hp ho => ?_
                      change StepOk _ { dst := _, op := Op.move (Operand.tmp 13), type := _, pos := _, after := _, guard := _ } _ _ _
                      have k13 : ρ (.tmp 13) = .int .u32 (wn s.a) := ho 13 (by decide)
                      clear hp ho
                      refine StepOk.of_run (v := ?ve8) (w' := X) ?_ ⟨rfl, Below.refl _ _⟩
                      clear hX
                      go_simp
                      all_goals try go_bits
                      all_goals try simp only [IntWalk.iteOmega]
                      all_goals try go_bits
                      all_goals rfl
                    · refine step_intro rfl rfl fun ρ X hc hf hgl hX hp ho => ?_
                      change StepOk _ { dst := _, op := Op.move (Operand.tmp 10), type := _, pos := _, after := _, guard := _ } _ _ _
                      have k10 : ρ (.tmp 10) = .slice (some ⟨g, 0, none⟩) 8 c := ho 10 (by decide)
                      clear hp ho
                      refine StepOk.of_run (v := ?ve9) (w' := X) ?_ ⟨rfl, Below.refl _ _⟩
                      clear hX
                      go_simp
                      all_goals try go_bits
                      all_goals try simp only [IntWalk.iteOmega]
                      all_goals try go_bits
                      all_goals rfl
                    · refine step_intro rfl rfl fun ρ X hc hf hgl hX hp ho => ?_
                      change StepOk _ { dst := _, op := Op.indexAddr 45 (Operand.tmp 164) (Operand.const (Value.int IntKind.i64 1)), type := _, pos := _, after := _, guard := _ } _ _ _
                      have k164 : ρ (.tmp 164) = ?ve9 := hp 9 (by decide)
                      clear hp ho
                      refine StepOk.of_run (v := ?ve10) (w' := X) ?_ ⟨rfl, Below.refl _ _⟩
                      clear hX
                      go_simp
                      all_goals try go_bits
                      all_goals try simp only [IntWalk.iteOmega]
                      all_goals try go_bits
                      all_goals rfl
                    · refine step_intro rfl rfl fun ρ X hc hf hgl hX hp ho => ?_
                      change StepOk _ { dst := _, op := Op.load 44 (Operand.tmp 165), type := _, pos := _, after := _, guard := _ } _ _ _
                      have k165 : ρ (.tmp 165) = ?ve10 := hp 10 (by decide)
                      have v1BX := Grows.cell' hX v1B
                      have v2BX := Grows.cell' hX v2B
                      clear hp ho
                      refine StepOk.of_run (v := ?ve11) (w' := X) ?_ ⟨rfl, Below.refl _ _⟩
                      clear hX
                      go_simp
                      all_goals try go_bits
                      all_goals try simp only [IntWalk.iteOmega]
                      all_goals try go_bits
                      all_goals rfl
                    · refine step_intro rfl rfl fun ρ X hc hf hgl hX hp ho => ?_
                      change StepOk _ { dst := _, op := Op.binOp BinOp.and 44 (Operand.tmp 163) (Operand.tmp 166) 44, type := _, pos := _, after := _, guard := _ } _ _ _
                      have k163 : ρ (.tmp 163) = ?ve8 := hp 8 (by decide)
                      have k166 : ρ (.tmp 166) = ?ve11 := hp 11 (by decide)
                      clear hp ho
                      refine StepOk.of_run (v := ?ve12) (w' := X) ?_ ⟨rfl, Below.refl _ _⟩
                      clear hX
                      go_simp
                      all_goals try go_bits
                      all_goals try simp only [IntWalk.iteOmega]
                      all_goals try go_bits
                      all_goals rfl
                    · refine step_intro rfl rfl fun ρ X hc hf hgl hX hp ho => ?_
                      change StepOk _ { dst := _, op := Op.move (Operand.tmp 13), type := _, pos := _, after := _, guard := _ } _ _ _
                      have k13 : ρ (.tmp 13) = .int .u32 (wn s.a) := ho 13 (by decide)
                      clear hp ho
                      refine StepOk.of_run (v := ?ve13) (w' := X) ?_ ⟨rfl, Below.refl _ _⟩
                      clear hX
                      go_simp
                      all_goals try go_bits
                      all_goals try simp only [IntWalk.iteOmega]
                      all_goals try go_bits
                      all_goals rfl
                    · refine step_intro rfl rfl fun ρ X hc hf hgl hX hp ho => ?_
                      change StepOk _ { dst := _, op := Op.move (Operand.tmp 10), type := _, pos := _, after := _, guard := _ } _ _ _
                      have k10 : ρ (.tmp 10) = .slice (some ⟨g, 0, none⟩) 8 c := ho 10 (by decide)
                      clear hp ho
                      refine StepOk.of_run (v := ?ve14) (w' := X) ?_ ⟨rfl, Below.refl _ _⟩
                      clear hX
                      go_simp
                      all_goals try go_bits
                      all_goals try simp only [IntWalk.iteOmega]
                      all_goals try go_bits
                      all_goals rfl
                    · refine step_intro rfl rfl fun ρ X hc hf hgl hX hp ho => ?_
                      change StepOk _ { dst := _, op := Op.indexAddr 45 (Operand.tmp 169) (Operand.const (Value.int IntKind.i64 2)), type := _, pos := _, after := _, guard := _ } _ _ _
                      have k169 : ρ (.tmp 169) = ?ve14 := hp 14 (by decide)
                      clear hp ho
                      refine StepOk.of_run (v := ?ve15) (w' := X) ?_ ⟨rfl, Below.refl _ _⟩
                      clear hX
                      go_simp
                      all_goals try go_bits
                      all_goals try simp only [IntWalk.iteOmega]
                      all_goals try go_bits
                      all_goals rfl
                    · refine step_intro rfl rfl fun ρ X hc hf hgl hX hp ho => ?_
                      change StepOk _ { dst := _, op := Op.load 44 (Operand.tmp 170), type := _, pos := _, after := _, guard := _ } _ _ _
                      have k170 : ρ (.tmp 170) = ?ve15 := hp 15 (by decide)
                      have v1BX := Grows.cell' hX v1B
                      have v2BX := Grows.cell' hX v2B
                      clear hp ho
                      refine StepOk.of_run (v := ?ve16) (w' := X) ?_ ⟨rfl, Below.refl _ _⟩
                      clear hX
                      go_simp
                      all_goals try go_bits
                      all_goals try simp only [IntWalk.iteOmega]
                      all_goals try go_bits
                      all_goals rfl
                    · refine step_intro rfl rfl fun ρ X hc hf hgl hX hp ho => ?_
                      change StepOk _ { dst := _, op := Op.binOp BinOp.and 44 (Operand.tmp 168) (Operand.tmp 171) 44, type := _, pos := _, after := _, guard := _ } _ _ _
                      have k168 : ρ (.tmp 168) = ?ve13 := hp 13 (by decide)
                      have k171 : ρ (.tmp 171) = ?ve16 := hp 16 (by decide)
                      clear hp ho
                      refine StepOk.of_run (v := ?ve17) (w' := X) ?_ ⟨rfl, Below.refl _ _⟩
                      clear hX
                      go_simp
                      all_goals try go_bits
                      all_goals try simp only [IntWalk.iteOmega]
                      all_goals try go_bits
                      all_goals rfl
                    · refine step_intro rfl rfl fun ρ X hc hf hgl hX hp ho => ?_
                      change StepOk _ { dst := _, op := Op.binOp BinOp.xor 44 (Operand.tmp 167) (Operand.tmp 172) 44, type := _, pos := _, after := _, guard := _ } _ _ _
                      have k167 : ρ (.tmp 167) = ?ve12 := hp 12 (by decide)
                      have k172 : ρ (.tmp 172) = ?ve17 := hp 17 (by decide)
                      clear hp ho
                      refine StepOk.of_run (v := ?ve18) (w' := X) ?_ ⟨rfl, Below.refl _ _⟩
                      clear hX
                      go_simp
                      all_goals try go_bits
                      all_goals try simp only [IntWalk.iteOmega]
                      all_goals try go_bits
                      all_goals rfl
                    · refine step_intro rfl rfl fun ρ X hc hf hgl hX hp ho => ?_
                      change StepOk _ { dst := _, op := Op.move (Operand.tmp 10), type := _, pos := _, after := _, guard := _ } _ _ _
                      have k10 : ρ (.tmp 10) = .slice (some ⟨g, 0, none⟩) 8 c := ho 10 (by decide)
                      clear hp ho
                      refine StepOk.of_run (v := ?ve19) (w' := X) ?_ ⟨rfl, Below.refl _ _⟩
                      clear hX
                      go_simp
                      all_goals try go_bits
                      all_goals try simp only [IntWalk.iteOmega]
                      all_goals try go_bits
                      all_goals rfl
                    · refine step_intro rfl rfl fun ρ X hc hf hgl hX hp ho => ?_
                      change StepOk _ { dst := _, op := Op.indexAddr 45 (Operand.tmp 174) (Operand.const (Value.int IntKind.i64 1)), type := _, pos := _, after := _, guard := _ } _ _ _
                      have k174 : ρ (.tmp 174) = ?ve19 := hp 19 (by decide)
                      clear hp ho
                      refine StepOk.of_run (v := ?ve20) (w' := X) ?_ ⟨rfl, Below.refl _ _⟩
                      clear hX
                      go_simp
                      all_goals try go_bits
                      all_goals try simp only [IntWalk.iteOmega]
                      all_goals try go_bits
                      all_goals rfl
                    · refine step_intro rfl rfl fun ρ X hc hf hgl hX hp ho => ?_
                      change StepOk _ { dst := _, op := Op.load 44 (Operand.tmp 175), type := _, pos := _, after := _, guard := _ } _ _ _
                      have k175 : ρ (.tmp 175) = ?ve20 := hp 20 (by decide)
                      have v1BX := Grows.cell' hX v1B
                      have v2BX := Grows.cell' hX v2B
                      clear hp ho
                      refine StepOk.of_run (v := ?ve21) (w' := X) ?_ ⟨rfl, Below.refl _ _⟩
                      clear hX
                      go_simp
                      all_goals try go_bits
                      all_goals try simp only [IntWalk.iteOmega]
                      all_goals try go_bits
                      all_goals rfl
                    · refine step_intro rfl rfl fun ρ X hc hf hgl hX hp ho => ?_
                      change StepOk _ { dst := _, op := Op.move (Operand.tmp 10), type := _, pos := _, after := _, guard := _ } _ _ _
                      have k10 : ρ (.tmp 10) = .slice (some ⟨g, 0, none⟩) 8 c := ho 10 (by decide)
                      clear hp ho
                      refine StepOk.of_run (v := ?ve22) (w' := X) ?_ ⟨rfl, Below.refl _ _⟩
                      clear hX
                      go_simp
                      all_goals try go_bits
                      all_goals try simp only [IntWalk.iteOmega]
                      all_goals try go_bits
                      all_goals rfl
                    · refine step_intro rfl rfl fun ρ X hc hf hgl hX hp ho => ?_
                      change StepOk _ { dst := _, op := Op.indexAddr 45 (Operand.tmp 177) (Operand.const (Value.int IntKind.i64 2)), type := _, pos := _, after := _, guard := _ } _ _ _
                      have k177 : ρ (.tmp 177) = ?ve22 := hp 22 (by decide)
                      clear hp ho
                      refine StepOk.of_run (v := ?ve23) (w' := X) ?_ ⟨rfl, Below.refl _ _⟩
                      clear hX
                      go_simp
                      all_goals try go_bits
                      all_goals try simp only [IntWalk.iteOmega]
                      all_goals try go_bits
                      all_goals rfl
                    · refine step_intro rfl rfl fun ρ X hc hf hgl hX hp ho => ?_
                      change StepOk _ { dst := _, op := Op.load 44 (Operand.tmp 178), type := _, pos := _, after := _, guard := _ } _ _ _
                      have k178 : ρ (.tmp 178) = ?ve23 := hp 23 (by decide)
                      have v1BX := Grows.cell' hX v1B
                      have v2BX := Grows.cell' hX v2B
                      clear hp ho
                      refine StepOk.of_run (v := ?ve24) (w' := X) ?_ ⟨rfl, Below.refl _ _⟩
                      clear hX
                      go_simp
                      all_goals try go_bits
                      all_goals try simp only [IntWalk.iteOmega]
                      all_goals try go_bits
                      all_goals rfl
                    · refine step_intro rfl rfl fun ρ X hc hf hgl hX hp ho => ?_
                      change StepOk _ { dst := _, op := Op.binOp BinOp.and 44 (Operand.tmp 176) (Operand.tmp 179) 44, type := _, pos := _, after := _, guard := _ } _ _ _
                      have k176 : ρ (.tmp 176) = ?ve21 := hp 21 (by decide)
                      have k179 : ρ (.tmp 179) = ?ve24 := hp 24 (by decide)
                      clear hp ho
                      refine StepOk.of_run (v := ?ve25) (w' := X) ?_ ⟨rfl, Below.refl _ _⟩
                      clear hX
                      go_simp
                      all_goals try go_bits
                      all_goals try simp only [IntWalk.iteOmega]
                      all_goals try go_bits
                      all_goals rfl
                    · refine step_intro rfl rfl fun ρ X hc hf hgl hX hp ho => ?_
                      change StepOk _ { dst := _, op := Op.binOp BinOp.xor 44 (Operand.tmp 173) (Operand.tmp 180) 44, type := _, pos := _, after := _, guard := _ } _ _ _
                      have k173 : ρ (.tmp 173) = ?ve18 := hp 18 (by decide)
                      have k180 : ρ (.tmp 180) = ?ve25 := hp 25 (by decide)
                      clear hp ho
                      refine StepOk.of_run (v := ?ve26) (w' := X) ?_ ⟨rfl, Below.refl _ _⟩
                      clear hX
                      go_simp
                      all_goals try go_bits
                      all_goals try simp only [IntWalk.iteOmega]
                      all_goals try go_bits
                      all_goals rfl
                    · refine step_intro rfl rfl fun ρ X hc hf hgl hX hp ho => ?_
                      change StepOk _ { dst := _, op := Op.binOp BinOp.add 44 (Operand.tmp 162) (Operand.tmp 181) 44, type := _, pos := _, after := _, guard := _ } _ _ _
                      have k162 : ρ (.tmp 162) = ?ve7 := hp 7 (by decide)
                      have k181 : ρ (.tmp 181) = ?ve26 := hp 26 (by decide)
                      clear hp ho
                      refine StepOk.of_run (v := ?ve27) (w' := X) ?_ ⟨rfl, Below.refl _ _⟩
                      clear hX
                      go_simp
                      all_goals try go_bits
                      all_goals try simp only [IntWalk.iteOmega]
                      all_goals try go_bits
                      all_goals rfl
                    · refine step_intro rfl rfl fun ρ X hc hf hgl hX hp ho => ?_
                      change StepOk _ { dst := _, op := Op.assign (Operand.tmp 182), type := _, pos := _, after := _, guard := _ } _ _ _
                      have k182 : ρ (.tmp 182) = ?ve27 := hp 27 (by decide)
                      clear hp ho
                      refine StepOk.of_run (v := ?ve28) (w' := X) ?_ ⟨rfl, Below.refl _ _⟩
                      clear hX
                      go_simp
                      all_goals try go_bits
                      all_goals try simp only [IntWalk.iteOmega]
                      all_goals try go_bits
                      all_goals rfl
                  case grde => rfl
                  case rste =>
                    intro a0 X hb
                    have hfr := hb.frame ((16, ?ve28) :: (155, ?ve0) :: (156, ?ve1) :: (157, ?ve2) :: (158, ?ve3) :: (159, ?ve4) :: (160, ?ve5) :: (161, ?ve6) :: (162, ?ve7) :: (163, ?ve8) :: (164, ?ve9) :: (165, ?ve10) :: (166, ?ve11) :: (167, ?ve12) :: (168, ?ve13) :: (169, ?ve14) :: (170, ?ve15) :: (171, ?ve16) :: (172, ?ve17) :: (173, ?ve18) :: (174, ?ve19) :: (175, ?ve20) :: (176, ?ve21) :: (177, ?ve22) :: (178, ?ve23) :: (179, ?ve24) :: (180, ?ve25) :: (181, ?ve26) :: (182, ?ve27) :: []) rfl ⟨hb.done' 28 16 rfl rfl, hb.done' 0 155 rfl rfl, hb.done' 1 156 rfl rfl, hb.done' 2 157 rfl rfl, hb.done' 3 158 rfl rfl, hb.done' 4 159 rfl rfl, hb.done' 5 160 rfl rfl, hb.done' 6 161 rfl rfl, hb.done' 7 162 rfl rfl, hb.done' 8 163 rfl rfl, hb.done' 9 164 rfl rfl, hb.done' 10 165 rfl rfl, hb.done' 11 166 rfl rfl, hb.done' 12 167 rfl rfl, hb.done' 13 168 rfl rfl, hb.done' 14 169 rfl rfl, hb.done' 15 170 rfl rfl, hb.done' 16 171 rfl rfl, hb.done' 17 172 rfl rfl, hb.done' 18 173 rfl rfl, hb.done' 19 174 rfl rfl, hb.done' 20 175 rfl rfl, hb.done' 21 176 rfl rfl, hb.done' 22 177 rfl rfl, hb.done' 23 178 rfl rfl, hb.done' 24 179 rfl rfl, hb.done' 25 180 rfl rfl, hb.done' 26 181 rfl rfl, hb.done' 27 182 rfl rfl, trivial⟩
                    simp only [updL, ↓reduceIte, Nat.reduceEqDiff, Nat.reduceAdd, Nat.zero_add] at hfr
                    have HX := Lib.hid hb.ext
                    clear hb
                    subst hfr
                    have HX18 := HX
                    have v0C := Grows.cell' HX.out v0B
                    have v1C := Grows.cell' HX.out v1B
                    have v2C := Grows.cell' HX.out v2B
                    have v3C := Grows.cell' HX.out v3B
                    have v4C := Grows.cell' HX.out v4B
                    have v5C := Grows.cell' HX.out v5B
                    have v6C := Grows.cell' HX.out v6B
                    have v7C := Grows.cell' HX.out v7B
                    clear v0B v1B v2B v3B v4B v5B v6B v7B
                    go_wp2
                    refine specs_region
                      #[[], [], [0, 1], [], [3], [3, 4], [], [6], [6, 7], [], [9], [9, 10], [], [12], [12, 13], [], [12, 13, 14, 15], [], [17], [17, 18], [], [20], [20, 21], [], [23], [23, 24], [0, 1, 2, 3, 4, 5, 6, 7, 8, 9, 10, 11, 12, 13, 14, 15, 16, 17, 18, 19, 20, 21, 22, 23, 24, 25], [0, 1, 2, 3, 4, 5, 6, 7, 8, 9, 10, 11, 12, 13, 14, 15, 16, 17, 18, 19, 20, 21, 22, 23, 24, 25, 26]] #[[15], [16], [], [10], [], [], [10], [], [], [10], [], [], [10], [], [], [15], [], [10], [], [], [10], [], [], [10], [], [], [], []] #[true, true, true, true, true, true, true, true, true, true, true, true, true, true, true, true, true, true, true, true, true, true, true, true, true, true, true, true]
                      ((.val ?vf0) :: (.val ?vf1) :: (.val ?vf2) :: (.val ?vf3) :: (.val ?vf4) :: (.val ?vf5) :: (.val ?vf6) :: (.val ?vf7) :: (.val ?vf8) :: (.val ?vf9) :: (.val ?vf10) :: (.val ?vf11) :: (.val ?vf12) :: (.val ?vf13) :: (.val ?vf14) :: (.val ?vf15) :: (.val ?vf16) :: (.val ?vf17) :: (.val ?vf18) :: (.val ?vf19) :: (.val ?vf20) :: (.val ?vf21) :: (.val ?vf22) :: (.val ?vf23) :: (.val ?vf24) :: (.val ?vf25) :: (.pred (Wds (rnd s kt wt).list) Wds.grows) :: (.pred (Wds (rnd s kt wt).list) Wds.grows) :: []).toArray
                      hmx ?chkf ?grdf ?stpf ?rstf
                    case chkf => rfl
                    case stpf =>
                      refine ⟨?_, ?_, ?_, ?_, ?_, ?_, ?_, ?_, ?_, ?_, ?_, ?_, ?_, ?_, ?_, ?_, ?_, ?_, ?_, ?_, ?_, ?_, ?_, ?_, ?_, ?_, ?_, ?_, trivial⟩
                      · refine step_intro rfl rfl fun ρ X hc hf hgl hX hp ho => ?_
                        change StepOk _ { dst := _, op := Op.move (Operand.tmp 15), type := _, pos := _, after := _, guard := _ } _ _ _
                        have k15 : ρ (.tmp 15) = .int .u32 (wn (rndX s kt wt)) := ho 15 (by decide)
                        clear hp ho
                        refine StepOk.of_run (v := ?vf0) (w' := X) ?_ ⟨rfl, Below.refl _ _⟩
                        clear hX
                        go_simp
                        all_goals try go_bits
                        all_goals try simp only [IntWalk.iteOmega]
                        all_goals try go_bits
                        all_goals rfl
                      · refine step_intro rfl rfl fun ρ X hc hf hgl hX hp ho => ?_
                        change StepOk _ { dst := _, op := Op.move (Operand.tmp 16), type := _, pos := _, after := _, guard := _ } _ _ _
                        have k16 : ρ (.tmp 16) = .int .u32 (wn (rndY s)) := ho 16 (by decide)
                        clear hp ho
                        refine StepOk.of_run (v := ?vf1) (w' := X) ?_ ⟨rfl, Below.refl _ _⟩
                        clear hX
                        go_simp
                        all_goals try go_bits
                        all_goals try simp only [IntWalk.iteOmega]
                        all_goals try go_bits
                        all_goals rfl
                      · refine step_intro rfl rfl fun ρ X hc hf hgl hX hp ho => ?_
                        change StepOk _ { dst := _, op := Op.binOp BinOp.add 44 (Operand.tmp 183) (Operand.tmp 184) 44, type := _, pos := _, after := _, guard := _ } _ _ _
                        have k183 : ρ (.tmp 183) = ?vf0 := hp 0 (by decide)
                        have k184 : ρ (.tmp 184) = ?vf1 := hp 1 (by decide)
                        clear hp ho
                        refine StepOk.of_run (v := ?vf2) (w' := X) ?_ ⟨rfl, Below.refl _ _⟩
                        clear hX
                        go_simp
                        all_goals try go_bits
                        all_goals try simp only [IntWalk.iteOmega]
                        all_goals try go_bits
                        all_goals rfl
                      · refine step_intro rfl rfl fun ρ X hc hf hgl hX hp ho => ?_
                        change StepOk _ { dst := _, op := Op.move (Operand.tmp 10), type := _, pos := _, after := _, guard := _ } _ _ _
                        have k10 : ρ (.tmp 10) = .slice (some ⟨g, 0, none⟩) 8 c := ho 10 (by decide)
                        clear hp ho
                        refine StepOk.of_run (v := ?vf3) (w' := X) ?_ ⟨rfl, Below.refl _ _⟩
                        clear hX
                        go_simp
                        all_goals try go_bits
                        all_goals try simp only [IntWalk.iteOmega]
                        all_goals try go_bits
                        all_goals rfl
                      · refine step_intro rfl rfl fun ρ X hc hf hgl hX hp ho => ?_
                        change StepOk _ { dst := _, op := Op.indexAddr 45 (Operand.tmp 186) (Operand.const (Value.int IntKind.i64 0)), type := _, pos := _, after := _, guard := _ } _ _ _
                        have k186 : ρ (.tmp 186) = ?vf3 := hp 3 (by decide)
                        clear hp ho
                        refine StepOk.of_run (v := ?vf4) (w' := X) ?_ ⟨rfl, Below.refl _ _⟩
                        clear hX
                        go_simp
                        all_goals try go_bits
                        all_goals try simp only [IntWalk.iteOmega]
                        all_goals try go_bits
                        all_goals rfl
                      · refine step_intro rfl rfl fun ρ X hc hf hgl hX hp ho => ?_
                        change StepOk _ { dst := _, op := Op.load 44 (Operand.tmp 187), type := _, pos := _, after := _, guard := _ } _ _ _
                        have k187 : ρ (.tmp 187) = ?vf4 := hp 4 (by decide)
                        have v0CX := Grows.cell' hX v0C
                        have v1CX := Grows.cell' hX v1C
                        have v2CX := Grows.cell' hX v2C
                        have v3CX := Grows.cell' hX v3C
                        have v4CX := Grows.cell' hX v4C
                        have v5CX := Grows.cell' hX v5C
                        have v6CX := Grows.cell' hX v6C
                        clear hp ho
                        refine StepOk.of_run (v := ?vf5) (w' := X) ?_ ⟨rfl, Below.refl _ _⟩
                        clear hX
                        go_simp
                        all_goals try go_bits
                        all_goals try simp only [IntWalk.iteOmega]
                        all_goals try go_bits
                        all_goals rfl
                      · refine step_intro rfl rfl fun ρ X hc hf hgl hX hp ho => ?_
                        change StepOk _ { dst := _, op := Op.move (Operand.tmp 10), type := _, pos := _, after := _, guard := _ } _ _ _
                        have k10 : ρ (.tmp 10) = .slice (some ⟨g, 0, none⟩) 8 c := ho 10 (by decide)
                        clear hp ho
                        refine StepOk.of_run (v := ?vf6) (w' := X) ?_ ⟨rfl, Below.refl _ _⟩
                        clear hX
                        go_simp
                        all_goals try go_bits
                        all_goals try simp only [IntWalk.iteOmega]
                        all_goals try go_bits
                        all_goals rfl
                      · refine step_intro rfl rfl fun ρ X hc hf hgl hX hp ho => ?_
                        change StepOk _ { dst := _, op := Op.indexAddr 45 (Operand.tmp 189) (Operand.const (Value.int IntKind.i64 1)), type := _, pos := _, after := _, guard := _ } _ _ _
                        have k189 : ρ (.tmp 189) = ?vf6 := hp 6 (by decide)
                        clear hp ho
                        refine StepOk.of_run (v := ?vf7) (w' := X) ?_ ⟨rfl, Below.refl _ _⟩
                        clear hX
                        go_simp
                        all_goals try go_bits
                        all_goals try simp only [IntWalk.iteOmega]
                        all_goals try go_bits
                        all_goals rfl
                      · refine step_intro rfl rfl fun ρ X hc hf hgl hX hp ho => ?_
                        change StepOk _ { dst := _, op := Op.load 44 (Operand.tmp 190), type := _, pos := _, after := _, guard := _ } _ _ _
                        have k190 : ρ (.tmp 190) = ?vf7 := hp 7 (by decide)
                        have v0CX := Grows.cell' hX v0C
                        have v1CX := Grows.cell' hX v1C
                        have v2CX := Grows.cell' hX v2C
                        have v3CX := Grows.cell' hX v3C
                        have v4CX := Grows.cell' hX v4C
                        have v5CX := Grows.cell' hX v5C
                        have v6CX := Grows.cell' hX v6C
                        clear hp ho
                        refine StepOk.of_run (v := ?vf8) (w' := X) ?_ ⟨rfl, Below.refl _ _⟩
                        clear hX
                        go_simp
                        all_goals try go_bits
                        all_goals try simp only [IntWalk.iteOmega]
                        all_goals try go_bits
                        all_goals rfl
                      · refine step_intro rfl rfl fun ρ X hc hf hgl hX hp ho => ?_
                        change StepOk _ { dst := _, op := Op.move (Operand.tmp 10), type := _, pos := _, after := _, guard := _ } _ _ _
                        have k10 : ρ (.tmp 10) = .slice (some ⟨g, 0, none⟩) 8 c := ho 10 (by decide)
                        clear hp ho
                        refine StepOk.of_run (v := ?vf9) (w' := X) ?_ ⟨rfl, Below.refl _ _⟩
                        clear hX
                        go_simp
                        all_goals try go_bits
                        all_goals try simp only [IntWalk.iteOmega]
                        all_goals try go_bits
                        all_goals rfl
                      · refine step_intro rfl rfl fun ρ X hc hf hgl hX hp ho => ?_
                        change StepOk _ { dst := _, op := Op.indexAddr 45 (Operand.tmp 192) (Operand.const (Value.int IntKind.i64 2)), type := _, pos := _, after := _, guard := _ } _ _ _
                        have k192 : ρ (.tmp 192) = ?vf9 := hp 9 (by decide)
                        clear hp ho
                        refine StepOk.of_run (v := ?vf10) (w' := X) ?_ ⟨rfl, Below.refl _ _⟩
                        clear hX
                        go_simp
                        all_goals try go_bits
                        all_goals try simp only [IntWalk.iteOmega]
                        all_goals try go_bits
                        all_goals rfl
                      · refine step_intro rfl rfl fun ρ X hc hf hgl hX hp ho => ?_
                        change StepOk _ { dst := _, op := Op.load 44 (Operand.tmp 193), type := _, pos := _, after := _, guard := _ } _ _ _
                        have k193 : ρ (.tmp 193) = ?vf10 := hp 10 (by decide)
                        have v0CX := Grows.cell' hX v0C
                        have v1CX := Grows.cell' hX v1C
                        have v2CX := Grows.cell' hX v2C
                        have v3CX := Grows.cell' hX v3C
                        have v4CX := Grows.cell' hX v4C
                        have v5CX := Grows.cell' hX v5C
                        have v6CX := Grows.cell' hX v6C
                        clear hp ho
                        refine StepOk.of_run (v := ?vf11) (w' := X) ?_ ⟨rfl, Below.refl _ _⟩
                        clear hX
                        go_simp
                        all_goals try go_bits
                        all_goals try simp only [IntWalk.iteOmega]
                        all_goals try go_bits
                        all_goals rfl
                      · refine step_intro rfl rfl fun ρ X hc hf hgl hX hp ho => ?_
                        change StepOk _ { dst := _, op := Op.move (Operand.tmp 10), type := _, pos := _, after := _, guard := _ } _ _ _
                        have k10 : ρ (.tmp 10) = .slice (some ⟨g, 0, none⟩) 8 c := ho 10 (by decide)
                        clear hp ho
                        refine StepOk.of_run (v := ?vf12) (w' := X) ?_ ⟨rfl, Below.refl _ _⟩
                        clear hX
                        go_simp
                        all_goals try go_bits
                        all_goals try simp only [IntWalk.iteOmega]
                        all_goals try go_bits
                        all_goals rfl
                      · refine step_intro rfl rfl fun ρ X hc hf hgl hX hp ho => ?_
                        change StepOk _ { dst := _, op := Op.indexAddr 45 (Operand.tmp 195) (Operand.const (Value.int IntKind.i64 3)), type := _, pos := _, after := _, guard := _ } _ _ _
                        have k195 : ρ (.tmp 195) = ?vf12 := hp 12 (by decide)
                        clear hp ho
                        refine StepOk.of_run (v := ?vf13) (w' := X) ?_ ⟨rfl, Below.refl _ _⟩
                        clear hX
                        go_simp
                        all_goals try go_bits
                        all_goals try simp only [IntWalk.iteOmega]
                        all_goals try go_bits
                        all_goals rfl
                      · refine step_intro rfl rfl fun ρ X hc hf hgl hX hp ho => ?_
                        change StepOk _ { dst := _, op := Op.load 44 (Operand.tmp 196), type := _, pos := _, after := _, guard := _ } _ _ _
                        have k196 : ρ (.tmp 196) = ?vf13 := hp 13 (by decide)
                        have v0CX := Grows.cell' hX v0C
                        have v1CX := Grows.cell' hX v1C
                        have v2CX := Grows.cell' hX v2C
                        have v3CX := Grows.cell' hX v3C
                        have v4CX := Grows.cell' hX v4C
                        have v5CX := Grows.cell' hX v5C
                        have v6CX := Grows.cell' hX v6C
                        clear hp ho
                        refine StepOk.of_run (v := ?vf14) (w' := X) ?_ ⟨rfl, Below.refl _ _⟩
                        clear hX
                        go_simp
                        all_goals try go_bits
                        all_goals try simp only [IntWalk.iteOmega]
                        all_goals try go_bits
                        all_goals rfl
                      · refine step_intro rfl rfl fun ρ X hc hf hgl hX hp ho => ?_
                        change StepOk _ { dst := _, op := Op.move (Operand.tmp 15), type := _, pos := _, after := _, guard := _ } _ _ _
                        have k15 : ρ (.tmp 15) = .int .u32 (wn (rndX s kt wt)) := ho 15 (by decide)
                        clear hp ho
                        refine StepOk.of_run (v := ?vf15) (w' := X) ?_ ⟨rfl, Below.refl _ _⟩
                        clear hX
                        go_simp
                        all_goals try go_bits
                        all_goals try simp only [IntWalk.iteOmega]
                        all_goals try go_bits
                        all_goals rfl
                      · refine step_intro rfl rfl fun ρ X hc hf hgl hX hp ho => ?_
                        change StepOk _ { dst := _, op := Op.binOp BinOp.add 44 (Operand.tmp 197) (Operand.tmp 198) 44, type := _, pos := _, after := _, guard := _ } _ _ _
                        have k197 : ρ (.tmp 197) = ?vf14 := hp 14 (by decide)
                        have k198 : ρ (.tmp 198) = ?vf15 := hp 15 (by decide)
                        clear hp ho
                        refine StepOk.of_run (v := ?vf16) (w' := X) ?_ ⟨rfl, Below.refl _ _⟩
                        clear hX
                        go_simp
                        all_goals try go_bits
                        all_goals try simp only [IntWalk.iteOmega]
                        all_goals try go_bits
                        all_goals rfl
                      · refine step_intro rfl rfl fun ρ X hc hf hgl hX hp ho => ?_
                        change StepOk _ { dst := _, op := Op.move (Operand.tmp 10), type := _, pos := _, after := _, guard := _ } _ _ _
                        have k10 : ρ (.tmp 10) = .slice (some ⟨g, 0, none⟩) 8 c := ho 10 (by decide)
                        clear hp ho
                        refine StepOk.of_run (v := ?vf17) (w' := X) ?_ ⟨rfl, Below.refl _ _⟩
                        clear hX
                        go_simp
                        all_goals try go_bits
                        all_goals try simp only [IntWalk.iteOmega]
                        all_goals try go_bits
                        all_goals rfl
                      · refine step_intro rfl rfl fun ρ X hc hf hgl hX hp ho => ?_
                        change StepOk _ { dst := _, op := Op.indexAddr 45 (Operand.tmp 200) (Operand.const (Value.int IntKind.i64 4)), type := _, pos := _, after := _, guard := _ } _ _ _
                        have k200 : ρ (.tmp 200) = ?vf17 := hp 17 (by decide)
                        clear hp ho
                        refine StepOk.of_run (v := ?vf18) (w' := X) ?_ ⟨rfl, Below.refl _ _⟩
                        clear hX
                        go_simp
                        all_goals try go_bits
                        all_goals try simp only [IntWalk.iteOmega]
                        all_goals try go_bits
                        all_goals rfl
                      · refine step_intro rfl rfl fun ρ X hc hf hgl hX hp ho => ?_
                        change StepOk _ { dst := _, op := Op.load 44 (Operand.tmp 201), type := _, pos := _, after := _, guard := _ } _ _ _
                        have k201 : ρ (.tmp 201) = ?vf18 := hp 18 (by decide)
                        have v0CX := Grows.cell' hX v0C
                        have v1CX := Grows.cell' hX v1C
                        have v2CX := Grows.cell' hX v2C
                        have v3CX := Grows.cell' hX v3C
                        have v4CX := Grows.cell' hX v4C
                        have v5CX := Grows.cell' hX v5C
                        have v6CX := Grows.cell' hX v6C
                        clear hp ho
                        refine StepOk.of_run (v := ?vf19) (w' := X) ?_ ⟨rfl, Below.refl _ _⟩
                        clear hX
                        go_simp
                        all_goals try go_bits
                        all_goals try simp only [IntWalk.iteOmega]
                        all_goals try go_bits
                        all_goals rfl
                      · refine step_intro rfl rfl fun ρ X hc hf hgl hX hp ho => ?_
                        change StepOk _ { dst := _, op := Op.move (Operand.tmp 10), type := _, pos := _, after := _, guard := _ } _ _ _
                        have k10 : ρ (.tmp 10) = .slice (some ⟨g, 0, none⟩) 8 c := ho 10 (by decide)
                        clear hp ho
                        refine StepOk.of_run (v := ?vf20) (w' := X) ?_ ⟨rfl, Below.refl _ _⟩
                        clear hX
                        go_simp
                        all_goals try go_bits
                        all_goals try simp only [IntWalk.iteOmega]
                        all_goals try go_bits
                        all_goals rfl
                      · refine step_intro rfl rfl fun ρ X hc hf hgl hX hp ho => ?_
                        change StepOk _ { dst := _, op := Op.indexAddr 45 (Operand.tmp 203) (Operand.const (Value.int IntKind.i64 5)), type := _, pos := _, after := _, guard := _ } _ _ _
                        have k203 : ρ (.tmp 203) = ?vf20 := hp 20 (by decide)
                        clear hp ho
                        refine StepOk.of_run (v := ?vf21) (w' := X) ?_ ⟨rfl, Below.refl _ _⟩
                        clear hX
                        go_simp
                        all_goals try go_bits
                        all_goals try simp only [IntWalk.iteOmega]
                        all_goals try go_bits
                        all_goals rfl
                      · refine step_intro rfl rfl fun ρ X hc hf hgl hX hp ho => ?_
                        change StepOk _ { dst := _, op := Op.load 44 (Operand.tmp 204), type := _, pos := _, after := _, guard := _ } _ _ _
                        have k204 : ρ (.tmp 204) = ?vf21 := hp 21 (by decide)
                        have v0CX := Grows.cell' hX v0C
                        have v1CX := Grows.cell' hX v1C
                        have v2CX := Grows.cell' hX v2C
                        have v3CX := Grows.cell' hX v3C
                        have v4CX := Grows.cell' hX v4C
                        have v5CX := Grows.cell' hX v5C
                        have v6CX := Grows.cell' hX v6C
                        clear hp ho
                        refine StepOk.of_run (v := ?vf22) (w' := X) ?_ ⟨rfl, Below.refl _ _⟩
                        clear hX
                        go_simp
                        all_goals try go_bits
                        all_goals try simp only [IntWalk.iteOmega]
                        all_goals try go_bits
                        all_goals rfl
                      · refine step_intro rfl rfl fun ρ X hc hf hgl hX hp ho => ?_
                        change StepOk _ { dst := _, op := Op.move (Operand.tmp 10), type := _, pos := _, after := _, guard := _ } _ _ _
                        have k10 : ρ (.tmp 10) = .slice (some ⟨g, 0, none⟩) 8 c := ho 10 (by decide)
                        clear hp ho
                        refine StepOk.of_run (v := ?vf23) (w' := X) ?_ ⟨rfl, Below.refl _ _⟩
                        clear hX
                        go_simp
                        all_goals try go_bits
                        all_goals try simp only [IntWalk.iteOmega]
                        all_goals try go_bits
                        all_goals rfl
                      · refine step_intro rfl rfl fun ρ X hc hf hgl hX hp ho => ?_
                        change StepOk _ { dst := _, op := Op.indexAddr 45 (Operand.tmp 206) (Operand.const (Value.int IntKind.i64 6)), type := _, pos := _, after := _, guard := _ } _ _ _
                        have k206 : ρ (.tmp 206) = ?vf23 := hp 23 (by decide)
                        clear hp ho
                        refine StepOk.of_run (v := ?vf24) (w' := X) ?_ ⟨rfl, Below.refl _ _⟩
                        clear hX
                        go_simp
                        all_goals try go_bits
                        all_goals try simp only [IntWalk.iteOmega]
                        all_goals try go_bits
                        all_goals rfl
                      · refine step_intro rfl rfl fun ρ X hc hf hgl hX hp ho => ?_
                        change StepOk _ { dst := _, op := Op.load 44 (Operand.tmp 207), type := _, pos := _, after := _, guard := _ } _ _ _
                        have k207 : ρ (.tmp 207) = ?vf24 := hp 24 (by decide)
                        have v0CX := Grows.cell' hX v0C
                        have v1CX := Grows.cell' hX v1C
                        have v2CX := Grows.cell' hX v2C
                        have v3CX := Grows.cell' hX v3C
                        have v4CX := Grows.cell' hX v4C
                        have v5CX := Grows.cell' hX v5C
                        have v6CX := Grows.cell' hX v6C
                        clear hp ho
                        refine StepOk.of_run (v := ?vf25) (w' := X) ?_ ⟨rfl, Below.refl _ _⟩
                        clear hX
                        go_simp
                        all_goals try go_bits
                        all_goals try simp only [IntWalk.iteOmega]
                        all_goals try go_bits
                        all_goals rfl
                      · refine step_intro rfl rfl fun ρ X hc hf hgl hX hp ho => ?_
                        change StepOk _ { dst := _, op := Op.buildSlice 45 8 #[(0, Operand.tmp 185), (1, Operand.tmp 188), (2, Operand.tmp 191), (3, Operand.tmp 194), (4, Operand.tmp 199), (5, Operand.tmp 202), (6, Operand.tmp 205), (7, Operand.tmp 208)], type := _, pos := _, after := _, guard := _ } _ _ _
                        have k185 : ρ (.tmp 185) = ?vf2 := hp 2 (by decide)
                        have k188 : ρ (.tmp 188) = ?vf5 := hp 5 (by decide)
                        have k191 : ρ (.tmp 191) = ?vf8 := hp 8 (by decide)
                        have k194 : ρ (.tmp 194) = ?vf11 := hp 11 (by decide)
                        have k199 : ρ (.tmp 199) = ?vf16 := hp 16 (by decide)
                        have k202 : ρ (.tmp 202) = ?vf19 := hp 19 (by decide)
                        have k205 : ρ (.tmp 205) = ?vf22 := hp 22 (by decide)
                        have k208 : ρ (.tmp 208) = ?vf25 := hp 25 (by decide)
                        clear hp ho
                        refine StepOk.of_run (v := .slice (some ⟨X.heap.size, 0, none⟩) 8 8) (w' := X.alloc (.cells #[wv (rnd s kt wt).a, wv (rnd s kt wt).b, wv (rnd s kt wt).c, wv (rnd s kt wt).d, wv (rnd s kt wt).e, wv (rnd s kt wt).f, wv (rnd s kt wt).g, wv (rnd s kt wt).h] 44)) ?_ ⟨wds_lit _ _ _, Grows.alloc' _ _⟩
                        clear hX
                        go_simp
                        all_goals rfl
                      · refine step_intro rfl rfl fun ρ X hc hf hgl hX hp ho => ?_
                        change StepOk _ { dst := _, op := Op.assign (Operand.tmp 209), type := _, pos := _, after := _, guard := _ } _ _ _
                        have k209 := hp 26 (by decide)
                        clear hp ho
                        refine StepOk.of_run (v := ρ (.tmp 209)) (w' := X) ?_ ⟨k209, Below.refl _ _⟩
                        simp [go_sem, execOp]
                    case grdf => rfl
                    case rstf =>
                      intro a0 X hb
                      obtain ⟨x10, hx10⟩ : ∃ x, a0.tmps.getD 10 undef = x := ⟨_, rfl⟩
                      have p10 := hb.done' 27 10 rfl rfl
                      rw [hx10] at p10
                      obtain ⟨x209, hx209⟩ : ∃ x, a0.tmps.getD 209 undef = x := ⟨_, rfl⟩
                      have p209 := hb.done' 26 209 rfl rfl
                      rw [hx209] at p209
                      have hfr := hb.frame ((10, x10) :: (183, ?vf0) :: (184, ?vf1) :: (185, ?vf2) :: (186, ?vf3) :: (187, ?vf4) :: (188, ?vf5) :: (189, ?vf6) :: (190, ?vf7) :: (191, ?vf8) :: (192, ?vf9) :: (193, ?vf10) :: (194, ?vf11) :: (195, ?vf12) :: (196, ?vf13) :: (197, ?vf14) :: (198, ?vf15) :: (199, ?vf16) :: (200, ?vf17) :: (201, ?vf18) :: (202, ?vf19) :: (203, ?vf20) :: (204, ?vf21) :: (205, ?vf22) :: (206, ?vf23) :: (207, ?vf24) :: (208, ?vf25) :: (209, x209) :: []) rfl ⟨hx10, hb.done' 0 183 rfl rfl, hb.done' 1 184 rfl rfl, hb.done' 2 185 rfl rfl, hb.done' 3 186 rfl rfl, hb.done' 4 187 rfl rfl, hb.done' 5 188 rfl rfl, hb.done' 6 189 rfl rfl, hb.done' 7 190 rfl rfl, hb.done' 8 191 rfl rfl, hb.done' 9 192 rfl rfl, hb.done' 10 193 rfl rfl, hb.done' 11 194 rfl rfl, hb.done' 12 195 rfl rfl, hb.done' 13 196 rfl rfl, hb.done' 14 197 rfl rfl, hb.done' 15 198 rfl rfl, hb.done' 16 199 rfl rfl, hb.done' 17 200 rfl rfl, hb.done' 18 201 rfl rfl, hb.done' 19 202 rfl rfl, hb.done' 20 203 rfl rfl, hb.done' 21 204 rfl rfl, hb.done' 22 205 rfl rfl, hb.done' 23 206 rfl rfl, hb.done' 24 207 rfl rfl, hb.done' 25 208 rfl rfl, hx209, trivial⟩
                      simp only [updL, ↓reduceIte, Nat.reduceEqDiff, Nat.reduceAdd, Nat.zero_add] at hfr
                      have HX := Lib.hid hb.ext
                      clear hb
                      subst hfr
                      obtain ⟨g9, c9, rfl, hc9⟩ := p10
                      have HGn := Lib.hid (Grows.trans' (Grows.trans' (Grows.trans' (Grows.trans' HGk.out HX16.out) HX17.out) HX18.out) HX.out)
                      have Hc9 := Lib.hid hc9
                      clear v0C v1C v2C v3C v4C v5C v6C v7C hc9
                      go_wp2
                      go_roundw
                      case rel =>
                        refine ⟨tt + 1, g9, c9, Htt.out, by simp, rfl, fun i hi => ?_, HGn.out⟩
                        rw [show rounds h ws (tt + 1) = rnd s kt wt by rw [rounds, Hs.out, Hkt.out, Hwt.out]]
                        exact Hc9.out i hi
                      case measure => have := Htt.out; simp [intOf]; omega
            · have htt64 : tt = 64 := by omega
              rw [htt64] at hv
              obtain ⟨s, Hs⟩ : ∃ s, Shut (rounds h ws 64 = s) := ⟨_, ⟨rfl⟩⟩
              rw [Hs.out] at hv
              have HVs := Lib.hid hv
              have HHs : Hid (∀ i, i < 8 → wr.cell? ⟨gh, i, none⟩ = some (.int .u32 (wn (h.list.getD i 0)))) := fun i hi => hGk.cell' (HH3.out i hi)
              have HGw : Hid (Below w.heap.size w wr) := Below.trans Hw3.out (Below.mono hGk Hw3.out.size)
              have hwr := HGw.out.size
              clear hv hGk htt htt64
              go_wp2_with (at_make; refine wpList_make_full _ rfl _ _ 45 rfl wr.heap.size 44 i0 (.int .u32 0) 1 Tryd.underlying45 hi hz0 hz1 .i64 .i64 _ _ 8 rfl rfl rfl rfl (by rw [hz2]; omega) (by unfold maxLen; omega) (Nat.le_refl _) ?_; intro w5 hown5 hgrow5)
              have hG5 : Grows wr w5 := (Below.refl _ _).grown hgrow5 (Nat.le_refl _) (fun _ h => by cases h)
              obtain ⟨hb, Hhb⟩ : ∃ b, Hid (wr.heap.size = b) := ⟨_, rfl⟩
              rw [Hhb.out] at hown5 ⊢
              have HbB := Lib.hid (show w.heap.size ≤ hb by rw [← Hhb.out]; exact hwr)
              have HV5 : Hid (∀ i, i < 8 → w5.cell? ⟨g, i, none⟩ = some (.int .u32 (wn (s.list.getD i 0)))) := fun i hi => hG5.cell' (HVs.out i hi)
              have HH5 : Hid (∀ i, i < 8 → w5.cell? ⟨gh, i, none⟩ = some (.int .u32 (wn (h.list.getD i 0)))) := fun i hi => hG5.cell' (HHs.out i hi)
              have HG5 : Hid (Below w.heap.size w w5) := Below.trans HGw.out (Below.mono hG5 hwr)
              have hgb : g < hb := by have := World.block_lt_of_cell? wr ⟨g, 0, none⟩ (HVs.out 0 (by omega)); rw [Hhb.out] at this; exact this
              have hghb : gh < hb := by have := World.block_lt_of_cell? wr ⟨gh, 0, none⟩ (HHs.out 0 (by omega)); rw [Hhb.out] at this; exact this
              have hw5 : hb ≤ w5.heap.size := by have := hG5.size; rw [Hhb.out] at this; exact this
              clear hG5 hgrow5 hwr
              go_loopw [18] (fun t18 wr => ∃ (i : Nat), i ≤ 8 ∧ t18 = .int .i64 i ∧ wr.ownsRow hb 44 1 (.slice (some ⟨hb, 0, none⟩) 8 8) 8 (((blockF h l).list.take i ++ List.replicate (8 - i) 0).map wv) ∧ Below hb w5 wr)
                (fun t18 _ => 8 - (intOf t18).toNat)
              case atStart => exact ⟨0, by omega, rfl, by simpa [toList_madeCells_one, Value.cells, wv, wn] using hown5, ⟨rfl, rfl, rfl, Nat.le_refl _, fun _ _ => rfl⟩⟩
              case round =>
                obtain ⟨i, hi8, rfl, hown2, hB2⟩ := hrel
                by_cases hlt2 : i < 8
                · have ca := (hB2.cell (p := ⟨gh, i, none⟩) hghb).trans (HH5.out i hlt2)
                  have cb2 := (hB2.cell (p := ⟨g, i, none⟩) hgb).trans (HV5.out i hlt2)
                  have Hsum : Hid ((blockF h l).list.getD i 0 = h.list.getD i 0 + s.list.getD i 0) := by
                    show _ = _
                    unfold blockF
                    rw [Hws.out, Hs.out]
                    exact addR_get h s i hlt2
                  obtain ⟨x1, Hx1⟩ : ∃ x, Hid (h.list.getD i 0 = x) := ⟨_, rfl⟩
                  obtain ⟨x2, Hx2⟩ : ∃ x, Hid (s.list.getD i 0 = x) := ⟨_, rfl⟩
                  rw [Hx1.out] at ca Hsum
                  rw [Hx2.out] at cb2 Hsum
                  have bi : ¬ 8 ≤ (i : Int) := by omega
                  have Cw : Hid (wr.cell? ⟨hb, i, none⟩ = some (.int .u32 (wn 0))) := by
                    show _ = _
                    rw [hown2.cellAt i (by omega)]
                    have h1 : (blockF h l).list.length = 8 := rfl
                    have h2 : min i 8 = i := by omega
                    simp [List.getElem?_append, h1, h2, wv, show 0 < 8 - i by omega]
                  have Fw : Hid (wr.frozen? ⟨hb, i, none⟩ = false) := hown2.frozenAt i
                  have Hi := Lib.hid hlt2
                  have HB2 := Lib.hid hB2
                  have Hs2 := Lib.hid (Nat.le_trans hw5 hB2.size)
                  have Hown2 := Lib.hid hown2
                  clear hB2 hown2 hlt2 hi8
                  go_wp2
                  refine specs_last 12
                    #[[], [], [], [], [2, 3], [2, 3, 4], [], [], [6, 7], [6, 7, 8], [2, 3, 4, 5, 6, 7, 8, 9], [0, 1, 2, 3, 4, 5, 6, 7, 8, 9, 10], [0, 1, 2, 3, 4, 5, 6, 7, 8, 9, 10, 11]] #[[17], [18], [0], [18], [], [], [10], [18], [], [], [], [], []] #[true, true, true, true, true, true, true, true, true, true, true, true, true]
                    ((.val ?vg0) :: (.val ?vg1) :: (.val ?vg2) :: (.val ?vg3) :: (.val ?vg4) :: (.val ?vg5) :: (.val ?vg6) :: (.val ?vg7) :: (.val ?vg8) :: (.val ?vg9) :: (.val ?vg10) :: (.val ?vg11) :: (.any) :: []).toArray
                    hmx ?chkg ?grdg rfl ?stpg ?rstg
                  case chkg => rfl
                  case stpg =>
                    refine ⟨?_, ?_, ?_, ?_, ?_, ?_, ?_, ?_, ?_, ?_, ?_, ?_, ?_, trivial⟩
                    · refine step_intro rfl rfl fun ρ X hc hf hgl hX hp ho => ?_
                      change StepOk _ { dst := _, op := Op.move (Operand.tmp 17), type := _, pos := _, after := _, guard := _ } _ _ _
                      have k17 : ρ (.tmp 17) = .slice (some ⟨hb, 0, none⟩) 8 8 := ho 17 (by decide)
                      clear hp ho
                      refine StepOk.of_run (v := ?vg0) (w' := X) ?_ ⟨rfl, Below.refl _ _⟩
                      clear hX
                      go_simp
                      all_goals try go_bits
                      all_goals try simp only [IntWalk.iteOmega]
                      all_goals try go_bits
                      all_goals rfl
                    · refine step_intro rfl rfl fun ρ X hc hf hgl hX hp ho => ?_
                      change StepOk _ { dst := _, op := Op.move (Operand.tmp 18), type := _, pos := _, after := _, guard := _ } _ _ _
                      have k18 : ρ (.tmp 18) = .int .i64 (i : Int) := ho 18 (by decide)
                      clear hp ho
                      refine StepOk.of_run (v := ?vg1) (w' := X) ?_ ⟨rfl, Below.refl _ _⟩
                      clear hX
                      go_simp
                      all_goals try go_bits
                      all_goals try simp only [IntWalk.iteOmega]
                      all_goals try go_bits
                      all_goals rfl
                    · refine step_intro rfl rfl fun ρ X hc hf hgl hX hp ho => ?_
                      change StepOk _ { dst := _, op := Op.move (Operand.tmp 0), type := _, pos := _, after := _, guard := _ } _ _ _
                      have k0 : ρ (.tmp 0) = .slice (some ⟨gh, 0, none⟩) 8 ch := ho 0 (by decide)
                      clear hp ho
                      refine StepOk.of_run (v := ?vg2) (w' := X) ?_ ⟨rfl, Below.refl _ _⟩
                      clear hX
                      go_simp
                      all_goals try go_bits
                      all_goals try simp only [IntWalk.iteOmega]
                      all_goals try go_bits
                      all_goals rfl
                    · refine step_intro rfl rfl fun ρ X hc hf hgl hX hp ho => ?_
                      change StepOk _ { dst := _, op := Op.move (Operand.tmp 18), type := _, pos := _, after := _, guard := _ } _ _ _
                      have k18 : ρ (.tmp 18) = .int .i64 (i : Int) := ho 18 (by decide)
                      clear hp ho
                      refine StepOk.of_run (v := ?vg3) (w' := X) ?_ ⟨rfl, Below.refl _ _⟩
                      clear hX
                      go_simp
                      all_goals try go_bits
                      all_goals try simp only [IntWalk.iteOmega]
                      all_goals try go_bits
                      all_goals rfl
                    · refine step_intro rfl rfl fun ρ X hc hf hgl hX hp ho => ?_
                      change StepOk _ { dst := _, op := Op.indexAddr 45 (Operand.tmp 217) (Operand.tmp 218), type := _, pos := _, after := _, guard := _ } _ _ _
                      have k217 : ρ (.tmp 217) = ?vg2 := hp 2 (by decide)
                      have k218 : ρ (.tmp 218) = ?vg3 := hp 3 (by decide)
                      clear hp ho
                      refine StepOk.of_run (v := ?vg4) (w' := X) ?_ ⟨rfl, Below.refl _ _⟩
                      clear hX
                      go_simp
                      all_goals try go_bits
                      all_goals try simp only [IntWalk.iteOmega]
                      all_goals try go_bits
                      all_goals rfl
                    · refine step_intro rfl rfl fun ρ X hc hf hgl hX hp ho => ?_
                      change StepOk _ { dst := _, op := Op.load 44 (Operand.tmp 219), type := _, pos := _, after := _, guard := _ } _ _ _
                      have k219 : ρ (.tmp 219) = ?vg4 := hp 4 (by decide)
                      have caX := Grows.cell' hX ca
                      have cb2X := Grows.cell' hX cb2
                      clear hp ho
                      refine StepOk.of_run (v := ?vg5) (w' := X) ?_ ⟨rfl, Below.refl _ _⟩
                      clear hX
                      go_simp
                      all_goals try go_bits
                      all_goals try simp only [IntWalk.iteOmega]
                      all_goals try go_bits
                      all_goals rfl
                    · refine step_intro rfl rfl fun ρ X hc hf hgl hX hp ho => ?_
                      change StepOk _ { dst := _, op := Op.move (Operand.tmp 10), type := _, pos := _, after := _, guard := _ } _ _ _
                      have k10 : ρ (.tmp 10) = .slice (some ⟨g, 0, none⟩) 8 c := ho 10 (by decide)
                      clear hp ho
                      refine StepOk.of_run (v := ?vg6) (w' := X) ?_ ⟨rfl, Below.refl _ _⟩
                      clear hX
                      go_simp
                      all_goals try go_bits
                      all_goals try simp only [IntWalk.iteOmega]
                      all_goals try go_bits
                      all_goals rfl
                    · refine step_intro rfl rfl fun ρ X hc hf hgl hX hp ho => ?_
                      change StepOk _ { dst := _, op := Op.move (Operand.tmp 18), type := _, pos := _, after := _, guard := _ } _ _ _
                      have k18 : ρ (.tmp 18) = .int .i64 (i : Int) := ho 18 (by decide)
                      clear hp ho
                      refine StepOk.of_run (v := ?vg7) (w' := X) ?_ ⟨rfl, Below.refl _ _⟩
                      clear hX
                      go_simp
                      all_goals try go_bits
                      all_goals try simp only [IntWalk.iteOmega]
                      all_goals try go_bits
                      all_goals rfl
                    · refine step_intro rfl rfl fun ρ X hc hf hgl hX hp ho => ?_
                      change StepOk _ { dst := _, op := Op.indexAddr 45 (Operand.tmp 221) (Operand.tmp 222), type := _, pos := _, after := _, guard := _ } _ _ _
                      have k221 : ρ (.tmp 221) = ?vg6 := hp 6 (by decide)
                      have k222 : ρ (.tmp 222) = ?vg7 := hp 7 (by decide)
                      clear hp ho
                      refine StepOk.of_run (v := ?vg8) (w' := X) ?_ ⟨rfl, Below.refl _ _⟩
                      clear hX
                      go_simp
                      all_goals try go_bits
                      all_goals try simp only [IntWalk.iteOmega]
                      all_goals try go_bits
                      all_goals rfl
                    · refine step_intro rfl rfl fun ρ X hc hf hgl hX hp ho => ?_
                      change StepOk _ { dst := _, op := Op.load 44 (Operand.tmp 223), type := _, pos := _, after := _, guard := _ } _ _ _
                      have k223 : ρ (.tmp 223) = ?vg8 := hp 8 (by decide)
                      have caX := Grows.cell' hX ca
                      have cb2X := Grows.cell' hX cb2
                      clear hp ho
                      refine StepOk.of_run (v := ?vg9) (w' := X) ?_ ⟨rfl, Below.refl _ _⟩
                      clear hX
                      go_simp
                      all_goals try go_bits
                      all_goals try simp only [IntWalk.iteOmega]
                      all_goals try go_bits
                      all_goals rfl
                    · refine step_intro rfl rfl fun ρ X hc hf hgl hX hp ho => ?_
                      change StepOk _ { dst := _, op := Op.binOp BinOp.add 44 (Operand.tmp 220) (Operand.tmp 224) 44, type := _, pos := _, after := _, guard := _ } _ _ _
                      have k220 : ρ (.tmp 220) = ?vg5 := hp 5 (by decide)
                      have k224 : ρ (.tmp 224) = ?vg9 := hp 9 (by decide)
                      clear hp ho
                      refine StepOk.of_run (v := ?vg10) (w' := X) ?_ ⟨rfl, Below.refl _ _⟩
                      clear hX
                      go_simp
                      all_goals try go_bits
                      all_goals try simp only [IntWalk.iteOmega]
                      all_goals try go_bits
                      all_goals rfl
                    · refine step_intro rfl rfl fun ρ X hc hf hgl hX hp ho => ?_
                      change StepOk _ { dst := _, op := Op.indexAddr 45 (Operand.tmp 215) (Operand.tmp 216), type := _, pos := _, after := _, guard := _ } _ _ _
                      have k215 : ρ (.tmp 215) = ?vg0 := hp 0 (by decide)
                      have k216 : ρ (.tmp 216) = ?vg1 := hp 1 (by decide)
                      clear hp ho
                      refine StepOk.of_run (v := ?vg11) (w' := X) ?_ ⟨rfl, Below.refl _ _⟩
                      clear hX
                      go_simp
                      all_goals try go_bits
                      all_goals try simp only [IntWalk.iteOmega]
                      all_goals try go_bits
                      all_goals rfl
                    · exact last_intro rfl
                  case grdg => rfl
                  case rstg =>
                    intro a0 X hb
                    have hfr := hb.frame ((215, ?vg0) :: (216, ?vg1) :: (217, ?vg2) :: (218, ?vg3) :: (219, ?vg4) :: (220, ?vg5) :: (221, ?vg6) :: (222, ?vg7) :: (223, ?vg8) :: (224, ?vg9) :: (225, ?vg10) :: (226, ?vg11) :: []) rfl ⟨hb.done' 0 215 rfl rfl, hb.done' 1 216 rfl rfl, hb.done' 2 217 rfl rfl, hb.done' 3 218 rfl rfl, hb.done' 4 219 rfl rfl, hb.done' 5 220 rfl rfl, hb.done' 6 221 rfl rfl, hb.done' 7 222 rfl rfl, hb.done' 8 223 rfl rfl, hb.done' 9 224 rfl rfl, hb.done' 10 225 rfl rfl, hb.done' 11 226 rfl rfl, trivial⟩
                    simp only [updL, ↓reduceIte, Nat.reduceEqDiff, Nat.reduceAdd, Nat.zero_add] at hfr
                    have HX := Lib.hid hb.ext
                    clear hb
                    subst hfr
                    change StepOk _ { dst := none, op := Op.store 44 (Operand.tmp 226) (Operand.tmp 225), type := _, pos := _, after := _, guard := _ } _ _ _
                    have cX := Grows.cell' HX.out Cw.out
                    have fX : X.frozen? ⟨hb, i, none⟩ = false := (Below.frozen HX.out (p := ⟨hb, i, none⟩) (World.block_lt_of_cell? _ _ Cw.out)).trans Fw.out
                    unfold StepOk
                    simp [go_sem, execOp, cX, fX]
                    clear cX fX
                    go_wp2
                    go_roundw
                    case rel =>
                      refine ⟨i + 1, by have := Hi.out; omega, by simp, ?_, Below.setCell (p := ⟨hb, i, none⟩) (Below.trans HB2.out (Below.mono HX.out Hs2.out)) (Nat.le_refl _) _⟩
                      have h1 := ((Hown2.out.grows1 HX.out).stored i (wv ((blockF h l).list.getD i 0))).1
                      rw [show 8 - i = (8 - (i + 1)) + 1 by have := Hi.out; omega, set_app_rep _ _ i _ (by rw [List.length_take]; have := Hi.out; simp [R8.list]; omega), ← take_snocW _ i (by have := Hi.out; simp [R8.list]; omega), Hsum.out] at h1
                      exact h1
                    case measure => have := Hi.out; simp [intOf]; omega
                · go_wp2
                  go_ret
                  have hi : i = 8 := by omega
                  rw [hi, List.take_of_length_le (by simp [R8.list])] at hown2
                  exact ⟨_, rfl, wds_row hown2 rfl (by omega), Below.trans HG5.out (Below.mono hB2 HbB.out)⟩
end Go.Proofs.YtkehcpjianadjaaDoor
