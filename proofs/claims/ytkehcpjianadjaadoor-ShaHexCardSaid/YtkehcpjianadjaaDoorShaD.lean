/-
  The contract of the program's own take of sha: a block taken into the words that lie at the head of a row.
-/
import Derived.Test.YtkehcpjianadjaaDoorShaB
namespace Go.Proofs.YtkehcpjianadjaaDoor
open Go.RowKit
set_option linter.unusedVariables false
set_option linter.unusedSimpArgs false

attribute [local go_sem] wn_add wn_xor wn_and wn_or wn_not wn_byte wn_low

theorem But.refl1 (O : Nat → Prop) (w : World) : But O w w := ⟨rfl, rfl, rfl, Nat.le_refl _, fun _ _ _ => rfl⟩
theorem But.trans1 {O : Nat → Prop} {a b c : World} (h : But O a b) (k : But O b c) : But O a c :=
  ⟨k.os.trans h.os, k.tape.trans h.tape, k.output.trans h.output, Nat.le_trans h.size k.size, fun n hn ho => (k.block n (Nat.lt_of_lt_of_le hn h.size) ho).trans (h.block n hn ho)⟩
theorem But.grows1 {O : Nat → Prop} {a b : World} (h : Grows a b) : But O a b := ⟨h.os, h.tape, h.output, h.size, fun k hk _ => h.block k hk⟩
theorem But.setCell1 {O : Nat → Prop} {a b : World} (h : But O a b) (p : Addr) (v : Value) (ho : O p.block) : But O a (b.setCell p v) :=
  ⟨h.os, h.tape, h.output, by simpa [World.setCell] using h.size, fun k hk hn => by rw [Below.heap_setCell _ _ _ _ (fun e => hn (by first | (rw [e]; exact ho) | (rw [← e]; exact ho)))]; exact h.block k hk hn⟩
theorem But.cell1 {O : Nat → Prop} {a b : World} (h : But O a b) {p : Addr} {v : Value} (hn : ¬ O p.block) (hc : a.cell? p = some v) : b.cell? p = some v :=
  (World.cell?_of_block (h.block p.block (World.block_lt_of_cell? a p hc) hn)).trans hc
/-- A row that begins with these words. -/
def rowW (A : List UInt32) (R : List Value) : Array Value := (A.map wv ++ R).toArray
theorem rowW_get (A : List UInt32) (R : List Value) (i : Nat) (hi : i < A.length) : (rowW A R)[i]? = some (wv (A.getD i 0)) := by
  unfold rowW
  simp [List.getElem?_append, hi]
theorem rowW_set (A B : List UInt32) (R : List Value) (x y : UInt32) (n : Nat) (hn : n = A.length) : (rowW (A ++ y :: B) R).setIfInBounds n (wv x) = rowW ((A ++ [x]) ++ B) R := by
  subst hn
  unfold rowW
  rw [List.setIfInBounds_toArray]
  congr 1
  simp only [List.map_append, List.map_cons, List.append_assoc, List.map_nil, List.cons_append, List.nil_append]
  rw [List.set_append_right _ _ (by simp)]
  simp
/-- i words of s behind the block, the others as they were. -/
def mid (n s : List UInt32) (i : Nat) : List UInt32 := n.take i ++ s.drop i
theorem mid_get (n s : List UInt32) (i : Nat) (hn : n.length = 8) (hs : s.length = 8) (hi : i < 8) : (mid n s i).getD i 0 = s.getD i 0 := by
  unfold mid
  have h1 : min i n.length = i := by omega
  simp [List.getD, List.getElem?_append, h1]
theorem mid_split (n s : List UInt32) (i : Nat) (hi : i < s.length) : mid n s i = n.take i ++ s.getD i 0 :: s.drop (i + 1) := by
  unfold mid
  congr 1
  rw [List.drop_eq_getElem_cons hi]
  simp [List.getD, hi]
theorem mid_next (n s : List UInt32) (i : Nat) (hi : i < n.length) : mid n s (i + 1) = (n.take i ++ [n.getD i 0]) ++ s.drop (i + 1) := by
  unfold mid
  rw [List.take_succ_eq_append_getElem hi]
  simp [List.getD, hi]
theorem mid_length (n s : List UInt32) (i : Nat) (hn : n.length = 8) (hs : s.length = 8) (hi : i ≤ 8) : (mid n s i).length = 8 := by
  unfold mid
  simp [hn, hs]
  omega
theorem wordZ : ∃ Z : Array Value, ((Tryd.prog.info? 48).bind (fun i => i.zero)).map (fun z => z.cells) = some Z ∧ Z.size = 8 := ⟨((List.replicate 8 (0 : UInt32)).map wv).toArray, by kernel_rfl, by simp⟩
theorem wordSize : (Tryd.prog.info? 48).map (·.size) = some 8 := by kernel_rfl
theorem R8.get (s : R8) : ∀ i, i < 8 → s.list.getD i 0 = [s.a, s.b, s.c, s.d, s.e, s.f, s.g, s.h].getD i 0 := fun _ _ => rfl

set_option maxRecDepth 100000 in
set_option maxHeartbeats 8000000 in
theorem vTake (g : Nat) (T : TypeId) (s : R8) (R : List Value) (b off cap : Nat) (l : List UInt8) (w : World) (hK : KW w) (hg0 : g ≠ 0) (hrow : w.heap[g]? = some (.cells (rowW s.list R) T (0, 0))) (hb : ∀ i, i < 64 → w.cell? ⟨b, off + i, none⟩ = some (.int .u8 ((l.getD i 0).toNat : Int))) :
    Calls Tryd.prog 21 #[.pointer (some ⟨g, 0, none⟩), .slice (some ⟨b, off, none⟩) 64 cap] w fun e w' => e = .returned (.tuple #[]) ∧ w'.heap[g]? = some (.cells (rowW (blockF s l).list R) T (0, 0)) ∧ But (fun k => k = g) w w' := by
  have hmx : Tryd.prog.follows .mixedOrders = true := by kernel_rfl
  have hus := u32_unsigned
  obtain ⟨Z, hZ, HZ⟩ := planZ
  have hZs : Z.size = 64 := by rw [HZ.out]; simp
  obtain ⟨Y, hY, hYs⟩ := wordZ
  have HP := Lib.hid (vPlanned b off cap l w hb)
  have hlen : (sched l 48).length = 64 := sched_length l 48
  obtain ⟨ws, Hws⟩ : ∃ ws, Shut (sched l 48 = ws) := ⟨_, ⟨rfl⟩⟩
  rw [Hws.out] at HP hlen
  obtain ⟨C, HC⟩ : ∃ C, Shut ((ws.map wv).toArray = C) := ⟨_, ⟨rfl⟩⟩
  have hCs : C.size = 64 := by rw [← HC.out]; simp [hlen]
  have hC1 : C.all (·.oneCell') = true := by rw [← HC.out]; exact wv_one _
  rw [HC.out] at HP
  have HK := Lib.hid hK
  have HR := Lib.hid hrow
  clear hK hrow hb
  go_enter Tryd.func21, Tryd.ntmps21
  go_wp2_with fail
  refine HP.out.mono ?_
  rintro e w1 ⟨rfl, hg1⟩
  have h9 := heap_alloc_new w1 (.cells Z 68)
  obtain ⟨hb9, hg2⟩ := allocSet w1 Z C 68
  go_wp2_with (first
    | (refine wpList_allocT rfl 68 rfl _ hZ ?_)
    | (refine wpList_storeT rfl _ _ _ rfl w1.heap.size 68 Z C rfl rfl h9 (by rw [hCs]; exact planSize) (by rw [hZs, hCs]) hC1 ?_))
  simp only [Act.put, List.setIfInBounds_toArray, List.set_cons_succ, List.set_cons_zero]
  have hgt := Grows.trans' hg1 hg2
  have hKt := HK.out.up hgt
  have hRt := hgt.heap' HR.out
  have hgp : w.heap.size ≤ w1.heap.size := hg1.size
  obtain ⟨w2, hw2⟩ : ∃ x, (w1.alloc (.cells Z 68)).setRow w1.heap.size C = x := ⟨_, rfl⟩
  rw [hw2] at hb9 hgt hKt hRt ⊢
  obtain ⟨gp, Hgp⟩ : ∃ n, Hid (w1.heap.size = n) := ⟨_, rfl⟩
  rw [Hgp.out] at hb9 hgp ⊢
  have hcp : ∀ i, i < 64 → w2.cell? ⟨gp, i, none⟩ = some (.int .u32 (wn (ws.getD i 0))) := fun i hi => by
    rw [cell_of_row w2 gp i _ 68 (0, 0) hb9, ← HC.out]
    simp [hlen, hi, wv]
  have hcg : ∀ i, i < 8 → w2.cell? ⟨g, i, none⟩ = some (.int .u32 (wn (s.list.getD i 0))) := fun i hi => by
    rw [cell_of_row w2 g i _ T (0, 0) hRt, rowW_get _ _ _ (by simpa [R8.list] using hi)]
    rfl
  have Hcp := Lib.hid hcp
  have Hcg := Lib.hid hcg
  have HK2 := Lib.hid hKt
  have HR2 := Lib.hid hRt
  have HG2 := Lib.hid hgt
  have v0 : w2.cell? ⟨g, 0, none⟩ = some (.int .u32 (wn s.a)) := hcg 0 (by omega)
  have v1 : w2.cell? ⟨g, 1, none⟩ = some (.int .u32 (wn s.b)) := hcg 1 (by omega)
  have v2 : w2.cell? ⟨g, 2, none⟩ = some (.int .u32 (wn s.c)) := hcg 2 (by omega)
  have v3 : w2.cell? ⟨g, 3, none⟩ = some (.int .u32 (wn s.d)) := hcg 3 (by omega)
  have v4 : w2.cell? ⟨g, 4, none⟩ = some (.int .u32 (wn s.e)) := hcg 4 (by omega)
  have v5 : w2.cell? ⟨g, 5, none⟩ = some (.int .u32 (wn s.f)) := hcg 5 (by omega)
  have v6 : w2.cell? ⟨g, 6, none⟩ = some (.int .u32 (wn s.g)) := hcg 6 (by omega)
  have v7 : w2.cell? ⟨g, 7, none⟩ = some (.int .u32 (wn s.h)) := hcg 7 (by omega)
  clear hw2 hg1 hg2 h9 hb9 hgt hKt hRt hcp hcg hgp
  refine specs_region
    #[[], [0], [0, 1], [0, 1, 2], [], [4], [4, 5], [4, 5, 6], [], [8], [8, 9], [8, 9, 10], [], [12], [12, 13], [12, 13, 14], [], [16], [16, 17], [16, 17, 18], [], [20], [20, 21], [20, 21, 22], [], [24], [24, 25], [24, 25, 26], [], [28], [28, 29], [28, 29, 30], [0, 1, 2, 3], [0, 1, 2, 3, 4, 5, 6, 7, 32], [0, 1, 2, 3, 4, 5, 6, 7, 8, 9, 10, 11, 32, 33], [0, 1, 2, 3, 4, 5, 6, 7, 8, 9, 10, 11, 12, 13, 14, 15, 32, 33, 34], [0, 1, 2, 3, 4, 5, 6, 7, 8, 9, 10, 11, 12, 13, 14, 15, 16, 17, 18, 19, 32, 33, 34, 35], [0, 1, 2, 3, 4, 5, 6, 7, 8, 9, 10, 11, 12, 13, 14, 15, 16, 17, 18, 19, 20, 21, 22, 23, 32, 33, 34, 35, 36], [0, 1, 2, 3, 4, 5, 6, 7, 8, 9, 10, 11, 12, 13, 14, 15, 16, 17, 18, 19, 20, 21, 22, 23, 24, 25, 26, 27, 32, 33, 34, 35, 36, 37], [0, 1, 2, 3, 4, 5, 6, 7, 8, 9, 10, 11, 12, 13, 14, 15, 16, 17, 18, 19, 20, 21, 22, 23, 24, 25, 26, 27, 28, 29, 30, 31, 32, 33, 34, 35, 36, 37, 38]] #[[0], [], [], [], [0], [], [], [], [0], [], [], [], [0], [], [], [], [0], [], [], [], [0], [], [], [], [0], [], [], [], [0], [], [], [], [], [], [], [], [], [], [], []] #[true, true, true, true, true, true, true, true, true, true, true, true, true, true, true, true, true, true, true, true, true, true, true, true, true, true, true, true, true, true, true, true, true, true, true, true, true, true, true, true]
    ((.val ?v0) :: (.val ?v1) :: (.val ?v2) :: (.val ?v3) :: (.val ?v4) :: (.val ?v5) :: (.val ?v6) :: (.val ?v7) :: (.val ?v8) :: (.val ?v9) :: (.val ?v10) :: (.val ?v11) :: (.val ?v12) :: (.val ?v13) :: (.val ?v14) :: (.val ?v15) :: (.val ?v16) :: (.val ?v17) :: (.val ?v18) :: (.val ?v19) :: (.val ?v20) :: (.val ?v21) :: (.val ?v22) :: (.val ?v23) :: (.val ?v24) :: (.val ?v25) :: (.val ?v26) :: (.val ?v27) :: (.val ?v28) :: (.val ?v29) :: (.val ?v30) :: (.val ?v31) :: (.val ?v32) :: (.val ?v33) :: (.val ?v34) :: (.val ?v35) :: (.val ?v36) :: (.val ?v37) :: (.val ?v38) :: (.val ?v39) :: []).toArray
    hmx ?chk ?grd ?stp ?rst
  case chk => rfl
  case stp =>
    refine ⟨?_, ?_, ?_, ?_, ?_, ?_, ?_, ?_, ?_, ?_, ?_, ?_, ?_, ?_, ?_, ?_, ?_, ?_, ?_, ?_, ?_, ?_, ?_, ?_, ?_, ?_, ?_, ?_, ?_, ?_, ?_, ?_, ?_, ?_, ?_, ?_, ?_, ?_, ?_, ?_, trivial⟩
    · refine step_intro rfl rfl fun ρ X hc hf hgl hX hp ho => ?_
      change StepOk _ { dst := _, op := Op.move (Operand.tmp 0), type := _, pos := _, after := _, guard := _ } _ _ _
      have k0 : ρ (.tmp 0) = .pointer (some ⟨g, 0, none⟩) := ho 0 (by decide)
      clear hp ho
      refine StepOk.of_run (v := ?v0) (w' := X) ?_ ⟨rfl, Below.refl _ _⟩
      clear hX
      go_simp
      all_goals try go_bits
      all_goals try simp only [IntWalk.iteOmega]
      all_goals try go_bits
      all_goals rfl
    · refine step_intro rfl rfl fun ρ X hc hf hgl hX hp ho => ?_
      change StepOk _ { dst := _, op := Op.nilCheck (Operand.tmp 20), type := _, pos := _, after := _, guard := _ } _ _ _
      have k20 : ρ (.tmp 20) = ?v0 := hp 0 (by decide)
      clear hp ho
      refine StepOk.of_run (v := ?v1) (w' := X) ?_ ⟨rfl, Below.refl _ _⟩
      clear hX
      go_simp
      all_goals try go_bits
      all_goals try simp only [IntWalk.iteOmega]
      all_goals try go_bits
      all_goals rfl
    · refine step_intro rfl rfl fun ρ X hc hf hgl hX hp ho => ?_
      change StepOk _ { dst := _, op := Op.indexAddr 48 (Operand.tmp 21) (Operand.const (Value.int IntKind.i64 0)), type := _, pos := _, after := _, guard := _ } _ _ _
      have k21 : ρ (.tmp 21) = ?v1 := hp 1 (by decide)
      clear hp ho
      refine StepOk.of_run (v := ?v2) (w' := X) ?_ ⟨rfl, Below.refl _ _⟩
      clear hX
      go_simp
      all_goals try go_bits
      all_goals try simp only [IntWalk.iteOmega]
      all_goals try go_bits
      all_goals rfl
    · refine step_intro rfl rfl fun ρ X hc hf hgl hX hp ho => ?_
      change StepOk _ { dst := _, op := Op.load 44 (Operand.tmp 22), type := _, pos := _, after := _, guard := _ } _ _ _
      have k22 : ρ (.tmp 22) = ?v2 := hp 2 (by decide)
      have v0X := Grows.cell' hX v0
      have v1X := Grows.cell' hX v1
      have v2X := Grows.cell' hX v2
      have v3X := Grows.cell' hX v3
      have v4X := Grows.cell' hX v4
      have v5X := Grows.cell' hX v5
      have v6X := Grows.cell' hX v6
      have v7X := Grows.cell' hX v7
      clear hp ho
      refine StepOk.of_run (v := ?v3) (w' := X) ?_ ⟨rfl, Below.refl _ _⟩
      clear hX
      go_simp
      all_goals try go_bits
      all_goals try simp only [IntWalk.iteOmega]
      all_goals try go_bits
      all_goals rfl
    · refine step_intro rfl rfl fun ρ X hc hf hgl hX hp ho => ?_
      change StepOk _ { dst := _, op := Op.move (Operand.tmp 0), type := _, pos := _, after := _, guard := _ } _ _ _
      have k0 : ρ (.tmp 0) = .pointer (some ⟨g, 0, none⟩) := ho 0 (by decide)
      clear hp ho
      refine StepOk.of_run (v := ?v4) (w' := X) ?_ ⟨rfl, Below.refl _ _⟩
      clear hX
      go_simp
      all_goals try go_bits
      all_goals try simp only [IntWalk.iteOmega]
      all_goals try go_bits
      all_goals rfl
    · refine step_intro rfl rfl fun ρ X hc hf hgl hX hp ho => ?_
      change StepOk _ { dst := _, op := Op.nilCheck (Operand.tmp 24), type := _, pos := _, after := _, guard := _ } _ _ _
      have k24 : ρ (.tmp 24) = ?v4 := hp 4 (by decide)
      clear hp ho
      refine StepOk.of_run (v := ?v5) (w' := X) ?_ ⟨rfl, Below.refl _ _⟩
      clear hX
      go_simp
      all_goals try go_bits
      all_goals try simp only [IntWalk.iteOmega]
      all_goals try go_bits
      all_goals rfl
    · refine step_intro rfl rfl fun ρ X hc hf hgl hX hp ho => ?_
      change StepOk _ { dst := _, op := Op.indexAddr 48 (Operand.tmp 25) (Operand.const (Value.int IntKind.i64 1)), type := _, pos := _, after := _, guard := _ } _ _ _
      have k25 : ρ (.tmp 25) = ?v5 := hp 5 (by decide)
      clear hp ho
      refine StepOk.of_run (v := ?v6) (w' := X) ?_ ⟨rfl, Below.refl _ _⟩
      clear hX
      go_simp
      all_goals try go_bits
      all_goals try simp only [IntWalk.iteOmega]
      all_goals try go_bits
      all_goals rfl
    · refine step_intro rfl rfl fun ρ X hc hf hgl hX hp ho => ?_
      change StepOk _ { dst := _, op := Op.load 44 (Operand.tmp 26), type := _, pos := _, after := _, guard := _ } _ _ _
      have k26 : ρ (.tmp 26) = ?v6 := hp 6 (by decide)
      have v0X := Grows.cell' hX v0
      have v1X := Grows.cell' hX v1
      have v2X := Grows.cell' hX v2
      have v3X := Grows.cell' hX v3
      have v4X := Grows.cell' hX v4
      have v5X := Grows.cell' hX v5
      have v6X := Grows.cell' hX v6
      have v7X := Grows.cell' hX v7
      clear hp ho
      refine StepOk.of_run (v := ?v7) (w' := X) ?_ ⟨rfl, Below.refl _ _⟩
      clear hX
      go_simp
      all_goals try go_bits
      all_goals try simp only [IntWalk.iteOmega]
      all_goals try go_bits
      all_goals rfl
    · refine step_intro rfl rfl fun ρ X hc hf hgl hX hp ho => ?_
      change StepOk _ { dst := _, op := Op.move (Operand.tmp 0), type := _, pos := _, after := _, guard := _ } _ _ _
      have k0 : ρ (.tmp 0) = .pointer (some ⟨g, 0, none⟩) := ho 0 (by decide)
      clear hp ho
      refine StepOk.of_run (v := ?v8) (w' := X) ?_ ⟨rfl, Below.refl _ _⟩
      clear hX
      go_simp
      all_goals try go_bits
      all_goals try simp only [IntWalk.iteOmega]
      all_goals try go_bits
      all_goals rfl
    · refine step_intro rfl rfl fun ρ X hc hf hgl hX hp ho => ?_
      change StepOk _ { dst := _, op := Op.nilCheck (Operand.tmp 28), type := _, pos := _, after := _, guard := _ } _ _ _
      have k28 : ρ (.tmp 28) = ?v8 := hp 8 (by decide)
      clear hp ho
      refine StepOk.of_run (v := ?v9) (w' := X) ?_ ⟨rfl, Below.refl _ _⟩
      clear hX
      go_simp
      all_goals try go_bits
      all_goals try simp only [IntWalk.iteOmega]
      all_goals try go_bits
      all_goals rfl
    · refine step_intro rfl rfl fun ρ X hc hf hgl hX hp ho => ?_
      change StepOk _ { dst := _, op := Op.indexAddr 48 (Operand.tmp 29) (Operand.const (Value.int IntKind.i64 2)), type := _, pos := _, after := _, guard := _ } _ _ _
      have k29 : ρ (.tmp 29) = ?v9 := hp 9 (by decide)
      clear hp ho
      refine StepOk.of_run (v := ?v10) (w' := X) ?_ ⟨rfl, Below.refl _ _⟩
      clear hX
      go_simp
      all_goals try go_bits
      all_goals try simp only [IntWalk.iteOmega]
      all_goals try go_bits
      all_goals rfl
    · refine step_intro rfl rfl fun ρ X hc hf hgl hX hp ho => ?_
      change StepOk _ { dst := _, op := Op.load 44 (Operand.tmp 30), type := _, pos := _, after := _, guard := _ } _ _ _
      have k30 : ρ (.tmp 30) = ?v10 := hp 10 (by decide)
      have v0X := Grows.cell' hX v0
      have v1X := Grows.cell' hX v1
      have v2X := Grows.cell' hX v2
      have v3X := Grows.cell' hX v3
      have v4X := Grows.cell' hX v4
      have v5X := Grows.cell' hX v5
      have v6X := Grows.cell' hX v6
      have v7X := Grows.cell' hX v7
      clear hp ho
      refine StepOk.of_run (v := ?v11) (w' := X) ?_ ⟨rfl, Below.refl _ _⟩
      clear hX
      go_simp
      all_goals try go_bits
      all_goals try simp only [IntWalk.iteOmega]
      all_goals try go_bits
      all_goals rfl
    · refine step_intro rfl rfl fun ρ X hc hf hgl hX hp ho => ?_
      change StepOk _ { dst := _, op := Op.move (Operand.tmp 0), type := _, pos := _, after := _, guard := _ } _ _ _
      have k0 : ρ (.tmp 0) = .pointer (some ⟨g, 0, none⟩) := ho 0 (by decide)
      clear hp ho
      refine StepOk.of_run (v := ?v12) (w' := X) ?_ ⟨rfl, Below.refl _ _⟩
      clear hX
      go_simp
      all_goals try go_bits
      all_goals try simp only [IntWalk.iteOmega]
      all_goals try go_bits
      all_goals rfl
    · refine step_intro rfl rfl fun ρ X hc hf hgl hX hp ho => ?_
      change StepOk _ { dst := _, op := Op.nilCheck (Operand.tmp 32), type := _, pos := _, after := _, guard := _ } _ _ _
      have k32 : ρ (.tmp 32) = ?v12 := hp 12 (by decide)
      clear hp ho
      refine StepOk.of_run (v := ?v13) (w' := X) ?_ ⟨rfl, Below.refl _ _⟩
      clear hX
      go_simp
      all_goals try go_bits
      all_goals try simp only [IntWalk.iteOmega]
      all_goals try go_bits
      all_goals rfl
    · refine step_intro rfl rfl fun ρ X hc hf hgl hX hp ho => ?_
      change StepOk _ { dst := _, op := Op.indexAddr 48 (Operand.tmp 33) (Operand.const (Value.int IntKind.i64 3)), type := _, pos := _, after := _, guard := _ } _ _ _
      have k33 : ρ (.tmp 33) = ?v13 := hp 13 (by decide)
      clear hp ho
      refine StepOk.of_run (v := ?v14) (w' := X) ?_ ⟨rfl, Below.refl _ _⟩
      clear hX
      go_simp
      all_goals try go_bits
      all_goals try simp only [IntWalk.iteOmega]
      all_goals try go_bits
      all_goals rfl
    · refine step_intro rfl rfl fun ρ X hc hf hgl hX hp ho => ?_
      change StepOk _ { dst := _, op := Op.load 44 (Operand.tmp 34), type := _, pos := _, after := _, guard := _ } _ _ _
      have k34 : ρ (.tmp 34) = ?v14 := hp 14 (by decide)
      have v0X := Grows.cell' hX v0
      have v1X := Grows.cell' hX v1
      have v2X := Grows.cell' hX v2
      have v3X := Grows.cell' hX v3
      have v4X := Grows.cell' hX v4
      have v5X := Grows.cell' hX v5
      have v6X := Grows.cell' hX v6
      have v7X := Grows.cell' hX v7
      clear hp ho
      refine StepOk.of_run (v := ?v15) (w' := X) ?_ ⟨rfl, Below.refl _ _⟩
      clear hX
      go_simp
      all_goals try go_bits
      all_goals try simp only [IntWalk.iteOmega]
      all_goals try go_bits
      all_goals rfl
    · refine step_intro rfl rfl fun ρ X hc hf hgl hX hp ho => ?_
      change StepOk _ { dst := _, op := Op.move (Operand.tmp 0), type := _, pos := _, after := _, guard := _ } _ _ _
      have k0 : ρ (.tmp 0) = .pointer (some ⟨g, 0, none⟩) := ho 0 (by decide)
      clear hp ho
      refine StepOk.of_run (v := ?v16) (w' := X) ?_ ⟨rfl, Below.refl _ _⟩
      clear hX
      go_simp
      all_goals try go_bits
      all_goals try simp only [IntWalk.iteOmega]
      all_goals try go_bits
      all_goals rfl
    · refine step_intro rfl rfl fun ρ X hc hf hgl hX hp ho => ?_
      change StepOk _ { dst := _, op := Op.nilCheck (Operand.tmp 36), type := _, pos := _, after := _, guard := _ } _ _ _
      have k36 : ρ (.tmp 36) = ?v16 := hp 16 (by decide)
      clear hp ho
      refine StepOk.of_run (v := ?v17) (w' := X) ?_ ⟨rfl, Below.refl _ _⟩
      clear hX
      go_simp
      all_goals try go_bits
      all_goals try simp only [IntWalk.iteOmega]
      all_goals try go_bits
      all_goals rfl
    · refine step_intro rfl rfl fun ρ X hc hf hgl hX hp ho => ?_
      change StepOk _ { dst := _, op := Op.indexAddr 48 (Operand.tmp 37) (Operand.const (Value.int IntKind.i64 4)), type := _, pos := _, after := _, guard := _ } _ _ _
      have k37 : ρ (.tmp 37) = ?v17 := hp 17 (by decide)
      clear hp ho
      refine StepOk.of_run (v := ?v18) (w' := X) ?_ ⟨rfl, Below.refl _ _⟩
      clear hX
      go_simp
      all_goals try go_bits
      all_goals try simp only [IntWalk.iteOmega]
      all_goals try go_bits
      all_goals rfl
    · refine step_intro rfl rfl fun ρ X hc hf hgl hX hp ho => ?_
      change StepOk _ { dst := _, op := Op.load 44 (Operand.tmp 38), type := _, pos := _, after := _, guard := _ } _ _ _
      have k38 : ρ (.tmp 38) = ?v18 := hp 18 (by decide)
      have v0X := Grows.cell' hX v0
      have v1X := Grows.cell' hX v1
      have v2X := Grows.cell' hX v2
      have v3X := Grows.cell' hX v3
      have v4X := Grows.cell' hX v4
      have v5X := Grows.cell' hX v5
      have v6X := Grows.cell' hX v6
      have v7X := Grows.cell' hX v7
      clear hp ho
      refine StepOk.of_run (v := ?v19) (w' := X) ?_ ⟨rfl, Below.refl _ _⟩
      clear hX
      go_simp
      all_goals try go_bits
      all_goals try simp only [IntWalk.iteOmega]
      all_goals try go_bits
      all_goals rfl
    · refine step_intro rfl rfl fun ρ X hc hf hgl hX hp ho => ?_
      change StepOk _ { dst := _, op := Op.move (Operand.tmp 0), type := _, pos := _, after := _, guard := _ } _ _ _
      have k0 : ρ (.tmp 0) = .pointer (some ⟨g, 0, none⟩) := ho 0 (by decide)
      clear hp ho
      refine StepOk.of_run (v := ?v20) (w' := X) ?_ ⟨rfl, Below.refl _ _⟩
      clear hX
      go_simp
      all_goals try go_bits
      all_goals try simp only [IntWalk.iteOmega]
      all_goals try go_bits
      all_goals rfl
    · refine step_intro rfl rfl fun ρ X hc hf hgl hX hp ho => ?_
      change StepOk _ { dst := _, op := Op.nilCheck (Operand.tmp 40), type := _, pos := _, after := _, guard := _ } _ _ _
      have k40 : ρ (.tmp 40) = ?v20 := hp 20 (by decide)
      clear hp ho
      refine StepOk.of_run (v := ?v21) (w' := X) ?_ ⟨rfl, Below.refl _ _⟩
      clear hX
      go_simp
      all_goals try go_bits
      all_goals try simp only [IntWalk.iteOmega]
      all_goals try go_bits
      all_goals rfl
    · refine step_intro rfl rfl fun ρ X hc hf hgl hX hp ho => ?_
      change StepOk _ { dst := _, op := Op.indexAddr 48 (Operand.tmp 41) (Operand.const (Value.int IntKind.i64 5)), type := _, pos := _, after := _, guard := _ } _ _ _
      have k41 : ρ (.tmp 41) = ?v21 := hp 21 (by decide)
      clear hp ho
      refine StepOk.of_run (v := ?v22) (w' := X) ?_ ⟨rfl, Below.refl _ _⟩
      clear hX
      go_simp
      all_goals try go_bits
      all_goals try simp only [IntWalk.iteOmega]
      all_goals try go_bits
      all_goals rfl
    · refine step_intro rfl rfl fun ρ X hc hf hgl hX hp ho => ?_
      change StepOk _ { dst := _, op := Op.load 44 (Operand.tmp 42), type := _, pos := _, after := _, guard := _ } _ _ _
      have k42 : ρ (.tmp 42) = ?v22 := hp 22 (by decide)
      have v0X := Grows.cell' hX v0
      have v1X := Grows.cell' hX v1
      have v2X := Grows.cell' hX v2
      have v3X := Grows.cell' hX v3
      have v4X := Grows.cell' hX v4
      have v5X := Grows.cell' hX v5
      have v6X := Grows.cell' hX v6
      have v7X := Grows.cell' hX v7
      clear hp ho
      refine StepOk.of_run (v := ?v23) (w' := X) ?_ ⟨rfl, Below.refl _ _⟩
      clear hX
      go_simp
      all_goals try go_bits
      all_goals try simp only [IntWalk.iteOmega]
      all_goals try go_bits
      all_goals rfl
    · refine step_intro rfl rfl fun ρ X hc hf hgl hX hp ho => ?_
      change StepOk _ { dst := _, op := Op.move (Operand.tmp 0), type := _, pos := _, after := _, guard := _ } _ _ _
      have k0 : ρ (.tmp 0) = .pointer (some ⟨g, 0, none⟩) := ho 0 (by decide)
      clear hp ho
      refine StepOk.of_run (v := ?v24) (w' := X) ?_ ⟨rfl, Below.refl _ _⟩
      clear hX
      go_simp
      all_goals try go_bits
      all_goals try simp only [IntWalk.iteOmega]
      all_goals try go_bits
      all_goals rfl
    · refine step_intro rfl rfl fun ρ X hc hf hgl hX hp ho => ?_
      change StepOk _ { dst := _, op := Op.nilCheck (Operand.tmp 44), type := _, pos := _, after := _, guard := _ } _ _ _
      have k44 : ρ (.tmp 44) = ?v24 := hp 24 (by decide)
      clear hp ho
      refine StepOk.of_run (v := ?v25) (w' := X) ?_ ⟨rfl, Below.refl _ _⟩
      clear hX
      go_simp
      all_goals try go_bits
      all_goals try simp only [IntWalk.iteOmega]
      all_goals try go_bits
      all_goals rfl
    · refine step_intro rfl rfl fun ρ X hc hf hgl hX hp ho => ?_
      change StepOk _ { dst := _, op := Op.indexAddr 48 (Operand.tmp 45) (Operand.const (Value.int IntKind.i64 6)), type := _, pos := _, after := _, guard := _ } _ _ _
      have k45 : ρ (.tmp 45) = ?v25 := hp 25 (by decide)
      clear hp ho
      refine StepOk.of_run (v := ?v26) (w' := X) ?_ ⟨rfl, Below.refl _ _⟩
      clear hX
      go_simp
      all_goals try go_bits
      all_goals try simp only [IntWalk.iteOmega]
      all_goals try go_bits
      all_goals rfl
    · refine step_intro rfl rfl fun ρ X hc hf hgl hX hp ho => ?_
      change StepOk _ { dst := _, op := Op.load 44 (Operand.tmp 46), type := _, pos := _, after := _, guard := _ } _ _ _
      have k46 : ρ (.tmp 46) = ?v26 := hp 26 (by decide)
      have v0X := Grows.cell' hX v0
      have v1X := Grows.cell' hX v1
      have v2X := Grows.cell' hX v2
      have v3X := Grows.cell' hX v3
      have v4X := Grows.cell' hX v4
      have v5X := Grows.cell' hX v5
      have v6X := Grows.cell' hX v6
      have v7X := Grows.cell' hX v7
      clear hp ho
      refine StepOk.of_run (v := ?v27) (w' := X) ?_ ⟨rfl, Below.refl _ _⟩
      clear hX
      go_simp
      all_goals try go_bits
      all_goals try simp only [IntWalk.iteOmega]
      all_goals try go_bits
      all_goals rfl
    · refine step_intro rfl rfl fun ρ X hc hf hgl hX hp ho => ?_
      change StepOk _ { dst := _, op := Op.move (Operand.tmp 0), type := _, pos := _, after := _, guard := _ } _ _ _
      have k0 : ρ (.tmp 0) = .pointer (some ⟨g, 0, none⟩) := ho 0 (by decide)
      clear hp ho
      refine StepOk.of_run (v := ?v28) (w' := X) ?_ ⟨rfl, Below.refl _ _⟩
      clear hX
      go_simp
      all_goals try go_bits
      all_goals try simp only [IntWalk.iteOmega]
      all_goals try go_bits
      all_goals rfl
    · refine step_intro rfl rfl fun ρ X hc hf hgl hX hp ho => ?_
      change StepOk _ { dst := _, op := Op.nilCheck (Operand.tmp 48), type := _, pos := _, after := _, guard := _ } _ _ _
      have k48 : ρ (.tmp 48) = ?v28 := hp 28 (by decide)
      clear hp ho
      refine StepOk.of_run (v := ?v29) (w' := X) ?_ ⟨rfl, Below.refl _ _⟩
      clear hX
      go_simp
      all_goals try go_bits
      all_goals try simp only [IntWalk.iteOmega]
      all_goals try go_bits
      all_goals rfl
    · refine step_intro rfl rfl fun ρ X hc hf hgl hX hp ho => ?_
      change StepOk _ { dst := _, op := Op.indexAddr 48 (Operand.tmp 49) (Operand.const (Value.int IntKind.i64 7)), type := _, pos := _, after := _, guard := _ } _ _ _
      have k49 : ρ (.tmp 49) = ?v29 := hp 29 (by decide)
      clear hp ho
      refine StepOk.of_run (v := ?v30) (w' := X) ?_ ⟨rfl, Below.refl _ _⟩
      clear hX
      go_simp
      all_goals try go_bits
      all_goals try simp only [IntWalk.iteOmega]
      all_goals try go_bits
      all_goals rfl
    · refine step_intro rfl rfl fun ρ X hc hf hgl hX hp ho => ?_
      change StepOk _ { dst := _, op := Op.load 44 (Operand.tmp 50), type := _, pos := _, after := _, guard := _ } _ _ _
      have k50 : ρ (.tmp 50) = ?v30 := hp 30 (by decide)
      have v0X := Grows.cell' hX v0
      have v1X := Grows.cell' hX v1
      have v2X := Grows.cell' hX v2
      have v3X := Grows.cell' hX v3
      have v4X := Grows.cell' hX v4
      have v5X := Grows.cell' hX v5
      have v6X := Grows.cell' hX v6
      have v7X := Grows.cell' hX v7
      clear hp ho
      refine StepOk.of_run (v := ?v31) (w' := X) ?_ ⟨rfl, Below.refl _ _⟩
      clear hX
      go_simp
      all_goals try go_bits
      all_goals try simp only [IntWalk.iteOmega]
      all_goals try go_bits
      all_goals rfl
    · refine step_intro rfl rfl fun ρ X hc hf hgl hX hp ho => ?_
      change StepOk _ { dst := _, op := Op.assign (Operand.tmp 23), type := _, pos := _, after := _, guard := _ } _ _ _
      have k23 : ρ (.tmp 23) = ?v3 := hp 3 (by decide)
      clear hp ho
      refine StepOk.of_run (v := ?v32) (w' := X) ?_ ⟨rfl, Below.refl _ _⟩
      clear hX
      go_simp
      all_goals try go_bits
      all_goals try simp only [IntWalk.iteOmega]
      all_goals try go_bits
      all_goals rfl
    · refine step_intro rfl rfl fun ρ X hc hf hgl hX hp ho => ?_
      change StepOk _ { dst := _, op := Op.assign (Operand.tmp 27), type := _, pos := _, after := _, guard := _ } _ _ _
      have k27 : ρ (.tmp 27) = ?v7 := hp 7 (by decide)
      clear hp ho
      refine StepOk.of_run (v := ?v33) (w' := X) ?_ ⟨rfl, Below.refl _ _⟩
      clear hX
      go_simp
      all_goals try go_bits
      all_goals try simp only [IntWalk.iteOmega]
      all_goals try go_bits
      all_goals rfl
    · refine step_intro rfl rfl fun ρ X hc hf hgl hX hp ho => ?_
      change StepOk _ { dst := _, op := Op.assign (Operand.tmp 31), type := _, pos := _, after := _, guard := _ } _ _ _
      have k31 : ρ (.tmp 31) = ?v11 := hp 11 (by decide)
      clear hp ho
      refine StepOk.of_run (v := ?v34) (w' := X) ?_ ⟨rfl, Below.refl _ _⟩
      clear hX
      go_simp
      all_goals try go_bits
      all_goals try simp only [IntWalk.iteOmega]
      all_goals try go_bits
      all_goals rfl
    · refine step_intro rfl rfl fun ρ X hc hf hgl hX hp ho => ?_
      change StepOk _ { dst := _, op := Op.assign (Operand.tmp 35), type := _, pos := _, after := _, guard := _ } _ _ _
      have k35 : ρ (.tmp 35) = ?v15 := hp 15 (by decide)
      clear hp ho
      refine StepOk.of_run (v := ?v35) (w' := X) ?_ ⟨rfl, Below.refl _ _⟩
      clear hX
      go_simp
      all_goals try go_bits
      all_goals try simp only [IntWalk.iteOmega]
      all_goals try go_bits
      all_goals rfl
    · refine step_intro rfl rfl fun ρ X hc hf hgl hX hp ho => ?_
      change StepOk _ { dst := _, op := Op.assign (Operand.tmp 39), type := _, pos := _, after := _, guard := _ } _ _ _
      have k39 : ρ (.tmp 39) = ?v19 := hp 19 (by decide)
      clear hp ho
      refine StepOk.of_run (v := ?v36) (w' := X) ?_ ⟨rfl, Below.refl _ _⟩
      clear hX
      go_simp
      all_goals try go_bits
      all_goals try simp only [IntWalk.iteOmega]
      all_goals try go_bits
      all_goals rfl
    · refine step_intro rfl rfl fun ρ X hc hf hgl hX hp ho => ?_
      change StepOk _ { dst := _, op := Op.assign (Operand.tmp 43), type := _, pos := _, after := _, guard := _ } _ _ _
      have k43 : ρ (.tmp 43) = ?v23 := hp 23 (by decide)
      clear hp ho
      refine StepOk.of_run (v := ?v37) (w' := X) ?_ ⟨rfl, Below.refl _ _⟩
      clear hX
      go_simp
      all_goals try go_bits
      all_goals try simp only [IntWalk.iteOmega]
      all_goals try go_bits
      all_goals rfl
    · refine step_intro rfl rfl fun ρ X hc hf hgl hX hp ho => ?_
      change StepOk _ { dst := _, op := Op.assign (Operand.tmp 47), type := _, pos := _, after := _, guard := _ } _ _ _
      have k47 : ρ (.tmp 47) = ?v27 := hp 27 (by decide)
      clear hp ho
      refine StepOk.of_run (v := ?v38) (w' := X) ?_ ⟨rfl, Below.refl _ _⟩
      clear hX
      go_simp
      all_goals try go_bits
      all_goals try simp only [IntWalk.iteOmega]
      all_goals try go_bits
      all_goals rfl
    · refine step_intro rfl rfl fun ρ X hc hf hgl hX hp ho => ?_
      change StepOk _ { dst := _, op := Op.assign (Operand.tmp 51), type := _, pos := _, after := _, guard := _ } _ _ _
      have k51 : ρ (.tmp 51) = ?v31 := hp 31 (by decide)
      clear hp ho
      refine StepOk.of_run (v := ?v39) (w' := X) ?_ ⟨rfl, Below.refl _ _⟩
      clear hX
      go_simp
      all_goals try go_bits
      all_goals try simp only [IntWalk.iteOmega]
      all_goals try go_bits
      all_goals rfl
  case grd => rfl
  case rst =>
    intro a0 X hb
    have hfr := hb.frame ((5, ?v32) :: (6, ?v33) :: (7, ?v34) :: (8, ?v35) :: (9, ?v36) :: (10, ?v37) :: (11, ?v38) :: (12, ?v39) :: (20, ?v0) :: (21, ?v1) :: (22, ?v2) :: (23, ?v3) :: (24, ?v4) :: (25, ?v5) :: (26, ?v6) :: (27, ?v7) :: (28, ?v8) :: (29, ?v9) :: (30, ?v10) :: (31, ?v11) :: (32, ?v12) :: (33, ?v13) :: (34, ?v14) :: (35, ?v15) :: (36, ?v16) :: (37, ?v17) :: (38, ?v18) :: (39, ?v19) :: (40, ?v20) :: (41, ?v21) :: (42, ?v22) :: (43, ?v23) :: (44, ?v24) :: (45, ?v25) :: (46, ?v26) :: (47, ?v27) :: (48, ?v28) :: (49, ?v29) :: (50, ?v30) :: (51, ?v31) :: []) rfl ⟨hb.done' 32 5 rfl rfl, hb.done' 33 6 rfl rfl, hb.done' 34 7 rfl rfl, hb.done' 35 8 rfl rfl, hb.done' 36 9 rfl rfl, hb.done' 37 10 rfl rfl, hb.done' 38 11 rfl rfl, hb.done' 39 12 rfl rfl, hb.done' 0 20 rfl rfl, hb.done' 1 21 rfl rfl, hb.done' 2 22 rfl rfl, hb.done' 3 23 rfl rfl, hb.done' 4 24 rfl rfl, hb.done' 5 25 rfl rfl, hb.done' 6 26 rfl rfl, hb.done' 7 27 rfl rfl, hb.done' 8 28 rfl rfl, hb.done' 9 29 rfl rfl, hb.done' 10 30 rfl rfl, hb.done' 11 31 rfl rfl, hb.done' 12 32 rfl rfl, hb.done' 13 33 rfl rfl, hb.done' 14 34 rfl rfl, hb.done' 15 35 rfl rfl, hb.done' 16 36 rfl rfl, hb.done' 17 37 rfl rfl, hb.done' 18 38 rfl rfl, hb.done' 19 39 rfl rfl, hb.done' 20 40 rfl rfl, hb.done' 21 41 rfl rfl, hb.done' 22 42 rfl rfl, hb.done' 23 43 rfl rfl, hb.done' 24 44 rfl rfl, hb.done' 25 45 rfl rfl, hb.done' 26 46 rfl rfl, hb.done' 27 47 rfl rfl, hb.done' 28 48 rfl rfl, hb.done' 29 49 rfl rfl, hb.done' 30 50 rfl rfl, hb.done' 31 51 rfl rfl, trivial⟩
    simp only [updL, ↓reduceIte, Nat.reduceEqDiff, Nat.reduceAdd, Nat.zero_add] at hfr
    have HX := Lib.hid hb.ext
    clear hb
    subst hfr
    have HX1 := HX
    clear v0 v1 v2 v3 v4 v5 v6 v7
    go_wp2
    go_loopw [5, 6, 7, 8, 9, 10, 11, 12, 52] (fun t5 t6 t7 t8 t9 t10 t11 t12 t52 wr => ∃ (tt : Nat) (S : R8), tt ≤ 64 ∧ t52 = .int .i64 tt ∧ Hid (S = rounds s ws tt) ∧ t5 = .int .u32 (wn S.a) ∧ t6 = .int .u32 (wn S.b) ∧ t7 = .int .u32 (wn S.c) ∧ t8 = .int .u32 (wn S.d) ∧ t9 = .int .u32 (wn S.e) ∧ t10 = .int .u32 (wn S.f) ∧ t11 = .int .u32 (wn S.g) ∧ t12 = .int .u32 (wn S.h) ∧ Grows w2 wr)
      (fun _ _ _ _ _ _ _ _ t52 _ => 64 - (intOf t52).toNat)
    case atStart => exact ⟨0, s, by omega, rfl, rfl, rfl, rfl, rfl, rfl, rfl, rfl, rfl, rfl, HX1.out⟩
    case round =>
      obtain ⟨tt, S, htt, rfl, HS, rfl, rfl, rfl, rfl, rfl, rfl, rfl, rfl, hGk⟩ := hrel
      by_cases hlt : tt < 64
      · have hlt' : (tt : Int) < 64 := by omega
        have btt : ¬ 64 ≤ (tt : Int) := by omega
        have cw := hGk.cell' (Hcp.out tt hlt)
        have ck := hGk.cell' (HK2.out.out tt hlt)
        obtain ⟨kt, Hkt⟩ : ∃ x, Hid (kK.getD tt 0 = x) := ⟨_, rfl⟩
        obtain ⟨wt, Hwt⟩ : ∃ x, Hid (ws.getD tt 0 = x) := ⟨_, rfl⟩
        rw [Hkt.out] at ck
        rw [Hwt.out] at cw
        have HGk := Lib.hid hGk
        have Htt := Lib.hid hlt
        clear hGk hlt htt
        go_wp2
        refine specs_region
          #[[], [], [1], [0, 1, 2], [], [], [4, 5], [], [7], [], [7, 8, 9], [4, 5, 6, 7, 8, 9, 10], [0, 1, 2, 3, 4, 5, 6, 7, 8, 9, 10, 11], [], [13], [13, 14], [0, 1, 2, 3, 4, 5, 6, 7, 8, 9, 10, 11, 12, 13, 14, 15], [], [17], [17, 18], [0, 1, 2, 3, 4, 5, 6, 7, 8, 9, 10, 11, 12, 13, 14, 15, 16, 17, 18, 19], [0, 1, 2, 3, 4, 5, 6, 7, 8, 9, 10, 11, 12, 13, 14, 15, 16, 17, 18, 19, 20]] #[[12], [9], [], [], [9], [10], [], [9], [], [11], [], [], [], [13], [], [], [], [13], [4], [], [], []] #[true, true, true, true, true, true, true, true, true, true, true, true, true, true, true, true, true, true, true, true, true, true]
          ((.val ?vb0) :: (.val ?vb1) :: (.val ?vb2) :: (.val ?vb3) :: (.val ?vb4) :: (.val ?vb5) :: (.val ?vb6) :: (.val ?vb7) :: (.val ?vb8) :: (.val ?vb9) :: (.val ?vb10) :: (.val ?vb11) :: (.val ?vb12) :: (.val ?vb13) :: (.val ?vb14) :: (.val ?vb15) :: (.val ?vb16) :: (.val ?vb17) :: (.val ?vb18) :: (.val ?vb19) :: (.val ?vb20) :: (.val ?vb21) :: []).toArray
          hmx ?chkb ?grdb ?stpb ?rstb
        case chkb => rfl
        case stpb =>
          refine ⟨?_, ?_, ?_, ?_, ?_, ?_, ?_, ?_, ?_, ?_, ?_, ?_, ?_, ?_, ?_, ?_, ?_, ?_, ?_, ?_, ?_, ?_, trivial⟩
          · refine step_intro rfl rfl fun ρ X hc hf hgl hX hp ho => ?_
            change StepOk _ { dst := _, op := Op.move (Operand.tmp 12), type := _, pos := _, after := _, guard := _ } _ _ _
            have k12 : ρ (.tmp 12) = .int .u32 (wn S.h) := ho 12 (by decide)
            clear hp ho
            refine StepOk.of_run (v := ?vb0) (w' := X) ?_ ⟨rfl, Below.refl _ _⟩
            clear hX
            go_simp
            all_goals try go_bits
            all_goals try simp only [IntWalk.iteOmega]
            all_goals try go_bits
            all_goals rfl
          · refine step_intro rfl rfl fun ρ X hc hf hgl hX hp ho => ?_
            change StepOk _ { dst := _, op := Op.move (Operand.tmp 9), type := _, pos := _, after := _, guard := _ } _ _ _
            have k9 : ρ (.tmp 9) = .int .u32 (wn S.e) := ho 9 (by decide)
            clear hp ho
            refine StepOk.of_run (v := ?vb1) (w' := X) ?_ ⟨rfl, Below.refl _ _⟩
            clear hX
            go_simp
            all_goals try go_bits
            all_goals try simp only [IntWalk.iteOmega]
            all_goals try go_bits
            all_goals rfl
          · refine step_intro rfl rfl fun ρ X hc hf hgl hX hp ho => ?_
            change StepOk _ { dst := _, op := Op.call { callee := Callee.value (Operand.func 30), args := #[Operand.tmp 56, Operand.const (Value.int IntKind.i64 6), Operand.const (Value.int IntKind.i64 11), Operand.const (Value.int IntKind.i64 25)], argTypes := #[44, 3, 3, 3] }, type := _, pos := _, after := _, guard := _ } _ _ _
            have k56 : ρ (.tmp 56) = ?vb1 := hp 1 (by decide)
            clear hp ho
            refine StepOk.of_call (f := 30) (args := #[?vb1, .int .i64 6, .int .i64 11, .int .i64 25]) (w' := X) ?_ (vThrice S.e 6 11 25 (by decide) (by decide) (by decide) _) ?_
            · go_simp
              all_goals try go_bits
              all_goals try rfl
            · rintro e w'' ⟨rfl, rfl⟩; refine ⟨_, rfl, ?_, Below.refl _ _⟩; show _ = ?vb2; rfl
          · refine step_intro rfl rfl fun ρ X hc hf hgl hX hp ho => ?_
            change StepOk _ { dst := _, op := Op.binOp BinOp.add 44 (Operand.tmp 55) (Operand.tmp 57) 44, type := _, pos := _, after := _, guard := _ } _ _ _
            have k55 : ρ (.tmp 55) = ?vb0 := hp 0 (by decide)
            have k57 : ρ (.tmp 57) = ?vb2 := hp 2 (by decide)
            clear hp ho
            refine StepOk.of_run (v := ?vb3) (w' := X) ?_ ⟨rfl, Below.refl _ _⟩
            clear hX
            go_simp
            all_goals try go_bits
            all_goals try simp only [IntWalk.iteOmega]
            all_goals try go_bits
            all_goals rfl
          · refine step_intro rfl rfl fun ρ X hc hf hgl hX hp ho => ?_
            change StepOk _ { dst := _, op := Op.move (Operand.tmp 9), type := _, pos := _, after := _, guard := _ } _ _ _
            have k9 : ρ (.tmp 9) = .int .u32 (wn S.e) := ho 9 (by decide)
            clear hp ho
            refine StepOk.of_run (v := ?vb4) (w' := X) ?_ ⟨rfl, Below.refl _ _⟩
            clear hX
            go_simp
            all_goals try go_bits
            all_goals try simp only [IntWalk.iteOmega]
            all_goals try go_bits
            all_goals rfl
          · refine step_intro rfl rfl fun ρ X hc hf hgl hX hp ho => ?_
            change StepOk _ { dst := _, op := Op.move (Operand.tmp 10), type := _, pos := _, after := _, guard := _ } _ _ _
            have k10 : ρ (.tmp 10) = .int .u32 (wn S.f) := ho 10 (by decide)
            clear hp ho
            refine StepOk.of_run (v := ?vb5) (w' := X) ?_ ⟨rfl, Below.refl _ _⟩
            clear hX
            go_simp
            all_goals try go_bits
            all_goals try simp only [IntWalk.iteOmega]
            all_goals try go_bits
            all_goals rfl
          · refine step_intro rfl rfl fun ρ X hc hf hgl hX hp ho => ?_
            change StepOk _ { dst := _, op := Op.binOp BinOp.and 44 (Operand.tmp 59) (Operand.tmp 60) 44, type := _, pos := _, after := _, guard := _ } _ _ _
            have k59 : ρ (.tmp 59) = ?vb4 := hp 4 (by decide)
            have k60 : ρ (.tmp 60) = ?vb5 := hp 5 (by decide)
            clear hp ho
            refine StepOk.of_run (v := ?vb6) (w' := X) ?_ ⟨rfl, Below.refl _ _⟩
            clear hX
            go_simp
            all_goals try go_bits
            all_goals try simp only [IntWalk.iteOmega]
            all_goals try go_bits
            all_goals rfl
          · refine step_intro rfl rfl fun ρ X hc hf hgl hX hp ho => ?_
            change StepOk _ { dst := _, op := Op.move (Operand.tmp 9), type := _, pos := _, after := _, guard := _ } _ _ _
            have k9 : ρ (.tmp 9) = .int .u32 (wn S.e) := ho 9 (by decide)
            clear hp ho
            refine StepOk.of_run (v := ?vb7) (w' := X) ?_ ⟨rfl, Below.refl _ _⟩
            clear hX
            go_simp
            all_goals try go_bits
            all_goals try simp only [IntWalk.iteOmega]
            all_goals try go_bits
            all_goals rfl
          · refine step_intro rfl rfl fun ρ X hc hf hgl hX hp ho => ?_
            change StepOk _ { dst := _, op := Op.unOp UnOp.xor 44 (Operand.tmp 62), type := _, pos := _, after := _, guard := _ } _ _ _
            have k62 : ρ (.tmp 62) = ?vb7 := hp 7 (by decide)
            clear hp ho
            refine StepOk.of_run (v := ?vb8) (w' := X) ?_ ⟨rfl, Below.refl _ _⟩
            clear hX
            go_simp
            all_goals try go_bits
            all_goals try simp only [IntWalk.iteOmega]
            all_goals try go_bits
            all_goals rfl
          · refine step_intro rfl rfl fun ρ X hc hf hgl hX hp ho => ?_
            change StepOk _ { dst := _, op := Op.move (Operand.tmp 11), type := _, pos := _, after := _, guard := _ } _ _ _
            have k11 : ρ (.tmp 11) = .int .u32 (wn S.g) := ho 11 (by decide)
            clear hp ho
            refine StepOk.of_run (v := ?vb9) (w' := X) ?_ ⟨rfl, Below.refl _ _⟩
            clear hX
            go_simp
            all_goals try go_bits
            all_goals try simp only [IntWalk.iteOmega]
            all_goals try go_bits
            all_goals rfl
          · refine step_intro rfl rfl fun ρ X hc hf hgl hX hp ho => ?_
            change StepOk _ { dst := _, op := Op.binOp BinOp.and 44 (Operand.tmp 63) (Operand.tmp 64) 44, type := _, pos := _, after := _, guard := _ } _ _ _
            have k63 : ρ (.tmp 63) = ?vb8 := hp 8 (by decide)
            have k64 : ρ (.tmp 64) = ?vb9 := hp 9 (by decide)
            clear hp ho
            refine StepOk.of_run (v := ?vb10) (w' := X) ?_ ⟨rfl, Below.refl _ _⟩
            clear hX
            go_simp
            all_goals try go_bits
            all_goals try simp only [IntWalk.iteOmega]
            all_goals try go_bits
            all_goals rfl
          · refine step_intro rfl rfl fun ρ X hc hf hgl hX hp ho => ?_
            change StepOk _ { dst := _, op := Op.binOp BinOp.xor 44 (Operand.tmp 61) (Operand.tmp 65) 44, type := _, pos := _, after := _, guard := _ } _ _ _
            have k61 : ρ (.tmp 61) = ?vb6 := hp 6 (by decide)
            have k65 : ρ (.tmp 65) = ?vb10 := hp 10 (by decide)
            clear hp ho
            refine StepOk.of_run (v := ?vb11) (w' := X) ?_ ⟨rfl, Below.refl _ _⟩
            clear hX
            go_simp
            all_goals try go_bits
            all_goals try simp only [IntWalk.iteOmega]
            all_goals try go_bits
            all_goals rfl
          · refine step_intro rfl rfl fun ρ X hc hf hgl hX hp ho => ?_
            change StepOk _ { dst := _, op := Op.binOp BinOp.add 44 (Operand.tmp 58) (Operand.tmp 66) 44, type := _, pos := _, after := _, guard := _ } _ _ _
            have k58 : ρ (.tmp 58) = ?vb3 := hp 3 (by decide)
            have k66 : ρ (.tmp 66) = ?vb11 := hp 11 (by decide)
            clear hp ho
            refine StepOk.of_run (v := ?vb12) (w' := X) ?_ ⟨rfl, Below.refl _ _⟩
            clear hX
            go_simp
            all_goals try go_bits
            all_goals try simp only [IntWalk.iteOmega]
            all_goals try go_bits
            all_goals rfl
          · refine step_intro rfl rfl fun ρ X hc hf hgl hX hp ho => ?_
            change StepOk _ { dst := _, op := Op.move (Operand.tmp 13), type := _, pos := _, after := _, guard := _ } _ _ _
            have k13 : ρ (.tmp 13) = .int .i64 (tt : Int) := ho 13 (by decide)
            clear hp ho
            refine StepOk.of_run (v := ?vb13) (w' := X) ?_ ⟨rfl, Below.refl _ _⟩
            clear hX
            go_simp
            all_goals try go_bits
            all_goals try simp only [IntWalk.iteOmega]
            all_goals try go_bits
            all_goals rfl
          · refine step_intro rfl rfl fun ρ X hc hf hgl hX hp ho => ?_
            change StepOk _ { dst := _, op := Op.indexAddr 68 (Operand.global 0) (Operand.tmp 68), type := _, pos := _, after := _, guard := _ } _ _ _
            have k68 : ρ (.tmp 68) = ?vb13 := hp 13 (by decide)
            clear hp ho
            refine StepOk.of_run (v := ?vb14) (w' := X) ?_ ⟨rfl, Below.refl _ _⟩
            clear hX
            go_simp
            all_goals try go_bits
            all_goals try simp only [IntWalk.iteOmega]
            all_goals try go_bits
            all_goals rfl
          · refine step_intro rfl rfl fun ρ X hc hf hgl hX hp ho => ?_
            change StepOk _ { dst := _, op := Op.load 44 (Operand.tmp 69), type := _, pos := _, after := _, guard := _ } _ _ _
            have k69 : ρ (.tmp 69) = ?vb14 := hp 14 (by decide)
            have ckX := Grows.cell' hX ck
            have cwX := Grows.cell' hX cw
            clear hp ho
            refine StepOk.of_run (v := ?vb15) (w' := X) ?_ ⟨rfl, Below.refl _ _⟩
            clear hX
            go_simp
            all_goals try go_bits
            all_goals try simp only [IntWalk.iteOmega]
            all_goals try go_bits
            all_goals rfl
          · refine step_intro rfl rfl fun ρ X hc hf hgl hX hp ho => ?_
            change StepOk _ { dst := _, op := Op.binOp BinOp.add 44 (Operand.tmp 67) (Operand.tmp 70) 44, type := _, pos := _, after := _, guard := _ } _ _ _
            have k67 : ρ (.tmp 67) = ?vb12 := hp 12 (by decide)
            have k70 : ρ (.tmp 70) = ?vb15 := hp 15 (by decide)
            clear hp ho
            refine StepOk.of_run (v := ?vb16) (w' := X) ?_ ⟨rfl, Below.refl _ _⟩
            clear hX
            go_simp
            all_goals try go_bits
            all_goals try simp only [IntWalk.iteOmega]
            all_goals try go_bits
            all_goals rfl
          · refine step_intro rfl rfl fun ρ X hc hf hgl hX hp ho => ?_
            change StepOk _ { dst := _, op := Op.move (Operand.tmp 13), type := _, pos := _, after := _, guard := _ } _ _ _
            have k13 : ρ (.tmp 13) = .int .i64 (tt : Int) := ho 13 (by decide)
            clear hp ho
            refine StepOk.of_run (v := ?vb17) (w' := X) ?_ ⟨rfl, Below.refl _ _⟩
            clear hX
            go_simp
            all_goals try go_bits
            all_goals try simp only [IntWalk.iteOmega]
            all_goals try go_bits
            all_goals rfl
          · refine step_intro rfl rfl fun ρ X hc hf hgl hX hp ho => ?_
            change StepOk _ { dst := _, op := Op.indexAddr 68 (Operand.tmp 4) (Operand.tmp 72), type := _, pos := _, after := _, guard := _ } _ _ _
            have k4 : ρ (.tmp 4) = .pointer (some ⟨gp, 0, none⟩) := ho 4 (by decide)
            have k72 : ρ (.tmp 72) = ?vb17 := hp 17 (by decide)
            clear hp ho
            refine StepOk.of_run (v := ?vb18) (w' := X) ?_ ⟨rfl, Below.refl _ _⟩
            clear hX
            go_simp
            all_goals try go_bits
            all_goals try simp only [IntWalk.iteOmega]
            all_goals try go_bits
            all_goals rfl
          · refine step_intro rfl rfl fun ρ X hc hf hgl hX hp ho => ?_
            change StepOk _ { dst := _, op := Op.load 44 (Operand.tmp 73), type := _, pos := _, after := _, guard := _ } _ _ _
            have k73 : ρ (.tmp 73) = ?vb18 := hp 18 (by decide)
            have ckX := Grows.cell' hX ck
            have cwX := Grows.cell' hX cw
            clear hp ho
            refine StepOk.of_run (v := ?vb19) (w' := X) ?_ ⟨rfl, Below.refl _ _⟩
            clear hX
            go_simp
            all_goals try go_bits
            all_goals try simp only [IntWalk.iteOmega]
            all_goals try go_bits
            all_goals rfl
          · refine step_intro rfl rfl fun ρ X hc hf hgl hX hp ho => ?_
            change StepOk _ { dst := _, op := Op.binOp BinOp.add 44 (Operand.tmp 71) (Operand.tmp 74) 44, type := _, pos := _, after := _, guard := _ } _ _ _
            have k71 : ρ (.tmp 71) = ?vb16 := hp 16 (by decide)
            have k74 : ρ (.tmp 74) = ?vb19 := hp 19 (by decide)
            clear hp ho
            refine StepOk.of_run (v := ?vb20) (w' := X) ?_ ⟨rfl, Below.refl _ _⟩
            clear hX
            go_simp
            all_goals try go_bits
            all_goals try simp only [IntWalk.iteOmega]
            all_goals try go_bits
            all_goals rfl
          · refine step_intro rfl rfl fun ρ X hc hf hgl hX hp ho => ?_
            change StepOk _ { dst := _, op := Op.assign (Operand.tmp 75), type := _, pos := _, after := _, guard := _ } _ _ _
            have k75 : ρ (.tmp 75) = ?vb20 := hp 20 (by decide)
            clear hp ho
            refine StepOk.of_run (v := ?vb21) (w' := X) ?_ ⟨rfl, Below.refl _ _⟩
            clear hX
            go_simp
            all_goals try go_bits
            all_goals try simp only [IntWalk.iteOmega]
            all_goals try go_bits
            all_goals rfl
        case grdb => rfl
        case rstb =>
          intro a0 X hb
          have hfr := hb.frame ((14, ?vb21) :: (55, ?vb0) :: (56, ?vb1) :: (57, ?vb2) :: (58, ?vb3) :: (59, ?vb4) :: (60, ?vb5) :: (61, ?vb6) :: (62, ?vb7) :: (63, ?vb8) :: (64, ?vb9) :: (65, ?vb10) :: (66, ?vb11) :: (67, ?vb12) :: (68, ?vb13) :: (69, ?vb14) :: (70, ?vb15) :: (71, ?vb16) :: (72, ?vb17) :: (73, ?vb18) :: (74, ?vb19) :: (75, ?vb20) :: []) rfl ⟨hb.done' 21 14 rfl rfl, hb.done' 0 55 rfl rfl, hb.done' 1 56 rfl rfl, hb.done' 2 57 rfl rfl, hb.done' 3 58 rfl rfl, hb.done' 4 59 rfl rfl, hb.done' 5 60 rfl rfl, hb.done' 6 61 rfl rfl, hb.done' 7 62 rfl rfl, hb.done' 8 63 rfl rfl, hb.done' 9 64 rfl rfl, hb.done' 10 65 rfl rfl, hb.done' 11 66 rfl rfl, hb.done' 12 67 rfl rfl, hb.done' 13 68 rfl rfl, hb.done' 14 69 rfl rfl, hb.done' 15 70 rfl rfl, hb.done' 16 71 rfl rfl, hb.done' 17 72 rfl rfl, hb.done' 18 73 rfl rfl, hb.done' 19 74 rfl rfl, hb.done' 20 75 rfl rfl, trivial⟩
          simp only [updL, ↓reduceIte, Nat.reduceEqDiff, Nat.reduceAdd, Nat.zero_add] at hfr
          have HX := Lib.hid hb.ext
          clear hb
          subst hfr
          clear ck cw
          go_wp2_with fail
          refine (vThrice S.a 2 13 22 (by decide) (by decide) (by decide) _).mono ?_
          rintro e w5 ⟨rfl, rfl⟩
          go_wp2
          go_roundw
          case rel =>
            exact ⟨tt + 1, rnd S kt wt, Htt.out, by simp, by show _ = _; rw [rounds, ← HS.out, Hkt.out, Hwt.out], rfl, rfl, rfl, rfl, rfl, rfl, rfl, rfl, Grows.trans' HGk.out HX.out⟩
          case measure => have := Htt.out; simp [intOf]; omega
      · have hlt' : ¬ (tt : Int) < 64 := by omega
        have htt64 : tt = 64 := by omega
        have Hb : Hid (blockF s l = addR s S) := by
          show _ = _
          rw [HS.out, htt64]
          unfold blockF
          rw [Hws.out]
        obtain ⟨M, HM⟩ : ∃ M, Shut (#[wv S.a, wv S.b, wv S.c, wv S.d, wv S.e, wv S.f, wv S.g, wv S.h] = M) := ⟨_, ⟨rfl⟩⟩
        have HGk := Lib.hid hGk
        clear hGk htt htt64
        go_wp2_with fail
        have hgl : g < w.heap.size := (Array.getElem?_eq_some_iff.1 HR.out).1
        have hGw : Grows w wr := Grows.trans' HG2.out HGk.out
        obtain ⟨g1, c1, e1, hcm⟩ := wds_lit wr 48 S
        simp only [Value.slice.injEq, Option.some.injEq, Addr.mk.injEq, and_true, true_and] at e1
        obtain ⟨rfl, -⟩ := e1
        have hGm : Grows w (wr.alloc (.cells #[wv S.a, wv S.b, wv S.c, wv S.d, wv S.e, wv S.f, wv S.g, wv S.h] 48)) := Grows.trans' hGw (Grows.alloc' _ _)
        have hRm := hGm.heap' HR.out
        have hne : ¬ wr.heap.size = g := by have := hGw.size; omega
        change Code.wp _ _ _ _ (wr.alloc (.cells #[wv S.a, wv S.b, wv S.c, wv S.d, wv S.e, wv S.f, wv S.g, wv S.h] 48))
        obtain ⟨wm, hwm⟩ : ∃ x, wr.alloc (.cells #[wv S.a, wv S.b, wv S.c, wv S.d, wv S.e, wv S.f, wv S.g, wv S.h] 48) = x := ⟨_, rfl⟩
        rw [hwm] at hcm hGm hRm ⊢
        obtain ⟨gm, Hgm⟩ : ∃ n, Hid (wr.heap.size = n) := ⟨_, rfl⟩
        rw [Hgm.out] at hcm hne ⊢
        have Hcm := Lib.hid hcm
        have HGm := Lib.hid hGm
        have Hne := Lib.hid hne
        have hR0 : wm.heap[g]? = some (.cells (rowW (mid (addR s S).list s.list 0) R) T (0, 0)) := hRm
        clear hwm hcm hGm hRm hne hGw hgl
        obtain ⟨n8, Hn8⟩ : ∃ n, Shut ((addR s S).list = n) := ⟨_, ⟨rfl⟩⟩
        have Hnl : Hid (n8.length = 8) := by show _ = _; rw [← Hn8.out]; rfl
        have Hsl : Hid (s.list.length = 8) := rfl
        have Hsum : Hid (∀ i, i < 8 → n8.getD i 0 = s.list.getD i 0 + S.list.getD i 0) := fun i hi => by rw [← Hn8.out]; exact addR_get s S i hi
        rw [Hn8.out] at hR0
        go_loopw [112] (fun t112 wr => ∃ (i : Nat), i ≤ 8 ∧ t112 = .int .i64 i ∧ wr.heap[g]? = some (.cells (rowW (mid n8 s.list i) R) T (0, 0)) ∧ But (fun k => k = g) wm wr)
          (fun t112 _ => 8 - (intOf t112).toNat)
        case atStart => exact ⟨0, by omega, rfl, hR0, But.refl1 _ _⟩
        case round =>
          obtain ⟨i, hi8, rfl, hrow, hB⟩ := hrel
          clear hR0
          by_cases hlt8 : i < 8
          · have hi' : (i : Int) < 8 := by omega
            have bi : ¬ 8 ≤ (i : Int) := by omega
            have ca : wr.cell? ⟨g, i, none⟩ = some (.int .u32 (wn (s.list.getD i 0))) := by
              rw [cell_of_row wr g i _ T (0, 0) hrow, rowW_get _ _ _ (by rw [mid_length _ _ _ Hnl.out Hsl.out hi8]; exact hlt8), mid_get _ _ _ Hnl.out Hsl.out hlt8]
              rfl
            have cb : wr.cell? ⟨gm, i, none⟩ = some (.int .u32 (wn (S.list.getD i 0))) := hB.cell1 (p := ⟨gm, i, none⟩) Hne.out (Hcm.out i (by simpa [R8.list] using hlt8))
            have Fw : Hid (wr.frozen? ⟨g, i, none⟩ = false) := frozen_of_row wr g i _ T hrow
            have hs1 := Hsum.out i hlt8
            obtain ⟨x1, Hx1⟩ : ∃ x, Hid (s.list.getD i 0 = x) := ⟨_, rfl⟩
            obtain ⟨x2, Hx2⟩ : ∃ x, Hid (S.list.getD i 0 = x) := ⟨_, rfl⟩
            rw [Hx1.out] at ca hs1
            rw [Hx2.out] at cb hs1
            have Hs1 := Lib.hid hs1
            have Ca := Lib.hid ca
            have Hi := Lib.hid hlt8
            have Hrow := Lib.hid hrow
            have HB := Lib.hid hB
            clear hs1 hrow hB hlt8 hi8
            go_wp2
            refine specs_last 11
              #[[], [], [0], [0, 1, 2], [0, 1, 2, 3], [], [5], [5, 6], [0, 1, 2, 3, 4, 5, 6, 7], [0], [0, 1, 2, 3, 4, 5, 6, 7, 8, 9], [0, 1, 2, 3, 4, 5, 6, 7, 8, 9, 10]] #[[0], [17], [], [], [], [17], [16], [], [], [], [], []] #[true, true, true, true, true, true, true, true, true, true, true, true]
              ((.val ?vc0) :: (.val ?vc1) :: (.val ?vc2) :: (.val ?vc3) :: (.val ?vc4) :: (.val ?vc5) :: (.val ?vc6) :: (.val ?vc7) :: (.val ?vc8) :: (.val ?vc9) :: (.val ?vc10) :: (.any) :: []).toArray
              hmx ?chkc ?grdc rfl ?stpc ?rstc
            case chkc => rfl
            case stpc =>
              refine ⟨?_, ?_, ?_, ?_, ?_, ?_, ?_, ?_, ?_, ?_, ?_, ?_, trivial⟩
              · refine step_intro rfl rfl fun ρ X hc hf hgl hX hp ho => ?_
                change StepOk _ { dst := _, op := Op.move (Operand.tmp 0), type := _, pos := _, after := _, guard := _ } _ _ _
                have k0 : ρ (.tmp 0) = .pointer (some ⟨g, 0, none⟩) := ho 0 (by decide)
                clear hp ho
                refine StepOk.of_run (v := ?vc0) (w' := X) ?_ ⟨rfl, Below.refl _ _⟩
                clear hX
                go_simp
                all_goals try go_bits
                all_goals try simp only [IntWalk.iteOmega]
                all_goals try go_bits
                all_goals rfl
              · refine step_intro rfl rfl fun ρ X hc hf hgl hX hp ho => ?_
                change StepOk _ { dst := _, op := Op.move (Operand.tmp 17), type := _, pos := _, after := _, guard := _ } _ _ _
                have k17 : ρ (.tmp 17) = .int .i64 (i : Int) := ho 17 (by decide)
                clear hp ho
                refine StepOk.of_run (v := ?vc1) (w' := X) ?_ ⟨rfl, Below.refl _ _⟩
                clear hX
                go_simp
                all_goals try go_bits
                all_goals try simp only [IntWalk.iteOmega]
                all_goals try go_bits
                all_goals rfl
              · refine step_intro rfl rfl fun ρ X hc hf hgl hX hp ho => ?_
                change StepOk _ { dst := _, op := Op.nilCheck (Operand.tmp 115), type := _, pos := _, after := _, guard := _ } _ _ _
                have k115 : ρ (.tmp 115) = ?vc0 := hp 0 (by decide)
                clear hp ho
                refine StepOk.of_run (v := ?vc2) (w' := X) ?_ ⟨rfl, Below.refl _ _⟩
                clear hX
                go_simp
                all_goals try go_bits
                all_goals try simp only [IntWalk.iteOmega]
                all_goals try go_bits
                all_goals rfl
              · refine step_intro rfl rfl fun ρ X hc hf hgl hX hp ho => ?_
                change StepOk _ { dst := _, op := Op.indexAddr 48 (Operand.tmp 117) (Operand.tmp 116), type := _, pos := _, after := _, guard := _ } _ _ _
                have k117 : ρ (.tmp 117) = ?vc2 := hp 2 (by decide)
                have k116 : ρ (.tmp 116) = ?vc1 := hp 1 (by decide)
                clear hp ho
                refine StepOk.of_run (v := ?vc3) (w' := X) ?_ ⟨rfl, Below.refl _ _⟩
                clear hX
                go_simp
                all_goals try go_bits
                all_goals try simp only [IntWalk.iteOmega]
                all_goals try go_bits
                all_goals rfl
              · refine step_intro rfl rfl fun ρ X hc hf hgl hX hp ho => ?_
                change StepOk _ { dst := _, op := Op.load 44 (Operand.tmp 118), type := _, pos := _, after := _, guard := _ } _ _ _
                have k118 : ρ (.tmp 118) = ?vc3 := hp 3 (by decide)
                have caX := Grows.cell' hX ca
                have cbX := Grows.cell' hX cb
                clear hp ho
                refine StepOk.of_run (v := ?vc4) (w' := X) ?_ ⟨rfl, Below.refl _ _⟩
                clear hX
                go_simp
                all_goals try go_bits
                all_goals try simp only [IntWalk.iteOmega]
                all_goals try go_bits
                all_goals rfl
              · refine step_intro rfl rfl fun ρ X hc hf hgl hX hp ho => ?_
                change StepOk _ { dst := _, op := Op.move (Operand.tmp 17), type := _, pos := _, after := _, guard := _ } _ _ _
                have k17 : ρ (.tmp 17) = .int .i64 (i : Int) := ho 17 (by decide)
                clear hp ho
                refine StepOk.of_run (v := ?vc5) (w' := X) ?_ ⟨rfl, Below.refl _ _⟩
                clear hX
                go_simp
                all_goals try go_bits
                all_goals try simp only [IntWalk.iteOmega]
                all_goals try go_bits
                all_goals rfl
              · refine step_intro rfl rfl fun ρ X hc hf hgl hX hp ho => ?_
                change StepOk _ { dst := _, op := Op.indexAddr 48 (Operand.tmp 16) (Operand.tmp 120), type := _, pos := _, after := _, guard := _ } _ _ _
                have k16 : ρ (.tmp 16) = .pointer (some ⟨gm, 0, none⟩) := ho 16 (by decide)
                have k120 : ρ (.tmp 120) = ?vc5 := hp 5 (by decide)
                clear hp ho
                refine StepOk.of_run (v := ?vc6) (w' := X) ?_ ⟨rfl, Below.refl _ _⟩
                clear hX
                go_simp
                all_goals try go_bits
                all_goals try simp only [IntWalk.iteOmega]
                all_goals try go_bits
                all_goals rfl
              · refine step_intro rfl rfl fun ρ X hc hf hgl hX hp ho => ?_
                change StepOk _ { dst := _, op := Op.load 44 (Operand.tmp 121), type := _, pos := _, after := _, guard := _ } _ _ _
                have k121 : ρ (.tmp 121) = ?vc6 := hp 6 (by decide)
                have caX := Grows.cell' hX ca
                have cbX := Grows.cell' hX cb
                clear hp ho
                refine StepOk.of_run (v := ?vc7) (w' := X) ?_ ⟨rfl, Below.refl _ _⟩
                clear hX
                go_simp
                all_goals try go_bits
                all_goals try simp only [IntWalk.iteOmega]
                all_goals try go_bits
                all_goals rfl
              · refine step_intro rfl rfl fun ρ X hc hf hgl hX hp ho => ?_
                change StepOk _ { dst := _, op := Op.binOp BinOp.add 44 (Operand.tmp 119) (Operand.tmp 122) 44, type := _, pos := _, after := _, guard := _ } _ _ _
                have k119 : ρ (.tmp 119) = ?vc4 := hp 4 (by decide)
                have k122 : ρ (.tmp 122) = ?vc7 := hp 7 (by decide)
                clear hp ho
                refine StepOk.of_run (v := ?vc8) (w' := X) ?_ ⟨rfl, Below.refl _ _⟩
                clear hX
                go_simp
                all_goals try go_bits
                all_goals try simp only [IntWalk.iteOmega]
                all_goals try go_bits
                all_goals rfl
              · refine step_intro rfl rfl fun ρ X hc hf hgl hX hp ho => ?_
                change StepOk _ { dst := _, op := Op.nilCheck (Operand.tmp 115), type := _, pos := _, after := _, guard := _ } _ _ _
                have k115 : ρ (.tmp 115) = ?vc0 := hp 0 (by decide)
                clear hp ho
                refine StepOk.of_run (v := ?vc9) (w' := X) ?_ ⟨rfl, Below.refl _ _⟩
                clear hX
                go_simp
                all_goals try go_bits
                all_goals try simp only [IntWalk.iteOmega]
                all_goals try go_bits
                all_goals rfl
              · refine step_intro rfl rfl fun ρ X hc hf hgl hX hp ho => ?_
                change StepOk _ { dst := _, op := Op.indexAddr 48 (Operand.tmp 124) (Operand.tmp 116), type := _, pos := _, after := _, guard := _ } _ _ _
                have k124 : ρ (.tmp 124) = ?vc9 := hp 9 (by decide)
                have k116 : ρ (.tmp 116) = ?vc1 := hp 1 (by decide)
                clear hp ho
                refine StepOk.of_run (v := ?vc10) (w' := X) ?_ ⟨rfl, Below.refl _ _⟩
                clear hX
                go_simp
                all_goals try go_bits
                all_goals try simp only [IntWalk.iteOmega]
                all_goals try go_bits
                all_goals rfl
              · exact last_intro rfl
            case grdc => rfl
            case rstc =>
              intro a0 X hb
              have hfr := hb.frame ((115, ?vc0) :: (116, ?vc1) :: (117, ?vc2) :: (118, ?vc3) :: (119, ?vc4) :: (120, ?vc5) :: (121, ?vc6) :: (122, ?vc7) :: (123, ?vc8) :: (124, ?vc9) :: (125, ?vc10) :: []) rfl ⟨hb.done' 0 115 rfl rfl, hb.done' 1 116 rfl rfl, hb.done' 2 117 rfl rfl, hb.done' 3 118 rfl rfl, hb.done' 4 119 rfl rfl, hb.done' 5 120 rfl rfl, hb.done' 6 121 rfl rfl, hb.done' 7 122 rfl rfl, hb.done' 8 123 rfl rfl, hb.done' 9 124 rfl rfl, hb.done' 10 125 rfl rfl, trivial⟩
              simp only [updL, ↓reduceIte, Nat.reduceEqDiff, Nat.reduceAdd, Nat.zero_add] at hfr
              have HX := Lib.hid hb.ext
              clear hb
              subst hfr
              change StepOk _ { dst := none, op := Op.store 44 (Operand.tmp 125) (Operand.tmp 123), type := _, pos := _, after := _, guard := _ } _ _ _
              have cX := Grows.cell' HX.out Ca.out
              have fX : X.frozen? ⟨g, i, none⟩ = false := (Below.frozen HX.out (p := ⟨g, i, none⟩) (World.block_lt_of_cell? _ _ Ca.out)).trans Fw.out
              unfold StepOk
              simp [go_sem, execOp, cX, fX]
              clear cX fX
              go_wp2
              go_roundw
              case rel =>
                refine ⟨i + 1, Hi.out, by simp, ?_, But.setCell1 (But.trans1 HB.out (But.grows1 HX.out)) _ _ rfl⟩
                have h5 := row_setCell (HX.out.heap' Hrow.out) i (wv (x1 + x2))
                rw [mid_split _ _ _ (by rw [Hsl.out]; exact Hi.out), rowW_set _ _ _ _ _ i (by rw [List.length_take, Hnl.out]; have := Hi.out; omega), ← Hs1.out, ← mid_next _ _ _ (by rw [Hnl.out]; exact Hi.out), Hs1.out] at h5
                exact h5
              case measure => have := Hi.out; simp [intOf]; omega
          · have hi' : ¬ (i : Int) < 8 := by omega
            have hi : i = 8 := by omega
            have HX8 : Hid (mid n8 s.list i = (blockF s l).list) := by
              show _ = _
              rw [hi, Hb.out, Hn8.out]
              unfold mid
              rw [List.take_of_length_le (Nat.le_of_eq Hnl.out), List.drop_of_length_le (Nat.le_of_eq Hsl.out), List.append_nil]
            have Hrow := Lib.hid hrow
            have HB := Lib.hid hB
            clear hrow hB hi hi8 hlt8
            go_wp2
            go_end0
            refine ⟨rfl, ?_, But.trans1 (But.grows1 HGm.out) HB.out⟩
            rw [← HX8.out]
            exact Hrow.out
end Go.Proofs.YtkehcpjianadjaaDoor
