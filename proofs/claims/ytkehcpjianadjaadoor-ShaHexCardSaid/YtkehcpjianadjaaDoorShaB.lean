/-
  Contracts of the program's own planned and take of sha: the 64 words of a block; a block taken in.
-/
import Derived.Test.YtkehcpjianadjaaDoorShaA
import Derived.Test.YtkehcpjianadjaaDoorShaW
namespace Go.Proofs.YtkehcpjianadjaaDoor
open Go.RowKit
set_option linter.unusedVariables false
set_option linter.unusedSimpArgs false

attribute [local go_sem] wn_add wn_xor wn_and wn_or wn_not wn_byte wn_low shl24 shl16 shl8

/-- The first i words. -/
def pl (l : List UInt8) (i : Nat) : List UInt32 := if i ≤ 16 then (w16 l).take i else sched l (i - 16)
theorem pl_length (l : List UInt8) (i : Nat) : (pl l i).length = i := by
  unfold pl
  split
  · rw [List.length_take, w16_length]; omega
  · rw [sched_length]; omega
theorem pl_low (l : List UInt8) (i : Nat) (h : i < 16) : pl l (i + 1) = pl l i ++ [wordAt l i] := by
  unfold pl
  rw [if_pos (by omega), if_pos (by omega), w16_snoc l i h]
theorem pl_high (l : List UInt8) (i : Nat) (h : 16 ≤ i) : pl l (i + 1) = pl l i ++ [nextW (pl l i) i] := by
  have h1 : pl l i = sched l (i - 16) := by
    unfold pl
    by_cases h16 : i = 16
    · subst h16
      rw [if_pos (by omega), List.take_of_length_le (by rw [w16_length]; omega)]
      rfl
    · rw [if_neg (by omega)]
  have h2 : pl l (i + 1) = sched l (i - 16 + 1) := by
    unfold pl
    rw [if_neg (by omega), show i + 1 - 16 = i - 16 + 1 by omega]
  rw [h2, h1, sched, show 16 + (i - 16) = i by omega]
theorem pl_all (l : List UInt8) : pl l 64 = sched l 48 := by
  unfold pl
  rw [if_neg (by omega)]

theorem planZ : ∃ Z : Array Value, ((Tryd.prog.info? 68).bind (fun i => i.zero)).map (fun z => z.cells) = some Z ∧ Shut (Z = ((List.replicate 64 (0 : UInt32)).map wv).toArray) := ⟨_, by kernel_rfl, ⟨rfl⟩⟩
theorem planSize : (Tryd.prog.info? 68).map (·.size) = some 64 := by kernel_rfl
theorem wv_one (l : List UInt32) : (l.map wv).toArray.all (·.oneCell') = true := by
  rw [Array.all_eq_true]
  intro i hi
  simp [wv, Value.oneCell']
theorem set_words (xs : List UInt32) (m n : Nat) (d : UInt32) (hn : n = xs.length) : (((xs ++ List.replicate (m + 1) 0).map wv).toArray).setIfInBounds n (wv d) = ((((xs ++ [d]) ++ List.replicate m 0).map wv).toArray) := by
  rw [List.setIfInBounds_toArray, set_app_rep xs m n d hn]

set_option maxRecDepth 100000 in
set_option maxHeartbeats 4000000 in
theorem vPlanned (b off cap : Nat) (l : List UInt8) (w : World) (hb : ∀ i, i < 64 → w.cell? ⟨b, off + i, none⟩ = some (.int .u8 ((l.getD i 0).toNat : Int))) :
    Calls Tryd.prog 29 #[.slice (some ⟨b, off, none⟩) 64 cap] w fun e w' => e = .returned (.agg ((sched l 48).map wv).toArray) ∧ Grows w w' := by
  have hmx : Tryd.prog.follows .mixedOrders = true := by kernel_rfl
  have HB := Lib.hid hb
  obtain ⟨Z, hZ, HZ⟩ := planZ
  obtain ⟨C, HC⟩ : ∃ C, Shut (((sched l 48).map wv).toArray = C) := ⟨_, ⟨rfl⟩⟩
  have hCs : C.size = 64 := by rw [← HC.out]; simp [sched_length]
  have hC1 : C.all (·.oneCell') = true := by rw [← HC.out]; exact wv_one _
  have hZs : Z.size = 64 := by rw [HZ.out]; simp
  rw [HC.out]
  clear hb
  go_enter Tryd.func29, Tryd.ntmps29
  go_wp2_with (refine wpList_allocT rfl 68 rfl _ hZ ?_)
  have h0 : ((w.alloc (.cells Z 68)).alloc (.cells Z 68)).heap[w.heap.size + 1]? = some (.cells (((pl l 0 ++ List.replicate (64 - 0) 0).map wv).toArray) 68 (0, 0)) := by
    have h := heap_alloc_new (w.alloc (.cells Z 68)) (.cells Z 68)
    rw [show (w.alloc (.cells Z 68)).heap.size = w.heap.size + 1 by simp] at h
    rw [h, HZ.out]
    rfl
  have h1 : ((w.alloc (.cells Z 68)).alloc (.cells Z 68)).heap[w.heap.size]? = some (.cells Z 68 (0, 0)) := (Grows.alloc' _ _).heap' (heap_alloc_new w _)
  have hG0 : Grows w ((w.alloc (.cells Z 68)).alloc (.cells Z 68)) := Grows.trans' (Grows.alloc' _ _) (Grows.alloc' _ _)
  obtain ⟨gp, hgp⟩ : ∃ n, w.heap.size + 1 = n := ⟨_, rfl⟩
  obtain ⟨gr, hgr⟩ : ∃ n, w.heap.size = n := ⟨_, rfl⟩
  have Hgp : Hid (w.heap.size ≤ gp ∧ w.heap.size ≤ gr ∧ gr ≠ gp) := by show _ ∧ _; omega
  obtain ⟨w0, hw0⟩ : ∃ x, (w.alloc (.cells Z 68)).alloc (.cells Z 68) = x := ⟨_, rfl⟩
  rw [hw0] at h0 h1 hG0 ⊢
  rw [hgp] at h0 ⊢
  rw [hgr] at h1 ⊢
  clear hw0 hgp hgr
  go_loopw [5] (fun t5 wr => ∃ (i : Nat), i ≤ 64 ∧ t5 = .int .i64 i ∧ wr.heap[gp]? = some (.cells (((pl l i ++ List.replicate (64 - i) 0).map wv).toArray) 68 (0, 0)) ∧ wr.heap[gr]? = some (.cells Z 68 (0, 0)) ∧ Grows w wr)
    (fun t5 _ => 64 - (intOf t5).toNat)
  case atStart => exact ⟨0, by omega, rfl, h0, h1, hG0⟩
  case round =>
    obtain ⟨i, hi64, rfl, hrow, hrr, hG⟩ := hrel
    clear h0 h1 hG0
    by_cases hlt : i < 64
    · have hi' : (i : Int) < 64 := by omega
      have Hi := Lib.hid hlt
      have HG := Lib.hid hG
      have Hrr := Lib.hid hrr
      have Hrow := Lib.hid hrow
      have Cw : Hid (wr.cell? ⟨gp, i, none⟩ = some (.int .u32 (wn 0))) := by
        show _ = _
        rw [cell_of_row wr gp i _ 68 (0, 0) hrow]
        simp [List.getElem?_append, pl_length, show 0 < 64 - i by omega, wv]
      have Fw : Hid (wr.frozen? ⟨gp, i, none⟩ = false) := frozen_of_row wr gp i _ 68 hrow
      have hbi : ¬ 64 ≤ (i : Int) := by omega
      by_cases h16 : i < 16
      · have hi16 : (i : Int) < 16 := by omega
        have hq : (i : Int) * 4 = ((4 * i : Nat) : Int) := by omega
        have Hn := Lib.hid (pl_low l i h16)
        have H16 := Lib.hid h16
        clear hrow hrr hG hi64 hlt h16
        go_wp2_with fail
        refine (vWordAt b off 64 cap l i _ rfl H16.out (fun j hj => HG.out.cell' (HB.out j hj))).mono ?_
        rintro e w1 ⟨rfl, hg1⟩
        have cX := hg1.cell' Cw.out
        have fX : w1.frozen? ⟨gp, i, none⟩ = false := (Below.frozen hg1 (p := ⟨gp, i, none⟩) (World.block_lt_of_cell? _ _ Cw.out)).trans Fw.out
        have Hg1 := Lib.hid hg1
        clear hg1 hq
        go_wp2
        go_roundw
        case rel =>
          refine ⟨i + 1, Hi.out, by simp, ?_, ?_, Below.setCell (p := ⟨gp, i, none⟩) (Grows.trans' HG.out Hg1.out) Hgp.out.1 _⟩
          · have h5 := row_setCell (Hg1.out.heap' Hrow.out) i (wv (wordAt l i))
            rw [show 64 - i = (64 - (i + 1)) + 1 by have := Hi.out; omega, set_words _ _ i _ (pl_length l i).symm, ← Hn.out] at h5
            exact h5
          · rw [Below.heap_setCell _ _ _ _ (fun e => Hgp.out.2.2 e)]
            exact Hg1.out.heap' Hrr.out
        case measure => have := Hi.out; simp [intOf]; omega
      · have hi16 : ¬ (i : Int) < 16 := by omega
        have hcw : ∀ j, j < i → wr.cell? ⟨gp, j, none⟩ = some (.int .u32 (wn ((pl l i).getD j 0))) := fun j hj => by
          rw [cell_of_row wr gp j _ 68 (0, 0) hrow]
          have h1 : j < (pl l i).length := by rw [pl_length]; omega
          simp [List.getElem?_append, h1, wv]
        obtain ⟨q2, hq2⟩ : ∃ q : Nat, (i : Int) - 2 = (q : Int) := ⟨i - 2, by omega⟩
        obtain ⟨q15, hq15⟩ : ∃ q : Nat, (i : Int) - 15 = (q : Int) := ⟨i - 15, by omega⟩
        obtain ⟨q7, hq7⟩ : ∃ q : Nat, (i : Int) - 7 = (q : Int) := ⟨i - 7, by omega⟩
        obtain ⟨q16, hq16⟩ : ∃ q : Nat, (i : Int) - 16 = (q : Int) := ⟨i - 16, by omega⟩
        have bq2 : ¬ 64 ≤ (q2 : Int) := by omega
        have bq15 : ¬ 64 ≤ (q15 : Int) := by omega
        have bq7 : ¬ 64 ≤ (q7 : Int) := by omega
        have bq16 : ¬ 64 ≤ (q16 : Int) := by omega
        have Hnx : Hid (nextW (pl l i) i = (rotr ((pl l i).getD q2 0) 17 ^^^ rotr ((pl l i).getD q2 0) 19 ^^^ (pl l i).getD q2 0 >>> UInt32.ofNat 10) + (pl l i).getD q7 0 + (rotr ((pl l i).getD q15 0) 7 ^^^ rotr ((pl l i).getD q15 0) 18 ^^^ (pl l i).getD q15 0 >>> UInt32.ofNat 3) + (pl l i).getD q16 0) := by
          show _ = _
          unfold nextW
          rw [show i - 2 = q2 by omega, show i - 15 = q15 by omega, show i - 7 = q7 by omega, show i - 16 = q16 by omega]
          rfl
        have c2 := hcw q2 (by omega)
        have c15 := hcw q15 (by omega)
        have c7 := hcw q7 (by omega)
        have c16 := hcw q16 (by omega)
        obtain ⟨x2, Hx2⟩ : ∃ x, Hid ((pl l i).getD q2 0 = x) := ⟨_, rfl⟩
        obtain ⟨x15, Hx15⟩ : ∃ x, Hid ((pl l i).getD q15 0 = x) := ⟨_, rfl⟩
        obtain ⟨x7, Hx7⟩ : ∃ x, Hid ((pl l i).getD q7 0 = x) := ⟨_, rfl⟩
        obtain ⟨x16, Hx16⟩ : ∃ x, Hid ((pl l i).getD q16 0 = x) := ⟨_, rfl⟩
        rw [Hx2.out] at c2 Hnx
        rw [Hx15.out] at c15 Hnx
        rw [Hx7.out] at c7 Hnx
        rw [Hx16.out] at c16 Hnx
        have Hn := Lib.hid (pl_high l i (by omega))
        clear hrow hrr hG hi64 hlt h16 hcw
        go_wp2
        refine specs_last 23
          #[[], [], [1], [1, 2], [1, 2, 3], [1, 2, 3, 4], [], [6], [6, 7], [6, 7, 8], [1, 2, 3, 4, 5, 6, 7, 8, 9], [], [11], [11, 12], [11, 12, 13], [1, 2, 3, 4, 5, 11, 12, 13, 14], [1, 2, 3, 4, 5, 6, 7, 8, 9, 10, 11, 12, 13, 14, 15], [], [17], [17, 18], [17, 18, 19], [1, 2, 3, 4, 5, 6, 7, 8, 9, 10, 11, 12, 13, 14, 15, 16, 17, 18, 19, 20], [0, 1, 2, 3, 4, 5, 6, 7, 8, 9, 10, 11, 12, 13, 14, 15, 16, 17, 18, 19, 20, 21], [0, 1, 2, 3, 4, 5, 6, 7, 8, 9, 10, 11, 12, 13, 14, 15, 16, 17, 18, 19, 20, 21, 22]] #[[4], [4], [], [3], [], [], [4], [], [3], [], [], [4], [], [3], [], [], [], [4], [], [3], [], [], [3], []] #[true, true, true, true, true, true, true, true, true, true, true, true, true, true, true, true, true, true, true, true, true, true, true, true]
          ((.val ?v0) :: (.val ?v1) :: (.val ?v2) :: (.val ?v3) :: (.val ?v4) :: (.val ?v5) :: (.val ?v6) :: (.val ?v7) :: (.val ?v8) :: (.val ?v9) :: (.val ?v10) :: (.val ?v11) :: (.val ?v12) :: (.val ?v13) :: (.val ?v14) :: (.val ?v15) :: (.val ?v16) :: (.val ?v17) :: (.val ?v18) :: (.val ?v19) :: (.val ?v20) :: (.val ?v21) :: (.val ?v22) :: (.any) :: []).toArray
          hmx ?chk ?grd rfl ?stp ?rst
        case chk => rfl
        case stp =>
          refine ⟨?_, ?_, ?_, ?_, ?_, ?_, ?_, ?_, ?_, ?_, ?_, ?_, ?_, ?_, ?_, ?_, ?_, ?_, ?_, ?_, ?_, ?_, ?_, ?_, trivial⟩
          · refine step_intro rfl rfl fun ρ X hc hf hgl hX hp ho => ?_
            change StepOk _ { dst := _, op := Op.move (Operand.tmp 4), type := _, pos := _, after := _, guard := _ } _ _ _
            have k4 : ρ (.tmp 4) = .int .i64 (i : Int) := ho 4 (by decide)
            clear hp ho
            refine StepOk.of_run (v := ?v0) (w' := X) ?_ ⟨rfl, Below.refl _ _⟩
            clear hX
            go_simp
            all_goals try go_bits
            all_goals try simp only [IntWalk.iteOmega]
            all_goals try go_bits
            all_goals rfl
          · refine step_intro rfl rfl fun ρ X hc hf hgl hX hp ho => ?_
            change StepOk _ { dst := _, op := Op.move (Operand.tmp 4), type := _, pos := _, after := _, guard := _ } _ _ _
            have k4 : ρ (.tmp 4) = .int .i64 (i : Int) := ho 4 (by decide)
            clear hp ho
            refine StepOk.of_run (v := ?v1) (w' := X) ?_ ⟨rfl, Below.refl _ _⟩
            clear hX
            go_simp
            all_goals try go_bits
            all_goals try simp only [IntWalk.iteOmega]
            all_goals try go_bits
            all_goals rfl
          · refine step_intro rfl rfl fun ρ X hc hf hgl hX hp ho => ?_
            change StepOk _ { dst := _, op := Op.binOp BinOp.sub 3 (Operand.tmp 17) (Operand.const (Value.int IntKind.i64 2)) 3, type := _, pos := _, after := _, guard := _ } _ _ _
            have k17 : ρ (.tmp 17) = ?v1 := hp 1 (by decide)
            clear hp ho
            refine StepOk.of_run (v := ?v2) (w' := X) ?_ ⟨rfl, Below.refl _ _⟩
            clear hX
            go_simp
            all_goals try go_bits
            all_goals try simp only [IntWalk.iteOmega]
            all_goals try go_bits
            all_goals rfl
          · refine step_intro rfl rfl fun ρ X hc hf hgl hX hp ho => ?_
            change StepOk _ { dst := _, op := Op.indexAddr 68 (Operand.tmp 3) (Operand.tmp 18), type := _, pos := _, after := _, guard := _ } _ _ _
            have k3 : ρ (.tmp 3) = .pointer (some ⟨gp, 0, none⟩) := ho 3 (by decide)
            have k18 : ρ (.tmp 18) = ?v2 := hp 2 (by decide)
            clear hp ho
            refine StepOk.of_run (v := ?v3) (w' := X) ?_ ⟨rfl, Below.refl _ _⟩
            clear hX
            go_simp
            all_goals try go_bits
            all_goals try simp only [IntWalk.iteOmega]
            all_goals try go_bits
            all_goals rfl
          · refine step_intro rfl rfl fun ρ X hc hf hgl hX hp ho => ?_
            change StepOk _ { dst := _, op := Op.load 44 (Operand.tmp 19), type := _, pos := _, after := _, guard := _ } _ _ _
            have k19 : ρ (.tmp 19) = ?v3 := hp 3 (by decide)
            have c2X := Grows.cell' hX c2
            have c15X := Grows.cell' hX c15
            have c7X := Grows.cell' hX c7
            have c16X := Grows.cell' hX c16
            clear hp ho
            refine StepOk.of_run (v := ?v4) (w' := X) ?_ ⟨rfl, Below.refl _ _⟩
            clear hX
            go_simp
            all_goals try go_bits
            all_goals try simp only [IntWalk.iteOmega]
            all_goals try go_bits
            all_goals rfl
          · refine step_intro rfl rfl fun ρ X hc hf hgl hX hp ho => ?_
            change StepOk _ { dst := _, op := Op.call { callee := Callee.value (Operand.func 36), args := #[Operand.tmp 20, Operand.const (Value.int IntKind.i64 17), Operand.const (Value.int IntKind.i64 19), Operand.const (Value.int IntKind.i64 10)], argTypes := #[44, 3, 3, 3] }, type := _, pos := _, after := _, guard := _ } _ _ _
            have k20 : ρ (.tmp 20) = ?v4 := hp 4 (by decide)
            clear hp ho
            refine StepOk.of_call (f := 36) (args := #[?v4, .int .i64 17, .int .i64 19, .int .i64 10]) (w' := X) ?_ (vTwice x2 17 19 10 (by decide) (by decide) (by decide) _) ?_
            · go_simp
              all_goals try go_bits
              all_goals try rfl
            · rintro e w'' ⟨rfl, hg'⟩; refine ⟨_, rfl, ?_, hg'⟩; show _ = ?v5; rfl
          · refine step_intro rfl rfl fun ρ X hc hf hgl hX hp ho => ?_
            change StepOk _ { dst := _, op := Op.move (Operand.tmp 4), type := _, pos := _, after := _, guard := _ } _ _ _
            have k4 : ρ (.tmp 4) = .int .i64 (i : Int) := ho 4 (by decide)
            clear hp ho
            refine StepOk.of_run (v := ?v6) (w' := X) ?_ ⟨rfl, Below.refl _ _⟩
            clear hX
            go_simp
            all_goals try go_bits
            all_goals try simp only [IntWalk.iteOmega]
            all_goals try go_bits
            all_goals rfl
          · refine step_intro rfl rfl fun ρ X hc hf hgl hX hp ho => ?_
            change StepOk _ { dst := _, op := Op.binOp BinOp.sub 3 (Operand.tmp 22) (Operand.const (Value.int IntKind.i64 7)) 3, type := _, pos := _, after := _, guard := _ } _ _ _
            have k22 : ρ (.tmp 22) = ?v6 := hp 6 (by decide)
            clear hp ho
            refine StepOk.of_run (v := ?v7) (w' := X) ?_ ⟨rfl, Below.refl _ _⟩
            clear hX
            go_simp
            all_goals try go_bits
            all_goals try simp only [IntWalk.iteOmega]
            all_goals try go_bits
            all_goals rfl
          · refine step_intro rfl rfl fun ρ X hc hf hgl hX hp ho => ?_
            change StepOk _ { dst := _, op := Op.indexAddr 68 (Operand.tmp 3) (Operand.tmp 23), type := _, pos := _, after := _, guard := _ } _ _ _
            have k3 : ρ (.tmp 3) = .pointer (some ⟨gp, 0, none⟩) := ho 3 (by decide)
            have k23 : ρ (.tmp 23) = ?v7 := hp 7 (by decide)
            clear hp ho
            refine StepOk.of_run (v := ?v8) (w' := X) ?_ ⟨rfl, Below.refl _ _⟩
            clear hX
            go_simp
            all_goals try go_bits
            all_goals try simp only [IntWalk.iteOmega]
            all_goals try go_bits
            all_goals rfl
          · refine step_intro rfl rfl fun ρ X hc hf hgl hX hp ho => ?_
            change StepOk _ { dst := _, op := Op.load 44 (Operand.tmp 24), type := _, pos := _, after := _, guard := _ } _ _ _
            have k24 : ρ (.tmp 24) = ?v8 := hp 8 (by decide)
            have c2X := Grows.cell' hX c2
            have c15X := Grows.cell' hX c15
            have c7X := Grows.cell' hX c7
            have c16X := Grows.cell' hX c16
            clear hp ho
            refine StepOk.of_run (v := ?v9) (w' := X) ?_ ⟨rfl, Below.refl _ _⟩
            clear hX
            go_simp
            all_goals try go_bits
            all_goals try simp only [IntWalk.iteOmega]
            all_goals try go_bits
            all_goals rfl
          · refine step_intro rfl rfl fun ρ X hc hf hgl hX hp ho => ?_
            change StepOk _ { dst := _, op := Op.binOp BinOp.add 44 (Operand.tmp 21) (Operand.tmp 25) 44, type := _, pos := _, after := _, guard := _ } _ _ _
            have k21 : ρ (.tmp 21) = ?v5 := hp 5 (by decide)
            have k25 : ρ (.tmp 25) = ?v9 := hp 9 (by decide)
            clear hp ho
            refine StepOk.of_run (v := ?v10) (w' := X) ?_ ⟨rfl, Below.refl _ _⟩
            clear hX
            go_simp
            all_goals try go_bits
            all_goals try simp only [IntWalk.iteOmega]
            all_goals try go_bits
            all_goals rfl
          · refine step_intro rfl rfl fun ρ X hc hf hgl hX hp ho => ?_
            change StepOk _ { dst := _, op := Op.move (Operand.tmp 4), type := _, pos := _, after := _, guard := _ } _ _ _
            have k4 : ρ (.tmp 4) = .int .i64 (i : Int) := ho 4 (by decide)
            clear hp ho
            refine StepOk.of_run (v := ?v11) (w' := X) ?_ ⟨rfl, Below.refl _ _⟩
            clear hX
            go_simp
            all_goals try go_bits
            all_goals try simp only [IntWalk.iteOmega]
            all_goals try go_bits
            all_goals rfl
          · refine step_intro rfl rfl fun ρ X hc hf hgl hX hp ho => ?_
            change StepOk _ { dst := _, op := Op.binOp BinOp.sub 3 (Operand.tmp 27) (Operand.const (Value.int IntKind.i64 15)) 3, type := _, pos := _, after := _, guard := _ } _ _ _
            have k27 : ρ (.tmp 27) = ?v11 := hp 11 (by decide)
            clear hp ho
            refine StepOk.of_run (v := ?v12) (w' := X) ?_ ⟨rfl, Below.refl _ _⟩
            clear hX
            go_simp
            all_goals try go_bits
            all_goals try simp only [IntWalk.iteOmega]
            all_goals try go_bits
            all_goals rfl
          · refine step_intro rfl rfl fun ρ X hc hf hgl hX hp ho => ?_
            change StepOk _ { dst := _, op := Op.indexAddr 68 (Operand.tmp 3) (Operand.tmp 28), type := _, pos := _, after := _, guard := _ } _ _ _
            have k3 : ρ (.tmp 3) = .pointer (some ⟨gp, 0, none⟩) := ho 3 (by decide)
            have k28 : ρ (.tmp 28) = ?v12 := hp 12 (by decide)
            clear hp ho
            refine StepOk.of_run (v := ?v13) (w' := X) ?_ ⟨rfl, Below.refl _ _⟩
            clear hX
            go_simp
            all_goals try go_bits
            all_goals try simp only [IntWalk.iteOmega]
            all_goals try go_bits
            all_goals rfl
          · refine step_intro rfl rfl fun ρ X hc hf hgl hX hp ho => ?_
            change StepOk _ { dst := _, op := Op.load 44 (Operand.tmp 29), type := _, pos := _, after := _, guard := _ } _ _ _
            have k29 : ρ (.tmp 29) = ?v13 := hp 13 (by decide)
            have c2X := Grows.cell' hX c2
            have c15X := Grows.cell' hX c15
            have c7X := Grows.cell' hX c7
            have c16X := Grows.cell' hX c16
            clear hp ho
            refine StepOk.of_run (v := ?v14) (w' := X) ?_ ⟨rfl, Below.refl _ _⟩
            clear hX
            go_simp
            all_goals try go_bits
            all_goals try simp only [IntWalk.iteOmega]
            all_goals try go_bits
            all_goals rfl
          · refine step_intro rfl rfl fun ρ X hc hf hgl hX hp ho => ?_
            change StepOk _ { dst := _, op := Op.call { callee := Callee.value (Operand.func 36), args := #[Operand.tmp 30, Operand.const (Value.int IntKind.i64 7), Operand.const (Value.int IntKind.i64 18), Operand.const (Value.int IntKind.i64 3)], argTypes := #[44, 3, 3, 3] }, type := _, pos := _, after := _, guard := _ } _ _ _
            have k30 : ρ (.tmp 30) = ?v14 := hp 14 (by decide)
            clear hp ho
            refine StepOk.of_call (f := 36) (args := #[?v14, .int .i64 7, .int .i64 18, .int .i64 3]) (w' := X) ?_ (vTwice x15 7 18 3 (by decide) (by decide) (by decide) _) ?_
            · go_simp
              all_goals try go_bits
              all_goals try rfl
            · rintro e w'' ⟨rfl, hg'⟩; refine ⟨_, rfl, ?_, hg'⟩; show _ = ?v15; rfl
          · refine step_intro rfl rfl fun ρ X hc hf hgl hX hp ho => ?_
            change StepOk _ { dst := _, op := Op.binOp BinOp.add 44 (Operand.tmp 26) (Operand.tmp 31) 44, type := _, pos := _, after := _, guard := _ } _ _ _
            have k26 : ρ (.tmp 26) = ?v10 := hp 10 (by decide)
            have k31 : ρ (.tmp 31) = ?v15 := hp 15 (by decide)
            clear hp ho
            refine StepOk.of_run (v := ?v16) (w' := X) ?_ ⟨rfl, Below.refl _ _⟩
            clear hX
            go_simp
            all_goals try go_bits
            all_goals try simp only [IntWalk.iteOmega]
            all_goals try go_bits
            all_goals rfl
          · refine step_intro rfl rfl fun ρ X hc hf hgl hX hp ho => ?_
            change StepOk _ { dst := _, op := Op.move (Operand.tmp 4), type := _, pos := _, after := _, guard := _ } _ _ _
            have k4 : ρ (.tmp 4) = .int .i64 (i : Int) := ho 4 (by decide)
            clear hp ho
            refine StepOk.of_run (v := ?v17) (w' := X) ?_ ⟨rfl, Below.refl _ _⟩
            clear hX
            go_simp
            all_goals try go_bits
            all_goals try simp only [IntWalk.iteOmega]
            all_goals try go_bits
            all_goals rfl
          · refine step_intro rfl rfl fun ρ X hc hf hgl hX hp ho => ?_
            change StepOk _ { dst := _, op := Op.binOp BinOp.sub 3 (Operand.tmp 33) (Operand.const (Value.int IntKind.i64 16)) 3, type := _, pos := _, after := _, guard := _ } _ _ _
            have k33 : ρ (.tmp 33) = ?v17 := hp 17 (by decide)
            clear hp ho
            refine StepOk.of_run (v := ?v18) (w' := X) ?_ ⟨rfl, Below.refl _ _⟩
            clear hX
            go_simp
            all_goals try go_bits
            all_goals try simp only [IntWalk.iteOmega]
            all_goals try go_bits
            all_goals rfl
          · refine step_intro rfl rfl fun ρ X hc hf hgl hX hp ho => ?_
            change StepOk _ { dst := _, op := Op.indexAddr 68 (Operand.tmp 3) (Operand.tmp 34), type := _, pos := _, after := _, guard := _ } _ _ _
            have k3 : ρ (.tmp 3) = .pointer (some ⟨gp, 0, none⟩) := ho 3 (by decide)
            have k34 : ρ (.tmp 34) = ?v18 := hp 18 (by decide)
            clear hp ho
            refine StepOk.of_run (v := ?v19) (w' := X) ?_ ⟨rfl, Below.refl _ _⟩
            clear hX
            go_simp
            all_goals try go_bits
            all_goals try simp only [IntWalk.iteOmega]
            all_goals try go_bits
            all_goals rfl
          · refine step_intro rfl rfl fun ρ X hc hf hgl hX hp ho => ?_
            change StepOk _ { dst := _, op := Op.load 44 (Operand.tmp 35), type := _, pos := _, after := _, guard := _ } _ _ _
            have k35 : ρ (.tmp 35) = ?v19 := hp 19 (by decide)
            have c2X := Grows.cell' hX c2
            have c15X := Grows.cell' hX c15
            have c7X := Grows.cell' hX c7
            have c16X := Grows.cell' hX c16
            clear hp ho
            refine StepOk.of_run (v := ?v20) (w' := X) ?_ ⟨rfl, Below.refl _ _⟩
            clear hX
            go_simp
            all_goals try go_bits
            all_goals try simp only [IntWalk.iteOmega]
            all_goals try go_bits
            all_goals rfl
          · refine step_intro rfl rfl fun ρ X hc hf hgl hX hp ho => ?_
            change StepOk _ { dst := _, op := Op.binOp BinOp.add 44 (Operand.tmp 32) (Operand.tmp 36) 44, type := _, pos := _, after := _, guard := _ } _ _ _
            have k32 : ρ (.tmp 32) = ?v16 := hp 16 (by decide)
            have k36 : ρ (.tmp 36) = ?v20 := hp 20 (by decide)
            clear hp ho
            refine StepOk.of_run (v := ?v21) (w' := X) ?_ ⟨rfl, Below.refl _ _⟩
            clear hX
            go_simp
            all_goals try go_bits
            all_goals try simp only [IntWalk.iteOmega]
            all_goals try go_bits
            all_goals rfl
          · refine step_intro rfl rfl fun ρ X hc hf hgl hX hp ho => ?_
            change StepOk _ { dst := _, op := Op.indexAddr 68 (Operand.tmp 3) (Operand.tmp 16), type := _, pos := _, after := _, guard := _ } _ _ _
            have k3 : ρ (.tmp 3) = .pointer (some ⟨gp, 0, none⟩) := ho 3 (by decide)
            have k16 : ρ (.tmp 16) = ?v0 := hp 0 (by decide)
            clear hp ho
            refine StepOk.of_run (v := ?v22) (w' := X) ?_ ⟨rfl, Below.refl _ _⟩
            clear hX
            go_simp
            all_goals try go_bits
            all_goals try simp only [IntWalk.iteOmega]
            all_goals try go_bits
            all_goals rfl
          · exact last_intro rfl
        case grd => rfl
        case rst =>
          intro a0 X hb
          have hfr := hb.frame ((16, ?v0) :: (17, ?v1) :: (18, ?v2) :: (19, ?v3) :: (20, ?v4) :: (21, ?v5) :: (22, ?v6) :: (23, ?v7) :: (24, ?v8) :: (25, ?v9) :: (26, ?v10) :: (27, ?v11) :: (28, ?v12) :: (29, ?v13) :: (30, ?v14) :: (31, ?v15) :: (32, ?v16) :: (33, ?v17) :: (34, ?v18) :: (35, ?v19) :: (36, ?v20) :: (37, ?v21) :: (38, ?v22) :: []) rfl ⟨hb.done' 0 16 rfl rfl, hb.done' 1 17 rfl rfl, hb.done' 2 18 rfl rfl, hb.done' 3 19 rfl rfl, hb.done' 4 20 rfl rfl, hb.done' 5 21 rfl rfl, hb.done' 6 22 rfl rfl, hb.done' 7 23 rfl rfl, hb.done' 8 24 rfl rfl, hb.done' 9 25 rfl rfl, hb.done' 10 26 rfl rfl, hb.done' 11 27 rfl rfl, hb.done' 12 28 rfl rfl, hb.done' 13 29 rfl rfl, hb.done' 14 30 rfl rfl, hb.done' 15 31 rfl rfl, hb.done' 16 32 rfl rfl, hb.done' 17 33 rfl rfl, hb.done' 18 34 rfl rfl, hb.done' 19 35 rfl rfl, hb.done' 20 36 rfl rfl, hb.done' 21 37 rfl rfl, hb.done' 22 38 rfl rfl, trivial⟩
          simp only [updL, ↓reduceIte, Nat.reduceEqDiff, Nat.reduceAdd, Nat.zero_add] at hfr
          have HX := Lib.hid hb.ext
          clear hb
          subst hfr
          change StepOk _ { dst := none, op := Op.store 44 (Operand.tmp 38) (Operand.tmp 37), type := _, pos := _, after := _, guard := _ } _ _ _
          have cX := Grows.cell' HX.out Cw.out
          have fX : X.frozen? ⟨gp, i, none⟩ = false := (Below.frozen HX.out (p := ⟨gp, i, none⟩) (World.block_lt_of_cell? _ _ Cw.out)).trans Fw.out
          unfold StepOk
          simp [go_sem, execOp, cX, fX]
          clear cX fX
          go_wp2
          go_roundw
          case rel =>
            refine ⟨i + 1, Hi.out, by simp, ?_, ?_, Below.setCell (p := ⟨gp, i, none⟩) (Grows.trans' HG.out HX.out) Hgp.out.1 _⟩
            · have h5 := row_setCell (HX.out.heap' Hrow.out) i (wv (nextW (pl l i) i))
              rw [show 64 - i = (64 - (i + 1)) + 1 by have := Hi.out; omega, set_words _ _ i _ (pl_length l i).symm, ← Hn.out, Hnx.out] at h5
              exact h5
            · rw [Below.heap_setCell _ _ _ _ (fun e => Hgp.out.2.2 e)]
              exact HX.out.heap' Hrr.out
          case measure => have := Hi.out; simp [intOf]; omega
    · have hi' : ¬ (i : Int) < 64 := by omega
      have hi : i = 64 := by omega
      rw [hi, pl_all, show 64 - 64 = 0 from rfl, List.replicate_zero, List.append_nil, HC.out] at hrow
      have Hrow := Lib.hid hrow
      have Hrr := Lib.hid hrr
      have HG := Lib.hid hG
      clear hrow hrr hG hi hi64 hlt
      go_wp2_with (first
        | (refine wpList_load_row rfl _ _ rfl gp rfl 68 C (0, 0) _ Hrow.out Tryd.underlying68 rfl (by rw [hCs]; exact planSize) ?_)
        | (refine wpList_storeT rfl _ _ _ rfl gr 68 Z C rfl rfl Hrr.out (by rw [hCs]; exact planSize) (by rw [hZs, hCs]) hC1 ?_))
      exact ret_cell rfl gr 68 C _ rfl (setRow_heap _ _ _ _ _ _ Hrr.out) Tryd.underlying68 rfl (by rw [hCs]; exact planSize) rfl ⟨rfl, setRow_below HG.out Hgp.out.2.1 C⟩
end Go.Proofs.YtkehcpjianadjaaDoor
