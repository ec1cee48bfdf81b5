/-
  Walks of the laws of sha, over whatever meets the contracts: ShaSums, ShaNil, ShaHex.
-/
import Derived.Test.YtkehcpjianadjaaDoorShaI
namespace Go.Proofs.YtkehcpjianadjaaDoor
open Go.RowKit
set_option linter.unusedVariables false
set_option linter.unusedSimpArgs false

def LiveOK : Prop := ∀ w : World, KW w → Calls Tryd.prog 8 #[] w fun e w' => e = .returned (.bool true) ∧ Grows w w'
theorem eqAgg (l : List UInt8) (hl : l.length = 32) (A : Array Value) (hA : arr l = .agg A) (X : World) : (binOp .eql 25 (.agg A) (.agg A)).run Tryd.prog X = .ok (.bool true) X := by rw [← hA]; exact eqArr l hl X
theorem bytL1 (w : World) (v : Value) (l : List UInt8) (h : Byt w v l) : BytL (w.alloc (.cells #[v] 22)) (.slice (some ⟨w.heap.size, 0, none⟩) 1 1) [l] :=
  BytL.lit' w 22 [v] [l] _ 1 rfl rfl rfl (by simp [maxLen]) (fun i hi => match i, hi with | 0, _ => h | _ + 1, h => absurd h (by simp))
theorem infoSum : ((Tryd.prog.info? 25).map (·.size)) = some 32 := by kernel_rfl

set_option maxRecDepth 100000 in
set_option maxHeartbeats 2000000 in
theorem walkSums {H : World → Nat → List UInt8 → (Nat → Prop) → Prop} (S : HashOK H) (LV : LiveOK) (v : Value) (l : List UInt8) (w : World) (hK : KW w) (h : Byt w v l) :
    Calls Tryd.prog 3 #[v] w fun e w' => e = .returned (.bool true) ∧ Grows w w' := by
  obtain ⟨i0, hi, hz0, hz1, hz2⟩ := info_parts info5
  have HB := Lib.hid h
  obtain ⟨a, cap, rfl⟩ := h.slice
  clear h
  by_cases hbig : 2000 < l.length
  · have hb' : (2000 : Int) < (l.length : Int) := by omega
    go_enter Tryd.func3, Tryd.ntmps3
    go_wp2_with fail
    refine (LV _ hK).mono ?_
    rintro e w1 ⟨rfl, hg⟩
    go_wp2
    go_ret
    exact ⟨rfl, hg⟩
  · have hb' : ¬ (2000 : Int) < (l.length : Int) := by omega
    have Hl := Lib.hid (show l.length ≤ 2000 by omega)
    obtain ⟨A, HA⟩ : ∃ A, Shut (arr (shaF l) = .agg A) := ⟨_, ⟨rfl⟩⟩
    have hE := eqAgg (shaF l) (shaF_length l) A HA.out
    have hg := guardOff
    clear hbig
    go_enter Tryd.func3, Tryd.ntmps3
    go_wp2_with (at_builtin; refine wpList_app rfl _ _ 22 5 i0 rfl Tryd.underlying22 hi hz0 hz1 hz2 w.heap.size _ _ [] l rfl (Own.empty _ _ _ (Nat.le_refl _)) rfl (HB.out.grows (Grows.alloc' _ _)) (by have := Hl.out; simp; omega) (by simp) ?_; intro v1 w1 hown1 hgrow1; have HG1 := Lib.hid (grows_app ((Below.refl _ _).alloc (Nat.le_refl _) _) (Own.empty 5 _ _ (Nat.le_refl _)) (by simp) hgrow1); obtain ⟨a1, c1, e1⟩ := hown1.slice; subst e1)
    have HL := Lib.hid (bytL1 w1 _ _ hown1.byt)
    refine (S.sumAll _ _ _ (hK.up (Grows.trans' HG1.out (Grows.alloc' _ _))) HL.out (by have := Hl.out; simp; omega)).mono ?_
    rw [show [[] ++ l].flatten = l by simp, HA.out]
    rintro e w2 ⟨rfl, hg2⟩
    have HG2 := Lib.hid (Grows.trans' (Grows.trans' HG1.out (Grows.alloc' _ _)) hg2)
    have HB2 := Lib.hid (HB.out.grows HG2.out)
    clear hgrow1 hown1 hg2
    go_wp2_with fail
    have HR := refSha _ l _ HB2.out (by have := Hl.out; omega)
    rw [show (Value.agg (List.map bv (shaF l)).toArray) = .agg A from HA.out] at HR
    refine HR.mono ?_
    rintro e w3 ⟨rfl, hg3⟩
    have HG3 := Lib.hid (Grows.trans' HG2.out hg3)
    clear hg3 HR
    go_wp2_with fail
    refine (LV _ (hK.up HG3.out)).mono ?_
    rintro e w4 ⟨rfl, hg4⟩
    go_wp2
    go_ret
    exact ⟨rfl, Grows.trans' HG3.out hg4⟩

set_option maxRecDepth 100000 in
set_option maxHeartbeats 2000000 in
theorem walkNil {H : World → Nat → List UInt8 → (Nat → Prop) → Prop} (S : HashOK H) (LV : LiveOK) (v : Value) (l : List UInt8) (w : World) (hK : KW w) (h : Byt w v l) :
    Calls Tryd.prog 7 #[v] w fun e w' => e = .returned (.bool true) ∧ Grows w w' := by
  have HB := Lib.hid h
  obtain ⟨a, cap, rfl⟩ := h.slice
  clear h
  have HA : Shut (arr (List.replicate 32 0) = .agg #[.int .u8 0, .int .u8 0, .int .u8 0, .int .u8 0, .int .u8 0, .int .u8 0, .int .u8 0, .int .u8 0, .int .u8 0, .int .u8 0, .int .u8 0, .int .u8 0, .int .u8 0, .int .u8 0, .int .u8 0, .int .u8 0, .int .u8 0, .int .u8 0, .int .u8 0, .int .u8 0, .int .u8 0, .int .u8 0, .int .u8 0, .int .u8 0, .int .u8 0, .int .u8 0, .int .u8 0, .int .u8 0, .int .u8 0, .int .u8 0, .int .u8 0, .int .u8 0]) := ⟨rfl⟩
  have hE := eqAgg (List.replicate 32 0) (by simp) _ HA.out
  have hg := guardOff
  go_enter Tryd.func7, Tryd.ntmps7
  go_wp2_with fail
  refine (S.writeNil _ _ _ HB.out).mono ?_
  rintro e w1 ⟨rfl, hg1⟩
  have HG1 := Lib.hid hg1
  clear hg1
  go_wp2_with fail
  refine (S.sumNil _).mono ?_
  rw [HA.out]
  rintro e w2 ⟨rfl, hg2⟩
  have HG2 := Lib.hid (Grows.trans' HG1.out hg2)
  clear hg2
  go_wp2_with fail
  refine (LV _ (hK.up HG2.out)).mono ?_
  rintro e w3 ⟨rfl, hg3⟩
  go_wp2
  go_ret
  exact ⟨rfl, Grows.trans' HG2.out hg3⟩

theorem arrZ25 : ∃ Z : Array Value, ((Tryd.prog.info? 25).bind (fun i => i.zero)).map (fun z => z.cells) = some Z ∧ Z.size = 32 := ⟨((List.replicate 32 (0 : UInt8)).map bv).toArray, by kernel_rfl, by simp⟩
theorem allocSet (W : World) (Y P : Array Value) (T : TypeId) : ((W.alloc (.cells Y T)).setRow W.heap.size P).heap[W.heap.size]? = some (.cells P T (0, 0)) ∧ Grows W ((W.alloc (.cells Y T)).setRow W.heap.size P) :=
  ⟨setRow_heap _ _ _ _ _ _ (heap_alloc_new W _), setRow_below ((Below.refl _ _).alloc (Nat.le_refl _) _) (Nat.le_refl _) P⟩
theorem arrSize (l : List UInt8) (hl : l.length = 32) (A : Array Value) (hA : arr l = .agg A) : A.size = 32 ∧ A.all (·.oneCell') = true := by
  have e : A = (l.map bv).toArray := by unfold arr at hA; simpa using hA.symm
  rw [e]
  exact ⟨by simp [hl], arr_one l⟩
theorem parseF_length (l : List UInt8) : (parseF l).1.length = 32 := by
  unfold parseF
  split
  · exact partL_length _ _
  · simp

set_option maxRecDepth 100000 in
set_option maxHeartbeats 4000000 in
theorem walkHex {H : World → Nat → List UInt8 → (Nat → Prop) → Prop} (S : HashOK H) (LV : LiveOK) (s t : List UInt8) (hs : s.length = 32) (ht : t.length ≤ 9223372036854775807) (w : World) (hK : KW w) :
    Calls Tryd.prog 5 #[arr s, .string ⟨t.toArray⟩] w fun e w' => e = .returned (.bool true) ∧ Grows w w' := by
  have hmx : Tryd.prog.follows .mixedOrders = true := by kernel_rfl
  obtain ⟨A, HA⟩ : ∃ A, Shut (arr s = .agg A) := ⟨_, ⟨rfl⟩⟩
  obtain ⟨hAs, hA1⟩ := arrSize s hs A HA.out
  obtain ⟨Z, hZ, hZs⟩ := arrZ
  obtain ⟨Y, hY, hYs⟩ := arrZ25
  have hZs : Z.size = 32 := by rw [hZs.out]; simp
  rw [HA.out]
  by_cases hbig : 2000 < t.length
  · have hb' : (2000 : Int) < (t.length : Int) := by omega
    go_enter Tryd.func5, Tryd.ntmps5
    go_wp2_with (refine wpList_boxT rfl _ _ rfl A rfl ?_)
    refine (LV _ (hK.up (Grows.alloc' _ _))).mono ?_
    rintro e w1 ⟨rfl, hg⟩
    go_wp2
    go_ret
    exact ⟨rfl, Grows.trans' (Grows.alloc' _ _) hg⟩
  · have hb' : ¬ (2000 : Int) < (t.length : Int) := by omega
    have Ht := Lib.hid (show t.length ≤ 2000 by omega)
    obtain ⟨P, HP⟩ : ∃ P, Shut (arr (parseF t).1 = .agg P) := ⟨_, ⟨rfl⟩⟩
    obtain ⟨hPs, hP1⟩ := arrSize _ (parseF_length t) P HP.out
    obtain ⟨ok, Hok⟩ : ∃ b, Shut ((parseF t).2 = b) := ⟨_, ⟨rfl⟩⟩
    have hEA := eqAgg s hs A HA.out
    have hEP := eqAgg _ (parseF_length t) P HP.out
    have hg := guardOff
    have HS := Lib.hid hs
    clear hbig hs
    go_enter Tryd.func5, Tryd.ntmps5
    go_wp2_with (refine wpList_boxT rfl _ _ rfl A rfl ?_)
    have hb2 := Lib.hid (heap_alloc_new w (.cells A 24))
    have HG0 := Lib.hid (Grows.alloc' w (.cells A 24))
    have hps := S.parse (w.alloc (.cells A 24)) t (by have := Ht.out; omega)
    rw [HP.out, Hok.out] at hps
    refine hps.mono ?_
    rintro e w1 ⟨rfl, hg1⟩
    clear hps
    have HG1 := Lib.hid (Grows.trans' HG0.out hg1)
    have Hb2 := Lib.hid (hg1.heap' hb2.out)
    clear hg1
    have h5 := heap_alloc_new w1 (.cells Y 25)
    go_wp2_with (first
      | (refine wpList_allocT rfl 25 rfl _ hY ?_)
      | (refine wpList_storeT rfl _ _ _ rfl w1.heap.size 25 Y P rfl rfl h5 (by rw [hPs]; exact infoSum) (by rw [hYs, hPs]) hP1 ?_))
    obtain ⟨hb5, hg2⟩ := allocSet w1 Y P 25
    have HG2 := Lib.hid (Grows.trans' HG1.out hg2)
    have Hb2' := Lib.hid (hg2.heap' Hb2.out)
    obtain ⟨w2, hw2⟩ : ∃ x, (w1.alloc (.cells Y 25)).setRow w1.heap.size P = x := ⟨_, rfl⟩
    rw [hw2] at hb5 HG2 Hb2' ⊢
    have Hb5 := Lib.hid hb5
    obtain ⟨n5, Hn5⟩ : ∃ n, Hid (w1.heap.size = n) := ⟨_, rfl⟩
    rw [Hn5.out] at Hb5 ⊢
    clear hw2 hg2 h5 hb5
    have hpr := refParse t (by have := Ht.out; omega) w2
    rw [HP.out, Hok.out] at hpr
    refine hpr.mono ?_
    rintro e w3 ⟨rfl, hg3⟩
    clear hpr
    have h7 := heap_alloc_new w3 (.cells Z 24)
    obtain ⟨hb7, hg4⟩ := allocSet w3 Z P 24
    go_wp2_with (first
      | (refine wpList_allocT rfl 24 rfl _ hZ ?_)
      | (refine wpList_storeT rfl _ _ _ rfl w3.heap.size 24 Z P rfl rfl h7 (by rw [hPs]; exact infoArr2) (by rw [hZs, hPs]) hP1 ?_)
      | (refine wpList_load_row rfl _ _ rfl w.heap.size rfl 24 A (0, 0) _ (hg4.heap' (hg3.heap' Hb2'.out)) Tryd.underlying24 rfl (by rw [hAs]; exact infoArr2) ?_))
    have hg34 := Grows.trans' hg3 hg4
    have HG4 := Lib.hid (Grows.trans' HG2.out hg34)
    have Hb2'' := Lib.hid (hg34.heap' Hb2'.out)
    have Hb5' := Lib.hid (hg34.heap' Hb5.out)
    obtain ⟨w4, hw4⟩ : ∃ x, (w3.alloc (.cells Z 24)).setRow w3.heap.size P = x := ⟨_, rfl⟩
    rw [hw4] at hb7 HG4 Hb2'' Hb5' ⊢
    have Hb7 := Lib.hid hb7
    obtain ⟨n7, Hn7⟩ : ∃ n, Hid (w3.heap.size = n) := ⟨_, rfl⟩
    rw [Hn7.out] at Hb7 ⊢
    clear hw4 hg34 hg3 hg4 h7 hb7
    have hhx := S.hex w4 s HS.out
    rw [HA.out] at hhx
    refine hhx.mono ?_
    rintro e w5 ⟨rfl, hg5⟩
    clear hhx
    go_wp2_with fail
    have hp2 := S.parse w5 (hexF s) (by rw [hexF_length, HS.out]; omega)
    rw [parse_hex s HS.out] at hp2
    simp only [HA.out] at hp2
    refine hp2.mono ?_
    rintro e w6 ⟨rfl, hg6⟩
    clear hp2
    have h9 := heap_alloc_new w6 (.cells Y 25)
    obtain ⟨hb9, hg7⟩ := allocSet w6 Y A 25
    go_wp2_with (first
      | (refine wpList_allocT rfl 25 rfl _ hY ?_)
      | (refine wpList_storeT rfl _ _ _ rfl w6.heap.size 25 Y A rfl rfl h9 (by rw [hAs]; exact infoSum) (by rw [hYs, hAs]) hA1 ?_))
    have hg57 := Grows.trans' (Grows.trans' hg5 hg6) hg7
    have HG7 := Lib.hid (Grows.trans' HG4.out hg57)
    have Hc2 := Lib.hid (hg57.heap' Hb2''.out)
    have Hc5 := Lib.hid (hg57.heap' Hb5'.out)
    have Hc7 := Lib.hid (hg57.heap' Hb7.out)
    obtain ⟨w7, hw7⟩ : ∃ x, (w6.alloc (.cells Y 25)).setRow w6.heap.size A = x := ⟨_, rfl⟩
    rw [hw7] at hb9 HG7 Hc2 Hc5 Hc7 ⊢
    have Hc9 := Lib.hid hb9
    obtain ⟨n9, Hn9⟩ : ∃ n, Hid (w6.heap.size = n) := ⟨_, rfl⟩
    rw [Hn9.out] at Hc9 ⊢
    clear hw7 hg57 hg5 hg6 hg7 h9 hb9
    have hxh : ∀ X, Calls Tryd.prog 16 #[.agg A] X fun e W' => e = .returned (.string ⟨(hexF s).toArray⟩) ∧ Grows X W' := fun X => by
      have := S.hex X s HS.out
      rwa [HA.out] at this
    have hrh : ∀ X, Calls Tryd.prog 17 #[.agg A] X fun e W' => e = .returned (.string ⟨(hexF s).toArray⟩) ∧ Grows X W' := fun X => by
      have := refHex s HS.out X
      rwa [show Value.agg (List.map bv s).toArray = .agg A from HA.out] at this
    have HXH := Lib.hid hxh
    have HRH := Lib.hid hrh
    clear hxh hrh
    refine specs_region
      #[[], [0], [], [0, 1, 2], [0, 1, 2, 3], [0, 1, 2, 3, 4], [0, 1, 2, 3, 4, 5], [0, 1, 2, 3, 4, 5], [0, 1, 2, 3, 4, 5, 6, 7], [0, 1, 2, 3, 4, 5, 6, 7, 8], [0, 1, 2, 3, 4, 5, 6, 7, 8, 9], [0, 1, 2, 3, 4, 5, 6, 7, 8, 9, 10], [0, 1, 2, 3, 4, 5, 6, 7, 8, 9, 10], [0, 1, 2, 3, 4, 5, 6, 7, 8, 9, 10, 11, 12], [0, 1, 2, 3, 4, 5, 6, 7, 8, 9, 10, 11, 12, 13], [0, 1, 2, 3, 4, 5, 6, 7, 8, 9, 10, 11, 12, 13, 14], [0, 1, 2, 3, 4, 5, 6, 7, 8, 9, 10, 11, 12, 13, 14, 15], [0, 1, 2, 3, 4, 5, 6, 7, 8, 9, 10, 11, 12, 13, 14, 15, 16], [0, 1, 2, 3, 4, 5, 6, 7, 8, 9, 10, 11, 12, 13, 14, 15, 16, 17], [0, 1, 2, 3, 4, 5, 6, 7, 8, 9, 10, 11, 12, 13, 14, 15, 16, 17, 18], [0, 1, 2, 3, 4, 5, 6, 7, 8, 9, 10, 11, 12, 13, 14, 15, 16, 17, 18], [0, 1, 2, 3, 4, 5, 6, 7, 8, 9, 10, 11, 12, 13, 14, 15, 16, 17, 18, 19, 20], [0, 1, 2, 3, 4, 5, 6, 7, 8, 9, 10, 11, 12, 13, 14, 15, 16, 17, 18, 19, 20, 21], [0, 1, 2, 3, 4, 5, 6, 7, 8, 9, 10, 11, 12, 13, 14, 15, 16, 17, 18, 19, 20, 21, 22], [0, 1, 2, 3, 4, 5, 6, 7, 8, 9, 10, 11, 12, 13, 14, 15, 16, 17, 18, 19, 20, 21, 22, 23], [0, 1, 2, 3, 4, 5, 6, 7, 8, 9, 10, 11, 12, 13, 14, 15, 16, 17, 18, 19, 20, 21, 22, 23, 24], [0, 1, 2, 3, 4, 5, 6, 7, 8, 9, 10, 11, 12, 13, 14, 15, 16, 17, 18, 19, 20, 21, 22, 23, 24, 25]] #[[2], [], [2], [], [], [], [5], [7], [], [], [], [6], [8], [], [], [], [10], [], [], [9], [2], [], [], [], [], [], []] #[true, true, true, true, true, true, true, true, true, true, true, true, true, true, true, true, true, true, true, true, true, true, true, true, true, true, true]
      ((.val (.agg A)) :: (.val ?v1) :: (.val (.agg A)) :: (.val ?v3) :: (.val ?v4) :: (.val ?v5) :: (.val (.agg P)) :: (.val (.agg P)) :: (.val ?v8) :: (.val ?v9) :: (.val ?v10) :: (.val ?v11) :: (.val ?v12) :: (.val ?v13) :: (.val ?v14) :: (.val ?v15) :: (.val ?v16) :: (.val ?v17) :: (.val ?v18) :: (.val (.agg A)) :: (.val (.agg A)) :: (.val ?v21) :: (.val ?v22) :: (.val ?v23) :: (.val ?v24) :: (.val ?v25) :: (.val ?v26) :: []).toArray
      hmx ?chk ?grd ?stp ?rst
    case chk => rfl
    case stp =>
      refine ⟨?_, ?_, ?_, ?_, ?_, ?_, ?_, ?_, ?_, ?_, ?_, ?_, ?_, ?_, ?_, ?_, ?_, ?_, ?_, ?_, ?_, ?_, ?_, ?_, ?_, ?_, ?_, trivial⟩
      · refine step_intro rfl rfl fun ρ X hc hf hgl hX hp ho => ?_
        change StepOk _ { dst := _, op := Op.load 24 (Operand.tmp 2), type := _, pos := _, after := _, guard := _ } _ _ _
        have k2 : ρ (.tmp 2) = .pointer (some ⟨w.heap.size, 0, none⟩) := ho 2 (by decide)
        clear hp ho
        refine StepOk.of_run (v := .agg A) (w' := X) ?_ ⟨rfl, Below.refl _ _⟩
        simp only [execOp, Instr.loadAt, Instr.sureAddr, k2, Sem.run_bind, Sem.run_pure, Result.andThen_ok, run_loadVar_row X _ 24 24 A (0, 0) _ (hX.heap' Hc2.out) Tryd.underlying24 rfl (by rw [hAs]; exact infoArr2)]
      · refine step_intro rfl rfl fun ρ X hc hf hgl hX hp ho => ?_
        change StepOk _ { dst := _, op := Op.call { callee := Callee.value (Operand.func 16), args := #[Operand.tmp 31], argTypes := #[25] }, type := _, pos := _, after := _, guard := _ } _ _ _
        have k31 : ρ (.tmp 31) = (.agg A) := hp 0 (by decide)
        clear hp ho
        refine StepOk.of_call (f := 16) (args := #[(.agg A)]) (w' := X) ?_ (HXH.out X) ?_
        · go_simp
          all_goals try go_bits
          all_goals try rfl
        · rintro e w'' ⟨rfl, hg'⟩; refine ⟨_, rfl, ?_, hg'⟩; show _ = ?v1; rfl
      · refine step_intro rfl rfl fun ρ X hc hf hgl hX hp ho => ?_
        change StepOk _ { dst := _, op := Op.load 24 (Operand.tmp 2), type := _, pos := _, after := _, guard := _ } _ _ _
        have k2 : ρ (.tmp 2) = .pointer (some ⟨w.heap.size, 0, none⟩) := ho 2 (by decide)
        clear hp ho
        refine StepOk.of_run (v := .agg A) (w' := X) ?_ ⟨rfl, Below.refl _ _⟩
        simp only [execOp, Instr.loadAt, Instr.sureAddr, k2, Sem.run_bind, Sem.run_pure, Result.andThen_ok, run_loadVar_row X _ 24 24 A (0, 0) _ (hX.heap' Hc2.out) Tryd.underlying24 rfl (by rw [hAs]; exact infoArr2)]
      · refine step_intro rfl rfl fun ρ X hc hf hgl hX hp ho => ?_
        change StepOk _ { dst := _, op := Op.call { callee := Callee.value (Operand.func 17), args := #[Operand.tmp 33], argTypes := #[24] }, type := _, pos := _, after := _, guard := _ } _ _ _
        have k33 : ρ (.tmp 33) = (.agg A) := hp 2 (by decide)
        clear hp ho
        refine StepOk.of_call (f := 17) (args := #[(.agg A)]) (w' := X) ?_ (HRH.out X) ?_
        · go_simp
          all_goals try go_bits
          all_goals try rfl
        · rintro e w'' ⟨rfl, hg'⟩; refine ⟨_, rfl, ?_, hg'⟩; show _ = ?v3; rfl
      · refine step_intro rfl rfl fun ρ X hc hf hgl hX hp ho => ?_
        change StepOk _ { dst := _, op := Op.binOp BinOp.eql 9 (Operand.tmp 32) (Operand.tmp 34) 9, type := _, pos := _, after := _, guard := _ } _ _ _
        have k32 : ρ (.tmp 32) = ?v1 := hp 1 (by decide)
        have k34 : ρ (.tmp 34) = ?v3 := hp 3 (by decide)
        clear hp ho
        refine StepOk.of_run (v := ?v4) (w' := X) ?_ ⟨rfl, Below.refl _ _⟩
        clear hX
        go_simp
        all_goals try go_bits
        all_goals try simp only [IntWalk.iteOmega]
        all_goals try go_bits
        all_goals rfl
      · refine step_intro rfl rfl fun ρ X hc hf hgl hX hp ho => ?_
        change StepOk _ { dst := _, op := Op.move (Operand.tmp 35), type := _, pos := _, after := _, guard := _ } _ _ _
        have k35 : ρ (.tmp 35) = ?v4 := hp 4 (by decide)
        clear hp ho
        refine StepOk.of_run (v := ?v5) (w' := X) ?_ ⟨rfl, Below.refl _ _⟩
        clear hX
        go_simp
        all_goals try go_bits
        all_goals try simp only [IntWalk.iteOmega]
        all_goals try go_bits
        all_goals rfl
      · refine step_intro rfl rfl fun ρ X hc hf hgl hX hp ho => ?_
        change StepOk _ { dst := _, op := Op.load 25 (Operand.tmp 5), type := _, pos := _, after := _, guard := _ } _ _ _
        have k5 : ρ (.tmp 5) = .pointer (some ⟨n5, 0, none⟩) := ho 5 (by decide)
        clear hp ho
        refine StepOk.of_run (v := .agg P) (w' := X) ?_ ⟨rfl, Below.refl _ _⟩
        simp only [execOp, Instr.loadAt, Instr.sureAddr, k5, Sem.run_bind, Sem.run_pure, Result.andThen_ok, run_loadVar_row X _ 25 25 P (0, 0) _ (hX.heap' Hc5.out) Tryd.underlying25 rfl (by rw [hPs]; exact infoSum)]
      · refine step_intro rfl rfl fun ρ X hc hf hgl hX hp ho => ?_
        change StepOk _ { dst := _, op := Op.load 24 (Operand.tmp 7), type := _, pos := _, after := _, guard := _ } _ _ _
        have k7 : ρ (.tmp 7) = .pointer (some ⟨n7, 0, none⟩) := ho 7 (by decide)
        clear hp ho
        refine StepOk.of_run (v := .agg P) (w' := X) ?_ ⟨rfl, Below.refl _ _⟩
        simp only [execOp, Instr.loadAt, Instr.sureAddr, k7, Sem.run_bind, Sem.run_pure, Result.andThen_ok, run_loadVar_row X _ 24 24 P (0, 0) _ (hX.heap' Hc7.out) Tryd.underlying24 rfl (by rw [hPs]; exact infoArr2)]
      · refine step_intro rfl rfl fun ρ X hc hf hgl hX hp ho => ?_
        change StepOk _ { dst := _, op := Op.binOp BinOp.eql 25 (Operand.tmp 37) (Operand.tmp 38) 25, type := _, pos := _, after := _, guard := _ } _ _ _
        have k37 : ρ (.tmp 37) = (.agg P) := hp 6 (by decide)
        have k38 : ρ (.tmp 38) = (.agg P) := hp 7 (by decide)
        clear hp ho
        refine StepOk.of_run (v := ?v8) (w' := X) ?_ ⟨rfl, Below.refl _ _⟩
        clear hX
        go_simp
        all_goals try go_bits
        all_goals try simp only [IntWalk.iteOmega]
        all_goals try go_bits
        all_goals rfl
      · refine step_intro rfl rfl fun ρ X hc hf hgl hX hp ho => ?_
        change StepOk _ { dst := _, op := Op.pick (Operand.tmp 36) (Operand.tmp 39) (Operand.const (Value.bool false)), type := _, pos := _, after := _, guard := _ } _ _ _
        have k36 : ρ (.tmp 36) = ?v5 := hp 5 (by decide)
        have k39 : ρ (.tmp 39) = ?v8 := hp 8 (by decide)
        clear hp ho
        refine StepOk.of_run (v := ?v9) (w' := X) ?_ ⟨rfl, Below.refl _ _⟩
        clear hX
        go_simp
        all_goals try go_bits
        all_goals try simp only [IntWalk.iteOmega]
        all_goals try go_bits
        all_goals rfl
      · refine step_intro rfl rfl fun ρ X hc hf hgl hX hp ho => ?_
        change StepOk _ { dst := _, op := Op.move (Operand.tmp 40), type := _, pos := _, after := _, guard := _ } _ _ _
        have k40 : ρ (.tmp 40) = ?v9 := hp 9 (by decide)
        clear hp ho
        refine StepOk.of_run (v := ?v10) (w' := X) ?_ ⟨rfl, Below.refl _ _⟩
        clear hX
        go_simp
        all_goals try go_bits
        all_goals try simp only [IntWalk.iteOmega]
        all_goals try go_bits
        all_goals rfl
      · refine step_intro rfl rfl fun ρ X hc hf hgl hX hp ho => ?_
        change StepOk _ { dst := _, op := Op.move (Operand.tmp 6), type := _, pos := _, after := _, guard := _ } _ _ _
        have k6 : ρ (.tmp 6) = .bool ok := ho 6 (by decide)
        clear hp ho
        refine StepOk.of_run (v := ?v11) (w' := X) ?_ ⟨rfl, Below.refl _ _⟩
        clear hX
        go_simp
        all_goals try go_bits
        all_goals try simp only [IntWalk.iteOmega]
        all_goals try go_bits
        all_goals rfl
      · refine step_intro rfl rfl fun ρ X hc hf hgl hX hp ho => ?_
        change StepOk _ { dst := _, op := Op.move (Operand.tmp 8), type := _, pos := _, after := _, guard := _ } _ _ _
        have k8 : ρ (.tmp 8) = .bool ok := ho 8 (by decide)
        clear hp ho
        refine StepOk.of_run (v := ?v12) (w' := X) ?_ ⟨rfl, Below.refl _ _⟩
        clear hX
        go_simp
        all_goals try go_bits
        all_goals try simp only [IntWalk.iteOmega]
        all_goals try go_bits
        all_goals rfl
      · refine step_intro rfl rfl fun ρ X hc hf hgl hX hp ho => ?_
        change StepOk _ { dst := _, op := Op.binOp BinOp.eql 4 (Operand.tmp 42) (Operand.tmp 43) 4, type := _, pos := _, after := _, guard := _ } _ _ _
        have k42 : ρ (.tmp 42) = ?v11 := hp 11 (by decide)
        have k43 : ρ (.tmp 43) = ?v12 := hp 12 (by decide)
        clear hp ho
        refine StepOk.of_run (v := ?v13) (w' := X) ?_ ⟨rfl, Below.refl _ _⟩
        clear hX
        go_simp
        all_goals try go_bits
        all_goals try simp only [IntWalk.iteOmega]
        all_goals try go_bits
        all_goals rfl
      · refine step_intro rfl rfl fun ρ X hc hf hgl hX hp ho => ?_
        change StepOk _ { dst := _, op := Op.pick (Operand.tmp 41) (Operand.tmp 44) (Operand.const (Value.bool false)), type := _, pos := _, after := _, guard := _ } _ _ _
        have k41 : ρ (.tmp 41) = ?v10 := hp 10 (by decide)
        have k44 : ρ (.tmp 44) = ?v13 := hp 13 (by decide)
        clear hp ho
        refine StepOk.of_run (v := ?v14) (w' := X) ?_ ⟨rfl, Below.refl _ _⟩
        clear hX
        go_simp
        all_goals try go_bits
        all_goals try simp only [IntWalk.iteOmega]
        all_goals try go_bits
        all_goals rfl
      · refine step_intro rfl rfl fun ρ X hc hf hgl hX hp ho => ?_
        change StepOk _ { dst := _, op := Op.move (Operand.tmp 45), type := _, pos := _, after := _, guard := _ } _ _ _
        have k45 : ρ (.tmp 45) = ?v14 := hp 14 (by decide)
        clear hp ho
        refine StepOk.of_run (v := ?v15) (w' := X) ?_ ⟨rfl, Below.refl _ _⟩
        clear hX
        go_simp
        all_goals try go_bits
        all_goals try simp only [IntWalk.iteOmega]
        all_goals try go_bits
        all_goals rfl
      · refine step_intro rfl rfl fun ρ X hc hf hgl hX hp ho => ?_
        change StepOk _ { dst := _, op := Op.move (Operand.tmp 10), type := _, pos := _, after := _, guard := _ } _ _ _
        have k10 : ρ (.tmp 10) = .bool true := ho 10 (by decide)
        clear hp ho
        refine StepOk.of_run (v := ?v16) (w' := X) ?_ ⟨rfl, Below.refl _ _⟩
        clear hX
        go_simp
        all_goals try go_bits
        all_goals try simp only [IntWalk.iteOmega]
        all_goals try go_bits
        all_goals rfl
      · refine step_intro rfl rfl fun ρ X hc hf hgl hX hp ho => ?_
        change StepOk _ { dst := _, op := Op.pick (Operand.tmp 46) (Operand.tmp 47) (Operand.const (Value.bool false)), type := _, pos := _, after := _, guard := _ } _ _ _
        have k46 : ρ (.tmp 46) = ?v15 := hp 15 (by decide)
        have k47 : ρ (.tmp 47) = ?v16 := hp 16 (by decide)
        clear hp ho
        refine StepOk.of_run (v := ?v17) (w' := X) ?_ ⟨rfl, Below.refl _ _⟩
        clear hX
        go_simp
        all_goals try go_bits
        all_goals try simp only [IntWalk.iteOmega]
        all_goals try go_bits
        all_goals rfl
      · refine step_intro rfl rfl fun ρ X hc hf hgl hX hp ho => ?_
        change StepOk _ { dst := _, op := Op.move (Operand.tmp 48), type := _, pos := _, after := _, guard := _ } _ _ _
        have k48 : ρ (.tmp 48) = ?v17 := hp 17 (by decide)
        clear hp ho
        refine StepOk.of_run (v := ?v18) (w' := X) ?_ ⟨rfl, Below.refl _ _⟩
        clear hX
        go_simp
        all_goals try go_bits
        all_goals try simp only [IntWalk.iteOmega]
        all_goals try go_bits
        all_goals rfl
      · refine step_intro rfl rfl fun ρ X hc hf hgl hX hp ho => ?_
        change StepOk _ { dst := _, op := Op.load 25 (Operand.tmp 9), type := _, pos := _, after := _, guard := _ } _ _ _
        have k9 : ρ (.tmp 9) = .pointer (some ⟨n9, 0, none⟩) := ho 9 (by decide)
        clear hp ho
        refine StepOk.of_run (v := .agg A) (w' := X) ?_ ⟨rfl, Below.refl _ _⟩
        simp only [execOp, Instr.loadAt, Instr.sureAddr, k9, Sem.run_bind, Sem.run_pure, Result.andThen_ok, run_loadVar_row X _ 25 25 A (0, 0) _ (hX.heap' Hc9.out) Tryd.underlying25 rfl (by rw [hAs]; exact infoSum)]
      · refine step_intro rfl rfl fun ρ X hc hf hgl hX hp ho => ?_
        change StepOk _ { dst := _, op := Op.load 24 (Operand.tmp 2), type := _, pos := _, after := _, guard := _ } _ _ _
        have k2 : ρ (.tmp 2) = .pointer (some ⟨w.heap.size, 0, none⟩) := ho 2 (by decide)
        clear hp ho
        refine StepOk.of_run (v := .agg A) (w' := X) ?_ ⟨rfl, Below.refl _ _⟩
        simp only [execOp, Instr.loadAt, Instr.sureAddr, k2, Sem.run_bind, Sem.run_pure, Result.andThen_ok, run_loadVar_row X _ 24 24 A (0, 0) _ (hX.heap' Hc2.out) Tryd.underlying24 rfl (by rw [hAs]; exact infoArr2)]
      · refine step_intro rfl rfl fun ρ X hc hf hgl hX hp ho => ?_
        change StepOk _ { dst := _, op := Op.binOp BinOp.eql 25 (Operand.tmp 50) (Operand.tmp 51) 25, type := _, pos := _, after := _, guard := _ } _ _ _
        have k50 : ρ (.tmp 50) = (.agg A) := hp 19 (by decide)
        have k51 : ρ (.tmp 51) = (.agg A) := hp 20 (by decide)
        clear hp ho
        refine StepOk.of_run (v := ?v21) (w' := X) ?_ ⟨rfl, Below.refl _ _⟩
        clear hX
        go_simp
        all_goals try go_bits
        all_goals try simp only [IntWalk.iteOmega]
        all_goals try go_bits
        all_goals rfl
      · refine step_intro rfl rfl fun ρ X hc hf hgl hX hp ho => ?_
        change StepOk _ { dst := _, op := Op.pick (Operand.tmp 49) (Operand.tmp 52) (Operand.const (Value.bool false)), type := _, pos := _, after := _, guard := _ } _ _ _
        have k49 : ρ (.tmp 49) = ?v18 := hp 18 (by decide)
        have k52 : ρ (.tmp 52) = ?v21 := hp 21 (by decide)
        clear hp ho
        refine StepOk.of_run (v := ?v22) (w' := X) ?_ ⟨rfl, Below.refl _ _⟩
        clear hX
        go_simp
        all_goals try go_bits
        all_goals try simp only [IntWalk.iteOmega]
        all_goals try go_bits
        all_goals rfl
      · refine step_intro rfl rfl fun ρ X hc hf hgl hX hp ho => ?_
        change StepOk _ { dst := _, op := Op.move (Operand.tmp 53), type := _, pos := _, after := _, guard := _ } _ _ _
        have k53 : ρ (.tmp 53) = ?v22 := hp 22 (by decide)
        clear hp ho
        refine StepOk.of_run (v := ?v23) (w' := X) ?_ ⟨rfl, Below.refl _ _⟩
        clear hX
        go_simp
        all_goals try go_bits
        all_goals try simp only [IntWalk.iteOmega]
        all_goals try go_bits
        all_goals rfl
      · refine step_intro rfl rfl fun ρ X hc hf hgl hX hp ho => ?_
        change StepOk _ { dst := _, op := Op.call { callee := Callee.value (Operand.func 8), args := #[], argTypes := #[] }, type := _, pos := _, after := _, guard := _ } _ _ _
        clear hp ho
        refine StepOk.of_call (f := 8) (args := #[]) (w' := X) ?_ (LV X (hK.up (Grows.trans' HG7.out hX))) ?_
        · go_simp
          all_goals try go_bits
          all_goals try rfl
        · rintro e w'' ⟨rfl, hg'⟩; refine ⟨_, rfl, ?_, hg'⟩; show _ = ?v24; rfl
      · refine step_intro rfl rfl fun ρ X hc hf hgl hX hp ho => ?_
        change StepOk _ { dst := _, op := Op.pick (Operand.tmp 54) (Operand.tmp 55) (Operand.const (Value.bool false)), type := _, pos := _, after := _, guard := _ } _ _ _
        have k54 : ρ (.tmp 54) = ?v23 := hp 23 (by decide)
        have k55 : ρ (.tmp 55) = ?v24 := hp 24 (by decide)
        clear hp ho
        refine StepOk.of_run (v := ?v25) (w' := X) ?_ ⟨rfl, Below.refl _ _⟩
        clear hX
        go_simp
        all_goals try go_bits
        all_goals try simp only [IntWalk.iteOmega]
        all_goals try go_bits
        all_goals rfl
      · refine step_intro rfl rfl fun ρ X hc hf hgl hX hp ho => ?_
        change StepOk _ { dst := _, op := Op.assign (Operand.tmp 56), type := _, pos := _, after := _, guard := _ } _ _ _
        have k56 : ρ (.tmp 56) = ?v25 := hp 25 (by decide)
        clear hp ho
        refine StepOk.of_run (v := ?v26) (w' := X) ?_ ⟨rfl, Below.refl _ _⟩
        clear hX
        go_simp
        all_goals try go_bits
        all_goals try simp only [IntWalk.iteOmega]
        all_goals try go_bits
        all_goals rfl
    case grd => rfl
    case rst =>
      intro a0 X hb
      have hfr := hb.frame ((4, ?v26) :: (31, (.agg A)) :: (32, ?v1) :: (33, (.agg A)) :: (34, ?v3) :: (35, ?v4) :: (36, ?v5) :: (37, (.agg P)) :: (38, (.agg P)) :: (39, ?v8) :: (40, ?v9) :: (41, ?v10) :: (42, ?v11) :: (43, ?v12) :: (44, ?v13) :: (45, ?v14) :: (46, ?v15) :: (47, ?v16) :: (48, ?v17) :: (49, ?v18) :: (50, (.agg A)) :: (51, (.agg A)) :: (52, ?v21) :: (53, ?v22) :: (54, ?v23) :: (55, ?v24) :: (56, ?v25) :: []) rfl ⟨hb.done' 26 4 rfl rfl, hb.done' 0 31 rfl rfl, hb.done' 1 32 rfl rfl, hb.done' 2 33 rfl rfl, hb.done' 3 34 rfl rfl, hb.done' 4 35 rfl rfl, hb.done' 5 36 rfl rfl, hb.done' 6 37 rfl rfl, hb.done' 7 38 rfl rfl, hb.done' 8 39 rfl rfl, hb.done' 9 40 rfl rfl, hb.done' 10 41 rfl rfl, hb.done' 11 42 rfl rfl, hb.done' 12 43 rfl rfl, hb.done' 13 44 rfl rfl, hb.done' 14 45 rfl rfl, hb.done' 15 46 rfl rfl, hb.done' 16 47 rfl rfl, hb.done' 17 48 rfl rfl, hb.done' 18 49 rfl rfl, hb.done' 19 50 rfl rfl, hb.done' 20 51 rfl rfl, hb.done' 21 52 rfl rfl, hb.done' 22 53 rfl rfl, hb.done' 23 54 rfl rfl, hb.done' 24 55 rfl rfl, hb.done' 25 56 rfl rfl, trivial⟩
      simp only [updL, ↓reduceIte, Nat.reduceEqDiff, Nat.reduceAdd, Nat.zero_add] at hfr
      have HX := Lib.hid hb.ext
      clear hb
      subst hfr
      go_wp2
      go_ret
      exact ⟨rfl, Grows.trans' HG7.out HX.out⟩
end Go.Proofs.YtkehcpjianadjaaDoor
