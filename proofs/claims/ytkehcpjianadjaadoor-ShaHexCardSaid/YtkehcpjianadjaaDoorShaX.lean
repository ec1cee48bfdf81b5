/-
  The walk of the law ShaApart, over whatever meets the contracts.
-/
import Derived.Test.YtkehcpjianadjaaDoorShaW
namespace Go.Proofs.YtkehcpjianadjaaDoor
open Go.RowKit
set_option linter.unusedVariables false
set_option linter.unusedSimpArgs false

theorem But.blockEq {O : Nat → Prop} {W W' : World} (h : But O W W') {k : Nat} {o : Obj} (hk : ¬ O k) (ho : W.heap[k]? = some o) : W'.heap[k]? = some o :=
  (h.block k (Array.getElem?_eq_some_iff.1 ho).1 hk).trans ho

set_option maxRecDepth 100000 in
set_option maxHeartbeats 4000000 in
theorem walkApart {H : World → Nat → List UInt8 → (Nat → Prop) → Prop} (S : HashOK H) (LV : LiveOK) (v u : Value) (l m : List UInt8) (w : World) (hK : KW w) (h : Byt w v l) (h' : Byt w u m) :
    Calls Tryd.prog 6 #[v, u] w fun e w' => e = .returned (.bool true) ∧ Grows w w' := by
  have hmx : Tryd.prog.follows .mixedOrders = true := by kernel_rfl
  have HB := Lib.hid h
  have HB' := Lib.hid h'
  obtain ⟨a, cap, rfl⟩ := h.slice
  obtain ⟨a', cap', rfl⟩ := h'.slice
  clear h h'
  by_cases hbig : 2000 < l.length ∨ 2000 < m.length
  · by_cases hb1 : 2000 < l.length
    · have hb' : (2000 : Int) < (l.length : Int) := by omega
      clear hbig
      go_enter Tryd.func6, Tryd.ntmps6
      go_wp2_with fail
      refine (LV _ hK).mono ?_
      rintro e w1 ⟨rfl, hg⟩
      go_wp2
      go_ret
      exact ⟨rfl, hg⟩
    · have hb' : ¬ (2000 : Int) < (l.length : Int) := by omega
      have hb2 : (2000 : Int) < (m.length : Int) := by omega
      clear hbig
      go_enter Tryd.func6, Tryd.ntmps6
      go_wp2_with fail
      refine (LV _ hK).mono ?_
      rintro e w1 ⟨rfl, hg⟩
      go_wp2
      go_ret
      exact ⟨rfl, hg⟩
  · have hb1 : ¬ (2000 : Int) < (l.length : Int) := by omega
    have hb2 : ¬ (2000 : Int) < (m.length : Int) := by omega
    have Hl := Lib.hid (show l.length ≤ 2000 ∧ m.length ≤ 2000 by omega)
    obtain ⟨A0, HA0⟩ : ∃ A, Shut (arr (shaF []) = .agg A) := ⟨_, ⟨rfl⟩⟩
    obtain ⟨Al, HAl⟩ : ∃ A, Shut (arr (shaF l) = .agg A) := ⟨_, ⟨rfl⟩⟩
    obtain ⟨Am, HAm⟩ : ∃ A, Shut (arr (shaF m) = .agg A) := ⟨_, ⟨rfl⟩⟩
    have hE0 := eqAgg (shaF []) (shaF_length _) A0 HA0.out
    have hEl := eqAgg (shaF l) (shaF_length _) Al HAl.out
    have hEm := eqAgg (shaF m) (shaF_length _) Am HAm.out
    obtain ⟨h0s, h01⟩ := arrSize _ (shaF_length []) A0 HA0.out
    have hg := guardOff
    obtain ⟨Y, hY, hYs⟩ := arrZ25
    clear hbig
    go_enter Tryd.func6, Tryd.ntmps6
    go_wp2_with fail
    refine (S.new _).mono ?_
    rintro e w1 ⟨p1, O1, rfl, hH1, hO1, hG1⟩
    have HH1 := Lib.hid hH1
    have HO1 := Lib.hid hO1
    have HG1 := Lib.hid hG1
    clear hH1 hO1 hG1
    go_wp2_with fail
    refine (S.new _).mono ?_
    rintro e w2 ⟨p2, O2, rfl, hH2, hO2, hG2⟩
    have HH2 := Lib.hid hH2
    have HO2 := Lib.hid hO2
    have HG2 := Lib.hid hG2
    have HH1' := Lib.hid (S.grows HH1.out hG2)
    have HD : Hid (∀ k, O1 k → ¬ O2 k) := fun k h1 h2 => by have := S.lt HH1.out h1; have := HO2.out k h2; omega
    clear hH2 hO2 hG2
    go_wp2_with fail
    have hs6 := S.sum w2 p1 [] O1 (hK.up (Grows.trans' HG1.out HG2.out)) HH1'.out (by simp)
    rw [HA0.out] at hs6
    refine hs6.mono ?_
    rintro e w3 ⟨rfl, hg3⟩
    clear hs6
    have h7 := heap_alloc_new w3 (.cells Y 25)
    obtain ⟨hb7, hg4⟩ := allocSet w3 Y A0 25
    go_wp2_with (first
      | (refine wpList_allocT rfl 25 rfl _ hY ?_)
      | (refine wpList_storeT rfl _ _ _ rfl w3.heap.size 25 Y A0 rfl rfl h7 (by rw [h0s]; exact infoSum) (by rw [hYs, h0s]) h01 ?_))
    obtain ⟨w4, hw4⟩ : ∃ x, (w3.alloc (.cells Y 25)).setRow w3.heap.size A0 = x := ⟨_, rfl⟩
    rw [hw4] at hb7 hg4 ⊢
    obtain ⟨n7, Hn7⟩ : ∃ n, Hid (w3.heap.size = n) := ⟨_, rfl⟩
    have HG24 := Lib.hid (Grows.trans' hg3 hg4)
    have Hn7l : Hid (w2.heap.size ≤ n7) := by show _ ≤ _; rw [← Hn7.out]; exact hg3.size
    rw [Hn7.out] at hb7 ⊢
    have Hb7 := Lib.hid hb7
    have HGa : Hid (Below w.heap.size w w4) := Grows.trans' (Grows.trans' HG1.out HG2.out) HG24.out
    have HH1a := Lib.hid (S.grows HH1'.out HG24.out)
    have HH2a := Lib.hid (S.grows HH2.out HG24.out)
    have HBm := Lib.hid (HB'.out.grows HGa.out)
    clear hw4 hg3 hg4 h7 hb7
    refine (S.write w4 p2 [] O2 _ m (hK.up HGa.out) HH2a.out HBm.out (HB'.out.outside (fun k hk => by have := HO2.out k hk; have := HG1.out.size; omega)) (by have := Hl.out; simp; omega)).mono ?_
    rintro e w5 ⟨O2', rfl, hH5, hO5, hBt5⟩
    have HH5 : Hid (H w5 p2 m O2') := Lib.hid (by simpa using hH5)
    have HO5 := Lib.hid hO5
    have Hs5 := Lib.hid hBt5.size
    have HH1b : Hid (H w5 p1 [] O1) := S.kept HH1a.out fun k hk => hBt5.block k (S.lt HH1a.out hk) (HD.out k hk)
    have Hb7b := Lib.hid (hBt5.blockEq (fun hk => by have := S.lt HH2.out hk; have := Hn7l.out; omega) Hb7.out)
    have HGb : Hid (Below w.heap.size w w5) := Below.trans HGa.out (hBt5.below HGa.out.size (fun k hk => by have := HO2.out k hk; have := HG1.out.size; omega))
    clear hH5 hO5 hBt5
    go_wp2_with fail
    have hs8 := S.sum w5 p1 [] O1 (hK.up HGb.out) HH1b.out (by simp)
    rw [HA0.out] at hs8
    refine hs8.mono ?_
    rintro e w6 ⟨rfl, hg6⟩
    clear hs8
    have h8 := heap_alloc_new w6 (.cells Y 25)
    obtain ⟨hb8, hg7⟩ := allocSet w6 Y A0 25
    go_wp2_with (first
      | (refine wpList_allocT rfl 25 rfl _ hY ?_)
      | (refine wpList_storeT rfl _ _ _ rfl w6.heap.size 25 Y A0 rfl rfl h8 (by rw [h0s]; exact infoSum) (by rw [hYs, h0s]) h01 ?_))
    obtain ⟨w7, hw7⟩ : ∃ x, (w6.alloc (.cells Y 25)).setRow w6.heap.size A0 = x := ⟨_, rfl⟩
    rw [hw7] at hb8 hg7 ⊢
    obtain ⟨n8, Hn8⟩ : ∃ n, Hid (w6.heap.size = n) := ⟨_, rfl⟩
    have HG57 := Lib.hid (Grows.trans' hg6 hg7)
    have Hn8l : Hid (w5.heap.size ≤ n8) := by show _ ≤ _; rw [← Hn8.out]; exact hg6.size
    rw [Hn8.out] at hb8 ⊢
    have Hb8 := Lib.hid hb8
    have Hb7c := Lib.hid (HG57.out.heap' Hb7b.out)
    have HGc : Hid (Below w.heap.size w w7) := Grows.trans' HGb.out HG57.out
    have HH1c := Lib.hid (S.grows HH1b.out HG57.out)
    have HH2c := Lib.hid (S.grows HH5.out HG57.out)
    have HBl := Lib.hid (HB.out.grows HGc.out)
    have Hl8 := Lib.hid ((Array.getElem?_eq_some_iff.1 hb8).1)
    clear hw7 hg6 hg7 h8 hb8
    refine (S.write w7 p1 [] O1 _ l (hK.up HGc.out) HH1c.out HBl.out (HB.out.outside HO1.out) (by have := Hl.out; simp; omega)).mono ?_
    rintro e w8 ⟨O1', rfl, hH8, hO8, hBt8⟩
    have HH8 : Hid (H w8 p1 l O1') := Lib.hid (by simpa using hH8)
    have HO8 := Lib.hid hO8
    have hnO1 : Hid (∀ k, w1.heap.size ≤ k → ¬ O1 k) := fun k hk h1 => by have := S.lt HH1.out h1; omega
    have HH2d : Hid (H w8 p2 m O2') := S.kept HH2c.out fun k hk => hBt8.block k (S.lt HH2c.out hk) (fun h1 => by
      rcases HO5.out k hk with h2 | h2
      · exact HD.out k h1 h2
      · have := S.lt HH1.out h1; have := HG2.out.size; have := HG24.out.size; omega)
    have Hb7d := Lib.hid (hBt8.blockEq (hnO1.out n7 (by have := Hn7l.out; have := HG2.out.size; omega)) Hb7c.out)
    have Hb8d := Lib.hid (hBt8.blockEq (hnO1.out n8 (by have := Hn8l.out; have := Hs5.out; have := HG2.out.size; have := HG24.out.size; omega)) Hb8.out)
    have HGd : Hid (Below w.heap.size w w8) := Below.trans HGc.out (hBt8.below HGc.out.size HO1.out)
    have Hs8 := Lib.hid hBt8.size
    clear hH8 hO8 hBt8
    go_wp2_with fail
    refine (S.write w8 p1 l O1' _ [] (hK.up HGd.out) HH8.out (Byt.nil _) (fun b off sp n c e hn => by cases e) (by have := Hl.out; simp; omega)).mono ?_
    rintro e w9 ⟨O1'', rfl, hH9, hO9, hBt9⟩
    have HH9 : Hid (H w9 p1 l O1'') := Lib.hid (by simpa using hH9)
    have HnO1' : Hid (∀ k, k < w7.heap.size → ¬ O1 k → ¬ O1' k) := fun k hk h1 h2 => by
      rcases HO8.out k h2 with h3 | h3
      · exact h1 h3
      · omega
    have HH2e : Hid (H w9 p2 m O2') := S.kept HH2d.out fun k hk => hBt9.block k (S.lt HH2d.out hk) (HnO1'.out k (by have := S.lt HH5.out hk; have := HG57.out.size; omega) (fun h1 => by
      rcases HO5.out k hk with h2 | h2
      · exact HD.out k h1 h2
      · have := S.lt HH1.out h1; have := HG2.out.size; have := HG24.out.size; omega))
    have Hb7e := Lib.hid (hBt9.blockEq (HnO1'.out n7 (by have := (Array.getElem?_eq_some_iff.1 Hb7c.out).1; omega) (hnO1.out n7 (by have := Hn7l.out; have := HG2.out.size; omega))) Hb7d.out)
    have Hb8e := Lib.hid (hBt9.blockEq (HnO1'.out n8 Hl8.out (hnO1.out n8 (by have := Hn8l.out; have := Hs5.out; have := HG2.out.size; have := HG24.out.size; omega))) Hb8d.out)
    have HGe : Hid (Below w.heap.size w w9) := Below.trans HGd.out (hBt9.below HGd.out.size (fun k hk => by
      rcases HO8.out k hk with h3 | h3
      · exact HO1.out k h3
      · have := HGc.out.size; omega))
    have HSg : Hid (∀ X, Grows w9 X → Calls Tryd.prog 13 #[.pointer (some ⟨p1, 0, none⟩)] X fun e W' => e = .returned (.agg Al) ∧ Grows X W') := fun X hX => by
      have := S.sum X p1 l O1'' (hK.up (Grows.trans' HGe.out hX)) (S.grows HH9.out hX) (by have := Hl.out; omega)
      rwa [HAl.out] at this
    have HSh : Hid (∀ X, Grows w9 X → Calls Tryd.prog 13 #[.pointer (some ⟨p2, 0, none⟩)] X fun e W' => e = .returned (.agg Am) ∧ Grows X W') := fun X hX => by
      have := S.sum X p2 m O2' (hK.up (Grows.trans' HGe.out hX)) (S.grows HH2e.out hX) (by have := Hl.out; omega)
      rwa [HAm.out] at this
    have HS0 : Hid (∀ X, Grows w9 X → Calls Tryd.prog 9 #[.slice none 0 0] X fun e W' => e = .returned (.agg A0) ∧ Grows X W') := fun X hX => by
      have := S.sumAll X (.slice none 0 0) [] (hK.up (Grows.trans' HGe.out hX)) ⟨none, 0, rfl, Nat.le_refl _, by simp [maxLen], fun _ => rfl, .inl rfl⟩ (by simp)
      rw [show ([] : List (List UInt8)).flatten = [] from rfl, HA0.out] at this
      exact this
    have HSl : Hid (∀ X x, Grows w9 X → BytL X x [l] → Calls Tryd.prog 9 #[x] X fun e W' => e = .returned (.agg Al) ∧ Grows X W') := fun X x hX hx => by
      have := S.sumAll X x [l] (hK.up (Grows.trans' HGe.out hX)) hx (by have := Hl.out; simp; omega)
      rw [show [l].flatten = l by simp, HAl.out] at this
      exact this
    have HSm : Hid (∀ X x, Grows w9 X → BytL X x [m] → Calls Tryd.prog 9 #[x] X fun e W' => e = .returned (.agg Am) ∧ Grows X W') := fun X x hX hx => by
      have := S.sumAll X x [m] (hK.up (Grows.trans' HGe.out hX)) hx (by have := Hl.out; simp; omega)
      rw [show [m].flatten = m by simp, HAm.out] at this
      exact this
    have HBl9 := Lib.hid (HB.out.grows HGe.out)
    have HBm9 := Lib.hid (HB'.out.grows HGe.out)
    clear hH9 hO9 hBt9
    go_wp2_with fail
    refine specs_region
      #[[], [], [0, 1], [0, 1, 2], [0, 1, 2, 3], [0, 1, 2, 3], [0, 1, 2, 3, 4, 5], [0, 1, 2, 3, 4, 5, 6], [0, 1, 2, 3, 4, 5, 6, 7], [0, 1, 2, 3, 4, 5, 6, 7, 8], [0, 1, 2, 3, 4, 5, 6, 7, 8, 9], [0, 1, 2, 3, 4, 5, 6, 7, 8], [0, 1, 2, 3, 4, 5, 6, 7, 8, 11], [0, 1, 2, 3, 4, 5, 6, 7, 8, 9, 10, 11, 12], [0, 1, 2, 3, 4, 5, 6, 7, 8, 9, 10, 11, 12, 13], [0, 1, 2, 3, 4, 5, 6, 7, 8, 9, 10, 11, 12, 13, 14], [0, 1, 2, 3, 4, 5, 6, 7, 8, 9, 10, 11, 12, 13, 14, 15], [0, 1, 2, 3, 4, 5, 6, 7, 8, 9, 10, 11, 12, 13, 14, 15, 16], [0, 1, 2, 3, 4, 5, 6, 7, 8, 9, 10, 11, 12, 13, 14, 15, 16, 17], [0, 1, 2, 3, 4, 5, 6, 7, 8, 9, 10, 11, 12, 13, 14, 15, 16], [0, 1, 2, 3, 4, 5, 6, 7, 8, 9, 10, 11, 12, 13, 14, 15, 16, 19], [0, 1, 2, 3, 4, 5, 6, 7, 8, 9, 10, 11, 12, 13, 14, 15, 16, 17, 18, 19, 20], [0, 1, 2, 3, 4, 5, 6, 7, 8, 9, 10, 11, 12, 13, 14, 15, 16, 17, 18, 19, 20, 21], [0, 1, 2, 3, 4, 5, 6, 7, 8, 9, 10, 11, 12, 13, 14, 15, 16, 17, 18, 19, 20, 21, 22], [0, 1, 2, 3, 4, 5, 6, 7, 8, 9, 10, 11, 12, 13, 14, 15, 16, 17, 18, 19, 20, 21, 22, 23], [0, 1, 2, 3, 4, 5, 6, 7, 8, 9, 10, 11, 12, 13, 14, 15, 16, 17, 18, 19, 20, 21, 22, 23, 24], [0, 1, 2, 3, 4, 5, 6, 7, 8, 9, 10, 11, 12, 13, 14, 15, 16, 17, 18, 19, 20, 21, 22, 23, 24, 25], [0, 1, 2, 3, 4, 5, 6, 7, 8, 9, 10, 11, 12, 13, 14, 15, 16, 17, 18, 19, 20, 21, 22, 23, 24, 25, 26]] #[[7], [8], [], [], [7], [], [], [], [], [5], [], [0], [], [], [], [], [], [6], [], [1], [], [], [], [], [], [], [], []] #[true, true, true, true, true, true, true, true, true, true, true, true, true, true, true, true, true, true, true, true, true, true, true, true, true, true, true, true]
      ((.val (.agg A0)) :: (.val (.agg A0)) :: (.val ?v2) :: (.val ?v3) :: (.val (.agg A0)) :: (.val ?v5) :: (.val ?v6) :: (.val ?v7) :: (.val ?v8) :: (.val ?v9) :: (.val ?v10) :: (.val ?v11) :: (.bytl [l]) :: (.val ?v13) :: (.val ?v14) :: (.val ?v15) :: (.val ?v16) :: (.val ?v17) :: (.val ?v18) :: (.val ?v19) :: (.bytl [m]) :: (.val ?v21) :: (.val ?v22) :: (.val ?v23) :: (.val ?v24) :: (.val ?v25) :: (.val ?v26) :: (.val ?v27) :: []).toArray
      hmx ?chk ?grd ?stp ?rst
    case chk => rfl
    case stp =>
      refine ⟨?_, ?_, ?_, ?_, ?_, ?_, ?_, ?_, ?_, ?_, ?_, ?_, ?_, ?_, ?_, ?_, ?_, ?_, ?_, ?_, ?_, ?_, ?_, ?_, ?_, ?_, ?_, ?_, trivial⟩
      · refine step_intro rfl rfl fun ρ X hc hf hgl hX hp ho => ?_
        change StepOk _ { dst := _, op := Op.load 25 (Operand.tmp 7), type := _, pos := _, after := _, guard := _ } _ _ _
        have k7 : ρ (.tmp 7) = .pointer (some ⟨n7, 0, none⟩) := ho 7 (by decide)
        clear hp ho
        refine StepOk.of_run (v := .agg A0) (w' := X) ?_ ⟨rfl, Below.refl _ _⟩
        simp only [execOp, Instr.loadAt, Instr.sureAddr, k7, Sem.run_bind, Sem.run_pure, Result.andThen_ok, run_loadVar_row X _ 25 25 A0 (0, 0) _ (hX.heap' Hb7e.out) Tryd.underlying25 rfl (by rw [h0s]; exact infoSum)]
      · refine step_intro rfl rfl fun ρ X hc hf hgl hX hp ho => ?_
        change StepOk _ { dst := _, op := Op.load 25 (Operand.tmp 8), type := _, pos := _, after := _, guard := _ } _ _ _
        have k8 : ρ (.tmp 8) = .pointer (some ⟨n8, 0, none⟩) := ho 8 (by decide)
        clear hp ho
        refine StepOk.of_run (v := .agg A0) (w' := X) ?_ ⟨rfl, Below.refl _ _⟩
        simp only [execOp, Instr.loadAt, Instr.sureAddr, k8, Sem.run_bind, Sem.run_pure, Result.andThen_ok, run_loadVar_row X _ 25 25 A0 (0, 0) _ (hX.heap' Hb8e.out) Tryd.underlying25 rfl (by rw [h0s]; exact infoSum)]
      · refine step_intro rfl rfl fun ρ X hc hf hgl hX hp ho => ?_
        change StepOk _ { dst := _, op := Op.binOp BinOp.eql 25 (Operand.tmp 38) (Operand.tmp 39) 25, type := _, pos := _, after := _, guard := _ } _ _ _
        have k38 : ρ (.tmp 38) = (.agg A0) := hp 0 (by decide)
        have k39 : ρ (.tmp 39) = (.agg A0) := hp 1 (by decide)
        clear hp ho
        refine StepOk.of_run (v := ?v2) (w' := X) ?_ ⟨rfl, Below.refl _ _⟩
        clear hX
        go_simp
        all_goals try go_bits
        all_goals try simp only [IntWalk.iteOmega]
        all_goals try go_bits
        all_goals rfl
      · refine step_intro rfl rfl fun ρ X hc hf hgl hX hp ho => ?_
        change StepOk _ { dst := _, op := Op.move (Operand.tmp 40), type := _, pos := _, after := _, guard := _ } _ _ _
        have k40 : ρ (.tmp 40) = ?v2 := hp 2 (by decide)
        clear hp ho
        refine StepOk.of_run (v := ?v3) (w' := X) ?_ ⟨rfl, Below.refl _ _⟩
        clear hX
        go_simp
        all_goals try go_bits
        all_goals try simp only [IntWalk.iteOmega]
        all_goals try go_bits
        all_goals rfl
      · refine step_intro rfl rfl fun ρ X hc hf hgl hX hp ho => ?_
        change StepOk _ { dst := _, op := Op.load 25 (Operand.tmp 7), type := _, pos := _, after := _, guard := _ } _ _ _
        have k7 : ρ (.tmp 7) = .pointer (some ⟨n7, 0, none⟩) := ho 7 (by decide)
        clear hp ho
        refine StepOk.of_run (v := .agg A0) (w' := X) ?_ ⟨rfl, Below.refl _ _⟩
        simp only [execOp, Instr.loadAt, Instr.sureAddr, k7, Sem.run_bind, Sem.run_pure, Result.andThen_ok, run_loadVar_row X _ 25 25 A0 (0, 0) _ (hX.heap' Hb7e.out) Tryd.underlying25 rfl (by rw [h0s]; exact infoSum)]
      · refine step_intro rfl rfl fun ρ X hc hf hgl hX hp ho => ?_
        change StepOk _ { dst := _, op := Op.call { callee := Callee.value (Operand.func 9), args := #[Operand.const (Value.slice none 0 0)], argTypes := #[29] }, type := _, pos := _, after := _, guard := _ } _ _ _
        clear hp ho
        refine StepOk.of_call (f := 9) (args := #[.slice none 0 0]) (w' := X) ?_ (HS0.out X hX) ?_
        · go_simp
          all_goals try go_bits
          all_goals try rfl
        · rintro e w'' ⟨rfl, hg'⟩; refine ⟨_, rfl, ?_, hg'⟩; show _ = ?v5; rfl
      · refine step_intro rfl rfl fun ρ X hc hf hgl hX hp ho => ?_
        change StepOk _ { dst := _, op := Op.binOp BinOp.eql 25 (Operand.tmp 42) (Operand.tmp 43) 25, type := _, pos := _, after := _, guard := _ } _ _ _
        have k42 : ρ (.tmp 42) = (.agg A0) := hp 4 (by decide)
        have k43 : ρ (.tmp 43) = ?v5 := hp 5 (by decide)
        clear hp ho
        refine StepOk.of_run (v := ?v6) (w' := X) ?_ ⟨rfl, Below.refl _ _⟩
        clear hX
        go_simp
        all_goals try go_bits
        all_goals try simp only [IntWalk.iteOmega]
        all_goals try go_bits
        all_goals rfl
      · refine step_intro rfl rfl fun ρ X hc hf hgl hX hp ho => ?_
        change StepOk _ { dst := _, op := Op.pick (Operand.tmp 41) (Operand.tmp 44) (Operand.const (Value.bool false)), type := _, pos := _, after := _, guard := _ } _ _ _
        have k41 : ρ (.tmp 41) = ?v3 := hp 3 (by decide)
        have k44 : ρ (.tmp 44) = ?v6 := hp 6 (by decide)
        clear hp ho
        refine StepOk.of_run (v := ?v7) (w' := X) ?_ ⟨rfl, Below.refl _ _⟩
        clear hX
        go_simp
        all_goals try go_bits
        all_goals try simp only [IntWalk.iteOmega]
        all_goals try go_bits
        all_goals rfl
      · refine step_intro rfl rfl fun ρ X hc hf hgl hX hp ho => ?_
        change StepOk _ { dst := _, op := Op.move (Operand.tmp 45), type := _, pos := _, after := _, guard := _ } _ _ _
        have k45 : ρ (.tmp 45) = ?v7 := hp 7 (by decide)
        clear hp ho
        refine StepOk.of_run (v := ?v8) (w' := X) ?_ ⟨rfl, Below.refl _ _⟩
        clear hX
        go_simp
        all_goals try go_bits
        all_goals try simp only [IntWalk.iteOmega]
        all_goals try go_bits
        all_goals rfl
      · refine step_intro rfl rfl fun ρ X hc hf hgl hX hp ho => ?_
        change StepOk _ { dst := _, op := Op.move (Operand.tmp 5), type := _, pos := _, after := _, guard := _ } _ _ _
        have k5 : ρ (.tmp 5) = .pointer (some ⟨p1, 0, none⟩) := ho 5 (by decide)
        clear hp ho
        refine StepOk.of_run (v := ?v9) (w' := X) ?_ ⟨rfl, Below.refl _ _⟩
        clear hX
        go_simp
        all_goals try go_bits
        all_goals try simp only [IntWalk.iteOmega]
        all_goals try go_bits
        all_goals rfl
      · refine step_intro rfl rfl fun ρ X hc hf hgl hX hp ho => ?_
        change StepOk _ { dst := _, op := Op.call { callee := Callee.value (Operand.func 13), args := #[Operand.tmp 47], argTypes := #[30] }, type := _, pos := _, after := _, guard := _ } _ _ _
        have k47 : ρ (.tmp 47) = ?v9 := hp 9 (by decide)
        clear hp ho
        refine StepOk.of_call (f := 13) (args := #[?v9]) (w' := X) ?_ (HSg.out X hX) ?_
        · go_simp
          all_goals try go_bits
          all_goals try rfl
        · rintro e w'' ⟨rfl, hg'⟩; refine ⟨_, rfl, ?_, hg'⟩; show _ = ?v10; rfl
      · refine step_intro rfl rfl fun ρ X hc hf hgl hX hp ho => ?_
        change StepOk _ { dst := _, op := Op.move (Operand.tmp 0), type := _, pos := _, after := _, guard := _ } _ _ _
        have k0 : ρ (.tmp 0) = .slice a l.length cap := ho 0 (by decide)
        clear hp ho
        refine StepOk.of_run (v := ?v11) (w' := X) ?_ ⟨rfl, Below.refl _ _⟩
        clear hX
        go_simp
        all_goals try go_bits
        all_goals try simp only [IntWalk.iteOmega]
        all_goals try go_bits
        all_goals rfl
      · refine step_intro rfl rfl fun ρ X hc hf hgl hX hp ho => ?_
        change StepOk _ { dst := _, op := Op.buildSlice 29 1 #[(0, Operand.tmp 49)], type := _, pos := _, after := _, guard := _ } _ _ _
        have k49 : ρ (.tmp 49) = ?v11 := hp 11 (by decide)
        clear hp ho
        have hb := HBl9.out.grows hX
        refine StepOk.of_run (v := .slice (some ⟨X.heap.size, 0, none⟩) 1 1) (w' := X.alloc (.cells ([.slice a l.length cap] : List Value).toArray 22)) ?_ ⟨BytL.lit X 22 [.slice a l.length cap] [l] rfl (by simp [maxLen]) (fun i hi => match i, hi with | 0, _ => hb | _ + 1, h => absurd h (by simp)), Grows.alloc' _ _⟩
        simp [go_sem, execOp, hc, k49]
      · refine step_intro rfl rfl fun ρ X hc hf hgl hX hp ho => ?_
        change StepOk _ { dst := _, op := Op.call { callee := Callee.value (Operand.func 9), args := #[Operand.tmp 50], argTypes := #[29] }, type := _, pos := _, after := _, guard := _ } _ _ _
        have k50 := hp 12 (by decide)
        clear hp ho
        refine StepOk.of_call (f := 9) (args := #[ρ (.tmp 50)]) (w' := X) ?_ (HSl.out X _ hX k50) ?_
        · go_simp
          all_goals try go_bits
          all_goals try rfl
        · rintro e w'' ⟨rfl, hg'⟩; refine ⟨_, rfl, ?_, hg'⟩; show _ = ?v13; rfl
      · refine step_intro rfl rfl fun ρ X hc hf hgl hX hp ho => ?_
        change StepOk _ { dst := _, op := Op.binOp BinOp.eql 25 (Operand.tmp 48) (Operand.tmp 51) 25, type := _, pos := _, after := _, guard := _ } _ _ _
        have k48 : ρ (.tmp 48) = ?v10 := hp 10 (by decide)
        have k51 : ρ (.tmp 51) = ?v13 := hp 13 (by decide)
        clear hp ho
        refine StepOk.of_run (v := ?v14) (w' := X) ?_ ⟨rfl, Below.refl _ _⟩
        clear hX
        go_simp
        all_goals try go_bits
        all_goals try simp only [IntWalk.iteOmega]
        all_goals try go_bits
        all_goals rfl
      · refine step_intro rfl rfl fun ρ X hc hf hgl hX hp ho => ?_
        change StepOk _ { dst := _, op := Op.pick (Operand.tmp 46) (Operand.tmp 52) (Operand.const (Value.bool false)), type := _, pos := _, after := _, guard := _ } _ _ _
        have k46 : ρ (.tmp 46) = ?v8 := hp 8 (by decide)
        have k52 : ρ (.tmp 52) = ?v14 := hp 14 (by decide)
        clear hp ho
        refine StepOk.of_run (v := ?v15) (w' := X) ?_ ⟨rfl, Below.refl _ _⟩
        clear hX
        go_simp
        all_goals try go_bits
        all_goals try simp only [IntWalk.iteOmega]
        all_goals try go_bits
        all_goals rfl
      · refine step_intro rfl rfl fun ρ X hc hf hgl hX hp ho => ?_
        change StepOk _ { dst := _, op := Op.move (Operand.tmp 53), type := _, pos := _, after := _, guard := _ } _ _ _
        have k53 : ρ (.tmp 53) = ?v15 := hp 15 (by decide)
        clear hp ho
        refine StepOk.of_run (v := ?v16) (w' := X) ?_ ⟨rfl, Below.refl _ _⟩
        clear hX
        go_simp
        all_goals try go_bits
        all_goals try simp only [IntWalk.iteOmega]
        all_goals try go_bits
        all_goals rfl
      · refine step_intro rfl rfl fun ρ X hc hf hgl hX hp ho => ?_
        change StepOk _ { dst := _, op := Op.move (Operand.tmp 6), type := _, pos := _, after := _, guard := _ } _ _ _
        have k6 : ρ (.tmp 6) = .pointer (some ⟨p2, 0, none⟩) := ho 6 (by decide)
        clear hp ho
        refine StepOk.of_run (v := ?v17) (w' := X) ?_ ⟨rfl, Below.refl _ _⟩
        clear hX
        go_simp
        all_goals try go_bits
        all_goals try simp only [IntWalk.iteOmega]
        all_goals try go_bits
        all_goals rfl
      · refine step_intro rfl rfl fun ρ X hc hf hgl hX hp ho => ?_
        change StepOk _ { dst := _, op := Op.call { callee := Callee.value (Operand.func 13), args := #[Operand.tmp 55], argTypes := #[30] }, type := _, pos := _, after := _, guard := _ } _ _ _
        have k55 : ρ (.tmp 55) = ?v17 := hp 17 (by decide)
        clear hp ho
        refine StepOk.of_call (f := 13) (args := #[?v17]) (w' := X) ?_ (HSh.out X hX) ?_
        · go_simp
          all_goals try go_bits
          all_goals try rfl
        · rintro e w'' ⟨rfl, hg'⟩; refine ⟨_, rfl, ?_, hg'⟩; show _ = ?v18; rfl
      · refine step_intro rfl rfl fun ρ X hc hf hgl hX hp ho => ?_
        change StepOk _ { dst := _, op := Op.move (Operand.tmp 1), type := _, pos := _, after := _, guard := _ } _ _ _
        have k1 : ρ (.tmp 1) = .slice a' m.length cap' := ho 1 (by decide)
        clear hp ho
        refine StepOk.of_run (v := ?v19) (w' := X) ?_ ⟨rfl, Below.refl _ _⟩
        clear hX
        go_simp
        all_goals try go_bits
        all_goals try simp only [IntWalk.iteOmega]
        all_goals try go_bits
        all_goals rfl
      · refine step_intro rfl rfl fun ρ X hc hf hgl hX hp ho => ?_
        change StepOk _ { dst := _, op := Op.buildSlice 29 1 #[(0, Operand.tmp 57)], type := _, pos := _, after := _, guard := _ } _ _ _
        have k57 : ρ (.tmp 57) = ?v19 := hp 19 (by decide)
        clear hp ho
        have hb := HBm9.out.grows hX
        refine StepOk.of_run (v := .slice (some ⟨X.heap.size, 0, none⟩) 1 1) (w' := X.alloc (.cells ([.slice a' m.length cap'] : List Value).toArray 22)) ?_ ⟨BytL.lit X 22 [.slice a' m.length cap'] [m] rfl (by simp [maxLen]) (fun i hi => match i, hi with | 0, _ => hb | _ + 1, h => absurd h (by simp)), Grows.alloc' _ _⟩
        simp [go_sem, execOp, hc, k57]
      · refine step_intro rfl rfl fun ρ X hc hf hgl hX hp ho => ?_
        change StepOk _ { dst := _, op := Op.call { callee := Callee.value (Operand.func 9), args := #[Operand.tmp 58], argTypes := #[29] }, type := _, pos := _, after := _, guard := _ } _ _ _
        have k58 := hp 20 (by decide)
        clear hp ho
        refine StepOk.of_call (f := 9) (args := #[ρ (.tmp 58)]) (w' := X) ?_ (HSm.out X _ hX k58) ?_
        · go_simp
          all_goals try go_bits
          all_goals try rfl
        · rintro e w'' ⟨rfl, hg'⟩; refine ⟨_, rfl, ?_, hg'⟩; show _ = ?v21; rfl
      · refine step_intro rfl rfl fun ρ X hc hf hgl hX hp ho => ?_
        change StepOk _ { dst := _, op := Op.binOp BinOp.eql 25 (Operand.tmp 56) (Operand.tmp 59) 25, type := _, pos := _, after := _, guard := _ } _ _ _
        have k56 : ρ (.tmp 56) = ?v18 := hp 18 (by decide)
        have k59 : ρ (.tmp 59) = ?v21 := hp 21 (by decide)
        clear hp ho
        refine StepOk.of_run (v := ?v22) (w' := X) ?_ ⟨rfl, Below.refl _ _⟩
        clear hX
        go_simp
        all_goals try go_bits
        all_goals try simp only [IntWalk.iteOmega]
        all_goals try go_bits
        all_goals rfl
      · refine step_intro rfl rfl fun ρ X hc hf hgl hX hp ho => ?_
        change StepOk _ { dst := _, op := Op.pick (Operand.tmp 54) (Operand.tmp 60) (Operand.const (Value.bool false)), type := _, pos := _, after := _, guard := _ } _ _ _
        have k54 : ρ (.tmp 54) = ?v16 := hp 16 (by decide)
        have k60 : ρ (.tmp 60) = ?v22 := hp 22 (by decide)
        clear hp ho
        refine StepOk.of_run (v := ?v23) (w' := X) ?_ ⟨rfl, Below.refl _ _⟩
        clear hX
        go_simp
        all_goals try go_bits
        all_goals try simp only [IntWalk.iteOmega]
        all_goals try go_bits
        all_goals rfl
      · refine step_intro rfl rfl fun ρ X hc hf hgl hX hp ho => ?_
        change StepOk _ { dst := _, op := Op.move (Operand.tmp 61), type := _, pos := _, after := _, guard := _ } _ _ _
        have k61 : ρ (.tmp 61) = ?v23 := hp 23 (by decide)
        clear hp ho
        refine StepOk.of_run (v := ?v24) (w' := X) ?_ ⟨rfl, Below.refl _ _⟩
        clear hX
        go_simp
        all_goals try go_bits
        all_goals try simp only [IntWalk.iteOmega]
        all_goals try go_bits
        all_goals rfl
      · refine step_intro rfl rfl fun ρ X hc hf hgl hX hp ho => ?_
        change StepOk _ { dst := _, op := Op.call { callee := Callee.value (Operand.func 8), args := #[], argTypes := #[] }, type := _, pos := _, after := _, guard := _ } _ _ _
        clear hp ho
        refine StepOk.of_call (f := 8) (args := #[]) (w' := X) ?_ (LV X (hK.up (Grows.trans' HGe.out hX))) ?_
        · go_simp
          all_goals try go_bits
          all_goals try rfl
        · rintro e w'' ⟨rfl, hg'⟩; refine ⟨_, rfl, ?_, hg'⟩; show _ = ?v25; rfl
      · refine step_intro rfl rfl fun ρ X hc hf hgl hX hp ho => ?_
        change StepOk _ { dst := _, op := Op.pick (Operand.tmp 62) (Operand.tmp 63) (Operand.const (Value.bool false)), type := _, pos := _, after := _, guard := _ } _ _ _
        have k62 : ρ (.tmp 62) = ?v24 := hp 24 (by decide)
        have k63 : ρ (.tmp 63) = ?v25 := hp 25 (by decide)
        clear hp ho
        refine StepOk.of_run (v := ?v26) (w' := X) ?_ ⟨rfl, Below.refl _ _⟩
        clear hX
        go_simp
        all_goals try go_bits
        all_goals try simp only [IntWalk.iteOmega]
        all_goals try go_bits
        all_goals rfl
      · refine step_intro rfl rfl fun ρ X hc hf hgl hX hp ho => ?_
        change StepOk _ { dst := _, op := Op.assign (Operand.tmp 64), type := _, pos := _, after := _, guard := _ } _ _ _
        have k64 : ρ (.tmp 64) = ?v26 := hp 26 (by decide)
        clear hp ho
        refine StepOk.of_run (v := ?v27) (w' := X) ?_ ⟨rfl, Below.refl _ _⟩
        clear hX
        go_simp
        all_goals try go_bits
        all_goals try simp only [IntWalk.iteOmega]
        all_goals try go_bits
        all_goals rfl
    case grd => rfl
    case rst =>
      intro a0 X hb
      obtain ⟨x50, hx50⟩ : ∃ x, a0.tmps.getD 50 undef = x := ⟨_, rfl⟩
      have p50 := hb.done' 12 50 rfl rfl
      rw [hx50] at p50
      obtain ⟨x58, hx58⟩ : ∃ x, a0.tmps.getD 58 undef = x := ⟨_, rfl⟩
      have p58 := hb.done' 20 58 rfl rfl
      rw [hx58] at p58
      have hfr := hb.frame ((4, ?v27) :: (38, (.agg A0)) :: (39, (.agg A0)) :: (40, ?v2) :: (41, ?v3) :: (42, (.agg A0)) :: (43, ?v5) :: (44, ?v6) :: (45, ?v7) :: (46, ?v8) :: (47, ?v9) :: (48, ?v10) :: (49, ?v11) :: (50, x50) :: (51, ?v13) :: (52, ?v14) :: (53, ?v15) :: (54, ?v16) :: (55, ?v17) :: (56, ?v18) :: (57, ?v19) :: (58, x58) :: (59, ?v21) :: (60, ?v22) :: (61, ?v23) :: (62, ?v24) :: (63, ?v25) :: (64, ?v26) :: []) rfl ⟨hb.done' 27 4 rfl rfl, hb.done' 0 38 rfl rfl, hb.done' 1 39 rfl rfl, hb.done' 2 40 rfl rfl, hb.done' 3 41 rfl rfl, hb.done' 4 42 rfl rfl, hb.done' 5 43 rfl rfl, hb.done' 6 44 rfl rfl, hb.done' 7 45 rfl rfl, hb.done' 8 46 rfl rfl, hb.done' 9 47 rfl rfl, hb.done' 10 48 rfl rfl, hb.done' 11 49 rfl rfl, hx50, hb.done' 13 51 rfl rfl, hb.done' 14 52 rfl rfl, hb.done' 15 53 rfl rfl, hb.done' 16 54 rfl rfl, hb.done' 17 55 rfl rfl, hb.done' 18 56 rfl rfl, hb.done' 19 57 rfl rfl, hx58, hb.done' 21 59 rfl rfl, hb.done' 22 60 rfl rfl, hb.done' 23 61 rfl rfl, hb.done' 24 62 rfl rfl, hb.done' 25 63 rfl rfl, hb.done' 26 64 rfl rfl, trivial⟩
      simp only [updL, ↓reduceIte, Nat.reduceEqDiff, Nat.reduceAdd, Nat.zero_add] at hfr
      have HX := Lib.hid hb.ext
      clear hb
      subst hfr
      go_wp2
      go_ret
      exact ⟨rfl, Grows.trans' HGe.out HX.out⟩
end Go.Proofs.YtkehcpjianadjaaDoor
