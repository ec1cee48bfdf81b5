/-
  The walk of PageBack.
-/
import Derived.Test.YtfgnniajancpcaaPgT
namespace Go.Proofs.Ytfgnniajancpcaa
open Go.RowKit
set_option linter.unusedVariables false
set_option linter.unusedSimpArgs false

set_option maxRecDepth 100000 in
set_option maxHeartbeats 1000000 in
theorem walkBack_out (k k' : Int) (n n' : Nat) (u u' : Value) (l l' : List UInt8) (w : World) (h : Byt w u l) (h' : Byt w u' l') (ho : 2000 < l.length ∨ 2000 < l'.length) :
    Calls Try.prog 4 #[pgv k n u, pgv k' n' u'] w fun e w' => e = .returned (.bool true) ∧ Grows w w' := by
  obtain ⟨a, cap, rfl⟩ := h.slice
  obtain ⟨a', cap', rfl⟩ := h'.slice
  clear h h'
  unfold pgv
  by_cases c1 : (2000 : Int) < (l.length : Int)
  · clear ho
    go_enter Try.func4, Try.ntmps4
    go_wp2_with (go_at_call 6; refine (live_any _).mono ?_; rintro e w4 ⟨rfl, hg4⟩)
    go_ret
    exact ⟨rfl, Grows.trans' (Grows.trans' (Grows.alloc' _ _) (Grows.alloc' _ _)) hg4⟩
  · have c2 : (2000 : Int) < (l'.length : Int) := by omega
    clear ho
    go_enter Try.func4, Try.ntmps4
    go_wp2_with (go_at_call 6; refine (live_any _).mono ?_; rintro e w4 ⟨rfl, hg4⟩)
    go_ret
    exact ⟨rfl, Grows.trans' (Grows.trans' (Grows.alloc' _ _) (Grows.alloc' _ _)) hg4⟩

set_option maxRecDepth 100000 in
set_option maxHeartbeats 1000000 in
theorem walkBack_no (k k' : Int) (n n' : Nat) (hn' : n' < 18446744073709551616) (u u' : Value) (l l' : List UInt8) (w : World) (h : Byt w u l) (h' : Byt w u' l') (hl : l.length ≤ 2000) (hl' : l'.length ≤ 2000) (hf : fitsP ⟨k, n, l⟩ = false) :
    Calls Try.prog 4 #[pgv k n u, pgv k' n' u'] w fun e w' => e = .returned (.bool true) ∧ Grows w w' := by
  have H : Hid (Byt ((w.alloc (.cells #[.int .i64 k, .int .u64 n, u] 25)).alloc (.cells #[.int .i64 k', .int .u64 n', u'] 25)) u l) := (h.grows (Grows.alloc' _ _)).grows (Grows.alloc' _ _)
  have H' : Hid (Byt ((w.alloc (.cells #[.int .i64 k, .int .u64 n, u] 25)).alloc (.cells #[.int .i64 k', .int .u64 n', u'] 25)) u' l') := (h'.grows (Grows.alloc' _ _)).grows (Grows.alloc' _ _)
  obtain ⟨a, cap, rfl⟩ := h.slice
  obtain ⟨a', cap', rfl⟩ := h'.slice
  have c1 : ¬ (2000 : Int) < (l.length : Int) := by omega
  have c2 : ¬ (2000 : Int) < (l'.length : Int) := by omega
  have HS := Lib.hid (sealNo k n _ l _ H.out hf)
  clear hl hl' hf h h'
  unfold pgv
  obtain ⟨q, Hq⟩ : ∃ q, Hid (w.heap.size = q) := ⟨_, Lib.hid rfl⟩
  have HR : Hid ((((w.alloc (.cells #[.int .i64 k, .int .u64 n, .slice a l.length cap] 25)).alloc (.cells #[.int .i64 k', .int .u64 n', .slice a' l'.length cap'] 25))).heap[q + 1]? = some (.cells #[.int .i64 k', .int .u64 n', .slice a' l'.length cap'] 25 (0, 0))) := by
    show _ = _
    rw [← Hq.out]
    have := heap_alloc_new (w.alloc (.cells #[.int .i64 k, .int .u64 n, .slice a l.length cap] 25)) (.cells #[.int .i64 k', .int .u64 n', .slice a' l'.length cap'] 25)
    simpa using this
  go_enter Try.func4, Try.ntmps4
  go_wp2_with fail
  refine HS.out.mono ?_
  rintro e w1 ⟨rfl, hg1⟩
  have HG1 := Lib.hid (Grows.trans' (Grows.trans' (Grows.alloc' _ _) (Grows.alloc' _ _)) hg1)
  have HR1 := Lib.hid (hg1.heap' HR.out)
  have HS2 : Hid (Calls Try.prog 7 #[pgv k' n' (.slice a' l'.length cap')] w1 fun e w' => (∃ v x, e = .returned (.tuple #[v, .int .i64 x])) ∧ Grows w1 w') := by
    cases hf' : fitsP ⟨k', n', l'⟩ with
    | false => exact (sealNo k' n' _ l' w1 (H'.out.grows hg1) hf').mono fun e w' ⟨he, hg⟩ => ⟨⟨_, _, he⟩, hg⟩
    | true => exact (vSealYes k' n' hn' _ l' w1 (H'.out.grows hg1) hf').mono fun e w' ⟨v, he, _, hg⟩ => ⟨⟨_, _, he⟩, hg⟩
  clear hg1
  obtain ⟨d0, d1, d2⟩ := boxCells (Below.refl (q + 1 + 1) w1) HR1.out
  rw [← Hq.out] at d0 d1 d2
  go_wp2_with fail
  refine HS2.out.mono ?_
  rintro e w2 ⟨⟨v2, x2, rfl⟩, hg2⟩
  have HG2 := Lib.hid (Grows.trans' HG1.out hg2)
  clear hg2 d0 d1 d2
  go_wp2_with (first
    | (go_at_call 11; refine (vNum _ _).mono ?_; rintro e w7 ⟨rfl, rfl⟩)
    | (go_at_call 6; refine (live_any _).mono ?_; rintro e w4 ⟨rfl, hg4⟩))
  go_ret
  exact ⟨rfl, Grows.trans' HG2.out hg4⟩

set_option maxRecDepth 100000 in
set_option maxHeartbeats 2000000 in
theorem walkBack_fno (k k' : Int) (n n' : Nat) (hn : n < 18446744073709551616) (hn' : n' < 18446744073709551616) (u u' : Value) (l l' : List UInt8) (w : World) (h : Byt w u l) (h' : Byt w u' l') (hl : l.length ≤ 2000) (hl' : l'.length ≤ 2000) (hf : fitsP ⟨k, n, l⟩ = true) (hf' : fitsP ⟨k', n', l'⟩ = false) :
    Calls Try.prog 4 #[pgv k n u, pgv k' n' u'] w fun e w' => e = .returned (.bool true) ∧ Grows w w' := by
  have hmx : Try.prog.follows .mixedOrders = true := by kernel_rfl
  obtain ⟨a, cap, rfl⟩ := h.slice
  obtain ⟨a', cap', rfl⟩ := h'.slice
  obtain ⟨q, Hq⟩ : ∃ q, Hid (w.heap.size = q) := ⟨_, Lib.hid rfl⟩
  obtain ⟨W0, HW0⟩ : ∃ W0, Hid (((w.alloc (.cells #[.int .i64 k, .int .u64 n, .slice a l.length cap] 25)).alloc (.cells #[.int .i64 k', .int .u64 n', .slice a' l'.length cap'] 25)) = W0) := ⟨_, Lib.hid rfl⟩
  have HG0 : Hid (Grows w W0) := by show Grows _ _; rw [← HW0.out]; exact Grows.trans' (Grows.alloc' _ _) (Grows.alloc' _ _)
  have HP0 : Hid (W0.heap[q]? = some (.cells #[.int .i64 k, .int .u64 n, .slice a l.length cap] 25 (0, 0))) := by
    show _ = _
    rw [← HW0.out, ← Hq.out]
    exact (Grows.alloc' _ _).heap' (heap_alloc_new w _)
  have HR0 : Hid (W0.heap[q + 1]? = some (.cells #[.int .i64 k', .int .u64 n', .slice a' l'.length cap'] 25 (0, 0))) := by
    show _ = _
    rw [← HW0.out, ← Hq.out]
    have := heap_alloc_new (w.alloc (.cells #[.int .i64 k, .int .u64 n, .slice a l.length cap] 25)) (.cells #[.int .i64 k', .int .u64 n', .slice a' l'.length cap'] 25)
    simpa using this
  have HbP : Hid (Byt W0 (.slice a l.length cap) l) := h.grows HG0.out
  have HbQ : Hid (Byt W0 (.slice a' l'.length cap') l') := h'.grows HG0.out
  have c1 : ¬ (2000 : Int) < (l.length : Int) := by omega
  have c2 : ¬ (2000 : Int) < (l'.length : Int) := by omega
  obtain ⟨B, HB⟩ : ∃ B, Shut (putC (contentP ⟨k, n, l⟩) = B) := ⟨_, ⟨rfl⟩⟩
  have HS := Lib.hid (sealYes k n hn _ l W0 HbP.out hf B HB.out)
  have HO : Shut (openP B = (⟨k, n, l⟩, 0)) := ⟨by rw [← HB.out]; exact open_seal _ hf hn⟩
  have HSm : Shut (sameP ⟨k, n, l⟩ ⟨k, n, l⟩ = true) := ⟨(sameP_iff _ _).2 rfl⟩
  have HQ : Shut (fitsP ⟨k', n', l'⟩ = false) := ⟨hf'⟩
  clear hf'
  clear hl hl' hf h h'
  unfold pgv
  obtain ⟨c0, c3, c4⟩ := boxCells (Below.refl (q + 1) W0) HP0.out
  obtain ⟨d0, d1, d2⟩ := boxCells (Below.refl (q + 1 + 1) W0) HR0.out
  go_enter Try.func4, Try.ntmps4
  go_wp2_with (first
    | (refine wpList_boxT rfl 25 (.tmp 0) rfl #[.int .i64 k, .int .u64 n, .slice a l.length cap] rfl ?_)
    | (refine wpList_boxT rfl 25 (.tmp 1) rfl #[.int .i64 k', .int .u64 n', .slice a' l'.length cap'] rfl ?_; rw [HW0.out, World.size_alloc, Hq.out]))
  clear c0 c3 c4 d0 d1 d2
  refine HS.out.mono ?_
  rintro e w1 ⟨g1, k1, rfl, ho1, hg1⟩
  have HG1 := Lib.hid (Grows.trans' HG0.out hg1)
  have HP1 := Lib.hid (hg1.heap' HP0.out)
  have HR1 := Lib.hid (hg1.heap' HR0.out)
  have HbP1 := Lib.hid (HbP.out.grows hg1)
  have HbQ1 := Lib.hid (HbQ.out.grows hg1)
  have HA1 := Lib.hid ho1.byt
  obtain ⟨d0, d1, d2⟩ := boxCells (Below.refl (q + 1 + 1) w1) HR1.out
  clear ho1 hg1
  go_wp2_with fail
  clear d0 d1 d2
  refine (sealNo k' n' _ l' w1 HbQ1.out HQ.out).mono ?_
  rintro e w2 ⟨rfl, hg2⟩
  have HG2 := Lib.hid (Grows.trans' HG1.out hg2)
  have HP2 := Lib.hid (hg2.heap' HP1.out)
  have HR2 := Lib.hid (hg2.heap' HR1.out)
  have HbP2 := Lib.hid (HbP1.out.grows hg2)
  have HbQ2 := Lib.hid (HbQ1.out.grows hg2)
  have HA2 := Lib.hid (HA1.out.grows hg2)
  go_wp2_with (go_at_call 11; refine (vNum _ _).mono ?_; rintro e w7 ⟨rfl, rfl⟩)
  refine (openIs _ B w2 HA2.out k n l 0 HO.out).mono ?_
  rintro e w3 ⟨a3, k3, rfl, hb3, hg3⟩
  unfold pgv
  obtain ⟨q3, Hq3⟩ : ∃ q3, Hid (w3.heap.size = q3) := ⟨_, Lib.hid rfl⟩
  obtain ⟨W3, HW3⟩ : ∃ W3, Hid (w3.alloc (.cells #[.int .i64 k, .int .u64 n, .slice a3 l.length k3] 25) = W3) := ⟨_, Lib.hid rfl⟩
  have hR3 := heap_alloc_new w3 (.cells #[.int .i64 k, .int .u64 n, .slice a3 l.length k3] 25)
  have hg3' : Grows w3 W3 := by rw [← HW3.out]; exact Grows.alloc' _ _
  have hg23 := Grows.trans' hg3 hg3'
  rw [HW3.out, Hq3.out] at hR3
  have HR3' := Lib.hid hR3
  have HG3 := Lib.hid (Grows.trans' HG2.out hg23)
  have HP3 := Lib.hid (hg23.heap' HP2.out)
  have HR3 := Lib.hid (hg23.heap' HR2.out)
  have HbP3 := Lib.hid (HbP2.out.grows hg23)
  have HbQ3 := Lib.hid (HbQ2.out.grows hg23)
  have HA3 := Lib.hid (HA2.out.grows hg23)
  have HC1 := Lib.hid (sameIs k k n n _ _ l l W3 HbP3.out (hb3.grows hg3') true HSm.out)
  clear hg23 hg3' hg3 hb3 hg2 hR3
  obtain ⟨c0, c3, c4⟩ := boxCells (Below.refl (q + 1) W3) HP3.out
  obtain ⟨e0, e1, e2⟩ := boxCells (Below.refl (q3 + 1) W3) HR3'.out
  go_wp2_with (first
    | (go_at_call 11; rw [Hq3.out, HW3.out]; refine (vNum _ _).mono ?_; rintro e w7 ⟨rfl, rfl⟩))
  refine HC1.out.mono ?_
  rintro e w4 ⟨rfl, hg4⟩
  have HG4 := Lib.hid (Grows.trans' HG3.out hg4)
  have HP4 := Lib.hid (hg4.heap' HP3.out)
  have HR4 := Lib.hid (hg4.heap' HR3.out)
  have HbP4 := Lib.hid (HbP3.out.grows hg4)
  have HbQ4 := Lib.hid (HbQ3.out.grows hg4)
  have HA4 := Lib.hid (HA3.out.grows hg4)
  clear hg4 c0 c3 c4 e0 e1 e2
  go_wp2_with fail
  refine specs_region
    #[[], [0], [0, 1], [0, 1, 2], [0, 1, 2, 3], [0, 1, 2, 3, 4], [0, 1, 2, 3], [0, 1, 2, 3, 6], [0, 1, 2, 3, 4, 5, 6, 7], [0, 1, 2, 3], [0, 1, 2, 3], [0, 1, 2, 3, 9, 10], [0, 1, 2, 3, 4, 5, 6, 7, 8, 9, 10, 11], [0, 1, 2, 3, 4, 5, 6, 7, 8, 9, 10, 11, 12], [0, 1, 2, 3, 4, 5, 6, 7, 8, 9, 10, 11, 12, 13], [0, 1, 2, 3, 4, 5, 6, 7, 8, 9, 10, 11, 12, 13, 14], [0, 1, 2, 3, 4, 5, 6, 7, 8, 9, 10, 11, 12, 13, 14, 15], [0, 1, 2, 3, 4, 5, 6, 7, 8, 9, 10, 11, 12, 13, 14, 15, 16]] #[[8], [], [], [], [5], [], [7], [], [], [2], [3], [], [], [], [], [], [], []] #[true, true, true, true, false, false, false, false, false, false, false, false, false, true, true, true, true, true]
    ((.val ?v0) :: (.val ?v1) :: (.val ?v2) :: (.val ?v3) :: (.val undef) :: (.val undef) :: (.val undef) :: (.val undef) :: (.val undef) :: (.val undef) :: (.val undef) :: (.val undef) :: (.val undef) :: (.val ?v13) :: (.val ?v14) :: (.val ?v15) :: (.val ?v16) :: (.val ?v17) :: []).toArray
    hmx ?chk ?grd ?stp ?rst
  case chk => rfl
  case stp =>
    refine ⟨?_, ?_, ?_, ?_, ?_, ?_, ?_, ?_, ?_, ?_, ?_, ?_, ?_, ?_, ?_, ?_, ?_, ?_, trivial⟩
    · refine step_intro rfl rfl fun ρ X hc hf hgl hX hp ho => ?_
      change StepOk _ { dst := _, op := Op.move (Operand.tmp 8), type := _, pos := _, after := _, guard := _ } _ _ _
      have k8 : ρ (.tmp 8) = .int .i64 50 := ho 8 (by decide)
      clear hp ho
      refine StepOk.of_run (v := ?v0) (w' := X) ?_ ⟨rfl, Below.refl _ _⟩
      clear hX
      go_simp
      all_goals try go_bits
      all_goals try simp only [IntWalk.iteOmega]
      all_goals try go_bits
      all_goals rfl
    · refine step_intro rfl rfl fun ρ X hc hf hgl hX hp ho => ?_
      change StepOk _ { dst := _, op := Op.call { callee := Callee.value (Operand.func 11), args := #[Operand.tmp 55], argTypes := #[27] }, type := _, pos := _, after := _, guard := _ } _ _ _
      have k55 : ρ (.tmp 55) = ?v0 := hp 0 (by decide)
      clear hp ho
      refine StepOk.of_call (f := 11) (args := #[?v0]) (w' := X) ?_ (vNum _ X) ?_
      · go_simp
        all_goals try go_bits
        all_goals try rfl
      · rintro e w'' ⟨rfl, rfl⟩; refine ⟨_, rfl, ?_, Below.refl _ _⟩; show _ = ?v1; rfl
    · refine step_intro rfl rfl fun ρ X hc hf hgl hX hp ho => ?_
      change StepOk _ { dst := _, op := Op.binOp BinOp.neq 3 (Operand.tmp 56) (Operand.const (Value.int IntKind.i64 0)) 3, type := _, pos := _, after := _, guard := _ } _ _ _
      have k56 : ρ (.tmp 56) = ?v1 := hp 1 (by decide)
      clear hp ho
      refine StepOk.of_run (v := ?v2) (w' := X) ?_ ⟨rfl, Below.refl _ _⟩
      clear hX
      go_simp
      all_goals try go_bits
      all_goals try simp only [IntWalk.iteOmega]
      all_goals try go_bits
      all_goals rfl
    · refine step_intro rfl rfl fun ρ X hc hf hgl hX hp ho => ?_
      change StepOk _ { dst := _, op := Op.move (Operand.tmp 57), type := _, pos := _, after := _, guard := _ } _ _ _
      have k57 : ρ (.tmp 57) = ?v2 := hp 2 (by decide)
      clear hp ho
      refine StepOk.of_run (v := ?v3) (w' := X) ?_ ⟨rfl, Below.refl _ _⟩
      clear hX
      go_simp
      all_goals try go_bits
      all_goals try simp only [IntWalk.iteOmega]
      all_goals try go_bits
      all_goals rfl
    · exact step_skip rfl rfl (fun _ _ => rfl)
    · exact step_skip rfl rfl (fun _ _ => rfl)
    · exact step_skip rfl rfl (fun _ _ => rfl)
    · exact step_skip rfl rfl (fun _ _ => rfl)
    · exact step_skip rfl rfl (fun _ _ => rfl)
    · exact step_skip rfl rfl (fun _ _ => rfl)
    · exact step_skip rfl rfl (fun _ _ => rfl)
    · exact step_skip rfl rfl (fun _ _ => rfl)
    · exact step_skip rfl rfl (fun _ _ => rfl)
    · refine step_intro rfl rfl fun ρ X hc hf hgl hX hp ho => ?_
      change StepOk _ { dst := _, op := Op.pick (Operand.tmp 58) (Operand.const (Value.bool true)) (Operand.tmp 67), type := _, pos := _, after := _, guard := _ } _ _ _
      have k58 : ρ (.tmp 58) = ?v3 := hp 3 (by decide)
      have k67 : ρ (.tmp 67) = undef := hp 12 (by decide)
      clear hp ho
      refine StepOk.of_run (v := ?v13) (w' := X) ?_ ⟨rfl, Below.refl _ _⟩
      clear hX
      go_simp
      all_goals try go_bits
      all_goals try simp only [IntWalk.iteOmega]
      all_goals try go_bits
      all_goals rfl
    · refine step_intro rfl rfl fun ρ X hc hf hgl hX hp ho => ?_
      change StepOk _ { dst := _, op := Op.move (Operand.tmp 68), type := _, pos := _, after := _, guard := _ } _ _ _
      have k68 : ρ (.tmp 68) = ?v13 := hp 13 (by decide)
      clear hp ho
      refine StepOk.of_run (v := ?v14) (w' := X) ?_ ⟨rfl, Below.refl _ _⟩
      clear hX
      go_simp
      all_goals try go_bits
      all_goals try simp only [IntWalk.iteOmega]
      all_goals try go_bits
      all_goals rfl
    · refine step_intro rfl rfl fun ρ X hc hf hgl hX hp ho => ?_
      change StepOk _ { dst := _, op := Op.call { callee := Callee.value (Operand.func 6), args := #[], argTypes := #[] }, type := _, pos := _, after := _, guard := _ } _ _ _
      clear hp ho
      refine StepOk.of_call (f := 6) (args := #[]) (w' := X) ?_ (live_any X) ?_
      · go_simp
        all_goals try go_bits
        all_goals try rfl
      · rintro e w'' ⟨rfl, hg'⟩; refine ⟨_, rfl, ?_, hg'⟩; show _ = ?v15; rfl
    · refine step_intro rfl rfl fun ρ X hc hf hgl hX hp ho => ?_
      change StepOk _ { dst := _, op := Op.pick (Operand.tmp 69) (Operand.tmp 70) (Operand.const (Value.bool false)), type := _, pos := _, after := _, guard := _ } _ _ _
      have k69 : ρ (.tmp 69) = ?v14 := hp 14 (by decide)
      have k70 : ρ (.tmp 70) = ?v15 := hp 15 (by decide)
      clear hp ho
      refine StepOk.of_run (v := ?v16) (w' := X) ?_ ⟨rfl, Below.refl _ _⟩
      clear hX
      go_simp
      all_goals try go_bits
      all_goals try simp only [IntWalk.iteOmega]
      all_goals try go_bits
      all_goals rfl
    · refine step_intro rfl rfl fun ρ X hc hf hgl hX hp ho => ?_
      change StepOk _ { dst := _, op := Op.assign (Operand.tmp 71), type := _, pos := _, after := _, guard := _ } _ _ _
      have k71 : ρ (.tmp 71) = ?v16 := hp 16 (by decide)
      clear hp ho
      refine StepOk.of_run (v := ?v17) (w' := X) ?_ ⟨rfl, Below.refl _ _⟩
      clear hX
      go_simp
      all_goals try go_bits
      all_goals try simp only [IntWalk.iteOmega]
      all_goals try go_bits
      all_goals rfl
  case grd => rfl
  case rst =>
    intro a0 X hb
    have hfr := hb.frame ((4, ?v17) :: (55, ?v0) :: (56, ?v1) :: (57, ?v2) :: (58, ?v3) :: (59, undef) :: (60, undef) :: (61, undef) :: (62, undef) :: (63, undef) :: (64, undef) :: (65, undef) :: (66, undef) :: (67, undef) :: (68, ?v13) :: (69, ?v14) :: (70, ?v15) :: (71, ?v16) :: []) rfl ⟨hb.done' 17 4 rfl rfl, hb.done' 0 55 rfl rfl, hb.done' 1 56 rfl rfl, hb.done' 2 57 rfl rfl, hb.done' 3 58 rfl rfl, hb.done' 4 59 rfl rfl, hb.done' 5 60 rfl rfl, hb.done' 6 61 rfl rfl, hb.done' 7 62 rfl rfl, hb.done' 8 63 rfl rfl, hb.done' 9 64 rfl rfl, hb.done' 10 65 rfl rfl, hb.done' 11 66 rfl rfl, hb.done' 12 67 rfl rfl, hb.done' 13 68 rfl rfl, hb.done' 14 69 rfl rfl, hb.done' 15 70 rfl rfl, hb.done' 16 71 rfl rfl, trivial⟩
    simp only [updL, ↓reduceIte, Nat.reduceEqDiff, Nat.reduceAdd, Nat.zero_add] at hfr
    have HX := Lib.hid hb.ext
    clear hb
    subst hfr
    go_wp2
    go_ret
    exact ⟨rfl, Grows.trans' HG4.out HX.out⟩

set_option maxRecDepth 100000 in
set_option maxHeartbeats 2000000 in
theorem walkBack_fyes (k k' : Int) (n n' : Nat) (hn : n < 18446744073709551616) (hn' : n' < 18446744073709551616) (u u' : Value) (l l' : List UInt8) (w : World) (h : Byt w u l) (h' : Byt w u' l') (hl : l.length ≤ 2000) (hl' : l'.length ≤ 2000) (hf : fitsP ⟨k, n, l⟩ = true) (hf' : fitsP ⟨k', n', l'⟩ = true) :
    Calls Try.prog 4 #[pgv k n u, pgv k' n' u'] w fun e w' => e = .returned (.bool true) ∧ Grows w w' := by
  have hmx : Try.prog.follows .mixedOrders = true := by kernel_rfl
  obtain ⟨a, cap, rfl⟩ := h.slice
  obtain ⟨a', cap', rfl⟩ := h'.slice
  obtain ⟨q, Hq⟩ : ∃ q, Hid (w.heap.size = q) := ⟨_, Lib.hid rfl⟩
  obtain ⟨W0, HW0⟩ : ∃ W0, Hid (((w.alloc (.cells #[.int .i64 k, .int .u64 n, .slice a l.length cap] 25)).alloc (.cells #[.int .i64 k', .int .u64 n', .slice a' l'.length cap'] 25)) = W0) := ⟨_, Lib.hid rfl⟩
  have HG0 : Hid (Grows w W0) := by show Grows _ _; rw [← HW0.out]; exact Grows.trans' (Grows.alloc' _ _) (Grows.alloc' _ _)
  have HP0 : Hid (W0.heap[q]? = some (.cells #[.int .i64 k, .int .u64 n, .slice a l.length cap] 25 (0, 0))) := by
    show _ = _
    rw [← HW0.out, ← Hq.out]
    exact (Grows.alloc' _ _).heap' (heap_alloc_new w _)
  have HR0 : Hid (W0.heap[q + 1]? = some (.cells #[.int .i64 k', .int .u64 n', .slice a' l'.length cap'] 25 (0, 0))) := by
    show _ = _
    rw [← HW0.out, ← Hq.out]
    have := heap_alloc_new (w.alloc (.cells #[.int .i64 k, .int .u64 n, .slice a l.length cap] 25)) (.cells #[.int .i64 k', .int .u64 n', .slice a' l'.length cap'] 25)
    simpa using this
  have HbP : Hid (Byt W0 (.slice a l.length cap) l) := h.grows HG0.out
  have HbQ : Hid (Byt W0 (.slice a' l'.length cap') l') := h'.grows HG0.out
  have c1 : ¬ (2000 : Int) < (l.length : Int) := by omega
  have c2 : ¬ (2000 : Int) < (l'.length : Int) := by omega
  obtain ⟨B, HB⟩ : ∃ B, Shut (putC (contentP ⟨k, n, l⟩) = B) := ⟨_, ⟨rfl⟩⟩
  have HS := Lib.hid (sealYes k n hn _ l W0 HbP.out hf B HB.out)
  have HO : Shut (openP B = (⟨k, n, l⟩, 0)) := ⟨by rw [← HB.out]; exact open_seal _ hf hn⟩
  have HSm : Shut (sameP ⟨k, n, l⟩ ⟨k, n, l⟩ = true) := ⟨(sameP_iff _ _).2 rfl⟩
  obtain ⟨C, HC⟩ : ∃ C, Shut (putC (contentP ⟨k', n', l'⟩) = C) := ⟨_, ⟨rfl⟩⟩
  have HQ : Shut (fitsP ⟨k', n', l'⟩ = true) := ⟨hf'⟩
  obtain ⟨bb, Hbb⟩ : ∃ bb, Shut (sameP ⟨k, n, l⟩ ⟨k', n', l'⟩ = bb) := ⟨_, ⟨rfl⟩⟩
  have HBC : Shut ((B == C) = bb) := ⟨by
    rw [← Hbb.out, Bool.eq_iff_iff, beq_iff_eq, sameP_iff, ← HB.out, ← HC.out]
    exact ⟨fun e => seal_inj _ _ hf hf' hn hn' e, fun e => by rw [e]⟩⟩
  have Hn' := Lib.hid hn'
  clear hf' hn'
  clear hl hl' hf h h'
  unfold pgv
  obtain ⟨c0, c3, c4⟩ := boxCells (Below.refl (q + 1) W0) HP0.out
  obtain ⟨d0, d1, d2⟩ := boxCells (Below.refl (q + 1 + 1) W0) HR0.out
  go_enter Try.func4, Try.ntmps4
  go_wp2_with (first
    | (refine wpList_boxT rfl 25 (.tmp 0) rfl #[.int .i64 k, .int .u64 n, .slice a l.length cap] rfl ?_)
    | (refine wpList_boxT rfl 25 (.tmp 1) rfl #[.int .i64 k', .int .u64 n', .slice a' l'.length cap'] rfl ?_; rw [HW0.out, World.size_alloc, Hq.out]))
  clear c0 c3 c4 d0 d1 d2
  refine HS.out.mono ?_
  rintro e w1 ⟨g1, k1, rfl, ho1, hg1⟩
  have HG1 := Lib.hid (Grows.trans' HG0.out hg1)
  have HP1 := Lib.hid (hg1.heap' HP0.out)
  have HR1 := Lib.hid (hg1.heap' HR0.out)
  have HbP1 := Lib.hid (HbP.out.grows hg1)
  have HbQ1 := Lib.hid (HbQ.out.grows hg1)
  have HA1 := Lib.hid ho1.byt
  obtain ⟨d0, d1, d2⟩ := boxCells (Below.refl (q + 1 + 1) w1) HR1.out
  clear ho1 hg1
  go_wp2_with fail
  clear d0 d1 d2
  refine (sealYes k' n' Hn'.out _ l' w1 HbQ1.out HQ.out C HC.out).mono ?_
  rintro e w2 ⟨g2, k2, rfl, ho2, hg2⟩
  have HG2 := Lib.hid (Grows.trans' HG1.out hg2)
  have HP2 := Lib.hid (hg2.heap' HP1.out)
  have HR2 := Lib.hid (hg2.heap' HR1.out)
  have HbP2 := Lib.hid (HbP1.out.grows hg2)
  have HbQ2 := Lib.hid (HbQ1.out.grows hg2)
  have HA2 := Lib.hid (HA1.out.grows hg2)
  have HD2 := Lib.hid ho2.byt
  clear ho2
  go_wp2_with (go_at_call 11; refine (vNum _ _).mono ?_; rintro e w7 ⟨rfl, rfl⟩)
  refine (openIs _ B w2 HA2.out k n l 0 HO.out).mono ?_
  rintro e w3 ⟨a3, k3, rfl, hb3, hg3⟩
  unfold pgv
  obtain ⟨q3, Hq3⟩ : ∃ q3, Hid (w3.heap.size = q3) := ⟨_, Lib.hid rfl⟩
  obtain ⟨W3, HW3⟩ : ∃ W3, Hid (w3.alloc (.cells #[.int .i64 k, .int .u64 n, .slice a3 l.length k3] 25) = W3) := ⟨_, Lib.hid rfl⟩
  have hR3 := heap_alloc_new w3 (.cells #[.int .i64 k, .int .u64 n, .slice a3 l.length k3] 25)
  have hg3' : Grows w3 W3 := by rw [← HW3.out]; exact Grows.alloc' _ _
  have hg23 := Grows.trans' hg3 hg3'
  rw [HW3.out, Hq3.out] at hR3
  have HR3' := Lib.hid hR3
  have HG3 := Lib.hid (Grows.trans' HG2.out hg23)
  have HP3 := Lib.hid (hg23.heap' HP2.out)
  have HR3 := Lib.hid (hg23.heap' HR2.out)
  have HbP3 := Lib.hid (HbP2.out.grows hg23)
  have HbQ3 := Lib.hid (HbQ2.out.grows hg23)
  have HA3 := Lib.hid (HA2.out.grows hg23)
  have HC1 := Lib.hid (sameIs k k n n _ _ l l W3 HbP3.out (hb3.grows hg3') true HSm.out)
  have HD3 := Lib.hid (HD2.out.grows hg23)
  clear hg23 hg3' hg3 hb3 hg2 hR3
  obtain ⟨c0, c3, c4⟩ := boxCells (Below.refl (q + 1) W3) HP3.out
  obtain ⟨e0, e1, e2⟩ := boxCells (Below.refl (q3 + 1) W3) HR3'.out
  go_wp2_with (first
    | (go_at_call 11; rw [Hq3.out, HW3.out]; refine (vNum _ _).mono ?_; rintro e w7 ⟨rfl, rfl⟩))
  refine HC1.out.mono ?_
  rintro e w4 ⟨rfl, hg4⟩
  have HG4 := Lib.hid (Grows.trans' HG3.out hg4)
  have HP4 := Lib.hid (hg4.heap' HP3.out)
  have HR4 := Lib.hid (hg4.heap' HR3.out)
  have HbP4 := Lib.hid (HbP3.out.grows hg4)
  have HbQ4 := Lib.hid (HbQ3.out.grows hg4)
  have HA4 := Lib.hid (HA3.out.grows hg4)
  have HD4 := Lib.hid (HD3.out.grows hg4)
  clear hg4 c0 c3 c4 e0 e1 e2
  go_wp2_with fail
  refine specs_region
    #[[], [0], [0, 1], [0, 1, 2], [0, 1, 2, 3], [0, 1, 2, 3, 4], [0, 1, 2, 3], [0, 1, 2, 3, 6], [0, 1, 2, 3, 4, 5, 6, 7], [0, 1, 2, 3], [0, 1, 2, 3], [0, 1, 2, 3, 9, 10], [0, 1, 2, 3, 4, 5, 6, 7, 8, 9, 10, 11], [0, 1, 2, 3, 4, 5, 6, 7, 8, 9, 10, 11, 12], [0, 1, 2, 3, 4, 5, 6, 7, 8, 9, 10, 11, 12, 13], [0, 1, 2, 3, 4, 5, 6, 7, 8, 9, 10, 11, 12, 13, 14], [0, 1, 2, 3, 4, 5, 6, 7, 8, 9, 10, 11, 12, 13, 14, 15], [0, 1, 2, 3, 4, 5, 6, 7, 8, 9, 10, 11, 12, 13, 14, 15, 16]] #[[8], [], [], [], [5], [], [7], [], [], [2], [3], [], [], [], [], [], [], []] #[true, true, true, true, true, true, true, true, true, true, true, true, true, true, true, true, true, true]
    ((.val ?v0) :: (.val ?v1) :: (.val ?v2) :: (.val ?v3) :: (.val ?v4) :: (.val (.string ⟨(B : List UInt8).toArray⟩)) :: (.val ?v6) :: (.val (.string ⟨(C : List UInt8).toArray⟩)) :: (.val (.bool bb)) :: (.val (.agg #[.int .i64 k, .int .u64 n, .slice a l.length cap])) :: (.val (.agg #[.int .i64 k', .int .u64 n', .slice a' l'.length cap'])) :: (.val ?v11) :: (.val ?v12) :: (.val ?v13) :: (.val ?v14) :: (.val ?v15) :: (.val ?v16) :: (.val ?v17) :: []).toArray
    hmx ?chk ?grd ?stp ?rst
  case chk => rfl
  case stp =>
    refine ⟨?_, ?_, ?_, ?_, ?_, ?_, ?_, ?_, ?_, ?_, ?_, ?_, ?_, ?_, ?_, ?_, ?_, ?_, trivial⟩
    · refine step_intro rfl rfl fun ρ X hc hf hgl hX hp ho => ?_
      change StepOk _ { dst := _, op := Op.move (Operand.tmp 8), type := _, pos := _, after := _, guard := _ } _ _ _
      have k8 : ρ (.tmp 8) = .int .i64 0 := ho 8 (by decide)
      clear hp ho
      refine StepOk.of_run (v := ?v0) (w' := X) ?_ ⟨rfl, Below.refl _ _⟩
      clear hX
      go_simp
      all_goals try go_bits
      all_goals try simp only [IntWalk.iteOmega]
      all_goals try go_bits
      all_goals rfl
    · refine step_intro rfl rfl fun ρ X hc hf hgl hX hp ho => ?_
      change StepOk _ { dst := _, op := Op.call { callee := Callee.value (Operand.func 11), args := #[Operand.tmp 55], argTypes := #[27] }, type := _, pos := _, after := _, guard := _ } _ _ _
      have k55 : ρ (.tmp 55) = ?v0 := hp 0 (by decide)
      clear hp ho
      refine StepOk.of_call (f := 11) (args := #[?v0]) (w' := X) ?_ (vNum _ X) ?_
      · go_simp
        all_goals try go_bits
        all_goals try rfl
      · rintro e w'' ⟨rfl, rfl⟩; refine ⟨_, rfl, ?_, Below.refl _ _⟩; show _ = ?v1; rfl
    · refine step_intro rfl rfl fun ρ X hc hf hgl hX hp ho => ?_
      change StepOk _ { dst := _, op := Op.binOp BinOp.neq 3 (Operand.tmp 56) (Operand.const (Value.int IntKind.i64 0)) 3, type := _, pos := _, after := _, guard := _ } _ _ _
      have k56 : ρ (.tmp 56) = ?v1 := hp 1 (by decide)
      clear hp ho
      refine StepOk.of_run (v := ?v2) (w' := X) ?_ ⟨rfl, Below.refl _ _⟩
      clear hX
      go_simp
      all_goals try go_bits
      all_goals try simp only [IntWalk.iteOmega]
      all_goals try go_bits
      all_goals rfl
    · refine step_intro rfl rfl fun ρ X hc hf hgl hX hp ho => ?_
      change StepOk _ { dst := _, op := Op.move (Operand.tmp 57), type := _, pos := _, after := _, guard := _ } _ _ _
      have k57 : ρ (.tmp 57) = ?v2 := hp 2 (by decide)
      clear hp ho
      refine StepOk.of_run (v := ?v3) (w' := X) ?_ ⟨rfl, Below.refl _ _⟩
      clear hX
      go_simp
      all_goals try go_bits
      all_goals try simp only [IntWalk.iteOmega]
      all_goals try go_bits
      all_goals rfl
    · refine step_intro rfl rfl fun ρ X hc hf hgl hX hp ho => ?_
      change StepOk _ { dst := _, op := Op.move (Operand.tmp 5), type := _, pos := _, after := _, guard := _ } _ _ _
      have k5 : ρ (.tmp 5) = .slice (some ⟨g1, 0, none⟩) 256 k1 := ho 5 (by decide)
      clear hp ho
      refine StepOk.of_run (v := ?v4) (w' := X) ?_ ⟨rfl, Below.refl _ _⟩
      clear hX
      go_simp
      all_goals try go_bits
      all_goals try simp only [IntWalk.iteOmega]
      all_goals try go_bits
      all_goals rfl
    · refine step_intro rfl rfl fun ρ X hc hf hgl hX hp ho => ?_
      change StepOk _ { dst := _, op := Op.convert 23 9 (Operand.tmp 59), type := _, pos := _, after := _, guard := _ } _ _ _
      have k59 : ρ (.tmp 59) = ?v4 := hp 4 (by decide)
      clear hp ho
      have hr := run_string (P := Try.prog) (T := 23) (e := 5) (S := 9) rfl rfl rfl (Byt.grows HA4.out hX)
      refine StepOk.of_run (v := .string ⟨(B : List UInt8).toArray⟩) (w' := X) ?_ ⟨rfl, Below.refl _ _⟩
      simp only [execOp, k59, Sem.run_bind, hr, Result.andThen_ok, Sem.run_pure]
    · refine step_intro rfl rfl fun ρ X hc hf hgl hX hp ho => ?_
      change StepOk _ { dst := _, op := Op.move (Operand.tmp 7), type := _, pos := _, after := _, guard := _ } _ _ _
      have k7 : ρ (.tmp 7) = .slice (some ⟨g2, 0, none⟩) 256 k2 := ho 7 (by decide)
      clear hp ho
      refine StepOk.of_run (v := ?v6) (w' := X) ?_ ⟨rfl, Below.refl _ _⟩
      clear hX
      go_simp
      all_goals try go_bits
      all_goals try simp only [IntWalk.iteOmega]
      all_goals try go_bits
      all_goals rfl
    · refine step_intro rfl rfl fun ρ X hc hf hgl hX hp ho => ?_
      change StepOk _ { dst := _, op := Op.convert 23 9 (Operand.tmp 61), type := _, pos := _, after := _, guard := _ } _ _ _
      have k61 : ρ (.tmp 61) = ?v6 := hp 6 (by decide)
      clear hp ho
      have hr := run_string (P := Try.prog) (T := 23) (e := 5) (S := 9) rfl rfl rfl (Byt.grows HD4.out hX)
      refine StepOk.of_run (v := .string ⟨(C : List UInt8).toArray⟩) (w' := X) ?_ ⟨rfl, Below.refl _ _⟩
      simp only [execOp, k61, Sem.run_bind, hr, Result.andThen_ok, Sem.run_pure]
    · refine step_intro rfl rfl fun ρ X hc hf hgl hX hp ho => ?_
      change StepOk _ { dst := _, op := Op.binOp BinOp.eql 9 (Operand.tmp 60) (Operand.tmp 62) 9, type := _, pos := _, after := _, guard := _ } _ _ _
      have k60 : ρ (.tmp 60) = (.string ⟨(B : List UInt8).toArray⟩) := hp 5 (by decide)
      have k62 : ρ (.tmp 62) = (.string ⟨(C : List UInt8).toArray⟩) := hp 7 (by decide)
      clear hp ho
      refine StepOk.of_run (v := .bool bb) (w' := X) ?_ ⟨rfl, Below.refl _ _⟩
      clear hX
      have hbc := HBC.out
      simp [go_sem, execOp, k60, k62, hbc]
    · refine step_intro rfl rfl fun ρ X hc hf hgl hX hp ho => ?_
      change StepOk _ { dst := _, op := Op.load 25 (Operand.tmp 2), type := _, pos := _, after := _, guard := _ } _ _ _
      have k2 : ρ (.tmp 2) = .pointer (some ⟨q, 0, none⟩) := ho 2 (by decide)
      clear hp ho
      refine StepOk.of_run (v := .agg #[.int .i64 k, .int .u64 n, .slice a l.length cap]) (w' := X) ?_ ⟨rfl, Below.refl _ _⟩
      simp only [execOp, Instr.loadAt, Instr.sureAddr, k2, Sem.run_bind, Sem.run_pure, Result.andThen_ok, run_loadVar_row X _ 25 25 #[.int .i64 k, .int .u64 n, .slice a l.length cap] (0, 0) _ (hX.heap' HP4.out) Try.underlying25 rfl sizePg]
    · refine step_intro rfl rfl fun ρ X hc hf hgl hX hp ho => ?_
      change StepOk _ { dst := _, op := Op.load 25 (Operand.tmp 3), type := _, pos := _, after := _, guard := _ } _ _ _
      have k3 : ρ (.tmp 3) = .pointer (some ⟨q + 1, 0, none⟩) := ho 3 (by decide)
      clear hp ho
      refine StepOk.of_run (v := .agg #[.int .i64 k', .int .u64 n', .slice a' l'.length cap']) (w' := X) ?_ ⟨rfl, Below.refl _ _⟩
      simp only [execOp, Instr.loadAt, Instr.sureAddr, k3, Sem.run_bind, Sem.run_pure, Result.andThen_ok, run_loadVar_row X _ 25 25 #[.int .i64 k', .int .u64 n', .slice a' l'.length cap'] (0, 0) _ (hX.heap' HR4.out) Try.underlying25 rfl sizePg]
    · refine step_intro rfl rfl fun ρ X hc hf hgl hX hp ho => ?_
      change StepOk _ { dst := _, op := Op.call { callee := Callee.value (Operand.func 13), args := #[Operand.tmp 64, Operand.tmp 65], argTypes := #[25, 25] }, type := _, pos := _, after := _, guard := _ } _ _ _
      have k64 : ρ (.tmp 64) = (.agg #[.int .i64 k, .int .u64 n, .slice a l.length cap]) := hp 9 (by decide)
      have k65 : ρ (.tmp 65) = (.agg #[.int .i64 k', .int .u64 n', .slice a' l'.length cap']) := hp 10 (by decide)
      clear hp ho
      refine StepOk.of_call (f := 13) (args := #[(.agg #[.int .i64 k, .int .u64 n, .slice a l.length cap]), (.agg #[.int .i64 k', .int .u64 n', .slice a' l'.length cap'])]) (w' := X) ?_ (sameIs k k' n n' _ _ l l' X (HbP4.out.grows hX) (HbQ4.out.grows hX) bb Hbb.out) ?_
      · go_simp
        all_goals try go_bits
        all_goals try rfl
      · rintro e w'' ⟨rfl, hg'⟩; refine ⟨_, rfl, ?_, hg'⟩; show _ = ?v11; rfl
    · refine step_intro rfl rfl fun ρ X hc hf hgl hX hp ho => ?_
      change StepOk _ { dst := _, op := Op.binOp BinOp.eql 4 (Operand.tmp 63) (Operand.tmp 66) 4, type := _, pos := _, after := _, guard := _ } _ _ _
      have k63 : ρ (.tmp 63) = (.bool bb) := hp 8 (by decide)
      have k66 : ρ (.tmp 66) = ?v11 := hp 11 (by decide)
      clear hp ho
      refine StepOk.of_run (v := ?v12) (w' := X) ?_ ⟨rfl, Below.refl _ _⟩
      clear hX
      go_simp
      all_goals try go_bits
      all_goals try simp only [IntWalk.iteOmega]
      all_goals try go_bits
      all_goals rfl
    · refine step_intro rfl rfl fun ρ X hc hf hgl hX hp ho => ?_
      change StepOk _ { dst := _, op := Op.pick (Operand.tmp 58) (Operand.const (Value.bool true)) (Operand.tmp 67), type := _, pos := _, after := _, guard := _ } _ _ _
      have k58 : ρ (.tmp 58) = ?v3 := hp 3 (by decide)
      have k67 : ρ (.tmp 67) = ?v12 := hp 12 (by decide)
      clear hp ho
      refine StepOk.of_run (v := ?v13) (w' := X) ?_ ⟨rfl, Below.refl _ _⟩
      clear hX
      go_simp
      all_goals try go_bits
      all_goals try simp only [IntWalk.iteOmega]
      all_goals try go_bits
      all_goals rfl
    · refine step_intro rfl rfl fun ρ X hc hf hgl hX hp ho => ?_
      change StepOk _ { dst := _, op := Op.move (Operand.tmp 68), type := _, pos := _, after := _, guard := _ } _ _ _
      have k68 : ρ (.tmp 68) = ?v13 := hp 13 (by decide)
      clear hp ho
      refine StepOk.of_run (v := ?v14) (w' := X) ?_ ⟨rfl, Below.refl _ _⟩
      clear hX
      go_simp
      all_goals try go_bits
      all_goals try simp only [IntWalk.iteOmega]
      all_goals try go_bits
      all_goals rfl
    · refine step_intro rfl rfl fun ρ X hc hf hgl hX hp ho => ?_
      change StepOk _ { dst := _, op := Op.call { callee := Callee.value (Operand.func 6), args := #[], argTypes := #[] }, type := _, pos := _, after := _, guard := _ } _ _ _
      clear hp ho
      refine StepOk.of_call (f := 6) (args := #[]) (w' := X) ?_ (live_any X) ?_
      · go_simp
        all_goals try go_bits
        all_goals try rfl
      · rintro e w'' ⟨rfl, hg'⟩; refine ⟨_, rfl, ?_, hg'⟩; show _ = ?v15; rfl
    · refine step_intro rfl rfl fun ρ X hc hf hgl hX hp ho => ?_
      change StepOk _ { dst := _, op := Op.pick (Operand.tmp 69) (Operand.tmp 70) (Operand.const (Value.bool false)), type := _, pos := _, after := _, guard := _ } _ _ _
      have k69 : ρ (.tmp 69) = ?v14 := hp 14 (by decide)
      have k70 : ρ (.tmp 70) = ?v15 := hp 15 (by decide)
      clear hp ho
      refine StepOk.of_run (v := ?v16) (w' := X) ?_ ⟨rfl, Below.refl _ _⟩
      clear hX
      go_simp
      all_goals try go_bits
      all_goals try simp only [IntWalk.iteOmega]
      all_goals try go_bits
      all_goals rfl
    · refine step_intro rfl rfl fun ρ X hc hf hgl hX hp ho => ?_
      change StepOk _ { dst := _, op := Op.assign (Operand.tmp 71), type := _, pos := _, after := _, guard := _ } _ _ _
      have k71 : ρ (.tmp 71) = ?v16 := hp 16 (by decide)
      clear hp ho
      refine StepOk.of_run (v := ?v17) (w' := X) ?_ ⟨rfl, Below.refl _ _⟩
      clear hX
      go_simp
      all_goals try go_bits
      all_goals try simp only [IntWalk.iteOmega]
      all_goals try go_bits
      all_goals rfl
  case grd => rfl
  case rst =>
    intro a0 X hb
    have hfr := hb.frame ((4, ?v17) :: (55, ?v0) :: (56, ?v1) :: (57, ?v2) :: (58, ?v3) :: (59, ?v4) :: (60, (.string ⟨(B : List UInt8).toArray⟩)) :: (61, ?v6) :: (62, (.string ⟨(C : List UInt8).toArray⟩)) :: (63, (.bool bb)) :: (64, (.agg #[.int .i64 k, .int .u64 n, .slice a l.length cap])) :: (65, (.agg #[.int .i64 k', .int .u64 n', .slice a' l'.length cap'])) :: (66, ?v11) :: (67, ?v12) :: (68, ?v13) :: (69, ?v14) :: (70, ?v15) :: (71, ?v16) :: []) rfl ⟨hb.done' 17 4 rfl rfl, hb.done' 0 55 rfl rfl, hb.done' 1 56 rfl rfl, hb.done' 2 57 rfl rfl, hb.done' 3 58 rfl rfl, hb.done' 4 59 rfl rfl, hb.done' 5 60 rfl rfl, hb.done' 6 61 rfl rfl, hb.done' 7 62 rfl rfl, hb.done' 8 63 rfl rfl, hb.done' 9 64 rfl rfl, hb.done' 10 65 rfl rfl, hb.done' 11 66 rfl rfl, hb.done' 12 67 rfl rfl, hb.done' 13 68 rfl rfl, hb.done' 14 69 rfl rfl, hb.done' 15 70 rfl rfl, hb.done' 16 71 rfl rfl, trivial⟩
    simp only [updL, ↓reduceIte, Nat.reduceEqDiff, Nat.reduceAdd, Nat.zero_add] at hfr
    have HX := Lib.hid hb.ext
    clear hb
    subst hfr
    go_wp2
    go_ret
    exact ⟨rfl, Grows.trans' HG4.out HX.out⟩

theorem walkBack (k : Int) (n : Nat) (hn : n < 18446744073709551616) (u : Value) (l : List UInt8) (k' : Int) (n' : Nat) (hn' : n' < 18446744073709551616) (u' : Value) (l' : List UInt8) (w : World) (h : Byt w u l) (h' : Byt w u' l') :
    Calls Try.prog 4 #[pgv k n u, pgv k' n' u'] w fun e w' => e = .returned (.bool true) ∧ Grows w w' := by
  by_cases ho : 2000 < l.length ∨ 2000 < l'.length
  · exact walkBack_out k k' n n' u u' l l' w h h' ho
  · cases hf : fitsP ⟨k, n, l⟩ with
    | false => exact walkBack_no k k' n n' hn' u u' l l' w h h' (by omega) (by omega) hf
    | true =>
      cases hf' : fitsP ⟨k', n', l'⟩ with
      | false => exact walkBack_fno k k' n n' hn hn' u u' l l' w h h' (by omega) (by omega) hf hf'
      | true => exact walkBack_fyes k k' n n' hn hn' u u' l l' w h h' (by omega) (by omega) hf hf'
end Go.Proofs.Ytfgnniajancpcaa
