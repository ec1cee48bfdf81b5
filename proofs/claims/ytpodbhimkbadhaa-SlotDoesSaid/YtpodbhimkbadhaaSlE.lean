/-
  Contracts: New, Pack.
-/
import Derived.Test.YtpodbhimkbadhaaSlD
namespace Go.Proofs.Ytpodbhimkbadhaa
open Go.RowKit
set_option linter.unusedVariables false
set_option linter.unusedSimpArgs false

theorem bodySize : (Try.prog.info? 47).map (·.size) = some 243 := by kernel_rfl
theorem bodyZero : ((Try.prog.info? 47).bind (fun i => i.zero)).map (fun z => z.cells) = some ((rowOf zR 243).map bv).toArray := by kernel_rfl
theorem cellsB_size (f : Raw) : ((rowOf f 243).map bv).toArray.size = 243 := by simp [rowOf_length]
theorem cellsB_one (f : Raw) : ((rowOf f 243).map bv).toArray.all (·.oneCell') = true := by
  rw [Array.all_eq_true']
  intro x hx
  simp only [List.mem_toArray, List.mem_map] at hx
  obtain ⟨b, _, rfl⟩ := hx
  rfl
theorem wpList_loadB {w : World} {ops : Array Oper} {rest : List Oper} {o : Oper} {a : Act} {Q : Exit → Act → World → Prop} (hgd : o.guard = none) (x : Operand) (ho : o.op = .load 47 x)
    (g : Nat) (f : Raw) (hx : a.eval x = pb g) (hb : BodyAt w g f) (h : wpList Try.prog ops Q rest (a.put o.dst (.agg ((rowOf f 243).map bv).toArray)) w) : wpList Try.prog ops Q (o :: rest) a w := by
  refine wpList_plain hgd fun K hK => ?_
  unfold Oper.wp execOp
  have hl := run_loadVar_row (P := Try.prog) w g 47 47 _ (0, 0) _ hb Try.underlying47 rfl (by rw [bodySize, cellsB_size])
  unfold pb at hx
  simp only [ho, hx, Instr.loadAt, Instr.sureAddr, Sem.run_bind, Sem.run_pure, Result.andThen_ok, hl, Oper.upon]
  exact hK _ _ h
theorem alloc_body (w : World) (f : Raw) : BodyAt (w.alloc (.cells ((rowOf f 243).map bv).toArray 47)) w.heap.size f := heap_alloc_new _ _
theorem BodyAt.lift {W : World} {g : Nat} {f h : Raw} (hb : BodyAt W g f) : BodyAt (W.setRow g ((rowOf h 243).map bv).toArray) g h := by
  unfold BodyAt
  rw [setRow_heap W g _ _ _ _ hb]

theorem run_buildB (w : World) : (Instr.build 47 #[]).run Try.prog w = .ok (.agg ((rowOf zR 243).map bv).toArray) w := by
  have hz := bodyZero
  cases hi : Try.prog.info? 47 with
  | none => rw [hi] at hz; simp at hz
  | some i =>
    cases hzz : i.zero with
    | none => rw [hi] at hz; simp [hzz] at hz
    | some z =>
      rw [hi] at hz
      simp only [Option.bind_some, hzz, Option.map_some] at hz
      have hcz := Option.some.inj hz
      simp [Instr.build, zeroValue, typeInfo, hi, hzz, run_underlying Try.underlying47, Instr.fill, hcz]
theorem wpList_buildB {w : World} {ops : Array Oper} {rest : List Oper} {o : Oper} {a : Act} {Q : Exit → Act → World → Prop} (hgd : o.guard = none) (ho : o.op = .build 47 #[])
    (h : wpList Try.prog ops Q rest (a.put o.dst (.agg ((rowOf zR 243).map bv).toArray)) w) : wpList Try.prog ops Q (o :: rest) a w := by
  refine wpList_plain hgd fun K hK => ?_
  unfold Oper.wp execOp
  simp only [ho, Sem.run_bind, Sem.run_pure, Array.map_empty, List.map_toArray, List.map_nil, run_buildB w, Result.andThen_ok]
  exact hK _ _ h
theorem vNew (w : World) : Calls Try.prog 9 #[] w fun e w' => e = .returned (pb w.heap.size) ∧ BodyAt w' w.heap.size newR ∧ Grows w w' := by
  obtain ⟨W0, hW0⟩ : ∃ W0, w.alloc (.cells ((rowOf zR 243).map bv).toArray 47) = W0 := ⟨_, rfl⟩
  have h0 : BodyAt W0 w.heap.size zR := by rw [← hW0]; exact alloc_body _ _
  have HG : Hid (Grows w W0) := by show Grows _ _; rw [← hW0]; exact Grows.alloc' _ _
  obtain ⟨q, hq⟩ : ∃ q, w.heap.size = q := ⟨_, rfl⟩
  have HW := Lib.hid hW0
  rw [hq] at h0 ⊢
  have Hq := Lib.hid hq
  have c1 := h0.cell 1 (by omega)
  have f1 := h0.frozen 1
  have H1 := Lib.hid (h0.set 1 (by omega) 243 243 (by decide))
  clear h0 hW0 hq
  unfold pb
  go_enter Try.func9, Try.ntmps9
  go_wp2_with (first
    | (refine wpList_buildB rfl rfl ?_)
    | (refine wpList_boxT rfl 47 (.tmp 2) rfl _ rfl ?_; rw [HW.out, Hq.out]))
  go_ret
  exact ⟨rfl, H1.out, Below.setCell HG.out (p := ⟨q, 1, none⟩) (by rw [Hq.out]; exact Nat.le_refl _) _⟩
theorem wpList_storeB {w : World} {ops : Array Oper} {rest : List Oper} {o : Oper} {a : Act} {Q : Exit → Act → World → Prop} (hgd : o.guard = none) (x y : Operand) (ho : o.op = .store 47 x y)
    (q : Nat) (z f : Raw) (hx : a.eval x = pb q) (hy : a.eval y = .agg ((rowOf f 243).map bv).toArray) (hb : BodyAt w q z)
    (h : ∀ w', BodyAt w' q f → But (At q) w w' → wpList Try.prog ops Q rest (a.put o.dst undef) w') : wpList Try.prog ops Q (o :: rest) a w :=
  wpList_storeT hgd 47 x y ho q 47 _ _ hx hy hb (by rw [bodySize, cellsB_size]) (by rw [cellsB_size, cellsB_size]) (cellsB_one f) (h _ hb.lift (But.setRow (But.refl' _ _) _ _ rfl))
theorem wpList_allocB {w : World} {ops : Array Oper} {rest : List Oper} {o : Oper} {a : Act} {Q : Exit → Act → World → Prop} (hgd : o.guard = none) (ho : o.op = .alloc 47)
    (h : ∀ w', BodyAt w' w.heap.size zR → Grows w w' → wpList Try.prog ops Q rest (a.put o.dst (pb w.heap.size)) w') : wpList Try.prog ops Q (o :: rest) a w :=
  wpList_allocT hgd 47 ho _ bodyZero (h _ (alloc_body _ _) (Grows.alloc' _ _))
theorem but_new {w w1 w' : World} {q : Nat} (hg : Grows w w1) (h : But (At q) w1 w') (hq : w.heap.size ≤ q) : Grows w w' := Below.trans hg (h.below hg.size (fun k hk => by rw [hk]; exact hq))
theorem cellv_outside {g q : Nat} (h : q ≠ g) (c : Cl) : Outside (At g) (cellv q c) := by
  intro b o sp n cp e _ hb
  simp only [cellv, slv, Value.slice.injEq, Option.some.injEq, Addr.mk.injEq] at e
  exact h (e.1.1.trans hb)
set_option maxRecDepth 100000 in
set_option maxHeartbeats 2000000 in
theorem hPack {w : World} {g : Nat} {f : Raw} {A : Bo} (h : Has w g f A) : Calls Try.prog 16 #[pb g] w fun e w' => e = .returned (.tuple #[]) ∧ (∃ f', Has w' g f' (packA A)) ∧ But (At g) w w' := by
  have Hh := Lib.hid h
  obtain ⟨q, Hq⟩ : ∃ q, Hid (w.heap.size = q) := ⟨_, rfl⟩
  have Hne : Hid (q ≠ g) := by have := h.at_.lt; have := Hq.out; show q ≠ g; omega
  obtain ⟨n, Hn⟩ : ∃ n, Hid (A.l.length = n) := ⟨_, rfl⟩
  have hn : n ≤ 120 := by rw [← Hn.out]; exact h.wf.ntop.1
  clear h
  have HP := Lib.hid (rfl : pb g = .pointer (some ⟨g, 0, none⟩))
  unfold pb at *
  go_enter Try.func16, Try.ntmps16
  go_wp2_with (first
    | (refine wpList_loadB rfl (.tmp 7) rfl g f rfl Hh.out.at_ ?_)
    | (refine wpList_allocB rfl rfl ?_; intro w1 hb1 hg1; rw [Hq.out] at hb1 ⊢; have Hg1 := Lib.hid hg1; have Hb1 := Lib.hid hb1; clear hg1 hb1)
    | (refine wpList_storeB rfl (.tmp 2) (.tmp 8) rfl q zR f rfl rfl Hb1.out ?_; intro w2 hb2 hu2; have Hg2 := Lib.hid (but_new Hg1.out hu2 (by rw [Hq.out]; exact Nat.le_refl _)); have Hb2 := Lib.hid hb2; have h2 := (Hh.out.grows Hg2.out).at_; have c1 := h2.cell 1 (by omega); have f1 := h2.frozen 1; clear hb2 hu2 h2 Hb1))
  have Hb3 := Lib.hid ((Hh.out.grows Hg2.out).at_.set 1 (by omega) 243 243 (by decide))
  have Hq3 := Lib.hid (Hb2.out.but (But.setCell (But.refl' (At g) w2) ⟨g, 1, none⟩ (.int .u8 243) rfl) Hne.out)
  have Hu3 := Lib.hid (But.setCell (But.ofGrows (O := At g) Hg2.out) ⟨g, 1, none⟩ (.int .u8 243) rfl)
  obtain ⟨w3, hw3⟩ : ∃ w3, w2.setCell ⟨g, 1, none⟩ (.int .u8 243) = w3 := ⟨_, rfl⟩
  rw [hw3] at Hb3 Hq3 Hu3 ⊢
  generalize (Value.agg ((rowOf f 243).map bv).toArray) = V8
  clear c1 f1 hw3 Hb2 Hg2 Hg1
  refine (vLen w3 g _ Hb3.out n (by rw [← Hn.out, ← Hh.out.enc.n]; rfl)).mono ?_
  rintro e w4 ⟨rfl, rfl⟩
  go_wp2
  go_loopw [15] (fun t15 wr => ∃ (k : Nat) (h : Raw), k ≤ n ∧ t15 = .int .i64 k ∧ Hid (BodyAt wr g h) ∧ Hid (BodyAt wr q f) ∧ Hid (PkI h A k) ∧ Hid (But (At g) w wr)) (fun t15 _ => n - (intOf t15).toNat)
  case atStart => exact ⟨0, _, by omega, rfl, Hb3, Hq3, Lib.hid (pk_zero Hh.out.enc), Hu3⟩
  case round =>
    obtain ⟨k, h, hk, rfl, Hb, Hq, Hp, Hu⟩ := hrel
    by_cases hlt : k < n
    · have hlt' : (k : Int) < (n : Int) := by omega
      have HA : Hid (Has wr q f A) := ⟨Hq.out, Hh.out.enc, Hh.out.wf⟩
      have Hkn : Hid (k < A.l.length) := by show _ < _; rw [Hn.out]; exact hlt
      have HL := Lib.hid (hLying HA.out k Hkn.out)
      have Hs : Hid (sumL (A.l.take k) + (cl A.l k).p.length + 2 + 2 * n ≤ 243) := by
        show _ ≤ _
        have h1 := sum_succ A.l k Hkn.out
        have h2 := sum_take_le A.l (k + 1)
        have h3 := Hh.out.wf.dir
        have h4 := Hh.out.wf.sum
        have := Hn.out
        omega
      unfold pb at HL
      unfold pb
      go_wp2_with fail
      refine HL.out.mono ?_
      rintro e w5 ⟨rfl, hg5⟩
      have HY := Lib.hid (vLay w5 g h (Hb.out.grows hg5) k (by have := Hs.out; omega) (cellv q (cl A.l k)) (cl A.l k).p ((HA.out.grows hg5).cellv k Hkn.out) (cellv_outside Hne.out _) (by rw [Hp.out.top]; omega) (by rw [Hp.out.top]; have := Hs.out; omega) (Hh.out.wf.len k Hkn.out))
      have Hg5 := Lib.hid hg5
      clear hg5
      unfold pb at HY
      go_wp2_with fail
      refine HY.out.mono ?_
      rintro e w6 ⟨rfl, hb6, hu6⟩
      have Hb6 := Lib.hid hb6
      have Hu6 := Lib.hid hu6
      clear hb6 hu6
      go_wp2
      go_roundw
      case rel =>
        exact ⟨k + 1, _, by omega, by simp, Hb6, Lib.hid ((Hq.out.grows Hg5.out).but Hu6.out Hne.out), Lib.hid (pk_succ Hp.out Hh.out.wf Hkn.out), Lib.hid ((Hu.out.trans' (But.ofGrows Hg5.out)).trans' Hu6.out)⟩
      case measure => simp [intOf]; omega
    · obtain rfl : k = n := by omega
      go_wp2
      go_end0
      have hp := Hp.out
      rw [← Hn.out] at hp
      exact ⟨rfl, ⟨_, ⟨Hb.out, pk_done hp, wf_pack Hh.out.wf⟩⟩, Hu.out⟩
end Go.Proofs.Ytpodbhimkbadhaa
