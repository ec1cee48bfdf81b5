/-
  The walk of SlotList.
-/
import Derived.Test.YtpodbhimkbadhaaSlS0
import Derived.Test.YtpodbhimkbadhaaKitL
namespace Go.Proofs.Ytpodbhimkbadhaa
open Go.RowKit
set_option linter.unusedVariables false
set_option linter.unusedSimpArgs false

/-- A deed's variable. -/
def DeedAt (W : World) (q : Nat) (k i : Int) (u : Value) : Prop := W.heap[q]? = some (.cells #[.int .i64 k, .int .i64 i, u] 32 (0, 0))
theorem DeedAt.cells {W : World} {q : Nat} {k i : Int} {u : Value} (h : DeedAt W q k i u) : W.cell? ⟨q, 0, none⟩ = some (.int .i64 k) ∧ W.cell? ⟨q, 1, none⟩ = some (.int .i64 i) ∧ W.cell? ⟨q, 2, none⟩ = some u :=
  ⟨by rw [cell_of_row W q 0 _ _ (0, 0) h]; rfl, by rw [cell_of_row W q 1 _ _ (0, 0) h]; rfl, by rw [cell_of_row W q 2 _ _ (0, 0) h]; rfl⟩
theorem deedZero : ((Try.prog.info? 32).bind (fun i => i.zero)).map (fun z => z.cells) = some #[.int .i64 0, .int .i64 0, .slice none 0 0] := by kernel_rfl
theorem deedSize : (Try.prog.info? 32).map (·.size) = some 3 := by kernel_rfl
theorem wpList_allocD {w : World} {ops : Array Oper} {rest : List Oper} {o : Oper} {a : Act} {Q : Exit → Act → World → Prop} (hgd : o.guard = none) (ho : o.op = .alloc 32)
    (h : ∀ w', DeedAt w' w.heap.size 0 0 (.slice none 0 0) → Grows w w' → wpList Try.prog ops Q rest (a.put o.dst (.pointer (some ⟨w.heap.size, 0, none⟩))) w') : wpList Try.prog ops Q (o :: rest) a w :=
  wpList_allocT hgd 32 ho _ deedZero (h _ (heap_alloc_new _ _) (Grows.alloc' _ _))
theorem wpList_storeD {w : World} {ops : Array Oper} {rest : List Oper} {o : Oper} {a : Act} {Q : Exit → Act → World → Prop} (hgd : o.guard = none) (x y : Operand) (ho : o.op = .store 32 x y)
    (q : Nat) (k i : Int) (pa : Option Addr) (m pc : Nat) (hx : a.eval x = .pointer (some ⟨q, 0, none⟩)) (hy : a.eval y = .agg #[.int .i64 k, .int .i64 i, .slice pa m pc]) (k0 i0 : Int) (u0 : Value) (hb : DeedAt w q k0 i0 u0)
    (h : ∀ w', DeedAt w' q k i (.slice pa m pc) → But (At q) w w' → wpList Try.prog ops Q rest (a.put o.dst undef) w') : wpList Try.prog ops Q (o :: rest) a w :=
  wpList_storeT hgd 32 x y ho q 32 _ _ hx hy hb (by rw [deedSize]; rfl) rfl (by simp [Value.oneCell']) (h _ (setRow_heap _ _ _ _ _ _ hb) (But.setRow (But.refl' _ _) _ _ rfl))
theorem own_at {W W' : World} {g : Nat} {f : Raw} {B k n : Nat} {v : Value} {xs : List Value} (h : W.ownsRow B 9 k v n xs) (hb : BodyAt W g f) (hu : But (At g) W W') : W'.ownsRow B 9 k v n xs :=
  own_but h hu (fun j hj e => own_ne h hb (by decide) (by rw [hj, e]))
theorem sv_one (l : List (List UInt8)) : ∀ u ∈ l.map sv, u.oneCell' = true := by
  intro u hu
  obtain ⟨c, _, rfl⟩ := List.mem_map.1 hu
  rfl
theorem byt_outO {w : World} {v : Value} {l : List UInt8} (h : Byt w v l) : Outside (fun b => w.heap.size ≤ b) v := by
  intro b o sp n c e hn hb
  obtain ⟨a, cap, rfl, _, _, _, h4⟩ := h
  simp only [Value.slice.injEq] at e
  obtain ⟨rfl, rfl, rfl⟩ := e
  rcases h4 with h4 | ⟨b', off, e, hc⟩
  · rw [h4] at hn; exact hn rfl
  · simp only [Option.some.injEq, Addr.mk.injEq] at e
    have := World.block_lt_of_cell? _ _ (hc 0 (by omega))
    simp at this
    omega
theorem own_prefix {w : World} {e k n cap i : Nat} {a : Option Addr} {xs : List Value} (h : w.ownsRow 0 e k (.slice a n cap) n xs) (hi : i ≤ n) : w.ownsRow 0 e k (sliced a 0 i cap k) i (xs.take (i * k)) := by
  rcases h.2 with ⟨e1, h0⟩ | ⟨g, cap', cur, e1, hb, hg, hnc, hcm, hcs, htake⟩
  · simp only [Value.slice.injEq] at e1
    obtain ⟨rfl, rfl, rfl⟩ := e1
    obtain rfl : i = 0 := by omega
    exact ⟨by simp, .inl ⟨rfl, rfl⟩⟩
  · simp only [Value.slice.injEq, true_and] at e1
    obtain ⟨rfl, rfl⟩ := e1
    have hik : i * k ≤ n * k := Nat.mul_le_mul_right k hi
    refine ⟨by rw [List.length_take, h.1]; omega, .inr ⟨g, cap, cur, ?_, hb, hg, by omega, hcm, hcs, ?_⟩⟩
    · unfold sliced
      by_cases h0 : cap = 0
      · rw [if_pos h0]; simp
      · rw [if_neg h0]; simp [Addr.add]
    · rw [← htake, List.take_take, Nat.min_eq_left hik]

set_option maxRecDepth 100000 in
set_option maxHeartbeats 4000000 in
theorem walkList (v : Value) (l : List De) (w : World) (hl : DeS w v l) : Calls Try.prog 4 #[v] w fun e w' => e = .returned (.bool true) ∧ Grows w w' := by
  have hmx : Try.prog.follows .mixedOrders = true := by kernel_rfl
  obtain ⟨is, his, hzs0, hzs1, hzs2⟩ := info_parts infoStr
  have HSm := Lib.hid (vSmall w v l hl)
  have HLv := Lib.hid (fun w => vLive w)
  obtain ⟨⟨a, cap, rfl, hm, hc⟩, ho⟩ := hl
  obtain ⟨N, HN⟩ : ∃ N, Hid (l.length = N) := ⟨_, rfl⟩
  rw [HN.out] at hm hc HSm ⊢
  have Hc := Lib.hid hc
  have Ho := Lib.hid ho
  have hmI : (N : Int) ≤ 9223372036854775807 := by unfold maxLen at hm; omega
  clear hc ho hm
  go_enter Try.func4, Try.ntmps4
  go_wp2_with fail
  refine HSm.out.mono ?_
  rintro e w1 ⟨⟨b, rfl, hb⟩, rfl⟩
  cases b with
  | false =>
    go_wp2_with (go_at_call 8; refine (HLv.out _).mono ?_; rintro e w2 ⟨rfl, hg⟩)
    go_ret
    exact ⟨rfl, hg⟩
  | true =>
    have HS : Hid (Sm l) := hb.1 rfl
    have hN : N ≤ 120 := by have := HS.out.1; rw [HN.out] at this; exact this
    clear hb hmI
    obtain ⟨g, Hg⟩ : ∃ g, Hid (w.heap.size = g) := ⟨_, rfl⟩
    have HNw := Lib.hid (vNew w)
    rw [Hg.out] at HNw
    unfold pb at HNw
    go_wp2_with (go_at_call 9; refine HNw.out.mono ?_; rintro e w1 ⟨rfl, hb1, hg1⟩)
    have Hh1 : Hid (Has w1 g newR newA) := ⟨hb1, enc_new, wf_new⟩
    have Hg1 := Lib.hid hg1
    clear hb1 hg1
    go_loopw [4, 5, 6] (fun t4 t5 t6 wr => ∃ (k : Nat) (f : Raw) (A : Bo) (la : Option Addr) (lc : Nat), k ≤ N ∧ t6 = .int .i64 k ∧ t5 = .int .i64 (freeA A : Int) ∧ t4 = .slice la A.l.length lc ∧ Hid (wr.ownsRow 0 9 1 (.slice la A.l.length lc) A.l.length ((ps A).map sv)) ∧ Hid (Has wr g f A) ∧ Hid (Grows w wr)) (fun _ _ t6 _ => N - (intOf t6).toNat)
    case atStart => exact ⟨0, _, newA, none, 0, by omega, rfl, rfl, rfl, Lib.hid (World.ownsRow_nil _ _ _ _), Hh1, Hg1⟩
    case round =>
      obtain ⟨k, f, A, la, lc, hk, rfl, rfl, rfl, HO, Hh, Hgr⟩ := hrel
      by_cases hlt : k < N
      · have hlt' : (k : Int) < (N : Int) := by omega
        obtain ⟨b, off, rfl, hcl⟩ := Hc.out.resolve_left (by rintro rfl; have := HN.out; simp at this; omega)
        have hd := Ho.out k
        obtain ⟨c0, c1, c2⟩ := hcl k hlt
        have Hout := Lib.hid (byt_out (g := g) hd.p (by rw [Hg.out]; exact Nat.le_refl _))
        obtain ⟨kd, Hkd⟩ : ∃ kd, Hid ((dx l k).k = kd) := ⟨_, rfl⟩
        obtain ⟨i, Hi⟩ : ∃ i, Hid ((dx l k).i = i) := ⟨_, rfl⟩
        obtain ⟨p, Hp⟩ : ∃ p, Hid ((dx l k).p = p) := ⟨_, rfl⟩
        have hir : -9223372036854775808 ≤ i ∧ i ≤ 9223372036854775807 := by rw [← Hi.out]; exact hd.i
        have Hbp := Lib.hid (hd.p.grows Hgr.out)
        obtain ⟨pa, pc, hpv⟩ := hd.p.slice
        have hm2000 := HS.out.2 k
        rw [hpv] at c2 Hout Hbp
        rw [Hp.out] at c2 Hout Hbp hm2000
        obtain ⟨m, Hm⟩ : ∃ m, Hid (p.length = m) := ⟨_, rfl⟩
        rw [Hm.out] at c2 Hout Hbp hm2000
        rw [Hkd.out] at c0
        rw [Hi.out] at c1
        have c0 := Grows.cell' Hgr.out c0
        have c1 := Grows.cell' Hgr.out c1
        have c2 := Grows.cell' Hgr.out c2
        have HCd : Hid (∀ j v, [Value.int .i64 kd, .int .i64 i, .slice pa m pc][j]? = some v → wr.cell? ((⟨b, off + k * 3, none⟩ : Addr).add j) = some v) := by
          show ∀ _, _
          intro j v hj
          rw [Addr.add_lit]
          match j, hj with
          | 0, hj => simp at hj; subst hj; exact c0
          | 1, hj => simp at hj; subst hj; exact c1
          | 2, hj => simp at hj; subst hj; exact c2
          | j + 3, hj => simp at hj
        clear hcl hd hpv HCd
        obtain ⟨n, Hn⟩ : ∃ n, Hid (A.l.length = n) := ⟨_, rfl⟩
        obtain ⟨r, Hr⟩ : ∃ r, Hid (freeA A = r) := ⟨_, rfl⟩
        obtain ⟨xs, Hxs⟩ : ∃ xs, Hid ((ps A).map sv = xs) := ⟨_, rfl⟩
        have hn120 : n ≤ 120 := by rw [← Hn.out]; exact Hh.out.wf.ntop.1
        have hr241 : r ≤ 241 := by rw [← Hr.out]; unfold freeA; omega
        have Hxl : Hid (xs.length = n) := by show _ = _; rw [← Hxs.out, ← Hn.out, List.length_map, ps_len]
        have Hone : Hid (∀ u ∈ xs, u.oneCell' = true) := by show ∀ _, _; rw [← Hxs.out]; exact sv_one _
        rw [Hn.out, Hxs.out] at HO
        rw [Hn.out, Hr.out]
        obtain ⟨rb, Hrb⟩ : ∃ rb, Hid (wr.heap.size = rb) := ⟨_, rfl⟩
        have Hrg : Hid (rb ≠ g) := by have := Hh.out.at_.lt; have := Hrb.out; show rb ≠ g; omega
        by_cases h0 : kd = 0
        · subst h0
          by_cases hi0 : i < 0
          · have hi0' : ¬ 0 ≤ i := by omega
            go_wp2_with (first
              | (refine wpList_allocD rfl rfl ?_; intro wa hba hga; rw [Hrb.out] at hba ⊢; have Hba := Lib.hid hba; have Hga := Lib.hid hga; clear hba hga)
              | (refine wpList_storeD rfl (.tmp 7) (.tmp 26) rfl rb _ _ pa m pc rfl rfl 0 0 (.slice none 0 0) Hba.out ?_; intro w2 hb2 hu2; have Hb2 := Lib.hid hb2; have Hg2 := Lib.hid (but_new Hga.out hu2 (by rw [Hrb.out]; exact Nat.le_refl _)); clear hb2 hu2 Hba c0 c1 c2; obtain ⟨d0, d1, d2⟩ := Hb2.out.cells))
            have Hh2 := Lib.hid (Hh.out.grows Hg2.out)
            have HO2 := Lib.hid (own_grows HO.out Hg2.out)
            have Hbp2 := Lib.hid (Hbp.out.grows Hg2.out)
            have HgT := Lib.hid (Grows.trans' Hgr.out Hg2.out)
            have HO2b : Hid (w2.ownsRow 0 9 1 (.slice la n lc) n ((ps A).map sv)) := by rw [Hxs.out]; exact HO2
            clear d0 d1 d2
            have HLg : Hid (∀ Y, Grows w2 Y → Calls Try.prog 18 #[pb g] Y fun e w' => e = .returned (.int .i64 (n : Int)) ∧ Y = w') := Lib.hid (fun Y hX => by rw [← Hn.out]; exact hLen (Hh2.out.grows hX))
            have HFg : Hid (∀ Y, Grows w2 Y → Calls Try.prog 19 #[pb g] Y fun e w' => e = .returned (.int .i64 (r : Int)) ∧ Grows Y w') := Lib.hid (fun Y hX => by rw [← Hr.out]; exact hFree (Hh2.out.grows hX))
            unfold pb at HLg HFg
            refine (HLg.out _ (Below.refl _ _)).mono ?_
            rintro e w7 ⟨rfl, rfl⟩
            go_wp2_with (go_at_call 19; refine (HFg.out _ (Below.refl _ _)).mono ?_; rintro e w8 ⟨rfl, hg8⟩; have Hg8 := Lib.hid hg8; clear hg8)
            go_loopw [9] (fun t9 wq => ∃ j : Nat, j ≤ n ∧ t9 = .int .i64 j ∧ Hid (Grows w2 wq)) (fun t9 _ => n - (intOf t9).toNat)
            case atStart => exact ⟨0, by omega, rfl, Hg8⟩
            case round =>
              obtain ⟨j, hj, rfl, Hgj⟩ := hrel
              by_cases hjl : j < n
              · have hjl' : (j : Int) < (n : Int) := by omega
                have HOj := own_grows HO2b.out Hgj.out
                obtain ⟨gl, rfl⟩ := own_some' HOj (by omega)
                obtain ⟨c, Hcc⟩ : ∃ c, Hid ((cl A.l j).p = c) := ⟨_, rfl⟩
                have cj := own_cell HOj j (.string ⟨c.toArray⟩) (by rw [List.getElem?_map, ps_get _ j (by rw [Hn.out]; exact hjl), ← Hcc.out]; rfl)
                have HCg : Hid (∀ X, Grows wr X → Calls Try.prog 20 #[pb g, .int .i64 (j : Int)] X fun e w' => ∃ v, e = .returned v ∧ Byt w' v c ∧ Grows X w') := Lib.hid (fun X hX => hCellB (Hh2.out.grows (Grows.trans' Hgj.out hX)) j (by rw [Hn.out]; exact hjl) c Hcc.out)
                unfold pb at HCg
                clear HOj
                go_wp2
                refine specs_region
                  #[[], [], [0, 1], [0, 1, 2], [], [], [4, 5], [4, 5, 6], [0, 1, 2, 3, 4, 5, 6, 7]] #[[3], [9], [], [], [4], [9], [], [], []] #[true, true, true, true, true, true, true, true, true]
                  ((.val ?vpad0) :: (.val ?vpad1) :: (.byt (c)) :: (.val (.string ⟨(c : List UInt8).toArray⟩)) :: (.val ?vpad4) :: (.val ?vpad5) :: (.val ?vpad6) :: (.val ?vpad7) :: (.val ?vpad8) :: []).toArray
                  hmx ?chkpad ?grdpad ?stppad ?rstpad
                case chkpad => rfl
                case stppad =>
                  refine ⟨?_, ?_, ?_, ?_, ?_, ?_, ?_, ?_, ?_, trivial⟩
                  · refine step_intro rfl rfl fun ρ X hc hf hgl hX hp ho => ?_
                    change StepOk _ { dst := _, op := Op.move (Operand.tmp 3), type := _, pos := _, after := _, guard := _ } _ _ _
                    have k3 : ρ (.tmp 3) = .pointer (some ⟨g, 0, none⟩) := ho 3 (by decide)
                    clear hp ho
                    refine StepOk.of_run (v := ?vpad0) (w' := X) ?_ ⟨rfl, Below.refl _ _⟩
                    clear hX
                    go_simp
                    all_goals try go_bits
                    all_goals try simp only [IntWalk.iteOmega]
                    all_goals try go_bits
                    all_goals rfl
                  · refine step_intro rfl rfl fun ρ X hc hf hgl hX hp ho => ?_
                    change StepOk _ { dst := _, op := Op.move (Operand.tmp 9), type := _, pos := _, after := _, guard := _ } _ _ _
                    have k9 : ρ (.tmp 9) = .int .i64 (j : Int) := ho 9 (by decide)
                    clear hp ho
                    refine StepOk.of_run (v := ?vpad1) (w' := X) ?_ ⟨rfl, Below.refl _ _⟩
                    clear hX
                    go_simp
                    all_goals try go_bits
                    all_goals try simp only [IntWalk.iteOmega]
                    all_goals try go_bits
                    all_goals rfl
                  · refine step_intro rfl rfl fun ρ X hc hf hgl hX hp ho => ?_
                    change StepOk _ { dst := _, op := Op.call { callee := Callee.value (Operand.func 20), args := #[Operand.tmp 157, Operand.tmp 158], argTypes := #[25, 3] }, type := _, pos := _, after := _, guard := _ } _ _ _
                    have k157 : ρ (.tmp 157) = ?vpad0 := hp 0 (by decide)
                    have k158 : ρ (.tmp 158) = ?vpad1 := hp 1 (by decide)
                    clear hp ho
                    refine StepOk.of_call (f := 20) (args := #[.pointer (some ⟨g, 0, none⟩), .int .i64 (j : Int)]) (w' := X) ?_ (HCg.out X hX) ?_
                    · go_simp
                      all_goals try rfl
                    · rintro e w'' ⟨v, rfl, hb', hg'⟩; exact ⟨v, rfl, hb', hg'⟩
                  · refine step_intro rfl rfl fun ρ X hc hf hgl hX hp ho => ?_
                    change StepOk _ { dst := _, op := Op.convert 30 9 (Operand.tmp 159), type := _, pos := _, after := _, guard := _ } _ _ _
                    have k159 := hp 2 (by decide)
                    clear hp ho
                    have hr := run_string (P := Try.prog) (T := 30) (e := 5) (S := 9) rfl rfl rfl k159
                    refine StepOk.of_run (v := .string ⟨(c : List UInt8).toArray⟩) (w' := X) ?_ ⟨rfl, Below.refl _ _⟩
                    simp only [execOp, Sem.run_bind, hr, Result.andThen_ok, Sem.run_pure]
                  · refine step_intro rfl rfl fun ρ X hc hf hgl hX hp ho => ?_
                    change StepOk _ { dst := _, op := Op.move (Operand.tmp 4), type := _, pos := _, after := _, guard := _ } _ _ _
                    have k4 : ρ (.tmp 4) = .slice (some ⟨gl, 0, none⟩) n lc := ho 4 (by decide)
                    clear hp ho
                    refine StepOk.of_run (v := ?vpad4) (w' := X) ?_ ⟨rfl, Below.refl _ _⟩
                    clear hX
                    go_simp
                    all_goals try go_bits
                    all_goals try simp only [IntWalk.iteOmega]
                    all_goals try go_bits
                    all_goals rfl
                  · refine step_intro rfl rfl fun ρ X hc hf hgl hX hp ho => ?_
                    change StepOk _ { dst := _, op := Op.move (Operand.tmp 9), type := _, pos := _, after := _, guard := _ } _ _ _
                    have k9 : ρ (.tmp 9) = .int .i64 (j : Int) := ho 9 (by decide)
                    clear hp ho
                    refine StepOk.of_run (v := ?vpad5) (w' := X) ?_ ⟨rfl, Below.refl _ _⟩
                    clear hX
                    go_simp
                    all_goals try go_bits
                    all_goals try simp only [IntWalk.iteOmega]
                    all_goals try go_bits
                    all_goals rfl
                  · refine step_intro rfl rfl fun ρ X hc hf hgl hX hp ho => ?_
                    change StepOk _ { dst := _, op := Op.indexAddr 34 (Operand.tmp 161) (Operand.tmp 162), type := _, pos := _, after := _, guard := _ } _ _ _
                    have k161 : ρ (.tmp 161) = ?vpad4 := hp 4 (by decide)
                    have k162 : ρ (.tmp 162) = ?vpad5 := hp 5 (by decide)
                    clear hp ho
                    refine StepOk.of_run (v := ?vpad6) (w' := X) ?_ ⟨rfl, Below.refl _ _⟩
                    clear hX
                    go_simp
                    all_goals try go_bits
                    all_goals try simp only [IntWalk.iteOmega]
                    all_goals try go_bits
                    all_goals rfl
                  · refine step_intro rfl rfl fun ρ X hc hf hgl hX hp ho => ?_
                    change StepOk _ { dst := _, op := Op.load 9 (Operand.tmp 163), type := _, pos := _, after := _, guard := _ } _ _ _
                    have k163 : ρ (.tmp 163) = ?vpad6 := hp 6 (by decide)
                    have cjX := Grows.cell' hX cj
                    clear hp ho
                    refine StepOk.of_run (v := ?vpad7) (w' := X) ?_ ⟨rfl, Below.refl _ _⟩
                    clear hX
                    go_simp
                    all_goals try go_bits
                    all_goals try simp only [IntWalk.iteOmega]
                    all_goals try go_bits
                    all_goals rfl
                  · refine step_intro rfl rfl fun ρ X hc hf hgl hX hp ho => ?_
                    change StepOk _ { dst := _, op := Op.binOp BinOp.neq 9 (Operand.tmp 160) (Operand.tmp 164) 9, type := _, pos := _, after := _, guard := _ } _ _ _
                    have k160 : ρ (.tmp 160) = (.string ⟨(c : List UInt8).toArray⟩) := hp 3 (by decide)
                    have k164 : ρ (.tmp 164) = ?vpad7 := hp 7 (by decide)
                    clear hp ho
                    refine StepOk.of_run (v := ?vpad8) (w' := X) ?_ ⟨rfl, Below.refl _ _⟩
                    clear hX
                    go_simp
                    all_goals try go_bits
                    all_goals try simp only [IntWalk.iteOmega]
                    all_goals try go_bits
                    all_goals rfl
                case grdpad => rfl
                case rstpad =>
                  intro a0 X hb
                  obtain ⟨x159, hx159⟩ : ∃ x, a0.tmps.getD 159 undef = x := ⟨_, rfl⟩
                  have p159 := hb.done' 2 159 rfl rfl
                  rw [hx159] at p159
                  have hfr := hb.frame ((157, ?vpad0) :: (158, ?vpad1) :: (159, x159) :: (160, (.string ⟨(c : List UInt8).toArray⟩)) :: (161, ?vpad4) :: (162, ?vpad5) :: (163, ?vpad6) :: (164, ?vpad7) :: (165, ?vpad8) :: []) rfl ⟨hb.done' 0 157 rfl rfl, hb.done' 1 158 rfl rfl, hx159, hb.done' 3 160 rfl rfl, hb.done' 4 161 rfl rfl, hb.done' 5 162 rfl rfl, hb.done' 6 163 rfl rfl, hb.done' 7 164 rfl rfl, hb.done' 8 165 rfl rfl, trivial⟩
                  simp only [updL, ↓reduceIte, Nat.reduceEqDiff, Nat.reduceAdd, Nat.zero_add] at hfr
                  have HX := Lib.hid hb.ext
                  clear hb
                  subst hfr
                  have HgX := Lib.hid (Grows.trans' Hgj.out HX.out)
                  clear cj
                  go_wp2
                  go_roundw
                  case rel => exact ⟨j + 1, by omega, by simp, HgX⟩
                  case measure => simp [intOf]; omega
              · have hjl' : ¬ (j : Int) < (n : Int) := by omega
                go_wp2
                go_roundw
                case rel => exact ⟨k + 1, f, A, la, lc, by omega, by simp, by rw [Hr.out], by rw [Hn.out], by rw [Hn.out]; exact Lib.hid (own_grows HO2b.out Hgj.out), Lib.hid (Hh2.out.grows Hgj.out), Lib.hid (Grows.trans' HgT.out Hgj.out)⟩
                case measure => simp [intOf]; omega
          · obtain ⟨ii, rfl⟩ := Int.eq_ofNat_of_zero_le (show 0 ≤ i by omega)
            by_cases hin : n < ii
            · have hin' : ¬ (ii : Int) ≤ (n : Int) := by omega
              go_wp2_with (first
                | (refine wpList_allocD rfl rfl ?_; intro wa hba hga; rw [Hrb.out] at hba ⊢; have Hba := Lib.hid hba; have Hga := Lib.hid hga; clear hba hga)
                | (refine wpList_storeD rfl (.tmp 7) (.tmp 26) rfl rb _ _ pa m pc rfl rfl 0 0 (.slice none 0 0) Hba.out ?_; intro w2 hb2 hu2; have Hb2 := Lib.hid hb2; have Hg2 := Lib.hid (but_new Hga.out hu2 (by rw [Hrb.out]; exact Nat.le_refl _)); clear hb2 hu2 Hba c0 c1 c2; obtain ⟨d0, d1, d2⟩ := Hb2.out.cells))
              have Hh2 := Lib.hid (Hh.out.grows Hg2.out)
              have HO2 := Lib.hid (own_grows HO.out Hg2.out)
              have Hbp2 := Lib.hid (Hbp.out.grows Hg2.out)
              have HgT := Lib.hid (Grows.trans' Hgr.out Hg2.out)
              have HO2b : Hid (w2.ownsRow 0 9 1 (.slice la n lc) n ((ps A).map sv)) := by rw [Hxs.out]; exact HO2
              clear d0 d1 d2
              have HLg : Hid (∀ Y, Grows w2 Y → Calls Try.prog 18 #[pb g] Y fun e w' => e = .returned (.int .i64 (n : Int)) ∧ Y = w') := Lib.hid (fun Y hX => by rw [← Hn.out]; exact hLen (Hh2.out.grows hX))
              have HFg : Hid (∀ Y, Grows w2 Y → Calls Try.prog 19 #[pb g] Y fun e w' => e = .returned (.int .i64 (r : Int)) ∧ Grows Y w') := Lib.hid (fun Y hX => by rw [← Hr.out]; exact hFree (Hh2.out.grows hX))
              unfold pb at HLg HFg
              refine (HLg.out _ (Below.refl _ _)).mono ?_
              rintro e w7 ⟨rfl, rfl⟩
              go_wp2_with (go_at_call 19; refine (HFg.out _ (Below.refl _ _)).mono ?_; rintro e w8 ⟨rfl, hg8⟩; have Hg8 := Lib.hid hg8; clear hg8)
              go_loopw [9] (fun t9 wq => ∃ j : Nat, j ≤ n ∧ t9 = .int .i64 j ∧ Hid (Grows w2 wq)) (fun t9 _ => n - (intOf t9).toNat)
              case atStart => exact ⟨0, by omega, rfl, Hg8⟩
              case round =>
                obtain ⟨j, hj, rfl, Hgj⟩ := hrel
                by_cases hjl : j < n
                · have hjl' : (j : Int) < (n : Int) := by omega
                  have HOj := own_grows HO2b.out Hgj.out
                  obtain ⟨gl, rfl⟩ := own_some' HOj (by omega)
                  obtain ⟨c, Hcc⟩ : ∃ c, Hid ((cl A.l j).p = c) := ⟨_, rfl⟩
                  have cj := own_cell HOj j (.string ⟨c.toArray⟩) (by rw [List.getElem?_map, ps_get _ j (by rw [Hn.out]; exact hjl), ← Hcc.out]; rfl)
                  have HCg : Hid (∀ X, Grows wr X → Calls Try.prog 20 #[pb g, .int .i64 (j : Int)] X fun e w' => ∃ v, e = .returned v ∧ Byt w' v c ∧ Grows X w') := Lib.hid (fun X hX => hCellB (Hh2.out.grows (Grows.trans' Hgj.out hX)) j (by rw [Hn.out]; exact hjl) c Hcc.out)
                  unfold pb at HCg
                  clear HOj
                  go_wp2
                  refine specs_region
                    #[[], [], [0, 1], [0, 1, 2], [], [], [4, 5], [4, 5, 6], [0, 1, 2, 3, 4, 5, 6, 7]] #[[3], [9], [], [], [4], [9], [], [], []] #[true, true, true, true, true, true, true, true, true]
                    ((.val ?vpbd0) :: (.val ?vpbd1) :: (.byt (c)) :: (.val (.string ⟨(c : List UInt8).toArray⟩)) :: (.val ?vpbd4) :: (.val ?vpbd5) :: (.val ?vpbd6) :: (.val ?vpbd7) :: (.val ?vpbd8) :: []).toArray
                    hmx ?chkpbd ?grdpbd ?stppbd ?rstpbd
                  case chkpbd => rfl
                  case stppbd =>
                    refine ⟨?_, ?_, ?_, ?_, ?_, ?_, ?_, ?_, ?_, trivial⟩
                    · refine step_intro rfl rfl fun ρ X hc hf hgl hX hp ho => ?_
                      change StepOk _ { dst := _, op := Op.move (Operand.tmp 3), type := _, pos := _, after := _, guard := _ } _ _ _
                      have k3 : ρ (.tmp 3) = .pointer (some ⟨g, 0, none⟩) := ho 3 (by decide)
                      clear hp ho
                      refine StepOk.of_run (v := ?vpbd0) (w' := X) ?_ ⟨rfl, Below.refl _ _⟩
                      clear hX
                      go_simp
                      all_goals try go_bits
                      all_goals try simp only [IntWalk.iteOmega]
                      all_goals try go_bits
                      all_goals rfl
                    · refine step_intro rfl rfl fun ρ X hc hf hgl hX hp ho => ?_
                      change StepOk _ { dst := _, op := Op.move (Operand.tmp 9), type := _, pos := _, after := _, guard := _ } _ _ _
                      have k9 : ρ (.tmp 9) = .int .i64 (j : Int) := ho 9 (by decide)
                      clear hp ho
                      refine StepOk.of_run (v := ?vpbd1) (w' := X) ?_ ⟨rfl, Below.refl _ _⟩
                      clear hX
                      go_simp
                      all_goals try go_bits
                      all_goals try simp only [IntWalk.iteOmega]
                      all_goals try go_bits
                      all_goals rfl
                    · refine step_intro rfl rfl fun ρ X hc hf hgl hX hp ho => ?_
                      change StepOk _ { dst := _, op := Op.call { callee := Callee.value (Operand.func 20), args := #[Operand.tmp 157, Operand.tmp 158], argTypes := #[25, 3] }, type := _, pos := _, after := _, guard := _ } _ _ _
                      have k157 : ρ (.tmp 157) = ?vpbd0 := hp 0 (by decide)
                      have k158 : ρ (.tmp 158) = ?vpbd1 := hp 1 (by decide)
                      clear hp ho
                      refine StepOk.of_call (f := 20) (args := #[.pointer (some ⟨g, 0, none⟩), .int .i64 (j : Int)]) (w' := X) ?_ (HCg.out X hX) ?_
                      · go_simp
                        all_goals try rfl
                      · rintro e w'' ⟨v, rfl, hb', hg'⟩; exact ⟨v, rfl, hb', hg'⟩
                    · refine step_intro rfl rfl fun ρ X hc hf hgl hX hp ho => ?_
                      change StepOk _ { dst := _, op := Op.convert 30 9 (Operand.tmp 159), type := _, pos := _, after := _, guard := _ } _ _ _
                      have k159 := hp 2 (by decide)
                      clear hp ho
                      have hr := run_string (P := Try.prog) (T := 30) (e := 5) (S := 9) rfl rfl rfl k159
                      refine StepOk.of_run (v := .string ⟨(c : List UInt8).toArray⟩) (w' := X) ?_ ⟨rfl, Below.refl _ _⟩
                      simp only [execOp, Sem.run_bind, hr, Result.andThen_ok, Sem.run_pure]
                    · refine step_intro rfl rfl fun ρ X hc hf hgl hX hp ho => ?_
                      change StepOk _ { dst := _, op := Op.move (Operand.tmp 4), type := _, pos := _, after := _, guard := _ } _ _ _
                      have k4 : ρ (.tmp 4) = .slice (some ⟨gl, 0, none⟩) n lc := ho 4 (by decide)
                      clear hp ho
                      refine StepOk.of_run (v := ?vpbd4) (w' := X) ?_ ⟨rfl, Below.refl _ _⟩
                      clear hX
                      go_simp
                      all_goals try go_bits
                      all_goals try simp only [IntWalk.iteOmega]
                      all_goals try go_bits
                      all_goals rfl
                    · refine step_intro rfl rfl fun ρ X hc hf hgl hX hp ho => ?_
                      change StepOk _ { dst := _, op := Op.move (Operand.tmp 9), type := _, pos := _, after := _, guard := _ } _ _ _
                      have k9 : ρ (.tmp 9) = .int .i64 (j : Int) := ho 9 (by decide)
                      clear hp ho
                      refine StepOk.of_run (v := ?vpbd5) (w' := X) ?_ ⟨rfl, Below.refl _ _⟩
                      clear hX
                      go_simp
                      all_goals try go_bits
                      all_goals try simp only [IntWalk.iteOmega]
                      all_goals try go_bits
                      all_goals rfl
                    · refine step_intro rfl rfl fun ρ X hc hf hgl hX hp ho => ?_
                      change StepOk _ { dst := _, op := Op.indexAddr 34 (Operand.tmp 161) (Operand.tmp 162), type := _, pos := _, after := _, guard := _ } _ _ _
                      have k161 : ρ (.tmp 161) = ?vpbd4 := hp 4 (by decide)
                      have k162 : ρ (.tmp 162) = ?vpbd5 := hp 5 (by decide)
                      clear hp ho
                      refine StepOk.of_run (v := ?vpbd6) (w' := X) ?_ ⟨rfl, Below.refl _ _⟩
                      clear hX
                      go_simp
                      all_goals try go_bits
                      all_goals try simp only [IntWalk.iteOmega]
                      all_goals try go_bits
                      all_goals rfl
                    · refine step_intro rfl rfl fun ρ X hc hf hgl hX hp ho => ?_
                      change StepOk _ { dst := _, op := Op.load 9 (Operand.tmp 163), type := _, pos := _, after := _, guard := _ } _ _ _
                      have k163 : ρ (.tmp 163) = ?vpbd6 := hp 6 (by decide)
                      have cjX := Grows.cell' hX cj
                      clear hp ho
                      refine StepOk.of_run (v := ?vpbd7) (w' := X) ?_ ⟨rfl, Below.refl _ _⟩
                      clear hX
                      go_simp
                      all_goals try go_bits
                      all_goals try simp only [IntWalk.iteOmega]
                      all_goals try go_bits
                      all_goals rfl
                    · refine step_intro rfl rfl fun ρ X hc hf hgl hX hp ho => ?_
                      change StepOk _ { dst := _, op := Op.binOp BinOp.neq 9 (Operand.tmp 160) (Operand.tmp 164) 9, type := _, pos := _, after := _, guard := _ } _ _ _
                      have k160 : ρ (.tmp 160) = (.string ⟨(c : List UInt8).toArray⟩) := hp 3 (by decide)
                      have k164 : ρ (.tmp 164) = ?vpbd7 := hp 7 (by decide)
                      clear hp ho
                      refine StepOk.of_run (v := ?vpbd8) (w' := X) ?_ ⟨rfl, Below.refl _ _⟩
                      clear hX
                      go_simp
                      all_goals try go_bits
                      all_goals try simp only [IntWalk.iteOmega]
                      all_goals try go_bits
                      all_goals rfl
                  case grdpbd => rfl
                  case rstpbd =>
                    intro a0 X hb
                    obtain ⟨x159, hx159⟩ : ∃ x, a0.tmps.getD 159 undef = x := ⟨_, rfl⟩
                    have p159 := hb.done' 2 159 rfl rfl
                    rw [hx159] at p159
                    have hfr := hb.frame ((157, ?vpbd0) :: (158, ?vpbd1) :: (159, x159) :: (160, (.string ⟨(c : List UInt8).toArray⟩)) :: (161, ?vpbd4) :: (162, ?vpbd5) :: (163, ?vpbd6) :: (164, ?vpbd7) :: (165, ?vpbd8) :: []) rfl ⟨hb.done' 0 157 rfl rfl, hb.done' 1 158 rfl rfl, hx159, hb.done' 3 160 rfl rfl, hb.done' 4 161 rfl rfl, hb.done' 5 162 rfl rfl, hb.done' 6 163 rfl rfl, hb.done' 7 164 rfl rfl, hb.done' 8 165 rfl rfl, trivial⟩
                    simp only [updL, ↓reduceIte, Nat.reduceEqDiff, Nat.reduceAdd, Nat.zero_add] at hfr
                    have HX := Lib.hid hb.ext
                    clear hb
                    subst hfr
                    have HgX := Lib.hid (Grows.trans' Hgj.out HX.out)
                    clear cj
                    go_wp2
                    go_roundw
                    case rel => exact ⟨j + 1, by omega, by simp, HgX⟩
                    case measure => simp [intOf]; omega
                · have hjl' : ¬ (j : Int) < (n : Int) := by omega
                  go_wp2
                  go_roundw
                  case rel => exact ⟨k + 1, f, A, la, lc, by omega, by simp, by rw [Hr.out], by rw [Hn.out], by rw [Hn.out]; exact Lib.hid (own_grows HO2b.out Hgj.out), Lib.hid (Hh2.out.grows Hgj.out), Lib.hid (Grows.trans' HgT.out Hgj.out)⟩
                  case measure => simp [intOf]; omega
            · have hin' : (ii : Int) ≤ (n : Int) := by omega
              by_cases hm78 : 78 < m
              · have hm78' : ¬ (m : Int) ≤ 78 := by omega
                go_wp2_with (first
                  | (refine wpList_allocD rfl rfl ?_; intro wa hba hga; rw [Hrb.out] at hba ⊢; have Hba := Lib.hid hba; have Hga := Lib.hid hga; clear hba hga)
                  | (refine wpList_storeD rfl (.tmp 7) (.tmp 26) rfl rb _ _ pa m pc rfl rfl 0 0 (.slice none 0 0) Hba.out ?_; intro w2 hb2 hu2; have Hb2 := Lib.hid hb2; have Hg2 := Lib.hid (but_new Hga.out hu2 (by rw [Hrb.out]; exact Nat.le_refl _)); clear hb2 hu2 Hba c0 c1 c2; obtain ⟨d0, d1, d2⟩ := Hb2.out.cells))
                have Hh2 := Lib.hid (Hh.out.grows Hg2.out)
                have HO2 := Lib.hid (own_grows HO.out Hg2.out)
                have Hbp2 := Lib.hid (Hbp.out.grows Hg2.out)
                have HgT := Lib.hid (Grows.trans' Hgr.out Hg2.out)
                have HO2b : Hid (w2.ownsRow 0 9 1 (.slice la n lc) n ((ps A).map sv)) := by rw [Hxs.out]; exact HO2
                clear d0 d1 d2
                have HLg : Hid (∀ Y, Grows w2 Y → Calls Try.prog 18 #[pb g] Y fun e w' => e = .returned (.int .i64 (n : Int)) ∧ Y = w') := Lib.hid (fun Y hX => by rw [← Hn.out]; exact hLen (Hh2.out.grows hX))
                have HFg : Hid (∀ Y, Grows w2 Y → Calls Try.prog 19 #[pb g] Y fun e w' => e = .returned (.int .i64 (r : Int)) ∧ Grows Y w') := Lib.hid (fun Y hX => by rw [← Hr.out]; exact hFree (Hh2.out.grows hX))
                unfold pb at HLg HFg
                refine (HLg.out _ (Below.refl _ _)).mono ?_
                rintro e w7 ⟨rfl, rfl⟩
                go_wp2_with (go_at_call 19; refine (HFg.out _ (Below.refl _ _)).mono ?_; rintro e w8 ⟨rfl, hg8⟩; have Hg8 := Lib.hid hg8; clear hg8)
                go_loopw [9] (fun t9 wq => ∃ j : Nat, j ≤ n ∧ t9 = .int .i64 j ∧ Hid (Grows w2 wq)) (fun t9 _ => n - (intOf t9).toNat)
                case atStart => exact ⟨0, by omega, rfl, Hg8⟩
                case round =>
                  obtain ⟨j, hj, rfl, Hgj⟩ := hrel
                  by_cases hjl : j < n
                  · have hjl' : (j : Int) < (n : Int) := by omega
                    have HOj := own_grows HO2b.out Hgj.out
                    obtain ⟨gl, rfl⟩ := own_some' HOj (by omega)
                    obtain ⟨c, Hcc⟩ : ∃ c, Hid ((cl A.l j).p = c) := ⟨_, rfl⟩
                    have cj := own_cell HOj j (.string ⟨c.toArray⟩) (by rw [List.getElem?_map, ps_get _ j (by rw [Hn.out]; exact hjl), ← Hcc.out]; rfl)
                    have HCg : Hid (∀ X, Grows wr X → Calls Try.prog 20 #[pb g, .int .i64 (j : Int)] X fun e w' => ∃ v, e = .returned v ∧ Byt w' v c ∧ Grows X w') := Lib.hid (fun X hX => hCellB (Hh2.out.grows (Grows.trans' Hgj.out hX)) j (by rw [Hn.out]; exact hjl) c Hcc.out)
                    unfold pb at HCg
                    clear HOj
                    go_wp2
                    refine specs_region
                      #[[], [], [0, 1], [0, 1, 2], [], [], [4, 5], [4, 5, 6], [0, 1, 2, 3, 4, 5, 6, 7]] #[[3], [9], [], [], [4], [9], [], [], []] #[true, true, true, true, true, true, true, true, true]
                      ((.val ?vpcd0) :: (.val ?vpcd1) :: (.byt (c)) :: (.val (.string ⟨(c : List UInt8).toArray⟩)) :: (.val ?vpcd4) :: (.val ?vpcd5) :: (.val ?vpcd6) :: (.val ?vpcd7) :: (.val ?vpcd8) :: []).toArray
                      hmx ?chkpcd ?grdpcd ?stppcd ?rstpcd
                    case chkpcd => rfl
                    case stppcd =>
                      refine ⟨?_, ?_, ?_, ?_, ?_, ?_, ?_, ?_, ?_, trivial⟩
                      · refine step_intro rfl rfl fun ρ X hc hf hgl hX hp ho => ?_
                        change StepOk _ { dst := _, op := Op.move (Operand.tmp 3), type := _, pos := _, after := _, guard := _ } _ _ _
                        have k3 : ρ (.tmp 3) = .pointer (some ⟨g, 0, none⟩) := ho 3 (by decide)
                        clear hp ho
                        refine StepOk.of_run (v := ?vpcd0) (w' := X) ?_ ⟨rfl, Below.refl _ _⟩
                        clear hX
                        go_simp
                        all_goals try go_bits
                        all_goals try simp only [IntWalk.iteOmega]
                        all_goals try go_bits
                        all_goals rfl
                      · refine step_intro rfl rfl fun ρ X hc hf hgl hX hp ho => ?_
                        change StepOk _ { dst := _, op := Op.move (Operand.tmp 9), type := _, pos := _, after := _, guard := _ } _ _ _
                        have k9 : ρ (.tmp 9) = .int .i64 (j : Int) := ho 9 (by decide)
                        clear hp ho
                        refine StepOk.of_run (v := ?vpcd1) (w' := X) ?_ ⟨rfl, Below.refl _ _⟩
                        clear hX
                        go_simp
                        all_goals try go_bits
                        all_goals try simp only [IntWalk.iteOmega]
                        all_goals try go_bits
                        all_goals rfl
                      · refine step_intro rfl rfl fun ρ X hc hf hgl hX hp ho => ?_
                        change StepOk _ { dst := _, op := Op.call { callee := Callee.value (Operand.func 20), args := #[Operand.tmp 157, Operand.tmp 158], argTypes := #[25, 3] }, type := _, pos := _, after := _, guard := _ } _ _ _
                        have k157 : ρ (.tmp 157) = ?vpcd0 := hp 0 (by decide)
                        have k158 : ρ (.tmp 158) = ?vpcd1 := hp 1 (by decide)
                        clear hp ho
                        refine StepOk.of_call (f := 20) (args := #[.pointer (some ⟨g, 0, none⟩), .int .i64 (j : Int)]) (w' := X) ?_ (HCg.out X hX) ?_
                        · go_simp
                          all_goals try rfl
                        · rintro e w'' ⟨v, rfl, hb', hg'⟩; exact ⟨v, rfl, hb', hg'⟩
                      · refine step_intro rfl rfl fun ρ X hc hf hgl hX hp ho => ?_
                        change StepOk _ { dst := _, op := Op.convert 30 9 (Operand.tmp 159), type := _, pos := _, after := _, guard := _ } _ _ _
                        have k159 := hp 2 (by decide)
                        clear hp ho
                        have hr := run_string (P := Try.prog) (T := 30) (e := 5) (S := 9) rfl rfl rfl k159
                        refine StepOk.of_run (v := .string ⟨(c : List UInt8).toArray⟩) (w' := X) ?_ ⟨rfl, Below.refl _ _⟩
                        simp only [execOp, Sem.run_bind, hr, Result.andThen_ok, Sem.run_pure]
                      · refine step_intro rfl rfl fun ρ X hc hf hgl hX hp ho => ?_
                        change StepOk _ { dst := _, op := Op.move (Operand.tmp 4), type := _, pos := _, after := _, guard := _ } _ _ _
                        have k4 : ρ (.tmp 4) = .slice (some ⟨gl, 0, none⟩) n lc := ho 4 (by decide)
                        clear hp ho
                        refine StepOk.of_run (v := ?vpcd4) (w' := X) ?_ ⟨rfl, Below.refl _ _⟩
                        clear hX
                        go_simp
                        all_goals try go_bits
                        all_goals try simp only [IntWalk.iteOmega]
                        all_goals try go_bits
                        all_goals rfl
                      · refine step_intro rfl rfl fun ρ X hc hf hgl hX hp ho => ?_
                        change StepOk _ { dst := _, op := Op.move (Operand.tmp 9), type := _, pos := _, after := _, guard := _ } _ _ _
                        have k9 : ρ (.tmp 9) = .int .i64 (j : Int) := ho 9 (by decide)
                        clear hp ho
                        refine StepOk.of_run (v := ?vpcd5) (w' := X) ?_ ⟨rfl, Below.refl _ _⟩
                        clear hX
                        go_simp
                        all_goals try go_bits
                        all_goals try simp only [IntWalk.iteOmega]
                        all_goals try go_bits
                        all_goals rfl
                      · refine step_intro rfl rfl fun ρ X hc hf hgl hX hp ho => ?_
                        change StepOk _ { dst := _, op := Op.indexAddr 34 (Operand.tmp 161) (Operand.tmp 162), type := _, pos := _, after := _, guard := _ } _ _ _
                        have k161 : ρ (.tmp 161) = ?vpcd4 := hp 4 (by decide)
                        have k162 : ρ (.tmp 162) = ?vpcd5 := hp 5 (by decide)
                        clear hp ho
                        refine StepOk.of_run (v := ?vpcd6) (w' := X) ?_ ⟨rfl, Below.refl _ _⟩
                        clear hX
                        go_simp
                        all_goals try go_bits
                        all_goals try simp only [IntWalk.iteOmega]
                        all_goals try go_bits
                        all_goals rfl
                      · refine step_intro rfl rfl fun ρ X hc hf hgl hX hp ho => ?_
                        change StepOk _ { dst := _, op := Op.load 9 (Operand.tmp 163), type := _, pos := _, after := _, guard := _ } _ _ _
                        have k163 : ρ (.tmp 163) = ?vpcd6 := hp 6 (by decide)
                        have cjX := Grows.cell' hX cj
                        clear hp ho
                        refine StepOk.of_run (v := ?vpcd7) (w' := X) ?_ ⟨rfl, Below.refl _ _⟩
                        clear hX
                        go_simp
                        all_goals try go_bits
                        all_goals try simp only [IntWalk.iteOmega]
                        all_goals try go_bits
                        all_goals rfl
                      · refine step_intro rfl rfl fun ρ X hc hf hgl hX hp ho => ?_
                        change StepOk _ { dst := _, op := Op.binOp BinOp.neq 9 (Operand.tmp 160) (Operand.tmp 164) 9, type := _, pos := _, after := _, guard := _ } _ _ _
                        have k160 : ρ (.tmp 160) = (.string ⟨(c : List UInt8).toArray⟩) := hp 3 (by decide)
                        have k164 : ρ (.tmp 164) = ?vpcd7 := hp 7 (by decide)
                        clear hp ho
                        refine StepOk.of_run (v := ?vpcd8) (w' := X) ?_ ⟨rfl, Below.refl _ _⟩
                        clear hX
                        go_simp
                        all_goals try go_bits
                        all_goals try simp only [IntWalk.iteOmega]
                        all_goals try go_bits
                        all_goals rfl
                    case grdpcd => rfl
                    case rstpcd =>
                      intro a0 X hb
                      obtain ⟨x159, hx159⟩ : ∃ x, a0.tmps.getD 159 undef = x := ⟨_, rfl⟩
                      have p159 := hb.done' 2 159 rfl rfl
                      rw [hx159] at p159
                      have hfr := hb.frame ((157, ?vpcd0) :: (158, ?vpcd1) :: (159, x159) :: (160, (.string ⟨(c : List UInt8).toArray⟩)) :: (161, ?vpcd4) :: (162, ?vpcd5) :: (163, ?vpcd6) :: (164, ?vpcd7) :: (165, ?vpcd8) :: []) rfl ⟨hb.done' 0 157 rfl rfl, hb.done' 1 158 rfl rfl, hx159, hb.done' 3 160 rfl rfl, hb.done' 4 161 rfl rfl, hb.done' 5 162 rfl rfl, hb.done' 6 163 rfl rfl, hb.done' 7 164 rfl rfl, hb.done' 8 165 rfl rfl, trivial⟩
                      simp only [updL, ↓reduceIte, Nat.reduceEqDiff, Nat.reduceAdd, Nat.zero_add] at hfr
                      have HX := Lib.hid hb.ext
                      clear hb
                      subst hfr
                      have HgX := Lib.hid (Grows.trans' Hgj.out HX.out)
                      clear cj
                      go_wp2
                      go_roundw
                      case rel => exact ⟨j + 1, by omega, by simp, HgX⟩
                      case measure => simp [intOf]; omega
                  · have hjl' : ¬ (j : Int) < (n : Int) := by omega
                    go_wp2
                    go_roundw
                    case rel => exact ⟨k + 1, f, A, la, lc, by omega, by simp, by rw [Hr.out], by rw [Hn.out], by rw [Hn.out]; exact Lib.hid (own_grows HO2b.out Hgj.out), Lib.hid (Hh2.out.grows Hgj.out), Lib.hid (Grows.trans' HgT.out Hgj.out)⟩
                    case measure => simp [intOf]; omega
              · have hm78' : (m : Int) ≤ 78 := by omega
                have Hin : Hid (ii ≤ n) := by show ii ≤ n; omega
                have Hm78 : Hid (m ≤ 78) := by show m ≤ 78; omega
                by_cases hft : 2 + m ≤ r
                · have hft' : (2 : Int) + (m : Int) ≤ (r : Int) := by omega
                  have Hfit : Hid (2 + m ≤ r) := hft
                  go_wp2_with (first
                    | (refine wpList_allocD rfl rfl ?_; intro wa hba hga; rw [Hrb.out] at hba ⊢; have Hba := Lib.hid hba; have Hga := Lib.hid hga; clear hba hga)
                    | (refine wpList_storeD rfl (.tmp 7) (.tmp 26) rfl rb _ _ pa m pc rfl rfl 0 0 (.slice none 0 0) Hba.out ?_; intro w2 hb2 hu2; have Hb2 := Lib.hid hb2; have Hg2 := Lib.hid (but_new Hga.out hu2 (by rw [Hrb.out]; exact Nat.le_refl _)); clear hb2 hu2 Hba c0 c1 c2; obtain ⟨d0, d1, d2⟩ := Hb2.out.cells))
                  have Hh2 := Lib.hid (Hh.out.grows Hg2.out)
                  have HO2 := Lib.hid (own_grows HO.out Hg2.out)
                  have Hbp2 := Lib.hid (Hbp.out.grows Hg2.out)
                  have HgT := Lib.hid (Grows.trans' Hgr.out Hg2.out)
                  refine (hInsOk Hh2.out ii (by rw [Hn.out]; exact Hin.out) (.slice pa m pc) p Hbp2.out Hout.out (by rw [Hm.out]; exact Hm78.out) (by rw [Hr.out, Hm.out]; exact Hfit.out)).mono ?_
                  rintro e w3 ⟨rfl, ⟨f3, hh3⟩, hu3⟩
                  obtain ⟨A4, HA4⟩ : ∃ A4, Hid (insA A ii p = A4) := ⟨_, rfl⟩
                  rw [HA4.out] at hh3
                  have Hh3 := Lib.hid hh3
                  have Hg3 := Lib.hid (but_new HgT.out hu3 (by rw [Hg.out]; exact Nat.le_refl _))
                  have HO3 := Lib.hid (own_at HO2.out Hh2.out.at_ hu3)
                  have hb3 : DeedAt w3 rb 0 ii (.slice pa m pc) := hu3.blockEq Hrg.out Hb2.out
                  have Hrw : Hid (¬ (w3.heap.size ≤ rb)) := by have := (Array.getElem?_eq_some_iff.1 hb3).1; show ¬ _; omega
                  have Hbp3 := Lib.hid (Hbp2.out.but hu3 Hout.out)
                  have Hout3 := Lib.hid (byt_outO Hbp3.out)
                  clear d0 d1 d2 hh3 hu3 HO2
                  obtain ⟨d0, d1, d2⟩ := hb3.cells
                  clear hb3
                  have Hnlc : Hid (n ≤ lc) := by rcases HO3.out.2 with ⟨e1, h0⟩ | ⟨_, _, _, e1, _, _, h1, _⟩ <;> (simp only [Value.slice.injEq, true_and] at e1; show n ≤ lc; omega)
                  have HL2 : Hid (∀ p' ∈ [(0, []), (ii, xs.take ii), (1, [sv p]), (ii + 1, xs.take ii ++ [sv p])], p'.1 ≤ ii ∨ (p'.1 ≤ ii + 1 ∧ p'.2 = (xs.take ii ++ [sv p]).take (p'.1 * 1))) := hls2 xs ii (sv p) (by rw [Hxl.out]; exact Hin.out)
                  have HL3 : Hid (∀ p' ∈ [(0, []), (ii, xs.take ii), (1, [sv p]), (ii + 1, xs.take ii ++ [sv p])], p'.1 ≤ ii + 1 ∨ (p'.1 ≤ ii + 1 + (n - ii) ∧ p'.2 = (xs.take ii ++ [sv p] ++ xs.drop ii).take (p'.1 * 1))) := by show ∀ _, _; intro p' hp'; simp at hp'; rcases hp' with rfl | rfl | rfl | rfl <;> (left; simp)
                  have hfit := Hfit.out
                  go_wp2_with (first | (go_at_call 13; refine (vNum _ _).mono ?_; rintro e w9 ⟨rfl, rfl⟩))
                  refine region_L (E := (EApp (fun b => w3.heap.size ≤ b) 9 1 [(0, []), (ii, xs.take ii), (1, [sv p]), (ii + 1, xs.take ii ++ [sv p])])) (EApp.ok _ _ _ _) EApp.ofGrows
                    #[[], [], [], [2], [1, 2, 3], [0, 1, 2, 3, 4], [], [6], [6, 7], [6, 7, 8], [0, 1, 2, 3, 4, 5, 6, 7, 8, 9], [], [], [12], [11, 12, 13], [0, 1, 2, 3, 4, 5, 6, 7, 8, 9, 10, 11, 12, 13, 14], [0, 1, 2, 3, 4, 5, 6, 7, 8, 9, 10, 11, 12, 13, 14, 15]] #[[], [4], [7], [], [], [], [7], [], [], [], [], [4], [7], [], [], [], []] #[true, true, true, true, true, true, true, true, true, true, true, true, true, true, true, true, true]
                    ((.pred (fun v W => W.ownsRow 0 9 1 v 0 [] ∧ ∃ g, v = .slice (some ⟨g, 0, none⟩) 0 0 ∧ w3.heap.size ≤ g) (fun v a b h ho => ⟨EApp.own (by simp) v a b h ho.1, ho.2⟩)) :: (.val ?vi1) :: (.val ?vi2) :: (.val ?vi3) :: (.val (sliced la 0 ii lc 1)) :: (.pred (fun v W => W.ownsRow 0 9 1 v ii (xs.take ii) ∧ ∀ j, v.ownBlock = some j → w3.heap.size ≤ j) (fun v a b h ho => ⟨EApp.own (by simp) v a b h ho.1, ho.2⟩)) :: (.val ?vi6) :: (.val ?vi7) :: (.val (.string ⟨(p : List UInt8).toArray⟩)) :: (.pred (fun v W => W.ownsRow 0 9 1 v 1 [sv p] ∧ ∃ g, v = .slice (some ⟨g, 0, none⟩) 1 1) (fun v a b h ho => ⟨EApp.own (by simp) v a b h ho.1, ho.2⟩)) :: (.pred (fun v W => W.ownsRow 0 9 1 v (ii + (1)) (xs.take ii ++ [sv p]) ∧ ∀ j, v.ownBlock = some j → w3.heap.size ≤ j) (fun v a b h ho => ⟨EApp.own (by simp) v a b h ho.1, ho.2⟩)) :: (.val ?vi11) :: (.val ?vi12) :: (.val ?vi13) :: (.val (sliced la (ii) n lc 1)) :: (.frag (fun v W => W.ownsRow 0 9 1 v (ii + 1 + (n - ii)) (xs.take ii ++ [sv p] ++ xs.drop ii) ∧ ∀ j, v.ownBlock = some j → w3.heap.size ≤ j) (fun v a b h ho => ⟨own_grows ho.1 h, ho.2⟩)) :: (.frag (fun v W => W.ownsRow 0 9 1 v (ii + 1 + (n - ii)) (xs.take ii ++ [sv p] ++ xs.drop ii)) (fun v a b h ho => own_grows ho h)) :: []).toArray
                    (noState [10, 15])
                    (fun _ _ _ _ _ _ _ _ => trivial)
                    (fun _ _ => trivial)
                    hmx ?chki rfl rfl ?grdi ?stpi ?rsti
                  case chki => rfl
                  case stpi =>
                    refine ⟨?_, ?_, ?_, ?_, ?_, ?_, ?_, ?_, ?_, ?_, ?_, ?_, ?_, ?_, ?_, ?_, ?_, trivial⟩
                    · refine step_introK rfl rfl fun ρ X hc hf hgl hX hp ho hu => ?_
                      change StepOk _ { dst := _, op := Op.buildSlice 34 0 #[], type := _, pos := _, after := _, guard := _ } _ _ _
                      refine stepK_plain (i := 0) rfl ?_
                      clear hu
                      clear hp ho
                      refine StepOk.of_run (v := .slice (some ⟨X.heap.size, 0, none⟩) 0 0) (w' := X.alloc (.cells #[] 9)) ?_ ⟨⟨⟨by simp, .inr ⟨X.heap.size, 0, #[], rfl, Nat.zero_le _, heap_alloc_new X _, Nat.le_refl _, by simp [maxLen], by simp, by simp⟩⟩, _, rfl, hX.but.size⟩, Grows.alloc' _ _⟩
                      simp [go_sem, execOp, hc]
                    · refine step_introK rfl rfl fun ρ X hc hf hgl hX hp ho hu => ?_
                      change StepOk _ { dst := _, op := Op.move (Operand.tmp 4), type := _, pos := _, after := _, guard := _ } _ _ _
                      have k4 : ρ (.tmp 4) = .slice la n lc := ho 4 (by decide)
                      refine stepK_plain (i := 1) rfl ?_
                      clear hu
                      clear hp ho
                      refine StepOk.of_run (v := ?vi1) (w' := X) ?_ ⟨rfl, Below.refl _ _⟩
                      clear hX
                      go_simp
                      all_goals try go_bits
                      all_goals try simp only [IntWalk.iteOmega]
                      all_goals try go_bits
                      all_goals rfl
                    · refine step_introK rfl rfl fun ρ X hc hf hgl hX hp ho hu => ?_
                      change StepOk _ { dst := _, op := Op.fieldAddr 32 (Operand.tmp 7) 1, type := _, pos := _, after := _, guard := _ } _ _ _
                      have k7 : ρ (.tmp 7) = .pointer (some ⟨rb, 0, none⟩) := ho 7 (by decide)
                      refine stepK_plain (i := 2) rfl ?_
                      clear hu
                      clear hp ho
                      refine StepOk.of_run (v := ?vi2) (w' := X) ?_ ⟨rfl, Below.refl _ _⟩
                      clear hX
                      go_simp
                      all_goals try go_bits
                      all_goals try simp only [IntWalk.iteOmega]
                      all_goals try go_bits
                      all_goals rfl
                    · refine step_introK rfl rfl fun ρ X hc hf hgl hX hp ho hu => ?_
                      change StepOk _ { dst := _, op := Op.load 3 (Operand.tmp 74), type := _, pos := _, after := _, guard := _ } _ _ _
                      have k74 : ρ (.tmp 74) = ?vi2 := hp 2 (by decide)
                      refine stepK_plain (i := 3) rfl ?_
                      clear hu
                      have d1X := hX.but.cell (p := ⟨rb, _, none⟩) Hrw.out d1
                      have d2X := hX.but.cell (p := ⟨rb, _, none⟩) Hrw.out d2
                      clear hp ho
                      refine StepOk.of_run (v := ?vi3) (w' := X) ?_ ⟨rfl, Below.refl _ _⟩
                      clear hX
                      go_simp
                      all_goals try go_bits
                      all_goals try simp only [IntWalk.iteOmega]
                      all_goals try go_bits
                      all_goals rfl
                    · refine step_introK rfl rfl fun ρ X hc hf hgl hX hp ho hu => ?_
                      change StepOk _ { dst := _, op := Op.slice 34 (Operand.tmp 73) none (some (Operand.tmp 75)) none, type := _, pos := _, after := _, guard := _ } _ _ _
                      have k73 : ρ (.tmp 73) = ?vi1 := hp 1 (by decide)
                      have k75 : ρ (.tmp 75) = ?vi3 := hp 3 (by decide)
                      refine stepK_plain (i := 4) rfl ?_
                      clear hu
                      clear hp ho
                      have hs := run_slSh X la n lc ii Hin.out Hnlc.out
                      refine StepOk.of_run (v := sliced la 0 ii lc 1) (w' := X) ?_ ⟨rfl, Below.refl _ _⟩
                      simp only [execOp, Option.map_some, Option.map_none, k73, k75, Sem.run_bind, hs, Result.andThen_ok, Sem.run_pure]
                    · refine step_introK rfl rfl fun ρ X hc hf hgl hX hp ho hu => ?_
                      change StepOk _ { dst := _, op := Op.call { callee := Callee.builtin Builtin.append, args := #[Operand.tmp 72, Operand.tmp 76], argTypes := #[34, 34] }, type := _, pos := _, after := _, guard := _ } _ _ _
                      have k72 := hp 0 (by decide)
                      have k76 : ρ (.tmp 76) = (sliced la 0 ii lc 1) := hp 4 (by decide)
                      refine stepK_plain (i := 5) rfl ?_
                      clear hu
                      clear hp ho
                      obtain ⟨ho0, g0, e0, hge0⟩ := k72
                      rw [e0] at ho0
                      have hpx := own_but (own_prefix HO3.out Hin.out) hX.but (fun j hj => by have := own_lt (own_prefix HO3.out Hin.out) j hj; omega)
                      rw [Nat.mul_one] at hpx
                      obtain ⟨v', W', hr, ho', hg', hat, _⟩ := run_append_z (P := Try.prog) X 34 34 9 is (.string ⟨#[]⟩) 1 16 Try.underlying34 his hzs0 hzs1 hzs2 rfl (by omega) g0 ho0 (sliced la 0 ii lc 1) ii _ hpx (fun u hu => Hone.out u (List.mem_of_mem_take hu)) (by unfold maxLen; omega) (by omega)
                      refine StepOk.of_run (v := v') (w' := W') ?_ ⟨⟨ho', ?_⟩, hg'⟩
                      · simp only [execOp, resolve, invoke, builtin, Sem.run_bind, Sem.run_pure, Result.andThen_ok, List.map_toArray, List.map_cons, List.map_nil, e0, k76, hr]
                      · intro j hj; rcases hat with h | h <;> (rw [h] at hj; have := Option.some.inj hj; have := hX.but.size; omega)
                    · refine step_introK rfl rfl fun ρ X hc hf hgl hX hp ho hu => ?_
                      change StepOk _ { dst := _, op := Op.fieldAddr 32 (Operand.tmp 7) 2, type := _, pos := _, after := _, guard := _ } _ _ _
                      have k7 : ρ (.tmp 7) = .pointer (some ⟨rb, 0, none⟩) := ho 7 (by decide)
                      refine stepK_plain (i := 6) rfl ?_
                      clear hu
                      clear hp ho
                      refine StepOk.of_run (v := ?vi6) (w' := X) ?_ ⟨rfl, Below.refl _ _⟩
                      clear hX
                      go_simp
                      all_goals try go_bits
                      all_goals try simp only [IntWalk.iteOmega]
                      all_goals try go_bits
                      all_goals rfl
                    · refine step_introK rfl rfl fun ρ X hc hf hgl hX hp ho hu => ?_
                      change StepOk _ { dst := _, op := Op.load 30 (Operand.tmp 78), type := _, pos := _, after := _, guard := _ } _ _ _
                      have k78 : ρ (.tmp 78) = ?vi6 := hp 6 (by decide)
                      refine stepK_plain (i := 7) rfl ?_
                      clear hu
                      have d1X := hX.but.cell (p := ⟨rb, _, none⟩) Hrw.out d1
                      have d2X := hX.but.cell (p := ⟨rb, _, none⟩) Hrw.out d2
                      clear hp ho
                      refine StepOk.of_run (v := ?vi7) (w' := X) ?_ ⟨rfl, Below.refl _ _⟩
                      clear hX
                      go_simp
                      all_goals try go_bits
                      all_goals try simp only [IntWalk.iteOmega]
                      all_goals try go_bits
                      all_goals rfl
                    · refine step_introK rfl rfl fun ρ X hc hf hgl hX hp ho hu => ?_
                      change StepOk _ { dst := _, op := Op.convert 30 9 (Operand.tmp 79), type := _, pos := _, after := _, guard := _ } _ _ _
                      have k79 : ρ (.tmp 79) = ?vi7 := hp 7 (by decide)
                      refine stepK_plain (i := 8) rfl ?_
                      clear hu
                      clear hp ho
                      have hr := run_string (P := Try.prog) (T := 30) (e := 5) (S := 9) rfl rfl rfl (Hbp3.out.but hX.but Hout3.out)
                      refine StepOk.of_run (v := .string ⟨(p : List UInt8).toArray⟩) (w' := X) ?_ ⟨rfl, Below.refl _ _⟩
                      simp only [execOp, k79, Sem.run_bind, hr, Result.andThen_ok, Sem.run_pure]
                    · refine step_introK rfl rfl fun ρ X hc hf hgl hX hp ho hu => ?_
                      change StepOk _ { dst := _, op := Op.buildSlice 34 1 #[(0, Operand.tmp 80)], type := _, pos := _, after := _, guard := _ } _ _ _
                      have k80 : ρ (.tmp 80) = (.string ⟨(p : List UInt8).toArray⟩) := hp 8 (by decide)
                      refine stepK_plain (i := 9) rfl ?_
                      clear hu
                      clear hp ho
                      refine StepOk.of_run (v := .slice (some ⟨X.heap.size, 0, none⟩) 1 1) (w' := X.alloc (.cells [sv p].toArray 9)) ?_ ⟨⟨⟨rfl, .inr ⟨X.heap.size, 1, _, rfl, Nat.zero_le _, heap_alloc_new X _, Nat.le_refl _, by simp [maxLen], rfl, rfl⟩⟩, _, rfl⟩, Grows.alloc' _ _⟩
                      simp [go_sem, execOp, hc, k80, sv]
                    · refine step_introK rfl rfl fun ρ X hc hf hgl hX hp ho hu => ?_
                      change StepOk _ { dst := _, op := Op.call { callee := Callee.builtin Builtin.append, args := #[Operand.tmp 77, Operand.tmp 81], argTypes := #[34, 34] }, type := _, pos := _, after := _, guard := _ } _ _ _
                      have k77 := hp 5 (by decide)
                      have k81 := hp 9 (by decide)
                      clear hu
                      clear hp ho
                      refine stepK_made rfl ?_
                      obtain ⟨hov, hbv⟩ := k77
                      obtain ⟨ho81, g81, e81⟩ := k81
                      rw [e81] at ho81
                      have hrd : RdN X (.slice (some ⟨g81, 0, none⟩) 1 1) 1 [sv p] := ⟨_, _, rfl, (fun h => by cases h), fun ad had j u hu => by obtain rfl := Option.some.inj had; exact ho81.cells (g := g81) rfl j u hu⟩
                      obtain ⟨v', W', hr, ho', hgb', hat, hsp⟩ := run_appendR (P := Try.prog) X 34 34 9 is (.string ⟨#[]⟩) 1 16 Try.underlying34 his hzs0 hzs1 hzs2 rfl (by omega) _ (ii) (xs.take ii) hov _ (1) ([sv p]) hrd rfl (by intro u hu; simp at hu; subst hu; rfl) (by unfold maxLen; omega) (by omega) [(0, []), (ii, xs.take ii), (1, [sv p]), (ii + 1, xs.take ii ++ [sv p])] HL2.out
                      refine StepOk.of_run (v := v') (w' := W') ?_ ⟨⟨ho', ?_⟩, ⟨But.grown hgb' (fun j hj => hbv j hj), hsp⟩, fun s hs => by simp [noState] at hs⟩
                      · simp only [execOp, resolve, invoke, builtin, Sem.run_bind, Sem.run_pure, Result.andThen_ok, List.map_toArray, List.map_cons, List.map_nil, e81, hr]
                      · intro j hj; rcases hat with h | h
                        · exact hbv j (by rw [← h]; exact hj)
                        · rw [h] at hj; have := Option.some.inj hj; have := hX.but.size; omega
                    · refine step_introK rfl rfl fun ρ X hc hf hgl hX hp ho hu => ?_
                      change StepOk _ { dst := _, op := Op.move (Operand.tmp 4), type := _, pos := _, after := _, guard := _ } _ _ _
                      have k4 : ρ (.tmp 4) = .slice la n lc := ho 4 (by decide)
                      refine stepK_plain (i := 11) rfl ?_
                      clear hu
                      clear hp ho
                      refine StepOk.of_run (v := ?vi11) (w' := X) ?_ ⟨rfl, Below.refl _ _⟩
                      clear hX
                      go_simp
                      all_goals try go_bits
                      all_goals try simp only [IntWalk.iteOmega]
                      all_goals try go_bits
                      all_goals rfl
                    · refine step_introK rfl rfl fun ρ X hc hf hgl hX hp ho hu => ?_
                      change StepOk _ { dst := _, op := Op.fieldAddr 32 (Operand.tmp 7) 1, type := _, pos := _, after := _, guard := _ } _ _ _
                      have k7 : ρ (.tmp 7) = .pointer (some ⟨rb, 0, none⟩) := ho 7 (by decide)
                      refine stepK_plain (i := 12) rfl ?_
                      clear hu
                      clear hp ho
                      refine StepOk.of_run (v := ?vi12) (w' := X) ?_ ⟨rfl, Below.refl _ _⟩
                      clear hX
                      go_simp
                      all_goals try go_bits
                      all_goals try simp only [IntWalk.iteOmega]
                      all_goals try go_bits
                      all_goals rfl
                    · refine step_introK rfl rfl fun ρ X hc hf hgl hX hp ho hu => ?_
                      change StepOk _ { dst := _, op := Op.load 3 (Operand.tmp 84), type := _, pos := _, after := _, guard := _ } _ _ _
                      have k84 : ρ (.tmp 84) = ?vi12 := hp 12 (by decide)
                      refine stepK_plain (i := 13) rfl ?_
                      clear hu
                      have d1X := hX.but.cell (p := ⟨rb, _, none⟩) Hrw.out d1
                      have d2X := hX.but.cell (p := ⟨rb, _, none⟩) Hrw.out d2
                      clear hp ho
                      refine StepOk.of_run (v := ?vi13) (w' := X) ?_ ⟨rfl, Below.refl _ _⟩
                      clear hX
                      go_simp
                      all_goals try go_bits
                      all_goals try simp only [IntWalk.iteOmega]
                      all_goals try go_bits
                      all_goals rfl
                    · refine step_introK rfl rfl fun ρ X hc hf hgl hX hp ho hu => ?_
                      change StepOk _ { dst := _, op := Op.slice 34 (Operand.tmp 83) (some (Operand.tmp 85)) none none, type := _, pos := _, after := _, guard := _ } _ _ _
                      have k83 : ρ (.tmp 83) = ?vi11 := hp 11 (by decide)
                      have k85 : ρ (.tmp 85) = ?vi13 := hp 13 (by decide)
                      refine stepK_plain (i := 14) rfl ?_
                      clear hu
                      clear hp ho
                      have hs := run_slSl X la n lc (ii) Hin.out Hnlc.out ((ii : Int)) (by omega)
                      refine StepOk.of_run (v := sliced la (ii) n lc 1) (w' := X) ?_ ⟨rfl, Below.refl _ _⟩
                      simp only [execOp, Option.map_some, Option.map_none, k83, k85, Sem.run_bind, hs, Result.andThen_ok, Sem.run_pure]
                    · refine step_introK rfl rfl fun ρ X hc hf hgl hX hp ho hu => ?_
                      change StepOk _ { dst := _, op := Op.call { callee := Callee.builtin Builtin.append, args := #[Operand.tmp 82, Operand.tmp 86], argTypes := #[34, 34] }, type := _, pos := _, after := _, guard := _ } _ _ _
                      have k82 := hp 10 (by decide)
                      have k86 : ρ (.tmp 86) = (sliced la (ii) n lc 1) := hp 14 (by decide)
                      clear hu
                      clear hp ho
                      refine stepK_made rfl ?_
                      obtain ⟨hov, hbv⟩ := k82
                      have hrd := (own_drop HO3.out Hin.out).but hX.but (fun b hb => by omega)
                      rw [Nat.mul_one] at hrd
                      obtain ⟨v', W', hr, ho', hgb', hat, hsp⟩ := run_appendR (P := Try.prog) X 34 34 9 is (.string ⟨#[]⟩) 1 16 Try.underlying34 his hzs0 hzs1 hzs2 rfl (by omega) _ (ii + 1) (xs.take ii ++ [sv p]) hov _ (n - ii) (xs.drop ii) hrd (by rw [List.length_drop, Hxl.out, Nat.mul_one]) (fun u hu => Hone.out u (List.mem_of_mem_drop hu)) (by unfold maxLen; omega) (by omega) [(0, []), (ii, xs.take ii), (1, [sv p]), (ii + 1, xs.take ii ++ [sv p])] HL3.out
                      refine StepOk.of_run (v := v') (w' := W') ?_ ⟨⟨ho', ?_⟩, ⟨But.grown hgb' (fun j hj => hbv j hj), hsp⟩, fun s hs => by simp [noState] at hs⟩
                      · simp only [execOp, resolve, invoke, builtin, Sem.run_bind, Sem.run_pure, Result.andThen_ok, List.map_toArray, List.map_cons, List.map_nil, k86, hr]
                      · intro j hj; rcases hat with h | h
                        · exact hbv j (by rw [← h]; exact hj)
                        · rw [h] at hj; have := Option.some.inj hj; have := hX.but.size; omega
                    · refine step_introK rfl rfl fun ρ X hc hf hgl hX hp ho hu => ?_
                      change StepOk _ { dst := _, op := Op.assign (Operand.tmp 87), type := _, pos := _, after := _, guard := _ } _ _ _
                      have k87 := hp 15 (by decide)
                      refine stepK_plain (i := 16) rfl ?_
                      clear hu
                      clear hp ho
                      refine StepOk.of_run (v := ρ (.tmp 87)) (w' := X) ?_ ⟨k87.1, Below.refl _ _⟩
                      simp [go_sem, execOp]
                  case grdi => rfl
                  case rsti =>
                    intro a0 X hb
                    obtain ⟨x4, hx4⟩ : ∃ x, a0.tmps.getD 4 undef = x := ⟨_, rfl⟩
                    have p4 := hb.done' 16 4 rfl rfl
                    rw [hx4] at p4
                    obtain ⟨x72, hx72⟩ : ∃ x, a0.tmps.getD 72 undef = x := ⟨_, rfl⟩
                    have p72 := hb.done' 0 72 rfl rfl
                    rw [hx72] at p72
                    obtain ⟨x77, hx77⟩ : ∃ x, a0.tmps.getD 77 undef = x := ⟨_, rfl⟩
                    have p77 := hb.done' 5 77 rfl rfl
                    rw [hx77] at p77
                    obtain ⟨x81, hx81⟩ : ∃ x, a0.tmps.getD 81 undef = x := ⟨_, rfl⟩
                    have p81 := hb.done' 9 81 rfl rfl
                    rw [hx81] at p81
                    obtain ⟨x82, hx82⟩ : ∃ x, a0.tmps.getD 82 undef = x := ⟨_, rfl⟩
                    have p82 := hb.done' 10 82 rfl rfl
                    rw [hx82] at p82
                    obtain ⟨x87, hx87⟩ : ∃ x, a0.tmps.getD 87 undef = x := ⟨_, rfl⟩
                    have p87 := hb.done' 15 87 rfl rfl
                    rw [hx87] at p87
                    have hfr := hb.frame ((4, x4) :: (72, x72) :: (73, ?vi1) :: (74, ?vi2) :: (75, ?vi3) :: (76, (sliced la 0 ii lc 1)) :: (77, x77) :: (78, ?vi6) :: (79, ?vi7) :: (80, (.string ⟨(p : List UInt8).toArray⟩)) :: (81, x81) :: (82, x82) :: (83, ?vi11) :: (84, ?vi12) :: (85, ?vi13) :: (86, (sliced la (ii) n lc 1)) :: (87, x87) :: []) rfl ⟨hx4, hx72, hb.done' 1 73 rfl rfl, hb.done' 2 74 rfl rfl, hb.done' 3 75 rfl rfl, hb.done' 4 76 rfl rfl, hx77, hb.done' 6 78 rfl rfl, hb.done' 7 79 rfl rfl, hb.done' 8 80 rfl rfl, hx81, hx82, hb.done' 11 83 rfl rfl, hb.done' 12 84 rfl rfl, hb.done' 13 85 rfl rfl, hb.done' 14 86 rfl rfl, hx87, trivial⟩
                    simp only [updL, ↓reduceIte, Nat.reduceEqDiff, Nat.reduceAdd, Nat.zero_add] at hfr
                    have HX := Lib.hid hb.ext
                    clear hb
                    subst hfr
                    have ho4 : X.ownsRow 0 9 1 x4 (ii + 1 + (n - ii)) (xs.take ii ++ [sv p] ++ xs.drop ii) := p4
                    rw [show ii + 1 + (n - ii) = n + 1 by have := Hin.out; omega] at ho4
                    have hx4 : xs.take ii ++ [sv p] ++ xs.drop ii = (ps A4).map sv := by rw [← HA4.out, ps_ins, ← Hxs.out]; simp [List.map_take, List.map_drop]
                    rw [hx4] at ho4
                    obtain ⟨a4, c4, rfl⟩ := own_form ho4
                    have HO4 := Lib.hid ho4
                    have Hgx : Hid (Grows w3 X) := HX.out.but.below (Nat.le_refl _) (fun b hb => hb)
                    have Hh4 := Lib.hid (Hh3.out.grows Hgx.out)
                    have Hg4 := Lib.hid (Grows.trans' Hg3.out Hgx.out)
                    clear d1 d2 ho4 hx4 p4
                    obtain ⟨r4, hr4e⟩ : ∃ r4, r - 2 - m = r4 := ⟨_, rfl⟩
                    have Hn4 : Hid (A4.l.length = n + 1) := by show _ = _; rw [← HA4.out, ins_len _ _ _ (by rw [Hn.out]; exact Hin.out), Hn.out]
                    have Hr4 : Hid (freeA A4 = r4) := by show _ = _; rw [← HA4.out, free_ins _ _ _ (by rw [Hn.out]; exact Hin.out), Hr.out, Hm.out, hr4e]
                    rw [show (r : Int) - 2 - (m : Int) = (r4 : Int) by omega]
                    obtain ⟨n4, hn4e⟩ : ∃ n4, n + 1 = n4 := ⟨_, rfl⟩
                    rw [hn4e] at Hn4 HO4 ⊢
                    have hn4 : n4 ≤ 121 := by omega
                    have hr4b : r4 ≤ 241 := by omega
                    clear hr4e hn4e
                    generalize sliced la 0 ii lc 1 = sx1
                    generalize sliced la ii n lc 1 = sx2
                    go_wp2_with fail
                    have HLg : Hid (∀ Y, Grows X Y → Calls Try.prog 18 #[pb g] Y fun e w' => e = .returned (.int .i64 (n4 : Int)) ∧ Y = w') := Lib.hid (fun Y hX => by rw [← Hn4.out]; exact hLen (Hh4.out.grows hX))
                    have HFg : Hid (∀ Y, Grows X Y → Calls Try.prog 19 #[pb g] Y fun e w' => e = .returned (.int .i64 (r4 : Int)) ∧ Grows Y w') := Lib.hid (fun Y hX => by rw [← Hr4.out]; exact hFree (Hh4.out.grows hX))
                    unfold pb at HLg HFg
                    refine (HLg.out _ (Below.refl _ _)).mono ?_
                    rintro e w7 ⟨rfl, rfl⟩
                    go_wp2_with (go_at_call 19; refine (HFg.out _ (Below.refl _ _)).mono ?_; rintro e w8 ⟨rfl, hg8⟩; have Hg8 := Lib.hid hg8; clear hg8)
                    go_loopw [9] (fun t9 wq => ∃ j : Nat, j ≤ n4 ∧ t9 = .int .i64 j ∧ Hid (Grows X wq)) (fun t9 _ => n4 - (intOf t9).toNat)
                    case atStart => exact ⟨0, by omega, rfl, Hg8⟩
                    case round =>
                      obtain ⟨j, hj, rfl, Hgj⟩ := hrel
                      by_cases hjl : j < n4
                      · have hjl' : (j : Int) < (n4 : Int) := by omega
                        have HOj := own_grows HO4.out Hgj.out
                        obtain ⟨gl, rfl⟩ := own_some' HOj (by omega)
                        obtain ⟨c, Hcc⟩ : ∃ c, Hid ((cl A4.l j).p = c) := ⟨_, rfl⟩
                        have cj := own_cell HOj j (.string ⟨c.toArray⟩) (by rw [List.getElem?_map, ps_get _ j (by rw [Hn4.out]; exact hjl), ← Hcc.out]; rfl)
                        have HCg : Hid (∀ X, Grows wr X → Calls Try.prog 20 #[pb g, .int .i64 (j : Int)] X fun e w' => ∃ v, e = .returned v ∧ Byt w' v c ∧ Grows X w') := Lib.hid (fun X hX => hCellB (Hh4.out.grows (Grows.trans' Hgj.out hX)) j (by rw [Hn4.out]; exact hjl) c Hcc.out)
                        unfold pb at HCg
                        clear HOj
                        go_wp2
                        refine specs_region
                          #[[], [], [0, 1], [0, 1, 2], [], [], [4, 5], [4, 5, 6], [0, 1, 2, 3, 4, 5, 6, 7]] #[[3], [9], [], [], [4], [9], [], [], []] #[true, true, true, true, true, true, true, true, true]
                          ((.val ?vitd0) :: (.val ?vitd1) :: (.byt (c)) :: (.val (.string ⟨(c : List UInt8).toArray⟩)) :: (.val ?vitd4) :: (.val ?vitd5) :: (.val ?vitd6) :: (.val ?vitd7) :: (.val ?vitd8) :: []).toArray
                          hmx ?chkitd ?grditd ?stpitd ?rstitd
                        case chkitd => rfl
                        case stpitd =>
                          refine ⟨?_, ?_, ?_, ?_, ?_, ?_, ?_, ?_, ?_, trivial⟩
                          · refine step_intro rfl rfl fun ρ X hc hf hgl hX hp ho => ?_
                            change StepOk _ { dst := _, op := Op.move (Operand.tmp 3), type := _, pos := _, after := _, guard := _ } _ _ _
                            have k3 : ρ (.tmp 3) = .pointer (some ⟨g, 0, none⟩) := ho 3 (by decide)
                            clear hp ho
                            refine StepOk.of_run (v := ?vitd0) (w' := X) ?_ ⟨rfl, Below.refl _ _⟩
                            clear hX
                            go_simp
                            all_goals try go_bits
                            all_goals try simp only [IntWalk.iteOmega]
                            all_goals try go_bits
                            all_goals rfl
                          · refine step_intro rfl rfl fun ρ X hc hf hgl hX hp ho => ?_
                            change StepOk _ { dst := _, op := Op.move (Operand.tmp 9), type := _, pos := _, after := _, guard := _ } _ _ _
                            have k9 : ρ (.tmp 9) = .int .i64 (j : Int) := ho 9 (by decide)
                            clear hp ho
                            refine StepOk.of_run (v := ?vitd1) (w' := X) ?_ ⟨rfl, Below.refl _ _⟩
                            clear hX
                            go_simp
                            all_goals try go_bits
                            all_goals try simp only [IntWalk.iteOmega]
                            all_goals try go_bits
                            all_goals rfl
                          · refine step_intro rfl rfl fun ρ X hc hf hgl hX hp ho => ?_
                            change StepOk _ { dst := _, op := Op.call { callee := Callee.value (Operand.func 20), args := #[Operand.tmp 157, Operand.tmp 158], argTypes := #[25, 3] }, type := _, pos := _, after := _, guard := _ } _ _ _
                            have k157 : ρ (.tmp 157) = ?vitd0 := hp 0 (by decide)
                            have k158 : ρ (.tmp 158) = ?vitd1 := hp 1 (by decide)
                            clear hp ho
                            refine StepOk.of_call (f := 20) (args := #[.pointer (some ⟨g, 0, none⟩), .int .i64 (j : Int)]) (w' := X) ?_ (HCg.out X hX) ?_
                            · go_simp
                              all_goals try rfl
                            · rintro e w'' ⟨v, rfl, hb', hg'⟩; exact ⟨v, rfl, hb', hg'⟩
                          · refine step_intro rfl rfl fun ρ X hc hf hgl hX hp ho => ?_
                            change StepOk _ { dst := _, op := Op.convert 30 9 (Operand.tmp 159), type := _, pos := _, after := _, guard := _ } _ _ _
                            have k159 := hp 2 (by decide)
                            clear hp ho
                            have hr := run_string (P := Try.prog) (T := 30) (e := 5) (S := 9) rfl rfl rfl k159
                            refine StepOk.of_run (v := .string ⟨(c : List UInt8).toArray⟩) (w' := X) ?_ ⟨rfl, Below.refl _ _⟩
                            simp only [execOp, Sem.run_bind, hr, Result.andThen_ok, Sem.run_pure]
                          · refine step_intro rfl rfl fun ρ X hc hf hgl hX hp ho => ?_
                            change StepOk _ { dst := _, op := Op.move (Operand.tmp 4), type := _, pos := _, after := _, guard := _ } _ _ _
                            have k4 : ρ (.tmp 4) = .slice (some ⟨gl, 0, none⟩) n4 c4 := ho 4 (by decide)
                            clear hp ho
                            refine StepOk.of_run (v := ?vitd4) (w' := X) ?_ ⟨rfl, Below.refl _ _⟩
                            clear hX
                            go_simp
                            all_goals try go_bits
                            all_goals try simp only [IntWalk.iteOmega]
                            all_goals try go_bits
                            all_goals rfl
                          · refine step_intro rfl rfl fun ρ X hc hf hgl hX hp ho => ?_
                            change StepOk _ { dst := _, op := Op.move (Operand.tmp 9), type := _, pos := _, after := _, guard := _ } _ _ _
                            have k9 : ρ (.tmp 9) = .int .i64 (j : Int) := ho 9 (by decide)
                            clear hp ho
                            refine StepOk.of_run (v := ?vitd5) (w' := X) ?_ ⟨rfl, Below.refl _ _⟩
                            clear hX
                            go_simp
                            all_goals try go_bits
                            all_goals try simp only [IntWalk.iteOmega]
                            all_goals try go_bits
                            all_goals rfl
                          · refine step_intro rfl rfl fun ρ X hc hf hgl hX hp ho => ?_
                            change StepOk _ { dst := _, op := Op.indexAddr 34 (Operand.tmp 161) (Operand.tmp 162), type := _, pos := _, after := _, guard := _ } _ _ _
                            have k161 : ρ (.tmp 161) = ?vitd4 := hp 4 (by decide)
                            have k162 : ρ (.tmp 162) = ?vitd5 := hp 5 (by decide)
                            clear hp ho
                            refine StepOk.of_run (v := ?vitd6) (w' := X) ?_ ⟨rfl, Below.refl _ _⟩
                            clear hX
                            go_simp
                            all_goals try go_bits
                            all_goals try simp only [IntWalk.iteOmega]
                            all_goals try go_bits
                            all_goals rfl
                          · refine step_intro rfl rfl fun ρ X hc hf hgl hX hp ho => ?_
                            change StepOk _ { dst := _, op := Op.load 9 (Operand.tmp 163), type := _, pos := _, after := _, guard := _ } _ _ _
                            have k163 : ρ (.tmp 163) = ?vitd6 := hp 6 (by decide)
                            have cjX := Grows.cell' hX cj
                            clear hp ho
                            refine StepOk.of_run (v := ?vitd7) (w' := X) ?_ ⟨rfl, Below.refl _ _⟩
                            clear hX
                            go_simp
                            all_goals try go_bits
                            all_goals try simp only [IntWalk.iteOmega]
                            all_goals try go_bits
                            all_goals rfl
                          · refine step_intro rfl rfl fun ρ X hc hf hgl hX hp ho => ?_
                            change StepOk _ { dst := _, op := Op.binOp BinOp.neq 9 (Operand.tmp 160) (Operand.tmp 164) 9, type := _, pos := _, after := _, guard := _ } _ _ _
                            have k160 : ρ (.tmp 160) = (.string ⟨(c : List UInt8).toArray⟩) := hp 3 (by decide)
                            have k164 : ρ (.tmp 164) = ?vitd7 := hp 7 (by decide)
                            clear hp ho
                            refine StepOk.of_run (v := ?vitd8) (w' := X) ?_ ⟨rfl, Below.refl _ _⟩
                            clear hX
                            go_simp
                            all_goals try go_bits
                            all_goals try simp only [IntWalk.iteOmega]
                            all_goals try go_bits
                            all_goals rfl
                        case grditd => rfl
                        case rstitd =>
                          intro a0 X hb
                          obtain ⟨x159, hx159⟩ : ∃ x, a0.tmps.getD 159 undef = x := ⟨_, rfl⟩
                          have p159 := hb.done' 2 159 rfl rfl
                          rw [hx159] at p159
                          have hfr := hb.frame ((157, ?vitd0) :: (158, ?vitd1) :: (159, x159) :: (160, (.string ⟨(c : List UInt8).toArray⟩)) :: (161, ?vitd4) :: (162, ?vitd5) :: (163, ?vitd6) :: (164, ?vitd7) :: (165, ?vitd8) :: []) rfl ⟨hb.done' 0 157 rfl rfl, hb.done' 1 158 rfl rfl, hx159, hb.done' 3 160 rfl rfl, hb.done' 4 161 rfl rfl, hb.done' 5 162 rfl rfl, hb.done' 6 163 rfl rfl, hb.done' 7 164 rfl rfl, hb.done' 8 165 rfl rfl, trivial⟩
                          simp only [updL, ↓reduceIte, Nat.reduceEqDiff, Nat.reduceAdd, Nat.zero_add] at hfr
                          have HX := Lib.hid hb.ext
                          clear hb
                          subst hfr
                          have HgX := Lib.hid (Grows.trans' Hgj.out HX.out)
                          clear cj
                          go_wp2
                          go_roundw
                          case rel => exact ⟨j + 1, by omega, by simp, HgX⟩
                          case measure => simp [intOf]; omega
                      · have hjl' : ¬ (j : Int) < (n4 : Int) := by omega
                        go_wp2
                        go_roundw
                        case rel => exact ⟨k + 1, _, A4, a4, c4, by omega, by simp, by rw [Hr4.out], by rw [Hn4.out], by rw [Hn4.out]; exact Lib.hid (own_grows HO4.out Hgj.out), Lib.hid (Hh4.out.grows Hgj.out), Lib.hid (Grows.trans' Hg4.out Hgj.out)⟩
                        case measure => simp [intOf]; omega
                · have hft' : ¬ (2 : Int) + (m : Int) ≤ (r : Int) := by omega
                  have Hfit : Hid (r < 2 + m) := by show r < 2 + m; omega
                  go_wp2_with (first
                    | (refine wpList_allocD rfl rfl ?_; intro wa hba hga; rw [Hrb.out] at hba ⊢; have Hba := Lib.hid hba; have Hga := Lib.hid hga; clear hba hga)
                    | (refine wpList_storeD rfl (.tmp 7) (.tmp 26) rfl rb _ _ pa m pc rfl rfl 0 0 (.slice none 0 0) Hba.out ?_; intro w2 hb2 hu2; have Hb2 := Lib.hid hb2; have Hg2 := Lib.hid (but_new Hga.out hu2 (by rw [Hrb.out]; exact Nat.le_refl _)); clear hb2 hu2 Hba c0 c1 c2; obtain ⟨d0, d1, d2⟩ := Hb2.out.cells))
                  have Hh2 := Lib.hid (Hh.out.grows Hg2.out)
                  have HO2 := Lib.hid (own_grows HO.out Hg2.out)
                  have Hbp2 := Lib.hid (Hbp.out.grows Hg2.out)
                  have HgT := Lib.hid (Grows.trans' Hgr.out Hg2.out)
                  refine (hInsRoom Hh2.out ii (by rw [Hn.out]; exact Hin.out) pa m pc Hm78.out (by rw [Hr.out]; exact Hfit.out)).mono ?_
                  rintro e w3 ⟨rfl, hg3⟩
                  have Hh3 := Lib.hid (Hh2.out.grows hg3)
                  have Hg3 := Lib.hid (Grows.trans' HgT.out hg3)
                  have HO3 : Hid (w3.ownsRow 0 9 1 (.slice la n lc) n ((ps A).map sv)) := by rw [Hxs.out]; exact Lib.hid (own_grows HO2.out hg3)
                  clear d0 d1 d2 hg3
                  go_wp2_with (first | (go_at_call 13; refine (vNum _ _).mono ?_; rintro e w9 ⟨rfl, rfl⟩))
                  have HLg : Hid (∀ Y, Grows w3 Y → Calls Try.prog 18 #[pb g] Y fun e w' => e = .returned (.int .i64 (n : Int)) ∧ Y = w') := Lib.hid (fun Y hX => by rw [← Hn.out]; exact hLen (Hh3.out.grows hX))
                  have HFg : Hid (∀ Y, Grows w3 Y → Calls Try.prog 19 #[pb g] Y fun e w' => e = .returned (.int .i64 (r : Int)) ∧ Grows Y w') := Lib.hid (fun Y hX => by rw [← Hr.out]; exact hFree (Hh3.out.grows hX))
                  unfold pb at HLg HFg
                  refine (HLg.out _ (Below.refl _ _)).mono ?_
                  rintro e w7 ⟨rfl, rfl⟩
                  go_wp2_with (go_at_call 19; refine (HFg.out _ (Below.refl _ _)).mono ?_; rintro e w8 ⟨rfl, hg8⟩; have Hg8 := Lib.hid hg8; clear hg8)
                  go_loopw [9] (fun t9 wq => ∃ j : Nat, j ≤ n ∧ t9 = .int .i64 j ∧ Hid (Grows w3 wq)) (fun t9 _ => n - (intOf t9).toNat)
                  case atStart => exact ⟨0, by omega, rfl, Hg8⟩
                  case round =>
                    obtain ⟨j, hj, rfl, Hgj⟩ := hrel
                    by_cases hjl : j < n
                    · have hjl' : (j : Int) < (n : Int) := by omega
                      have HOj := own_grows HO3.out Hgj.out
                      obtain ⟨gl, rfl⟩ := own_some' HOj (by omega)
                      obtain ⟨c, Hcc⟩ : ∃ c, Hid ((cl A.l j).p = c) := ⟨_, rfl⟩
                      have cj := own_cell HOj j (.string ⟨c.toArray⟩) (by rw [List.getElem?_map, ps_get _ j (by rw [Hn.out]; exact hjl), ← Hcc.out]; rfl)
                      have HCg : Hid (∀ X, Grows wr X → Calls Try.prog 20 #[pb g, .int .i64 (j : Int)] X fun e w' => ∃ v, e = .returned v ∧ Byt w' v c ∧ Grows X w') := Lib.hid (fun X hX => hCellB (Hh3.out.grows (Grows.trans' Hgj.out hX)) j (by rw [Hn.out]; exact hjl) c Hcc.out)
                      unfold pb at HCg
                      clear HOj
                      go_wp2
                      refine specs_region
                        #[[], [], [0, 1], [0, 1, 2], [], [], [4, 5], [4, 5, 6], [0, 1, 2, 3, 4, 5, 6, 7]] #[[3], [9], [], [], [4], [9], [], [], []] #[true, true, true, true, true, true, true, true, true]
                        ((.val ?vntd0) :: (.val ?vntd1) :: (.byt (c)) :: (.val (.string ⟨(c : List UInt8).toArray⟩)) :: (.val ?vntd4) :: (.val ?vntd5) :: (.val ?vntd6) :: (.val ?vntd7) :: (.val ?vntd8) :: []).toArray
                        hmx ?chkntd ?grdntd ?stpntd ?rstntd
                      case chkntd => rfl
                      case stpntd =>
                        refine ⟨?_, ?_, ?_, ?_, ?_, ?_, ?_, ?_, ?_, trivial⟩
                        · refine step_intro rfl rfl fun ρ X hc hf hgl hX hp ho => ?_
                          change StepOk _ { dst := _, op := Op.move (Operand.tmp 3), type := _, pos := _, after := _, guard := _ } _ _ _
                          have k3 : ρ (.tmp 3) = .pointer (some ⟨g, 0, none⟩) := ho 3 (by decide)
                          clear hp ho
                          refine StepOk.of_run (v := ?vntd0) (w' := X) ?_ ⟨rfl, Below.refl _ _⟩
                          clear hX
                          go_simp
                          all_goals try go_bits
                          all_goals try simp only [IntWalk.iteOmega]
                          all_goals try go_bits
                          all_goals rfl
                        · refine step_intro rfl rfl fun ρ X hc hf hgl hX hp ho => ?_
                          change StepOk _ { dst := _, op := Op.move (Operand.tmp 9), type := _, pos := _, after := _, guard := _ } _ _ _
                          have k9 : ρ (.tmp 9) = .int .i64 (j : Int) := ho 9 (by decide)
                          clear hp ho
                          refine StepOk.of_run (v := ?vntd1) (w' := X) ?_ ⟨rfl, Below.refl _ _⟩
                          clear hX
                          go_simp
                          all_goals try go_bits
                          all_goals try simp only [IntWalk.iteOmega]
                          all_goals try go_bits
                          all_goals rfl
                        · refine step_intro rfl rfl fun ρ X hc hf hgl hX hp ho => ?_
                          change StepOk _ { dst := _, op := Op.call { callee := Callee.value (Operand.func 20), args := #[Operand.tmp 157, Operand.tmp 158], argTypes := #[25, 3] }, type := _, pos := _, after := _, guard := _ } _ _ _
                          have k157 : ρ (.tmp 157) = ?vntd0 := hp 0 (by decide)
                          have k158 : ρ (.tmp 158) = ?vntd1 := hp 1 (by decide)
                          clear hp ho
                          refine StepOk.of_call (f := 20) (args := #[.pointer (some ⟨g, 0, none⟩), .int .i64 (j : Int)]) (w' := X) ?_ (HCg.out X hX) ?_
                          · go_simp
                            all_goals try rfl
                          · rintro e w'' ⟨v, rfl, hb', hg'⟩; exact ⟨v, rfl, hb', hg'⟩
                        · refine step_intro rfl rfl fun ρ X hc hf hgl hX hp ho => ?_
                          change StepOk _ { dst := _, op := Op.convert 30 9 (Operand.tmp 159), type := _, pos := _, after := _, guard := _ } _ _ _
                          have k159 := hp 2 (by decide)
                          clear hp ho
                          have hr := run_string (P := Try.prog) (T := 30) (e := 5) (S := 9) rfl rfl rfl k159
                          refine StepOk.of_run (v := .string ⟨(c : List UInt8).toArray⟩) (w' := X) ?_ ⟨rfl, Below.refl _ _⟩
                          simp only [execOp, Sem.run_bind, hr, Result.andThen_ok, Sem.run_pure]
                        · refine step_intro rfl rfl fun ρ X hc hf hgl hX hp ho => ?_
                          change StepOk _ { dst := _, op := Op.move (Operand.tmp 4), type := _, pos := _, after := _, guard := _ } _ _ _
                          have k4 : ρ (.tmp 4) = .slice (some ⟨gl, 0, none⟩) n lc := ho 4 (by decide)
                          clear hp ho
                          refine StepOk.of_run (v := ?vntd4) (w' := X) ?_ ⟨rfl, Below.refl _ _⟩
                          clear hX
                          go_simp
                          all_goals try go_bits
                          all_goals try simp only [IntWalk.iteOmega]
                          all_goals try go_bits
                          all_goals rfl
                        · refine step_intro rfl rfl fun ρ X hc hf hgl hX hp ho => ?_
                          change StepOk _ { dst := _, op := Op.move (Operand.tmp 9), type := _, pos := _, after := _, guard := _ } _ _ _
                          have k9 : ρ (.tmp 9) = .int .i64 (j : Int) := ho 9 (by decide)
                          clear hp ho
                          refine StepOk.of_run (v := ?vntd5) (w' := X) ?_ ⟨rfl, Below.refl _ _⟩
                          clear hX
                          go_simp
                          all_goals try go_bits
                          all_goals try simp only [IntWalk.iteOmega]
                          all_goals try go_bits
                          all_goals rfl
                        · refine step_intro rfl rfl fun ρ X hc hf hgl hX hp ho => ?_
                          change StepOk _ { dst := _, op := Op.indexAddr 34 (Operand.tmp 161) (Operand.tmp 162), type := _, pos := _, after := _, guard := _ } _ _ _
                          have k161 : ρ (.tmp 161) = ?vntd4 := hp 4 (by decide)
                          have k162 : ρ (.tmp 162) = ?vntd5 := hp 5 (by decide)
                          clear hp ho
                          refine StepOk.of_run (v := ?vntd6) (w' := X) ?_ ⟨rfl, Below.refl _ _⟩
                          clear hX
                          go_simp
                          all_goals try go_bits
                          all_goals try simp only [IntWalk.iteOmega]
                          all_goals try go_bits
                          all_goals rfl
                        · refine step_intro rfl rfl fun ρ X hc hf hgl hX hp ho => ?_
                          change StepOk _ { dst := _, op := Op.load 9 (Operand.tmp 163), type := _, pos := _, after := _, guard := _ } _ _ _
                          have k163 : ρ (.tmp 163) = ?vntd6 := hp 6 (by decide)
                          have cjX := Grows.cell' hX cj
                          clear hp ho
                          refine StepOk.of_run (v := ?vntd7) (w' := X) ?_ ⟨rfl, Below.refl _ _⟩
                          clear hX
                          go_simp
                          all_goals try go_bits
                          all_goals try simp only [IntWalk.iteOmega]
                          all_goals try go_bits
                          all_goals rfl
                        · refine step_intro rfl rfl fun ρ X hc hf hgl hX hp ho => ?_
                          change StepOk _ { dst := _, op := Op.binOp BinOp.neq 9 (Operand.tmp 160) (Operand.tmp 164) 9, type := _, pos := _, after := _, guard := _ } _ _ _
                          have k160 : ρ (.tmp 160) = (.string ⟨(c : List UInt8).toArray⟩) := hp 3 (by decide)
                          have k164 : ρ (.tmp 164) = ?vntd7 := hp 7 (by decide)
                          clear hp ho
                          refine StepOk.of_run (v := ?vntd8) (w' := X) ?_ ⟨rfl, Below.refl _ _⟩
                          clear hX
                          go_simp
                          all_goals try go_bits
                          all_goals try simp only [IntWalk.iteOmega]
                          all_goals try go_bits
                          all_goals rfl
                      case grdntd => rfl
                      case rstntd =>
                        intro a0 X hb
                        obtain ⟨x159, hx159⟩ : ∃ x, a0.tmps.getD 159 undef = x := ⟨_, rfl⟩
                        have p159 := hb.done' 2 159 rfl rfl
                        rw [hx159] at p159
                        have hfr := hb.frame ((157, ?vntd0) :: (158, ?vntd1) :: (159, x159) :: (160, (.string ⟨(c : List UInt8).toArray⟩)) :: (161, ?vntd4) :: (162, ?vntd5) :: (163, ?vntd6) :: (164, ?vntd7) :: (165, ?vntd8) :: []) rfl ⟨hb.done' 0 157 rfl rfl, hb.done' 1 158 rfl rfl, hx159, hb.done' 3 160 rfl rfl, hb.done' 4 161 rfl rfl, hb.done' 5 162 rfl rfl, hb.done' 6 163 rfl rfl, hb.done' 7 164 rfl rfl, hb.done' 8 165 rfl rfl, trivial⟩
                        simp only [updL, ↓reduceIte, Nat.reduceEqDiff, Nat.reduceAdd, Nat.zero_add] at hfr
                        have HX := Lib.hid hb.ext
                        clear hb
                        subst hfr
                        have HgX := Lib.hid (Grows.trans' Hgj.out HX.out)
                        clear cj
                        go_wp2
                        go_roundw
                        case rel => exact ⟨j + 1, by omega, by simp, HgX⟩
                        case measure => simp [intOf]; omega
                    · have hjl' : ¬ (j : Int) < (n : Int) := by omega
                      go_wp2
                      go_roundw
                      case rel => exact ⟨k + 1, f, A, la, lc, by omega, by simp, by rw [Hr.out], by rw [Hn.out], by rw [Hn.out]; exact Lib.hid (own_grows HO3.out Hgj.out), Lib.hid (Hh3.out.grows Hgj.out), Lib.hid (Grows.trans' Hg3.out Hgj.out)⟩
                      case measure => simp [intOf]; omega
        · by_cases h1 : kd = 1
          · subst h1
            by_cases hi0 : i < 0
            · have hi0' : ¬ 0 ≤ i := by omega
              go_wp2_with (first
                | (refine wpList_allocD rfl rfl ?_; intro wa hba hga; rw [Hrb.out] at hba ⊢; have Hba := Lib.hid hba; have Hga := Lib.hid hga; clear hba hga)
                | (refine wpList_storeD rfl (.tmp 7) (.tmp 26) rfl rb _ _ pa m pc rfl rfl 0 0 (.slice none 0 0) Hba.out ?_; intro w2 hb2 hu2; have Hb2 := Lib.hid hb2; have Hg2 := Lib.hid (but_new Hga.out hu2 (by rw [Hrb.out]; exact Nat.le_refl _)); clear hb2 hu2 Hba c0 c1 c2; obtain ⟨d0, d1, d2⟩ := Hb2.out.cells))
              have Hh2 := Lib.hid (Hh.out.grows Hg2.out)
              have HO2 := Lib.hid (own_grows HO.out Hg2.out)
              have Hbp2 := Lib.hid (Hbp.out.grows Hg2.out)
              have HgT := Lib.hid (Grows.trans' Hgr.out Hg2.out)
              have HO2b : Hid (w2.ownsRow 0 9 1 (.slice la n lc) n ((ps A).map sv)) := by rw [Hxs.out]; exact HO2
              clear d0 d1 d2
              have HLg : Hid (∀ Y, Grows w2 Y → Calls Try.prog 18 #[pb g] Y fun e w' => e = .returned (.int .i64 (n : Int)) ∧ Y = w') := Lib.hid (fun Y hX => by rw [← Hn.out]; exact hLen (Hh2.out.grows hX))
              have HFg : Hid (∀ Y, Grows w2 Y → Calls Try.prog 19 #[pb g] Y fun e w' => e = .returned (.int .i64 (r : Int)) ∧ Grows Y w') := Lib.hid (fun Y hX => by rw [← Hr.out]; exact hFree (Hh2.out.grows hX))
              unfold pb at HLg HFg
              refine (HLg.out _ (Below.refl _ _)).mono ?_
              rintro e w7 ⟨rfl, rfl⟩
              go_wp2_with (go_at_call 19; refine (HFg.out _ (Below.refl _ _)).mono ?_; rintro e w8 ⟨rfl, hg8⟩; have Hg8 := Lib.hid hg8; clear hg8)
              go_loopw [9] (fun t9 wq => ∃ j : Nat, j ≤ n ∧ t9 = .int .i64 j ∧ Hid (Grows w2 wq)) (fun t9 _ => n - (intOf t9).toNat)
              case atStart => exact ⟨0, by omega, rfl, Hg8⟩
              case round =>
                obtain ⟨j, hj, rfl, Hgj⟩ := hrel
                by_cases hjl : j < n
                · have hjl' : (j : Int) < (n : Int) := by omega
                  have HOj := own_grows HO2b.out Hgj.out
                  obtain ⟨gl, rfl⟩ := own_some' HOj (by omega)
                  obtain ⟨c, Hcc⟩ : ∃ c, Hid ((cl A.l j).p = c) := ⟨_, rfl⟩
                  have cj := own_cell HOj j (.string ⟨c.toArray⟩) (by rw [List.getElem?_map, ps_get _ j (by rw [Hn.out]; exact hjl), ← Hcc.out]; rfl)
                  have HCg : Hid (∀ X, Grows wr X → Calls Try.prog 20 #[pb g, .int .i64 (j : Int)] X fun e w' => ∃ v, e = .returned v ∧ Byt w' v c ∧ Grows X w') := Lib.hid (fun X hX => hCellB (Hh2.out.grows (Grows.trans' Hgj.out hX)) j (by rw [Hn.out]; exact hjl) c Hcc.out)
                  unfold pb at HCg
                  clear HOj
                  go_wp2
                  refine specs_region
                    #[[], [], [0, 1], [0, 1, 2], [], [], [4, 5], [4, 5, 6], [0, 1, 2, 3, 4, 5, 6, 7]] #[[3], [9], [], [], [4], [9], [], [], []] #[true, true, true, true, true, true, true, true, true]
                    ((.val ?vpfd0) :: (.val ?vpfd1) :: (.byt (c)) :: (.val (.string ⟨(c : List UInt8).toArray⟩)) :: (.val ?vpfd4) :: (.val ?vpfd5) :: (.val ?vpfd6) :: (.val ?vpfd7) :: (.val ?vpfd8) :: []).toArray
                    hmx ?chkpfd ?grdpfd ?stppfd ?rstpfd
                  case chkpfd => rfl
                  case stppfd =>
                    refine ⟨?_, ?_, ?_, ?_, ?_, ?_, ?_, ?_, ?_, trivial⟩
                    · refine step_intro rfl rfl fun ρ X hc hf hgl hX hp ho => ?_
                      change StepOk _ { dst := _, op := Op.move (Operand.tmp 3), type := _, pos := _, after := _, guard := _ } _ _ _
                      have k3 : ρ (.tmp 3) = .pointer (some ⟨g, 0, none⟩) := ho 3 (by decide)
                      clear hp ho
                      refine StepOk.of_run (v := ?vpfd0) (w' := X) ?_ ⟨rfl, Below.refl _ _⟩
                      clear hX
                      go_simp
                      all_goals try go_bits
                      all_goals try simp only [IntWalk.iteOmega]
                      all_goals try go_bits
                      all_goals rfl
                    · refine step_intro rfl rfl fun ρ X hc hf hgl hX hp ho => ?_
                      change StepOk _ { dst := _, op := Op.move (Operand.tmp 9), type := _, pos := _, after := _, guard := _ } _ _ _
                      have k9 : ρ (.tmp 9) = .int .i64 (j : Int) := ho 9 (by decide)
                      clear hp ho
                      refine StepOk.of_run (v := ?vpfd1) (w' := X) ?_ ⟨rfl, Below.refl _ _⟩
                      clear hX
                      go_simp
                      all_goals try go_bits
                      all_goals try simp only [IntWalk.iteOmega]
                      all_goals try go_bits
                      all_goals rfl
                    · refine step_intro rfl rfl fun ρ X hc hf hgl hX hp ho => ?_
                      change StepOk _ { dst := _, op := Op.call { callee := Callee.value (Operand.func 20), args := #[Operand.tmp 157, Operand.tmp 158], argTypes := #[25, 3] }, type := _, pos := _, after := _, guard := _ } _ _ _
                      have k157 : ρ (.tmp 157) = ?vpfd0 := hp 0 (by decide)
                      have k158 : ρ (.tmp 158) = ?vpfd1 := hp 1 (by decide)
                      clear hp ho
                      refine StepOk.of_call (f := 20) (args := #[.pointer (some ⟨g, 0, none⟩), .int .i64 (j : Int)]) (w' := X) ?_ (HCg.out X hX) ?_
                      · go_simp
                        all_goals try rfl
                      · rintro e w'' ⟨v, rfl, hb', hg'⟩; exact ⟨v, rfl, hb', hg'⟩
                    · refine step_intro rfl rfl fun ρ X hc hf hgl hX hp ho => ?_
                      change StepOk _ { dst := _, op := Op.convert 30 9 (Operand.tmp 159), type := _, pos := _, after := _, guard := _ } _ _ _
                      have k159 := hp 2 (by decide)
                      clear hp ho
                      have hr := run_string (P := Try.prog) (T := 30) (e := 5) (S := 9) rfl rfl rfl k159
                      refine StepOk.of_run (v := .string ⟨(c : List UInt8).toArray⟩) (w' := X) ?_ ⟨rfl, Below.refl _ _⟩
                      simp only [execOp, Sem.run_bind, hr, Result.andThen_ok, Sem.run_pure]
                    · refine step_intro rfl rfl fun ρ X hc hf hgl hX hp ho => ?_
                      change StepOk _ { dst := _, op := Op.move (Operand.tmp 4), type := _, pos := _, after := _, guard := _ } _ _ _
                      have k4 : ρ (.tmp 4) = .slice (some ⟨gl, 0, none⟩) n lc := ho 4 (by decide)
                      clear hp ho
                      refine StepOk.of_run (v := ?vpfd4) (w' := X) ?_ ⟨rfl, Below.refl _ _⟩
                      clear hX
                      go_simp
                      all_goals try go_bits
                      all_goals try simp only [IntWalk.iteOmega]
                      all_goals try go_bits
                      all_goals rfl
                    · refine step_intro rfl rfl fun ρ X hc hf hgl hX hp ho => ?_
                      change StepOk _ { dst := _, op := Op.move (Operand.tmp 9), type := _, pos := _, after := _, guard := _ } _ _ _
                      have k9 : ρ (.tmp 9) = .int .i64 (j : Int) := ho 9 (by decide)
                      clear hp ho
                      refine StepOk.of_run (v := ?vpfd5) (w' := X) ?_ ⟨rfl, Below.refl _ _⟩
                      clear hX
                      go_simp
                      all_goals try go_bits
                      all_goals try simp only [IntWalk.iteOmega]
                      all_goals try go_bits
                      all_goals rfl
                    · refine step_intro rfl rfl fun ρ X hc hf hgl hX hp ho => ?_
                      change StepOk _ { dst := _, op := Op.indexAddr 34 (Operand.tmp 161) (Operand.tmp 162), type := _, pos := _, after := _, guard := _ } _ _ _
                      have k161 : ρ (.tmp 161) = ?vpfd4 := hp 4 (by decide)
                      have k162 : ρ (.tmp 162) = ?vpfd5 := hp 5 (by decide)
                      clear hp ho
                      refine StepOk.of_run (v := ?vpfd6) (w' := X) ?_ ⟨rfl, Below.refl _ _⟩
                      clear hX
                      go_simp
                      all_goals try go_bits
                      all_goals try simp only [IntWalk.iteOmega]
                      all_goals try go_bits
                      all_goals rfl
                    · refine step_intro rfl rfl fun ρ X hc hf hgl hX hp ho => ?_
                      change StepOk _ { dst := _, op := Op.load 9 (Operand.tmp 163), type := _, pos := _, after := _, guard := _ } _ _ _
                      have k163 : ρ (.tmp 163) = ?vpfd6 := hp 6 (by decide)
                      have cjX := Grows.cell' hX cj
                      clear hp ho
                      refine StepOk.of_run (v := ?vpfd7) (w' := X) ?_ ⟨rfl, Below.refl _ _⟩
                      clear hX
                      go_simp
                      all_goals try go_bits
                      all_goals try simp only [IntWalk.iteOmega]
                      all_goals try go_bits
                      all_goals rfl
                    · refine step_intro rfl rfl fun ρ X hc hf hgl hX hp ho => ?_
                      change StepOk _ { dst := _, op := Op.binOp BinOp.neq 9 (Operand.tmp 160) (Operand.tmp 164) 9, type := _, pos := _, after := _, guard := _ } _ _ _
                      have k160 : ρ (.tmp 160) = (.string ⟨(c : List UInt8).toArray⟩) := hp 3 (by decide)
                      have k164 : ρ (.tmp 164) = ?vpfd7 := hp 7 (by decide)
                      clear hp ho
                      refine StepOk.of_run (v := ?vpfd8) (w' := X) ?_ ⟨rfl, Below.refl _ _⟩
                      clear hX
                      go_simp
                      all_goals try go_bits
                      all_goals try simp only [IntWalk.iteOmega]
                      all_goals try go_bits
                      all_goals rfl
                  case grdpfd => rfl
                  case rstpfd =>
                    intro a0 X hb
                    obtain ⟨x159, hx159⟩ : ∃ x, a0.tmps.getD 159 undef = x := ⟨_, rfl⟩
                    have p159 := hb.done' 2 159 rfl rfl
                    rw [hx159] at p159
                    have hfr := hb.frame ((157, ?vpfd0) :: (158, ?vpfd1) :: (159, x159) :: (160, (.string ⟨(c : List UInt8).toArray⟩)) :: (161, ?vpfd4) :: (162, ?vpfd5) :: (163, ?vpfd6) :: (164, ?vpfd7) :: (165, ?vpfd8) :: []) rfl ⟨hb.done' 0 157 rfl rfl, hb.done' 1 158 rfl rfl, hx159, hb.done' 3 160 rfl rfl, hb.done' 4 161 rfl rfl, hb.done' 5 162 rfl rfl, hb.done' 6 163 rfl rfl, hb.done' 7 164 rfl rfl, hb.done' 8 165 rfl rfl, trivial⟩
                    simp only [updL, ↓reduceIte, Nat.reduceEqDiff, Nat.reduceAdd, Nat.zero_add] at hfr
                    have HX := Lib.hid hb.ext
                    clear hb
                    subst hfr
                    have HgX := Lib.hid (Grows.trans' Hgj.out HX.out)
                    clear cj
                    go_wp2
                    go_roundw
                    case rel => exact ⟨j + 1, by omega, by simp, HgX⟩
                    case measure => simp [intOf]; omega
                · have hjl' : ¬ (j : Int) < (n : Int) := by omega
                  go_wp2
                  go_roundw
                  case rel => exact ⟨k + 1, f, A, la, lc, by omega, by simp, by rw [Hr.out], by rw [Hn.out], by rw [Hn.out]; exact Lib.hid (own_grows HO2b.out Hgj.out), Lib.hid (Hh2.out.grows Hgj.out), Lib.hid (Grows.trans' HgT.out Hgj.out)⟩
                  case measure => simp [intOf]; omega
            · obtain ⟨ii, rfl⟩ := Int.eq_ofNat_of_zero_le (show 0 ≤ i by omega)
              by_cases hin : n ≤ ii
              · have hin' : ¬ (ii : Int) < (n : Int) := by omega
                go_wp2_with (first
                  | (refine wpList_allocD rfl rfl ?_; intro wa hba hga; rw [Hrb.out] at hba ⊢; have Hba := Lib.hid hba; have Hga := Lib.hid hga; clear hba hga)
                  | (refine wpList_storeD rfl (.tmp 7) (.tmp 26) rfl rb _ _ pa m pc rfl rfl 0 0 (.slice none 0 0) Hba.out ?_; intro w2 hb2 hu2; have Hb2 := Lib.hid hb2; have Hg2 := Lib.hid (but_new Hga.out hu2 (by rw [Hrb.out]; exact Nat.le_refl _)); clear hb2 hu2 Hba c0 c1 c2; obtain ⟨d0, d1, d2⟩ := Hb2.out.cells))
                have Hh2 := Lib.hid (Hh.out.grows Hg2.out)
                have HO2 := Lib.hid (own_grows HO.out Hg2.out)
                have Hbp2 := Lib.hid (Hbp.out.grows Hg2.out)
                have HgT := Lib.hid (Grows.trans' Hgr.out Hg2.out)
                have HO2b : Hid (w2.ownsRow 0 9 1 (.slice la n lc) n ((ps A).map sv)) := by rw [Hxs.out]; exact HO2
                clear d0 d1 d2
                have HLg : Hid (∀ Y, Grows w2 Y → Calls Try.prog 18 #[pb g] Y fun e w' => e = .returned (.int .i64 (n : Int)) ∧ Y = w') := Lib.hid (fun Y hX => by rw [← Hn.out]; exact hLen (Hh2.out.grows hX))
                have HFg : Hid (∀ Y, Grows w2 Y → Calls Try.prog 19 #[pb g] Y fun e w' => e = .returned (.int .i64 (r : Int)) ∧ Grows Y w') := Lib.hid (fun Y hX => by rw [← Hr.out]; exact hFree (Hh2.out.grows hX))
                unfold pb at HLg HFg
                refine (HLg.out _ (Below.refl _ _)).mono ?_
                rintro e w7 ⟨rfl, rfl⟩
                go_wp2_with (go_at_call 19; refine (HFg.out _ (Below.refl _ _)).mono ?_; rintro e w8 ⟨rfl, hg8⟩; have Hg8 := Lib.hid hg8; clear hg8)
                go_loopw [9] (fun t9 wq => ∃ j : Nat, j ≤ n ∧ t9 = .int .i64 j ∧ Hid (Grows w2 wq)) (fun t9 _ => n - (intOf t9).toNat)
                case atStart => exact ⟨0, by omega, rfl, Hg8⟩
                case round =>
                  obtain ⟨j, hj, rfl, Hgj⟩ := hrel
                  by_cases hjl : j < n
                  · have hjl' : (j : Int) < (n : Int) := by omega
                    have HOj := own_grows HO2b.out Hgj.out
                    obtain ⟨gl, rfl⟩ := own_some' HOj (by omega)
                    obtain ⟨c, Hcc⟩ : ∃ c, Hid ((cl A.l j).p = c) := ⟨_, rfl⟩
                    have cj := own_cell HOj j (.string ⟨c.toArray⟩) (by rw [List.getElem?_map, ps_get _ j (by rw [Hn.out]; exact hjl), ← Hcc.out]; rfl)
                    have HCg : Hid (∀ X, Grows wr X → Calls Try.prog 20 #[pb g, .int .i64 (j : Int)] X fun e w' => ∃ v, e = .returned v ∧ Byt w' v c ∧ Grows X w') := Lib.hid (fun X hX => hCellB (Hh2.out.grows (Grows.trans' Hgj.out hX)) j (by rw [Hn.out]; exact hjl) c Hcc.out)
                    unfold pb at HCg
                    clear HOj
                    go_wp2
                    refine specs_region
                      #[[], [], [0, 1], [0, 1, 2], [], [], [4, 5], [4, 5, 6], [0, 1, 2, 3, 4, 5, 6, 7]] #[[3], [9], [], [], [4], [9], [], [], []] #[true, true, true, true, true, true, true, true, true]
                      ((.val ?vpgd0) :: (.val ?vpgd1) :: (.byt (c)) :: (.val (.string ⟨(c : List UInt8).toArray⟩)) :: (.val ?vpgd4) :: (.val ?vpgd5) :: (.val ?vpgd6) :: (.val ?vpgd7) :: (.val ?vpgd8) :: []).toArray
                      hmx ?chkpgd ?grdpgd ?stppgd ?rstpgd
                    case chkpgd => rfl
                    case stppgd =>
                      refine ⟨?_, ?_, ?_, ?_, ?_, ?_, ?_, ?_, ?_, trivial⟩
                      · refine step_intro rfl rfl fun ρ X hc hf hgl hX hp ho => ?_
                        change StepOk _ { dst := _, op := Op.move (Operand.tmp 3), type := _, pos := _, after := _, guard := _ } _ _ _
                        have k3 : ρ (.tmp 3) = .pointer (some ⟨g, 0, none⟩) := ho 3 (by decide)
                        clear hp ho
                        refine StepOk.of_run (v := ?vpgd0) (w' := X) ?_ ⟨rfl, Below.refl _ _⟩
                        clear hX
                        go_simp
                        all_goals try go_bits
                        all_goals try simp only [IntWalk.iteOmega]
                        all_goals try go_bits
                        all_goals rfl
                      · refine step_intro rfl rfl fun ρ X hc hf hgl hX hp ho => ?_
                        change StepOk _ { dst := _, op := Op.move (Operand.tmp 9), type := _, pos := _, after := _, guard := _ } _ _ _
                        have k9 : ρ (.tmp 9) = .int .i64 (j : Int) := ho 9 (by decide)
                        clear hp ho
                        refine StepOk.of_run (v := ?vpgd1) (w' := X) ?_ ⟨rfl, Below.refl _ _⟩
                        clear hX
                        go_simp
                        all_goals try go_bits
                        all_goals try simp only [IntWalk.iteOmega]
                        all_goals try go_bits
                        all_goals rfl
                      · refine step_intro rfl rfl fun ρ X hc hf hgl hX hp ho => ?_
                        change StepOk _ { dst := _, op := Op.call { callee := Callee.value (Operand.func 20), args := #[Operand.tmp 157, Operand.tmp 158], argTypes := #[25, 3] }, type := _, pos := _, after := _, guard := _ } _ _ _
                        have k157 : ρ (.tmp 157) = ?vpgd0 := hp 0 (by decide)
                        have k158 : ρ (.tmp 158) = ?vpgd1 := hp 1 (by decide)
                        clear hp ho
                        refine StepOk.of_call (f := 20) (args := #[.pointer (some ⟨g, 0, none⟩), .int .i64 (j : Int)]) (w' := X) ?_ (HCg.out X hX) ?_
                        · go_simp
                          all_goals try rfl
                        · rintro e w'' ⟨v, rfl, hb', hg'⟩; exact ⟨v, rfl, hb', hg'⟩
                      · refine step_intro rfl rfl fun ρ X hc hf hgl hX hp ho => ?_
                        change StepOk _ { dst := _, op := Op.convert 30 9 (Operand.tmp 159), type := _, pos := _, after := _, guard := _ } _ _ _
                        have k159 := hp 2 (by decide)
                        clear hp ho
                        have hr := run_string (P := Try.prog) (T := 30) (e := 5) (S := 9) rfl rfl rfl k159
                        refine StepOk.of_run (v := .string ⟨(c : List UInt8).toArray⟩) (w' := X) ?_ ⟨rfl, Below.refl _ _⟩
                        simp only [execOp, Sem.run_bind, hr, Result.andThen_ok, Sem.run_pure]
                      · refine step_intro rfl rfl fun ρ X hc hf hgl hX hp ho => ?_
                        change StepOk _ { dst := _, op := Op.move (Operand.tmp 4), type := _, pos := _, after := _, guard := _ } _ _ _
                        have k4 : ρ (.tmp 4) = .slice (some ⟨gl, 0, none⟩) n lc := ho 4 (by decide)
                        clear hp ho
                        refine StepOk.of_run (v := ?vpgd4) (w' := X) ?_ ⟨rfl, Below.refl _ _⟩
                        clear hX
                        go_simp
                        all_goals try go_bits
                        all_goals try simp only [IntWalk.iteOmega]
                        all_goals try go_bits
                        all_goals rfl
                      · refine step_intro rfl rfl fun ρ X hc hf hgl hX hp ho => ?_
                        change StepOk _ { dst := _, op := Op.move (Operand.tmp 9), type := _, pos := _, after := _, guard := _ } _ _ _
                        have k9 : ρ (.tmp 9) = .int .i64 (j : Int) := ho 9 (by decide)
                        clear hp ho
                        refine StepOk.of_run (v := ?vpgd5) (w' := X) ?_ ⟨rfl, Below.refl _ _⟩
                        clear hX
                        go_simp
                        all_goals try go_bits
                        all_goals try simp only [IntWalk.iteOmega]
                        all_goals try go_bits
                        all_goals rfl
                      · refine step_intro rfl rfl fun ρ X hc hf hgl hX hp ho => ?_
                        change StepOk _ { dst := _, op := Op.indexAddr 34 (Operand.tmp 161) (Operand.tmp 162), type := _, pos := _, after := _, guard := _ } _ _ _
                        have k161 : ρ (.tmp 161) = ?vpgd4 := hp 4 (by decide)
                        have k162 : ρ (.tmp 162) = ?vpgd5 := hp 5 (by decide)
                        clear hp ho
                        refine StepOk.of_run (v := ?vpgd6) (w' := X) ?_ ⟨rfl, Below.refl _ _⟩
                        clear hX
                        go_simp
                        all_goals try go_bits
                        all_goals try simp only [IntWalk.iteOmega]
                        all_goals try go_bits
                        all_goals rfl
                      · refine step_intro rfl rfl fun ρ X hc hf hgl hX hp ho => ?_
                        change StepOk _ { dst := _, op := Op.load 9 (Operand.tmp 163), type := _, pos := _, after := _, guard := _ } _ _ _
                        have k163 : ρ (.tmp 163) = ?vpgd6 := hp 6 (by decide)
                        have cjX := Grows.cell' hX cj
                        clear hp ho
                        refine StepOk.of_run (v := ?vpgd7) (w' := X) ?_ ⟨rfl, Below.refl _ _⟩
                        clear hX
                        go_simp
                        all_goals try go_bits
                        all_goals try simp only [IntWalk.iteOmega]
                        all_goals try go_bits
                        all_goals rfl
                      · refine step_intro rfl rfl fun ρ X hc hf hgl hX hp ho => ?_
                        change StepOk _ { dst := _, op := Op.binOp BinOp.neq 9 (Operand.tmp 160) (Operand.tmp 164) 9, type := _, pos := _, after := _, guard := _ } _ _ _
                        have k160 : ρ (.tmp 160) = (.string ⟨(c : List UInt8).toArray⟩) := hp 3 (by decide)
                        have k164 : ρ (.tmp 164) = ?vpgd7 := hp 7 (by decide)
                        clear hp ho
                        refine StepOk.of_run (v := ?vpgd8) (w' := X) ?_ ⟨rfl, Below.refl _ _⟩
                        clear hX
                        go_simp
                        all_goals try go_bits
                        all_goals try simp only [IntWalk.iteOmega]
                        all_goals try go_bits
                        all_goals rfl
                    case grdpgd => rfl
                    case rstpgd =>
                      intro a0 X hb
                      obtain ⟨x159, hx159⟩ : ∃ x, a0.tmps.getD 159 undef = x := ⟨_, rfl⟩
                      have p159 := hb.done' 2 159 rfl rfl
                      rw [hx159] at p159
                      have hfr := hb.frame ((157, ?vpgd0) :: (158, ?vpgd1) :: (159, x159) :: (160, (.string ⟨(c : List UInt8).toArray⟩)) :: (161, ?vpgd4) :: (162, ?vpgd5) :: (163, ?vpgd6) :: (164, ?vpgd7) :: (165, ?vpgd8) :: []) rfl ⟨hb.done' 0 157 rfl rfl, hb.done' 1 158 rfl rfl, hx159, hb.done' 3 160 rfl rfl, hb.done' 4 161 rfl rfl, hb.done' 5 162 rfl rfl, hb.done' 6 163 rfl rfl, hb.done' 7 164 rfl rfl, hb.done' 8 165 rfl rfl, trivial⟩
                      simp only [updL, ↓reduceIte, Nat.reduceEqDiff, Nat.reduceAdd, Nat.zero_add] at hfr
                      have HX := Lib.hid hb.ext
                      clear hb
                      subst hfr
                      have HgX := Lib.hid (Grows.trans' Hgj.out HX.out)
                      clear cj
                      go_wp2
                      go_roundw
                      case rel => exact ⟨j + 1, by omega, by simp, HgX⟩
                      case measure => simp [intOf]; omega
                  · have hjl' : ¬ (j : Int) < (n : Int) := by omega
                    go_wp2
                    go_roundw
                    case rel => exact ⟨k + 1, f, A, la, lc, by omega, by simp, by rw [Hr.out], by rw [Hn.out], by rw [Hn.out]; exact Lib.hid (own_grows HO2b.out Hgj.out), Lib.hid (Hh2.out.grows Hgj.out), Lib.hid (Grows.trans' HgT.out Hgj.out)⟩
                    case measure => simp [intOf]; omega
              · have hin' : (ii : Int) < (n : Int) := by omega
                have Hin1 : Hid (ii + 1 ≤ n) := by show ii + 1 ≤ n; omega
                go_wp2_with (first
                  | (refine wpList_allocD rfl rfl ?_; intro wa hba hga; rw [Hrb.out] at hba ⊢; have Hba := Lib.hid hba; have Hga := Lib.hid hga; clear hba hga)
                  | (refine wpList_storeD rfl (.tmp 7) (.tmp 26) rfl rb _ _ pa m pc rfl rfl 0 0 (.slice none 0 0) Hba.out ?_; intro w2 hb2 hu2; have Hb2 := Lib.hid hb2; have Hg2 := Lib.hid (but_new Hga.out hu2 (by rw [Hrb.out]; exact Nat.le_refl _)); clear hb2 hu2 Hba c0 c1 c2; obtain ⟨d0, d1, d2⟩ := Hb2.out.cells))
                have Hh2 := Lib.hid (Hh.out.grows Hg2.out)
                have HO2 := Lib.hid (own_grows HO.out Hg2.out)
                have Hbp2 := Lib.hid (Hbp.out.grows Hg2.out)
                have HgT := Lib.hid (Grows.trans' Hgr.out Hg2.out)
                refine (hDelYes Hh2.out ii (by rw [Hn.out]; exact Hin1.out)).mono ?_
                rintro e w3 ⟨rfl, ⟨f3, hh3⟩, hu3⟩
                obtain ⟨A4, HA4⟩ : ∃ A4, Hid (delA A ii = A4) := ⟨_, rfl⟩
                rw [HA4.out] at hh3
                have Hh3 := Lib.hid hh3
                have Hg3 := Lib.hid (but_new HgT.out hu3 (by rw [Hg.out]; exact Nat.le_refl _))
                have HO3 := Lib.hid (own_at HO2.out Hh2.out.at_ hu3)
                have hb3 : DeedAt w3 rb 1 ii (.slice pa m pc) := hu3.blockEq Hrg.out Hb2.out
                have Hrw : Hid (¬ (w3.heap.size ≤ rb)) := by have := (Array.getElem?_eq_some_iff.1 hb3).1; show ¬ _; omega
                clear d0 d1 d2 hh3 hu3 HO2
                obtain ⟨d0, d1, d2⟩ := hb3.cells
                clear hb3
                have Hnlc : Hid (n ≤ lc) := by rcases HO3.out.2 with ⟨e1, h0⟩ | ⟨_, _, _, e1, _, _, h1, _⟩ <;> (simp only [Value.slice.injEq, true_and] at e1; show n ≤ lc; omega)
                have Hin : Hid (ii ≤ n) := by have := Hin1.out; show ii ≤ n; omega
                have HL3 : Hid (∀ p' ∈ [(0, []), (ii, xs.take ii)], p'.1 ≤ ii ∨ (p'.1 ≤ ii + (n - (ii + 1)) ∧ p'.2 = (xs.take ii ++ xs.drop (ii + 1)).take (p'.1 * 1))) := by show ∀ _, _; intro p' hp'; simp at hp'; rcases hp' with rfl | rfl <;> (left; simp)
                obtain ⟨cI, HcI⟩ : ∃ c, Hid ((cl A.l ii).p = c) := ⟨_, rfl⟩
                have hs78 : cI.length ≤ 78 := by rw [← HcI.out]; exact Hh2.out.wf.len ii (by rw [Hn.out]; exact Hin1.out)
                obtain ⟨gl, rfl⟩ := own_some' HO3.out (by have := Hin1.out; omega)
                have ci := own_cell HO3.out ii (.string ⟨cI.toArray⟩) (by rw [← Hxs.out, List.getElem?_map, ps_get _ ii (by rw [Hn.out]; exact Hin1.out), HcI.out]; rfl)
                go_wp2_with (first | (go_at_call 13; refine (vNum _ _).mono ?_; rintro e w9 ⟨rfl, rfl⟩))
                clear ci
                refine region_L (E := (EApp (fun b => w3.heap.size ≤ b) 9 1 [(0, []), (ii, xs.take ii)])) (EApp.ok _ _ _ _) EApp.ofGrows
                  #[[], [], [], [2], [1, 2, 3], [0, 1, 2, 3, 4], [], [], [7], [7, 8], [6, 7, 8, 9], [0, 1, 2, 3, 4, 5, 6, 7, 8, 9, 10], [0, 1, 2, 3, 4, 5, 6, 7, 8, 9, 10, 11]] #[[], [4], [7], [], [], [], [4], [7], [], [], [], [], []] #[true, true, true, true, true, true, true, true, true, true, true, true, true]
                  ((.pred (fun v W => W.ownsRow 0 9 1 v 0 [] ∧ ∃ g, v = .slice (some ⟨g, 0, none⟩) 0 0 ∧ w3.heap.size ≤ g) (fun v a b h ho => ⟨EApp.own (by simp) v a b h ho.1, ho.2⟩)) :: (.val ?ve1) :: (.val ?ve2) :: (.val ?ve3) :: (.val (sliced (some ⟨gl, 0, none⟩) 0 ii lc 1)) :: (.pred (fun v W => W.ownsRow 0 9 1 v ii (xs.take ii) ∧ ∀ j, v.ownBlock = some j → w3.heap.size ≤ j) (fun v a b h ho => ⟨EApp.own (by simp) v a b h ho.1, ho.2⟩)) :: (.val ?ve6) :: (.val ?ve7) :: (.val ?ve8) :: (.val ?ve9) :: (.val (sliced (some ⟨gl, 0, none⟩) (ii + 1) n lc 1)) :: (.frag (fun v W => W.ownsRow 0 9 1 v (ii + (n - (ii + 1))) (xs.take ii ++ xs.drop (ii + 1)) ∧ ∀ j, v.ownBlock = some j → w3.heap.size ≤ j) (fun v a b h ho => ⟨own_grows ho.1 h, ho.2⟩)) :: (.frag (fun v W => W.ownsRow 0 9 1 v (ii + (n - (ii + 1))) (xs.take ii ++ xs.drop (ii + 1))) (fun v a b h ho => own_grows ho h)) :: []).toArray
                  (noState [11])
                  (fun _ _ _ _ _ _ _ _ => trivial)
                  (fun _ _ => trivial)
                  hmx ?chke rfl rfl ?grde ?stpe ?rste
                case chke => rfl
                case stpe =>
                  refine ⟨?_, ?_, ?_, ?_, ?_, ?_, ?_, ?_, ?_, ?_, ?_, ?_, ?_, trivial⟩
                  · refine step_introK rfl rfl fun ρ X hc hf hgl hX hp ho hu => ?_
                    change StepOk _ { dst := _, op := Op.buildSlice 34 0 #[], type := _, pos := _, after := _, guard := _ } _ _ _
                    refine stepK_plain (i := 0) rfl ?_
                    clear hu
                    clear hp ho
                    refine StepOk.of_run (v := .slice (some ⟨X.heap.size, 0, none⟩) 0 0) (w' := X.alloc (.cells #[] 9)) ?_ ⟨⟨⟨by simp, .inr ⟨X.heap.size, 0, #[], rfl, Nat.zero_le _, heap_alloc_new X _, Nat.le_refl _, by simp [maxLen], by simp, by simp⟩⟩, _, rfl, hX.but.size⟩, Grows.alloc' _ _⟩
                    simp [go_sem, execOp, hc]
                  · refine step_introK rfl rfl fun ρ X hc hf hgl hX hp ho hu => ?_
                    change StepOk _ { dst := _, op := Op.move (Operand.tmp 4), type := _, pos := _, after := _, guard := _ } _ _ _
                    have k4 : ρ (.tmp 4) = .slice (some ⟨gl, 0, none⟩) n lc := ho 4 (by decide)
                    refine stepK_plain (i := 1) rfl ?_
                    clear hu
                    clear hp ho
                    refine StepOk.of_run (v := ?ve1) (w' := X) ?_ ⟨rfl, Below.refl _ _⟩
                    clear hX
                    go_simp
                    all_goals try go_bits
                    all_goals try simp only [IntWalk.iteOmega]
                    all_goals try go_bits
                    all_goals rfl
                  · refine step_introK rfl rfl fun ρ X hc hf hgl hX hp ho hu => ?_
                    change StepOk _ { dst := _, op := Op.fieldAddr 32 (Operand.tmp 7) 1, type := _, pos := _, after := _, guard := _ } _ _ _
                    have k7 : ρ (.tmp 7) = .pointer (some ⟨rb, 0, none⟩) := ho 7 (by decide)
                    refine stepK_plain (i := 2) rfl ?_
                    clear hu
                    clear hp ho
                    refine StepOk.of_run (v := ?ve2) (w' := X) ?_ ⟨rfl, Below.refl _ _⟩
                    clear hX
                    go_simp
                    all_goals try go_bits
                    all_goals try simp only [IntWalk.iteOmega]
                    all_goals try go_bits
                    all_goals rfl
                  · refine step_introK rfl rfl fun ρ X hc hf hgl hX hp ho hu => ?_
                    change StepOk _ { dst := _, op := Op.load 3 (Operand.tmp 121), type := _, pos := _, after := _, guard := _ } _ _ _
                    have k121 : ρ (.tmp 121) = ?ve2 := hp 2 (by decide)
                    refine stepK_plain (i := 3) rfl ?_
                    clear hu
                    have d1X := hX.but.cell (p := ⟨rb, _, none⟩) Hrw.out d1
                    clear hp ho
                    refine StepOk.of_run (v := ?ve3) (w' := X) ?_ ⟨rfl, Below.refl _ _⟩
                    clear hX
                    go_simp
                    all_goals try go_bits
                    all_goals try simp only [IntWalk.iteOmega]
                    all_goals try go_bits
                    all_goals rfl
                  · refine step_introK rfl rfl fun ρ X hc hf hgl hX hp ho hu => ?_
                    change StepOk _ { dst := _, op := Op.slice 34 (Operand.tmp 120) none (some (Operand.tmp 122)) none, type := _, pos := _, after := _, guard := _ } _ _ _
                    have k120 : ρ (.tmp 120) = ?ve1 := hp 1 (by decide)
                    have k122 : ρ (.tmp 122) = ?ve3 := hp 3 (by decide)
                    refine stepK_plain (i := 4) rfl ?_
                    clear hu
                    clear hp ho
                    have hs := run_slSh X (some ⟨gl, 0, none⟩) n lc ii Hin.out Hnlc.out
                    refine StepOk.of_run (v := sliced (some ⟨gl, 0, none⟩) 0 ii lc 1) (w' := X) ?_ ⟨rfl, Below.refl _ _⟩
                    simp only [execOp, Option.map_some, Option.map_none, k120, k122, Sem.run_bind, hs, Result.andThen_ok, Sem.run_pure]
                  · refine step_introK rfl rfl fun ρ X hc hf hgl hX hp ho hu => ?_
                    change StepOk _ { dst := _, op := Op.call { callee := Callee.builtin Builtin.append, args := #[Operand.tmp 119, Operand.tmp 123], argTypes := #[34, 34] }, type := _, pos := _, after := _, guard := _ } _ _ _
                    have k119 := hp 0 (by decide)
                    have k123 : ρ (.tmp 123) = (sliced (some ⟨gl, 0, none⟩) 0 ii lc 1) := hp 4 (by decide)
                    refine stepK_plain (i := 5) rfl ?_
                    clear hu
                    clear hp ho
                    obtain ⟨ho0, g0, e0, hge0⟩ := k119
                    rw [e0] at ho0
                    have hpx := own_but (own_prefix HO3.out Hin.out) hX.but (fun j hj => by have := own_lt (own_prefix HO3.out Hin.out) j hj; omega)
                    rw [Nat.mul_one] at hpx
                    obtain ⟨v', W', hr, ho', hg', hat, _⟩ := run_append_z (P := Try.prog) X 34 34 9 is (.string ⟨#[]⟩) 1 16 Try.underlying34 his hzs0 hzs1 hzs2 rfl (by omega) g0 ho0 (sliced (some ⟨gl, 0, none⟩) 0 ii lc 1) ii _ hpx (fun u hu => Hone.out u (List.mem_of_mem_take hu)) (by unfold maxLen; omega) (by omega)
                    refine StepOk.of_run (v := v') (w' := W') ?_ ⟨⟨ho', ?_⟩, hg'⟩
                    · simp only [execOp, resolve, invoke, builtin, Sem.run_bind, Sem.run_pure, Result.andThen_ok, List.map_toArray, List.map_cons, List.map_nil, e0, k123, hr]
                    · intro j hj; rcases hat with h | h <;> (rw [h] at hj; have := Option.some.inj hj; have := hX.but.size; omega)
                  · refine step_introK rfl rfl fun ρ X hc hf hgl hX hp ho hu => ?_
                    change StepOk _ { dst := _, op := Op.move (Operand.tmp 4), type := _, pos := _, after := _, guard := _ } _ _ _
                    have k4 : ρ (.tmp 4) = .slice (some ⟨gl, 0, none⟩) n lc := ho 4 (by decide)
                    refine stepK_plain (i := 6) rfl ?_
                    clear hu
                    clear hp ho
                    refine StepOk.of_run (v := ?ve6) (w' := X) ?_ ⟨rfl, Below.refl _ _⟩
                    clear hX
                    go_simp
                    all_goals try go_bits
                    all_goals try simp only [IntWalk.iteOmega]
                    all_goals try go_bits
                    all_goals rfl
                  · refine step_introK rfl rfl fun ρ X hc hf hgl hX hp ho hu => ?_
                    change StepOk _ { dst := _, op := Op.fieldAddr 32 (Operand.tmp 7) 1, type := _, pos := _, after := _, guard := _ } _ _ _
                    have k7 : ρ (.tmp 7) = .pointer (some ⟨rb, 0, none⟩) := ho 7 (by decide)
                    refine stepK_plain (i := 7) rfl ?_
                    clear hu
                    clear hp ho
                    refine StepOk.of_run (v := ?ve7) (w' := X) ?_ ⟨rfl, Below.refl _ _⟩
                    clear hX
                    go_simp
                    all_goals try go_bits
                    all_goals try simp only [IntWalk.iteOmega]
                    all_goals try go_bits
                    all_goals rfl
                  · refine step_introK rfl rfl fun ρ X hc hf hgl hX hp ho hu => ?_
                    change StepOk _ { dst := _, op := Op.load 3 (Operand.tmp 126), type := _, pos := _, after := _, guard := _ } _ _ _
                    have k126 : ρ (.tmp 126) = ?ve7 := hp 7 (by decide)
                    refine stepK_plain (i := 8) rfl ?_
                    clear hu
                    have d1X := hX.but.cell (p := ⟨rb, _, none⟩) Hrw.out d1
                    clear hp ho
                    refine StepOk.of_run (v := ?ve8) (w' := X) ?_ ⟨rfl, Below.refl _ _⟩
                    clear hX
                    go_simp
                    all_goals try go_bits
                    all_goals try simp only [IntWalk.iteOmega]
                    all_goals try go_bits
                    all_goals rfl
                  · refine step_introK rfl rfl fun ρ X hc hf hgl hX hp ho hu => ?_
                    change StepOk _ { dst := _, op := Op.binOp BinOp.add 3 (Operand.tmp 127) (Operand.const (Value.int IntKind.i64 1)) 3, type := _, pos := _, after := _, guard := _ } _ _ _
                    have k127 : ρ (.tmp 127) = ?ve8 := hp 8 (by decide)
                    refine stepK_plain (i := 9) rfl ?_
                    clear hu
                    clear hp ho
                    refine StepOk.of_run (v := ?ve9) (w' := X) ?_ ⟨rfl, Below.refl _ _⟩
                    clear hX
                    go_simp
                    all_goals try go_bits
                    all_goals try simp only [IntWalk.iteOmega]
                    all_goals try go_bits
                    all_goals rfl
                  · refine step_introK rfl rfl fun ρ X hc hf hgl hX hp ho hu => ?_
                    change StepOk _ { dst := _, op := Op.slice 34 (Operand.tmp 125) (some (Operand.tmp 128)) none none, type := _, pos := _, after := _, guard := _ } _ _ _
                    have k125 : ρ (.tmp 125) = ?ve6 := hp 6 (by decide)
                    have k128 : ρ (.tmp 128) = ?ve9 := hp 9 (by decide)
                    refine stepK_plain (i := 10) rfl ?_
                    clear hu
                    clear hp ho
                    have hs := run_slSl X (some ⟨gl, 0, none⟩) n lc (ii + 1) Hin1.out Hnlc.out ((ii : Int) + 1) (by omega)
                    refine StepOk.of_run (v := sliced (some ⟨gl, 0, none⟩) (ii + 1) n lc 1) (w' := X) ?_ ⟨rfl, Below.refl _ _⟩
                    simp only [execOp, Option.map_some, Option.map_none, k125, k128, Sem.run_bind, hs, Result.andThen_ok, Sem.run_pure]
                  · refine step_introK rfl rfl fun ρ X hc hf hgl hX hp ho hu => ?_
                    change StepOk _ { dst := _, op := Op.call { callee := Callee.builtin Builtin.append, args := #[Operand.tmp 124, Operand.tmp 129], argTypes := #[34, 34] }, type := _, pos := _, after := _, guard := _ } _ _ _
                    have k124 := hp 5 (by decide)
                    have k129 : ρ (.tmp 129) = (sliced (some ⟨gl, 0, none⟩) (ii + 1) n lc 1) := hp 10 (by decide)
                    clear hu
                    clear hp ho
                    refine stepK_made rfl ?_
                    obtain ⟨hov, hbv⟩ := k124
                    have hrd := (own_drop HO3.out Hin1.out).but hX.but (fun b hb => by omega)
                    rw [Nat.mul_one] at hrd
                    obtain ⟨v', W', hr, ho', hgb', hat, hsp⟩ := run_appendR (P := Try.prog) X 34 34 9 is (.string ⟨#[]⟩) 1 16 Try.underlying34 his hzs0 hzs1 hzs2 rfl (by omega) _ (ii) (xs.take ii) hov _ (n - (ii + 1)) (xs.drop (ii + 1)) hrd (by rw [List.length_drop, Hxl.out, Nat.mul_one]) (fun u hu => Hone.out u (List.mem_of_mem_drop hu)) (by unfold maxLen; omega) (by omega) [(0, []), (ii, xs.take ii)] HL3.out
                    refine StepOk.of_run (v := v') (w' := W') ?_ ⟨⟨ho', ?_⟩, ⟨But.grown hgb' (fun j hj => hbv j hj), hsp⟩, fun s hs => by simp [noState] at hs⟩
                    · simp only [execOp, resolve, invoke, builtin, Sem.run_bind, Sem.run_pure, Result.andThen_ok, List.map_toArray, List.map_cons, List.map_nil, k129, hr]
                    · intro j hj; rcases hat with h | h
                      · exact hbv j (by rw [← h]; exact hj)
                      · rw [h] at hj; have := Option.some.inj hj; have := hX.but.size; omega
                  · refine step_introK rfl rfl fun ρ X hc hf hgl hX hp ho hu => ?_
                    change StepOk _ { dst := _, op := Op.assign (Operand.tmp 130), type := _, pos := _, after := _, guard := _ } _ _ _
                    have k130 := hp 11 (by decide)
                    refine stepK_plain (i := 12) rfl ?_
                    clear hu
                    clear hp ho
                    refine StepOk.of_run (v := ρ (.tmp 130)) (w' := X) ?_ ⟨k130.1, Below.refl _ _⟩
                    simp [go_sem, execOp]
                case grde => rfl
                case rste =>
                  intro a0 X hb
                  obtain ⟨x4, hx4⟩ : ∃ x, a0.tmps.getD 4 undef = x := ⟨_, rfl⟩
                  have p4 := hb.done' 12 4 rfl rfl
                  rw [hx4] at p4
                  obtain ⟨x119, hx119⟩ : ∃ x, a0.tmps.getD 119 undef = x := ⟨_, rfl⟩
                  have p119 := hb.done' 0 119 rfl rfl
                  rw [hx119] at p119
                  obtain ⟨x124, hx124⟩ : ∃ x, a0.tmps.getD 124 undef = x := ⟨_, rfl⟩
                  have p124 := hb.done' 5 124 rfl rfl
                  rw [hx124] at p124
                  obtain ⟨x130, hx130⟩ : ∃ x, a0.tmps.getD 130 undef = x := ⟨_, rfl⟩
                  have p130 := hb.done' 11 130 rfl rfl
                  rw [hx130] at p130
                  have hfr := hb.frame ((4, x4) :: (119, x119) :: (120, ?ve1) :: (121, ?ve2) :: (122, ?ve3) :: (123, (sliced (some ⟨gl, 0, none⟩) 0 ii lc 1)) :: (124, x124) :: (125, ?ve6) :: (126, ?ve7) :: (127, ?ve8) :: (128, ?ve9) :: (129, (sliced (some ⟨gl, 0, none⟩) (ii + 1) n lc 1)) :: (130, x130) :: []) rfl ⟨hx4, hx119, hb.done' 1 120 rfl rfl, hb.done' 2 121 rfl rfl, hb.done' 3 122 rfl rfl, hb.done' 4 123 rfl rfl, hx124, hb.done' 6 125 rfl rfl, hb.done' 7 126 rfl rfl, hb.done' 8 127 rfl rfl, hb.done' 9 128 rfl rfl, hb.done' 10 129 rfl rfl, hx130, trivial⟩
                  simp only [updL, ↓reduceIte, Nat.reduceEqDiff, Nat.reduceAdd, Nat.zero_add] at hfr
                  have HX := Lib.hid hb.ext
                  clear hb
                  subst hfr
                  have ho4 : X.ownsRow 0 9 1 x4 (ii + (n - (ii + 1))) (xs.take ii ++ xs.drop (ii + 1)) := p4
                  rw [show ii + (n - (ii + 1)) = n - 1 by have := Hin1.out; omega] at ho4
                  have hx4 : xs.take ii ++ xs.drop (ii + 1) = (ps A4).map sv := by rw [← HA4.out, ps_del, ← Hxs.out]; simp [List.map_take, List.map_drop]
                  rw [hx4] at ho4
                  obtain ⟨a4, c4, rfl⟩ := own_form ho4
                  have HO4 := Lib.hid ho4
                  have Hgx : Hid (Grows w3 X) := HX.out.but.below (Nat.le_refl _) (fun b hb => hb)
                  have Hh4 := Lib.hid (Hh3.out.grows Hgx.out)
                  have Hg4 := Lib.hid (Grows.trans' Hg3.out Hgx.out)
                  clear d1 ho4 hx4 p4
                  obtain ⟨r4, hr4e⟩ : ∃ r4, r + 2 + cI.length = r4 := ⟨_, rfl⟩
                  have Hn4 : Hid (A4.l.length = n - 1) := by show _ = _; rw [← HA4.out, del_len _ _ (by rw [Hn.out]; exact Hin1.out), Hn.out]
                  have Hr4 : Hid (freeA A4 = r4) := by show _ = _; rw [← HA4.out, free_del Hh2.out.wf _ (by rw [Hn.out]; exact Hin1.out), Hr.out, HcI.out, hr4e]
                  rw [show (r : Int) + 2 + (cI.length : Int) = (r4 : Int) by omega]
                  obtain ⟨n4, hn4e⟩ : ∃ n4, n - 1 = n4 := ⟨_, rfl⟩
                  rw [hn4e] at Hn4 HO4 ⊢
                  have hn4 : n4 ≤ 121 := by omega
                  have hr4b : r4 ≤ 241 := by rw [← Hr4.out]; unfold freeA; omega
                  clear hr4e hn4e
                  generalize sliced (some ⟨gl, 0, none⟩) 0 ii lc 1 = sx1
                  generalize sliced (some ⟨gl, 0, none⟩) (ii + 1) n lc 1 = sx2
                  go_wp2_with fail
                  have HLg : Hid (∀ Y, Grows X Y → Calls Try.prog 18 #[pb g] Y fun e w' => e = .returned (.int .i64 (n4 : Int)) ∧ Y = w') := Lib.hid (fun Y hX => by rw [← Hn4.out]; exact hLen (Hh4.out.grows hX))
                  have HFg : Hid (∀ Y, Grows X Y → Calls Try.prog 19 #[pb g] Y fun e w' => e = .returned (.int .i64 (r4 : Int)) ∧ Grows Y w') := Lib.hid (fun Y hX => by rw [← Hr4.out]; exact hFree (Hh4.out.grows hX))
                  unfold pb at HLg HFg
                  refine (HLg.out _ (Below.refl _ _)).mono ?_
                  rintro e w7 ⟨rfl, rfl⟩
                  go_wp2_with (go_at_call 19; refine (HFg.out _ (Below.refl _ _)).mono ?_; rintro e w8 ⟨rfl, hg8⟩; have Hg8 := Lib.hid hg8; clear hg8)
                  go_loopw [9] (fun t9 wq => ∃ j : Nat, j ≤ n4 ∧ t9 = .int .i64 j ∧ Hid (Grows X wq)) (fun t9 _ => n4 - (intOf t9).toNat)
                  case atStart => exact ⟨0, by omega, rfl, Hg8⟩
                  case round =>
                    obtain ⟨j, hj, rfl, Hgj⟩ := hrel
                    by_cases hjl : j < n4
                    · have hjl' : (j : Int) < (n4 : Int) := by omega
                      have HOj := own_grows HO4.out Hgj.out
                      obtain ⟨gl, rfl⟩ := own_some' HOj (by omega)
                      obtain ⟨c, Hcc⟩ : ∃ c, Hid ((cl A4.l j).p = c) := ⟨_, rfl⟩
                      have cj := own_cell HOj j (.string ⟨c.toArray⟩) (by rw [List.getElem?_map, ps_get _ j (by rw [Hn4.out]; exact hjl), ← Hcc.out]; rfl)
                      have HCg : Hid (∀ X, Grows wr X → Calls Try.prog 20 #[pb g, .int .i64 (j : Int)] X fun e w' => ∃ v, e = .returned v ∧ Byt w' v c ∧ Grows X w') := Lib.hid (fun X hX => hCellB (Hh4.out.grows (Grows.trans' Hgj.out hX)) j (by rw [Hn4.out]; exact hjl) c Hcc.out)
                      unfold pb at HCg
                      clear HOj
                      go_wp2
                      refine specs_region
                        #[[], [], [0, 1], [0, 1, 2], [], [], [4, 5], [4, 5, 6], [0, 1, 2, 3, 4, 5, 6, 7]] #[[3], [9], [], [], [4], [9], [], [], []] #[true, true, true, true, true, true, true, true, true]
                        ((.val ?vetd0) :: (.val ?vetd1) :: (.byt (c)) :: (.val (.string ⟨(c : List UInt8).toArray⟩)) :: (.val ?vetd4) :: (.val ?vetd5) :: (.val ?vetd6) :: (.val ?vetd7) :: (.val ?vetd8) :: []).toArray
                        hmx ?chketd ?grdetd ?stpetd ?rstetd
                      case chketd => rfl
                      case stpetd =>
                        refine ⟨?_, ?_, ?_, ?_, ?_, ?_, ?_, ?_, ?_, trivial⟩
                        · refine step_intro rfl rfl fun ρ X hc hf hgl hX hp ho => ?_
                          change StepOk _ { dst := _, op := Op.move (Operand.tmp 3), type := _, pos := _, after := _, guard := _ } _ _ _
                          have k3 : ρ (.tmp 3) = .pointer (some ⟨g, 0, none⟩) := ho 3 (by decide)
                          clear hp ho
                          refine StepOk.of_run (v := ?vetd0) (w' := X) ?_ ⟨rfl, Below.refl _ _⟩
                          clear hX
                          go_simp
                          all_goals try go_bits
                          all_goals try simp only [IntWalk.iteOmega]
                          all_goals try go_bits
                          all_goals rfl
                        · refine step_intro rfl rfl fun ρ X hc hf hgl hX hp ho => ?_
                          change StepOk _ { dst := _, op := Op.move (Operand.tmp 9), type := _, pos := _, after := _, guard := _ } _ _ _
                          have k9 : ρ (.tmp 9) = .int .i64 (j : Int) := ho 9 (by decide)
                          clear hp ho
                          refine StepOk.of_run (v := ?vetd1) (w' := X) ?_ ⟨rfl, Below.refl _ _⟩
                          clear hX
                          go_simp
                          all_goals try go_bits
                          all_goals try simp only [IntWalk.iteOmega]
                          all_goals try go_bits
                          all_goals rfl
                        · refine step_intro rfl rfl fun ρ X hc hf hgl hX hp ho => ?_
                          change StepOk _ { dst := _, op := Op.call { callee := Callee.value (Operand.func 20), args := #[Operand.tmp 157, Operand.tmp 158], argTypes := #[25, 3] }, type := _, pos := _, after := _, guard := _ } _ _ _
                          have k157 : ρ (.tmp 157) = ?vetd0 := hp 0 (by decide)
                          have k158 : ρ (.tmp 158) = ?vetd1 := hp 1 (by decide)
                          clear hp ho
                          refine StepOk.of_call (f := 20) (args := #[.pointer (some ⟨g, 0, none⟩), .int .i64 (j : Int)]) (w' := X) ?_ (HCg.out X hX) ?_
                          · go_simp
                            all_goals try rfl
                          · rintro e w'' ⟨v, rfl, hb', hg'⟩; exact ⟨v, rfl, hb', hg'⟩
                        · refine step_intro rfl rfl fun ρ X hc hf hgl hX hp ho => ?_
                          change StepOk _ { dst := _, op := Op.convert 30 9 (Operand.tmp 159), type := _, pos := _, after := _, guard := _ } _ _ _
                          have k159 := hp 2 (by decide)
                          clear hp ho
                          have hr := run_string (P := Try.prog) (T := 30) (e := 5) (S := 9) rfl rfl rfl k159
                          refine StepOk.of_run (v := .string ⟨(c : List UInt8).toArray⟩) (w' := X) ?_ ⟨rfl, Below.refl _ _⟩
                          simp only [execOp, Sem.run_bind, hr, Result.andThen_ok, Sem.run_pure]
                        · refine step_intro rfl rfl fun ρ X hc hf hgl hX hp ho => ?_
                          change StepOk _ { dst := _, op := Op.move (Operand.tmp 4), type := _, pos := _, after := _, guard := _ } _ _ _
                          have k4 : ρ (.tmp 4) = .slice (some ⟨gl, 0, none⟩) n4 c4 := ho 4 (by decide)
                          clear hp ho
                          refine StepOk.of_run (v := ?vetd4) (w' := X) ?_ ⟨rfl, Below.refl _ _⟩
                          clear hX
                          go_simp
                          all_goals try go_bits
                          all_goals try simp only [IntWalk.iteOmega]
                          all_goals try go_bits
                          all_goals rfl
                        · refine step_intro rfl rfl fun ρ X hc hf hgl hX hp ho => ?_
                          change StepOk _ { dst := _, op := Op.move (Operand.tmp 9), type := _, pos := _, after := _, guard := _ } _ _ _
                          have k9 : ρ (.tmp 9) = .int .i64 (j : Int) := ho 9 (by decide)
                          clear hp ho
                          refine StepOk.of_run (v := ?vetd5) (w' := X) ?_ ⟨rfl, Below.refl _ _⟩
                          clear hX
                          go_simp
                          all_goals try go_bits
                          all_goals try simp only [IntWalk.iteOmega]
                          all_goals try go_bits
                          all_goals rfl
                        · refine step_intro rfl rfl fun ρ X hc hf hgl hX hp ho => ?_
                          change StepOk _ { dst := _, op := Op.indexAddr 34 (Operand.tmp 161) (Operand.tmp 162), type := _, pos := _, after := _, guard := _ } _ _ _
                          have k161 : ρ (.tmp 161) = ?vetd4 := hp 4 (by decide)
                          have k162 : ρ (.tmp 162) = ?vetd5 := hp 5 (by decide)
                          clear hp ho
                          refine StepOk.of_run (v := ?vetd6) (w' := X) ?_ ⟨rfl, Below.refl _ _⟩
                          clear hX
                          go_simp
                          all_goals try go_bits
                          all_goals try simp only [IntWalk.iteOmega]
                          all_goals try go_bits
                          all_goals rfl
                        · refine step_intro rfl rfl fun ρ X hc hf hgl hX hp ho => ?_
                          change StepOk _ { dst := _, op := Op.load 9 (Operand.tmp 163), type := _, pos := _, after := _, guard := _ } _ _ _
                          have k163 : ρ (.tmp 163) = ?vetd6 := hp 6 (by decide)
                          have cjX := Grows.cell' hX cj
                          clear hp ho
                          refine StepOk.of_run (v := ?vetd7) (w' := X) ?_ ⟨rfl, Below.refl _ _⟩
                          clear hX
                          go_simp
                          all_goals try go_bits
                          all_goals try simp only [IntWalk.iteOmega]
                          all_goals try go_bits
                          all_goals rfl
                        · refine step_intro rfl rfl fun ρ X hc hf hgl hX hp ho => ?_
                          change StepOk _ { dst := _, op := Op.binOp BinOp.neq 9 (Operand.tmp 160) (Operand.tmp 164) 9, type := _, pos := _, after := _, guard := _ } _ _ _
                          have k160 : ρ (.tmp 160) = (.string ⟨(c : List UInt8).toArray⟩) := hp 3 (by decide)
                          have k164 : ρ (.tmp 164) = ?vetd7 := hp 7 (by decide)
                          clear hp ho
                          refine StepOk.of_run (v := ?vetd8) (w' := X) ?_ ⟨rfl, Below.refl _ _⟩
                          clear hX
                          go_simp
                          all_goals try go_bits
                          all_goals try simp only [IntWalk.iteOmega]
                          all_goals try go_bits
                          all_goals rfl
                      case grdetd => rfl
                      case rstetd =>
                        intro a0 X hb
                        obtain ⟨x159, hx159⟩ : ∃ x, a0.tmps.getD 159 undef = x := ⟨_, rfl⟩
                        have p159 := hb.done' 2 159 rfl rfl
                        rw [hx159] at p159
                        have hfr := hb.frame ((157, ?vetd0) :: (158, ?vetd1) :: (159, x159) :: (160, (.string ⟨(c : List UInt8).toArray⟩)) :: (161, ?vetd4) :: (162, ?vetd5) :: (163, ?vetd6) :: (164, ?vetd7) :: (165, ?vetd8) :: []) rfl ⟨hb.done' 0 157 rfl rfl, hb.done' 1 158 rfl rfl, hx159, hb.done' 3 160 rfl rfl, hb.done' 4 161 rfl rfl, hb.done' 5 162 rfl rfl, hb.done' 6 163 rfl rfl, hb.done' 7 164 rfl rfl, hb.done' 8 165 rfl rfl, trivial⟩
                        simp only [updL, ↓reduceIte, Nat.reduceEqDiff, Nat.reduceAdd, Nat.zero_add] at hfr
                        have HX := Lib.hid hb.ext
                        clear hb
                        subst hfr
                        have HgX := Lib.hid (Grows.trans' Hgj.out HX.out)
                        clear cj
                        go_wp2
                        go_roundw
                        case rel => exact ⟨j + 1, by omega, by simp, HgX⟩
                        case measure => simp [intOf]; omega
                    · have hjl' : ¬ (j : Int) < (n4 : Int) := by omega
                      go_wp2
                      go_roundw
                      case rel => exact ⟨k + 1, _, A4, a4, c4, by omega, by simp, by rw [Hr4.out], by rw [Hn4.out], by rw [Hn4.out]; exact Lib.hid (own_grows HO4.out Hgj.out), Lib.hid (Hh4.out.grows Hgj.out), Lib.hid (Grows.trans' Hg4.out Hgj.out)⟩
                      case measure => simp [intOf]; omega
          · by_cases h2 : kd = 2
            · subst h2
              go_wp2_with (first
                | (refine wpList_allocD rfl rfl ?_; intro wa hba hga; rw [Hrb.out] at hba ⊢; have Hba := Lib.hid hba; have Hga := Lib.hid hga; clear hba hga)
                | (refine wpList_storeD rfl (.tmp 7) (.tmp 26) rfl rb _ _ pa m pc rfl rfl 0 0 (.slice none 0 0) Hba.out ?_; intro w2 hb2 hu2; have Hb2 := Lib.hid hb2; have Hg2 := Lib.hid (but_new Hga.out hu2 (by rw [Hrb.out]; exact Nat.le_refl _)); clear hb2 hu2 Hba c0 c1 c2; obtain ⟨d0, d1, d2⟩ := Hb2.out.cells))
              have Hh2 := Lib.hid (Hh.out.grows Hg2.out)
              have HO2 := Lib.hid (own_grows HO.out Hg2.out)
              have Hbp2 := Lib.hid (Hbp.out.grows Hg2.out)
              have HgT := Lib.hid (Grows.trans' Hgr.out Hg2.out)
              refine (hPack Hh2.out).mono ?_
              rintro e w3 ⟨rfl, ⟨f3, hh3⟩, hu3⟩
              obtain ⟨A4, HA4⟩ : ∃ A4, Hid (packA A = A4) := ⟨_, rfl⟩
              rw [HA4.out] at hh3
              have Hh3 := Lib.hid hh3
              have Hg3 := Lib.hid (but_new HgT.out hu3 (by rw [Hg.out]; exact Nat.le_refl _))
              have HO3 : Hid (w3.ownsRow 0 9 1 (.slice la n lc) n ((ps A4).map sv)) := by rw [← HA4.out, ps_pack, Hxs.out]; exact Lib.hid (own_at HO2.out Hh2.out.at_ hu3)
              have HHo := Lib.hid (hHoles hh3)
              rw [show holesA A4 = 0 by rw [← HA4.out]; exact holes_pack Hh2.out.wf] at HHo
              unfold pb at HHo
              have Hn4 : Hid (A4.l.length = n) := by show _ = _; rw [← HA4.out, pack_len, Hn.out]
              have Hr4 : Hid (freeA A4 = r) := by show _ = _; rw [← HA4.out, free_pack, Hr.out]
              clear d0 d1 d2 hh3 hu3
              go_wp2_with (go_at_call 17; refine HHo.out.mono ?_; rintro e w5 ⟨rfl, hg5⟩; have Hh5 := Lib.hid (Hh3.out.grows hg5); have Hg5 := Lib.hid (Grows.trans' Hg3.out hg5); have HO5 := Lib.hid (own_grows HO3.out hg5); clear hg5)
              have HLg : Hid (∀ Y, Grows w5 Y → Calls Try.prog 18 #[pb g] Y fun e w' => e = .returned (.int .i64 (n : Int)) ∧ Y = w') := Lib.hid (fun Y hX => by rw [← Hn4.out]; exact hLen (Hh5.out.grows hX))
              have HFg : Hid (∀ Y, Grows w5 Y → Calls Try.prog 19 #[pb g] Y fun e w' => e = .returned (.int .i64 (r : Int)) ∧ Grows Y w') := Lib.hid (fun Y hX => by rw [← Hr4.out]; exact hFree (Hh5.out.grows hX))
              unfold pb at HLg HFg
              refine (HLg.out _ (Below.refl _ _)).mono ?_
              rintro e w7 ⟨rfl, rfl⟩
              go_wp2_with (go_at_call 19; refine (HFg.out _ (Below.refl _ _)).mono ?_; rintro e w8 ⟨rfl, hg8⟩; have Hg8 := Lib.hid hg8; clear hg8)
              go_loopw [9] (fun t9 wq => ∃ j : Nat, j ≤ n ∧ t9 = .int .i64 j ∧ Hid (Grows w5 wq)) (fun t9 _ => n - (intOf t9).toNat)
              case atStart => exact ⟨0, by omega, rfl, Hg8⟩
              case round =>
                obtain ⟨j, hj, rfl, Hgj⟩ := hrel
                by_cases hjl : j < n
                · have hjl' : (j : Int) < (n : Int) := by omega
                  have HOj := own_grows HO5.out Hgj.out
                  obtain ⟨gl, rfl⟩ := own_some' HOj (by omega)
                  obtain ⟨c, Hcc⟩ : ∃ c, Hid ((cl A4.l j).p = c) := ⟨_, rfl⟩
                  have cj := own_cell HOj j (.string ⟨c.toArray⟩) (by rw [List.getElem?_map, ps_get _ j (by rw [Hn4.out]; exact hjl), ← Hcc.out]; rfl)
                  have HCg : Hid (∀ X, Grows wr X → Calls Try.prog 20 #[pb g, .int .i64 (j : Int)] X fun e w' => ∃ v, e = .returned v ∧ Byt w' v c ∧ Grows X w') := Lib.hid (fun X hX => hCellB (Hh5.out.grows (Grows.trans' Hgj.out hX)) j (by rw [Hn4.out]; exact hjl) c Hcc.out)
                  unfold pb at HCg
                  clear HOj
                  go_wp2
                  refine specs_region
                    #[[], [], [0, 1], [0, 1, 2], [], [], [4, 5], [4, 5, 6], [0, 1, 2, 3, 4, 5, 6, 7]] #[[3], [9], [], [], [4], [9], [], [], []] #[true, true, true, true, true, true, true, true, true]
                    ((.val ?vktd0) :: (.val ?vktd1) :: (.byt (c)) :: (.val (.string ⟨(c : List UInt8).toArray⟩)) :: (.val ?vktd4) :: (.val ?vktd5) :: (.val ?vktd6) :: (.val ?vktd7) :: (.val ?vktd8) :: []).toArray
                    hmx ?chkktd ?grdktd ?stpktd ?rstktd
                  case chkktd => rfl
                  case stpktd =>
                    refine ⟨?_, ?_, ?_, ?_, ?_, ?_, ?_, ?_, ?_, trivial⟩
                    · refine step_intro rfl rfl fun ρ X hc hf hgl hX hp ho => ?_
                      change StepOk _ { dst := _, op := Op.move (Operand.tmp 3), type := _, pos := _, after := _, guard := _ } _ _ _
                      have k3 : ρ (.tmp 3) = .pointer (some ⟨g, 0, none⟩) := ho 3 (by decide)
                      clear hp ho
                      refine StepOk.of_run (v := ?vktd0) (w' := X) ?_ ⟨rfl, Below.refl _ _⟩
                      clear hX
                      go_simp
                      all_goals try go_bits
                      all_goals try simp only [IntWalk.iteOmega]
                      all_goals try go_bits
                      all_goals rfl
                    · refine step_intro rfl rfl fun ρ X hc hf hgl hX hp ho => ?_
                      change StepOk _ { dst := _, op := Op.move (Operand.tmp 9), type := _, pos := _, after := _, guard := _ } _ _ _
                      have k9 : ρ (.tmp 9) = .int .i64 (j : Int) := ho 9 (by decide)
                      clear hp ho
                      refine StepOk.of_run (v := ?vktd1) (w' := X) ?_ ⟨rfl, Below.refl _ _⟩
                      clear hX
                      go_simp
                      all_goals try go_bits
                      all_goals try simp only [IntWalk.iteOmega]
                      all_goals try go_bits
                      all_goals rfl
                    · refine step_intro rfl rfl fun ρ X hc hf hgl hX hp ho => ?_
                      change StepOk _ { dst := _, op := Op.call { callee := Callee.value (Operand.func 20), args := #[Operand.tmp 157, Operand.tmp 158], argTypes := #[25, 3] }, type := _, pos := _, after := _, guard := _ } _ _ _
                      have k157 : ρ (.tmp 157) = ?vktd0 := hp 0 (by decide)
                      have k158 : ρ (.tmp 158) = ?vktd1 := hp 1 (by decide)
                      clear hp ho
                      refine StepOk.of_call (f := 20) (args := #[.pointer (some ⟨g, 0, none⟩), .int .i64 (j : Int)]) (w' := X) ?_ (HCg.out X hX) ?_
                      · go_simp
                        all_goals try rfl
                      · rintro e w'' ⟨v, rfl, hb', hg'⟩; exact ⟨v, rfl, hb', hg'⟩
                    · refine step_intro rfl rfl fun ρ X hc hf hgl hX hp ho => ?_
                      change StepOk _ { dst := _, op := Op.convert 30 9 (Operand.tmp 159), type := _, pos := _, after := _, guard := _ } _ _ _
                      have k159 := hp 2 (by decide)
                      clear hp ho
                      have hr := run_string (P := Try.prog) (T := 30) (e := 5) (S := 9) rfl rfl rfl k159
                      refine StepOk.of_run (v := .string ⟨(c : List UInt8).toArray⟩) (w' := X) ?_ ⟨rfl, Below.refl _ _⟩
                      simp only [execOp, Sem.run_bind, hr, Result.andThen_ok, Sem.run_pure]
                    · refine step_intro rfl rfl fun ρ X hc hf hgl hX hp ho => ?_
                      change StepOk _ { dst := _, op := Op.move (Operand.tmp 4), type := _, pos := _, after := _, guard := _ } _ _ _
                      have k4 : ρ (.tmp 4) = .slice (some ⟨gl, 0, none⟩) n lc := ho 4 (by decide)
                      clear hp ho
                      refine StepOk.of_run (v := ?vktd4) (w' := X) ?_ ⟨rfl, Below.refl _ _⟩
                      clear hX
                      go_simp
                      all_goals try go_bits
                      all_goals try simp only [IntWalk.iteOmega]
                      all_goals try go_bits
                      all_goals rfl
                    · refine step_intro rfl rfl fun ρ X hc hf hgl hX hp ho => ?_
                      change StepOk _ { dst := _, op := Op.move (Operand.tmp 9), type := _, pos := _, after := _, guard := _ } _ _ _
                      have k9 : ρ (.tmp 9) = .int .i64 (j : Int) := ho 9 (by decide)
                      clear hp ho
                      refine StepOk.of_run (v := ?vktd5) (w' := X) ?_ ⟨rfl, Below.refl _ _⟩
                      clear hX
                      go_simp
                      all_goals try go_bits
                      all_goals try simp only [IntWalk.iteOmega]
                      all_goals try go_bits
                      all_goals rfl
                    · refine step_intro rfl rfl fun ρ X hc hf hgl hX hp ho => ?_
                      change StepOk _ { dst := _, op := Op.indexAddr 34 (Operand.tmp 161) (Operand.tmp 162), type := _, pos := _, after := _, guard := _ } _ _ _
                      have k161 : ρ (.tmp 161) = ?vktd4 := hp 4 (by decide)
                      have k162 : ρ (.tmp 162) = ?vktd5 := hp 5 (by decide)
                      clear hp ho
                      refine StepOk.of_run (v := ?vktd6) (w' := X) ?_ ⟨rfl, Below.refl _ _⟩
                      clear hX
                      go_simp
                      all_goals try go_bits
                      all_goals try simp only [IntWalk.iteOmega]
                      all_goals try go_bits
                      all_goals rfl
                    · refine step_intro rfl rfl fun ρ X hc hf hgl hX hp ho => ?_
                      change StepOk _ { dst := _, op := Op.load 9 (Operand.tmp 163), type := _, pos := _, after := _, guard := _ } _ _ _
                      have k163 : ρ (.tmp 163) = ?vktd6 := hp 6 (by decide)
                      have cjX := Grows.cell' hX cj
                      clear hp ho
                      refine StepOk.of_run (v := ?vktd7) (w' := X) ?_ ⟨rfl, Below.refl _ _⟩
                      clear hX
                      go_simp
                      all_goals try go_bits
                      all_goals try simp only [IntWalk.iteOmega]
                      all_goals try go_bits
                      all_goals rfl
                    · refine step_intro rfl rfl fun ρ X hc hf hgl hX hp ho => ?_
                      change StepOk _ { dst := _, op := Op.binOp BinOp.neq 9 (Operand.tmp 160) (Operand.tmp 164) 9, type := _, pos := _, after := _, guard := _ } _ _ _
                      have k160 : ρ (.tmp 160) = (.string ⟨(c : List UInt8).toArray⟩) := hp 3 (by decide)
                      have k164 : ρ (.tmp 164) = ?vktd7 := hp 7 (by decide)
                      clear hp ho
                      refine StepOk.of_run (v := ?vktd8) (w' := X) ?_ ⟨rfl, Below.refl _ _⟩
                      clear hX
                      go_simp
                      all_goals try go_bits
                      all_goals try simp only [IntWalk.iteOmega]
                      all_goals try go_bits
                      all_goals rfl
                  case grdktd => rfl
                  case rstktd =>
                    intro a0 X hb
                    obtain ⟨x159, hx159⟩ : ∃ x, a0.tmps.getD 159 undef = x := ⟨_, rfl⟩
                    have p159 := hb.done' 2 159 rfl rfl
                    rw [hx159] at p159
                    have hfr := hb.frame ((157, ?vktd0) :: (158, ?vktd1) :: (159, x159) :: (160, (.string ⟨(c : List UInt8).toArray⟩)) :: (161, ?vktd4) :: (162, ?vktd5) :: (163, ?vktd6) :: (164, ?vktd7) :: (165, ?vktd8) :: []) rfl ⟨hb.done' 0 157 rfl rfl, hb.done' 1 158 rfl rfl, hx159, hb.done' 3 160 rfl rfl, hb.done' 4 161 rfl rfl, hb.done' 5 162 rfl rfl, hb.done' 6 163 rfl rfl, hb.done' 7 164 rfl rfl, hb.done' 8 165 rfl rfl, trivial⟩
                    simp only [updL, ↓reduceIte, Nat.reduceEqDiff, Nat.reduceAdd, Nat.zero_add] at hfr
                    have HX := Lib.hid hb.ext
                    clear hb
                    subst hfr
                    have HgX := Lib.hid (Grows.trans' Hgj.out HX.out)
                    clear cj
                    go_wp2
                    go_roundw
                    case rel => exact ⟨j + 1, by omega, by simp, HgX⟩
                    case measure => simp [intOf]; omega
                · have hjl' : ¬ (j : Int) < (n : Int) := by omega
                  go_wp2
                  go_roundw
                  case rel => exact ⟨k + 1, _, A4, la, lc, by omega, by simp, by rw [Hr4.out], by rw [Hn4.out], by rw [Hn4.out]; exact Lib.hid (own_grows HO5.out Hgj.out), Lib.hid (Hh5.out.grows Hgj.out), Lib.hid (Grows.trans' Hg5.out Hgj.out)⟩
                  case measure => simp [intOf]; omega
            · skip
              go_wp2_with (first
                | (refine wpList_allocD rfl rfl ?_; intro wa hba hga; rw [Hrb.out] at hba ⊢; have Hba := Lib.hid hba; have Hga := Lib.hid hga; clear hba hga)
                | (refine wpList_storeD rfl (.tmp 7) (.tmp 26) rfl rb _ _ pa m pc rfl rfl 0 0 (.slice none 0 0) Hba.out ?_; intro w2 hb2 hu2; have Hb2 := Lib.hid hb2; have Hg2 := Lib.hid (but_new Hga.out hu2 (by rw [Hrb.out]; exact Nat.le_refl _)); clear hb2 hu2 Hba c0 c1 c2; obtain ⟨d0, d1, d2⟩ := Hb2.out.cells))
              have Hh2 := Lib.hid (Hh.out.grows Hg2.out)
              have HO2 := Lib.hid (own_grows HO.out Hg2.out)
              have Hbp2 := Lib.hid (Hbp.out.grows Hg2.out)
              have HgT := Lib.hid (Grows.trans' Hgr.out Hg2.out)
              have HO2b : Hid (w2.ownsRow 0 9 1 (.slice la n lc) n ((ps A).map sv)) := by rw [Hxs.out]; exact HO2
              clear d0 d1 d2
              have HLg : Hid (∀ Y, Grows w2 Y → Calls Try.prog 18 #[pb g] Y fun e w' => e = .returned (.int .i64 (n : Int)) ∧ Y = w') := Lib.hid (fun Y hX => by rw [← Hn.out]; exact hLen (Hh2.out.grows hX))
              have HFg : Hid (∀ Y, Grows w2 Y → Calls Try.prog 19 #[pb g] Y fun e w' => e = .returned (.int .i64 (r : Int)) ∧ Grows Y w') := Lib.hid (fun Y hX => by rw [← Hr.out]; exact hFree (Hh2.out.grows hX))
              unfold pb at HLg HFg
              refine (HLg.out _ (Below.refl _ _)).mono ?_
              rintro e w7 ⟨rfl, rfl⟩
              go_wp2_with (go_at_call 19; refine (HFg.out _ (Below.refl _ _)).mono ?_; rintro e w8 ⟨rfl, hg8⟩; have Hg8 := Lib.hid hg8; clear hg8)
              go_loopw [9] (fun t9 wq => ∃ j : Nat, j ≤ n ∧ t9 = .int .i64 j ∧ Hid (Grows w2 wq)) (fun t9 _ => n - (intOf t9).toNat)
              case atStart => exact ⟨0, by omega, rfl, Hg8⟩
              case round =>
                obtain ⟨j, hj, rfl, Hgj⟩ := hrel
                by_cases hjl : j < n
                · have hjl' : (j : Int) < (n : Int) := by omega
                  have HOj := own_grows HO2b.out Hgj.out
                  obtain ⟨gl, rfl⟩ := own_some' HOj (by omega)
                  obtain ⟨c, Hcc⟩ : ∃ c, Hid ((cl A.l j).p = c) := ⟨_, rfl⟩
                  have cj := own_cell HOj j (.string ⟨c.toArray⟩) (by rw [List.getElem?_map, ps_get _ j (by rw [Hn.out]; exact hjl), ← Hcc.out]; rfl)
                  have HCg : Hid (∀ X, Grows wr X → Calls Try.prog 20 #[pb g, .int .i64 (j : Int)] X fun e w' => ∃ v, e = .returned v ∧ Byt w' v c ∧ Grows X w') := Lib.hid (fun X hX => hCellB (Hh2.out.grows (Grows.trans' Hgj.out hX)) j (by rw [Hn.out]; exact hjl) c Hcc.out)
                  unfold pb at HCg
                  clear HOj
                  go_wp2
                  refine specs_region
                    #[[], [], [0, 1], [0, 1, 2], [], [], [4, 5], [4, 5, 6], [0, 1, 2, 3, 4, 5, 6, 7]] #[[3], [9], [], [], [4], [9], [], [], []] #[true, true, true, true, true, true, true, true, true]
                    ((.val ?vpjd0) :: (.val ?vpjd1) :: (.byt (c)) :: (.val (.string ⟨(c : List UInt8).toArray⟩)) :: (.val ?vpjd4) :: (.val ?vpjd5) :: (.val ?vpjd6) :: (.val ?vpjd7) :: (.val ?vpjd8) :: []).toArray
                    hmx ?chkpjd ?grdpjd ?stppjd ?rstpjd
                  case chkpjd => rfl
                  case stppjd =>
                    refine ⟨?_, ?_, ?_, ?_, ?_, ?_, ?_, ?_, ?_, trivial⟩
                    · refine step_intro rfl rfl fun ρ X hc hf hgl hX hp ho => ?_
                      change StepOk _ { dst := _, op := Op.move (Operand.tmp 3), type := _, pos := _, after := _, guard := _ } _ _ _
                      have k3 : ρ (.tmp 3) = .pointer (some ⟨g, 0, none⟩) := ho 3 (by decide)
                      clear hp ho
                      refine StepOk.of_run (v := ?vpjd0) (w' := X) ?_ ⟨rfl, Below.refl _ _⟩
                      clear hX
                      go_simp
                      all_goals try go_bits
                      all_goals try simp only [IntWalk.iteOmega]
                      all_goals try go_bits
                      all_goals rfl
                    · refine step_intro rfl rfl fun ρ X hc hf hgl hX hp ho => ?_
                      change StepOk _ { dst := _, op := Op.move (Operand.tmp 9), type := _, pos := _, after := _, guard := _ } _ _ _
                      have k9 : ρ (.tmp 9) = .int .i64 (j : Int) := ho 9 (by decide)
                      clear hp ho
                      refine StepOk.of_run (v := ?vpjd1) (w' := X) ?_ ⟨rfl, Below.refl _ _⟩
                      clear hX
                      go_simp
                      all_goals try go_bits
                      all_goals try simp only [IntWalk.iteOmega]
                      all_goals try go_bits
                      all_goals rfl
                    · refine step_intro rfl rfl fun ρ X hc hf hgl hX hp ho => ?_
                      change StepOk _ { dst := _, op := Op.call { callee := Callee.value (Operand.func 20), args := #[Operand.tmp 157, Operand.tmp 158], argTypes := #[25, 3] }, type := _, pos := _, after := _, guard := _ } _ _ _
                      have k157 : ρ (.tmp 157) = ?vpjd0 := hp 0 (by decide)
                      have k158 : ρ (.tmp 158) = ?vpjd1 := hp 1 (by decide)
                      clear hp ho
                      refine StepOk.of_call (f := 20) (args := #[.pointer (some ⟨g, 0, none⟩), .int .i64 (j : Int)]) (w' := X) ?_ (HCg.out X hX) ?_
                      · go_simp
                        all_goals try rfl
                      · rintro e w'' ⟨v, rfl, hb', hg'⟩; exact ⟨v, rfl, hb', hg'⟩
                    · refine step_intro rfl rfl fun ρ X hc hf hgl hX hp ho => ?_
                      change StepOk _ { dst := _, op := Op.convert 30 9 (Operand.tmp 159), type := _, pos := _, after := _, guard := _ } _ _ _
                      have k159 := hp 2 (by decide)
                      clear hp ho
                      have hr := run_string (P := Try.prog) (T := 30) (e := 5) (S := 9) rfl rfl rfl k159
                      refine StepOk.of_run (v := .string ⟨(c : List UInt8).toArray⟩) (w' := X) ?_ ⟨rfl, Below.refl _ _⟩
                      simp only [execOp, Sem.run_bind, hr, Result.andThen_ok, Sem.run_pure]
                    · refine step_intro rfl rfl fun ρ X hc hf hgl hX hp ho => ?_
                      change StepOk _ { dst := _, op := Op.move (Operand.tmp 4), type := _, pos := _, after := _, guard := _ } _ _ _
                      have k4 : ρ (.tmp 4) = .slice (some ⟨gl, 0, none⟩) n lc := ho 4 (by decide)
                      clear hp ho
                      refine StepOk.of_run (v := ?vpjd4) (w' := X) ?_ ⟨rfl, Below.refl _ _⟩
                      clear hX
                      go_simp
                      all_goals try go_bits
                      all_goals try simp only [IntWalk.iteOmega]
                      all_goals try go_bits
                      all_goals rfl
                    · refine step_intro rfl rfl fun ρ X hc hf hgl hX hp ho => ?_
                      change StepOk _ { dst := _, op := Op.move (Operand.tmp 9), type := _, pos := _, after := _, guard := _ } _ _ _
                      have k9 : ρ (.tmp 9) = .int .i64 (j : Int) := ho 9 (by decide)
                      clear hp ho
                      refine StepOk.of_run (v := ?vpjd5) (w' := X) ?_ ⟨rfl, Below.refl _ _⟩
                      clear hX
                      go_simp
                      all_goals try go_bits
                      all_goals try simp only [IntWalk.iteOmega]
                      all_goals try go_bits
                      all_goals rfl
                    · refine step_intro rfl rfl fun ρ X hc hf hgl hX hp ho => ?_
                      change StepOk _ { dst := _, op := Op.indexAddr 34 (Operand.tmp 161) (Operand.tmp 162), type := _, pos := _, after := _, guard := _ } _ _ _
                      have k161 : ρ (.tmp 161) = ?vpjd4 := hp 4 (by decide)
                      have k162 : ρ (.tmp 162) = ?vpjd5 := hp 5 (by decide)
                      clear hp ho
                      refine StepOk.of_run (v := ?vpjd6) (w' := X) ?_ ⟨rfl, Below.refl _ _⟩
                      clear hX
                      go_simp
                      all_goals try go_bits
                      all_goals try simp only [IntWalk.iteOmega]
                      all_goals try go_bits
                      all_goals rfl
                    · refine step_intro rfl rfl fun ρ X hc hf hgl hX hp ho => ?_
                      change StepOk _ { dst := _, op := Op.load 9 (Operand.tmp 163), type := _, pos := _, after := _, guard := _ } _ _ _
                      have k163 : ρ (.tmp 163) = ?vpjd6 := hp 6 (by decide)
                      have cjX := Grows.cell' hX cj
                      clear hp ho
                      refine StepOk.of_run (v := ?vpjd7) (w' := X) ?_ ⟨rfl, Below.refl _ _⟩
                      clear hX
                      go_simp
                      all_goals try go_bits
                      all_goals try simp only [IntWalk.iteOmega]
                      all_goals try go_bits
                      all_goals rfl
                    · refine step_intro rfl rfl fun ρ X hc hf hgl hX hp ho => ?_
                      change StepOk _ { dst := _, op := Op.binOp BinOp.neq 9 (Operand.tmp 160) (Operand.tmp 164) 9, type := _, pos := _, after := _, guard := _ } _ _ _
                      have k160 : ρ (.tmp 160) = (.string ⟨(c : List UInt8).toArray⟩) := hp 3 (by decide)
                      have k164 : ρ (.tmp 164) = ?vpjd7 := hp 7 (by decide)
                      clear hp ho
                      refine StepOk.of_run (v := ?vpjd8) (w' := X) ?_ ⟨rfl, Below.refl _ _⟩
                      clear hX
                      go_simp
                      all_goals try go_bits
                      all_goals try simp only [IntWalk.iteOmega]
                      all_goals try go_bits
                      all_goals rfl
                  case grdpjd => rfl
                  case rstpjd =>
                    intro a0 X hb
                    obtain ⟨x159, hx159⟩ : ∃ x, a0.tmps.getD 159 undef = x := ⟨_, rfl⟩
                    have p159 := hb.done' 2 159 rfl rfl
                    rw [hx159] at p159
                    have hfr := hb.frame ((157, ?vpjd0) :: (158, ?vpjd1) :: (159, x159) :: (160, (.string ⟨(c : List UInt8).toArray⟩)) :: (161, ?vpjd4) :: (162, ?vpjd5) :: (163, ?vpjd6) :: (164, ?vpjd7) :: (165, ?vpjd8) :: []) rfl ⟨hb.done' 0 157 rfl rfl, hb.done' 1 158 rfl rfl, hx159, hb.done' 3 160 rfl rfl, hb.done' 4 161 rfl rfl, hb.done' 5 162 rfl rfl, hb.done' 6 163 rfl rfl, hb.done' 7 164 rfl rfl, hb.done' 8 165 rfl rfl, trivial⟩
                    simp only [updL, ↓reduceIte, Nat.reduceEqDiff, Nat.reduceAdd, Nat.zero_add] at hfr
                    have HX := Lib.hid hb.ext
                    clear hb
                    subst hfr
                    have HgX := Lib.hid (Grows.trans' Hgj.out HX.out)
                    clear cj
                    go_wp2
                    go_roundw
                    case rel => exact ⟨j + 1, by omega, by simp, HgX⟩
                    case measure => simp [intOf]; omega
                · have hjl' : ¬ (j : Int) < (n : Int) := by omega
                  go_wp2
                  go_roundw
                  case rel => exact ⟨k + 1, f, A, la, lc, by omega, by simp, by rw [Hr.out], by rw [Hn.out], by rw [Hn.out]; exact Lib.hid (own_grows HO2b.out Hgj.out), Lib.hid (Hh2.out.grows Hgj.out), Lib.hid (Grows.trans' HgT.out Hgj.out)⟩
                  case measure => simp [intOf]; omega
      · have hlt' : ¬ (k : Int) < (N : Int) := by omega
        go_wp2_with (go_at_call 8; refine (HLv.out _).mono ?_; rintro e w2 ⟨rfl, hg⟩)
        go_ret
        exact ⟨rfl, Grows.trans' Hgr.out hg⟩
end Go.Proofs.Ytpodbhimkbadhaa
