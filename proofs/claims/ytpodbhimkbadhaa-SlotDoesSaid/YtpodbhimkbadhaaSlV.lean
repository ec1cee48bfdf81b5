/-
  The document's own Pack and Delete.
-/
import Derived.Test.YtpodbhimkbadhaaSlU
namespace Go.Proofs.Ytpodbhimkbadhaa
open Go.RowKit
set_option linter.unusedVariables false
set_option linter.unusedSimpArgs false

theorem RB.setTop {w : World} {B q : Nat} {vL : Value} {t : Nat} {L : List Ce} (h : RB w B q vL t L) (t' : Nat) (z : Int) (hz : z = (t' : Int)) : RB (w.setCell ⟨q, 0, none⟩ (.int .i64 z)) B q vL t' L ∧ But (OR q vL) w (w.setCell ⟨q, 0, none⟩ (.int .i64 z)) := by
  subst hz
  have hu : But (At q) w (w.setCell ⟨q, 0, none⟩ (.int .i64 (t' : Int))) := But.setCell (But.refl' _ _) _ _ rfl
  refine ⟨⟨?_, own_but h.own hu (fun j hj e => own_ne h.own h.row (by decide) (by rw [hj, e])), fun e he => own_but (h.ps e he) hu (fun j hj e' => own_ne (h.ps e he) h.row (by decide) (by rw [hj, e'])), h.qB, h.vB⟩, hu.mono (fun k hk => .inl hk)⟩
  rw [row_setCell h.row 0]
  rfl
theorem RB.setL {w : World} {B q : Nat} {vL : Value} {t : Nat} {L : List Ce} (h : RB w B q vL t L) (vL' : Value) (L' : List Ce) (ho : w.ownsRow 0 54 2 vL' L'.length (ccs L')) (hv : ∀ j, vL'.ownBlock = some j → B ≤ j) (hp : ∀ e ∈ L', e ∈ L) :
    RB (w.setCell ⟨q, 1, none⟩ vL') B q vL' t L' ∧ But (At q) w (w.setCell ⟨q, 1, none⟩ vL') := by
  have hu : But (At q) w (w.setCell ⟨q, 1, none⟩ vL') := But.setCell (But.refl' _ _) _ _ rfl
  refine ⟨⟨?_, own_but ho hu (fun j hj e => own_ne ho h.row (by decide) (by rw [hj, e])), fun e he => own_but (h.ps e (hp e he)) hu (fun j hj e' => own_ne (h.ps e (hp e he)) h.row (by decide) (by rw [hj, e'])), h.qB, hv⟩, hu⟩
  rw [row_setCell h.row 1]
  rfl
theorem ccs_set (L : List Ce) (i : Nat) (h : i < L.length) (c : Cl) : (ccs L).set (i * 2) (.int .i64 (c.pl : Int)) = ccs (L.set i ⟨c, (ce L i).v⟩) := by
  induction L generalizing i with
  | nil => simp at h
  | cons e L ih =>
    cases i with
    | zero => simp [ccs, ceC, ce]
    | succ i =>
      rw [show (i + 1) * 2 = i * 2 + 1 + 1 by omega]
      simp only [ccs, List.flatMap_cons, ceC, List.cons_append, List.nil_append, List.set_cons_succ]
      congr 2
      have := ih i (by simpa using h)
      simpa [ccs, ceC, ce, List.getD] using this
theorem RB.setAt {w : World} {B q gl n lc : Nat} {t : Nat} {L : List Ce} (h : RB w B q (.slice (some ⟨gl, 0, none⟩) n lc) t L) (hn : L.length = n) (i : Nat) (hi : i < n) (c : Cl) (hc : c.p = (ce L i).c.p) (z : Int) (hz : z = (c.pl : Int)) :
    RB (w.setCell ⟨gl, i * 2, none⟩ (.int .i64 z)) B q (.slice (some ⟨gl, 0, none⟩) n lc) t (L.set i ⟨c, (ce L i).v⟩) ∧ But (OR q (.slice (some ⟨gl, 0, none⟩) n lc)) w (w.setCell ⟨gl, i * 2, none⟩ (.int .i64 z)) := by
  subst hz
  have ho := h.own
  rw [hn] at ho
  have hu : But (At gl) w (w.setCell ⟨gl, i * 2, none⟩ (.int .i64 (c.pl : Int))) := But.setCell (But.refl' _ _) _ _ rfl
  have hrow : ∃ cs, w.heap[gl]? = some (.cells cs 54 (0, 0)) := by
    rcases ho.2 with ⟨e, _⟩ | ⟨g', cap, cur, e, _, hg, _⟩
    · cases e
    · simp only [Value.slice.injEq, Option.some.injEq, Addr.mk.injEq, and_true, true_and] at e
      obtain ⟨rfl, rfl⟩ := e
      exact ⟨_, hg⟩
  obtain ⟨cs, hrow⟩ := hrow
  refine ⟨⟨hu.blockEq (fun e => ne_types hrow h.row (by decide) (by rw [show q = gl from e])) h.row, ?_, fun e he => ?_, h.qB, h.vB⟩, hu.mono (fun k hk => .inr (by rw [show k = gl from hk]; rfl))⟩
  · rw [List.length_set, hn, ← ccs_set L i (by omega)]
    exact (World.ownsRow.stored ho (i * 2) (.int .i64 (c.pl : Int))).1
  · have hpe : Own 5 0 w e.v e.c.p := by
      rcases List.mem_or_eq_of_mem_set he with h1 | h1
      · exact h.ps e h1
      · rw [h1]
        show Own _ _ _ (ce L i).v c.p
        rw [hc]
        exact h.ps _ (ce_mem L i (by omega))
    exact own_but hpe hu (fun j hj e' => own_ne hpe hrow (by decide) (by rw [hj, e']))
theorem wpList_storeTop {w : World} {ops : Array Oper} {rest : List Oper} {o : Oper} {a : Act} {Q : Exit → Act → World → Prop} (hgd : o.guard = none) (x y : Operand) (ho : o.op = .store 3 x y)
    {B q : Nat} {vL : Value} {t : Nat} {L : List Ce} (hb : RB w B q vL t L) (t' : Nat) (z : Int) (hx : a.eval x = .pointer (some ⟨q, 0, none⟩)) (hy : a.eval y = .int .i64 z) (hz : z = (t' : Int))
    (h : ∀ w', RB w' B q vL t' L → But (OR q vL) w w' → wpList Try.prog ops Q rest (a.put o.dst undef) w') : wpList Try.prog ops Q (o :: rest) a w := by
  have cX := hb.cells.1
  have fX := hb.fro 0
  have h1 := h _ (hb.setTop t' z hz).1 (hb.setTop t' z hz).2
  refine wpList_plain hgd fun K hK => ?_
  unfold Oper.wp execOp
  simp only [ho, hx, hy]
  simp [go_sem, cX, fX]
  exact hK _ _ h1
def packE (i : Nat) (L : List Ce) : List Ce := (List.range L.length).map fun k => if k < i then ⟨⟨243 - sumL ((L.map (·.c)).take (k + 1)), (ce L k).c.p⟩, (ce L k).v⟩ else ce L k
theorem packE_len (i : Nat) (L : List Ce) : (packE i L).length = L.length := by simp [packE]
theorem ce_pack (i : Nat) (L : List Ce) (k : Nat) (h : k < L.length) : ce (packE i L) k = if k < i then ⟨⟨243 - sumL ((L.map (·.c)).take (k + 1)), (ce L k).c.p⟩, (ce L k).v⟩ else ce L k := by
  rw [ce_get _ _ (by rw [packE_len]; exact h)]
  simp [packE]
theorem ce_pack_v (i : Nat) (L : List Ce) (k : Nat) (h : k < L.length) : (ce (packE i L) k).v = (ce L k).v ∧ (ce (packE i L) k).c.p = (ce L k).c.p := by
  rw [ce_pack i L k h]; split <;> exact ⟨rfl, rfl⟩
theorem packE_zero (L : List Ce) : packE 0 L = L := by
  refine List.ext_getElem (packE_len 0 L) (fun k h1 h2 => ?_)
  rw [← ce_get _ k h1, ← ce_get _ k h2, ce_pack 0 L k h2]; simp
theorem packE_succ (L : List Ce) (i : Nat) (h : i < L.length) : packE (i + 1) L = (packE i L).set i ⟨⟨243 - sumL ((L.map (·.c)).take (i + 1)), (ce L i).c.p⟩, (ce (packE i L) i).v⟩ := by
  refine List.ext_getElem (by simp [packE_len]) (fun k h1 h2 => ?_)
  have hk : k < L.length := by rw [packE_len] at h1; exact h1
  rw [← ce_get _ k h1, ce_pack _ L k hk, List.getElem_set]
  by_cases e : i = k
  · subst e; simp [(ce_pack_v i L i hk).1]
  · rw [if_neg e, ← ce_get _ k (by rw [packE_len]; exact hk), ce_pack i L k hk]
    by_cases h3 : k < i
    · rw [if_pos h3, if_pos (by omega)]
    · rw [if_neg h3, if_neg (by omega)]
theorem abs_pack (t : Nat) (L : List Ce) : abs_ (243 - sumL (abs_ t L).l) (packE L.length L) = packA (abs_ t L) := by
  unfold packA abs_
  congr 1
  refine List.ext_getElem (by simp [packE_len, packL_length]) (fun k h1 h2 => ?_)
  have hk : k < L.length := by simpa [packE_len] using h1
  rw [List.getElem_map, ← ce_get _ k (by rw [packE_len]; exact hk), ce_pack _ L k hk, if_pos hk, ← cl_get _ k h2, cl_pack _ _ k (by simpa using hk), if_pos (by simpa using hk)]
  have h := abs_cl t L k hk
  unfold abs_ at h
  show Cl.mk _ _ = Cl.mk _ _
  rw [h]
theorem abs_take (t : Nat) (L : List Ce) (k : Nat) (h : k < L.length) : sumL ((L.map (·.c)).take (k + 1)) = sumL ((L.map (·.c)).take k) + (ce L k).c.p.length := by
  have := sum_succ (L.map (·.c)) k (by simpa using h)
  rw [this]
  congr 2
  exact congrArg Cl.p (abs_cl t L k h)
set_option maxRecDepth 100000 in
set_option maxHeartbeats 1000000 in
theorem rPack {w : World} {B q : Nat} {vL : Value} {t : Nat} {L : List Ce} (h : RB w B q vL t L) (hw : Wf (abs_ t L)) : Calls Try.prog 25 #[.pointer (some ⟨q, 0, none⟩)] w fun e w' => e = .returned (.tuple #[]) ∧ RB w' B q vL (packA (abs_ t L)).top (packE L.length L) ∧ But (OR q vL) w w' := by
  have hmx : Try.prog.follows .mixedOrders = true := by kernel_rfl
  obtain ⟨n, Hn⟩ : ∃ n, Hid (L.length = n) := ⟨_, rfl⟩
  have hn120 : n ≤ 120 := by have := hw.ntop.1; rw [abs_len, Hn.out] at this; exact this
  have HS : Hid (sumL (L.map (·.c)) ≤ 241) := hw.ntop.2.2
  have Htop : Hid ((packA (abs_ t L)).top = 243 - sumL (L.map (·.c))) := rfl
  obtain ⟨la, lc, rfl⟩ := h.form
  rw [Hn.out] at h ⊢
  have Hh := Lib.hid h
  clear h hw
  go_enter Try.func25, Try.ntmps25
  go_wp2_with (refine wpList_storeTop rfl (.tmp 5) (.const (.int .i64 243)) rfl Hh.out 243 243 rfl rfl rfl ?_; intro w1 hb1 hu1; have Hb1 := Lib.hid hb1; have Hu1 := Lib.hid hu1; clear hb1 hu1)
  go_loopw [2] (fun t2 wr => ∃ k : Nat, k ≤ n ∧ t2 = .int .i64 k ∧ Hid (RB wr B q (.slice la n lc) (243 - sumL ((L.map (·.c)).take k)) (packE k L)) ∧ Hid (But (OR q (.slice la n lc)) w wr)) (fun t2 _ => n - (intOf t2).toNat)
  case atStart => exact ⟨0, by omega, rfl, by rw [packE_zero]; exact Hb1, Hu1⟩
  case round =>
    obtain ⟨k, hk, rfl, Hb, Hu⟩ := hrel
    obtain ⟨c0, c1⟩ := Hb.out.cells
    by_cases hlt : k < n
    · have hlt' : (k : Int) < (n : Int) := by omega
      have HkL : Hid (k < L.length) := by show _ < _; rw [Hn.out]; exact hlt
      have Hpn : Hid ((packE k L).length = n) := by show _ = _; rw [packE_len, Hn.out]
      obtain ⟨gl, rfl, d0, d1, _⟩ := Hb.out.cell Hpn.out k hlt
      rw [(ce_pack_v k L k HkL.out).1] at d1
      obtain ⟨pa, pc, hp⟩ := own_form (Hb.out.ps _ (ce_mem _ k (by rw [Hpn.out]; exact hlt)))
      rw [(ce_pack_v k L k HkL.out).1, (ce_pack_v k L k HkL.out).2] at hp
      obtain ⟨s, Hs⟩ : ∃ s, Hid (sumL ((L.map (·.c)).take k) = s) := ⟨_, rfl⟩
      obtain ⟨m, Hm⟩ : ∃ m, Hid ((ce L k).c.p.length = m) := ⟨_, rfl⟩
      have Hss : Hid (sumL ((L.map (·.c)).take (k + 1)) = s + m) := by show _ = _; rw [abs_take t L k HkL.out, Hs.out, Hm.out]
      have hsm : s + m ≤ 241 := by have := sum_take_le (L.map (·.c)) (k + 1); have := Hss.out; have := HS.out; omega
      rw [hp, Hm.out] at d1
      rw [Hs.out] at c0
      obtain ⟨t0, Ht0⟩ : ∃ t0, Hid (243 - s = t0) := ⟨_, rfl⟩
      rw [Ht0.out] at c0
      have ht0 : m ≤ t0 ∧ t0 ≤ 243 := by have := Ht0.out; omega
      clear hp d0
      go_wp2
      refine specs_last 17
        #[[], [], [1], [1, 2], [1, 2, 3], [], [5], [5, 6], [5, 6, 7], [], [5, 6, 7, 8, 9], [5, 6, 7, 8, 9, 10], [5, 6, 7, 8, 9, 10, 11], [5, 6, 7, 8, 9, 10, 11, 12], [1, 2, 3, 4, 5, 6, 7, 8, 9, 10, 11, 12, 13], [0, 1, 2, 3, 4, 5, 6, 7, 8, 9, 10, 11, 12, 13, 14], [0, 1, 2, 3, 4, 5, 6, 7, 8, 9, 10, 11, 12, 13, 14, 15], [0, 1, 2, 3, 4, 5, 6, 7, 8, 9, 10, 11, 12, 13, 14, 15, 16]] #[[0], [0], [], [], [], [0], [], [], [], [2], [], [], [], [], [], [], [], []] #[true, true, true, true, true, true, true, true, true, true, true, true, true, true, true, true, true, true]
        ((.val ?va0) :: (.val ?va1) :: (.val ?va2) :: (.val ?va3) :: (.val ?va4) :: (.val ?va5) :: (.val ?va6) :: (.val ?va7) :: (.val ?va8) :: (.val ?va9) :: (.val ?va10) :: (.val ?va11) :: (.val ?va12) :: (.val ?va13) :: (.val ?va14) :: (.val ?va15) :: (.val ?va16) :: (.any) :: []).toArray
        hmx ?chka ?grda rfl ?stpa ?rsta
      case chka => rfl
      case stpa =>
        refine ⟨?_, ?_, ?_, ?_, ?_, ?_, ?_, ?_, ?_, ?_, ?_, ?_, ?_, ?_, ?_, ?_, ?_, ?_, trivial⟩
        · refine step_intro rfl rfl fun ρ X hc hf hgl hX hp ho => ?_
          change StepOk _ { dst := _, op := Op.move (Operand.tmp 0), type := _, pos := _, after := _, guard := _ } _ _ _
          have k0 : ρ (.tmp 0) = .pointer (some ⟨q, 0, none⟩) := ho 0 (by decide)
          clear hp ho
          refine StepOk.of_run (v := ?va0) (w' := X) ?_ ⟨rfl, Below.refl _ _⟩
          clear hX
          go_simp
          all_goals try go_bits
          all_goals try simp only [IntWalk.iteOmega]
          all_goals try go_bits
          all_goals rfl
        · refine step_intro rfl rfl fun ρ X hc hf hgl hX hp ho => ?_
          change StepOk _ { dst := _, op := Op.move (Operand.tmp 0), type := _, pos := _, after := _, guard := _ } _ _ _
          have k0 : ρ (.tmp 0) = .pointer (some ⟨q, 0, none⟩) := ho 0 (by decide)
          clear hp ho
          refine StepOk.of_run (v := ?va1) (w' := X) ?_ ⟨rfl, Below.refl _ _⟩
          clear hX
          go_simp
          all_goals try go_bits
          all_goals try simp only [IntWalk.iteOmega]
          all_goals try go_bits
          all_goals rfl
        · refine step_intro rfl rfl fun ρ X hc hf hgl hX hp ho => ?_
          change StepOk _ { dst := _, op := Op.nilCheck (Operand.tmp 16), type := _, pos := _, after := _, guard := _ } _ _ _
          have k16 : ρ (.tmp 16) = ?va1 := hp 1 (by decide)
          clear hp ho
          refine StepOk.of_run (v := ?va2) (w' := X) ?_ ⟨rfl, Below.refl _ _⟩
          clear hX
          go_simp
          all_goals try go_bits
          all_goals try simp only [IntWalk.iteOmega]
          all_goals try go_bits
          all_goals rfl
        · refine step_intro rfl rfl fun ρ X hc hf hgl hX hp ho => ?_
          change StepOk _ { dst := _, op := Op.fieldAddr 50 (Operand.tmp 17) 0, type := _, pos := _, after := _, guard := _ } _ _ _
          have k17 : ρ (.tmp 17) = ?va2 := hp 2 (by decide)
          clear hp ho
          refine StepOk.of_run (v := ?va3) (w' := X) ?_ ⟨rfl, Below.refl _ _⟩
          clear hX
          go_simp
          all_goals try go_bits
          all_goals try simp only [IntWalk.iteOmega]
          all_goals try go_bits
          all_goals rfl
        · refine step_intro rfl rfl fun ρ X hc hf hgl hX hp ho => ?_
          change StepOk _ { dst := _, op := Op.load 3 (Operand.tmp 18), type := _, pos := _, after := _, guard := _ } _ _ _
          have k18 : ρ (.tmp 18) = ?va3 := hp 3 (by decide)
          have c0X := Grows.cell' hX c0
          have c1X := Grows.cell' hX c1
          have d1X := Grows.cell' hX d1
          clear hp ho
          refine StepOk.of_run (v := ?va4) (w' := X) ?_ ⟨rfl, Below.refl _ _⟩
          clear hX
          go_simp
          all_goals try go_bits
          all_goals try simp only [IntWalk.iteOmega]
          all_goals try go_bits
          all_goals rfl
        · refine step_intro rfl rfl fun ρ X hc hf hgl hX hp ho => ?_
          change StepOk _ { dst := _, op := Op.move (Operand.tmp 0), type := _, pos := _, after := _, guard := _ } _ _ _
          have k0 : ρ (.tmp 0) = .pointer (some ⟨q, 0, none⟩) := ho 0 (by decide)
          clear hp ho
          refine StepOk.of_run (v := ?va5) (w' := X) ?_ ⟨rfl, Below.refl _ _⟩
          clear hX
          go_simp
          all_goals try go_bits
          all_goals try simp only [IntWalk.iteOmega]
          all_goals try go_bits
          all_goals rfl
        · refine step_intro rfl rfl fun ρ X hc hf hgl hX hp ho => ?_
          change StepOk _ { dst := _, op := Op.nilCheck (Operand.tmp 20), type := _, pos := _, after := _, guard := _ } _ _ _
          have k20 : ρ (.tmp 20) = ?va5 := hp 5 (by decide)
          clear hp ho
          refine StepOk.of_run (v := ?va6) (w' := X) ?_ ⟨rfl, Below.refl _ _⟩
          clear hX
          go_simp
          all_goals try go_bits
          all_goals try simp only [IntWalk.iteOmega]
          all_goals try go_bits
          all_goals rfl
        · refine step_intro rfl rfl fun ρ X hc hf hgl hX hp ho => ?_
          change StepOk _ { dst := _, op := Op.fieldAddr 50 (Operand.tmp 21) 1, type := _, pos := _, after := _, guard := _ } _ _ _
          have k21 : ρ (.tmp 21) = ?va6 := hp 6 (by decide)
          clear hp ho
          refine StepOk.of_run (v := ?va7) (w' := X) ?_ ⟨rfl, Below.refl _ _⟩
          clear hX
          go_simp
          all_goals try go_bits
          all_goals try simp only [IntWalk.iteOmega]
          all_goals try go_bits
          all_goals rfl
        · refine step_intro rfl rfl fun ρ X hc hf hgl hX hp ho => ?_
          change StepOk _ { dst := _, op := Op.load 48 (Operand.tmp 22), type := _, pos := _, after := _, guard := _ } _ _ _
          have k22 : ρ (.tmp 22) = ?va7 := hp 7 (by decide)
          have c0X := Grows.cell' hX c0
          have c1X := Grows.cell' hX c1
          have d1X := Grows.cell' hX d1
          clear hp ho
          refine StepOk.of_run (v := ?va8) (w' := X) ?_ ⟨rfl, Below.refl _ _⟩
          clear hX
          go_simp
          all_goals try go_bits
          all_goals try simp only [IntWalk.iteOmega]
          all_goals try go_bits
          all_goals rfl
        · refine step_intro rfl rfl fun ρ X hc hf hgl hX hp ho => ?_
          change StepOk _ { dst := _, op := Op.move (Operand.tmp 2), type := _, pos := _, after := _, guard := _ } _ _ _
          have k2 : ρ (.tmp 2) = .int .i64 (k : Int) := ho 2 (by decide)
          clear hp ho
          refine StepOk.of_run (v := ?va9) (w' := X) ?_ ⟨rfl, Below.refl _ _⟩
          clear hX
          go_simp
          all_goals try go_bits
          all_goals try simp only [IntWalk.iteOmega]
          all_goals try go_bits
          all_goals rfl
        · refine step_intro rfl rfl fun ρ X hc hf hgl hX hp ho => ?_
          change StepOk _ { dst := _, op := Op.indexAddr 48 (Operand.tmp 23) (Operand.tmp 24), type := _, pos := _, after := _, guard := _ } _ _ _
          have k23 : ρ (.tmp 23) = ?va8 := hp 8 (by decide)
          have k24 : ρ (.tmp 24) = ?va9 := hp 9 (by decide)
          clear hp ho
          refine StepOk.of_run (v := ?va10) (w' := X) ?_ ⟨rfl, Below.refl _ _⟩
          clear hX
          go_simp
          all_goals try go_bits
          all_goals try simp only [IntWalk.iteOmega]
          all_goals try go_bits
          all_goals rfl
        · refine step_intro rfl rfl fun ρ X hc hf hgl hX hp ho => ?_
          change StepOk _ { dst := _, op := Op.fieldAddr 54 (Operand.tmp 25) 1, type := _, pos := _, after := _, guard := _ } _ _ _
          have k25 : ρ (.tmp 25) = ?va10 := hp 10 (by decide)
          clear hp ho
          refine StepOk.of_run (v := ?va11) (w' := X) ?_ ⟨rfl, Below.refl _ _⟩
          clear hX
          go_simp
          all_goals try go_bits
          all_goals try simp only [IntWalk.iteOmega]
          all_goals try go_bits
          all_goals rfl
        · refine step_intro rfl rfl fun ρ X hc hf hgl hX hp ho => ?_
          change StepOk _ { dst := _, op := Op.load 30 (Operand.tmp 26), type := _, pos := _, after := _, guard := _ } _ _ _
          have k26 : ρ (.tmp 26) = ?va11 := hp 11 (by decide)
          have c0X := Grows.cell' hX c0
          have c1X := Grows.cell' hX c1
          have d1X := Grows.cell' hX d1
          clear hp ho
          refine StepOk.of_run (v := ?va12) (w' := X) ?_ ⟨rfl, Below.refl _ _⟩
          clear hX
          go_simp
          all_goals try go_bits
          all_goals try simp only [IntWalk.iteOmega]
          all_goals try go_bits
          all_goals rfl
        · refine step_intro rfl rfl fun ρ X hc hf hgl hX hp ho => ?_
          change StepOk _ { dst := _, op := Op.call { callee := Callee.builtin Builtin.len, args := #[Operand.tmp 27], argTypes := #[30] }, type := _, pos := _, after := _, guard := _ } _ _ _
          have k27 : ρ (.tmp 27) = ?va12 := hp 12 (by decide)
          clear hp ho
          refine StepOk.of_run (v := ?va13) (w' := X) ?_ ⟨rfl, Below.refl _ _⟩
          clear hX
          go_simp
          all_goals try go_bits
          all_goals try simp only [IntWalk.iteOmega]
          all_goals try go_bits
          all_goals rfl
        · refine step_intro rfl rfl fun ρ X hc hf hgl hX hp ho => ?_
          change StepOk _ { dst := _, op := Op.binOp BinOp.sub 3 (Operand.tmp 19) (Operand.tmp 28) 3, type := _, pos := _, after := _, guard := _ } _ _ _
          have k19 : ρ (.tmp 19) = ?va4 := hp 4 (by decide)
          have k28 : ρ (.tmp 28) = ?va13 := hp 13 (by decide)
          clear hp ho
          refine StepOk.of_run (v := ?va14) (w' := X) ?_ ⟨rfl, Below.refl _ _⟩
          clear hX
          go_simp
          all_goals try go_bits
          all_goals try simp only [IntWalk.iteOmega]
          all_goals try go_bits
          all_goals rfl
        · refine step_intro rfl rfl fun ρ X hc hf hgl hX hp ho => ?_
          change StepOk _ { dst := _, op := Op.nilCheck (Operand.tmp 15), type := _, pos := _, after := _, guard := _ } _ _ _
          have k15 : ρ (.tmp 15) = ?va0 := hp 0 (by decide)
          clear hp ho
          refine StepOk.of_run (v := ?va15) (w' := X) ?_ ⟨rfl, Below.refl _ _⟩
          clear hX
          go_simp
          all_goals try go_bits
          all_goals try simp only [IntWalk.iteOmega]
          all_goals try go_bits
          all_goals rfl
        · refine step_intro rfl rfl fun ρ X hc hf hgl hX hp ho => ?_
          change StepOk _ { dst := _, op := Op.fieldAddr 50 (Operand.tmp 30) 0, type := _, pos := _, after := _, guard := _ } _ _ _
          have k30 : ρ (.tmp 30) = ?va15 := hp 15 (by decide)
          clear hp ho
          refine StepOk.of_run (v := ?va16) (w' := X) ?_ ⟨rfl, Below.refl _ _⟩
          clear hX
          go_simp
          all_goals try go_bits
          all_goals try simp only [IntWalk.iteOmega]
          all_goals try go_bits
          all_goals rfl
        · exact last_intro rfl
      case grda => rfl
      case rsta =>
        intro a0 X hb
        have hfr := hb.frame ((15, ?va0) :: (16, ?va1) :: (17, ?va2) :: (18, ?va3) :: (19, ?va4) :: (20, ?va5) :: (21, ?va6) :: (22, ?va7) :: (23, ?va8) :: (24, ?va9) :: (25, ?va10) :: (26, ?va11) :: (27, ?va12) :: (28, ?va13) :: (29, ?va14) :: (30, ?va15) :: (31, ?va16) :: []) rfl ⟨hb.done' 0 15 rfl rfl, hb.done' 1 16 rfl rfl, hb.done' 2 17 rfl rfl, hb.done' 3 18 rfl rfl, hb.done' 4 19 rfl rfl, hb.done' 5 20 rfl rfl, hb.done' 6 21 rfl rfl, hb.done' 7 22 rfl rfl, hb.done' 8 23 rfl rfl, hb.done' 9 24 rfl rfl, hb.done' 10 25 rfl rfl, hb.done' 11 26 rfl rfl, hb.done' 12 27 rfl rfl, hb.done' 13 28 rfl rfl, hb.done' 14 29 rfl rfl, hb.done' 15 30 rfl rfl, hb.done' 16 31 rfl rfl, trivial⟩
        simp only [updL, ↓reduceIte, Nat.reduceEqDiff, Nat.reduceAdd, Nat.zero_add] at hfr
        have HX := Lib.hid hb.ext
        clear hb
        subst hfr
        change StepOk _ { dst := _, op := Op.store 3 (Operand.tmp 31) (Operand.tmp 29), type := _, pos := _, after := _, guard := _ } _ _ _
        have h0X := Hb.out.grows HX.out
        have fX := h0X.fro 0
        have cX := Grows.cell' HX.out c0
        unfold StepOk
        simp [go_sem, execOp, cX, fX]
        obtain ⟨t1, Ht1⟩ : ∃ t1, Hid (t0 - m = t1) := ⟨_, rfl⟩
        have hz1 : (t0 : Int) - (m : Int) = (t1 : Int) := by have := Ht1.out; omega
        have hset := h0X.setTop t1 (t1 : Int) rfl
        have hst : t1 = 243 - sumL ((L.map (·.c)).take (k + 1)) := by rw [Hss.out, ← Ht1.out, ← Ht0.out]; omega
        have Hst := Lib.hid hst
        have Hb2 := Lib.hid hset.1
        have Hu2 := Lib.hid ((Hu.out.trans' (But.ofGrows HX.out)).trans' hset.2)
        rw [hz1]
        clear cX fX h0X hset c0 c1 d1 HX hst hz1
        obtain ⟨w2, hw2⟩ : ∃ w2, X.setCell ⟨q, 0, none⟩ (.int .i64 (t1 : Int)) = w2 := ⟨_, rfl⟩
        rw [hw2] at Hb2 Hu2 ⊢
        clear hw2 X
        obtain ⟨c0, c1⟩ := Hb2.out.cells
        have d1 := c0
        go_wp2
        refine specs_last 11
          #[[], [0], [0, 1], [0, 1, 2], [], [], [5], [5, 6], [5, 6, 7], [0, 1, 2, 3, 4, 5, 6, 7, 8], [0, 1, 2, 3, 4, 5, 6, 7, 8, 9], [0, 1, 2, 3, 4, 5, 6, 7, 8, 9, 10]] #[[0], [], [], [], [2], [0], [], [], [], [], [], []] #[true, true, true, true, true, true, true, true, true, true, true, true]
          ((.val ?vb0) :: (.val ?vb1) :: (.val ?vb2) :: (.val ?vb3) :: (.val ?vb4) :: (.val ?vb5) :: (.val ?vb6) :: (.val ?vb7) :: (.val ?vb8) :: (.val ?vb9) :: (.val ?vb10) :: (.any) :: []).toArray
          hmx ?chkb ?grdb rfl ?stpb ?rstb
        case chkb => rfl
        case stpb =>
          refine ⟨?_, ?_, ?_, ?_, ?_, ?_, ?_, ?_, ?_, ?_, ?_, ?_, trivial⟩
          · refine step_intro rfl rfl fun ρ X hc hf hgl hX hp ho => ?_
            change StepOk _ { dst := _, op := Op.move (Operand.tmp 0), type := _, pos := _, after := _, guard := _ } _ _ _
            have k0 : ρ (.tmp 0) = .pointer (some ⟨q, 0, none⟩) := ho 0 (by decide)
            clear hp ho
            refine StepOk.of_run (v := ?vb0) (w' := X) ?_ ⟨rfl, Below.refl _ _⟩
            clear hX
            go_simp
            all_goals try go_bits
            all_goals try simp only [IntWalk.iteOmega]
            all_goals try go_bits
            all_goals rfl
          · refine step_intro rfl rfl fun ρ X hc hf hgl hX hp ho => ?_
            change StepOk _ { dst := _, op := Op.nilCheck (Operand.tmp 32), type := _, pos := _, after := _, guard := _ } _ _ _
            have k32 : ρ (.tmp 32) = ?vb0 := hp 0 (by decide)
            clear hp ho
            refine StepOk.of_run (v := ?vb1) (w' := X) ?_ ⟨rfl, Below.refl _ _⟩
            clear hX
            go_simp
            all_goals try go_bits
            all_goals try simp only [IntWalk.iteOmega]
            all_goals try go_bits
            all_goals rfl
          · refine step_intro rfl rfl fun ρ X hc hf hgl hX hp ho => ?_
            change StepOk _ { dst := _, op := Op.fieldAddr 50 (Operand.tmp 33) 1, type := _, pos := _, after := _, guard := _ } _ _ _
            have k33 : ρ (.tmp 33) = ?vb1 := hp 1 (by decide)
            clear hp ho
            refine StepOk.of_run (v := ?vb2) (w' := X) ?_ ⟨rfl, Below.refl _ _⟩
            clear hX
            go_simp
            all_goals try go_bits
            all_goals try simp only [IntWalk.iteOmega]
            all_goals try go_bits
            all_goals rfl
          · refine step_intro rfl rfl fun ρ X hc hf hgl hX hp ho => ?_
            change StepOk _ { dst := _, op := Op.load 48 (Operand.tmp 34), type := _, pos := _, after := _, guard := _ } _ _ _
            have k34 : ρ (.tmp 34) = ?vb2 := hp 2 (by decide)
            have c0X := Grows.cell' hX c0
            have c1X := Grows.cell' hX c1
            clear hp ho
            refine StepOk.of_run (v := ?vb3) (w' := X) ?_ ⟨rfl, Below.refl _ _⟩
            clear hX
            go_simp
            all_goals try go_bits
            all_goals try simp only [IntWalk.iteOmega]
            all_goals try go_bits
            all_goals rfl
          · refine step_intro rfl rfl fun ρ X hc hf hgl hX hp ho => ?_
            change StepOk _ { dst := _, op := Op.move (Operand.tmp 2), type := _, pos := _, after := _, guard := _ } _ _ _
            have k2 : ρ (.tmp 2) = .int .i64 (k : Int) := ho 2 (by decide)
            clear hp ho
            refine StepOk.of_run (v := ?vb4) (w' := X) ?_ ⟨rfl, Below.refl _ _⟩
            clear hX
            go_simp
            all_goals try go_bits
            all_goals try simp only [IntWalk.iteOmega]
            all_goals try go_bits
            all_goals rfl
          · refine step_intro rfl rfl fun ρ X hc hf hgl hX hp ho => ?_
            change StepOk _ { dst := _, op := Op.move (Operand.tmp 0), type := _, pos := _, after := _, guard := _ } _ _ _
            have k0 : ρ (.tmp 0) = .pointer (some ⟨q, 0, none⟩) := ho 0 (by decide)
            clear hp ho
            refine StepOk.of_run (v := ?vb5) (w' := X) ?_ ⟨rfl, Below.refl _ _⟩
            clear hX
            go_simp
            all_goals try go_bits
            all_goals try simp only [IntWalk.iteOmega]
            all_goals try go_bits
            all_goals rfl
          · refine step_intro rfl rfl fun ρ X hc hf hgl hX hp ho => ?_
            change StepOk _ { dst := _, op := Op.nilCheck (Operand.tmp 37), type := _, pos := _, after := _, guard := _ } _ _ _
            have k37 : ρ (.tmp 37) = ?vb5 := hp 5 (by decide)
            clear hp ho
            refine StepOk.of_run (v := ?vb6) (w' := X) ?_ ⟨rfl, Below.refl _ _⟩
            clear hX
            go_simp
            all_goals try go_bits
            all_goals try simp only [IntWalk.iteOmega]
            all_goals try go_bits
            all_goals rfl
          · refine step_intro rfl rfl fun ρ X hc hf hgl hX hp ho => ?_
            change StepOk _ { dst := _, op := Op.fieldAddr 50 (Operand.tmp 38) 0, type := _, pos := _, after := _, guard := _ } _ _ _
            have k38 : ρ (.tmp 38) = ?vb6 := hp 6 (by decide)
            clear hp ho
            refine StepOk.of_run (v := ?vb7) (w' := X) ?_ ⟨rfl, Below.refl _ _⟩
            clear hX
            go_simp
            all_goals try go_bits
            all_goals try simp only [IntWalk.iteOmega]
            all_goals try go_bits
            all_goals rfl
          · refine step_intro rfl rfl fun ρ X hc hf hgl hX hp ho => ?_
            change StepOk _ { dst := _, op := Op.load 3 (Operand.tmp 39), type := _, pos := _, after := _, guard := _ } _ _ _
            have k39 : ρ (.tmp 39) = ?vb7 := hp 7 (by decide)
            have c0X := Grows.cell' hX c0
            have c1X := Grows.cell' hX c1
            clear hp ho
            refine StepOk.of_run (v := ?vb8) (w' := X) ?_ ⟨rfl, Below.refl _ _⟩
            clear hX
            go_simp
            all_goals try go_bits
            all_goals try simp only [IntWalk.iteOmega]
            all_goals try go_bits
            all_goals rfl
          · refine step_intro rfl rfl fun ρ X hc hf hgl hX hp ho => ?_
            change StepOk _ { dst := _, op := Op.indexAddr 48 (Operand.tmp 35) (Operand.tmp 36), type := _, pos := _, after := _, guard := _ } _ _ _
            have k35 : ρ (.tmp 35) = ?vb3 := hp 3 (by decide)
            have k36 : ρ (.tmp 36) = ?vb4 := hp 4 (by decide)
            clear hp ho
            refine StepOk.of_run (v := ?vb9) (w' := X) ?_ ⟨rfl, Below.refl _ _⟩
            clear hX
            go_simp
            all_goals try go_bits
            all_goals try simp only [IntWalk.iteOmega]
            all_goals try go_bits
            all_goals rfl
          · refine step_intro rfl rfl fun ρ X hc hf hgl hX hp ho => ?_
            change StepOk _ { dst := _, op := Op.fieldAddr 54 (Operand.tmp 41) 0, type := _, pos := _, after := _, guard := _ } _ _ _
            have k41 : ρ (.tmp 41) = ?vb9 := hp 9 (by decide)
            clear hp ho
            refine StepOk.of_run (v := ?vb10) (w' := X) ?_ ⟨rfl, Below.refl _ _⟩
            clear hX
            go_simp
            all_goals try go_bits
            all_goals try simp only [IntWalk.iteOmega]
            all_goals try go_bits
            all_goals rfl
          · exact last_intro rfl
        case grdb => rfl
        case rstb =>
          intro a0 X hb
          have hfr := hb.frame ((32, ?vb0) :: (33, ?vb1) :: (34, ?vb2) :: (35, ?vb3) :: (36, ?vb4) :: (37, ?vb5) :: (38, ?vb6) :: (39, ?vb7) :: (40, ?vb8) :: (41, ?vb9) :: (42, ?vb10) :: []) rfl ⟨hb.done' 0 32 rfl rfl, hb.done' 1 33 rfl rfl, hb.done' 2 34 rfl rfl, hb.done' 3 35 rfl rfl, hb.done' 4 36 rfl rfl, hb.done' 5 37 rfl rfl, hb.done' 6 38 rfl rfl, hb.done' 7 39 rfl rfl, hb.done' 8 40 rfl rfl, hb.done' 9 41 rfl rfl, hb.done' 10 42 rfl rfl, trivial⟩
          simp only [updL, ↓reduceIte, Nat.reduceEqDiff, Nat.reduceAdd, Nat.zero_add] at hfr
          have HX := Lib.hid hb.ext
          clear hb
          subst hfr
          change StepOk _ { dst := _, op := Op.store 3 (Operand.tmp 42) (Operand.tmp 40), type := _, pos := _, after := _, guard := _ } _ _ _
          have h0X := Hb2.out.grows HX.out
          obtain ⟨gl', eg, cX, cX1, fX0⟩ := h0X.cell Hpn.out k hlt
          obtain rfl : gl' = gl := by simpa using eg.symm
          have fX := fX0 (k * 2)
          unfold StepOk
          simp [go_sem, execOp, cX, fX]
          have hset := h0X.setAt Hpn.out k hlt ⟨t1, (ce L k).c.p⟩ (by rw [(ce_pack_v k L k HkL.out).2]) (t1 : Int) rfl
          rw [show t1 = 243 - sumL ((L.map (·.c)).take (k + 1)) by rw [Hss.out, ← Ht1.out, ← Ht0.out]; omega, ← packE_succ L k HkL.out] at hset
          have Hb3 := Lib.hid hset.1
          have Hu3 := Lib.hid ((Hu2.out.trans' (But.ofGrows HX.out)).trans' hset.2)
          rw [show ((243 - sumL ((L.map (·.c)).take (k + 1)) : Nat) : Int) = (t1 : Int) by rw [Hss.out, ← Ht1.out, ← Ht0.out]; omega] at Hb3 Hu3
          clear cX cX1 fX fX0 h0X hset c0 c1 d1 HX eg
          obtain ⟨w3, hw3⟩ : ∃ w3, X.setCell ⟨gl', k * 2, none⟩ (.int .i64 (t1 : Int)) = w3 := ⟨_, rfl⟩
          rw [hw3] at Hb3 Hu3 ⊢
          clear hw3 X
          go_wp2
          go_roundw
          case rel => exact ⟨k + 1, by omega, by simp, Hb3, Hu3⟩
          case measure => simp [intOf]; omega
    · have hlt' : ¬ (k : Int) < (n : Int) := by omega
      obtain rfl : k = n := by omega
      go_wp2
      go_end0
      refine ⟨rfl, ?_, Hu.out⟩
      rw [Htop.out]
      have hb := Hb.out
      rw [List.take_of_length_le (by rw [List.length_map, Hn.out]; exact Nat.le_refl _)] at hb
      exact hb
end Go.Proofs.Ytpodbhimkbadhaa
