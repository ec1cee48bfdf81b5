/-
  The document's own Delete.
-/
import Derived.Test.YtpodbhimkbadhaaSlV
namespace Go.Proofs.Ytpodbhimkbadhaa
open Go.RowKit
set_option linter.unusedVariables false
set_option linter.unusedSimpArgs false

theorem infoCell : (Try.prog.info? 54).map (fun i => (i.zero, i.size, i.bytes)) = some (some (.agg #[.int .i64 0, .slice none 0 0]), 2, 32) := by kernel_rfl
theorem szCell (w : World) : (sizeOf 54).run Try.prog w = .ok 2 w := by
  obtain ⟨i, hi, _, hs, _⟩ := info_parts infoCell
  simp [sizeOf, typeInfo, hi, hs, Result.andThen]
theorem own_cap {w : World} {B e k n cap : Nat} {a : Option Addr} {xs : List Value} (h : w.ownsRow B e k (.slice a n cap) n xs) : n ≤ cap := by
  rcases h.2 with ⟨e1, h0⟩ | ⟨_, _, _, e1, _, _, h1, _⟩ <;> (simp only [Value.slice.injEq, true_and] at e1; omega)
theorem wpList_slCh {w : World} {ops : Array Oper} {rest : List Oper} {o : Oper} {a : Act} {Q : Exit → Act → World → Prop} (hgd : o.guard = none) (x hi : Operand) (ho : o.op = .slice 48 x none (some hi) none)
    (la : Option Addr) (n lc i : Nat) (hx : a.eval x = .slice la n lc) (hhi : a.eval hi = .int .i64 (i : Int)) (L : List Ce) (hown : w.ownsRow 0 54 2 (.slice la n lc) n (ccs L)) (hi' : i ≤ n)
    (h : ∀ sx, RdN w sx i (ccs (L.take i)) → wpList Try.prog ops Q rest (a.put o.dst sx) w) : wpList Try.prog ops Q (o :: rest) a w := by
  have he : Try.prog.elem 48 = 54 := by kernel_rfl
  have hT : Try.prog.underlying 48 = some (.slice (Try.prog.elem 48)) := by rw [he]; exact Try.underlying48
  have hc := own_cap hown
  have hr : (Instr.sliceAt 48 (.slice la n lc) none (some (.int .i64 (i : Int))) none).run Try.prog w = .ok (sliced la 0 i lc 2) w := by
    rw [run_sliceAt_slice w _ _ _ _ _ hT, run_slice_h w _ _ n lc hT .i64 i (by omega) (by omega), he, szCell]
    simp [Result.andThen]
  have hk := own_take hown hi'
  rw [ccs_take] at hk
  refine wpList_plain hgd fun K hK' => ?_
  unfold Oper.wp execOp
  simp only [ho, Option.map_some, Option.map_none, hx, hhi, Sem.run_bind, Sem.run_pure, hr, Result.andThen_ok, Oper.upon]
  exact hK' _ _ (h _ hk)
theorem wpList_slCl {w : World} {ops : Array Oper} {rest : List Oper} {o : Oper} {a : Act} {Q : Exit → Act → World → Prop} (hgd : o.guard = none) (x lo : Operand) (ho : o.op = .slice 48 x (some lo) none none)
    (la : Option Addr) (n lc i : Nat) (hx : a.eval x = .slice la n lc) (z : Int) (hlo : a.eval lo = .int .i64 z) (hz : z = (i : Int)) (L : List Ce) (hown : w.ownsRow 0 54 2 (.slice la n lc) n (ccs L)) (hi' : i ≤ n)
    (h : ∀ sx, RdN w sx (n - i) (ccs (L.drop i)) → wpList Try.prog ops Q rest (a.put o.dst sx) w) : wpList Try.prog ops Q (o :: rest) a w := by
  subst hz
  have he : Try.prog.elem 48 = 54 := by kernel_rfl
  have hT : Try.prog.underlying 48 = some (.slice (Try.prog.elem 48)) := by rw [he]; exact Try.underlying48
  have hc := own_cap hown
  have hr : (Instr.sliceAt 48 (.slice la n lc) (some (.int .i64 (i : Int))) none none).run Try.prog w = .ok (sliced la i n lc 2) w := by
    rw [run_sliceAt_slice w _ _ _ _ _ hT, run_slice_l w _ _ n lc hT .i64 i (by omega) (by omega), he, szCell]
    simp [Result.andThen]
  have hk := own_drop hown hi'
  rw [ccs_drop] at hk
  refine wpList_plain hgd fun K hK' => ?_
  unfold Oper.wp execOp
  simp only [ho, Option.map_some, Option.map_none, hx, hlo, Sem.run_bind, Sem.run_pure, hr, Result.andThen_ok, Oper.upon]
  exact hK' _ _ (h _ hk)
theorem wpList_appC {w : World} {ops : Array Oper} {rest : List Oper} {o : Oper} {a : Act} {Q : Exit → Act → World → Prop} (hgd : o.guard = none) (s x : Operand) (ho : o.op = .call { callee := .builtin .append, args := #[s, x], argTypes := #[48, 48] })
    (v : Value) (n0 : Nat) (L0 : List Ce) (hv : a.eval s = v) (hown : w.ownsRow 0 54 2 v n0 (ccs L0)) (sx : Value) (m : Nat) (M : List Ce) (hx : a.eval x = sx) (hrd : RdN w sx m (ccs M)) (hM : M.length = m) (h1 : ∀ u ∈ ccs M, u.oneCell' = true) (hs : n0 + m ≤ 1000)
    (h : ∀ v' w', w'.ownsRow 0 54 2 v' (n0 + m) (ccs (L0 ++ M)) → w.grownBy w' v.ownBlock → (v'.ownBlock = v.ownBlock ∨ v'.ownBlock = some w.heap.size) → wpList Try.prog ops Q rest (a.put o.dst v') w') : wpList Try.prog ops Q (o :: rest) a w := by
  obtain ⟨i, hi, hz, hs1, hs2⟩ := info_parts infoCell
  refine wpList_plain hgd fun K hK => ?_
  obtain ⟨v', w', hr, h2, h3, h4, _⟩ := run_appendR (P := Try.prog) w 48 o.type 54 i _ 2 32 Try.underlying48 hi hz hs1 hs2 rfl (by omega) v n0 _ hown sx m _ hrd (by rw [ccs_len, hM]) h1 (by unfold maxLen; omega) (by omega) [] (by simp)
  unfold Oper.wp execOp
  simp only [ho, resolve, invoke, builtin, Sem.run_bind, Sem.run_pure, Result.andThen_ok, List.map_toArray, List.map_cons, List.map_nil, hv, hx, hr]
  rw [← ccs_app] at h2
  exact hK _ _ (h v' w' h2 h3 h4)
theorem wpList_storeL {w : World} {ops : Array Oper} {rest : List Oper} {o : Oper} {a : Act} {Q : Exit → Act → World → Prop} (hgd : o.guard = none) (x y : Operand) (ho : o.op = .store 48 x y)
    {B q : Nat} {vL : Value} {t : Nat} {L : List Ce} (hb : RB w B q vL t L) (vL' : Value) (L' : List Ce) (hx : a.eval x = .pointer (some ⟨q, 1, none⟩)) (hy : a.eval y = vL') (hown : w.ownsRow 0 54 2 vL' L'.length (ccs L')) (hv : ∀ j, vL'.ownBlock = some j → B ≤ j) (hp : ∀ e ∈ L', Own 5 0 w e.v e.c.p)
    (h : ∀ w', RB w' B q vL' t L' → But (At q) w w' → wpList Try.prog ops Q rest (a.put o.dst undef) w') : wpList Try.prog ops Q (o :: rest) a w := by
  have cX := hb.cells.2
  have fX := hb.fro 1
  have hu : But (At q) w (w.setCell ⟨q, 1, none⟩ vL') := But.setCell (But.refl' _ _) _ _ rfl
  have h1 := h _ ⟨by rw [row_setCell hb.row 1]; rfl, own_but hown hu (fun j hj e => own_ne hown hb.row (by decide) (by rw [hj, e])), fun e he => own_but (hp e he) hu (fun j hj e' => own_ne (hp e he) hb.row (by decide) (by rw [hj, e'])), hb.qB, hv⟩ hu
  obtain ⟨la, lc, rfl⟩ := own_form hown
  refine wpList_plain hgd fun K hK => ?_
  unfold Oper.wp execOp
  simp only [ho, hx, hy]
  simp [go_sem, cX, fX]
  exact hK _ _ h1
theorem at_or {v v' : Value} {k s : Nat} (h : v'.ownBlock = v.ownBlock ∨ v'.ownBlock = some k) (hv : ∀ j, v.ownBlock = some j → s ≤ j) (hk : s ≤ k) : ∀ j, v'.ownBlock = some j → s ≤ j := by
  intro j hj
  rcases h with e | e
  · exact hv j (by rw [← e]; exact hj)
  · rw [e] at hj
    have := Option.some.inj hj
    omega
/-- A cell's variable. -/
def CellAt (W : World) (q : Nat) (k : Nat) (u : Value) : Prop := W.heap[q]? = some (.cells #[.int .i64 (k : Int), u] 54 (0, 0))
theorem CellAt.cells {W : World} {q : Nat} {k : Nat} {u : Value} (h : CellAt W q k u) : W.cell? ⟨q, 0, none⟩ = some (.int .i64 (k : Int)) ∧ W.cell? ⟨q, 1, none⟩ = some u :=
  ⟨by rw [cell_of_row W q 0 _ _ (0, 0) h]; rfl, by rw [cell_of_row W q 1 _ _ (0, 0) h]; rfl⟩
theorem cellZero : ((Try.prog.info? 54).bind (fun i => i.zero)).map (fun z => z.cells) = some #[.int .i64 0, .slice none 0 0] := by kernel_rfl
theorem cellSize : (Try.prog.info? 54).map (·.size) = some 2 := by kernel_rfl
theorem wpList_allocC {w : World} {ops : Array Oper} {rest : List Oper} {o : Oper} {a : Act} {Q : Exit → Act → World → Prop} (hgd : o.guard = none) (ho : o.op = .alloc 54)
    (h : ∀ w', CellAt w' w.heap.size 0 (.slice none 0 0) → Grows w w' → wpList Try.prog ops Q rest (a.put o.dst (.pointer (some ⟨w.heap.size, 0, none⟩))) w') : wpList Try.prog ops Q (o :: rest) a w :=
  wpList_allocT hgd 54 ho _ cellZero (h _ (heap_alloc_new _ _) (Grows.alloc' _ _))
theorem wpList_storeC {w : World} {ops : Array Oper} {rest : List Oper} {o : Oper} {a : Act} {Q : Exit → Act → World → Prop} (hgd : o.guard = none) (x y : Operand) (ho : o.op = .store 54 x y)
    (q k : Nat) (pa : Option Addr) (m pc : Nat) (hx : a.eval x = .pointer (some ⟨q, 0, none⟩)) (hy : a.eval y = .agg #[.int .i64 (k : Int), .slice pa m pc]) (k0 : Nat) (u0 : Value) (hb : CellAt w q k0 u0)
    (h : ∀ w', CellAt w' q k (.slice pa m pc) → But (At q) w w' → wpList Try.prog ops Q rest (a.put o.dst undef) w') : wpList Try.prog ops Q (o :: rest) a w :=
  wpList_storeT hgd 54 x y ho q 54 _ _ hx hy hb (by rw [cellSize]; rfl) rfl (by simp [Value.oneCell']) (h _ (setRow_heap _ _ _ _ _ _ hb) (But.setRow (But.refl' _ _) _ _ rfl))
/-- What a call leaves of the document's body. -/
def RBIn (w' : World) (B q : Nat) (A : Bo) : Prop := ∃ vL t L, RB w' B q vL t L ∧ abs_ t L = A
theorem rDelNo {w : World} {B q : Nat} {vL : Value} {t : Nat} {L : List Ce} (h : RB w B q vL t L) (i : Int) (hi : i < 0 ∨ (L.length : Int) ≤ i) : Calls Try.prog 24 #[.pointer (some ⟨q, 0, none⟩), .int .i64 i] w fun e w' => e = .returned (.int .i64 7) ∧ w = w' := by
  obtain ⟨n, Hn⟩ : ∃ n, Hid (L.length = n) := ⟨_, rfl⟩
  obtain ⟨la, lc, rfl⟩ := h.form
  rw [Hn.out] at h hi
  obtain ⟨c0, c1⟩ := h.cells
  clear h
  by_cases h0 : i < 0
  · clear hi
    go_enter Try.func24, Try.ntmps24
    go_wp2
    go_ret
    exact ⟨rfl, rfl⟩
  · have h1 : (n : Int) ≤ i := by omega
    clear hi
    go_enter Try.func24, Try.ntmps24
    go_wp2
    go_ret
    exact ⟨rfl, rfl⟩
set_option maxRecDepth 100000 in
set_option maxHeartbeats 1000000 in
theorem rDelYes {w : World} {B q : Nat} {vL : Value} {t : Nat} {L : List Ce} (h : RB w B q vL t L) (hw : Wf (abs_ t L)) (i : Nat) (hi : i < L.length) : Calls Try.prog 24 #[.pointer (some ⟨q, 0, none⟩), .int .i64 (i : Int)] w fun e w' => e = .returned (.int .i64 0) ∧ RBIn w' B q (delA (abs_ t L) i) ∧ But (OR q vL) w w' := by
  have hmx : Try.prog.follows .mixedOrders = true := by kernel_rfl
  obtain ⟨n, Hn⟩ : ∃ n, Hid (L.length = n) := ⟨_, rfl⟩
  have HiL : Hid (i < L.length) := hi
  obtain ⟨pl, Hpl⟩ : ∃ pl, Hid ((ce L i).c.pl = pl) := ⟨_, rfl⟩
  obtain ⟨p, Hp⟩ : ∃ p, Hid ((ce L i).c.p = p) := ⟨_, rfl⟩
  obtain ⟨s, Hs⟩ : ∃ s, Hid (p.length = s) := ⟨_, rfl⟩
  have hcl := abs_cl t L i hi
  have hend := hw.end_ i (by rw [abs_len]; exact hi)
  rw [hcl, Hpl.out, Hp.out, Hs.out] at hend
  have ht243 : t ≤ 243 := hw.ntop.2.1
  have hn120 : n ≤ 120 := by have := hw.ntop.1; rw [abs_len, Hn.out] at this; exact this
  have HD : Hid (delA (abs_ t L) i = abs_ (if pl = t then t + s else t) (L.take i ++ L.drop (i + 1))) := by
    show _ = _
    unfold delA
    rw [hcl, Hpl.out, Hp.out, Hs.out]
    unfold abs_ delL
    simp
  obtain ⟨la, lc, rfl⟩ := h.form
  rw [Hn.out] at h hi ⊢
  have Hh := Lib.hid h
  obtain ⟨c0, c1⟩ := h.cells
  obtain ⟨gl, rfl, d0, d1, _⟩ := h.cell Hn.out i hi
  have hpo := h.ps _ (ce_mem L i (by rw [Hn.out]; exact hi))
  obtain ⟨pa, pc, hpv⟩ := own_form hpo
  rw [hpv, Hp.out, Hs.out] at d1
  rw [Hpl.out] at d0
  obtain ⟨qc, Hqc⟩ : ∃ qc, Hid (w.heap.size = qc) := ⟨_, rfl⟩
  have hiI : (i : Int) < (n : Int) := by omega
  have hi' : ¬ (n : Int) ≤ (i : Int) := by omega
  have Hi : Hid (i < n) := hi
  clear h hpo hpv hcl hw hi
  go_enter Try.func24, Try.ntmps24
  go_wp2_with (first
    | (refine wpList_allocC rfl rfl ?_; intro w1 hb1 hg1; rw [Hqc.out] at hb1 ⊢; have Hb1 := Lib.hid hb1; have Hg1 := Lib.hid hg1; clear hb1 hg1)
    | (refine wpList_storeC rfl (.tmp 5) (.tmp 24) rfl qc pl pa s pc rfl rfl 0 (.slice none 0 0) Hb1.out ?_; intro w2 hb2 hu2; have Hb2 := Lib.hid hb2; have Hg2 := Lib.hid (but_new Hg1.out hu2 (by rw [Hqc.out]; exact Nat.le_refl _)); clear hb2 hu2 c0 c1 d0 d1; obtain ⟨c0, c1⟩ := (Hh.out.grows Hg2.out).cells; obtain ⟨e0, e1⟩ := Hb2.out.cells))
  by_cases hpt : pl = t
  · rw [if_pos hpt] at HD
    subst hpt
    refine specs_region
      #[[], [0], [], [2], [2, 3], [2, 3, 4], [0, 1, 2, 3, 4, 5]] #[[5], [], [0], [], [], [], []] #[true, true, true, true, true, true, true]
      ((.val ?vpa0) :: (.val ?vpa1) :: (.val ?vpa2) :: (.val ?vpa3) :: (.val ?vpa4) :: (.val ?vpa5) :: (.val ?vpa6) :: []).toArray
      hmx ?chkpa ?grdpa ?stppa ?rstpa
    case chkpa => rfl
    case stppa =>
      refine ⟨?_, ?_, ?_, ?_, ?_, ?_, ?_, trivial⟩
      · refine step_intro rfl rfl fun ρ X hc hf hgl hX hp ho => ?_
        change StepOk _ { dst := _, op := Op.fieldAddr 54 (Operand.tmp 5) 0, type := _, pos := _, after := _, guard := _ } _ _ _
        have k5 : ρ (.tmp 5) = .pointer (some ⟨qc, 0, none⟩) := ho 5 (by decide)
        clear hp ho
        refine StepOk.of_run (v := ?vpa0) (w' := X) ?_ ⟨rfl, Below.refl _ _⟩
        clear hX
        go_simp
        all_goals try go_bits
        all_goals try simp only [IntWalk.iteOmega]
        all_goals try go_bits
        all_goals rfl
      · refine step_intro rfl rfl fun ρ X hc hf hgl hX hp ho => ?_
        change StepOk _ { dst := _, op := Op.load 3 (Operand.tmp 25), type := _, pos := _, after := _, guard := _ } _ _ _
        have k25 : ρ (.tmp 25) = ?vpa0 := hp 0 (by decide)
        have c0X := Grows.cell' hX c0
        have e0X := Grows.cell' hX e0
        clear hp ho
        refine StepOk.of_run (v := ?vpa1) (w' := X) ?_ ⟨rfl, Below.refl _ _⟩
        clear hX
        go_simp
        all_goals try go_bits
        all_goals try simp only [IntWalk.iteOmega]
        all_goals try go_bits
        all_goals rfl
      · refine step_intro rfl rfl fun ρ X hc hf hgl hX hp ho => ?_
        change StepOk _ { dst := _, op := Op.move (Operand.tmp 0), type := _, pos := _, after := _, guard := _ } _ _ _
        have k0 : ρ (.tmp 0) = .pointer (some ⟨q, 0, none⟩) := ho 0 (by decide)
        clear hp ho
        refine StepOk.of_run (v := ?vpa2) (w' := X) ?_ ⟨rfl, Below.refl _ _⟩
        clear hX
        go_simp
        all_goals try go_bits
        all_goals try simp only [IntWalk.iteOmega]
        all_goals try go_bits
        all_goals rfl
      · refine step_intro rfl rfl fun ρ X hc hf hgl hX hp ho => ?_
        change StepOk _ { dst := _, op := Op.nilCheck (Operand.tmp 27), type := _, pos := _, after := _, guard := _ } _ _ _
        have k27 : ρ (.tmp 27) = ?vpa2 := hp 2 (by decide)
        clear hp ho
        refine StepOk.of_run (v := ?vpa3) (w' := X) ?_ ⟨rfl, Below.refl _ _⟩
        clear hX
        go_simp
        all_goals try go_bits
        all_goals try simp only [IntWalk.iteOmega]
        all_goals try go_bits
        all_goals rfl
      · refine step_intro rfl rfl fun ρ X hc hf hgl hX hp ho => ?_
        change StepOk _ { dst := _, op := Op.fieldAddr 50 (Operand.tmp 28) 0, type := _, pos := _, after := _, guard := _ } _ _ _
        have k28 : ρ (.tmp 28) = ?vpa3 := hp 3 (by decide)
        clear hp ho
        refine StepOk.of_run (v := ?vpa4) (w' := X) ?_ ⟨rfl, Below.refl _ _⟩
        clear hX
        go_simp
        all_goals try go_bits
        all_goals try simp only [IntWalk.iteOmega]
        all_goals try go_bits
        all_goals rfl
      · refine step_intro rfl rfl fun ρ X hc hf hgl hX hp ho => ?_
        change StepOk _ { dst := _, op := Op.load 3 (Operand.tmp 29), type := _, pos := _, after := _, guard := _ } _ _ _
        have k29 : ρ (.tmp 29) = ?vpa4 := hp 4 (by decide)
        have c0X := Grows.cell' hX c0
        have e0X := Grows.cell' hX e0
        clear hp ho
        refine StepOk.of_run (v := ?vpa5) (w' := X) ?_ ⟨rfl, Below.refl _ _⟩
        clear hX
        go_simp
        all_goals try go_bits
        all_goals try simp only [IntWalk.iteOmega]
        all_goals try go_bits
        all_goals rfl
      · refine step_intro rfl rfl fun ρ X hc hf hgl hX hp ho => ?_
        change StepOk _ { dst := _, op := Op.binOp BinOp.eql 3 (Operand.tmp 26) (Operand.tmp 30) 3, type := _, pos := _, after := _, guard := _ } _ _ _
        have k26 : ρ (.tmp 26) = ?vpa1 := hp 1 (by decide)
        have k30 : ρ (.tmp 30) = ?vpa5 := hp 5 (by decide)
        clear hp ho
        refine StepOk.of_run (v := ?vpa6) (w' := X) ?_ ⟨rfl, Below.refl _ _⟩
        clear hX
        go_simp
        all_goals try go_bits
        all_goals try simp only [IntWalk.iteOmega]
        all_goals try go_bits
        all_goals rfl
    case grdpa => rfl
    case rstpa =>
      intro a0 X hb
      have hfr := hb.frame ((25, ?vpa0) :: (26, ?vpa1) :: (27, ?vpa2) :: (28, ?vpa3) :: (29, ?vpa4) :: (30, ?vpa5) :: (31, ?vpa6) :: []) rfl ⟨hb.done' 0 25 rfl rfl, hb.done' 1 26 rfl rfl, hb.done' 2 27 rfl rfl, hb.done' 3 28 rfl rfl, hb.done' 4 29 rfl rfl, hb.done' 5 30 rfl rfl, hb.done' 6 31 rfl rfl, trivial⟩
      simp only [updL, ↓reduceIte, Nat.reduceEqDiff, Nat.reduceAdd, Nat.zero_add] at hfr
      have HX := Lib.hid hb.ext
      clear hb
      subst hfr
      have HG4 := HX
      have c0 := Grows.cell' HG4.out c0
      have c1 := Grows.cell' HG4.out c1
      have e0 := Grows.cell' HG4.out e0
      have e1 := Grows.cell' HG4.out e1
      go_wp2
      refine specs_last 11
        #[[], [], [1], [1, 2], [1, 2, 3], [], [5], [5, 6], [1, 2, 3, 4, 5, 6, 7], [0, 1, 2, 3, 4, 5, 6, 7, 8], [0, 1, 2, 3, 4, 5, 6, 7, 8, 9], [0, 1, 2, 3, 4, 5, 6, 7, 8, 9, 10]] #[[0], [0], [], [], [], [5], [], [], [], [], [], []] #[true, true, true, true, true, true, true, true, true, true, true, true]
        ((.val ?vpb0) :: (.val ?vpb1) :: (.val ?vpb2) :: (.val ?vpb3) :: (.val ?vpb4) :: (.val ?vpb5) :: (.val ?vpb6) :: (.val ?vpb7) :: (.val ?vpb8) :: (.val ?vpb9) :: (.val ?vpb10) :: (.any) :: []).toArray
        hmx ?chkpb ?grdpb rfl ?stppb ?rstpb
      case chkpb => rfl
      case stppb =>
        refine ⟨?_, ?_, ?_, ?_, ?_, ?_, ?_, ?_, ?_, ?_, ?_, ?_, trivial⟩
        · refine step_intro rfl rfl fun ρ X hc hf hgl hX hp ho => ?_
          change StepOk _ { dst := _, op := Op.move (Operand.tmp 0), type := _, pos := _, after := _, guard := _ } _ _ _
          have k0 : ρ (.tmp 0) = .pointer (some ⟨q, 0, none⟩) := ho 0 (by decide)
          clear hp ho
          refine StepOk.of_run (v := ?vpb0) (w' := X) ?_ ⟨rfl, Below.refl _ _⟩
          clear hX
          go_simp
          all_goals try go_bits
          all_goals try simp only [IntWalk.iteOmega]
          all_goals try go_bits
          all_goals rfl
        · refine step_intro rfl rfl fun ρ X hc hf hgl hX hp ho => ?_
          change StepOk _ { dst := _, op := Op.move (Operand.tmp 0), type := _, pos := _, after := _, guard := _ } _ _ _
          have k0 : ρ (.tmp 0) = .pointer (some ⟨q, 0, none⟩) := ho 0 (by decide)
          clear hp ho
          refine StepOk.of_run (v := ?vpb1) (w' := X) ?_ ⟨rfl, Below.refl _ _⟩
          clear hX
          go_simp
          all_goals try go_bits
          all_goals try simp only [IntWalk.iteOmega]
          all_goals try go_bits
          all_goals rfl
        · refine step_intro rfl rfl fun ρ X hc hf hgl hX hp ho => ?_
          change StepOk _ { dst := _, op := Op.nilCheck (Operand.tmp 33), type := _, pos := _, after := _, guard := _ } _ _ _
          have k33 : ρ (.tmp 33) = ?vpb1 := hp 1 (by decide)
          clear hp ho
          refine StepOk.of_run (v := ?vpb2) (w' := X) ?_ ⟨rfl, Below.refl _ _⟩
          clear hX
          go_simp
          all_goals try go_bits
          all_goals try simp only [IntWalk.iteOmega]
          all_goals try go_bits
          all_goals rfl
        · refine step_intro rfl rfl fun ρ X hc hf hgl hX hp ho => ?_
          change StepOk _ { dst := _, op := Op.fieldAddr 50 (Operand.tmp 34) 0, type := _, pos := _, after := _, guard := _ } _ _ _
          have k34 : ρ (.tmp 34) = ?vpb2 := hp 2 (by decide)
          clear hp ho
          refine StepOk.of_run (v := ?vpb3) (w' := X) ?_ ⟨rfl, Below.refl _ _⟩
          clear hX
          go_simp
          all_goals try go_bits
          all_goals try simp only [IntWalk.iteOmega]
          all_goals try go_bits
          all_goals rfl
        · refine step_intro rfl rfl fun ρ X hc hf hgl hX hp ho => ?_
          change StepOk _ { dst := _, op := Op.load 3 (Operand.tmp 35), type := _, pos := _, after := _, guard := _ } _ _ _
          have k35 : ρ (.tmp 35) = ?vpb3 := hp 3 (by decide)
          have c0X := Grows.cell' hX c0
          have e1X := Grows.cell' hX e1
          clear hp ho
          refine StepOk.of_run (v := ?vpb4) (w' := X) ?_ ⟨rfl, Below.refl _ _⟩
          clear hX
          go_simp
          all_goals try go_bits
          all_goals try simp only [IntWalk.iteOmega]
          all_goals try go_bits
          all_goals rfl
        · refine step_intro rfl rfl fun ρ X hc hf hgl hX hp ho => ?_
          change StepOk _ { dst := _, op := Op.fieldAddr 54 (Operand.tmp 5) 1, type := _, pos := _, after := _, guard := _ } _ _ _
          have k5 : ρ (.tmp 5) = .pointer (some ⟨qc, 0, none⟩) := ho 5 (by decide)
          clear hp ho
          refine StepOk.of_run (v := ?vpb5) (w' := X) ?_ ⟨rfl, Below.refl _ _⟩
          clear hX
          go_simp
          all_goals try go_bits
          all_goals try simp only [IntWalk.iteOmega]
          all_goals try go_bits
          all_goals rfl
        · refine step_intro rfl rfl fun ρ X hc hf hgl hX hp ho => ?_
          change StepOk _ { dst := _, op := Op.load 30 (Operand.tmp 37), type := _, pos := _, after := _, guard := _ } _ _ _
          have k37 : ρ (.tmp 37) = ?vpb5 := hp 5 (by decide)
          have c0X := Grows.cell' hX c0
          have e1X := Grows.cell' hX e1
          clear hp ho
          refine StepOk.of_run (v := ?vpb6) (w' := X) ?_ ⟨rfl, Below.refl _ _⟩
          clear hX
          go_simp
          all_goals try go_bits
          all_goals try simp only [IntWalk.iteOmega]
          all_goals try go_bits
          all_goals rfl
        · refine step_intro rfl rfl fun ρ X hc hf hgl hX hp ho => ?_
          change StepOk _ { dst := _, op := Op.call { callee := Callee.builtin Builtin.len, args := #[Operand.tmp 38], argTypes := #[30] }, type := _, pos := _, after := _, guard := _ } _ _ _
          have k38 : ρ (.tmp 38) = ?vpb6 := hp 6 (by decide)
          clear hp ho
          refine StepOk.of_run (v := ?vpb7) (w' := X) ?_ ⟨rfl, Below.refl _ _⟩
          clear hX
          go_simp
          all_goals try go_bits
          all_goals try simp only [IntWalk.iteOmega]
          all_goals try go_bits
          all_goals rfl
        · refine step_intro rfl rfl fun ρ X hc hf hgl hX hp ho => ?_
          change StepOk _ { dst := _, op := Op.binOp BinOp.add 3 (Operand.tmp 36) (Operand.tmp 39) 3, type := _, pos := _, after := _, guard := _ } _ _ _
          have k36 : ρ (.tmp 36) = ?vpb4 := hp 4 (by decide)
          have k39 : ρ (.tmp 39) = ?vpb7 := hp 7 (by decide)
          clear hp ho
          refine StepOk.of_run (v := ?vpb8) (w' := X) ?_ ⟨rfl, Below.refl _ _⟩
          clear hX
          go_simp
          all_goals try go_bits
          all_goals try simp only [IntWalk.iteOmega]
          all_goals try go_bits
          all_goals rfl
        · refine step_intro rfl rfl fun ρ X hc hf hgl hX hp ho => ?_
          change StepOk _ { dst := _, op := Op.nilCheck (Operand.tmp 32), type := _, pos := _, after := _, guard := _ } _ _ _
          have k32 : ρ (.tmp 32) = ?vpb0 := hp 0 (by decide)
          clear hp ho
          refine StepOk.of_run (v := ?vpb9) (w' := X) ?_ ⟨rfl, Below.refl _ _⟩
          clear hX
          go_simp
          all_goals try go_bits
          all_goals try simp only [IntWalk.iteOmega]
          all_goals try go_bits
          all_goals rfl
        · refine step_intro rfl rfl fun ρ X hc hf hgl hX hp ho => ?_
          change StepOk _ { dst := _, op := Op.fieldAddr 50 (Operand.tmp 41) 0, type := _, pos := _, after := _, guard := _ } _ _ _
          have k41 : ρ (.tmp 41) = ?vpb9 := hp 9 (by decide)
          clear hp ho
          refine StepOk.of_run (v := ?vpb10) (w' := X) ?_ ⟨rfl, Below.refl _ _⟩
          clear hX
          go_simp
          all_goals try go_bits
          all_goals try simp only [IntWalk.iteOmega]
          all_goals try go_bits
          all_goals rfl
        · exact last_intro rfl
      case grdpb => rfl
      case rstpb =>
        intro a0 X hb
        have hfr := hb.frame ((32, ?vpb0) :: (33, ?vpb1) :: (34, ?vpb2) :: (35, ?vpb3) :: (36, ?vpb4) :: (37, ?vpb5) :: (38, ?vpb6) :: (39, ?vpb7) :: (40, ?vpb8) :: (41, ?vpb9) :: (42, ?vpb10) :: []) rfl ⟨hb.done' 0 32 rfl rfl, hb.done' 1 33 rfl rfl, hb.done' 2 34 rfl rfl, hb.done' 3 35 rfl rfl, hb.done' 4 36 rfl rfl, hb.done' 5 37 rfl rfl, hb.done' 6 38 rfl rfl, hb.done' 7 39 rfl rfl, hb.done' 8 40 rfl rfl, hb.done' 9 41 rfl rfl, hb.done' 10 42 rfl rfl, trivial⟩
        simp only [updL, ↓reduceIte, Nat.reduceEqDiff, Nat.reduceAdd, Nat.zero_add] at hfr
        have HX := Lib.hid hb.ext
        clear hb
        subst hfr
        change StepOk _ { dst := _, op := Op.store 3 (Operand.tmp 42) (Operand.tmp 40), type := _, pos := _, after := _, guard := _ } _ _ _
        have h0X := Hh.out.grows (Grows.trans' Hg2.out (Grows.trans' HG4.out HX.out))
        have fX := h0X.fro 0
        have cX := h0X.cells.1
        unfold StepOk
        simp [go_sem, execOp, cX, fX]
        have hset := h0X.setTop (pl + s) ((pl : Int) + (s : Int)) (by omega)
        have Hb5 := Lib.hid hset.1
        have Hu5 := Lib.hid ((But.ofGrows (O := OR q (.slice (some ⟨gl, 0, none⟩) n lc)) (Grows.trans' Hg2.out (Grows.trans' HG4.out HX.out))).trans' hset.2)
        clear cX fX h0X hset c0 c1 e0 e1 HX
        obtain ⟨w5, hw5⟩ : ∃ w5, X.setCell ⟨q, 0, none⟩ (.int .i64 ((pl : Int) + (s : Int))) = w5 := ⟨_, rfl⟩
        rw [hw5] at Hb5 Hu5 ⊢
        clear hw5 X
        obtain ⟨c0, c1⟩ := Hb5.out.cells
        have hown5 := Hb5.out.own
        rw [Hn.out] at hown5
        have Hown5 := Lib.hid hown5
        clear hown5
        have Hone : Hid (∀ M : List Ce, (∀ e ∈ M, e ∈ L) → ∀ u ∈ ccs M, u.oneCell' = true) := Lib.hid (fun M hM => ccs_one (fun e he => Hb5.out.ps e (hM e he)))
        obtain ⟨w5s, Hw5s⟩ : ∃ y, Hid (w5.heap.size = y) := ⟨_, rfl⟩
        go_wp2_with (first
          | (refine wpList_slCh rfl (.tmp 47) (.tmp 48) rfl _ n lc i rfl rfl L Hown5.out (Nat.le_of_lt Hi.out) ?_; intro sx1 hsx1; have Hsx1 := Lib.hid hsx1; clear hsx1)
          | (refine wpList_appC rfl (.tmp 43) (.tmp 49) rfl (.slice none 0 0) 0 [] rfl (World.ownsRow_nil _ _ _ _) sx1 i (L.take i) rfl Hsx1.out (by rw [List.length_take, Hn.out]; have := Hi.out; omega) (Hone.out _ (fun e he => List.mem_of_mem_take he)) (by have := Hi.out; omega) ?_; intro v7 w7 ho7 hg7 hat7; rw [Nat.zero_add, List.nil_append] at ho7; have Hg7 : Hid (Grows w5 w7) := Below.grown (Below.refl _ _) hg7 (Nat.le_refl _) (fun k hk => by cases hk); have Ho7 := Lib.hid ho7; have Hat7 : Hid (∀ j, v7.ownBlock = some j → w5.heap.size ≤ j) := at_or hat7 (fun j hj => by cases hj) (Nat.le_refl _); have Hb7 := Lib.hid (Hb5.out.grows Hg7.out); have Hown7 := Lib.hid (own_grows Hown5.out Hg7.out); clear ho7 hg7 hat7 c0 c1; obtain ⟨c0, c1⟩ := Hb7.out.cells)
          | (refine wpList_slCl rfl (.tmp 56) (.tmp 58) rfl _ n lc (i + 1) rfl _ rfl (by omega) L Hown7.out Hi.out ?_; intro sx2 hsx2; have Hsx2 := Lib.hid hsx2; clear hsx2)
          | (refine wpList_appC rfl (.tmp 52) (.tmp 59) rfl v7 i (L.take i) rfl Ho7.out sx2 (n - (i + 1)) (L.drop (i + 1)) rfl Hsx2.out (by rw [List.length_drop, Hn.out]) (Hone.out _ (fun e he => List.mem_of_mem_drop he)) (by have := Hi.out; omega) ?_; intro v8 w8 ho8 hg8 hat8; have Hg8 : Hid (Grows w5 w8) := Below.grown Hg7.out hg8 Hg7.out.size (fun k hk => Hat7.out k hk); have Ho8 := Lib.hid ho8; have Hat8 : Hid (∀ j, v8.ownBlock = some j → w5.heap.size ≤ j) := at_or hat8 Hat7.out Hg7.out.size; have Hb8 := Lib.hid (Hb5.out.grows Hg8.out); clear ho8 hg8 hat8 c0 c1; obtain ⟨c0, c1⟩ := Hb8.out.cells)
          | (refine wpList_storeL rfl (.tmp 62) (.tmp 60) rfl Hb8.out v8 (L.take i ++ L.drop (i + 1)) rfl rfl (by have := Ho8.out; rw [show (L.take i ++ L.drop (i + 1)).length = i + (n - (i + 1)) by rw [List.length_append, List.length_take, List.length_drop, Hn.out]; have := Hi.out; omega]; exact this) (fun j hj => by have := Hat8.out j hj; have := (Array.getElem?_eq_some_iff.1 Hb5.out.row).1; have := Hb5.out.qB; omega) (fun e he => Hb8.out.ps e (by rcases List.mem_append.1 he with h | h; exact List.mem_of_mem_take h; exact List.mem_of_mem_drop h)) ?_; intro w9 hb9 hu9; have Hb9 := Lib.hid hb9; have Hu9 := Lib.hid hu9; clear hb9 hu9 c0 c1))
        go_ret
        refine ⟨rfl, ⟨_, _, _, Hb9.out, HD.out.symm⟩, (Hu5.out.trans' (But.ofGrows Hg8.out)).trans' (Hu9.out.mono (fun k hk => .inl hk))⟩
  · rw [if_neg hpt] at HD
    have hpt' : ¬ (pl : Int) = (t : Int) := by omega
    refine specs_region
      #[[], [0], [], [2], [2, 3], [2, 3, 4], [0, 1, 2, 3, 4, 5]] #[[5], [], [0], [], [], [], []] #[true, true, true, true, true, true, true]
      ((.val ?vna0) :: (.val ?vna1) :: (.val ?vna2) :: (.val ?vna3) :: (.val ?vna4) :: (.val ?vna5) :: (.val ?vna6) :: []).toArray
      hmx ?chkna ?grdna ?stpna ?rstna
    case chkna => rfl
    case stpna =>
      refine ⟨?_, ?_, ?_, ?_, ?_, ?_, ?_, trivial⟩
      · refine step_intro rfl rfl fun ρ X hc hf hgl hX hp ho => ?_
        change StepOk _ { dst := _, op := Op.fieldAddr 54 (Operand.tmp 5) 0, type := _, pos := _, after := _, guard := _ } _ _ _
        have k5 : ρ (.tmp 5) = .pointer (some ⟨qc, 0, none⟩) := ho 5 (by decide)
        clear hp ho
        refine StepOk.of_run (v := ?vna0) (w' := X) ?_ ⟨rfl, Below.refl _ _⟩
        clear hX
        go_simp
        all_goals try go_bits
        all_goals try simp only [IntWalk.iteOmega]
        all_goals try go_bits
        all_goals rfl
      · refine step_intro rfl rfl fun ρ X hc hf hgl hX hp ho => ?_
        change StepOk _ { dst := _, op := Op.load 3 (Operand.tmp 25), type := _, pos := _, after := _, guard := _ } _ _ _
        have k25 : ρ (.tmp 25) = ?vna0 := hp 0 (by decide)
        have c0X := Grows.cell' hX c0
        have e0X := Grows.cell' hX e0
        clear hp ho
        refine StepOk.of_run (v := ?vna1) (w' := X) ?_ ⟨rfl, Below.refl _ _⟩
        clear hX
        go_simp
        all_goals try go_bits
        all_goals try simp only [IntWalk.iteOmega]
        all_goals try go_bits
        all_goals rfl
      · refine step_intro rfl rfl fun ρ X hc hf hgl hX hp ho => ?_
        change StepOk _ { dst := _, op := Op.move (Operand.tmp 0), type := _, pos := _, after := _, guard := _ } _ _ _
        have k0 : ρ (.tmp 0) = .pointer (some ⟨q, 0, none⟩) := ho 0 (by decide)
        clear hp ho
        refine StepOk.of_run (v := ?vna2) (w' := X) ?_ ⟨rfl, Below.refl _ _⟩
        clear hX
        go_simp
        all_goals try go_bits
        all_goals try simp only [IntWalk.iteOmega]
        all_goals try go_bits
        all_goals rfl
      · refine step_intro rfl rfl fun ρ X hc hf hgl hX hp ho => ?_
        change StepOk _ { dst := _, op := Op.nilCheck (Operand.tmp 27), type := _, pos := _, after := _, guard := _ } _ _ _
        have k27 : ρ (.tmp 27) = ?vna2 := hp 2 (by decide)
        clear hp ho
        refine StepOk.of_run (v := ?vna3) (w' := X) ?_ ⟨rfl, Below.refl _ _⟩
        clear hX
        go_simp
        all_goals try go_bits
        all_goals try simp only [IntWalk.iteOmega]
        all_goals try go_bits
        all_goals rfl
      · refine step_intro rfl rfl fun ρ X hc hf hgl hX hp ho => ?_
        change StepOk _ { dst := _, op := Op.fieldAddr 50 (Operand.tmp 28) 0, type := _, pos := _, after := _, guard := _ } _ _ _
        have k28 : ρ (.tmp 28) = ?vna3 := hp 3 (by decide)
        clear hp ho
        refine StepOk.of_run (v := ?vna4) (w' := X) ?_ ⟨rfl, Below.refl _ _⟩
        clear hX
        go_simp
        all_goals try go_bits
        all_goals try simp only [IntWalk.iteOmega]
        all_goals try go_bits
        all_goals rfl
      · refine step_intro rfl rfl fun ρ X hc hf hgl hX hp ho => ?_
        change StepOk _ { dst := _, op := Op.load 3 (Operand.tmp 29), type := _, pos := _, after := _, guard := _ } _ _ _
        have k29 : ρ (.tmp 29) = ?vna4 := hp 4 (by decide)
        have c0X := Grows.cell' hX c0
        have e0X := Grows.cell' hX e0
        clear hp ho
        refine StepOk.of_run (v := ?vna5) (w' := X) ?_ ⟨rfl, Below.refl _ _⟩
        clear hX
        go_simp
        all_goals try go_bits
        all_goals try simp only [IntWalk.iteOmega]
        all_goals try go_bits
        all_goals rfl
      · refine step_intro rfl rfl fun ρ X hc hf hgl hX hp ho => ?_
        change StepOk _ { dst := _, op := Op.binOp BinOp.eql 3 (Operand.tmp 26) (Operand.tmp 30) 3, type := _, pos := _, after := _, guard := _ } _ _ _
        have k26 : ρ (.tmp 26) = ?vna1 := hp 1 (by decide)
        have k30 : ρ (.tmp 30) = ?vna5 := hp 5 (by decide)
        clear hp ho
        refine StepOk.of_run (v := ?vna6) (w' := X) ?_ ⟨rfl, Below.refl _ _⟩
        clear hX
        go_simp
        all_goals try go_bits
        all_goals try simp only [IntWalk.iteOmega]
        all_goals try go_bits
        all_goals rfl
    case grdna => rfl
    case rstna =>
      intro a0 X hb
      have hfr := hb.frame ((25, ?vna0) :: (26, ?vna1) :: (27, ?vna2) :: (28, ?vna3) :: (29, ?vna4) :: (30, ?vna5) :: (31, ?vna6) :: []) rfl ⟨hb.done' 0 25 rfl rfl, hb.done' 1 26 rfl rfl, hb.done' 2 27 rfl rfl, hb.done' 3 28 rfl rfl, hb.done' 4 29 rfl rfl, hb.done' 5 30 rfl rfl, hb.done' 6 31 rfl rfl, trivial⟩
      simp only [updL, ↓reduceIte, Nat.reduceEqDiff, Nat.reduceAdd, Nat.zero_add] at hfr
      have HX := Lib.hid hb.ext
      clear hb
      subst hfr
      have HG4 := HX
      obtain ⟨w5, hw5⟩ : ∃ w5, X = w5 := ⟨_, rfl⟩
      have Hb5 := Lib.hid (Hh.out.grows (Grows.trans' Hg2.out HG4.out))
      have Hu5 := Lib.hid (But.ofGrows (O := OR q (.slice (some ⟨gl, 0, none⟩) n lc)) (Grows.trans' Hg2.out HG4.out))
      clear c0 c1 e0 e1 HX HG4
      rw [hw5] at Hb5 Hu5 ⊢
      clear hw5 X
      obtain ⟨c0, c1⟩ := Hb5.out.cells
      have hown5 := Hb5.out.own
      rw [Hn.out] at hown5
      have Hown5 := Lib.hid hown5
      clear hown5
      have Hone : Hid (∀ M : List Ce, (∀ e ∈ M, e ∈ L) → ∀ u ∈ ccs M, u.oneCell' = true) := Lib.hid (fun M hM => ccs_one (fun e he => Hb5.out.ps e (hM e he)))
      obtain ⟨w5s, Hw5s⟩ : ∃ y, Hid (w5.heap.size = y) := ⟨_, rfl⟩
      go_wp2_with (first
        | (refine wpList_slCh rfl (.tmp 47) (.tmp 48) rfl _ n lc i rfl rfl L Hown5.out (Nat.le_of_lt Hi.out) ?_; intro sx1 hsx1; have Hsx1 := Lib.hid hsx1; clear hsx1)
        | (refine wpList_appC rfl (.tmp 43) (.tmp 49) rfl (.slice none 0 0) 0 [] rfl (World.ownsRow_nil _ _ _ _) sx1 i (L.take i) rfl Hsx1.out (by rw [List.length_take, Hn.out]; have := Hi.out; omega) (Hone.out _ (fun e he => List.mem_of_mem_take he)) (by have := Hi.out; omega) ?_; intro v7 w7 ho7 hg7 hat7; rw [Nat.zero_add, List.nil_append] at ho7; have Hg7 : Hid (Grows w5 w7) := Below.grown (Below.refl _ _) hg7 (Nat.le_refl _) (fun k hk => by cases hk); have Ho7 := Lib.hid ho7; have Hat7 : Hid (∀ j, v7.ownBlock = some j → w5.heap.size ≤ j) := at_or hat7 (fun j hj => by cases hj) (Nat.le_refl _); have Hb7 := Lib.hid (Hb5.out.grows Hg7.out); have Hown7 := Lib.hid (own_grows Hown5.out Hg7.out); clear ho7 hg7 hat7 c0 c1; obtain ⟨c0, c1⟩ := Hb7.out.cells)
        | (refine wpList_slCl rfl (.tmp 56) (.tmp 58) rfl _ n lc (i + 1) rfl _ rfl (by omega) L Hown7.out Hi.out ?_; intro sx2 hsx2; have Hsx2 := Lib.hid hsx2; clear hsx2)
        | (refine wpList_appC rfl (.tmp 52) (.tmp 59) rfl v7 i (L.take i) rfl Ho7.out sx2 (n - (i + 1)) (L.drop (i + 1)) rfl Hsx2.out (by rw [List.length_drop, Hn.out]) (Hone.out _ (fun e he => List.mem_of_mem_drop he)) (by have := Hi.out; omega) ?_; intro v8 w8 ho8 hg8 hat8; have Hg8 : Hid (Grows w5 w8) := Below.grown Hg7.out hg8 Hg7.out.size (fun k hk => Hat7.out k hk); have Ho8 := Lib.hid ho8; have Hat8 : Hid (∀ j, v8.ownBlock = some j → w5.heap.size ≤ j) := at_or hat8 Hat7.out Hg7.out.size; have Hb8 := Lib.hid (Hb5.out.grows Hg8.out); clear ho8 hg8 hat8 c0 c1; obtain ⟨c0, c1⟩ := Hb8.out.cells)
        | (refine wpList_storeL rfl (.tmp 62) (.tmp 60) rfl Hb8.out v8 (L.take i ++ L.drop (i + 1)) rfl rfl (by have := Ho8.out; rw [show (L.take i ++ L.drop (i + 1)).length = i + (n - (i + 1)) by rw [List.length_append, List.length_take, List.length_drop, Hn.out]; have := Hi.out; omega]; exact this) (fun j hj => by have := Hat8.out j hj; have := (Array.getElem?_eq_some_iff.1 Hb5.out.row).1; have := Hb5.out.qB; omega) (fun e he => Hb8.out.ps e (by rcases List.mem_append.1 he with h | h; exact List.mem_of_mem_take h; exact List.mem_of_mem_drop h)) ?_; intro w9 hb9 hu9; have Hb9 := Lib.hid hb9; have Hu9 := Lib.hid hu9; clear hb9 hu9 c0 c1))
      go_ret
      refine ⟨rfl, ⟨_, _, _, Hb9.out, HD.out.symm⟩, (Hu5.out.trans' (But.ofGrows Hg8.out)).trans' (Hu9.out.mono (fun k hk => .inl hk))⟩
end Go.Proofs.Ytpodbhimkbadhaa
