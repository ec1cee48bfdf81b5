/-
  The document's own body: what stands for it; New, sum, Free, Holes.
-/
import Derived.Test.YtpodbhimkbadhaaSlS0
import Derived.Test.YtpodbhimkbadhaaKitL
namespace Go.Proofs.Ytpodbhimkbadhaa
open Go.RowKit
set_option linter.unusedVariables false
set_option linter.unusedSimpArgs false

structure Ce where
  c : Cl
  v : Value
def ceC (e : Ce) : List Value := [.int .i64 (e.c.pl : Int), e.v]
def ccs (L : List Ce) : List Value := L.flatMap ceC
theorem ccs_len (L : List Ce) : (ccs L).length = L.length * 2 := by
  unfold ccs
  induction L with
  | nil => rfl
  | cons e L ih => rw [List.flatMap_cons, List.length_append, ih]; simp [ceC]; omega
def ce (L : List Ce) (k : Nat) : Ce := L.getD k ⟨⟨0, []⟩, .slice none 0 0⟩
theorem ce_get (L : List Ce) (k : Nat) (h : k < L.length) : ce L k = L[k] := by simp [ce, List.getD, h]
theorem ce_mem (L : List Ce) (k : Nat) (h : k < L.length) : ce L k ∈ L := by rw [ce_get L k h]; exact List.getElem_mem h
theorem ccs_get0 (L : List Ce) (k : Nat) (h : k < L.length) : (ccs L)[k * 2]? = some (.int .i64 ((ce L k).c.pl : Int)) := by
  have := flat_get ceC 2 (fun _ => rfl) L k 0 h (by omega)
  rw [Nat.add_zero] at this
  rw [ce_get L k h]; exact this
theorem ccs_get1 (L : List Ce) (k : Nat) (h : k < L.length) : (ccs L)[k * 2 + 1]? = some (ce L k).v := by
  have := flat_get ceC 2 (fun _ => rfl) L k 1 h (by omega)
  rw [ce_get L k h]; exact this
theorem ccs_one {w : World} {L : List Ce} (h : ∀ e ∈ L, Own 5 0 w e.v e.c.p) : ∀ u ∈ ccs L, u.oneCell' = true := by
  intro u hu
  unfold ccs at hu
  obtain ⟨e, he, hu⟩ := List.mem_flatMap.1 hu
  simp only [ceC, List.mem_cons, List.not_mem_nil, or_false] at hu
  rcases hu with rfl | rfl
  · rfl
  · obtain ⟨a, c, e'⟩ := own_form (h e he)
    rw [e']; rfl
theorem ccs_take (L : List Ce) (i : Nat) : (ccs L).take (i * 2) = ccs (L.take i) := by
  induction L generalizing i with
  | nil => simp [ccs]
  | cons e L ih =>
    cases i with
    | zero => simp [ccs]
    | succ i => rw [show (i + 1) * 2 = i * 2 + 1 + 1 by omega]; simp only [ccs, List.flatMap_cons, ceC, List.cons_append, List.nil_append, List.take_succ_cons]; congr 2; exact ih i
theorem ccs_drop (L : List Ce) (i : Nat) : (ccs L).drop (i * 2) = ccs (L.drop i) := by
  induction L generalizing i with
  | nil => simp [ccs]
  | cons e L ih =>
    cases i with
    | zero => simp [ccs]
    | succ i => rw [show (i + 1) * 2 = i * 2 + 1 + 1 by omega]; simp only [ccs, List.flatMap_cons, ceC, List.cons_append, List.nil_append, List.drop_succ_cons]; exact ih i
theorem ccs_app (L M : List Ce) : ccs (L ++ M) = ccs L ++ ccs M := by simp [ccs]
/-- The document's body. -/
structure RB (w : World) (B q : Nat) (vL : Value) (t : Nat) (L : List Ce) : Prop where
  row : w.heap[q]? = some (.cells #[.int .i64 (t : Int), vL] 50 (0, 0))
  own : w.ownsRow 0 54 2 vL L.length (ccs L)
  ps : ∀ e ∈ L, Own 5 0 w e.v e.c.p
  qB : B ≤ q
  vB : ∀ j, vL.ownBlock = some j → B ≤ j
def abs_ (t : Nat) (L : List Ce) : Bo := ⟨t, L.map (·.c)⟩
theorem abs_len (t : Nat) (L : List Ce) : (abs_ t L).l.length = L.length := by simp [abs_]
theorem abs_cl (t : Nat) (L : List Ce) (k : Nat) (h : k < L.length) : cl (abs_ t L).l k = (ce L k).c := by
  rw [cl_get _ k (by rw [abs_len]; exact h), ce_get L k h]; simp [abs_]
def OR (q : Nat) (vL : Value) : Nat → Prop := fun b => b = q ∨ vL.ownBlock = some b
theorem RB.cells {w : World} {B q : Nat} {vL : Value} {t : Nat} {L : List Ce} (h : RB w B q vL t L) : w.cell? ⟨q, 0, none⟩ = some (.int .i64 (t : Int)) ∧ w.cell? ⟨q, 1, none⟩ = some vL :=
  ⟨by rw [cell_of_row w q 0 _ _ (0, 0) h.row]; rfl, by rw [cell_of_row w q 1 _ _ (0, 0) h.row]; rfl⟩
theorem RB.fro {w : World} {B q : Nat} {vL : Value} {t : Nat} {L : List Ce} (h : RB w B q vL t L) (j : Nat) : w.frozen? ⟨q, j, none⟩ = false := frozen_of_row w q j _ _ h.row
theorem RB.but {O : Nat → Prop} {w w' : World} {B q : Nat} {vL : Value} {t : Nat} {L : List Ce} (h : RB w B q vL t L) (k : But O w w') (h1 : ¬ O q) (h2 : ∀ j, vL.ownBlock = some j → ¬ O j) (h3 : ∀ e ∈ L, ∀ j, e.v.ownBlock = some j → ¬ O j) : RB w' B q vL t L :=
  ⟨k.blockEq h1 h.row, own_but h.own k h2, fun e he => own_but (h.ps e he) k (h3 e he), h.qB, h.vB⟩
theorem RB.grows {w w' : World} {B q : Nat} {vL : Value} {t : Nat} {L : List Ce} (h : RB w B q vL t L) (k : Grows w w') : RB w' B q vL t L :=
  h.but (But.ofGrows (O := fun _ => False) k) (fun h => h) (fun _ _ h => h) (fun _ _ _ _ h => h)
theorem ne_types {w : World} {b c : Nat} {x y : Array Value} {T U : TypeId} {f f' : Nat × Nat} (h : w.heap[b]? = some (.cells x T f)) (k : w.heap[c]? = some (.cells y U f')) (hT : T ≠ U) : b ≠ c := by
  rintro rfl
  rw [h] at k
  simp only [Option.some.injEq, Obj.cells.injEq] at k
  exact hT k.2.1
theorem RB.at_ {w w' : World} {B q g : Nat} {vL : Value} {t : Nat} {L : List Ce} {f : Raw} (h : RB w B q vL t L) (hb : BodyAt w g f) (k : But (At g) w w') : RB w' B q vL t L :=
  h.but k (fun e => ne_types h.row hb (by decide) e) (fun j hj e => own_ne h.own hb (by decide) (by rw [hj, e])) (fun e he j hj e' => own_ne (h.ps e he) hb (by decide) (by rw [hj, e']))
theorem RB.keeps {w w' : World} {B q g : Nat} {vL : Value} {t : Nat} {L : List Ce} {f : Raw} {A : Bo} (h : RB w B q vL t L) (hb : Has w g f A) (k : But (OR q vL) w w') : Has w' g f A :=
  hb.but k (fun e => by
    rcases e with e | e
    · exact ne_types h.row hb.at_ (by decide) e.symm
    · exact own_ne h.own hb.at_ (by decide) e)
theorem RB.belows {w0 w w' : World} {B q : Nat} {vL : Value} {t : Nat} {L : List Ce} (h : RB w B q vL t L) (hB : w0.heap.size ≤ B) (hg : Grows w0 w) (k : But (OR q vL) w w') : Grows w0 w' :=
  Below.trans hg (k.below hg.size (fun b hb => by
    rcases hb with rfl | hb
    · have := h.qB; omega
    · have := h.vB b hb; omega))
theorem RB.form {w : World} {B q : Nat} {vL : Value} {t : Nat} {L : List Ce} (h : RB w B q vL t L) : ∃ a c, vL = .slice a L.length c := own_form h.own
theorem RB.cell {w : World} {B q : Nat} {a : Option Addr} {n c : Nat} {t : Nat} {L : List Ce} (h : RB w B q (.slice a n c) t L) (hn : L.length = n) (k : Nat) (hk : k < n) : ∃ gl, a = some ⟨gl, 0, none⟩ ∧ w.cell? ⟨gl, k * 2, none⟩ = some (.int .i64 ((ce L k).c.pl : Int)) ∧ w.cell? ⟨gl, k * 2 + 1, none⟩ = some (ce L k).v ∧ (∀ j, w.frozen? ⟨gl, j, none⟩ = false) := by
  have ho := h.own
  rw [hn] at ho
  obtain ⟨gl, rfl⟩ := own_some' ho (by omega)
  refine ⟨gl, rfl, own_cell ho _ _ (ccs_get0 L k (by omega)), own_cell ho _ _ (ccs_get1 L k (by omega)), fun j => ?_⟩
  rcases ho.2 with ⟨e, _⟩ | ⟨g', cap, cur, e, _, hg, _⟩
  · cases e
  · simp only [Value.slice.injEq, Option.some.injEq, Addr.mk.injEq, and_true, true_and] at e
    obtain ⟨rfl, rfl⟩ := e
    exact frozen_of_row w gl j _ _ hg

theorem refBodySize : (Try.prog.info? 50).map (·.size) = some 2 := by kernel_rfl
theorem rNew (w : World) : Calls Try.prog 10 #[] w fun e w' => e = .returned (.pointer (some ⟨w.heap.size, 0, none⟩)) ∧ RB w' w.heap.size w.heap.size (.slice none 0 0) 243 [] ∧ Grows w w' := by
  have H : Hid (RB (w.alloc (.cells #[.int .i64 243, .slice none 0 0] 50)) w.heap.size w.heap.size (.slice none 0 0) 243 []) :=
    ⟨heap_alloc_new _ _, World.ownsRow_nil _ _ _ _, fun e he => by simp at he, Nat.le_refl _, fun j hj => by simp [Value.ownBlock] at hj⟩
  go_enter Try.func10, Try.ntmps10
  go_wp2_with (refine wpList_boxT rfl 50 (.tmp 1) rfl _ rfl ?_)
  go_ret
  exact ⟨rfl, H.out, Grows.alloc' _ _⟩
theorem rSum {w : World} {B q : Nat} {vL : Value} {t : Nat} {L : List Ce} (h : RB w B q vL t L) (hw : Wf (abs_ t L)) : Calls Try.prog 39 #[.pointer (some ⟨q, 0, none⟩)] w fun e w' => e = .returned (.int .i64 (sumL (abs_ t L).l : Int)) ∧ w = w' := by
  have Hh := Lib.hid h
  have hn := hw.ntop
  obtain ⟨n, Hn⟩ : ∃ n, Hid (L.length = n) := ⟨_, rfl⟩
  rw [abs_len, Hn.out] at hn
  obtain ⟨a, c, rfl⟩ := h.form
  rw [Hn.out] at Hh h
  obtain ⟨c0, c1⟩ := h.cells
  obtain ⟨S, HS⟩ : ∃ S, Hid (sumL (abs_ t L).l = S) := ⟨_, rfl⟩
  rw [HS.out] at hn ⊢
  have Hw := Lib.hid hw
  clear h hw
  go_enter Try.func39, Try.ntmps39
  go_wp2
  go_loop [3, 4] (fun t3 t4 => ∃ k s : Nat, k ≤ n ∧ s ≤ 241 ∧ t4 = .int .i64 k ∧ t3 = .int .i64 s ∧ Hid (s = sumL ((abs_ t L).l.take k))) (fun _ t4 => n - (intOf t4).toNat)
  case atStart => exact ⟨0, 0, by omega, by omega, rfl, rfl, Lib.hid (by simp [sumL])⟩
  case round =>
    obtain ⟨k, s, hk, hs, rfl, rfl, Hk⟩ := hrel
    by_cases hlt : k < n
    · have hlt' : (k : Int) < (n : Int) := by omega
      obtain ⟨gl, rfl, _, d1, _⟩ := Hh.out.cell Hn.out k hlt
      obtain ⟨pa, pc, hp⟩ := own_form (Hh.out.ps _ (ce_mem L k (by rw [Hn.out]; exact hlt)))
      rw [hp] at d1
      obtain ⟨m, Hm⟩ : ∃ m, Hid ((ce L k).c.p.length = m) := ⟨_, rfl⟩
      rw [Hm.out] at d1
      clear hp
      have hkl : k < (abs_ t L).l.length := by rw [abs_len, Hn.out]; exact hlt
      have hss := sum_succ (abs_ t L).l k hkl
      rw [abs_cl t L k (by rw [Hn.out]; exact hlt), Hm.out, ← Hk.out] at hss
      have hsm : s + m ≤ 241 := by have := sum_take_le (abs_ t L).l (k + 1); have := HS.out; omega
      have Hss := Lib.hid hss
      clear hss hkl
      go_wp2
      refine ⟨⟨k + 1, s + m, by omega, hsm, by simp, by simp, Lib.hid Hss.out.symm⟩, by simp [intOf]; omega⟩
    · obtain rfl : k = n := by omega
      go_wp2
      go_ret
      refine ⟨?_, rfl⟩
      have : s = S := by rw [Hk.out, ← HS.out, List.take_of_length_le (by rw [abs_len, Hn.out]; exact Nat.le_refl _)]
      rw [this]; rfl
set_option maxRecDepth 100000 in
theorem rFree {w : World} {B q : Nat} {vL : Value} {t : Nat} {L : List Ce} (h : RB w B q vL t L) (hw : Wf (abs_ t L)) : Calls Try.prog 26 #[.pointer (some ⟨q, 0, none⟩)] w fun e w' => e = .returned (.int .i64 (freeA (abs_ t L) : Int)) ∧ Grows w w' := by
  have hmx : Try.prog.follows .mixedOrders = true := by kernel_rfl
  have HS := Lib.hid (fun (X : World) (hX : Grows w X) => rSum (h.grows hX) hw)
  have hd := hw.dir
  have hs := hw.sum
  have HF : Hid (freeA (abs_ t L) = 241 - 2 * (abs_ t L).l.length - sumL (abs_ t L).l) := rfl
  obtain ⟨n, hn⟩ : ∃ n, L.length = n := ⟨_, rfl⟩
  obtain ⟨s, hs'⟩ : ∃ s, sumL (abs_ t L).l = s := ⟨_, rfl⟩
  have ht : (abs_ t L).top = t := rfl
  rw [abs_len, hn] at hd HF
  rw [hs'] at hs HF HS
  rw [ht] at hd hs
  have hle : 2 + 2 * n + s ≤ 243 := by omega
  obtain ⟨a, c, rfl⟩ := h.form
  rw [hn] at h
  obtain ⟨c0, c1⟩ := h.cells
  clear h hw hn hs' ht hd hs
  go_enter Try.func26, Try.ntmps26
  go_wp2
  refine specs_region
    #[[], [0], [0, 1], [0, 1, 2], [0, 1, 2, 3], [0, 1, 2, 3, 4], [0, 1, 2, 3, 4, 5], [], [7], [0, 1, 2, 3, 4, 5, 6, 7, 8], [0, 1, 2, 3, 4, 5, 6, 7, 8, 9]] #[[0], [], [], [], [], [], [], [0], [], [], []] #[true, true, true, true, true, true, true, true, true, true, true]
    ((.val ?v0) :: (.val ?v1) :: (.val ?v2) :: (.val ?v3) :: (.val ?v4) :: (.val ?v5) :: (.val ?v6) :: (.val ?v7) :: (.val ?v8) :: (.val ?v9) :: (.val ?v10) :: []).toArray
    hmx ?chk ?grd ?stp ?rst
  case chk => rfl
  case stp =>
    refine ⟨?_, ?_, ?_, ?_, ?_, ?_, ?_, ?_, ?_, ?_, ?_, trivial⟩
    · refine step_intro rfl rfl fun ρ X hc hf hgl hX hp ho => ?_
      change StepOk _ { dst := _, op := Op.move (Operand.tmp 0), type := _, pos := _, after := _, guard := _ } _ _ _
      have k0 : ρ (.tmp 0) = .pointer (some ⟨q, 0, none⟩) := ho 0 (by decide)
      clear hp ho
      refine StepOk.of_run (v := ?v0) (w' := X) ?_ ⟨rfl, Below.refl _ _⟩
      clear hX
      go_simp
      all_goals try go_bits
      all_goals try simp only [IntWalk.iteOmega]
      all_goals try go_bits
      all_goals rfl
    · refine step_intro rfl rfl fun ρ X hc hf hgl hX hp ho => ?_
      change StepOk _ { dst := _, op := Op.nilCheck (Operand.tmp 3), type := _, pos := _, after := _, guard := _ } _ _ _
      have k3 : ρ (.tmp 3) = ?v0 := hp 0 (by decide)
      clear hp ho
      refine StepOk.of_run (v := ?v1) (w' := X) ?_ ⟨rfl, Below.refl _ _⟩
      clear hX
      go_simp
      all_goals try go_bits
      all_goals try simp only [IntWalk.iteOmega]
      all_goals try go_bits
      all_goals rfl
    · refine step_intro rfl rfl fun ρ X hc hf hgl hX hp ho => ?_
      change StepOk _ { dst := _, op := Op.fieldAddr 50 (Operand.tmp 4) 1, type := _, pos := _, after := _, guard := _ } _ _ _
      have k4 : ρ (.tmp 4) = ?v1 := hp 1 (by decide)
      clear hp ho
      refine StepOk.of_run (v := ?v2) (w' := X) ?_ ⟨rfl, Below.refl _ _⟩
      clear hX
      go_simp
      all_goals try go_bits
      all_goals try simp only [IntWalk.iteOmega]
      all_goals try go_bits
      all_goals rfl
    · refine step_intro rfl rfl fun ρ X hc hf hgl hX hp ho => ?_
      change StepOk _ { dst := _, op := Op.load 48 (Operand.tmp 5), type := _, pos := _, after := _, guard := _ } _ _ _
      have k5 : ρ (.tmp 5) = ?v2 := hp 2 (by decide)
      have c1X := Grows.cell' hX c1
      clear hp ho
      refine StepOk.of_run (v := ?v3) (w' := X) ?_ ⟨rfl, Below.refl _ _⟩
      clear hX
      go_simp
      all_goals try go_bits
      all_goals try simp only [IntWalk.iteOmega]
      all_goals try go_bits
      all_goals rfl
    · refine step_intro rfl rfl fun ρ X hc hf hgl hX hp ho => ?_
      change StepOk _ { dst := _, op := Op.call { callee := Callee.builtin Builtin.len, args := #[Operand.tmp 6], argTypes := #[48] }, type := _, pos := _, after := _, guard := _ } _ _ _
      have k6 : ρ (.tmp 6) = ?v3 := hp 3 (by decide)
      clear hp ho
      refine StepOk.of_run (v := ?v4) (w' := X) ?_ ⟨rfl, Below.refl _ _⟩
      clear hX
      go_simp
      all_goals try go_bits
      all_goals try simp only [IntWalk.iteOmega]
      all_goals try go_bits
      all_goals rfl
    · refine step_intro rfl rfl fun ρ X hc hf hgl hX hp ho => ?_
      change StepOk _ { dst := _, op := Op.binOp BinOp.mul 3 (Operand.const (Value.int IntKind.i64 2)) (Operand.tmp 7) 3, type := _, pos := _, after := _, guard := _ } _ _ _
      have k7 : ρ (.tmp 7) = ?v4 := hp 4 (by decide)
      clear hp ho
      refine StepOk.of_run (v := ?v5) (w' := X) ?_ ⟨rfl, Below.refl _ _⟩
      clear hX
      go_simp
      all_goals try go_bits
      all_goals try simp only [IntWalk.iteOmega]
      all_goals try go_bits
      all_goals rfl
    · refine step_intro rfl rfl fun ρ X hc hf hgl hX hp ho => ?_
      change StepOk _ { dst := _, op := Op.binOp BinOp.sub 3 (Operand.const (Value.int IntKind.i64 241)) (Operand.tmp 8) 3, type := _, pos := _, after := _, guard := _ } _ _ _
      have k8 : ρ (.tmp 8) = ?v5 := hp 5 (by decide)
      clear hp ho
      refine StepOk.of_run (v := ?v6) (w' := X) ?_ ⟨rfl, Below.refl _ _⟩
      clear hX
      go_simp
      all_goals try go_bits
      all_goals try simp only [IntWalk.iteOmega]
      all_goals try go_bits
      all_goals rfl
    · refine step_intro rfl rfl fun ρ X hc hf hgl hX hp ho => ?_
      change StepOk _ { dst := _, op := Op.move (Operand.tmp 0), type := _, pos := _, after := _, guard := _ } _ _ _
      have k0 : ρ (.tmp 0) = .pointer (some ⟨q, 0, none⟩) := ho 0 (by decide)
      clear hp ho
      refine StepOk.of_run (v := ?v7) (w' := X) ?_ ⟨rfl, Below.refl _ _⟩
      clear hX
      go_simp
      all_goals try go_bits
      all_goals try simp only [IntWalk.iteOmega]
      all_goals try go_bits
      all_goals rfl
    · refine step_intro rfl rfl fun ρ X hc hf hgl hX hp ho => ?_
      change StepOk _ { dst := _, op := Op.call { callee := Callee.value (Operand.func 39), args := #[Operand.tmp 10], argTypes := #[27] }, type := _, pos := _, after := _, guard := _ } _ _ _
      have k10 : ρ (.tmp 10) = ?v7 := hp 7 (by decide)
      clear hp ho
      refine StepOk.of_call (f := 39) (args := #[?v7]) (w' := X) ?_ (HS.out X hX) ?_
      · go_simp
        all_goals try go_bits
        all_goals try rfl
      · rintro e w'' ⟨rfl, rfl⟩; refine ⟨_, rfl, ?_, Below.refl _ _⟩; show _ = ?v8; rfl
    · refine step_intro rfl rfl fun ρ X hc hf hgl hX hp ho => ?_
      change StepOk _ { dst := _, op := Op.binOp BinOp.sub 3 (Operand.tmp 9) (Operand.tmp 11) 3, type := _, pos := _, after := _, guard := _ } _ _ _
      have k9 : ρ (.tmp 9) = ?v6 := hp 6 (by decide)
      have k11 : ρ (.tmp 11) = ?v8 := hp 8 (by decide)
      clear hp ho
      refine StepOk.of_run (v := ?v9) (w' := X) ?_ ⟨rfl, Below.refl _ _⟩
      clear hX
      go_simp
      all_goals try go_bits
      all_goals try simp only [IntWalk.iteOmega]
      all_goals try go_bits
      all_goals rfl
    · refine step_intro rfl rfl fun ρ X hc hf hgl hX hp ho => ?_
      change StepOk _ { dst := _, op := Op.assign (Operand.tmp 12), type := _, pos := _, after := _, guard := _ } _ _ _
      have k12 : ρ (.tmp 12) = ?v9 := hp 9 (by decide)
      clear hp ho
      refine StepOk.of_run (v := ?v10) (w' := X) ?_ ⟨rfl, Below.refl _ _⟩
      clear hX
      go_simp
      all_goals try go_bits
      all_goals try simp only [IntWalk.iteOmega]
      all_goals try go_bits
      all_goals rfl
  case grd => rfl
  case rst =>
    intro a0 X hb
    have hfr := hb.frame ((2, ?v10) :: (3, ?v0) :: (4, ?v1) :: (5, ?v2) :: (6, ?v3) :: (7, ?v4) :: (8, ?v5) :: (9, ?v6) :: (10, ?v7) :: (11, ?v8) :: (12, ?v9) :: []) rfl ⟨hb.done' 10 2 rfl rfl, hb.done' 0 3 rfl rfl, hb.done' 1 4 rfl rfl, hb.done' 2 5 rfl rfl, hb.done' 3 6 rfl rfl, hb.done' 4 7 rfl rfl, hb.done' 5 8 rfl rfl, hb.done' 6 9 rfl rfl, hb.done' 7 10 rfl rfl, hb.done' 8 11 rfl rfl, hb.done' 9 12 rfl rfl, trivial⟩
    simp only [updL, ↓reduceIte, Nat.reduceEqDiff, Nat.reduceAdd, Nat.zero_add] at hfr
    have HX := Lib.hid hb.ext
    clear hb
    subst hfr
    have HG := HX
    go_wp2
    go_ret
    refine ⟨?_, HG.out⟩
    rw [HF.out]
    simp
    omega
set_option maxRecDepth 100000 in
theorem rHoles {w : World} {B q : Nat} {vL : Value} {t : Nat} {L : List Ce} (h : RB w B q vL t L) (hw : Wf (abs_ t L)) : Calls Try.prog 27 #[.pointer (some ⟨q, 0, none⟩)] w fun e w' => e = .returned (.int .i64 (holesA (abs_ t L) : Int)) ∧ Grows w w' := by
  have hmx : Try.prog.follows .mixedOrders = true := by kernel_rfl
  have HS := Lib.hid (fun (X : World) (hX : Grows w X) => rSum (h.grows hX) hw)
  have hs := hw.sum
  have HF : Hid (holesA (abs_ t L) = 243 - (abs_ t L).top - sumL (abs_ t L).l) := rfl
  obtain ⟨s, hs'⟩ : ∃ s, sumL (abs_ t L).l = s := ⟨_, rfl⟩
  have ht : (abs_ t L).top = t := rfl
  rw [hs'] at hs HF HS
  rw [ht] at hs HF
  obtain ⟨c0, c1⟩ := h.cells
  clear h hw hs' ht c1
  go_enter Try.func27, Try.ntmps27
  go_wp2
  refine specs_region
    #[[], [0], [0, 1], [0, 1, 2], [0, 1, 2, 3], [], [5], [0, 1, 2, 3, 4, 5, 6], [0, 1, 2, 3, 4, 5, 6, 7]] #[[0], [], [], [], [], [0], [], [], []] #[true, true, true, true, true, true, true, true, true]
    ((.val ?v0) :: (.val ?v1) :: (.val ?v2) :: (.val ?v3) :: (.val ?v4) :: (.val ?v5) :: (.val ?v6) :: (.val ?v7) :: (.val ?v8) :: []).toArray
    hmx ?chk ?grd ?stp ?rst
  case chk => rfl
  case stp =>
    refine ⟨?_, ?_, ?_, ?_, ?_, ?_, ?_, ?_, ?_, trivial⟩
    · refine step_intro rfl rfl fun ρ X hc hf hgl hX hp ho => ?_
      change StepOk _ { dst := _, op := Op.move (Operand.tmp 0), type := _, pos := _, after := _, guard := _ } _ _ _
      have k0 : ρ (.tmp 0) = .pointer (some ⟨q, 0, none⟩) := ho 0 (by decide)
      clear hp ho
      refine StepOk.of_run (v := ?v0) (w' := X) ?_ ⟨rfl, Below.refl _ _⟩
      clear hX
      go_simp
      all_goals try go_bits
      all_goals try simp only [IntWalk.iteOmega]
      all_goals try go_bits
      all_goals rfl
    · refine step_intro rfl rfl fun ρ X hc hf hgl hX hp ho => ?_
      change StepOk _ { dst := _, op := Op.nilCheck (Operand.tmp 3), type := _, pos := _, after := _, guard := _ } _ _ _
      have k3 : ρ (.tmp 3) = ?v0 := hp 0 (by decide)
      clear hp ho
      refine StepOk.of_run (v := ?v1) (w' := X) ?_ ⟨rfl, Below.refl _ _⟩
      clear hX
      go_simp
      all_goals try go_bits
      all_goals try simp only [IntWalk.iteOmega]
      all_goals try go_bits
      all_goals rfl
    · refine step_intro rfl rfl fun ρ X hc hf hgl hX hp ho => ?_
      change StepOk _ { dst := _, op := Op.fieldAddr 50 (Operand.tmp 4) 0, type := _, pos := _, after := _, guard := _ } _ _ _
      have k4 : ρ (.tmp 4) = ?v1 := hp 1 (by decide)
      clear hp ho
      refine StepOk.of_run (v := ?v2) (w' := X) ?_ ⟨rfl, Below.refl _ _⟩
      clear hX
      go_simp
      all_goals try go_bits
      all_goals try simp only [IntWalk.iteOmega]
      all_goals try go_bits
      all_goals rfl
    · refine step_intro rfl rfl fun ρ X hc hf hgl hX hp ho => ?_
      change StepOk _ { dst := _, op := Op.load 3 (Operand.tmp 5), type := _, pos := _, after := _, guard := _ } _ _ _
      have k5 : ρ (.tmp 5) = ?v2 := hp 2 (by decide)
      have c0X := Grows.cell' hX c0
      clear hp ho
      refine StepOk.of_run (v := ?v3) (w' := X) ?_ ⟨rfl, Below.refl _ _⟩
      clear hX
      go_simp
      all_goals try go_bits
      all_goals try simp only [IntWalk.iteOmega]
      all_goals try go_bits
      all_goals rfl
    · refine step_intro rfl rfl fun ρ X hc hf hgl hX hp ho => ?_
      change StepOk _ { dst := _, op := Op.binOp BinOp.sub 3 (Operand.const (Value.int IntKind.i64 243)) (Operand.tmp 6) 3, type := _, pos := _, after := _, guard := _ } _ _ _
      have k6 : ρ (.tmp 6) = ?v3 := hp 3 (by decide)
      clear hp ho
      refine StepOk.of_run (v := ?v4) (w' := X) ?_ ⟨rfl, Below.refl _ _⟩
      clear hX
      go_simp
      all_goals try go_bits
      all_goals try simp only [IntWalk.iteOmega]
      all_goals try go_bits
      all_goals rfl
    · refine step_intro rfl rfl fun ρ X hc hf hgl hX hp ho => ?_
      change StepOk _ { dst := _, op := Op.move (Operand.tmp 0), type := _, pos := _, after := _, guard := _ } _ _ _
      have k0 : ρ (.tmp 0) = .pointer (some ⟨q, 0, none⟩) := ho 0 (by decide)
      clear hp ho
      refine StepOk.of_run (v := ?v5) (w' := X) ?_ ⟨rfl, Below.refl _ _⟩
      clear hX
      go_simp
      all_goals try go_bits
      all_goals try simp only [IntWalk.iteOmega]
      all_goals try go_bits
      all_goals rfl
    · refine step_intro rfl rfl fun ρ X hc hf hgl hX hp ho => ?_
      change StepOk _ { dst := _, op := Op.call { callee := Callee.value (Operand.func 39), args := #[Operand.tmp 8], argTypes := #[27] }, type := _, pos := _, after := _, guard := _ } _ _ _
      have k8 : ρ (.tmp 8) = ?v5 := hp 5 (by decide)
      clear hp ho
      refine StepOk.of_call (f := 39) (args := #[?v5]) (w' := X) ?_ (HS.out X hX) ?_
      · go_simp
        all_goals try go_bits
        all_goals try rfl
      · rintro e w'' ⟨rfl, rfl⟩; refine ⟨_, rfl, ?_, Below.refl _ _⟩; show _ = ?v6; rfl
    · refine step_intro rfl rfl fun ρ X hc hf hgl hX hp ho => ?_
      change StepOk _ { dst := _, op := Op.binOp BinOp.sub 3 (Operand.tmp 7) (Operand.tmp 9) 3, type := _, pos := _, after := _, guard := _ } _ _ _
      have k7 : ρ (.tmp 7) = ?v4 := hp 4 (by decide)
      have k9 : ρ (.tmp 9) = ?v6 := hp 6 (by decide)
      clear hp ho
      refine StepOk.of_run (v := ?v7) (w' := X) ?_ ⟨rfl, Below.refl _ _⟩
      clear hX
      go_simp
      all_goals try go_bits
      all_goals try simp only [IntWalk.iteOmega]
      all_goals try go_bits
      all_goals rfl
    · refine step_intro rfl rfl fun ρ X hc hf hgl hX hp ho => ?_
      change StepOk _ { dst := _, op := Op.assign (Operand.tmp 10), type := _, pos := _, after := _, guard := _ } _ _ _
      have k10 : ρ (.tmp 10) = ?v7 := hp 7 (by decide)
      clear hp ho
      refine StepOk.of_run (v := ?v8) (w' := X) ?_ ⟨rfl, Below.refl _ _⟩
      clear hX
      go_simp
      all_goals try go_bits
      all_goals try simp only [IntWalk.iteOmega]
      all_goals try go_bits
      all_goals rfl
  case grd => rfl
  case rst =>
    intro a0 X hb
    have hfr := hb.frame ((2, ?v8) :: (3, ?v0) :: (4, ?v1) :: (5, ?v2) :: (6, ?v3) :: (7, ?v4) :: (8, ?v5) :: (9, ?v6) :: (10, ?v7) :: []) rfl ⟨hb.done' 8 2 rfl rfl, hb.done' 0 3 rfl rfl, hb.done' 1 4 rfl rfl, hb.done' 2 5 rfl rfl, hb.done' 3 6 rfl rfl, hb.done' 4 7 rfl rfl, hb.done' 5 8 rfl rfl, hb.done' 6 9 rfl rfl, hb.done' 7 10 rfl rfl, trivial⟩
    simp only [updL, ↓reduceIte, Nat.reduceEqDiff, Nat.reduceAdd, Nat.zero_add] at hfr
    have HX := Lib.hid hb.ext
    clear hb
    subst hfr
    have HG := HX
    go_wp2
    go_ret
    refine ⟨?_, HG.out⟩
    rw [HF.out]
    simp
    omega
end Go.Proofs.Ytpodbhimkbadhaa
