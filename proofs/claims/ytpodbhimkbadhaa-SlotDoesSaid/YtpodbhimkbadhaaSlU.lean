/-
  The document's own Bytes.
-/
import Derived.Test.YtpodbhimkbadhaaSlT
namespace Go.Proofs.Ytpodbhimkbadhaa
open Go.RowKit
set_option linter.unusedVariables false
set_option linter.unusedSimpArgs false

theorem wpList_storeBuf {w : World} {ops : Array Oper} {rest : List Oper} {o : Oper} {a : Act} {Q : Exit → Act → World → Prop} (hgd : o.guard = none) (x y : Operand) (ho : o.op = .store 5 x y)
    (q i : Nat) (hi : i < 243) (z : Int) (b : UInt8) (hx : a.eval x = .pointer (some ⟨q, i, none⟩)) (hy : a.eval y = .int .u8 z) (hz : z = (b.toNat : Int)) (f : Raw) (hb : BufAt w q f)
    (h : ∀ w', BufAt w' q (upd f i b) → But (At q) w w' → wpList Try.prog ops Q rest (a.put o.dst undef) w') : wpList Try.prog ops Q (o :: rest) a w := by
  have cX := hb.cell i hi
  have fX := hb.frozen i
  have h1 := h _ (hb.set i hi b z hz) (But.setCell (But.refl' _ _) _ _ rfl)
  refine wpList_plain hgd fun K hK => ?_
  unfold Oper.wp execOp
  simp only [ho, hx, hy]
  simp [go_sem, cX, fX]
  exact hK _ _ h1
theorem cells4 {w W : World} (g : Grows w W) {p0 p1 p2 p3 : Addr} {v0 v1 v2 v3 : Value} (h : w.cell? p0 = some v0 ∧ w.cell? p1 = some v1 ∧ w.cell? p2 = some v2 ∧ w.cell? p3 = some v3) : W.cell? p0 = some v0 ∧ W.cell? p1 = some v1 ∧ W.cell? p2 = some v2 ∧ W.cell? p3 = some v3 :=
  ⟨Grows.cell' g h.1, Grows.cell' g h.2.1, Grows.cell' g h.2.2.1, Grows.cell' g h.2.2.2⟩
def refB (A : Bo) (i : Nat) : Raw := fun j => if j < 2 + 2 * i then dirA A j else if j < 2 + 2 * A.l.length then 0 else paint (A.l.take i) zR j
def refD (A : Bo) (i : Nat) : Raw := fun j => if j < 4 + 2 * i then dirA A j else if j < 2 + 2 * A.l.length then 0 else paint (A.l.take i) zR j
theorem refB_zero {A : Bo} (hw : Wf A) : upd (upd zR 0 (UInt8.ofNat A.l.length)) 1 (UInt8.ofNat A.top) = refB A 0 := by
  have hd := hw.dir
  funext j
  unfold refB upd
  by_cases h1 : j = 1
  · subst h1; rw [if_pos rfl, if_pos (by omega)]; rfl
  · rw [if_neg h1]
    by_cases h0 : j = 0
    · subst h0; rw [if_pos rfl, if_pos (by omega)]; rfl
    · rw [if_neg h0, if_neg (by omega)]
      split <;> rfl
theorem refB_dir {A : Bo} (i : Nat) (hi : i < A.l.length) (x y : UInt8) (hx : x = dirA A (2 + 2 * i)) (hy : y = dirA A (3 + 2 * i)) (f : Raw) (hf : ∀ j, j ≠ 2 + 2 * i → f j = refB A i j) : upd (upd f (2 + 2 * i) x) (3 + 2 * i) y = refD A i := by
  funext j
  unfold refD upd
  by_cases h1 : j = 3 + 2 * i
  · rw [if_pos h1, if_pos (by omega), hy, h1]
  · rw [if_neg h1]
    by_cases h2 : j = 2 + 2 * i
    · rw [if_pos h2, if_pos (by omega), hx, h2]
    · rw [if_neg h2, hf j h2]
      unfold refB
      by_cases h3 : j < 2 + 2 * i
      · rw [if_pos h3, if_pos (by omega)]
      · rw [if_neg h3, if_neg (show ¬ j < 4 + 2 * i by omega)]
theorem refD_succ {A : Bo} (hw : Wf A) (i : Nat) (hi : i < A.l.length) : ovr (refD A i) (cl A.l i).pl (cl A.l i).p = refB A (i + 1) := by
  have hd := hw.dir
  funext j
  by_cases h0 : (cl A.l i).p.length = 0
  · unfold ovr
    rw [if_neg (by omega)]
    unfold refD refB
    rw [show 4 + 2 * i = 2 + 2 * (i + 1) by omega]
    split
    · rfl
    · split
      · rfl
      · rw [paint_take _ i hi]; unfold ovr; rw [if_neg (by omega)]
  · have hlo := hw.low i hi (by omega)
    by_cases hj : j < 2 + 2 * A.l.length
    · unfold ovr
      rw [if_neg (by omega)]
      unfold refD refB
      rw [show 4 + 2 * i = 2 + 2 * (i + 1) by omega]
      split
      · rfl
      · first | rfl | rw [if_pos hj]
    · unfold refB
      rw [if_neg (by omega), if_neg hj, paint_take _ i hi]
      unfold ovr
      split
      · rfl
      · unfold refD
        rw [if_neg (by omega), if_neg hj]
theorem refB_done {A : Bo} : refB A A.l.length = bytesA A := by
  funext j
  unfold refB bytesA
  rw [List.take_length]
  split
  · rfl
  · rfl
theorem ovr_snoc (f : Raw) (a k : Nat) (p : List UInt8) (hk : k < p.length) : upd (ovr f a (p.take k)) (a + k) (p.getD k 0) = ovr f a (p.take (k + 1)) := by
  funext j
  unfold upd ovr
  rw [List.length_take, List.length_take, Nat.min_eq_left (by omega), Nat.min_eq_left (by omega)]
  by_cases h1 : j = a + k
  · rw [if_pos h1, if_pos (by omega), show j - a = k by omega]
    simp [List.getD, hk]
  · rw [if_neg h1]
    by_cases h2 : a ≤ j ∧ j < a + k
    · rw [if_pos h2, if_pos (by omega)]
      simp only [List.getD]
      rw [List.getElem?_take_of_lt (by omega), List.getElem?_take_of_lt (by omega)]
    · rw [if_neg h2, if_neg (by omega)]
set_option maxRecDepth 100000 in
set_option maxHeartbeats 2000000 in
theorem rBytes {w : World} {B q : Nat} {vL : Value} {t : Nat} {L : List Ce} (h : RB w B q vL t L) (hw : Wf (abs_ t L)) : Calls Try.prog 28 #[.pointer (some ⟨q, 0, none⟩)] w fun e w' => ∃ v, e = .returned v ∧ Byt w' v (rowOf (bytesA (abs_ t L)) 243) ∧ Grows w w' := by
  have hmx : Try.prog.follows .mixedOrders = true := by kernel_rfl
  obtain ⟨i0, hi, hz0, hz1, hz2⟩ := info_parts info5
  obtain ⟨qb, Hqb⟩ : ∃ qb, Hid (w.heap.size = qb) := ⟨_, rfl⟩
  obtain ⟨n, Hn⟩ : ∃ n, Hid (L.length = n) := ⟨_, rfl⟩
  have Hla : Hid ((abs_ t L).l.length = n) := by show _ = _; rw [abs_len, Hn.out]
  have Hw := Lib.hid hw
  have hn120 : n ≤ 120 := by rw [← Hla.out]; exact hw.ntop.1
  have ht243 : t ≤ 243 := hw.ntop.2.1
  obtain ⟨la, lc, rfl⟩ := h.form
  rw [Hn.out] at h
  have Hh := Lib.hid h
  clear h hw
  go_enter Try.func28, Try.ntmps28
  go_wp2_with (first
    | (at_make; refine wpList_make_full _ rfl _ _ 30 rfl qb 5 i0 (.int .u8 0) 1 Try.underlying30 hi hz0 hz1 .i64 .i64 _ _ 243 rfl rfl rfl rfl (by rw [hz2]; omega) (by unfold maxLen; omega) (by rw [Hqb.out]; exact Nat.le_refl _) ?_; intro w1 hown hgrow; rw [Hqb.out] at hown ⊢; have Hb1 := Lib.hid (BufAt.ofOwn hown); have Hg1 := Lib.hid (show Grows w w1 from (Below.refl _ _).grown hgrow (Nat.le_refl _) (fun _ h => by cases h)); clear hown hgrow; obtain ⟨c0, c1⟩ := (Hh.out.grows Hg1.out).cells)
    | (refine wpList_storeBuf rfl (.tmp 14) (.tmp 13) rfl qb 0 (by omega) _ (UInt8.ofNat n) rfl rfl (by rw [ofNat_toNat _ (by omega)]) _ Hb1.out ?_; intro w2 hb2 hu2; have Hb2 := Lib.hid hb2; have Hg2 := Lib.hid (but_new Hg1.out hu2 (by rw [Hqb.out]; exact Nat.le_refl _)); clear hb2 hu2 c0 c1; obtain ⟨c0, c1⟩ := (Hh.out.grows Hg2.out).cells)
    | (refine wpList_storeBuf rfl (.tmp 21) (.tmp 20) rfl qb 1 (by omega) _ (UInt8.ofNat t) rfl rfl (by rw [ofNat_toNat _ (by omega)]) _ Hb2.out ?_; intro w3 hb3 hu3; have Hb3 := Lib.hid hb3; have Hg3 := Lib.hid (but_new Hg2.out hu3 (by rw [Hqb.out]; exact Nat.le_refl _)); clear hb3 hu3 c0 c1))
  have HB3 : Hid (BufAt w3 qb (refB (abs_ t L) 0)) := by
    show BufAt _ _ _
    rw [← refB_zero Hw.out, Hla.out]
    exact Hb3.out
  go_loopw [4] (fun t4 wr => ∃ k : Nat, k ≤ n ∧ t4 = .int .i64 k ∧ Hid (BufAt wr qb (refB (abs_ t L) k)) ∧ Hid (Grows w wr)) (fun t4 _ => n - (intOf t4).toNat)
  case atStart => exact ⟨0, by omega, rfl, HB3, Hg3⟩
  case round =>
    obtain ⟨k, hk, rfl, Hbk, Hgk⟩ := hrel
    by_cases hlt : k < n
    · have hlt' : (k : Int) < (n : Int) := by omega
      obtain ⟨b0, b1⟩ := Hh.out.cells
      obtain ⟨gl, rfl, e0, e1, _⟩ := Hh.out.cell Hn.out k hlt
      have hps := Hh.out.ps _ (ce_mem L k (by rw [Hn.out]; exact hlt))
      obtain ⟨pa, pc, hp⟩ := own_form hps
      rw [hp] at e1 hps
      obtain ⟨p, Hp⟩ : ∃ p, Hid ((ce L k).c.p = p) := ⟨_, rfl⟩
      obtain ⟨m, Hm⟩ : ∃ m, Hid (p.length = m) := ⟨_, rfl⟩
      obtain ⟨pl, Hpl⟩ : ∃ pl, Hid ((ce L k).c.pl = pl) := ⟨_, rfl⟩
      have Hkl : Hid (k < (abs_ t L).l.length) := by show _ < _; rw [Hla.out]; exact hlt
      have Hcl : Hid (cl (abs_ t L).l k = (ce L k).c) := abs_cl t L k (by rw [Hn.out]; exact hlt)
      have hend := Hw.out.end_ k Hkl.out
      have hlen := Hw.out.len k Hkl.out
      rw [Hcl.out, Hp.out, Hm.out] at hlen
      rw [Hcl.out, Hp.out, Hm.out, Hpl.out] at hend
      rw [Hp.out, Hm.out] at e1 hps
      rw [Hpl.out] at e0
      have Hps := Lib.hid hps
      have Hc4 := Lib.hid (And.intro b0 (And.intro b1 (And.intro e0 e1)))
      clear hp b0 b1 e0 e1 hps
      obtain ⟨c0, c1, d0, d1⟩ := cells4 Hgk.out Hc4.out
      have Hdp : Hid (dirA (abs_ t L) (2 + 2 * k) = UInt8.ofNat (if m = 0 then t else pl)) := by show _ = _; rw [dirA_pl, Hcl.out, Hp.out, Hm.out, Hpl.out]; rfl
      have Hds : Hid (dirA (abs_ t L) (3 + 2 * k) = UInt8.ofNat m) := by show _ = _; rw [dirA_sz, Hcl.out, Hp.out, Hm.out]
      have Hend := Lib.hid hend
      by_cases h0 : m = 0
      · subst h0
        go_wp2_with (first
          | (refine wpList_storeBuf rfl (.tmp 44) (.tmp 43) rfl qb (2 + 2 * k) (by omega) _ (UInt8.ofNat pl) rfl rfl (by rw [ofNat_toNat _ (by omega)]) _ Hbk.out ?_; intro wA hbA huA; have HbA := Lib.hid hbA; have HgA := Lib.hid (but_new Hgk.out huA (by rw [Hqb.out]; exact Nat.le_refl _)); clear hbA huA c0 c1 d0 d1; obtain ⟨c0, c1, d0, d1⟩ := cells4 HgA.out Hc4.out)
          | (refine wpList_storeBuf rfl (.tmp 64) (.tmp 63) rfl qb (2 + 2 * k) (by omega) _ (UInt8.ofNat t) rfl rfl (by rw [ofNat_toNat _ (by omega)]) _ HbA.out ?_; intro wB hbB huB; have HbB := Lib.hid hbB; have HgB := Lib.hid (but_new HgA.out huB (by rw [Hqb.out]; exact Nat.le_refl _)); clear hbB huB c0 c1 d0 d1; obtain ⟨c0, c1, d0, d1⟩ := cells4 HgB.out Hc4.out)
          | (refine wpList_storeBuf rfl (.tmp 79) (.tmp 78) rfl qb (3 + 2 * k) (by omega) _ (UInt8.ofNat 0) rfl rfl rfl _ HbB.out ?_; intro wC hbC huC; have HbC := Lib.hid hbC; have HgC := Lib.hid (but_new HgB.out huC (by rw [Hqb.out]; exact Nat.le_refl _)); clear hbC huC c0 c1 d0 d1; obtain ⟨c0, c1, d0, d1⟩ := cells4 HgC.out Hc4.out))
        have HbD : Hid (BufAt wC qb (refD (abs_ t L) k)) := by
          show BufAt _ _ _
          rw [← refB_dir k Hkl.out (UInt8.ofNat t) (UInt8.ofNat 0) (by rw [Hdp.out]; simp) Hds.out.symm (upd (refB (abs_ t L) k) (2 + 2 * k) (UInt8.ofNat pl)) (fun j hj => by unfold upd; rw [if_neg hj])]
          exact HbC.out
        clear c0 c1 d0 d1
        go_loopw [5] (fun t5 wr => t5 = .int .i64 0 ∧ Hid (BufAt wr qb (refD (abs_ t L) k)) ∧ Hid (Grows w wr)) (fun t5 _ => 0)
        case atStart => exact ⟨rfl, HbD, HgC⟩
        case round =>
          obtain ⟨rfl, HbE, HgE⟩ := hrel
          obtain ⟨c0, c1, d0, d1⟩ := cells4 HgE.out Hc4.out
          go_wp2
          go_roundw
          case rel =>
            refine ⟨k + 1, by omega, by simp, ?_, HgE⟩
            show BufAt _ _ _
            rw [← refD_succ Hw.out k Hkl.out, Hcl.out, Hp.out, show p = [] from List.eq_nil_of_length_eq_zero Hm.out]
            have : ovr (refD (abs_ t L) k) (ce L k).c.pl [] = refD (abs_ t L) k := by funext j; unfold ovr; rw [if_neg (by simp only [List.length_nil]; omega)]
            rw [this]
            exact HbE.out
          case measure => simp [intOf]; omega
      · have h0' : ¬ (m : Int) = 0 := by omega
        go_wp2_with (first
          | (refine wpList_storeBuf rfl (.tmp 44) (.tmp 43) rfl qb (2 + 2 * k) (by omega) _ (UInt8.ofNat pl) rfl rfl (by rw [ofNat_toNat _ (by omega)]) _ Hbk.out ?_; intro wA hbA huA; have HbA := Lib.hid hbA; have HgA := Lib.hid (but_new Hgk.out huA (by rw [Hqb.out]; exact Nat.le_refl _)); clear hbA huA c0 c1 d0 d1; obtain ⟨c0, c1, d0, d1⟩ := cells4 HgA.out Hc4.out)
          | (refine wpList_storeBuf rfl (.tmp 79) (.tmp 78) rfl qb (3 + 2 * k) (by omega) _ (UInt8.ofNat m) rfl rfl (by rw [ofNat_toNat _ (by omega)]) _ HbA.out ?_; intro wC hbC huC; have HbC := Lib.hid hbC; have HgC := Lib.hid (but_new HgA.out huC (by rw [Hqb.out]; exact Nat.le_refl _)); clear hbC huC c0 c1 d0 d1; obtain ⟨c0, c1, d0, d1⟩ := cells4 HgC.out Hc4.out))
        have HbD : Hid (BufAt wC qb (ovr (refD (abs_ t L) k) pl (p.take 0))) := by
          show BufAt _ _ _
          have : ovr (refD (abs_ t L) k) pl (p.take 0) = refD (abs_ t L) k := by funext j; unfold ovr; rw [if_neg (by simp only [List.take_zero, List.length_nil]; omega)]
          rw [this, ← refB_dir k Hkl.out (UInt8.ofNat pl) (UInt8.ofNat m) (by rw [Hdp.out, if_neg h0]) Hds.out.symm (refB (abs_ t L) k) (fun j hj => rfl)]
          exact HbC.out
        clear c0 c1 d0 d1
        obtain ⟨gp, pc', ep, _⟩ := Hps.out.form (by rw [Hm.out]; omega)
        obtain ⟨rfl, rfl⟩ : pa = some ⟨gp, 0, none⟩ ∧ pc' = pc := by
          simp only [Value.slice.injEq] at ep
          exact ⟨ep.1, ep.2.2.symm⟩
        clear ep
        go_loopw [5] (fun t5 wr => ∃ x : Nat, x ≤ m ∧ t5 = .int .i64 x ∧ Hid (BufAt wr qb (ovr (refD (abs_ t L) k) pl (p.take x))) ∧ Hid (Grows w wr)) (fun t5 _ => m - (intOf t5).toNat)
        case atStart => exact ⟨0, by omega, rfl, HbD, HgC⟩
        case round =>
          obtain ⟨x, hx, rfl, HbE, HgE⟩ := hrel
          obtain ⟨c0, c1, d0, d1⟩ := cells4 HgE.out Hc4.out
          by_cases hxm : x < m
          · have hxm' : (x : Int) < (m : Int) := by omega
            have dp := Own.cell (Hps.out.grows HgE.out) x (by rw [Hm.out]; exact hxm)
            unfold bv at dp
            obtain ⟨bx, Hbx⟩ : ∃ bx, Hid (p.getD x 0 = bx) := ⟨_, rfl⟩
            rw [Hbx.out] at dp
            have hplx : pl + x < 243 := by omega
            go_wp2
            refine specs_last 23
              #[[], [], [1], [1, 2], [1, 2, 3], [], [1, 2, 3, 4, 5], [1, 2, 3, 4, 5, 6], [1, 2, 3, 4, 5, 6, 7], [], [1, 2, 3, 4, 5, 6, 7, 8, 9], [], [11], [11, 12], [11, 12, 13], [], [11, 12, 13, 14, 15], [11, 12, 13, 14, 15, 16], [11, 12, 13, 14, 15, 16, 17], [], [11, 12, 13, 14, 15, 16, 17, 18, 19], [11, 12, 13, 14, 15, 16, 17, 18, 19, 20], [0, 1, 2, 3, 4, 5, 6, 7, 8, 9, 10, 11, 12, 13, 14, 15, 16, 17, 18, 19, 20, 21], [0, 1, 2, 3, 4, 5, 6, 7, 8, 9, 10, 11, 12, 13, 14, 15, 16, 17, 18, 19, 20, 21, 22]] #[[3], [0], [], [], [], [4], [], [], [], [5], [], [0], [], [], [], [4], [], [], [], [5], [], [], [], []] #[true, true, true, true, true, true, true, true, true, true, true, true, true, true, true, true, true, true, true, true, true, true, true, true]
              ((.val ?vw0) :: (.val ?vw1) :: (.val ?vw2) :: (.val ?vw3) :: (.val ?vw4) :: (.val ?vw5) :: (.val ?vw6) :: (.val ?vw7) :: (.val ?vw8) :: (.val ?vw9) :: (.val ?vw10) :: (.val ?vw11) :: (.val ?vw12) :: (.val ?vw13) :: (.val ?vw14) :: (.val ?vw15) :: (.val ?vw16) :: (.val ?vw17) :: (.val ?vw18) :: (.val ?vw19) :: (.val ?vw20) :: (.val ?vw21) :: (.val ?vw22) :: (.any) :: []).toArray
              hmx ?chkw ?grdw rfl ?stpw ?rstw
            case chkw => rfl
            case stpw =>
              refine ⟨?_, ?_, ?_, ?_, ?_, ?_, ?_, ?_, ?_, ?_, ?_, ?_, ?_, ?_, ?_, ?_, ?_, ?_, ?_, ?_, ?_, ?_, ?_, ?_, trivial⟩
              · refine step_intro rfl rfl fun ρ X hc hf hgl hX hp ho => ?_
                change StepOk _ { dst := _, op := Op.move (Operand.tmp 3), type := _, pos := _, after := _, guard := _ } _ _ _
                have k3 : ρ (.tmp 3) = .slice (some ⟨qb, 0, none⟩) 243 243 := ho 3 (by decide)
                clear hp ho
                refine StepOk.of_run (v := ?vw0) (w' := X) ?_ ⟨rfl, Below.refl _ _⟩
                clear hX
                go_simp
                all_goals try go_bits
                all_goals try simp only [IntWalk.iteOmega]
                all_goals try go_bits
                all_goals rfl
              · refine step_intro rfl rfl fun ρ X hc hf hgl hX hp ho => ?_
                change StepOk _ { dst := _, op := Op.move (Operand.tmp 0), type := _, pos := _, after := _, guard := _ } _ _ _
                have k0 : ρ (.tmp 0) = .pointer (some ⟨q, 0, none⟩) := ho 0 (by decide)
                clear hp ho
                refine StepOk.of_run (v := ?vw1) (w' := X) ?_ ⟨rfl, Below.refl _ _⟩
                clear hX
                go_simp
                all_goals try go_bits
                all_goals try simp only [IntWalk.iteOmega]
                all_goals try go_bits
                all_goals rfl
              · refine step_intro rfl rfl fun ρ X hc hf hgl hX hp ho => ?_
                change StepOk _ { dst := _, op := Op.nilCheck (Operand.tmp 94), type := _, pos := _, after := _, guard := _ } _ _ _
                have k94 : ρ (.tmp 94) = ?vw1 := hp 1 (by decide)
                clear hp ho
                refine StepOk.of_run (v := ?vw2) (w' := X) ?_ ⟨rfl, Below.refl _ _⟩
                clear hX
                go_simp
                all_goals try go_bits
                all_goals try simp only [IntWalk.iteOmega]
                all_goals try go_bits
                all_goals rfl
              · refine step_intro rfl rfl fun ρ X hc hf hgl hX hp ho => ?_
                change StepOk _ { dst := _, op := Op.fieldAddr 50 (Operand.tmp 95) 1, type := _, pos := _, after := _, guard := _ } _ _ _
                have k95 : ρ (.tmp 95) = ?vw2 := hp 2 (by decide)
                clear hp ho
                refine StepOk.of_run (v := ?vw3) (w' := X) ?_ ⟨rfl, Below.refl _ _⟩
                clear hX
                go_simp
                all_goals try go_bits
                all_goals try simp only [IntWalk.iteOmega]
                all_goals try go_bits
                all_goals rfl
              · refine step_intro rfl rfl fun ρ X hc hf hgl hX hp ho => ?_
                change StepOk _ { dst := _, op := Op.load 48 (Operand.tmp 96), type := _, pos := _, after := _, guard := _ } _ _ _
                have k96 : ρ (.tmp 96) = ?vw3 := hp 3 (by decide)
                have c1X := Grows.cell' hX c1
                have d0X := Grows.cell' hX d0
                have d1X := Grows.cell' hX d1
                have dpX := Grows.cell' hX dp
                clear hp ho
                refine StepOk.of_run (v := ?vw4) (w' := X) ?_ ⟨rfl, Below.refl _ _⟩
                clear hX
                go_simp
                all_goals try go_bits
                all_goals try simp only [IntWalk.iteOmega]
                all_goals try go_bits
                all_goals rfl
              · refine step_intro rfl rfl fun ρ X hc hf hgl hX hp ho => ?_
                change StepOk _ { dst := _, op := Op.move (Operand.tmp 4), type := _, pos := _, after := _, guard := _ } _ _ _
                have k4 : ρ (.tmp 4) = .int .i64 (k : Int) := ho 4 (by decide)
                clear hp ho
                refine StepOk.of_run (v := ?vw5) (w' := X) ?_ ⟨rfl, Below.refl _ _⟩
                clear hX
                go_simp
                all_goals try go_bits
                all_goals try simp only [IntWalk.iteOmega]
                all_goals try go_bits
                all_goals rfl
              · refine step_intro rfl rfl fun ρ X hc hf hgl hX hp ho => ?_
                change StepOk _ { dst := _, op := Op.indexAddr 48 (Operand.tmp 97) (Operand.tmp 98), type := _, pos := _, after := _, guard := _ } _ _ _
                have k97 : ρ (.tmp 97) = ?vw4 := hp 4 (by decide)
                have k98 : ρ (.tmp 98) = ?vw5 := hp 5 (by decide)
                clear hp ho
                refine StepOk.of_run (v := ?vw6) (w' := X) ?_ ⟨rfl, Below.refl _ _⟩
                clear hX
                go_simp
                all_goals try go_bits
                all_goals try simp only [IntWalk.iteOmega]
                all_goals try go_bits
                all_goals rfl
              · refine step_intro rfl rfl fun ρ X hc hf hgl hX hp ho => ?_
                change StepOk _ { dst := _, op := Op.fieldAddr 54 (Operand.tmp 99) 0, type := _, pos := _, after := _, guard := _ } _ _ _
                have k99 : ρ (.tmp 99) = ?vw6 := hp 6 (by decide)
                clear hp ho
                refine StepOk.of_run (v := ?vw7) (w' := X) ?_ ⟨rfl, Below.refl _ _⟩
                clear hX
                go_simp
                all_goals try go_bits
                all_goals try simp only [IntWalk.iteOmega]
                all_goals try go_bits
                all_goals rfl
              · refine step_intro rfl rfl fun ρ X hc hf hgl hX hp ho => ?_
                change StepOk _ { dst := _, op := Op.load 3 (Operand.tmp 100), type := _, pos := _, after := _, guard := _ } _ _ _
                have k100 : ρ (.tmp 100) = ?vw7 := hp 7 (by decide)
                have c1X := Grows.cell' hX c1
                have d0X := Grows.cell' hX d0
                have d1X := Grows.cell' hX d1
                have dpX := Grows.cell' hX dp
                clear hp ho
                refine StepOk.of_run (v := ?vw8) (w' := X) ?_ ⟨rfl, Below.refl _ _⟩
                clear hX
                go_simp
                all_goals try go_bits
                all_goals try simp only [IntWalk.iteOmega]
                all_goals try go_bits
                all_goals rfl
              · refine step_intro rfl rfl fun ρ X hc hf hgl hX hp ho => ?_
                change StepOk _ { dst := _, op := Op.move (Operand.tmp 5), type := _, pos := _, after := _, guard := _ } _ _ _
                have k5 : ρ (.tmp 5) = .int .i64 (x : Int) := ho 5 (by decide)
                clear hp ho
                refine StepOk.of_run (v := ?vw9) (w' := X) ?_ ⟨rfl, Below.refl _ _⟩
                clear hX
                go_simp
                all_goals try go_bits
                all_goals try simp only [IntWalk.iteOmega]
                all_goals try go_bits
                all_goals rfl
              · refine step_intro rfl rfl fun ρ X hc hf hgl hX hp ho => ?_
                change StepOk _ { dst := _, op := Op.binOp BinOp.add 3 (Operand.tmp 101) (Operand.tmp 102) 3, type := _, pos := _, after := _, guard := _ } _ _ _
                have k101 : ρ (.tmp 101) = ?vw8 := hp 8 (by decide)
                have k102 : ρ (.tmp 102) = ?vw9 := hp 9 (by decide)
                clear hp ho
                refine StepOk.of_run (v := ?vw10) (w' := X) ?_ ⟨rfl, Below.refl _ _⟩
                clear hX
                go_simp
                all_goals try go_bits
                all_goals try simp only [IntWalk.iteOmega]
                all_goals try go_bits
                all_goals rfl
              · refine step_intro rfl rfl fun ρ X hc hf hgl hX hp ho => ?_
                change StepOk _ { dst := _, op := Op.move (Operand.tmp 0), type := _, pos := _, after := _, guard := _ } _ _ _
                have k0 : ρ (.tmp 0) = .pointer (some ⟨q, 0, none⟩) := ho 0 (by decide)
                clear hp ho
                refine StepOk.of_run (v := ?vw11) (w' := X) ?_ ⟨rfl, Below.refl _ _⟩
                clear hX
                go_simp
                all_goals try go_bits
                all_goals try simp only [IntWalk.iteOmega]
                all_goals try go_bits
                all_goals rfl
              · refine step_intro rfl rfl fun ρ X hc hf hgl hX hp ho => ?_
                change StepOk _ { dst := _, op := Op.nilCheck (Operand.tmp 104), type := _, pos := _, after := _, guard := _ } _ _ _
                have k104 : ρ (.tmp 104) = ?vw11 := hp 11 (by decide)
                clear hp ho
                refine StepOk.of_run (v := ?vw12) (w' := X) ?_ ⟨rfl, Below.refl _ _⟩
                clear hX
                go_simp
                all_goals try go_bits
                all_goals try simp only [IntWalk.iteOmega]
                all_goals try go_bits
                all_goals rfl
              · refine step_intro rfl rfl fun ρ X hc hf hgl hX hp ho => ?_
                change StepOk _ { dst := _, op := Op.fieldAddr 50 (Operand.tmp 105) 1, type := _, pos := _, after := _, guard := _ } _ _ _
                have k105 : ρ (.tmp 105) = ?vw12 := hp 12 (by decide)
                clear hp ho
                refine StepOk.of_run (v := ?vw13) (w' := X) ?_ ⟨rfl, Below.refl _ _⟩
                clear hX
                go_simp
                all_goals try go_bits
                all_goals try simp only [IntWalk.iteOmega]
                all_goals try go_bits
                all_goals rfl
              · refine step_intro rfl rfl fun ρ X hc hf hgl hX hp ho => ?_
                change StepOk _ { dst := _, op := Op.load 48 (Operand.tmp 106), type := _, pos := _, after := _, guard := _ } _ _ _
                have k106 : ρ (.tmp 106) = ?vw13 := hp 13 (by decide)
                have c1X := Grows.cell' hX c1
                have d0X := Grows.cell' hX d0
                have d1X := Grows.cell' hX d1
                have dpX := Grows.cell' hX dp
                clear hp ho
                refine StepOk.of_run (v := ?vw14) (w' := X) ?_ ⟨rfl, Below.refl _ _⟩
                clear hX
                go_simp
                all_goals try go_bits
                all_goals try simp only [IntWalk.iteOmega]
                all_goals try go_bits
                all_goals rfl
              · refine step_intro rfl rfl fun ρ X hc hf hgl hX hp ho => ?_
                change StepOk _ { dst := _, op := Op.move (Operand.tmp 4), type := _, pos := _, after := _, guard := _ } _ _ _
                have k4 : ρ (.tmp 4) = .int .i64 (k : Int) := ho 4 (by decide)
                clear hp ho
                refine StepOk.of_run (v := ?vw15) (w' := X) ?_ ⟨rfl, Below.refl _ _⟩
                clear hX
                go_simp
                all_goals try go_bits
                all_goals try simp only [IntWalk.iteOmega]
                all_goals try go_bits
                all_goals rfl
              · refine step_intro rfl rfl fun ρ X hc hf hgl hX hp ho => ?_
                change StepOk _ { dst := _, op := Op.indexAddr 48 (Operand.tmp 107) (Operand.tmp 108), type := _, pos := _, after := _, guard := _ } _ _ _
                have k107 : ρ (.tmp 107) = ?vw14 := hp 14 (by decide)
                have k108 : ρ (.tmp 108) = ?vw15 := hp 15 (by decide)
                clear hp ho
                refine StepOk.of_run (v := ?vw16) (w' := X) ?_ ⟨rfl, Below.refl _ _⟩
                clear hX
                go_simp
                all_goals try go_bits
                all_goals try simp only [IntWalk.iteOmega]
                all_goals try go_bits
                all_goals rfl
              · refine step_intro rfl rfl fun ρ X hc hf hgl hX hp ho => ?_
                change StepOk _ { dst := _, op := Op.fieldAddr 54 (Operand.tmp 109) 1, type := _, pos := _, after := _, guard := _ } _ _ _
                have k109 : ρ (.tmp 109) = ?vw16 := hp 16 (by decide)
                clear hp ho
                refine StepOk.of_run (v := ?vw17) (w' := X) ?_ ⟨rfl, Below.refl _ _⟩
                clear hX
                go_simp
                all_goals try go_bits
                all_goals try simp only [IntWalk.iteOmega]
                all_goals try go_bits
                all_goals rfl
              · refine step_intro rfl rfl fun ρ X hc hf hgl hX hp ho => ?_
                change StepOk _ { dst := _, op := Op.load 30 (Operand.tmp 110), type := _, pos := _, after := _, guard := _ } _ _ _
                have k110 : ρ (.tmp 110) = ?vw17 := hp 17 (by decide)
                have c1X := Grows.cell' hX c1
                have d0X := Grows.cell' hX d0
                have d1X := Grows.cell' hX d1
                have dpX := Grows.cell' hX dp
                clear hp ho
                refine StepOk.of_run (v := ?vw18) (w' := X) ?_ ⟨rfl, Below.refl _ _⟩
                clear hX
                go_simp
                all_goals try go_bits
                all_goals try simp only [IntWalk.iteOmega]
                all_goals try go_bits
                all_goals rfl
              · refine step_intro rfl rfl fun ρ X hc hf hgl hX hp ho => ?_
                change StepOk _ { dst := _, op := Op.move (Operand.tmp 5), type := _, pos := _, after := _, guard := _ } _ _ _
                have k5 : ρ (.tmp 5) = .int .i64 (x : Int) := ho 5 (by decide)
                clear hp ho
                refine StepOk.of_run (v := ?vw19) (w' := X) ?_ ⟨rfl, Below.refl _ _⟩
                clear hX
                go_simp
                all_goals try go_bits
                all_goals try simp only [IntWalk.iteOmega]
                all_goals try go_bits
                all_goals rfl
              · refine step_intro rfl rfl fun ρ X hc hf hgl hX hp ho => ?_
                change StepOk _ { dst := _, op := Op.indexAddr 30 (Operand.tmp 111) (Operand.tmp 112), type := _, pos := _, after := _, guard := _ } _ _ _
                have k111 : ρ (.tmp 111) = ?vw18 := hp 18 (by decide)
                have k112 : ρ (.tmp 112) = ?vw19 := hp 19 (by decide)
                clear hp ho
                refine StepOk.of_run (v := ?vw20) (w' := X) ?_ ⟨rfl, Below.refl _ _⟩
                clear hX
                go_simp
                all_goals try go_bits
                all_goals try simp only [IntWalk.iteOmega]
                all_goals try go_bits
                all_goals rfl
              · refine step_intro rfl rfl fun ρ X hc hf hgl hX hp ho => ?_
                change StepOk _ { dst := _, op := Op.load 5 (Operand.tmp 113), type := _, pos := _, after := _, guard := _ } _ _ _
                have k113 : ρ (.tmp 113) = ?vw20 := hp 20 (by decide)
                have c1X := Grows.cell' hX c1
                have d0X := Grows.cell' hX d0
                have d1X := Grows.cell' hX d1
                have dpX := Grows.cell' hX dp
                clear hp ho
                refine StepOk.of_run (v := ?vw21) (w' := X) ?_ ⟨rfl, Below.refl _ _⟩
                clear hX
                go_simp
                all_goals try go_bits
                all_goals try simp only [IntWalk.iteOmega]
                all_goals try go_bits
                all_goals rfl
              · refine step_intro rfl rfl fun ρ X hc hf hgl hX hp ho => ?_
                change StepOk _ { dst := _, op := Op.indexAddr 30 (Operand.tmp 93) (Operand.tmp 103), type := _, pos := _, after := _, guard := _ } _ _ _
                have k93 : ρ (.tmp 93) = ?vw0 := hp 0 (by decide)
                have k103 : ρ (.tmp 103) = ?vw10 := hp 10 (by decide)
                clear hp ho
                refine StepOk.of_run (v := ?vw22) (w' := X) ?_ ⟨rfl, Below.refl _ _⟩
                clear hX
                go_simp
                all_goals try go_bits
                all_goals try simp only [IntWalk.iteOmega]
                all_goals try go_bits
                all_goals rfl
              · exact last_intro rfl
            case grdw => rfl
            case rstw =>
              intro a0 X hb
              have hfr := hb.frame ((93, ?vw0) :: (94, ?vw1) :: (95, ?vw2) :: (96, ?vw3) :: (97, ?vw4) :: (98, ?vw5) :: (99, ?vw6) :: (100, ?vw7) :: (101, ?vw8) :: (102, ?vw9) :: (103, ?vw10) :: (104, ?vw11) :: (105, ?vw12) :: (106, ?vw13) :: (107, ?vw14) :: (108, ?vw15) :: (109, ?vw16) :: (110, ?vw17) :: (111, ?vw18) :: (112, ?vw19) :: (113, ?vw20) :: (114, ?vw21) :: (115, ?vw22) :: []) rfl ⟨hb.done' 0 93 rfl rfl, hb.done' 1 94 rfl rfl, hb.done' 2 95 rfl rfl, hb.done' 3 96 rfl rfl, hb.done' 4 97 rfl rfl, hb.done' 5 98 rfl rfl, hb.done' 6 99 rfl rfl, hb.done' 7 100 rfl rfl, hb.done' 8 101 rfl rfl, hb.done' 9 102 rfl rfl, hb.done' 10 103 rfl rfl, hb.done' 11 104 rfl rfl, hb.done' 12 105 rfl rfl, hb.done' 13 106 rfl rfl, hb.done' 14 107 rfl rfl, hb.done' 15 108 rfl rfl, hb.done' 16 109 rfl rfl, hb.done' 17 110 rfl rfl, hb.done' 18 111 rfl rfl, hb.done' 19 112 rfl rfl, hb.done' 20 113 rfl rfl, hb.done' 21 114 rfl rfl, hb.done' 22 115 rfl rfl, trivial⟩
              simp only [updL, ↓reduceIte, Nat.reduceEqDiff, Nat.reduceAdd, Nat.zero_add] at hfr
              have HX := Lib.hid hb.ext
              clear hb
              subst hfr
              change StepOk _ { dst := _, op := Op.store 5 (Operand.tmp 115) (Operand.tmp 114), type := _, pos := _, after := _, guard := _ } _ _ _
              have h0X := HbE.out.grows HX.out
              have fX := h0X.frozen (pl + x)
              have cX := h0X.cell (pl + x) hplx
              unfold StepOk
              simp [go_sem, execOp, cX, fX]
              have Hb9 : Hid (BufAt (X.setCell ⟨qb, pl + x, none⟩ (.int .u8 (bx.toNat : Int))) qb (ovr (refD (abs_ t L) k) pl (p.take (x + 1)))) := by
                show BufAt _ _ _
                rw [← ovr_snoc _ pl x p (by rw [Hm.out]; exact hxm), Hbx.out]
                exact h0X.set (pl + x) hplx bx _ rfl
              have Hg9 := Lib.hid (but_new (Grows.trans' HgE.out HX.out) (But.setCell (But.refl' (At qb) X) ⟨qb, pl + x, none⟩ (.int .u8 (bx.toNat : Int)) rfl) (by rw [Hqb.out]; exact Nat.le_refl _))
              clear cX fX h0X c0 c1 d0 d1 dp HX
              obtain ⟨w9, hw9⟩ : ∃ w9, X.setCell ⟨qb, pl + x, none⟩ (.int .u8 (bx.toNat : Int)) = w9 := ⟨_, rfl⟩
              rw [hw9] at Hb9 Hg9 ⊢
              clear hw9 X
              go_wp2
              go_roundw
              case rel => exact ⟨x + 1, by omega, by simp, Hb9, Hg9⟩
              case measure => simp [intOf]; omega
          · have hxm' : ¬ (x : Int) < (m : Int) := by omega
            obtain rfl : x = m := by omega
            go_wp2
            go_roundw
            case rel =>
              refine ⟨k + 1, by omega, by simp, ?_, HgE⟩
              show BufAt _ _ _
              rw [← refD_succ Hw.out k Hkl.out, Hcl.out, Hp.out, Hpl.out]
              have := HbE.out
              rw [List.take_of_length_le (by rw [Hm.out]; exact Nat.le_refl _)] at this
              exact this
            case measure => simp [intOf]; omega
    · have hlt' : ¬ (k : Int) < (n : Int) := by omega
      obtain ⟨c0, c1⟩ := (Hh.out.grows Hgk.out).cells
      obtain rfl : k = n := by omega
      go_wp2
      go_ret
      have h9 := Hbk.out.slv 0 243 (by omega) (Nat.le_refl _)
      rw [show rowOf (fun j => refB (abs_ t L) k (0 + j)) (243 - 0) = rowOf (bytesA (abs_ t L)) 243 from rowOf_congr _ _ _ (fun j _ => by rw [Nat.zero_add, ← Hla.out, refB_done])] at h9
      exact ⟨_, rfl, h9, Hgk.out⟩
end Go.Proofs.Ytpodbhimkbadhaa
