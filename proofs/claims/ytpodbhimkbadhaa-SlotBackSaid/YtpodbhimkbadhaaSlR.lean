/-
  The walk of SlotBack.
-/
import Derived.Test.YtpodbhimkbadhaaSlQ2
namespace Go.Proofs.Ytpodbhimkbadhaa
open Go.RowKit
set_option linter.unusedVariables false
set_option linter.unusedSimpArgs false

set_option maxRecDepth 100000 in
set_option maxHeartbeats 4000000 in
theorem walkBack (v : Value) (l : List De) (w : World) (hl : DeS w v l) : Calls Try.prog 5 #[v] w fun e w' => e = .returned (.bool true) ∧ Grows w w' := by
  have hmx : Try.prog.follows .mixedOrders = true := by kernel_rfl
  have HSm := Lib.hid (vSmall w v l hl)
  have HLv := Lib.hid (fun w => vLive w)
  have Hl := Lib.hid hl
  obtain ⟨⟨a, cap, rfl, hm, hc⟩, ho⟩ := hl
  obtain ⟨N, HN⟩ : ∃ N, Hid (l.length = N) := ⟨_, rfl⟩
  rw [HN.out] at hm hc HSm ⊢
  have Hc := Lib.hid hc
  have Ho := Lib.hid ho
  have hmI : (N : Int) ≤ 9223372036854775807 := by unfold maxLen at hm; omega
  clear hc ho hm
  go_enter Try.func5, Try.ntmps5
  go_wp2_with fail
  refine HSm.out.mono ?_
  rintro e w1 ⟨⟨b, rfl, hb⟩, rfl⟩
  cases b with
  | false =>
    go_wp2_with (go_at_call 8; refine (HLv.out _).mono ?_; rintro e w2 ⟨rfl, hg⟩)
    go_ret
    exact ⟨rfl, hg⟩
  | true =>
    have HS : Hid (Sm l) := hb.1 rfl
    have hN : N ≤ 120 := by have := HS.out.1; rw [HN.out] at this; exact this
    clear hb hmI
    obtain ⟨g, Hg⟩ : ∃ g, Hid (w.heap.size = g) := ⟨_, rfl⟩
    have HNw := Lib.hid (vNew w)
    rw [Hg.out] at HNw
    unfold pb at HNw
    go_wp2_with (go_at_call 9; refine HNw.out.mono ?_; rintro e w1 ⟨rfl, hb1, hg1⟩)
    have Hh1 : Hid (Has w1 g newR newA) := ⟨hb1, enc_new, wf_new⟩
    have Hg1 := Lib.hid hg1
    clear hb1 hg1
    go_loopw [4] (fun t4 wr => ∃ (k : Nat) (f : Raw) (A : Bo), k ≤ N ∧ t4 = .int .i64 k ∧ Hid (Has wr g f A) ∧ Hid (Grows w wr)) (fun t4 _ => N - (intOf t4).toNat)
    case atStart => exact ⟨0, _, _, by omega, rfl, Hh1, Hg1⟩
    case round =>
      obtain ⟨k, f, A, hk, rfl, Hh, Hgr⟩ := hrel
      by_cases hlt : k < N
      · have hlt' : (k : Int) < (N : Int) := by omega
        obtain ⟨b, off, rfl, hcl⟩ := Hc.out.resolve_left (by rintro rfl; have := HN.out; simp at this; omega)
        have hd := Ho.out k
        obtain ⟨c0, c1, c2⟩ := hcl k hlt
        have Ho2 := Lib.hid (byt_out (g := g) hd.p (by rw [Hg.out]; exact Nat.le_refl _))
        obtain ⟨kd, Hkd⟩ : ∃ kd, Hid ((dx l k).k = kd) := ⟨_, rfl⟩
        obtain ⟨i, Hi⟩ : ∃ i, Hid ((dx l k).i = i) := ⟨_, rfl⟩
        obtain ⟨pv, Hpv⟩ : ∃ pv, Hid ((dx l k).pv = pv) := ⟨_, rfl⟩
        obtain ⟨p, Hp⟩ : ∃ p, Hid ((dx l k).p = p) := ⟨_, rfl⟩
        have Hbp := Lib.hid (hd.p.grows Hgr.out)
        rw [Hkd.out] at c0
        rw [Hi.out] at c1
        rw [Hpv.out] at c2 Ho2 Hbp
        rw [Hp.out] at Hbp
        have c0 := Grows.cell' Hgr.out c0
        have c1 := Grows.cell' Hgr.out c1
        have c2 := Grows.cell' Hgr.out c2
        clear hcl hd
        by_cases h0 : kd = 0
        · subst h0
          go_wp2
          refine specs_last 11
            #[[], [], [], [1, 2], [1, 2, 3], [1, 2, 3, 4], [], [], [6, 7], [6, 7, 8], [6, 7, 8, 9], [0, 1, 2, 3, 4, 5, 6, 7, 8, 9, 10]] #[[3], [0], [4], [], [], [], [0], [4], [], [], [], []] #[true, true, true, true, true, true, true, true, true, true, true, true]
            ((.val ?va0) :: (.val ?va1) :: (.val ?va2) :: (.val ?va3) :: (.val ?va4) :: (.val ?va5) :: (.val ?va6) :: (.val ?va7) :: (.val ?va8) :: (.val ?va9) :: (.val ?va10) :: (.any) :: []).toArray
            hmx ?chka ?grda rfl ?stpa ?rsta
          case chka => rfl
          case stpa =>
            refine ⟨?_, ?_, ?_, ?_, ?_, ?_, ?_, ?_, ?_, ?_, ?_, ?_, trivial⟩
            · refine step_intro rfl rfl fun ρ X hc hf hgl hX hp ho => ?_
              change StepOk _ { dst := _, op := Op.move (Operand.tmp 3), type := _, pos := _, after := _, guard := _ } _ _ _
              have k3 : ρ (.tmp 3) = .pointer (some ⟨g, 0, none⟩) := ho 3 (by decide)
              clear hp ho
              refine StepOk.of_run (v := ?va0) (w' := X) ?_ ⟨rfl, Below.refl _ _⟩
              clear hX
              go_simp
              all_goals try go_bits
              all_goals try simp only [IntWalk.iteOmega]
              all_goals try go_bits
              all_goals rfl
            · refine step_intro rfl rfl fun ρ X hc hf hgl hX hp ho => ?_
              change StepOk _ { dst := _, op := Op.move (Operand.tmp 0), type := _, pos := _, after := _, guard := _ } _ _ _
              have k0 : ρ (.tmp 0) = .slice (some ⟨b, off, none⟩) N cap := ho 0 (by decide)
              clear hp ho
              refine StepOk.of_run (v := ?va1) (w' := X) ?_ ⟨rfl, Below.refl _ _⟩
              clear hX
              go_simp
              all_goals try go_bits
              all_goals try simp only [IntWalk.iteOmega]
              all_goals try go_bits
              all_goals rfl
            · refine step_intro rfl rfl fun ρ X hc hf hgl hX hp ho => ?_
              change StepOk _ { dst := _, op := Op.move (Operand.tmp 4), type := _, pos := _, after := _, guard := _ } _ _ _
              have k4 : ρ (.tmp 4) = .int .i64 (k : Int) := ho 4 (by decide)
              clear hp ho
              refine StepOk.of_run (v := ?va2) (w' := X) ?_ ⟨rfl, Below.refl _ _⟩
              clear hX
              go_simp
              all_goals try go_bits
              all_goals try simp only [IntWalk.iteOmega]
              all_goals try go_bits
              all_goals rfl
            · refine step_intro rfl rfl fun ρ X hc hf hgl hX hp ho => ?_
              change StepOk _ { dst := _, op := Op.indexAddr 22 (Operand.tmp 29) (Operand.tmp 30), type := _, pos := _, after := _, guard := _ } _ _ _
              have k29 : ρ (.tmp 29) = ?va1 := hp 1 (by decide)
              have k30 : ρ (.tmp 30) = ?va2 := hp 2 (by decide)
              clear hp ho
              refine StepOk.of_run (v := ?va3) (w' := X) ?_ ⟨rfl, Below.refl _ _⟩
              clear hX
              go_simp
              all_goals try go_bits
              all_goals try simp only [IntWalk.iteOmega]
              all_goals try go_bits
              all_goals rfl
            · refine step_intro rfl rfl fun ρ X hc hf hgl hX hp ho => ?_
              change StepOk _ { dst := _, op := Op.fieldAddr 32 (Operand.tmp 31) 1, type := _, pos := _, after := _, guard := _ } _ _ _
              have k31 : ρ (.tmp 31) = ?va3 := hp 3 (by decide)
              clear hp ho
              refine StepOk.of_run (v := ?va4) (w' := X) ?_ ⟨rfl, Below.refl _ _⟩
              clear hX
              go_simp
              all_goals try go_bits
              all_goals try simp only [IntWalk.iteOmega]
              all_goals try go_bits
              all_goals rfl
            · refine step_intro rfl rfl fun ρ X hc hf hgl hX hp ho => ?_
              change StepOk _ { dst := _, op := Op.load 3 (Operand.tmp 32), type := _, pos := _, after := _, guard := _ } _ _ _
              have k32 : ρ (.tmp 32) = ?va4 := hp 4 (by decide)
              have c1X := Grows.cell' hX c1
              have c2X := Grows.cell' hX c2
              clear hp ho
              refine StepOk.of_run (v := ?va5) (w' := X) ?_ ⟨rfl, Below.refl _ _⟩
              clear hX
              go_simp
              all_goals try go_bits
              all_goals try simp only [IntWalk.iteOmega]
              all_goals try go_bits
              all_goals rfl
            · refine step_intro rfl rfl fun ρ X hc hf hgl hX hp ho => ?_
              change StepOk _ { dst := _, op := Op.move (Operand.tmp 0), type := _, pos := _, after := _, guard := _ } _ _ _
              have k0 : ρ (.tmp 0) = .slice (some ⟨b, off, none⟩) N cap := ho 0 (by decide)
              clear hp ho
              refine StepOk.of_run (v := ?va6) (w' := X) ?_ ⟨rfl, Below.refl _ _⟩
              clear hX
              go_simp
              all_goals try go_bits
              all_goals try simp only [IntWalk.iteOmega]
              all_goals try go_bits
              all_goals rfl
            · refine step_intro rfl rfl fun ρ X hc hf hgl hX hp ho => ?_
              change StepOk _ { dst := _, op := Op.move (Operand.tmp 4), type := _, pos := _, after := _, guard := _ } _ _ _
              have k4 : ρ (.tmp 4) = .int .i64 (k : Int) := ho 4 (by decide)
              clear hp ho
              refine StepOk.of_run (v := ?va7) (w' := X) ?_ ⟨rfl, Below.refl _ _⟩
              clear hX
              go_simp
              all_goals try go_bits
              all_goals try simp only [IntWalk.iteOmega]
              all_goals try go_bits
              all_goals rfl
            · refine step_intro rfl rfl fun ρ X hc hf hgl hX hp ho => ?_
              change StepOk _ { dst := _, op := Op.indexAddr 22 (Operand.tmp 34) (Operand.tmp 35), type := _, pos := _, after := _, guard := _ } _ _ _
              have k34 : ρ (.tmp 34) = ?va6 := hp 6 (by decide)
              have k35 : ρ (.tmp 35) = ?va7 := hp 7 (by decide)
              clear hp ho
              refine StepOk.of_run (v := ?va8) (w' := X) ?_ ⟨rfl, Below.refl _ _⟩
              clear hX
              go_simp
              all_goals try go_bits
              all_goals try simp only [IntWalk.iteOmega]
              all_goals try go_bits
              all_goals rfl
            · refine step_intro rfl rfl fun ρ X hc hf hgl hX hp ho => ?_
              change StepOk _ { dst := _, op := Op.fieldAddr 32 (Operand.tmp 36) 2, type := _, pos := _, after := _, guard := _ } _ _ _
              have k36 : ρ (.tmp 36) = ?va8 := hp 8 (by decide)
              clear hp ho
              refine StepOk.of_run (v := ?va9) (w' := X) ?_ ⟨rfl, Below.refl _ _⟩
              clear hX
              go_simp
              all_goals try go_bits
              all_goals try simp only [IntWalk.iteOmega]
              all_goals try go_bits
              all_goals rfl
            · refine step_intro rfl rfl fun ρ X hc hf hgl hX hp ho => ?_
              change StepOk _ { dst := _, op := Op.load 30 (Operand.tmp 37), type := _, pos := _, after := _, guard := _ } _ _ _
              have k37 : ρ (.tmp 37) = ?va9 := hp 9 (by decide)
              have c1X := Grows.cell' hX c1
              have c2X := Grows.cell' hX c2
              clear hp ho
              refine StepOk.of_run (v := ?va10) (w' := X) ?_ ⟨rfl, Below.refl _ _⟩
              clear hX
              go_simp
              all_goals try go_bits
              all_goals try simp only [IntWalk.iteOmega]
              all_goals try go_bits
              all_goals rfl
            · exact last_intro rfl
          case grda => rfl
          case rsta =>
            intro a0 X hb
            obtain ⟨x39, hx39⟩ : ∃ x, a0.tmps.getD 39 undef = x := ⟨_, rfl⟩
            have hfr := hb.frame ((28, ?va0) :: (29, ?va1) :: (30, ?va2) :: (31, ?va3) :: (32, ?va4) :: (33, ?va5) :: (34, ?va6) :: (35, ?va7) :: (36, ?va8) :: (37, ?va9) :: (38, ?va10) :: (39, x39) :: []) rfl ⟨hb.done' 0 28 rfl rfl, hb.done' 1 29 rfl rfl, hb.done' 2 30 rfl rfl, hb.done' 3 31 rfl rfl, hb.done' 4 32 rfl rfl, hb.done' 5 33 rfl rfl, hb.done' 6 34 rfl rfl, hb.done' 7 35 rfl rfl, hb.done' 8 36 rfl rfl, hb.done' 9 37 rfl rfl, hb.done' 10 38 rfl rfl, hx39, trivial⟩
            simp only [updL, ↓reduceIte, Nat.reduceEqDiff, Nat.reduceAdd, Nat.zero_add] at hfr
            have HX := Lib.hid hb.ext
            clear hb
            subst hfr
            change StepOk _ { dst := _, op := Op.call { callee := Callee.value (Operand.func 14), args := #[Operand.tmp 28, Operand.tmp 33, Operand.tmp 38], argTypes := #[25, 3, 30] }, type := _, pos := _, after := _, guard := _ } _ _ _
            refine StepOk.of_call (f := 14) (args := #[.pointer (some ⟨g, 0, none⟩), .int .i64 i, pv]) (w' := X) ?_ (hInsert (Hh.out.grows HX.out) i pv p (Hbp.out.grows HX.out) Ho2.out) ?_
            · go_simp
              all_goals try rfl
            · rintro e w4 ⟨rfl, ⟨f4, hh4⟩, hu4⟩
              have Hh4 := Lib.hid hh4
              have Hg4 := Lib.hid (but_new (Grows.trans' Hgr.out HX.out) hu4 (by rw [Hg.out]; exact Nat.le_refl _))
              clear hh4 hu4
              obtain ⟨A4, HA4⟩ : ∃ A4, Hid (insS A i p = A4) := ⟨_, rfl⟩
              rw [HA4.out] at Hh4
              have HBy := Lib.hid (hBytes Hh4.out)
              unfold pb at HBy
              refine ⟨_, rfl, ?_⟩
              clear c0 c1 c2
              go_wp2_with fail
              refine HBy.out.mono ?_
              rintro e w5 ⟨v5, rfl, hb5, hg5⟩
              have Hh5 := Lib.hid (Hh4.out.grows hg5)
              have Hg5 := Lib.hid (Grows.trans' Hg4.out hg5)
              have HPs := Lib.hid (hParse w5 v5 _ _ hb5 (enc_bytes Hh4.out.wf) (wf_norm Hh4.out.wf) (low_norm Hh4.out.wf))
              clear hb5 hg5
              go_wp2_with fail
              refine HPs.out.mono ?_
              rintro e w6 ⟨q, rfl, hp6, _, hg6⟩
              have Hp6 := Lib.hid hp6
              have Hh6 := Lib.hid (Hh5.out.grows hg6)
              have Hg6 := Lib.hid (Grows.trans' Hg5.out hg6)
              clear hp6 hg6
              unfold pb
              obtain ⟨n, Hn⟩ : ∃ n, Hid (A4.l.length = n) := ⟨_, rfl⟩
              obtain ⟨r, Hr⟩ : ∃ r, Hid (freeA A4 = r) := ⟨_, rfl⟩
              obtain ⟨B, HB⟩ : ∃ B, Hid (rowOf (bytesA A4) 243 = B) := ⟨_, rfl⟩
              have hn120 : n ≤ 120 := by rw [← Hn.out]; exact Hh6.out.wf.ntop.1
              have HLg : Hid (∀ X, Grows w6 X → Calls Try.prog 18 #[pb g] X fun e w' => e = .returned (.int .i64 (n : Int)) ∧ X = w') := Lib.hid (fun X hX => by rw [← Hn.out]; exact hLen (Hh6.out.grows hX))
              have HLq : Hid (∀ X, Grows w6 X → Calls Try.prog 18 #[pb q] X fun e w' => e = .returned (.int .i64 (n : Int)) ∧ X = w') := Lib.hid (fun X hX => by have := hLen (Hp6.out.grows hX); rw [show (normA A4).l.length = n by rw [← Hn.out]; exact normL_length _ _] at this; exact this)
              have HFg : Hid (∀ X, Grows w6 X → Calls Try.prog 19 #[pb g] X fun e w' => e = .returned (.int .i64 (r : Int)) ∧ Grows X w') := Lib.hid (fun X hX => by rw [← Hr.out]; exact hFree (Hh6.out.grows hX))
              have HFq : Hid (∀ X, Grows w6 X → Calls Try.prog 19 #[pb q] X fun e w' => e = .returned (.int .i64 (r : Int)) ∧ Grows X w') := Lib.hid (fun X hX => by rw [← Hr.out, ← free_norm A4]; exact hFree (Hp6.out.grows hX))
              have HBg : Hid (∀ X, Grows w6 X → Calls Try.prog 22 #[pb g] X fun e w' => ∃ v, e = .returned v ∧ Byt w' v B ∧ Grows X w') := Lib.hid (fun X hX => by rw [← HB.out]; exact hBytes (Hh6.out.grows hX))
              have HBq : Hid (∀ X, Grows w6 X → Calls Try.prog 22 #[pb q] X fun e w' => ∃ v, e = .returned v ∧ Byt w' v B ∧ Grows X w') := Lib.hid (fun X hX => by rw [← HB.out, ← bytes_norm A4]; exact hBytes (Hp6.out.grows hX))
              unfold pb at HLg HLq HFg HFq HBg HBq
              clear HPs HBy
              go_wp2
              refine specs_region
                #[[], [0], [0, 1], [0, 1, 2], [0, 1, 2, 3], [0, 1, 2, 3, 4], [0, 1, 2, 3, 4, 5], [0, 1, 2, 3, 4, 5, 6], [0, 1, 2, 3, 4, 5, 6, 7], [0, 1, 2, 3, 4, 5, 6, 7, 8], [0, 1, 2, 3, 4, 5, 6, 7], [0, 1, 2, 3, 4, 5, 6, 7, 8, 9, 10], [0, 1, 2, 3, 4, 5, 6, 7, 8, 9, 10, 11], [0, 1, 2, 3, 4, 5, 6, 7, 8, 9, 10, 11, 12], [0, 1, 2, 3, 4, 5, 6, 7, 8, 9, 10, 11, 12, 13], [0, 1, 2, 3, 4, 5, 6, 7, 8, 9, 10, 11, 12, 13, 14], [0, 1, 2, 3, 4, 5, 6, 7, 8, 9, 10, 11, 12, 13, 14, 15], [0, 1, 2, 3, 4, 5, 6, 7, 8, 9, 10, 11, 12, 13, 14], [0, 1, 2, 3, 4, 5, 6, 7, 8, 9, 10, 11, 12, 13, 14, 15, 16, 17], [0, 1, 2, 3, 4, 5, 6, 7, 8, 9, 10, 11, 12, 13, 14, 15, 16, 17, 18], [0, 1, 2, 3, 4, 5, 6, 7, 8, 9, 10, 11, 12, 13, 14, 15, 16, 17, 18, 19], [0, 1, 2, 3, 4, 5, 6, 7, 8, 9, 10, 11, 12, 13, 14, 15, 16, 17, 18, 19, 20], [0, 1, 2, 3, 4, 5, 6, 7, 8, 9, 10, 11, 12, 13, 14, 15, 16, 17, 18, 19, 20, 21], [0, 1, 2, 3, 4, 5, 6, 7, 8, 9, 10, 11, 12, 13, 14, 15, 16, 17, 18, 19, 20, 21, 22], [0, 1, 2, 3, 4, 5, 6, 7, 8, 9, 10, 11, 12, 13, 14, 15, 16, 17, 18, 19, 20, 21, 22, 23], [0, 1, 2, 3, 4, 5, 6, 7, 8, 9, 10, 11, 12, 13, 14, 15, 16, 17, 18, 19, 20, 21], [0, 1, 2, 3, 4, 5, 6, 7, 8, 9, 10, 11, 12, 13, 14, 15, 16, 17, 18, 19, 20, 21, 22, 23, 25], [0, 1, 2, 3, 4, 5, 6, 7, 8, 9, 10, 11, 12, 13, 14, 15, 16, 17, 18, 19, 20, 21, 22, 23, 25, 26], [0, 1, 2, 3, 4, 5, 6, 7, 8, 9, 10, 11, 12, 13, 14, 15, 16, 17, 18, 19, 20, 21, 22, 23, 24, 25, 26, 27], [0, 1, 2, 3, 4, 5, 6, 7, 8, 9, 10, 11, 12, 13, 14, 15, 16, 17, 18, 19, 20, 21, 22, 23, 24, 25, 26, 27, 28]] #[[6], [], [], [], [5], [], [], [], [5], [], [3], [], [], [], [], [5], [], [3], [], [], [], [], [5], [], [], [3], [], [], [], []] #[true, true, true, true, true, true, true, true, true, true, true, true, true, true, true, true, true, true, true, true, true, true, true, true, true, true, true, true, true, true]
                ((.val ?vpc0) :: (.val ?vpc1) :: (.val ?vpc2) :: (.val ?vpc3) :: (.val ?vpc4) :: (.val ?vpc5) :: (.val ?vpc6) :: (.val ?vpc7) :: (.val ?vpc8) :: (.val ?vpc9) :: (.val ?vpc10) :: (.val ?vpc11) :: (.val ?vpc12) :: (.val ?vpc13) :: (.val ?vpc14) :: (.val ?vpc15) :: (.val ?vpc16) :: (.val ?vpc17) :: (.val ?vpc18) :: (.val ?vpc19) :: (.val ?vpc20) :: (.val ?vpc21) :: (.val ?vpc22) :: (.byt (B)) :: (.val (.string ⟨(B : List UInt8).toArray⟩)) :: (.val ?vpc25) :: (.byt (B)) :: (.val (.string ⟨(B : List UInt8).toArray⟩)) :: (.val ?vpc28) :: (.val ?vpc29) :: []).toArray
                hmx ?chkpc ?grdpc ?stppc ?rstpc
              case chkpc => rfl
              case stppc =>
                refine ⟨?_, ?_, ?_, ?_, ?_, ?_, ?_, ?_, ?_, ?_, ?_, ?_, ?_, ?_, ?_, ?_, ?_, ?_, ?_, ?_, ?_, ?_, ?_, ?_, ?_, ?_, ?_, ?_, ?_, ?_, trivial⟩
                · refine step_intro rfl rfl fun ρ X hc hf hgl hX hp ho => ?_
                  change StepOk _ { dst := _, op := Op.move (Operand.tmp 6), type := _, pos := _, after := _, guard := _ } _ _ _
                  have k6 : ρ (.tmp 6) = .int .i64 0 := ho 6 (by decide)
                  clear hp ho
                  refine StepOk.of_run (v := ?vpc0) (w' := X) ?_ ⟨rfl, Below.refl _ _⟩
                  clear hX
                  go_simp
                  all_goals try go_bits
                  all_goals try simp only [IntWalk.iteOmega]
                  all_goals try go_bits
                  all_goals rfl
                · refine step_intro rfl rfl fun ρ X hc hf hgl hX hp ho => ?_
                  change StepOk _ { dst := _, op := Op.call { callee := Callee.value (Operand.func 13), args := #[Operand.tmp 59], argTypes := #[36] }, type := _, pos := _, after := _, guard := _ } _ _ _
                  have k59 : ρ (.tmp 59) = ?vpc0 := hp 0 (by decide)
                  clear hp ho
                  refine StepOk.of_call (f := 13) (args := #[?vpc0]) (w' := X) ?_ (vNum _ X) ?_
                  · go_simp
                    all_goals try go_bits
                    all_goals try rfl
                  · rintro e w'' ⟨rfl, rfl⟩; refine ⟨_, rfl, ?_, Below.refl _ _⟩; show _ = ?vpc1; rfl
                · refine step_intro rfl rfl fun ρ X hc hf hgl hX hp ho => ?_
                  change StepOk _ { dst := _, op := Op.binOp BinOp.neq 3 (Operand.tmp 60) (Operand.const (Value.int IntKind.i64 0)) 3, type := _, pos := _, after := _, guard := _ } _ _ _
                  have k60 : ρ (.tmp 60) = ?vpc1 := hp 1 (by decide)
                  clear hp ho
                  refine StepOk.of_run (v := ?vpc2) (w' := X) ?_ ⟨rfl, Below.refl _ _⟩
                  clear hX
                  go_simp
                  all_goals try go_bits
                  all_goals try simp only [IntWalk.iteOmega]
                  all_goals try go_bits
                  all_goals rfl
                · refine step_intro rfl rfl fun ρ X hc hf hgl hX hp ho => ?_
                  change StepOk _ { dst := _, op := Op.move (Operand.tmp 61), type := _, pos := _, after := _, guard := _ } _ _ _
                  have k61 : ρ (.tmp 61) = ?vpc2 := hp 2 (by decide)
                  clear hp ho
                  refine StepOk.of_run (v := ?vpc3) (w' := X) ?_ ⟨rfl, Below.refl _ _⟩
                  clear hX
                  go_simp
                  all_goals try go_bits
                  all_goals try simp only [IntWalk.iteOmega]
                  all_goals try go_bits
                  all_goals rfl
                · refine step_intro rfl rfl fun ρ X hc hf hgl hX hp ho => ?_
                  change StepOk _ { dst := _, op := Op.move (Operand.tmp 5), type := _, pos := _, after := _, guard := _ } _ _ _
                  have k5 : ρ (.tmp 5) = .pointer (some ⟨q, 0, none⟩) := ho 5 (by decide)
                  clear hp ho
                  refine StepOk.of_run (v := ?vpc4) (w' := X) ?_ ⟨rfl, Below.refl _ _⟩
                  clear hX
                  go_simp
                  all_goals try go_bits
                  all_goals try simp only [IntWalk.iteOmega]
                  all_goals try go_bits
                  all_goals rfl
                · refine step_intro rfl rfl fun ρ X hc hf hgl hX hp ho => ?_
                  change StepOk _ { dst := _, op := Op.binOp BinOp.eql 25 (Operand.tmp 63) (Operand.const (Value.pointer none)) 25, type := _, pos := _, after := _, guard := _ } _ _ _
                  have k63 : ρ (.tmp 63) = ?vpc4 := hp 4 (by decide)
                  clear hp ho
                  refine StepOk.of_run (v := ?vpc5) (w' := X) ?_ ⟨rfl, Below.refl _ _⟩
                  clear hX
                  go_simp
                  all_goals try go_bits
                  all_goals try simp only [IntWalk.iteOmega]
                  all_goals try go_bits
                  all_goals rfl
                · refine step_intro rfl rfl fun ρ X hc hf hgl hX hp ho => ?_
                  change StepOk _ { dst := _, op := Op.pick (Operand.tmp 62) (Operand.const (Value.bool true)) (Operand.tmp 64), type := _, pos := _, after := _, guard := _ } _ _ _
                  have k62 : ρ (.tmp 62) = ?vpc3 := hp 3 (by decide)
                  have k64 : ρ (.tmp 64) = ?vpc5 := hp 5 (by decide)
                  clear hp ho
                  refine StepOk.of_run (v := ?vpc6) (w' := X) ?_ ⟨rfl, Below.refl _ _⟩
                  clear hX
                  go_simp
                  all_goals try go_bits
                  all_goals try simp only [IntWalk.iteOmega]
                  all_goals try go_bits
                  all_goals rfl
                · refine step_intro rfl rfl fun ρ X hc hf hgl hX hp ho => ?_
                  change StepOk _ { dst := _, op := Op.move (Operand.tmp 65), type := _, pos := _, after := _, guard := _ } _ _ _
                  have k65 : ρ (.tmp 65) = ?vpc6 := hp 6 (by decide)
                  clear hp ho
                  refine StepOk.of_run (v := ?vpc7) (w' := X) ?_ ⟨rfl, Below.refl _ _⟩
                  clear hX
                  go_simp
                  all_goals try go_bits
                  all_goals try simp only [IntWalk.iteOmega]
                  all_goals try go_bits
                  all_goals rfl
                · refine step_intro rfl rfl fun ρ X hc hf hgl hX hp ho => ?_
                  change StepOk _ { dst := _, op := Op.move (Operand.tmp 5), type := _, pos := _, after := _, guard := _ } _ _ _
                  have k5 : ρ (.tmp 5) = .pointer (some ⟨q, 0, none⟩) := ho 5 (by decide)
                  clear hp ho
                  refine StepOk.of_run (v := ?vpc8) (w' := X) ?_ ⟨rfl, Below.refl _ _⟩
                  clear hX
                  go_simp
                  all_goals try go_bits
                  all_goals try simp only [IntWalk.iteOmega]
                  all_goals try go_bits
                  all_goals rfl
                · refine step_intro rfl rfl fun ρ X hc hf hgl hX hp ho => ?_
                  change StepOk _ { dst := _, op := Op.call { callee := Callee.value (Operand.func 18), args := #[Operand.tmp 67], argTypes := #[25] }, type := _, pos := _, after := _, guard := _ } _ _ _
                  have k67 : ρ (.tmp 67) = ?vpc8 := hp 8 (by decide)
                  clear hp ho
                  refine StepOk.of_call (f := 18) (args := #[?vpc8]) (w' := X) ?_ (HLq.out X hX) ?_
                  · go_simp
                    all_goals try go_bits
                    all_goals try rfl
                  · rintro e w'' ⟨rfl, rfl⟩; refine ⟨_, rfl, ?_, Below.refl _ _⟩; show _ = ?vpc9; rfl
                · refine step_intro rfl rfl fun ρ X hc hf hgl hX hp ho => ?_
                  change StepOk _ { dst := _, op := Op.move (Operand.tmp 3), type := _, pos := _, after := _, guard := _ } _ _ _
                  have k3 : ρ (.tmp 3) = .pointer (some ⟨g, 0, none⟩) := ho 3 (by decide)
                  clear hp ho
                  refine StepOk.of_run (v := ?vpc10) (w' := X) ?_ ⟨rfl, Below.refl _ _⟩
                  clear hX
                  go_simp
                  all_goals try go_bits
                  all_goals try simp only [IntWalk.iteOmega]
                  all_goals try go_bits
                  all_goals rfl
                · refine step_intro rfl rfl fun ρ X hc hf hgl hX hp ho => ?_
                  change StepOk _ { dst := _, op := Op.call { callee := Callee.value (Operand.func 18), args := #[Operand.tmp 69], argTypes := #[25] }, type := _, pos := _, after := _, guard := _ } _ _ _
                  have k69 : ρ (.tmp 69) = ?vpc10 := hp 10 (by decide)
                  clear hp ho
                  refine StepOk.of_call (f := 18) (args := #[?vpc10]) (w' := X) ?_ (HLg.out X hX) ?_
                  · go_simp
                    all_goals try go_bits
                    all_goals try rfl
                  · rintro e w'' ⟨rfl, rfl⟩; refine ⟨_, rfl, ?_, Below.refl _ _⟩; show _ = ?vpc11; rfl
                · refine step_intro rfl rfl fun ρ X hc hf hgl hX hp ho => ?_
                  change StepOk _ { dst := _, op := Op.binOp BinOp.neq 3 (Operand.tmp 68) (Operand.tmp 70) 3, type := _, pos := _, after := _, guard := _ } _ _ _
                  have k68 : ρ (.tmp 68) = ?vpc9 := hp 9 (by decide)
                  have k70 : ρ (.tmp 70) = ?vpc11 := hp 11 (by decide)
                  clear hp ho
                  refine StepOk.of_run (v := ?vpc12) (w' := X) ?_ ⟨rfl, Below.refl _ _⟩
                  clear hX
                  go_simp
                  all_goals try go_bits
                  all_goals try simp only [IntWalk.iteOmega]
                  all_goals try go_bits
                  all_goals rfl
                · refine step_intro rfl rfl fun ρ X hc hf hgl hX hp ho => ?_
                  change StepOk _ { dst := _, op := Op.pick (Operand.tmp 66) (Operand.const (Value.bool true)) (Operand.tmp 71), type := _, pos := _, after := _, guard := _ } _ _ _
                  have k66 : ρ (.tmp 66) = ?vpc7 := hp 7 (by decide)
                  have k71 : ρ (.tmp 71) = ?vpc12 := hp 12 (by decide)
                  clear hp ho
                  refine StepOk.of_run (v := ?vpc13) (w' := X) ?_ ⟨rfl, Below.refl _ _⟩
                  clear hX
                  go_simp
                  all_goals try go_bits
                  all_goals try simp only [IntWalk.iteOmega]
                  all_goals try go_bits
                  all_goals rfl
                · refine step_intro rfl rfl fun ρ X hc hf hgl hX hp ho => ?_
                  change StepOk _ { dst := _, op := Op.move (Operand.tmp 72), type := _, pos := _, after := _, guard := _ } _ _ _
                  have k72 : ρ (.tmp 72) = ?vpc13 := hp 13 (by decide)
                  clear hp ho
                  refine StepOk.of_run (v := ?vpc14) (w' := X) ?_ ⟨rfl, Below.refl _ _⟩
                  clear hX
                  go_simp
                  all_goals try go_bits
                  all_goals try simp only [IntWalk.iteOmega]
                  all_goals try go_bits
                  all_goals rfl
                · refine step_intro rfl rfl fun ρ X hc hf hgl hX hp ho => ?_
                  change StepOk _ { dst := _, op := Op.move (Operand.tmp 5), type := _, pos := _, after := _, guard := _ } _ _ _
                  have k5 : ρ (.tmp 5) = .pointer (some ⟨q, 0, none⟩) := ho 5 (by decide)
                  clear hp ho
                  refine StepOk.of_run (v := ?vpc15) (w' := X) ?_ ⟨rfl, Below.refl _ _⟩
                  clear hX
                  go_simp
                  all_goals try go_bits
                  all_goals try simp only [IntWalk.iteOmega]
                  all_goals try go_bits
                  all_goals rfl
                · refine step_intro rfl rfl fun ρ X hc hf hgl hX hp ho => ?_
                  change StepOk _ { dst := _, op := Op.call { callee := Callee.value (Operand.func 19), args := #[Operand.tmp 74], argTypes := #[25] }, type := _, pos := _, after := _, guard := _ } _ _ _
                  have k74 : ρ (.tmp 74) = ?vpc15 := hp 15 (by decide)
                  clear hp ho
                  refine StepOk.of_call (f := 19) (args := #[?vpc15]) (w' := X) ?_ (HFq.out X hX) ?_
                  · go_simp
                    all_goals try go_bits
                    all_goals try rfl
                  · rintro e w'' ⟨rfl, hg'⟩; refine ⟨_, rfl, ?_, hg'⟩; show _ = ?vpc16; rfl
                · refine step_intro rfl rfl fun ρ X hc hf hgl hX hp ho => ?_
                  change StepOk _ { dst := _, op := Op.move (Operand.tmp 3), type := _, pos := _, after := _, guard := _ } _ _ _
                  have k3 : ρ (.tmp 3) = .pointer (some ⟨g, 0, none⟩) := ho 3 (by decide)
                  clear hp ho
                  refine StepOk.of_run (v := ?vpc17) (w' := X) ?_ ⟨rfl, Below.refl _ _⟩
                  clear hX
                  go_simp
                  all_goals try go_bits
                  all_goals try simp only [IntWalk.iteOmega]
                  all_goals try go_bits
                  all_goals rfl
                · refine step_intro rfl rfl fun ρ X hc hf hgl hX hp ho => ?_
                  change StepOk _ { dst := _, op := Op.call { callee := Callee.value (Operand.func 19), args := #[Operand.tmp 76], argTypes := #[25] }, type := _, pos := _, after := _, guard := _ } _ _ _
                  have k76 : ρ (.tmp 76) = ?vpc17 := hp 17 (by decide)
                  clear hp ho
                  refine StepOk.of_call (f := 19) (args := #[?vpc17]) (w' := X) ?_ (HFg.out X hX) ?_
                  · go_simp
                    all_goals try go_bits
                    all_goals try rfl
                  · rintro e w'' ⟨rfl, hg'⟩; refine ⟨_, rfl, ?_, hg'⟩; show _ = ?vpc18; rfl
                · refine step_intro rfl rfl fun ρ X hc hf hgl hX hp ho => ?_
                  change StepOk _ { dst := _, op := Op.binOp BinOp.neq 3 (Operand.tmp 75) (Operand.tmp 77) 3, type := _, pos := _, after := _, guard := _ } _ _ _
                  have k75 : ρ (.tmp 75) = ?vpc16 := hp 16 (by decide)
                  have k77 : ρ (.tmp 77) = ?vpc18 := hp 18 (by decide)
                  clear hp ho
                  refine StepOk.of_run (v := ?vpc19) (w' := X) ?_ ⟨rfl, Below.refl _ _⟩
                  clear hX
                  go_simp
                  all_goals try go_bits
                  all_goals try simp only [IntWalk.iteOmega]
                  all_goals try go_bits
                  all_goals rfl
                · refine step_intro rfl rfl fun ρ X hc hf hgl hX hp ho => ?_
                  change StepOk _ { dst := _, op := Op.pick (Operand.tmp 73) (Operand.const (Value.bool true)) (Operand.tmp 78), type := _, pos := _, after := _, guard := _ } _ _ _
                  have k73 : ρ (.tmp 73) = ?vpc14 := hp 14 (by decide)
                  have k78 : ρ (.tmp 78) = ?vpc19 := hp 19 (by decide)
                  clear hp ho
                  refine StepOk.of_run (v := ?vpc20) (w' := X) ?_ ⟨rfl, Below.refl _ _⟩
                  clear hX
                  go_simp
                  all_goals try go_bits
                  all_goals try simp only [IntWalk.iteOmega]
                  all_goals try go_bits
                  all_goals rfl
                · refine step_intro rfl rfl fun ρ X hc hf hgl hX hp ho => ?_
                  change StepOk _ { dst := _, op := Op.move (Operand.tmp 79), type := _, pos := _, after := _, guard := _ } _ _ _
                  have k79 : ρ (.tmp 79) = ?vpc20 := hp 20 (by decide)
                  clear hp ho
                  refine StepOk.of_run (v := ?vpc21) (w' := X) ?_ ⟨rfl, Below.refl _ _⟩
                  clear hX
                  go_simp
                  all_goals try go_bits
                  all_goals try simp only [IntWalk.iteOmega]
                  all_goals try go_bits
                  all_goals rfl
                · refine step_intro rfl rfl fun ρ X hc hf hgl hX hp ho => ?_
                  change StepOk _ { dst := _, op := Op.move (Operand.tmp 5), type := _, pos := _, after := _, guard := _ } _ _ _
                  have k5 : ρ (.tmp 5) = .pointer (some ⟨q, 0, none⟩) := ho 5 (by decide)
                  clear hp ho
                  refine StepOk.of_run (v := ?vpc22) (w' := X) ?_ ⟨rfl, Below.refl _ _⟩
                  clear hX
                  go_simp
                  all_goals try go_bits
                  all_goals try simp only [IntWalk.iteOmega]
                  all_goals try go_bits
                  all_goals rfl
                · refine step_intro rfl rfl fun ρ X hc hf hgl hX hp ho => ?_
                  change StepOk _ { dst := _, op := Op.call { callee := Callee.value (Operand.func 22), args := #[Operand.tmp 81], argTypes := #[25] }, type := _, pos := _, after := _, guard := _ } _ _ _
                  have k81 : ρ (.tmp 81) = ?vpc22 := hp 22 (by decide)
                  clear hp ho
                  refine StepOk.of_call (f := 22) (args := #[.pointer (some ⟨q, 0, none⟩)]) (w' := X) ?_ (HBq.out X hX) ?_
                  · go_simp
                    all_goals try rfl
                  · rintro e w'' ⟨v, rfl, hb', hg'⟩; exact ⟨v, rfl, hb', hg'⟩
                · refine step_intro rfl rfl fun ρ X hc hf hgl hX hp ho => ?_
                  change StepOk _ { dst := _, op := Op.convert 30 9 (Operand.tmp 82), type := _, pos := _, after := _, guard := _ } _ _ _
                  have k82 := hp 23 (by decide)
                  clear hp ho
                  have hr := run_string (P := Try.prog) (T := 30) (e := 5) (S := 9) rfl rfl rfl k82
                  refine StepOk.of_run (v := .string ⟨(B : List UInt8).toArray⟩) (w' := X) ?_ ⟨rfl, Below.refl _ _⟩
                  simp only [execOp, Sem.run_bind, hr, Result.andThen_ok, Sem.run_pure]
                · refine step_intro rfl rfl fun ρ X hc hf hgl hX hp ho => ?_
                  change StepOk _ { dst := _, op := Op.move (Operand.tmp 3), type := _, pos := _, after := _, guard := _ } _ _ _
                  have k3 : ρ (.tmp 3) = .pointer (some ⟨g, 0, none⟩) := ho 3 (by decide)
                  clear hp ho
                  refine StepOk.of_run (v := ?vpc25) (w' := X) ?_ ⟨rfl, Below.refl _ _⟩
                  clear hX
                  go_simp
                  all_goals try go_bits
                  all_goals try simp only [IntWalk.iteOmega]
                  all_goals try go_bits
                  all_goals rfl
                · refine step_intro rfl rfl fun ρ X hc hf hgl hX hp ho => ?_
                  change StepOk _ { dst := _, op := Op.call { callee := Callee.value (Operand.func 22), args := #[Operand.tmp 84], argTypes := #[25] }, type := _, pos := _, after := _, guard := _ } _ _ _
                  have k84 : ρ (.tmp 84) = ?vpc25 := hp 25 (by decide)
                  clear hp ho
                  refine StepOk.of_call (f := 22) (args := #[.pointer (some ⟨g, 0, none⟩)]) (w' := X) ?_ (HBg.out X hX) ?_
                  · go_simp
                    all_goals try rfl
                  · rintro e w'' ⟨v, rfl, hb', hg'⟩; exact ⟨v, rfl, hb', hg'⟩
                · refine step_intro rfl rfl fun ρ X hc hf hgl hX hp ho => ?_
                  change StepOk _ { dst := _, op := Op.convert 30 9 (Operand.tmp 85), type := _, pos := _, after := _, guard := _ } _ _ _
                  have k85 := hp 26 (by decide)
                  clear hp ho
                  have hr := run_string (P := Try.prog) (T := 30) (e := 5) (S := 9) rfl rfl rfl k85
                  refine StepOk.of_run (v := .string ⟨(B : List UInt8).toArray⟩) (w' := X) ?_ ⟨rfl, Below.refl _ _⟩
                  simp only [execOp, Sem.run_bind, hr, Result.andThen_ok, Sem.run_pure]
                · refine step_intro rfl rfl fun ρ X hc hf hgl hX hp ho => ?_
                  change StepOk _ { dst := _, op := Op.binOp BinOp.neq 9 (Operand.tmp 83) (Operand.tmp 86) 9, type := _, pos := _, after := _, guard := _ } _ _ _
                  have k83 : ρ (.tmp 83) = (.string ⟨(B : List UInt8).toArray⟩) := hp 24 (by decide)
                  have k86 : ρ (.tmp 86) = (.string ⟨(B : List UInt8).toArray⟩) := hp 27 (by decide)
                  clear hp ho
                  refine StepOk.of_run (v := ?vpc28) (w' := X) ?_ ⟨rfl, Below.refl _ _⟩
                  clear hX
                  go_simp
                  all_goals try go_bits
                  all_goals try simp only [IntWalk.iteOmega]
                  all_goals try go_bits
                  all_goals rfl
                · refine step_intro rfl rfl fun ρ X hc hf hgl hX hp ho => ?_
                  change StepOk _ { dst := _, op := Op.pick (Operand.tmp 80) (Operand.const (Value.bool true)) (Operand.tmp 87), type := _, pos := _, after := _, guard := _ } _ _ _
                  have k80 : ρ (.tmp 80) = ?vpc21 := hp 21 (by decide)
                  have k87 : ρ (.tmp 87) = ?vpc28 := hp 28 (by decide)
                  clear hp ho
                  refine StepOk.of_run (v := ?vpc29) (w' := X) ?_ ⟨rfl, Below.refl _ _⟩
                  clear hX
                  go_simp
                  all_goals try go_bits
                  all_goals try simp only [IntWalk.iteOmega]
                  all_goals try go_bits
                  all_goals rfl
              case grdpc => rfl
              case rstpc =>
                intro a0 X hb
                obtain ⟨x82, hx82⟩ : ∃ x, a0.tmps.getD 82 undef = x := ⟨_, rfl⟩
                have p82 := hb.done' 23 82 rfl rfl
                rw [hx82] at p82
                obtain ⟨x85, hx85⟩ : ∃ x, a0.tmps.getD 85 undef = x := ⟨_, rfl⟩
                have p85 := hb.done' 26 85 rfl rfl
                rw [hx85] at p85
                have hfr := hb.frame ((59, ?vpc0) :: (60, ?vpc1) :: (61, ?vpc2) :: (62, ?vpc3) :: (63, ?vpc4) :: (64, ?vpc5) :: (65, ?vpc6) :: (66, ?vpc7) :: (67, ?vpc8) :: (68, ?vpc9) :: (69, ?vpc10) :: (70, ?vpc11) :: (71, ?vpc12) :: (72, ?vpc13) :: (73, ?vpc14) :: (74, ?vpc15) :: (75, ?vpc16) :: (76, ?vpc17) :: (77, ?vpc18) :: (78, ?vpc19) :: (79, ?vpc20) :: (80, ?vpc21) :: (81, ?vpc22) :: (82, x82) :: (83, (.string ⟨(B : List UInt8).toArray⟩)) :: (84, ?vpc25) :: (85, x85) :: (86, (.string ⟨(B : List UInt8).toArray⟩)) :: (87, ?vpc28) :: (88, ?vpc29) :: []) rfl ⟨hb.done' 0 59 rfl rfl, hb.done' 1 60 rfl rfl, hb.done' 2 61 rfl rfl, hb.done' 3 62 rfl rfl, hb.done' 4 63 rfl rfl, hb.done' 5 64 rfl rfl, hb.done' 6 65 rfl rfl, hb.done' 7 66 rfl rfl, hb.done' 8 67 rfl rfl, hb.done' 9 68 rfl rfl, hb.done' 10 69 rfl rfl, hb.done' 11 70 rfl rfl, hb.done' 12 71 rfl rfl, hb.done' 13 72 rfl rfl, hb.done' 14 73 rfl rfl, hb.done' 15 74 rfl rfl, hb.done' 16 75 rfl rfl, hb.done' 17 76 rfl rfl, hb.done' 18 77 rfl rfl, hb.done' 19 78 rfl rfl, hb.done' 20 79 rfl rfl, hb.done' 21 80 rfl rfl, hb.done' 22 81 rfl rfl, hx82, hb.done' 24 83 rfl rfl, hb.done' 25 84 rfl rfl, hx85, hb.done' 27 86 rfl rfl, hb.done' 28 87 rfl rfl, hb.done' 29 88 rfl rfl, trivial⟩
                simp only [updL, ↓reduceIte, Nat.reduceEqDiff, Nat.reduceAdd, Nat.zero_add] at hfr
                have HX := Lib.hid hb.ext
                clear hb
                subst hfr
                have HgA := HX
                go_wp2
                go_loopw [7] (fun t7 wq => ∃ j : Nat, j ≤ n ∧ t7 = .int .i64 j ∧ Hid (Grows w6 wq)) (fun t7 _ => n - (intOf t7).toNat)
                case atStart => exact ⟨0, by omega, rfl, HgA⟩
                case round =>
                  obtain ⟨j, hj, rfl, Hgj⟩ := hrel
                  have HLx := Lib.hid (HLg.out _ Hgj.out)
                  by_cases hjl : j < n
                  · have hjl' : (j : Int) < (n : Int) := by omega
                    obtain ⟨c, Hcc⟩ : ∃ c, Hid ((cl A4.l j).p = c) := ⟨_, rfl⟩
                    have HCg : Hid (∀ X, Grows wr X → Calls Try.prog 20 #[pb g, .int .i64 (j : Int)] X fun e w' => ∃ v, e = .returned v ∧ Byt w' v c ∧ Grows X w') := Lib.hid (fun X hX => hCellB (Hh6.out.grows (Grows.trans' Hgj.out hX)) j (by rw [Hn.out]; exact hjl) c Hcc.out)
                    have HCq : Hid (∀ X, Grows wr X → Calls Try.prog 20 #[pb q, .int .i64 (j : Int)] X fun e w' => ∃ v, e = .returned v ∧ Byt w' v c ∧ Grows X w') := Lib.hid (fun X hX => hCellB (Hp6.out.grows (Grows.trans' Hgj.out hX)) j (by rw [norm_len, Hn.out]; exact hjl) c (by rw [norm_p A4 j (by rw [Hn.out]; exact hjl)]; exact Hcc.out))
                    unfold pb at HCg HCq
                    go_wp2_with (go_at_call 18; refine HLx.out.mono ?_; rintro e w7 ⟨rfl, rfl⟩)
                    refine specs_region
                      #[[], [], [0, 1], [0, 1, 2], [], [], [0, 1, 2, 4, 5], [0, 1, 2, 4, 5, 6], [0, 1, 2, 3, 4, 5, 6, 7]] #[[5], [7], [], [], [3], [7], [], [], []] #[true, true, true, true, true, true, true, true, true]
                      ((.val ?vpd0) :: (.val ?vpd1) :: (.byt (c)) :: (.val (.string ⟨(c : List UInt8).toArray⟩)) :: (.val ?vpd4) :: (.val ?vpd5) :: (.byt (c)) :: (.val (.string ⟨(c : List UInt8).toArray⟩)) :: (.val ?vpd8) :: []).toArray
                      hmx ?chkpd ?grdpd ?stppd ?rstpd
                    case chkpd => rfl
                    case stppd =>
                      refine ⟨?_, ?_, ?_, ?_, ?_, ?_, ?_, ?_, ?_, trivial⟩
                      · refine step_intro rfl rfl fun ρ X hc hf hgl hX hp ho => ?_
                        change StepOk _ { dst := _, op := Op.move (Operand.tmp 5), type := _, pos := _, after := _, guard := _ } _ _ _
                        have k5 : ρ (.tmp 5) = .pointer (some ⟨q, 0, none⟩) := ho 5 (by decide)
                        clear hp ho
                        refine StepOk.of_run (v := ?vpd0) (w' := X) ?_ ⟨rfl, Below.refl _ _⟩
                        clear hX
                        go_simp
                        all_goals try go_bits
                        all_goals try simp only [IntWalk.iteOmega]
                        all_goals try go_bits
                        all_goals rfl
                      · refine step_intro rfl rfl fun ρ X hc hf hgl hX hp ho => ?_
                        change StepOk _ { dst := _, op := Op.move (Operand.tmp 7), type := _, pos := _, after := _, guard := _ } _ _ _
                        have k7 : ρ (.tmp 7) = .int .i64 (j : Int) := ho 7 (by decide)
                        clear hp ho
                        refine StepOk.of_run (v := ?vpd1) (w' := X) ?_ ⟨rfl, Below.refl _ _⟩
                        clear hX
                        go_simp
                        all_goals try go_bits
                        all_goals try simp only [IntWalk.iteOmega]
                        all_goals try go_bits
                        all_goals rfl
                      · refine step_intro rfl rfl fun ρ X hc hf hgl hX hp ho => ?_
                        change StepOk _ { dst := _, op := Op.call { callee := Callee.value (Operand.func 20), args := #[Operand.tmp 95, Operand.tmp 96], argTypes := #[25, 3] }, type := _, pos := _, after := _, guard := _ } _ _ _
                        have k95 : ρ (.tmp 95) = ?vpd0 := hp 0 (by decide)
                        have k96 : ρ (.tmp 96) = ?vpd1 := hp 1 (by decide)
                        clear hp ho
                        refine StepOk.of_call (f := 20) (args := #[.pointer (some ⟨q, 0, none⟩), .int .i64 (j : Int)]) (w' := X) ?_ (HCq.out X hX) ?_
                        · go_simp
                          all_goals try rfl
                        · rintro e w'' ⟨v, rfl, hb', hg'⟩; exact ⟨v, rfl, hb', hg'⟩
                      · refine step_intro rfl rfl fun ρ X hc hf hgl hX hp ho => ?_
                        change StepOk _ { dst := _, op := Op.convert 30 9 (Operand.tmp 97), type := _, pos := _, after := _, guard := _ } _ _ _
                        have k97 := hp 2 (by decide)
                        clear hp ho
                        have hr := run_string (P := Try.prog) (T := 30) (e := 5) (S := 9) rfl rfl rfl k97
                        refine StepOk.of_run (v := .string ⟨(c : List UInt8).toArray⟩) (w' := X) ?_ ⟨rfl, Below.refl _ _⟩
                        simp only [execOp, Sem.run_bind, hr, Result.andThen_ok, Sem.run_pure]
                      · refine step_intro rfl rfl fun ρ X hc hf hgl hX hp ho => ?_
                        change StepOk _ { dst := _, op := Op.move (Operand.tmp 3), type := _, pos := _, after := _, guard := _ } _ _ _
                        have k3 : ρ (.tmp 3) = .pointer (some ⟨g, 0, none⟩) := ho 3 (by decide)
                        clear hp ho
                        refine StepOk.of_run (v := ?vpd4) (w' := X) ?_ ⟨rfl, Below.refl _ _⟩
                        clear hX
                        go_simp
                        all_goals try go_bits
                        all_goals try simp only [IntWalk.iteOmega]
                        all_goals try go_bits
                        all_goals rfl
                      · refine step_intro rfl rfl fun ρ X hc hf hgl hX hp ho => ?_
                        change StepOk _ { dst := _, op := Op.move (Operand.tmp 7), type := _, pos := _, after := _, guard := _ } _ _ _
                        have k7 : ρ (.tmp 7) = .int .i64 (j : Int) := ho 7 (by decide)
                        clear hp ho
                        refine StepOk.of_run (v := ?vpd5) (w' := X) ?_ ⟨rfl, Below.refl _ _⟩
                        clear hX
                        go_simp
                        all_goals try go_bits
                        all_goals try simp only [IntWalk.iteOmega]
                        all_goals try go_bits
                        all_goals rfl
                      · refine step_intro rfl rfl fun ρ X hc hf hgl hX hp ho => ?_
                        change StepOk _ { dst := _, op := Op.call { callee := Callee.value (Operand.func 20), args := #[Operand.tmp 99, Operand.tmp 100], argTypes := #[25, 3] }, type := _, pos := _, after := _, guard := _ } _ _ _
                        have k99 : ρ (.tmp 99) = ?vpd4 := hp 4 (by decide)
                        have k100 : ρ (.tmp 100) = ?vpd5 := hp 5 (by decide)
                        clear hp ho
                        refine StepOk.of_call (f := 20) (args := #[.pointer (some ⟨g, 0, none⟩), .int .i64 (j : Int)]) (w' := X) ?_ (HCg.out X hX) ?_
                        · go_simp
                          all_goals try rfl
                        · rintro e w'' ⟨v, rfl, hb', hg'⟩; exact ⟨v, rfl, hb', hg'⟩
                      · refine step_intro rfl rfl fun ρ X hc hf hgl hX hp ho => ?_
                        change StepOk _ { dst := _, op := Op.convert 30 9 (Operand.tmp 101), type := _, pos := _, after := _, guard := _ } _ _ _
                        have k101 := hp 6 (by decide)
                        clear hp ho
                        have hr := run_string (P := Try.prog) (T := 30) (e := 5) (S := 9) rfl rfl rfl k101
                        refine StepOk.of_run (v := .string ⟨(c : List UInt8).toArray⟩) (w' := X) ?_ ⟨rfl, Below.refl _ _⟩
                        simp only [execOp, Sem.run_bind, hr, Result.andThen_ok, Sem.run_pure]
                      · refine step_intro rfl rfl fun ρ X hc hf hgl hX hp ho => ?_
                        change StepOk _ { dst := _, op := Op.binOp BinOp.neq 9 (Operand.tmp 98) (Operand.tmp 102) 9, type := _, pos := _, after := _, guard := _ } _ _ _
                        have k98 : ρ (.tmp 98) = (.string ⟨(c : List UInt8).toArray⟩) := hp 3 (by decide)
                        have k102 : ρ (.tmp 102) = (.string ⟨(c : List UInt8).toArray⟩) := hp 7 (by decide)
                        clear hp ho
                        refine StepOk.of_run (v := ?vpd8) (w' := X) ?_ ⟨rfl, Below.refl _ _⟩
                        clear hX
                        go_simp
                        all_goals try go_bits
                        all_goals try simp only [IntWalk.iteOmega]
                        all_goals try go_bits
                        all_goals rfl
                    case grdpd => rfl
                    case rstpd =>
                      intro a0 X hb
                      obtain ⟨x97, hx97⟩ : ∃ x, a0.tmps.getD 97 undef = x := ⟨_, rfl⟩
                      have p97 := hb.done' 2 97 rfl rfl
                      rw [hx97] at p97
                      obtain ⟨x101, hx101⟩ : ∃ x, a0.tmps.getD 101 undef = x := ⟨_, rfl⟩
                      have p101 := hb.done' 6 101 rfl rfl
                      rw [hx101] at p101
                      have hfr := hb.frame ((95, ?vpd0) :: (96, ?vpd1) :: (97, x97) :: (98, (.string ⟨(c : List UInt8).toArray⟩)) :: (99, ?vpd4) :: (100, ?vpd5) :: (101, x101) :: (102, (.string ⟨(c : List UInt8).toArray⟩)) :: (103, ?vpd8) :: []) rfl ⟨hb.done' 0 95 rfl rfl, hb.done' 1 96 rfl rfl, hx97, hb.done' 3 98 rfl rfl, hb.done' 4 99 rfl rfl, hb.done' 5 100 rfl rfl, hx101, hb.done' 7 102 rfl rfl, hb.done' 8 103 rfl rfl, trivial⟩
                      simp only [updL, ↓reduceIte, Nat.reduceEqDiff, Nat.reduceAdd, Nat.zero_add] at hfr
                      have HX := Lib.hid hb.ext
                      clear hb
                      subst hfr
                      have HgX := Lib.hid (Grows.trans' Hgj.out HX.out)
                      go_wp2
                      go_roundw
                      case rel => exact ⟨j + 1, by omega, by simp, HgX⟩
                      case measure => simp [intOf]; omega
                  · have hjl' : ¬ (j : Int) < (n : Int) := by omega
                    go_wp2_with (go_at_call 18; refine HLx.out.mono ?_; rintro e w7 ⟨rfl, rfl⟩)
                    go_roundw
                    case rel => exact ⟨k + 1, _, _, by omega, by simp, Lib.hid (Hh6.out.grows Hgj.out), Lib.hid (Grows.trans' Hg6.out Hgj.out)⟩
                    case measure => simp [intOf]; omega
        · by_cases h1 : kd = 1
          · subst h1
            have HDl := Lib.hid (hDelete Hh.out i)
            unfold pb at HDl
            go_wp2_with (go_at_call 15; refine HDl.out.mono ?_; rintro e w4 ⟨rfl, ⟨f4, hh4⟩, hu4⟩; have Hh4 := Lib.hid hh4; have Hg4 := Lib.hid (but_new Hgr.out hu4 (by rw [Hg.out]; exact Nat.le_refl _)); clear hh4 hu4; obtain ⟨A4, HA4⟩ : ∃ A4, Hid (delS A i = A4) := ⟨_, rfl⟩; rw [HA4.out] at Hh4; have HBy := Lib.hid (hBytes Hh4.out); unfold pb at HBy)
            refine HBy.out.mono ?_
            rintro e w5 ⟨v5, rfl, hb5, hg5⟩
            have Hh5 := Lib.hid (Hh4.out.grows hg5)
            have Hg5 := Lib.hid (Grows.trans' Hg4.out hg5)
            have HPs := Lib.hid (hParse w5 v5 _ _ hb5 (enc_bytes Hh4.out.wf) (wf_norm Hh4.out.wf) (low_norm Hh4.out.wf))
            clear hb5 hg5
            go_wp2_with fail
            refine HPs.out.mono ?_
            rintro e w6 ⟨q, rfl, hp6, _, hg6⟩
            have Hp6 := Lib.hid hp6
            have Hh6 := Lib.hid (Hh5.out.grows hg6)
            have Hg6 := Lib.hid (Grows.trans' Hg5.out hg6)
            clear hp6 hg6
            unfold pb
            obtain ⟨n, Hn⟩ : ∃ n, Hid (A4.l.length = n) := ⟨_, rfl⟩
            obtain ⟨r, Hr⟩ : ∃ r, Hid (freeA A4 = r) := ⟨_, rfl⟩
            obtain ⟨B, HB⟩ : ∃ B, Hid (rowOf (bytesA A4) 243 = B) := ⟨_, rfl⟩
            have hn120 : n ≤ 120 := by rw [← Hn.out]; exact Hh6.out.wf.ntop.1
            have HLg : Hid (∀ X, Grows w6 X → Calls Try.prog 18 #[pb g] X fun e w' => e = .returned (.int .i64 (n : Int)) ∧ X = w') := Lib.hid (fun X hX => by rw [← Hn.out]; exact hLen (Hh6.out.grows hX))
            have HLq : Hid (∀ X, Grows w6 X → Calls Try.prog 18 #[pb q] X fun e w' => e = .returned (.int .i64 (n : Int)) ∧ X = w') := Lib.hid (fun X hX => by have := hLen (Hp6.out.grows hX); rw [show (normA A4).l.length = n by rw [← Hn.out]; exact normL_length _ _] at this; exact this)
            have HFg : Hid (∀ X, Grows w6 X → Calls Try.prog 19 #[pb g] X fun e w' => e = .returned (.int .i64 (r : Int)) ∧ Grows X w') := Lib.hid (fun X hX => by rw [← Hr.out]; exact hFree (Hh6.out.grows hX))
            have HFq : Hid (∀ X, Grows w6 X → Calls Try.prog 19 #[pb q] X fun e w' => e = .returned (.int .i64 (r : Int)) ∧ Grows X w') := Lib.hid (fun X hX => by rw [← Hr.out, ← free_norm A4]; exact hFree (Hp6.out.grows hX))
            have HBg : Hid (∀ X, Grows w6 X → Calls Try.prog 22 #[pb g] X fun e w' => ∃ v, e = .returned v ∧ Byt w' v B ∧ Grows X w') := Lib.hid (fun X hX => by rw [← HB.out]; exact hBytes (Hh6.out.grows hX))
            have HBq : Hid (∀ X, Grows w6 X → Calls Try.prog 22 #[pb q] X fun e w' => ∃ v, e = .returned v ∧ Byt w' v B ∧ Grows X w') := Lib.hid (fun X hX => by rw [← HB.out, ← bytes_norm A4]; exact hBytes (Hp6.out.grows hX))
            unfold pb at HLg HLq HFg HFq HBg HBq
            clear HPs HBy
            go_wp2
            refine specs_region
              #[[], [0], [0, 1], [0, 1, 2], [0, 1, 2, 3], [0, 1, 2, 3, 4], [0, 1, 2, 3, 4, 5], [0, 1, 2, 3, 4, 5, 6], [0, 1, 2, 3, 4, 5, 6, 7], [0, 1, 2, 3, 4, 5, 6, 7, 8], [0, 1, 2, 3, 4, 5, 6, 7], [0, 1, 2, 3, 4, 5, 6, 7, 8, 9, 10], [0, 1, 2, 3, 4, 5, 6, 7, 8, 9, 10, 11], [0, 1, 2, 3, 4, 5, 6, 7, 8, 9, 10, 11, 12], [0, 1, 2, 3, 4, 5, 6, 7, 8, 9, 10, 11, 12, 13], [0, 1, 2, 3, 4, 5, 6, 7, 8, 9, 10, 11, 12, 13, 14], [0, 1, 2, 3, 4, 5, 6, 7, 8, 9, 10, 11, 12, 13, 14, 15], [0, 1, 2, 3, 4, 5, 6, 7, 8, 9, 10, 11, 12, 13, 14], [0, 1, 2, 3, 4, 5, 6, 7, 8, 9, 10, 11, 12, 13, 14, 15, 16, 17], [0, 1, 2, 3, 4, 5, 6, 7, 8, 9, 10, 11, 12, 13, 14, 15, 16, 17, 18], [0, 1, 2, 3, 4, 5, 6, 7, 8, 9, 10, 11, 12, 13, 14, 15, 16, 17, 18, 19], [0, 1, 2, 3, 4, 5, 6, 7, 8, 9, 10, 11, 12, 13, 14, 15, 16, 17, 18, 19, 20], [0, 1, 2, 3, 4, 5, 6, 7, 8, 9, 10, 11, 12, 13, 14, 15, 16, 17, 18, 19, 20, 21], [0, 1, 2, 3, 4, 5, 6, 7, 8, 9, 10, 11, 12, 13, 14, 15, 16, 17, 18, 19, 20, 21, 22], [0, 1, 2, 3, 4, 5, 6, 7, 8, 9, 10, 11, 12, 13, 14, 15, 16, 17, 18, 19, 20, 21, 22, 23], [0, 1, 2, 3, 4, 5, 6, 7, 8, 9, 10, 11, 12, 13, 14, 15, 16, 17, 18, 19, 20, 21], [0, 1, 2, 3, 4, 5, 6, 7, 8, 9, 10, 11, 12, 13, 14, 15, 16, 17, 18, 19, 20, 21, 22, 23, 25], [0, 1, 2, 3, 4, 5, 6, 7, 8, 9, 10, 11, 12, 13, 14, 15, 16, 17, 18, 19, 20, 21, 22, 23, 25, 26], [0, 1, 2, 3, 4, 5, 6, 7, 8, 9, 10, 11, 12, 13, 14, 15, 16, 17, 18, 19, 20, 21, 22, 23, 24, 25, 26, 27], [0, 1, 2, 3, 4, 5, 6, 7, 8, 9, 10, 11, 12, 13, 14, 15, 16, 17, 18, 19, 20, 21, 22, 23, 24, 25, 26, 27, 28]] #[[6], [], [], [], [5], [], [], [], [5], [], [3], [], [], [], [], [5], [], [3], [], [], [], [], [5], [], [], [3], [], [], [], []] #[true, true, true, true, true, true, true, true, true, true, true, true, true, true, true, true, true, true, true, true, true, true, true, true, true, true, true, true, true, true]
              ((.val ?vqc0) :: (.val ?vqc1) :: (.val ?vqc2) :: (.val ?vqc3) :: (.val ?vqc4) :: (.val ?vqc5) :: (.val ?vqc6) :: (.val ?vqc7) :: (.val ?vqc8) :: (.val ?vqc9) :: (.val ?vqc10) :: (.val ?vqc11) :: (.val ?vqc12) :: (.val ?vqc13) :: (.val ?vqc14) :: (.val ?vqc15) :: (.val ?vqc16) :: (.val ?vqc17) :: (.val ?vqc18) :: (.val ?vqc19) :: (.val ?vqc20) :: (.val ?vqc21) :: (.val ?vqc22) :: (.byt (B)) :: (.val (.string ⟨(B : List UInt8).toArray⟩)) :: (.val ?vqc25) :: (.byt (B)) :: (.val (.string ⟨(B : List UInt8).toArray⟩)) :: (.val ?vqc28) :: (.val ?vqc29) :: []).toArray
              hmx ?chkqc ?grdqc ?stpqc ?rstqc
            case chkqc => rfl
            case stpqc =>
              refine ⟨?_, ?_, ?_, ?_, ?_, ?_, ?_, ?_, ?_, ?_, ?_, ?_, ?_, ?_, ?_, ?_, ?_, ?_, ?_, ?_, ?_, ?_, ?_, ?_, ?_, ?_, ?_, ?_, ?_, ?_, trivial⟩
              · refine step_intro rfl rfl fun ρ X hc hf hgl hX hp ho => ?_
                change StepOk _ { dst := _, op := Op.move (Operand.tmp 6), type := _, pos := _, after := _, guard := _ } _ _ _
                have k6 : ρ (.tmp 6) = .int .i64 0 := ho 6 (by decide)
                clear hp ho
                refine StepOk.of_run (v := ?vqc0) (w' := X) ?_ ⟨rfl, Below.refl _ _⟩
                clear hX
                go_simp
                all_goals try go_bits
                all_goals try simp only [IntWalk.iteOmega]
                all_goals try go_bits
                all_goals rfl
              · refine step_intro rfl rfl fun ρ X hc hf hgl hX hp ho => ?_
                change StepOk _ { dst := _, op := Op.call { callee := Callee.value (Operand.func 13), args := #[Operand.tmp 59], argTypes := #[36] }, type := _, pos := _, after := _, guard := _ } _ _ _
                have k59 : ρ (.tmp 59) = ?vqc0 := hp 0 (by decide)
                clear hp ho
                refine StepOk.of_call (f := 13) (args := #[?vqc0]) (w' := X) ?_ (vNum _ X) ?_
                · go_simp
                  all_goals try go_bits
                  all_goals try rfl
                · rintro e w'' ⟨rfl, rfl⟩; refine ⟨_, rfl, ?_, Below.refl _ _⟩; show _ = ?vqc1; rfl
              · refine step_intro rfl rfl fun ρ X hc hf hgl hX hp ho => ?_
                change StepOk _ { dst := _, op := Op.binOp BinOp.neq 3 (Operand.tmp 60) (Operand.const (Value.int IntKind.i64 0)) 3, type := _, pos := _, after := _, guard := _ } _ _ _
                have k60 : ρ (.tmp 60) = ?vqc1 := hp 1 (by decide)
                clear hp ho
                refine StepOk.of_run (v := ?vqc2) (w' := X) ?_ ⟨rfl, Below.refl _ _⟩
                clear hX
                go_simp
                all_goals try go_bits
                all_goals try simp only [IntWalk.iteOmega]
                all_goals try go_bits
                all_goals rfl
              · refine step_intro rfl rfl fun ρ X hc hf hgl hX hp ho => ?_
                change StepOk _ { dst := _, op := Op.move (Operand.tmp 61), type := _, pos := _, after := _, guard := _ } _ _ _
                have k61 : ρ (.tmp 61) = ?vqc2 := hp 2 (by decide)
                clear hp ho
                refine StepOk.of_run (v := ?vqc3) (w' := X) ?_ ⟨rfl, Below.refl _ _⟩
                clear hX
                go_simp
                all_goals try go_bits
                all_goals try simp only [IntWalk.iteOmega]
                all_goals try go_bits
                all_goals rfl
              · refine step_intro rfl rfl fun ρ X hc hf hgl hX hp ho => ?_
                change StepOk _ { dst := _, op := Op.move (Operand.tmp 5), type := _, pos := _, after := _, guard := _ } _ _ _
                have k5 : ρ (.tmp 5) = .pointer (some ⟨q, 0, none⟩) := ho 5 (by decide)
                clear hp ho
                refine StepOk.of_run (v := ?vqc4) (w' := X) ?_ ⟨rfl, Below.refl _ _⟩
                clear hX
                go_simp
                all_goals try go_bits
                all_goals try simp only [IntWalk.iteOmega]
                all_goals try go_bits
                all_goals rfl
              · refine step_intro rfl rfl fun ρ X hc hf hgl hX hp ho => ?_
                change StepOk _ { dst := _, op := Op.binOp BinOp.eql 25 (Operand.tmp 63) (Operand.const (Value.pointer none)) 25, type := _, pos := _, after := _, guard := _ } _ _ _
                have k63 : ρ (.tmp 63) = ?vqc4 := hp 4 (by decide)
                clear hp ho
                refine StepOk.of_run (v := ?vqc5) (w' := X) ?_ ⟨rfl, Below.refl _ _⟩
                clear hX
                go_simp
                all_goals try go_bits
                all_goals try simp only [IntWalk.iteOmega]
                all_goals try go_bits
                all_goals rfl
              · refine step_intro rfl rfl fun ρ X hc hf hgl hX hp ho => ?_
                change StepOk _ { dst := _, op := Op.pick (Operand.tmp 62) (Operand.const (Value.bool true)) (Operand.tmp 64), type := _, pos := _, after := _, guard := _ } _ _ _
                have k62 : ρ (.tmp 62) = ?vqc3 := hp 3 (by decide)
                have k64 : ρ (.tmp 64) = ?vqc5 := hp 5 (by decide)
                clear hp ho
                refine StepOk.of_run (v := ?vqc6) (w' := X) ?_ ⟨rfl, Below.refl _ _⟩
                clear hX
                go_simp
                all_goals try go_bits
                all_goals try simp only [IntWalk.iteOmega]
                all_goals try go_bits
                all_goals rfl
              · refine step_intro rfl rfl fun ρ X hc hf hgl hX hp ho => ?_
                change StepOk _ { dst := _, op := Op.move (Operand.tmp 65), type := _, pos := _, after := _, guard := _ } _ _ _
                have k65 : ρ (.tmp 65) = ?vqc6 := hp 6 (by decide)
                clear hp ho
                refine StepOk.of_run (v := ?vqc7) (w' := X) ?_ ⟨rfl, Below.refl _ _⟩
                clear hX
                go_simp
                all_goals try go_bits
                all_goals try simp only [IntWalk.iteOmega]
                all_goals try go_bits
                all_goals rfl
              · refine step_intro rfl rfl fun ρ X hc hf hgl hX hp ho => ?_
                change StepOk _ { dst := _, op := Op.move (Operand.tmp 5), type := _, pos := _, after := _, guard := _ } _ _ _
                have k5 : ρ (.tmp 5) = .pointer (some ⟨q, 0, none⟩) := ho 5 (by decide)
                clear hp ho
                refine StepOk.of_run (v := ?vqc8) (w' := X) ?_ ⟨rfl, Below.refl _ _⟩
                clear hX
                go_simp
                all_goals try go_bits
                all_goals try simp only [IntWalk.iteOmega]
                all_goals try go_bits
                all_goals rfl
              · refine step_intro rfl rfl fun ρ X hc hf hgl hX hp ho => ?_
                change StepOk _ { dst := _, op := Op.call { callee := Callee.value (Operand.func 18), args := #[Operand.tmp 67], argTypes := #[25] }, type := _, pos := _, after := _, guard := _ } _ _ _
                have k67 : ρ (.tmp 67) = ?vqc8 := hp 8 (by decide)
                clear hp ho
                refine StepOk.of_call (f := 18) (args := #[?vqc8]) (w' := X) ?_ (HLq.out X hX) ?_
                · go_simp
                  all_goals try go_bits
                  all_goals try rfl
                · rintro e w'' ⟨rfl, rfl⟩; refine ⟨_, rfl, ?_, Below.refl _ _⟩; show _ = ?vqc9; rfl
              · refine step_intro rfl rfl fun ρ X hc hf hgl hX hp ho => ?_
                change StepOk _ { dst := _, op := Op.move (Operand.tmp 3), type := _, pos := _, after := _, guard := _ } _ _ _
                have k3 : ρ (.tmp 3) = .pointer (some ⟨g, 0, none⟩) := ho 3 (by decide)
                clear hp ho
                refine StepOk.of_run (v := ?vqc10) (w' := X) ?_ ⟨rfl, Below.refl _ _⟩
                clear hX
                go_simp
                all_goals try go_bits
                all_goals try simp only [IntWalk.iteOmega]
                all_goals try go_bits
                all_goals rfl
              · refine step_intro rfl rfl fun ρ X hc hf hgl hX hp ho => ?_
                change StepOk _ { dst := _, op := Op.call { callee := Callee.value (Operand.func 18), args := #[Operand.tmp 69], argTypes := #[25] }, type := _, pos := _, after := _, guard := _ } _ _ _
                have k69 : ρ (.tmp 69) = ?vqc10 := hp 10 (by decide)
                clear hp ho
                refine StepOk.of_call (f := 18) (args := #[?vqc10]) (w' := X) ?_ (HLg.out X hX) ?_
                · go_simp
                  all_goals try go_bits
                  all_goals try rfl
                · rintro e w'' ⟨rfl, rfl⟩; refine ⟨_, rfl, ?_, Below.refl _ _⟩; show _ = ?vqc11; rfl
              · refine step_intro rfl rfl fun ρ X hc hf hgl hX hp ho => ?_
                change StepOk _ { dst := _, op := Op.binOp BinOp.neq 3 (Operand.tmp 68) (Operand.tmp 70) 3, type := _, pos := _, after := _, guard := _ } _ _ _
                have k68 : ρ (.tmp 68) = ?vqc9 := hp 9 (by decide)
                have k70 : ρ (.tmp 70) = ?vqc11 := hp 11 (by decide)
                clear hp ho
                refine StepOk.of_run (v := ?vqc12) (w' := X) ?_ ⟨rfl, Below.refl _ _⟩
                clear hX
                go_simp
                all_goals try go_bits
                all_goals try simp only [IntWalk.iteOmega]
                all_goals try go_bits
                all_goals rfl
              · refine step_intro rfl rfl fun ρ X hc hf hgl hX hp ho => ?_
                change StepOk _ { dst := _, op := Op.pick (Operand.tmp 66) (Operand.const (Value.bool true)) (Operand.tmp 71), type := _, pos := _, after := _, guard := _ } _ _ _
                have k66 : ρ (.tmp 66) = ?vqc7 := hp 7 (by decide)
                have k71 : ρ (.tmp 71) = ?vqc12 := hp 12 (by decide)
                clear hp ho
                refine StepOk.of_run (v := ?vqc13) (w' := X) ?_ ⟨rfl, Below.refl _ _⟩
                clear hX
                go_simp
                all_goals try go_bits
                all_goals try simp only [IntWalk.iteOmega]
                all_goals try go_bits
                all_goals rfl
              · refine step_intro rfl rfl fun ρ X hc hf hgl hX hp ho => ?_
                change StepOk _ { dst := _, op := Op.move (Operand.tmp 72), type := _, pos := _, after := _, guard := _ } _ _ _
                have k72 : ρ (.tmp 72) = ?vqc13 := hp 13 (by decide)
                clear hp ho
                refine StepOk.of_run (v := ?vqc14) (w' := X) ?_ ⟨rfl, Below.refl _ _⟩
                clear hX
                go_simp
                all_goals try go_bits
                all_goals try simp only [IntWalk.iteOmega]
                all_goals try go_bits
                all_goals rfl
              · refine step_intro rfl rfl fun ρ X hc hf hgl hX hp ho => ?_
                change StepOk _ { dst := _, op := Op.move (Operand.tmp 5), type := _, pos := _, after := _, guard := _ } _ _ _
                have k5 : ρ (.tmp 5) = .pointer (some ⟨q, 0, none⟩) := ho 5 (by decide)
                clear hp ho
                refine StepOk.of_run (v := ?vqc15) (w' := X) ?_ ⟨rfl, Below.refl _ _⟩
                clear hX
                go_simp
                all_goals try go_bits
                all_goals try simp only [IntWalk.iteOmega]
                all_goals try go_bits
                all_goals rfl
              · refine step_intro rfl rfl fun ρ X hc hf hgl hX hp ho => ?_
                change StepOk _ { dst := _, op := Op.call { callee := Callee.value (Operand.func 19), args := #[Operand.tmp 74], argTypes := #[25] }, type := _, pos := _, after := _, guard := _ } _ _ _
                have k74 : ρ (.tmp 74) = ?vqc15 := hp 15 (by decide)
                clear hp ho
                refine StepOk.of_call (f := 19) (args := #[?vqc15]) (w' := X) ?_ (HFq.out X hX) ?_
                · go_simp
                  all_goals try go_bits
                  all_goals try rfl
                · rintro e w'' ⟨rfl, hg'⟩; refine ⟨_, rfl, ?_, hg'⟩; show _ = ?vqc16; rfl
              · refine step_intro rfl rfl fun ρ X hc hf hgl hX hp ho => ?_
                change StepOk _ { dst := _, op := Op.move (Operand.tmp 3), type := _, pos := _, after := _, guard := _ } _ _ _
                have k3 : ρ (.tmp 3) = .pointer (some ⟨g, 0, none⟩) := ho 3 (by decide)
                clear hp ho
                refine StepOk.of_run (v := ?vqc17) (w' := X) ?_ ⟨rfl, Below.refl _ _⟩
                clear hX
                go_simp
                all_goals try go_bits
                all_goals try simp only [IntWalk.iteOmega]
                all_goals try go_bits
                all_goals rfl
              · refine step_intro rfl rfl fun ρ X hc hf hgl hX hp ho => ?_
                change StepOk _ { dst := _, op := Op.call { callee := Callee.value (Operand.func 19), args := #[Operand.tmp 76], argTypes := #[25] }, type := _, pos := _, after := _, guard := _ } _ _ _
                have k76 : ρ (.tmp 76) = ?vqc17 := hp 17 (by decide)
                clear hp ho
                refine StepOk.of_call (f := 19) (args := #[?vqc17]) (w' := X) ?_ (HFg.out X hX) ?_
                · go_simp
                  all_goals try go_bits
                  all_goals try rfl
                · rintro e w'' ⟨rfl, hg'⟩; refine ⟨_, rfl, ?_, hg'⟩; show _ = ?vqc18; rfl
              · refine step_intro rfl rfl fun ρ X hc hf hgl hX hp ho => ?_
                change StepOk _ { dst := _, op := Op.binOp BinOp.neq 3 (Operand.tmp 75) (Operand.tmp 77) 3, type := _, pos := _, after := _, guard := _ } _ _ _
                have k75 : ρ (.tmp 75) = ?vqc16 := hp 16 (by decide)
                have k77 : ρ (.tmp 77) = ?vqc18 := hp 18 (by decide)
                clear hp ho
                refine StepOk.of_run (v := ?vqc19) (w' := X) ?_ ⟨rfl, Below.refl _ _⟩
                clear hX
                go_simp
                all_goals try go_bits
                all_goals try simp only [IntWalk.iteOmega]
                all_goals try go_bits
                all_goals rfl
              · refine step_intro rfl rfl fun ρ X hc hf hgl hX hp ho => ?_
                change StepOk _ { dst := _, op := Op.pick (Operand.tmp 73) (Operand.const (Value.bool true)) (Operand.tmp 78), type := _, pos := _, after := _, guard := _ } _ _ _
                have k73 : ρ (.tmp 73) = ?vqc14 := hp 14 (by decide)
                have k78 : ρ (.tmp 78) = ?vqc19 := hp 19 (by decide)
                clear hp ho
                refine StepOk.of_run (v := ?vqc20) (w' := X) ?_ ⟨rfl, Below.refl _ _⟩
                clear hX
                go_simp
                all_goals try go_bits
                all_goals try simp only [IntWalk.iteOmega]
                all_goals try go_bits
                all_goals rfl
              · refine step_intro rfl rfl fun ρ X hc hf hgl hX hp ho => ?_
                change StepOk _ { dst := _, op := Op.move (Operand.tmp 79), type := _, pos := _, after := _, guard := _ } _ _ _
                have k79 : ρ (.tmp 79) = ?vqc20 := hp 20 (by decide)
                clear hp ho
                refine StepOk.of_run (v := ?vqc21) (w' := X) ?_ ⟨rfl, Below.refl _ _⟩
                clear hX
                go_simp
                all_goals try go_bits
                all_goals try simp only [IntWalk.iteOmega]
                all_goals try go_bits
                all_goals rfl
              · refine step_intro rfl rfl fun ρ X hc hf hgl hX hp ho => ?_
                change StepOk _ { dst := _, op := Op.move (Operand.tmp 5), type := _, pos := _, after := _, guard := _ } _ _ _
                have k5 : ρ (.tmp 5) = .pointer (some ⟨q, 0, none⟩) := ho 5 (by decide)
                clear hp ho
                refine StepOk.of_run (v := ?vqc22) (w' := X) ?_ ⟨rfl, Below.refl _ _⟩
                clear hX
                go_simp
                all_goals try go_bits
                all_goals try simp only [IntWalk.iteOmega]
                all_goals try go_bits
                all_goals rfl
              · refine step_intro rfl rfl fun ρ X hc hf hgl hX hp ho => ?_
                change StepOk _ { dst := _, op := Op.call { callee := Callee.value (Operand.func 22), args := #[Operand.tmp 81], argTypes := #[25] }, type := _, pos := _, after := _, guard := _ } _ _ _
                have k81 : ρ (.tmp 81) = ?vqc22 := hp 22 (by decide)
                clear hp ho
                refine StepOk.of_call (f := 22) (args := #[.pointer (some ⟨q, 0, none⟩)]) (w' := X) ?_ (HBq.out X hX) ?_
                · go_simp
                  all_goals try rfl
                · rintro e w'' ⟨v, rfl, hb', hg'⟩; exact ⟨v, rfl, hb', hg'⟩
              · refine step_intro rfl rfl fun ρ X hc hf hgl hX hp ho => ?_
                change StepOk _ { dst := _, op := Op.convert 30 9 (Operand.tmp 82), type := _, pos := _, after := _, guard := _ } _ _ _
                have k82 := hp 23 (by decide)
                clear hp ho
                have hr := run_string (P := Try.prog) (T := 30) (e := 5) (S := 9) rfl rfl rfl k82
                refine StepOk.of_run (v := .string ⟨(B : List UInt8).toArray⟩) (w' := X) ?_ ⟨rfl, Below.refl _ _⟩
                simp only [execOp, Sem.run_bind, hr, Result.andThen_ok, Sem.run_pure]
              · refine step_intro rfl rfl fun ρ X hc hf hgl hX hp ho => ?_
                change StepOk _ { dst := _, op := Op.move (Operand.tmp 3), type := _, pos := _, after := _, guard := _ } _ _ _
                have k3 : ρ (.tmp 3) = .pointer (some ⟨g, 0, none⟩) := ho 3 (by decide)
                clear hp ho
                refine StepOk.of_run (v := ?vqc25) (w' := X) ?_ ⟨rfl, Below.refl _ _⟩
                clear hX
                go_simp
                all_goals try go_bits
                all_goals try simp only [IntWalk.iteOmega]
                all_goals try go_bits
                all_goals rfl
              · refine step_intro rfl rfl fun ρ X hc hf hgl hX hp ho => ?_
                change StepOk _ { dst := _, op := Op.call { callee := Callee.value (Operand.func 22), args := #[Operand.tmp 84], argTypes := #[25] }, type := _, pos := _, after := _, guard := _ } _ _ _
                have k84 : ρ (.tmp 84) = ?vqc25 := hp 25 (by decide)
                clear hp ho
                refine StepOk.of_call (f := 22) (args := #[.pointer (some ⟨g, 0, none⟩)]) (w' := X) ?_ (HBg.out X hX) ?_
                · go_simp
                  all_goals try rfl
                · rintro e w'' ⟨v, rfl, hb', hg'⟩; exact ⟨v, rfl, hb', hg'⟩
              · refine step_intro rfl rfl fun ρ X hc hf hgl hX hp ho => ?_
                change StepOk _ { dst := _, op := Op.convert 30 9 (Operand.tmp 85), type := _, pos := _, after := _, guard := _ } _ _ _
                have k85 := hp 26 (by decide)
                clear hp ho
                have hr := run_string (P := Try.prog) (T := 30) (e := 5) (S := 9) rfl rfl rfl k85
                refine StepOk.of_run (v := .string ⟨(B : List UInt8).toArray⟩) (w' := X) ?_ ⟨rfl, Below.refl _ _⟩
                simp only [execOp, Sem.run_bind, hr, Result.andThen_ok, Sem.run_pure]
              · refine step_intro rfl rfl fun ρ X hc hf hgl hX hp ho => ?_
                change StepOk _ { dst := _, op := Op.binOp BinOp.neq 9 (Operand.tmp 83) (Operand.tmp 86) 9, type := _, pos := _, after := _, guard := _ } _ _ _
                have k83 : ρ (.tmp 83) = (.string ⟨(B : List UInt8).toArray⟩) := hp 24 (by decide)
                have k86 : ρ (.tmp 86) = (.string ⟨(B : List UInt8).toArray⟩) := hp 27 (by decide)
                clear hp ho
                refine StepOk.of_run (v := ?vqc28) (w' := X) ?_ ⟨rfl, Below.refl _ _⟩
                clear hX
                go_simp
                all_goals try go_bits
                all_goals try simp only [IntWalk.iteOmega]
                all_goals try go_bits
                all_goals rfl
              · refine step_intro rfl rfl fun ρ X hc hf hgl hX hp ho => ?_
                change StepOk _ { dst := _, op := Op.pick (Operand.tmp 80) (Operand.const (Value.bool true)) (Operand.tmp 87), type := _, pos := _, after := _, guard := _ } _ _ _
                have k80 : ρ (.tmp 80) = ?vqc21 := hp 21 (by decide)
                have k87 : ρ (.tmp 87) = ?vqc28 := hp 28 (by decide)
                clear hp ho
                refine StepOk.of_run (v := ?vqc29) (w' := X) ?_ ⟨rfl, Below.refl _ _⟩
                clear hX
                go_simp
                all_goals try go_bits
                all_goals try simp only [IntWalk.iteOmega]
                all_goals try go_bits
                all_goals rfl
            case grdqc => rfl
            case rstqc =>
              intro a0 X hb
              obtain ⟨x82, hx82⟩ : ∃ x, a0.tmps.getD 82 undef = x := ⟨_, rfl⟩
              have p82 := hb.done' 23 82 rfl rfl
              rw [hx82] at p82
              obtain ⟨x85, hx85⟩ : ∃ x, a0.tmps.getD 85 undef = x := ⟨_, rfl⟩
              have p85 := hb.done' 26 85 rfl rfl
              rw [hx85] at p85
              have hfr := hb.frame ((59, ?vqc0) :: (60, ?vqc1) :: (61, ?vqc2) :: (62, ?vqc3) :: (63, ?vqc4) :: (64, ?vqc5) :: (65, ?vqc6) :: (66, ?vqc7) :: (67, ?vqc8) :: (68, ?vqc9) :: (69, ?vqc10) :: (70, ?vqc11) :: (71, ?vqc12) :: (72, ?vqc13) :: (73, ?vqc14) :: (74, ?vqc15) :: (75, ?vqc16) :: (76, ?vqc17) :: (77, ?vqc18) :: (78, ?vqc19) :: (79, ?vqc20) :: (80, ?vqc21) :: (81, ?vqc22) :: (82, x82) :: (83, (.string ⟨(B : List UInt8).toArray⟩)) :: (84, ?vqc25) :: (85, x85) :: (86, (.string ⟨(B : List UInt8).toArray⟩)) :: (87, ?vqc28) :: (88, ?vqc29) :: []) rfl ⟨hb.done' 0 59 rfl rfl, hb.done' 1 60 rfl rfl, hb.done' 2 61 rfl rfl, hb.done' 3 62 rfl rfl, hb.done' 4 63 rfl rfl, hb.done' 5 64 rfl rfl, hb.done' 6 65 rfl rfl, hb.done' 7 66 rfl rfl, hb.done' 8 67 rfl rfl, hb.done' 9 68 rfl rfl, hb.done' 10 69 rfl rfl, hb.done' 11 70 rfl rfl, hb.done' 12 71 rfl rfl, hb.done' 13 72 rfl rfl, hb.done' 14 73 rfl rfl, hb.done' 15 74 rfl rfl, hb.done' 16 75 rfl rfl, hb.done' 17 76 rfl rfl, hb.done' 18 77 rfl rfl, hb.done' 19 78 rfl rfl, hb.done' 20 79 rfl rfl, hb.done' 21 80 rfl rfl, hb.done' 22 81 rfl rfl, hx82, hb.done' 24 83 rfl rfl, hb.done' 25 84 rfl rfl, hx85, hb.done' 27 86 rfl rfl, hb.done' 28 87 rfl rfl, hb.done' 29 88 rfl rfl, trivial⟩
              simp only [updL, ↓reduceIte, Nat.reduceEqDiff, Nat.reduceAdd, Nat.zero_add] at hfr
              have HX := Lib.hid hb.ext
              clear hb
              subst hfr
              have HgA := HX
              go_wp2
              go_loopw [7] (fun t7 wq => ∃ j : Nat, j ≤ n ∧ t7 = .int .i64 j ∧ Hid (Grows w6 wq)) (fun t7 _ => n - (intOf t7).toNat)
              case atStart => exact ⟨0, by omega, rfl, HgA⟩
              case round =>
                obtain ⟨j, hj, rfl, Hgj⟩ := hrel
                have HLx := Lib.hid (HLg.out _ Hgj.out)
                by_cases hjl : j < n
                · have hjl' : (j : Int) < (n : Int) := by omega
                  obtain ⟨c, Hcc⟩ : ∃ c, Hid ((cl A4.l j).p = c) := ⟨_, rfl⟩
                  have HCg : Hid (∀ X, Grows wr X → Calls Try.prog 20 #[pb g, .int .i64 (j : Int)] X fun e w' => ∃ v, e = .returned v ∧ Byt w' v c ∧ Grows X w') := Lib.hid (fun X hX => hCellB (Hh6.out.grows (Grows.trans' Hgj.out hX)) j (by rw [Hn.out]; exact hjl) c Hcc.out)
                  have HCq : Hid (∀ X, Grows wr X → Calls Try.prog 20 #[pb q, .int .i64 (j : Int)] X fun e w' => ∃ v, e = .returned v ∧ Byt w' v c ∧ Grows X w') := Lib.hid (fun X hX => hCellB (Hp6.out.grows (Grows.trans' Hgj.out hX)) j (by rw [norm_len, Hn.out]; exact hjl) c (by rw [norm_p A4 j (by rw [Hn.out]; exact hjl)]; exact Hcc.out))
                  unfold pb at HCg HCq
                  go_wp2_with (go_at_call 18; refine HLx.out.mono ?_; rintro e w7 ⟨rfl, rfl⟩)
                  refine specs_region
                    #[[], [], [0, 1], [0, 1, 2], [], [], [0, 1, 2, 4, 5], [0, 1, 2, 4, 5, 6], [0, 1, 2, 3, 4, 5, 6, 7]] #[[5], [7], [], [], [3], [7], [], [], []] #[true, true, true, true, true, true, true, true, true]
                    ((.val ?vqd0) :: (.val ?vqd1) :: (.byt (c)) :: (.val (.string ⟨(c : List UInt8).toArray⟩)) :: (.val ?vqd4) :: (.val ?vqd5) :: (.byt (c)) :: (.val (.string ⟨(c : List UInt8).toArray⟩)) :: (.val ?vqd8) :: []).toArray
                    hmx ?chkqd ?grdqd ?stpqd ?rstqd
                  case chkqd => rfl
                  case stpqd =>
                    refine ⟨?_, ?_, ?_, ?_, ?_, ?_, ?_, ?_, ?_, trivial⟩
                    · refine step_intro rfl rfl fun ρ X hc hf hgl hX hp ho => ?_
                      change StepOk _ { dst := _, op := Op.move (Operand.tmp 5), type := _, pos := _, after := _, guard := _ } _ _ _
                      have k5 : ρ (.tmp 5) = .pointer (some ⟨q, 0, none⟩) := ho 5 (by decide)
                      clear hp ho
                      refine StepOk.of_run (v := ?vqd0) (w' := X) ?_ ⟨rfl, Below.refl _ _⟩
                      clear hX
                      go_simp
                      all_goals try go_bits
                      all_goals try simp only [IntWalk.iteOmega]
                      all_goals try go_bits
                      all_goals rfl
                    · refine step_intro rfl rfl fun ρ X hc hf hgl hX hp ho => ?_
                      change StepOk _ { dst := _, op := Op.move (Operand.tmp 7), type := _, pos := _, after := _, guard := _ } _ _ _
                      have k7 : ρ (.tmp 7) = .int .i64 (j : Int) := ho 7 (by decide)
                      clear hp ho
                      refine StepOk.of_run (v := ?vqd1) (w' := X) ?_ ⟨rfl, Below.refl _ _⟩
                      clear hX
                      go_simp
                      all_goals try go_bits
                      all_goals try simp only [IntWalk.iteOmega]
                      all_goals try go_bits
                      all_goals rfl
                    · refine step_intro rfl rfl fun ρ X hc hf hgl hX hp ho => ?_
                      change StepOk _ { dst := _, op := Op.call { callee := Callee.value (Operand.func 20), args := #[Operand.tmp 95, Operand.tmp 96], argTypes := #[25, 3] }, type := _, pos := _, after := _, guard := _ } _ _ _
                      have k95 : ρ (.tmp 95) = ?vqd0 := hp 0 (by decide)
                      have k96 : ρ (.tmp 96) = ?vqd1 := hp 1 (by decide)
                      clear hp ho
                      refine StepOk.of_call (f := 20) (args := #[.pointer (some ⟨q, 0, none⟩), .int .i64 (j : Int)]) (w' := X) ?_ (HCq.out X hX) ?_
                      · go_simp
                        all_goals try rfl
                      · rintro e w'' ⟨v, rfl, hb', hg'⟩; exact ⟨v, rfl, hb', hg'⟩
                    · refine step_intro rfl rfl fun ρ X hc hf hgl hX hp ho => ?_
                      change StepOk _ { dst := _, op := Op.convert 30 9 (Operand.tmp 97), type := _, pos := _, after := _, guard := _ } _ _ _
                      have k97 := hp 2 (by decide)
                      clear hp ho
                      have hr := run_string (P := Try.prog) (T := 30) (e := 5) (S := 9) rfl rfl rfl k97
                      refine StepOk.of_run (v := .string ⟨(c : List UInt8).toArray⟩) (w' := X) ?_ ⟨rfl, Below.refl _ _⟩
                      simp only [execOp, Sem.run_bind, hr, Result.andThen_ok, Sem.run_pure]
                    · refine step_intro rfl rfl fun ρ X hc hf hgl hX hp ho => ?_
                      change StepOk _ { dst := _, op := Op.move (Operand.tmp 3), type := _, pos := _, after := _, guard := _ } _ _ _
                      have k3 : ρ (.tmp 3) = .pointer (some ⟨g, 0, none⟩) := ho 3 (by decide)
                      clear hp ho
                      refine StepOk.of_run (v := ?vqd4) (w' := X) ?_ ⟨rfl, Below.refl _ _⟩
                      clear hX
                      go_simp
                      all_goals try go_bits
                      all_goals try simp only [IntWalk.iteOmega]
                      all_goals try go_bits
                      all_goals rfl
                    · refine step_intro rfl rfl fun ρ X hc hf hgl hX hp ho => ?_
                      change StepOk _ { dst := _, op := Op.move (Operand.tmp 7), type := _, pos := _, after := _, guard := _ } _ _ _
                      have k7 : ρ (.tmp 7) = .int .i64 (j : Int) := ho 7 (by decide)
                      clear hp ho
                      refine StepOk.of_run (v := ?vqd5) (w' := X) ?_ ⟨rfl, Below.refl _ _⟩
                      clear hX
                      go_simp
                      all_goals try go_bits
                      all_goals try simp only [IntWalk.iteOmega]
                      all_goals try go_bits
                      all_goals rfl
                    · refine step_intro rfl rfl fun ρ X hc hf hgl hX hp ho => ?_
                      change StepOk _ { dst := _, op := Op.call { callee := Callee.value (Operand.func 20), args := #[Operand.tmp 99, Operand.tmp 100], argTypes := #[25, 3] }, type := _, pos := _, after := _, guard := _ } _ _ _
                      have k99 : ρ (.tmp 99) = ?vqd4 := hp 4 (by decide)
                      have k100 : ρ (.tmp 100) = ?vqd5 := hp 5 (by decide)
                      clear hp ho
                      refine StepOk.of_call (f := 20) (args := #[.pointer (some ⟨g, 0, none⟩), .int .i64 (j : Int)]) (w' := X) ?_ (HCg.out X hX) ?_
                      · go_simp
                        all_goals try rfl
                      · rintro e w'' ⟨v, rfl, hb', hg'⟩; exact ⟨v, rfl, hb', hg'⟩
                    · refine step_intro rfl rfl fun ρ X hc hf hgl hX hp ho => ?_
                      change StepOk _ { dst := _, op := Op.convert 30 9 (Operand.tmp 101), type := _, pos := _, after := _, guard := _ } _ _ _
                      have k101 := hp 6 (by decide)
                      clear hp ho
                      have hr := run_string (P := Try.prog) (T := 30) (e := 5) (S := 9) rfl rfl rfl k101
                      refine StepOk.of_run (v := .string ⟨(c : List UInt8).toArray⟩) (w' := X) ?_ ⟨rfl, Below.refl _ _⟩
                      simp only [execOp, Sem.run_bind, hr, Result.andThen_ok, Sem.run_pure]
                    · refine step_intro rfl rfl fun ρ X hc hf hgl hX hp ho => ?_
                      change StepOk _ { dst := _, op := Op.binOp BinOp.neq 9 (Operand.tmp 98) (Operand.tmp 102) 9, type := _, pos := _, after := _, guard := _ } _ _ _
                      have k98 : ρ (.tmp 98) = (.string ⟨(c : List UInt8).toArray⟩) := hp 3 (by decide)
                      have k102 : ρ (.tmp 102) = (.string ⟨(c : List UInt8).toArray⟩) := hp 7 (by decide)
                      clear hp ho
                      refine StepOk.of_run (v := ?vqd8) (w' := X) ?_ ⟨rfl, Below.refl _ _⟩
                      clear hX
                      go_simp
                      all_goals try go_bits
                      all_goals try simp only [IntWalk.iteOmega]
                      all_goals try go_bits
                      all_goals rfl
                  case grdqd => rfl
                  case rstqd =>
                    intro a0 X hb
                    obtain ⟨x97, hx97⟩ : ∃ x, a0.tmps.getD 97 undef = x := ⟨_, rfl⟩
                    have p97 := hb.done' 2 97 rfl rfl
                    rw [hx97] at p97
                    obtain ⟨x101, hx101⟩ : ∃ x, a0.tmps.getD 101 undef = x := ⟨_, rfl⟩
                    have p101 := hb.done' 6 101 rfl rfl
                    rw [hx101] at p101
                    have hfr := hb.frame ((95, ?vqd0) :: (96, ?vqd1) :: (97, x97) :: (98, (.string ⟨(c : List UInt8).toArray⟩)) :: (99, ?vqd4) :: (100, ?vqd5) :: (101, x101) :: (102, (.string ⟨(c : List UInt8).toArray⟩)) :: (103, ?vqd8) :: []) rfl ⟨hb.done' 0 95 rfl rfl, hb.done' 1 96 rfl rfl, hx97, hb.done' 3 98 rfl rfl, hb.done' 4 99 rfl rfl, hb.done' 5 100 rfl rfl, hx101, hb.done' 7 102 rfl rfl, hb.done' 8 103 rfl rfl, trivial⟩
                    simp only [updL, ↓reduceIte, Nat.reduceEqDiff, Nat.reduceAdd, Nat.zero_add] at hfr
                    have HX := Lib.hid hb.ext
                    clear hb
                    subst hfr
                    have HgX := Lib.hid (Grows.trans' Hgj.out HX.out)
                    go_wp2
                    go_roundw
                    case rel => exact ⟨j + 1, by omega, by simp, HgX⟩
                    case measure => simp [intOf]; omega
                · have hjl' : ¬ (j : Int) < (n : Int) := by omega
                  go_wp2_with (go_at_call 18; refine HLx.out.mono ?_; rintro e w7 ⟨rfl, rfl⟩)
                  go_roundw
                  case rel => exact ⟨k + 1, _, _, by omega, by simp, Lib.hid (Hh6.out.grows Hgj.out), Lib.hid (Grows.trans' Hg6.out Hgj.out)⟩
                  case measure => simp [intOf]; omega
          · by_cases h2 : kd = 2
            · subst h2
              have HPk := Lib.hid (hPack Hh.out)
              unfold pb at HPk
              go_wp2_with (go_at_call 16; refine HPk.out.mono ?_; rintro e w4 ⟨rfl, ⟨f4, hh4⟩, hu4⟩; have Hh4 := Lib.hid hh4; have Hg4 := Lib.hid (but_new Hgr.out hu4 (by rw [Hg.out]; exact Nat.le_refl _)); clear hh4 hu4; obtain ⟨A4, HA4⟩ : ∃ A4, Hid (packA A = A4) := ⟨_, rfl⟩; rw [HA4.out] at Hh4; have HBy := Lib.hid (hBytes Hh4.out); unfold pb at HBy)
              refine HBy.out.mono ?_
              rintro e w5 ⟨v5, rfl, hb5, hg5⟩
              have Hh5 := Lib.hid (Hh4.out.grows hg5)
              have Hg5 := Lib.hid (Grows.trans' Hg4.out hg5)
              have HPs := Lib.hid (hParse w5 v5 _ _ hb5 (enc_bytes Hh4.out.wf) (wf_norm Hh4.out.wf) (low_norm Hh4.out.wf))
              clear hb5 hg5
              go_wp2_with fail
              refine HPs.out.mono ?_
              rintro e w6 ⟨q, rfl, hp6, _, hg6⟩
              have Hp6 := Lib.hid hp6
              have Hh6 := Lib.hid (Hh5.out.grows hg6)
              have Hg6 := Lib.hid (Grows.trans' Hg5.out hg6)
              clear hp6 hg6
              unfold pb
              obtain ⟨n, Hn⟩ : ∃ n, Hid (A4.l.length = n) := ⟨_, rfl⟩
              obtain ⟨r, Hr⟩ : ∃ r, Hid (freeA A4 = r) := ⟨_, rfl⟩
              obtain ⟨B, HB⟩ : ∃ B, Hid (rowOf (bytesA A4) 243 = B) := ⟨_, rfl⟩
              have hn120 : n ≤ 120 := by rw [← Hn.out]; exact Hh6.out.wf.ntop.1
              have HLg : Hid (∀ X, Grows w6 X → Calls Try.prog 18 #[pb g] X fun e w' => e = .returned (.int .i64 (n : Int)) ∧ X = w') := Lib.hid (fun X hX => by rw [← Hn.out]; exact hLen (Hh6.out.grows hX))
              have HLq : Hid (∀ X, Grows w6 X → Calls Try.prog 18 #[pb q] X fun e w' => e = .returned (.int .i64 (n : Int)) ∧ X = w') := Lib.hid (fun X hX => by have := hLen (Hp6.out.grows hX); rw [show (normA A4).l.length = n by rw [← Hn.out]; exact normL_length _ _] at this; exact this)
              have HFg : Hid (∀ X, Grows w6 X → Calls Try.prog 19 #[pb g] X fun e w' => e = .returned (.int .i64 (r : Int)) ∧ Grows X w') := Lib.hid (fun X hX => by rw [← Hr.out]; exact hFree (Hh6.out.grows hX))
              have HFq : Hid (∀ X, Grows w6 X → Calls Try.prog 19 #[pb q] X fun e w' => e = .returned (.int .i64 (r : Int)) ∧ Grows X w') := Lib.hid (fun X hX => by rw [← Hr.out, ← free_norm A4]; exact hFree (Hp6.out.grows hX))
              have HBg : Hid (∀ X, Grows w6 X → Calls Try.prog 22 #[pb g] X fun e w' => ∃ v, e = .returned v ∧ Byt w' v B ∧ Grows X w') := Lib.hid (fun X hX => by rw [← HB.out]; exact hBytes (Hh6.out.grows hX))
              have HBq : Hid (∀ X, Grows w6 X → Calls Try.prog 22 #[pb q] X fun e w' => ∃ v, e = .returned v ∧ Byt w' v B ∧ Grows X w') := Lib.hid (fun X hX => by rw [← HB.out, ← bytes_norm A4]; exact hBytes (Hp6.out.grows hX))
              unfold pb at HLg HLq HFg HFq HBg HBq
              clear HPs HBy
              go_wp2
              refine specs_region
                #[[], [0], [0, 1], [0, 1, 2], [0, 1, 2, 3], [0, 1, 2, 3, 4], [0, 1, 2, 3, 4, 5], [0, 1, 2, 3, 4, 5, 6], [0, 1, 2, 3, 4, 5, 6, 7], [0, 1, 2, 3, 4, 5, 6, 7, 8], [0, 1, 2, 3, 4, 5, 6, 7], [0, 1, 2, 3, 4, 5, 6, 7, 8, 9, 10], [0, 1, 2, 3, 4, 5, 6, 7, 8, 9, 10, 11], [0, 1, 2, 3, 4, 5, 6, 7, 8, 9, 10, 11, 12], [0, 1, 2, 3, 4, 5, 6, 7, 8, 9, 10, 11, 12, 13], [0, 1, 2, 3, 4, 5, 6, 7, 8, 9, 10, 11, 12, 13, 14], [0, 1, 2, 3, 4, 5, 6, 7, 8, 9, 10, 11, 12, 13, 14, 15], [0, 1, 2, 3, 4, 5, 6, 7, 8, 9, 10, 11, 12, 13, 14], [0, 1, 2, 3, 4, 5, 6, 7, 8, 9, 10, 11, 12, 13, 14, 15, 16, 17], [0, 1, 2, 3, 4, 5, 6, 7, 8, 9, 10, 11, 12, 13, 14, 15, 16, 17, 18], [0, 1, 2, 3, 4, 5, 6, 7, 8, 9, 10, 11, 12, 13, 14, 15, 16, 17, 18, 19], [0, 1, 2, 3, 4, 5, 6, 7, 8, 9, 10, 11, 12, 13, 14, 15, 16, 17, 18, 19, 20], [0, 1, 2, 3, 4, 5, 6, 7, 8, 9, 10, 11, 12, 13, 14, 15, 16, 17, 18, 19, 20, 21], [0, 1, 2, 3, 4, 5, 6, 7, 8, 9, 10, 11, 12, 13, 14, 15, 16, 17, 18, 19, 20, 21, 22], [0, 1, 2, 3, 4, 5, 6, 7, 8, 9, 10, 11, 12, 13, 14, 15, 16, 17, 18, 19, 20, 21, 22, 23], [0, 1, 2, 3, 4, 5, 6, 7, 8, 9, 10, 11, 12, 13, 14, 15, 16, 17, 18, 19, 20, 21], [0, 1, 2, 3, 4, 5, 6, 7, 8, 9, 10, 11, 12, 13, 14, 15, 16, 17, 18, 19, 20, 21, 22, 23, 25], [0, 1, 2, 3, 4, 5, 6, 7, 8, 9, 10, 11, 12, 13, 14, 15, 16, 17, 18, 19, 20, 21, 22, 23, 25, 26], [0, 1, 2, 3, 4, 5, 6, 7, 8, 9, 10, 11, 12, 13, 14, 15, 16, 17, 18, 19, 20, 21, 22, 23, 24, 25, 26, 27], [0, 1, 2, 3, 4, 5, 6, 7, 8, 9, 10, 11, 12, 13, 14, 15, 16, 17, 18, 19, 20, 21, 22, 23, 24, 25, 26, 27, 28]] #[[6], [], [], [], [5], [], [], [], [5], [], [3], [], [], [], [], [5], [], [3], [], [], [], [], [5], [], [], [3], [], [], [], []] #[true, true, true, true, true, true, true, true, true, true, true, true, true, true, true, true, true, true, true, true, true, true, true, true, true, true, true, true, true, true]
                ((.val ?vrc0) :: (.val ?vrc1) :: (.val ?vrc2) :: (.val ?vrc3) :: (.val ?vrc4) :: (.val ?vrc5) :: (.val ?vrc6) :: (.val ?vrc7) :: (.val ?vrc8) :: (.val ?vrc9) :: (.val ?vrc10) :: (.val ?vrc11) :: (.val ?vrc12) :: (.val ?vrc13) :: (.val ?vrc14) :: (.val ?vrc15) :: (.val ?vrc16) :: (.val ?vrc17) :: (.val ?vrc18) :: (.val ?vrc19) :: (.val ?vrc20) :: (.val ?vrc21) :: (.val ?vrc22) :: (.byt (B)) :: (.val (.string ⟨(B : List UInt8).toArray⟩)) :: (.val ?vrc25) :: (.byt (B)) :: (.val (.string ⟨(B : List UInt8).toArray⟩)) :: (.val ?vrc28) :: (.val ?vrc29) :: []).toArray
                hmx ?chkrc ?grdrc ?stprc ?rstrc
              case chkrc => rfl
              case stprc =>
                refine ⟨?_, ?_, ?_, ?_, ?_, ?_, ?_, ?_, ?_, ?_, ?_, ?_, ?_, ?_, ?_, ?_, ?_, ?_, ?_, ?_, ?_, ?_, ?_, ?_, ?_, ?_, ?_, ?_, ?_, ?_, trivial⟩
                · refine step_intro rfl rfl fun ρ X hc hf hgl hX hp ho => ?_
                  change StepOk _ { dst := _, op := Op.move (Operand.tmp 6), type := _, pos := _, after := _, guard := _ } _ _ _
                  have k6 : ρ (.tmp 6) = .int .i64 0 := ho 6 (by decide)
                  clear hp ho
                  refine StepOk.of_run (v := ?vrc0) (w' := X) ?_ ⟨rfl, Below.refl _ _⟩
                  clear hX
                  go_simp
                  all_goals try go_bits
                  all_goals try simp only [IntWalk.iteOmega]
                  all_goals try go_bits
                  all_goals rfl
                · refine step_intro rfl rfl fun ρ X hc hf hgl hX hp ho => ?_
                  change StepOk _ { dst := _, op := Op.call { callee := Callee.value (Operand.func 13), args := #[Operand.tmp 59], argTypes := #[36] }, type := _, pos := _, after := _, guard := _ } _ _ _
                  have k59 : ρ (.tmp 59) = ?vrc0 := hp 0 (by decide)
                  clear hp ho
                  refine StepOk.of_call (f := 13) (args := #[?vrc0]) (w' := X) ?_ (vNum _ X) ?_
                  · go_simp
                    all_goals try go_bits
                    all_goals try rfl
                  · rintro e w'' ⟨rfl, rfl⟩; refine ⟨_, rfl, ?_, Below.refl _ _⟩; show _ = ?vrc1; rfl
                · refine step_intro rfl rfl fun ρ X hc hf hgl hX hp ho => ?_
                  change StepOk _ { dst := _, op := Op.binOp BinOp.neq 3 (Operand.tmp 60) (Operand.const (Value.int IntKind.i64 0)) 3, type := _, pos := _, after := _, guard := _ } _ _ _
                  have k60 : ρ (.tmp 60) = ?vrc1 := hp 1 (by decide)
                  clear hp ho
                  refine StepOk.of_run (v := ?vrc2) (w' := X) ?_ ⟨rfl, Below.refl _ _⟩
                  clear hX
                  go_simp
                  all_goals try go_bits
                  all_goals try simp only [IntWalk.iteOmega]
                  all_goals try go_bits
                  all_goals rfl
                · refine step_intro rfl rfl fun ρ X hc hf hgl hX hp ho => ?_
                  change StepOk _ { dst := _, op := Op.move (Operand.tmp 61), type := _, pos := _, after := _, guard := _ } _ _ _
                  have k61 : ρ (.tmp 61) = ?vrc2 := hp 2 (by decide)
                  clear hp ho
                  refine StepOk.of_run (v := ?vrc3) (w' := X) ?_ ⟨rfl, Below.refl _ _⟩
                  clear hX
                  go_simp
                  all_goals try go_bits
                  all_goals try simp only [IntWalk.iteOmega]
                  all_goals try go_bits
                  all_goals rfl
                · refine step_intro rfl rfl fun ρ X hc hf hgl hX hp ho => ?_
                  change StepOk _ { dst := _, op := Op.move (Operand.tmp 5), type := _, pos := _, after := _, guard := _ } _ _ _
                  have k5 : ρ (.tmp 5) = .pointer (some ⟨q, 0, none⟩) := ho 5 (by decide)
                  clear hp ho
                  refine StepOk.of_run (v := ?vrc4) (w' := X) ?_ ⟨rfl, Below.refl _ _⟩
                  clear hX
                  go_simp
                  all_goals try go_bits
                  all_goals try simp only [IntWalk.iteOmega]
                  all_goals try go_bits
                  all_goals rfl
                · refine step_intro rfl rfl fun ρ X hc hf hgl hX hp ho => ?_
                  change StepOk _ { dst := _, op := Op.binOp BinOp.eql 25 (Operand.tmp 63) (Operand.const (Value.pointer none)) 25, type := _, pos := _, after := _, guard := _ } _ _ _
                  have k63 : ρ (.tmp 63) = ?vrc4 := hp 4 (by decide)
                  clear hp ho
                  refine StepOk.of_run (v := ?vrc5) (w' := X) ?_ ⟨rfl, Below.refl _ _⟩
                  clear hX
                  go_simp
                  all_goals try go_bits
                  all_goals try simp only [IntWalk.iteOmega]
                  all_goals try go_bits
                  all_goals rfl
                · refine step_intro rfl rfl fun ρ X hc hf hgl hX hp ho => ?_
                  change StepOk _ { dst := _, op := Op.pick (Operand.tmp 62) (Operand.const (Value.bool true)) (Operand.tmp 64), type := _, pos := _, after := _, guard := _ } _ _ _
                  have k62 : ρ (.tmp 62) = ?vrc3 := hp 3 (by decide)
                  have k64 : ρ (.tmp 64) = ?vrc5 := hp 5 (by decide)
                  clear hp ho
                  refine StepOk.of_run (v := ?vrc6) (w' := X) ?_ ⟨rfl, Below.refl _ _⟩
                  clear hX
                  go_simp
                  all_goals try go_bits
                  all_goals try simp only [IntWalk.iteOmega]
                  all_goals try go_bits
                  all_goals rfl
                · refine step_intro rfl rfl fun ρ X hc hf hgl hX hp ho => ?_
                  change StepOk _ { dst := _, op := Op.move (Operand.tmp 65), type := _, pos := _, after := _, guard := _ } _ _ _
                  have k65 : ρ (.tmp 65) = ?vrc6 := hp 6 (by decide)
                  clear hp ho
                  refine StepOk.of_run (v := ?vrc7) (w' := X) ?_ ⟨rfl, Below.refl _ _⟩
                  clear hX
                  go_simp
                  all_goals try go_bits
                  all_goals try simp only [IntWalk.iteOmega]
                  all_goals try go_bits
                  all_goals rfl
                · refine step_intro rfl rfl fun ρ X hc hf hgl hX hp ho => ?_
                  change StepOk _ { dst := _, op := Op.move (Operand.tmp 5), type := _, pos := _, after := _, guard := _ } _ _ _
                  have k5 : ρ (.tmp 5) = .pointer (some ⟨q, 0, none⟩) := ho 5 (by decide)
                  clear hp ho
                  refine StepOk.of_run (v := ?vrc8) (w' := X) ?_ ⟨rfl, Below.refl _ _⟩
                  clear hX
                  go_simp
                  all_goals try go_bits
                  all_goals try simp only [IntWalk.iteOmega]
                  all_goals try go_bits
                  all_goals rfl
                · refine step_intro rfl rfl fun ρ X hc hf hgl hX hp ho => ?_
                  change StepOk _ { dst := _, op := Op.call { callee := Callee.value (Operand.func 18), args := #[Operand.tmp 67], argTypes := #[25] }, type := _, pos := _, after := _, guard := _ } _ _ _
                  have k67 : ρ (.tmp 67) = ?vrc8 := hp 8 (by decide)
                  clear hp ho
                  refine StepOk.of_call (f := 18) (args := #[?vrc8]) (w' := X) ?_ (HLq.out X hX) ?_
                  · go_simp
                    all_goals try go_bits
                    all_goals try rfl
                  · rintro e w'' ⟨rfl, rfl⟩; refine ⟨_, rfl, ?_, Below.refl _ _⟩; show _ = ?vrc9; rfl
                · refine step_intro rfl rfl fun ρ X hc hf hgl hX hp ho => ?_
                  change StepOk _ { dst := _, op := Op.move (Operand.tmp 3), type := _, pos := _, after := _, guard := _ } _ _ _
                  have k3 : ρ (.tmp 3) = .pointer (some ⟨g, 0, none⟩) := ho 3 (by decide)
                  clear hp ho
                  refine StepOk.of_run (v := ?vrc10) (w' := X) ?_ ⟨rfl, Below.refl _ _⟩
                  clear hX
                  go_simp
                  all_goals try go_bits
                  all_goals try simp only [IntWalk.iteOmega]
                  all_goals try go_bits
                  all_goals rfl
                · refine step_intro rfl rfl fun ρ X hc hf hgl hX hp ho => ?_
                  change StepOk _ { dst := _, op := Op.call { callee := Callee.value (Operand.func 18), args := #[Operand.tmp 69], argTypes := #[25] }, type := _, pos := _, after := _, guard := _ } _ _ _
                  have k69 : ρ (.tmp 69) = ?vrc10 := hp 10 (by decide)
                  clear hp ho
                  refine StepOk.of_call (f := 18) (args := #[?vrc10]) (w' := X) ?_ (HLg.out X hX) ?_
                  · go_simp
                    all_goals try go_bits
                    all_goals try rfl
                  · rintro e w'' ⟨rfl, rfl⟩; refine ⟨_, rfl, ?_, Below.refl _ _⟩; show _ = ?vrc11; rfl
                · refine step_intro rfl rfl fun ρ X hc hf hgl hX hp ho => ?_
                  change StepOk _ { dst := _, op := Op.binOp BinOp.neq 3 (Operand.tmp 68) (Operand.tmp 70) 3, type := _, pos := _, after := _, guard := _ } _ _ _
                  have k68 : ρ (.tmp 68) = ?vrc9 := hp 9 (by decide)
                  have k70 : ρ (.tmp 70) = ?vrc11 := hp 11 (by decide)
                  clear hp ho
                  refine StepOk.of_run (v := ?vrc12) (w' := X) ?_ ⟨rfl, Below.refl _ _⟩
                  clear hX
                  go_simp
                  all_goals try go_bits
                  all_goals try simp only [IntWalk.iteOmega]
                  all_goals try go_bits
                  all_goals rfl
                · refine step_intro rfl rfl fun ρ X hc hf hgl hX hp ho => ?_
                  change StepOk _ { dst := _, op := Op.pick (Operand.tmp 66) (Operand.const (Value.bool true)) (Operand.tmp 71), type := _, pos := _, after := _, guard := _ } _ _ _
                  have k66 : ρ (.tmp 66) = ?vrc7 := hp 7 (by decide)
                  have k71 : ρ (.tmp 71) = ?vrc12 := hp 12 (by decide)
                  clear hp ho
                  refine StepOk.of_run (v := ?vrc13) (w' := X) ?_ ⟨rfl, Below.refl _ _⟩
                  clear hX
                  go_simp
                  all_goals try go_bits
                  all_goals try simp only [IntWalk.iteOmega]
                  all_goals try go_bits
                  all_goals rfl
                · refine step_intro rfl rfl fun ρ X hc hf hgl hX hp ho => ?_
                  change StepOk _ { dst := _, op := Op.move (Operand.tmp 72), type := _, pos := _, after := _, guard := _ } _ _ _
                  have k72 : ρ (.tmp 72) = ?vrc13 := hp 13 (by decide)
                  clear hp ho
                  refine StepOk.of_run (v := ?vrc14) (w' := X) ?_ ⟨rfl, Below.refl _ _⟩
                  clear hX
                  go_simp
                  all_goals try go_bits
                  all_goals try simp only [IntWalk.iteOmega]
                  all_goals try go_bits
                  all_goals rfl
                · refine step_intro rfl rfl fun ρ X hc hf hgl hX hp ho => ?_
                  change StepOk _ { dst := _, op := Op.move (Operand.tmp 5), type := _, pos := _, after := _, guard := _ } _ _ _
                  have k5 : ρ (.tmp 5) = .pointer (some ⟨q, 0, none⟩) := ho 5 (by decide)
                  clear hp ho
                  refine StepOk.of_run (v := ?vrc15) (w' := X) ?_ ⟨rfl, Below.refl _ _⟩
                  clear hX
                  go_simp
                  all_goals try go_bits
                  all_goals try simp only [IntWalk.iteOmega]
                  all_goals try go_bits
                  all_goals rfl
                · refine step_intro rfl rfl fun ρ X hc hf hgl hX hp ho => ?_
                  change StepOk _ { dst := _, op := Op.call { callee := Callee.value (Operand.func 19), args := #[Operand.tmp 74], argTypes := #[25] }, type := _, pos := _, after := _, guard := _ } _ _ _
                  have k74 : ρ (.tmp 74) = ?vrc15 := hp 15 (by decide)
                  clear hp ho
                  refine StepOk.of_call (f := 19) (args := #[?vrc15]) (w' := X) ?_ (HFq.out X hX) ?_
                  · go_simp
                    all_goals try go_bits
                    all_goals try rfl
                  · rintro e w'' ⟨rfl, hg'⟩; refine ⟨_, rfl, ?_, hg'⟩; show _ = ?vrc16; rfl
                · refine step_intro rfl rfl fun ρ X hc hf hgl hX hp ho => ?_
                  change StepOk _ { dst := _, op := Op.move (Operand.tmp 3), type := _, pos := _, after := _, guard := _ } _ _ _
                  have k3 : ρ (.tmp 3) = .pointer (some ⟨g, 0, none⟩) := ho 3 (by decide)
                  clear hp ho
                  refine StepOk.of_run (v := ?vrc17) (w' := X) ?_ ⟨rfl, Below.refl _ _⟩
                  clear hX
                  go_simp
                  all_goals try go_bits
                  all_goals try simp only [IntWalk.iteOmega]
                  all_goals try go_bits
                  all_goals rfl
                · refine step_intro rfl rfl fun ρ X hc hf hgl hX hp ho => ?_
                  change StepOk _ { dst := _, op := Op.call { callee := Callee.value (Operand.func 19), args := #[Operand.tmp 76], argTypes := #[25] }, type := _, pos := _, after := _, guard := _ } _ _ _
                  have k76 : ρ (.tmp 76) = ?vrc17 := hp 17 (by decide)
                  clear hp ho
                  refine StepOk.of_call (f := 19) (args := #[?vrc17]) (w' := X) ?_ (HFg.out X hX) ?_
                  · go_simp
                    all_goals try go_bits
                    all_goals try rfl
                  · rintro e w'' ⟨rfl, hg'⟩; refine ⟨_, rfl, ?_, hg'⟩; show _ = ?vrc18; rfl
                · refine step_intro rfl rfl fun ρ X hc hf hgl hX hp ho => ?_
                  change StepOk _ { dst := _, op := Op.binOp BinOp.neq 3 (Operand.tmp 75) (Operand.tmp 77) 3, type := _, pos := _, after := _, guard := _ } _ _ _
                  have k75 : ρ (.tmp 75) = ?vrc16 := hp 16 (by decide)
                  have k77 : ρ (.tmp 77) = ?vrc18 := hp 18 (by decide)
                  clear hp ho
                  refine StepOk.of_run (v := ?vrc19) (w' := X) ?_ ⟨rfl, Below.refl _ _⟩
                  clear hX
                  go_simp
                  all_goals try go_bits
                  all_goals try simp only [IntWalk.iteOmega]
                  all_goals try go_bits
                  all_goals rfl
                · refine step_intro rfl rfl fun ρ X hc hf hgl hX hp ho => ?_
                  change StepOk _ { dst := _, op := Op.pick (Operand.tmp 73) (Operand.const (Value.bool true)) (Operand.tmp 78), type := _, pos := _, after := _, guard := _ } _ _ _
                  have k73 : ρ (.tmp 73) = ?vrc14 := hp 14 (by decide)
                  have k78 : ρ (.tmp 78) = ?vrc19 := hp 19 (by decide)
                  clear hp ho
                  refine StepOk.of_run (v := ?vrc20) (w' := X) ?_ ⟨rfl, Below.refl _ _⟩
                  clear hX
                  go_simp
                  all_goals try go_bits
                  all_goals try simp only [IntWalk.iteOmega]
                  all_goals try go_bits
                  all_goals rfl
                · refine step_intro rfl rfl fun ρ X hc hf hgl hX hp ho => ?_
                  change StepOk _ { dst := _, op := Op.move (Operand.tmp 79), type := _, pos := _, after := _, guard := _ } _ _ _
                  have k79 : ρ (.tmp 79) = ?vrc20 := hp 20 (by decide)
                  clear hp ho
                  refine StepOk.of_run (v := ?vrc21) (w' := X) ?_ ⟨rfl, Below.refl _ _⟩
                  clear hX
                  go_simp
                  all_goals try go_bits
                  all_goals try simp only [IntWalk.iteOmega]
                  all_goals try go_bits
                  all_goals rfl
                · refine step_intro rfl rfl fun ρ X hc hf hgl hX hp ho => ?_
                  change StepOk _ { dst := _, op := Op.move (Operand.tmp 5), type := _, pos := _, after := _, guard := _ } _ _ _
                  have k5 : ρ (.tmp 5) = .pointer (some ⟨q, 0, none⟩) := ho 5 (by decide)
                  clear hp ho
                  refine StepOk.of_run (v := ?vrc22) (w' := X) ?_ ⟨rfl, Below.refl _ _⟩
                  clear hX
                  go_simp
                  all_goals try go_bits
                  all_goals try simp only [IntWalk.iteOmega]
                  all_goals try go_bits
                  all_goals rfl
                · refine step_intro rfl rfl fun ρ X hc hf hgl hX hp ho => ?_
                  change StepOk _ { dst := _, op := Op.call { callee := Callee.value (Operand.func 22), args := #[Operand.tmp 81], argTypes := #[25] }, type := _, pos := _, after := _, guard := _ } _ _ _
                  have k81 : ρ (.tmp 81) = ?vrc22 := hp 22 (by decide)
                  clear hp ho
                  refine StepOk.of_call (f := 22) (args := #[.pointer (some ⟨q, 0, none⟩)]) (w' := X) ?_ (HBq.out X hX) ?_
                  · go_simp
                    all_goals try rfl
                  · rintro e w'' ⟨v, rfl, hb', hg'⟩; exact ⟨v, rfl, hb', hg'⟩
                · refine step_intro rfl rfl fun ρ X hc hf hgl hX hp ho => ?_
                  change StepOk _ { dst := _, op := Op.convert 30 9 (Operand.tmp 82), type := _, pos := _, after := _, guard := _ } _ _ _
                  have k82 := hp 23 (by decide)
                  clear hp ho
                  have hr := run_string (P := Try.prog) (T := 30) (e := 5) (S := 9) rfl rfl rfl k82
                  refine StepOk.of_run (v := .string ⟨(B : List UInt8).toArray⟩) (w' := X) ?_ ⟨rfl, Below.refl _ _⟩
                  simp only [execOp, Sem.run_bind, hr, Result.andThen_ok, Sem.run_pure]
                · refine step_intro rfl rfl fun ρ X hc hf hgl hX hp ho => ?_
                  change StepOk _ { dst := _, op := Op.move (Operand.tmp 3), type := _, pos := _, after := _, guard := _ } _ _ _
                  have k3 : ρ (.tmp 3) = .pointer (some ⟨g, 0, none⟩) := ho 3 (by decide)
                  clear hp ho
                  refine StepOk.of_run (v := ?vrc25) (w' := X) ?_ ⟨rfl, Below.refl _ _⟩
                  clear hX
                  go_simp
                  all_goals try go_bits
                  all_goals try simp only [IntWalk.iteOmega]
                  all_goals try go_bits
                  all_goals rfl
                · refine step_intro rfl rfl fun ρ X hc hf hgl hX hp ho => ?_
                  change StepOk _ { dst := _, op := Op.call { callee := Callee.value (Operand.func 22), args := #[Operand.tmp 84], argTypes := #[25] }, type := _, pos := _, after := _, guard := _ } _ _ _
                  have k84 : ρ (.tmp 84) = ?vrc25 := hp 25 (by decide)
                  clear hp ho
                  refine StepOk.of_call (f := 22) (args := #[.pointer (some ⟨g, 0, none⟩)]) (w' := X) ?_ (HBg.out X hX) ?_
                  · go_simp
                    all_goals try rfl
                  · rintro e w'' ⟨v, rfl, hb', hg'⟩; exact ⟨v, rfl, hb', hg'⟩
                · refine step_intro rfl rfl fun ρ X hc hf hgl hX hp ho => ?_
                  change StepOk _ { dst := _, op := Op.convert 30 9 (Operand.tmp 85), type := _, pos := _, after := _, guard := _ } _ _ _
                  have k85 := hp 26 (by decide)
                  clear hp ho
                  have hr := run_string (P := Try.prog) (T := 30) (e := 5) (S := 9) rfl rfl rfl k85
                  refine StepOk.of_run (v := .string ⟨(B : List UInt8).toArray⟩) (w' := X) ?_ ⟨rfl, Below.refl _ _⟩
                  simp only [execOp, Sem.run_bind, hr, Result.andThen_ok, Sem.run_pure]
                · refine step_intro rfl rfl fun ρ X hc hf hgl hX hp ho => ?_
                  change StepOk _ { dst := _, op := Op.binOp BinOp.neq 9 (Operand.tmp 83) (Operand.tmp 86) 9, type := _, pos := _, after := _, guard := _ } _ _ _
                  have k83 : ρ (.tmp 83) = (.string ⟨(B : List UInt8).toArray⟩) := hp 24 (by decide)
                  have k86 : ρ (.tmp 86) = (.string ⟨(B : List UInt8).toArray⟩) := hp 27 (by decide)
                  clear hp ho
                  refine StepOk.of_run (v := ?vrc28) (w' := X) ?_ ⟨rfl, Below.refl _ _⟩
                  clear hX
                  go_simp
                  all_goals try go_bits
                  all_goals try simp only [IntWalk.iteOmega]
                  all_goals try go_bits
                  all_goals rfl
                · refine step_intro rfl rfl fun ρ X hc hf hgl hX hp ho => ?_
                  change StepOk _ { dst := _, op := Op.pick (Operand.tmp 80) (Operand.const (Value.bool true)) (Operand.tmp 87), type := _, pos := _, after := _, guard := _ } _ _ _
                  have k80 : ρ (.tmp 80) = ?vrc21 := hp 21 (by decide)
                  have k87 : ρ (.tmp 87) = ?vrc28 := hp 28 (by decide)
                  clear hp ho
                  refine StepOk.of_run (v := ?vrc29) (w' := X) ?_ ⟨rfl, Below.refl _ _⟩
                  clear hX
                  go_simp
                  all_goals try go_bits
                  all_goals try simp only [IntWalk.iteOmega]
                  all_goals try go_bits
                  all_goals rfl
              case grdrc => rfl
              case rstrc =>
                intro a0 X hb
                obtain ⟨x82, hx82⟩ : ∃ x, a0.tmps.getD 82 undef = x := ⟨_, rfl⟩
                have p82 := hb.done' 23 82 rfl rfl
                rw [hx82] at p82
                obtain ⟨x85, hx85⟩ : ∃ x, a0.tmps.getD 85 undef = x := ⟨_, rfl⟩
                have p85 := hb.done' 26 85 rfl rfl
                rw [hx85] at p85
                have hfr := hb.frame ((59, ?vrc0) :: (60, ?vrc1) :: (61, ?vrc2) :: (62, ?vrc3) :: (63, ?vrc4) :: (64, ?vrc5) :: (65, ?vrc6) :: (66, ?vrc7) :: (67, ?vrc8) :: (68, ?vrc9) :: (69, ?vrc10) :: (70, ?vrc11) :: (71, ?vrc12) :: (72, ?vrc13) :: (73, ?vrc14) :: (74, ?vrc15) :: (75, ?vrc16) :: (76, ?vrc17) :: (77, ?vrc18) :: (78, ?vrc19) :: (79, ?vrc20) :: (80, ?vrc21) :: (81, ?vrc22) :: (82, x82) :: (83, (.string ⟨(B : List UInt8).toArray⟩)) :: (84, ?vrc25) :: (85, x85) :: (86, (.string ⟨(B : List UInt8).toArray⟩)) :: (87, ?vrc28) :: (88, ?vrc29) :: []) rfl ⟨hb.done' 0 59 rfl rfl, hb.done' 1 60 rfl rfl, hb.done' 2 61 rfl rfl, hb.done' 3 62 rfl rfl, hb.done' 4 63 rfl rfl, hb.done' 5 64 rfl rfl, hb.done' 6 65 rfl rfl, hb.done' 7 66 rfl rfl, hb.done' 8 67 rfl rfl, hb.done' 9 68 rfl rfl, hb.done' 10 69 rfl rfl, hb.done' 11 70 rfl rfl, hb.done' 12 71 rfl rfl, hb.done' 13 72 rfl rfl, hb.done' 14 73 rfl rfl, hb.done' 15 74 rfl rfl, hb.done' 16 75 rfl rfl, hb.done' 17 76 rfl rfl, hb.done' 18 77 rfl rfl, hb.done' 19 78 rfl rfl, hb.done' 20 79 rfl rfl, hb.done' 21 80 rfl rfl, hb.done' 22 81 rfl rfl, hx82, hb.done' 24 83 rfl rfl, hb.done' 25 84 rfl rfl, hx85, hb.done' 27 86 rfl rfl, hb.done' 28 87 rfl rfl, hb.done' 29 88 rfl rfl, trivial⟩
                simp only [updL, ↓reduceIte, Nat.reduceEqDiff, Nat.reduceAdd, Nat.zero_add] at hfr
                have HX := Lib.hid hb.ext
                clear hb
                subst hfr
                have HgA := HX
                go_wp2
                go_loopw [7] (fun t7 wq => ∃ j : Nat, j ≤ n ∧ t7 = .int .i64 j ∧ Hid (Grows w6 wq)) (fun t7 _ => n - (intOf t7).toNat)
                case atStart => exact ⟨0, by omega, rfl, HgA⟩
                case round =>
                  obtain ⟨j, hj, rfl, Hgj⟩ := hrel
                  have HLx := Lib.hid (HLg.out _ Hgj.out)
                  by_cases hjl : j < n
                  · have hjl' : (j : Int) < (n : Int) := by omega
                    obtain ⟨c, Hcc⟩ : ∃ c, Hid ((cl A4.l j).p = c) := ⟨_, rfl⟩
                    have HCg : Hid (∀ X, Grows wr X → Calls Try.prog 20 #[pb g, .int .i64 (j : Int)] X fun e w' => ∃ v, e = .returned v ∧ Byt w' v c ∧ Grows X w') := Lib.hid (fun X hX => hCellB (Hh6.out.grows (Grows.trans' Hgj.out hX)) j (by rw [Hn.out]; exact hjl) c Hcc.out)
                    have HCq : Hid (∀ X, Grows wr X → Calls Try.prog 20 #[pb q, .int .i64 (j : Int)] X fun e w' => ∃ v, e = .returned v ∧ Byt w' v c ∧ Grows X w') := Lib.hid (fun X hX => hCellB (Hp6.out.grows (Grows.trans' Hgj.out hX)) j (by rw [norm_len, Hn.out]; exact hjl) c (by rw [norm_p A4 j (by rw [Hn.out]; exact hjl)]; exact Hcc.out))
                    unfold pb at HCg HCq
                    go_wp2_with (go_at_call 18; refine HLx.out.mono ?_; rintro e w7 ⟨rfl, rfl⟩)
                    refine specs_region
                      #[[], [], [0, 1], [0, 1, 2], [], [], [0, 1, 2, 4, 5], [0, 1, 2, 4, 5, 6], [0, 1, 2, 3, 4, 5, 6, 7]] #[[5], [7], [], [], [3], [7], [], [], []] #[true, true, true, true, true, true, true, true, true]
                      ((.val ?vrd0) :: (.val ?vrd1) :: (.byt (c)) :: (.val (.string ⟨(c : List UInt8).toArray⟩)) :: (.val ?vrd4) :: (.val ?vrd5) :: (.byt (c)) :: (.val (.string ⟨(c : List UInt8).toArray⟩)) :: (.val ?vrd8) :: []).toArray
                      hmx ?chkrd ?grdrd ?stprd ?rstrd
                    case chkrd => rfl
                    case stprd =>
                      refine ⟨?_, ?_, ?_, ?_, ?_, ?_, ?_, ?_, ?_, trivial⟩
                      · refine step_intro rfl rfl fun ρ X hc hf hgl hX hp ho => ?_
                        change StepOk _ { dst := _, op := Op.move (Operand.tmp 5), type := _, pos := _, after := _, guard := _ } _ _ _
                        have k5 : ρ (.tmp 5) = .pointer (some ⟨q, 0, none⟩) := ho 5 (by decide)
                        clear hp ho
                        refine StepOk.of_run (v := ?vrd0) (w' := X) ?_ ⟨rfl, Below.refl _ _⟩
                        clear hX
                        go_simp
                        all_goals try go_bits
                        all_goals try simp only [IntWalk.iteOmega]
                        all_goals try go_bits
                        all_goals rfl
                      · refine step_intro rfl rfl fun ρ X hc hf hgl hX hp ho => ?_
                        change StepOk _ { dst := _, op := Op.move (Operand.tmp 7), type := _, pos := _, after := _, guard := _ } _ _ _
                        have k7 : ρ (.tmp 7) = .int .i64 (j : Int) := ho 7 (by decide)
                        clear hp ho
                        refine StepOk.of_run (v := ?vrd1) (w' := X) ?_ ⟨rfl, Below.refl _ _⟩
                        clear hX
                        go_simp
                        all_goals try go_bits
                        all_goals try simp only [IntWalk.iteOmega]
                        all_goals try go_bits
                        all_goals rfl
                      · refine step_intro rfl rfl fun ρ X hc hf hgl hX hp ho => ?_
                        change StepOk _ { dst := _, op := Op.call { callee := Callee.value (Operand.func 20), args := #[Operand.tmp 95, Operand.tmp 96], argTypes := #[25, 3] }, type := _, pos := _, after := _, guard := _ } _ _ _
                        have k95 : ρ (.tmp 95) = ?vrd0 := hp 0 (by decide)
                        have k96 : ρ (.tmp 96) = ?vrd1 := hp 1 (by decide)
                        clear hp ho
                        refine StepOk.of_call (f := 20) (args := #[.pointer (some ⟨q, 0, none⟩), .int .i64 (j : Int)]) (w' := X) ?_ (HCq.out X hX) ?_
                        · go_simp
                          all_goals try rfl
                        · rintro e w'' ⟨v, rfl, hb', hg'⟩; exact ⟨v, rfl, hb', hg'⟩
                      · refine step_intro rfl rfl fun ρ X hc hf hgl hX hp ho => ?_
                        change StepOk _ { dst := _, op := Op.convert 30 9 (Operand.tmp 97), type := _, pos := _, after := _, guard := _ } _ _ _
                        have k97 := hp 2 (by decide)
                        clear hp ho
                        have hr := run_string (P := Try.prog) (T := 30) (e := 5) (S := 9) rfl rfl rfl k97
                        refine StepOk.of_run (v := .string ⟨(c : List UInt8).toArray⟩) (w' := X) ?_ ⟨rfl, Below.refl _ _⟩
                        simp only [execOp, Sem.run_bind, hr, Result.andThen_ok, Sem.run_pure]
                      · refine step_intro rfl rfl fun ρ X hc hf hgl hX hp ho => ?_
                        change StepOk _ { dst := _, op := Op.move (Operand.tmp 3), type := _, pos := _, after := _, guard := _ } _ _ _
                        have k3 : ρ (.tmp 3) = .pointer (some ⟨g, 0, none⟩) := ho 3 (by decide)
                        clear hp ho
                        refine StepOk.of_run (v := ?vrd4) (w' := X) ?_ ⟨rfl, Below.refl _ _⟩
                        clear hX
                        go_simp
                        all_goals try go_bits
                        all_goals try simp only [IntWalk.iteOmega]
                        all_goals try go_bits
                        all_goals rfl
                      · refine step_intro rfl rfl fun ρ X hc hf hgl hX hp ho => ?_
                        change StepOk _ { dst := _, op := Op.move (Operand.tmp 7), type := _, pos := _, after := _, guard := _ } _ _ _
                        have k7 : ρ (.tmp 7) = .int .i64 (j : Int) := ho 7 (by decide)
                        clear hp ho
                        refine StepOk.of_run (v := ?vrd5) (w' := X) ?_ ⟨rfl, Below.refl _ _⟩
                        clear hX
                        go_simp
                        all_goals try go_bits
                        all_goals try simp only [IntWalk.iteOmega]
                        all_goals try go_bits
                        all_goals rfl
                      · refine step_intro rfl rfl fun ρ X hc hf hgl hX hp ho => ?_
                        change StepOk _ { dst := _, op := Op.call { callee := Callee.value (Operand.func 20), args := #[Operand.tmp 99, Operand.tmp 100], argTypes := #[25, 3] }, type := _, pos := _, after := _, guard := _ } _ _ _
                        have k99 : ρ (.tmp 99) = ?vrd4 := hp 4 (by decide)
                        have k100 : ρ (.tmp 100) = ?vrd5 := hp 5 (by decide)
                        clear hp ho
                        refine StepOk.of_call (f := 20) (args := #[.pointer (some ⟨g, 0, none⟩), .int .i64 (j : Int)]) (w' := X) ?_ (HCg.out X hX) ?_
                        · go_simp
                          all_goals try rfl
                        · rintro e w'' ⟨v, rfl, hb', hg'⟩; exact ⟨v, rfl, hb', hg'⟩
                      · refine step_intro rfl rfl fun ρ X hc hf hgl hX hp ho => ?_
                        change StepOk _ { dst := _, op := Op.convert 30 9 (Operand.tmp 101), type := _, pos := _, after := _, guard := _ } _ _ _
                        have k101 := hp 6 (by decide)
                        clear hp ho
                        have hr := run_string (P := Try.prog) (T := 30) (e := 5) (S := 9) rfl rfl rfl k101
                        refine StepOk.of_run (v := .string ⟨(c : List UInt8).toArray⟩) (w' := X) ?_ ⟨rfl, Below.refl _ _⟩
                        simp only [execOp, Sem.run_bind, hr, Result.andThen_ok, Sem.run_pure]
                      · refine step_intro rfl rfl fun ρ X hc hf hgl hX hp ho => ?_
                        change StepOk _ { dst := _, op := Op.binOp BinOp.neq 9 (Operand.tmp 98) (Operand.tmp 102) 9, type := _, pos := _, after := _, guard := _ } _ _ _
                        have k98 : ρ (.tmp 98) = (.string ⟨(c : List UInt8).toArray⟩) := hp 3 (by decide)
                        have k102 : ρ (.tmp 102) = (.string ⟨(c : List UInt8).toArray⟩) := hp 7 (by decide)
                        clear hp ho
                        refine StepOk.of_run (v := ?vrd8) (w' := X) ?_ ⟨rfl, Below.refl _ _⟩
                        clear hX
                        go_simp
                        all_goals try go_bits
                        all_goals try simp only [IntWalk.iteOmega]
                        all_goals try go_bits
                        all_goals rfl
                    case grdrd => rfl
                    case rstrd =>
                      intro a0 X hb
                      obtain ⟨x97, hx97⟩ : ∃ x, a0.tmps.getD 97 undef = x := ⟨_, rfl⟩
                      have p97 := hb.done' 2 97 rfl rfl
                      rw [hx97] at p97
                      obtain ⟨x101, hx101⟩ : ∃ x, a0.tmps.getD 101 undef = x := ⟨_, rfl⟩
                      have p101 := hb.done' 6 101 rfl rfl
                      rw [hx101] at p101
                      have hfr := hb.frame ((95, ?vrd0) :: (96, ?vrd1) :: (97, x97) :: (98, (.string ⟨(c : List UInt8).toArray⟩)) :: (99, ?vrd4) :: (100, ?vrd5) :: (101, x101) :: (102, (.string ⟨(c : List UInt8).toArray⟩)) :: (103, ?vrd8) :: []) rfl ⟨hb.done' 0 95 rfl rfl, hb.done' 1 96 rfl rfl, hx97, hb.done' 3 98 rfl rfl, hb.done' 4 99 rfl rfl, hb.done' 5 100 rfl rfl, hx101, hb.done' 7 102 rfl rfl, hb.done' 8 103 rfl rfl, trivial⟩
                      simp only [updL, ↓reduceIte, Nat.reduceEqDiff, Nat.reduceAdd, Nat.zero_add] at hfr
                      have HX := Lib.hid hb.ext
                      clear hb
                      subst hfr
                      have HgX := Lib.hid (Grows.trans' Hgj.out HX.out)
                      go_wp2
                      go_roundw
                      case rel => exact ⟨j + 1, by omega, by simp, HgX⟩
                      case measure => simp [intOf]; omega
                  · have hjl' : ¬ (j : Int) < (n : Int) := by omega
                    go_wp2_with (go_at_call 18; refine HLx.out.mono ?_; rintro e w7 ⟨rfl, rfl⟩)
                    go_roundw
                    case rel => exact ⟨k + 1, _, _, by omega, by simp, Lib.hid (Hh6.out.grows Hgj.out), Lib.hid (Grows.trans' Hg6.out Hgj.out)⟩
                    case measure => simp [intOf]; omega
            · obtain ⟨w4, Hw4⟩ : ∃ w4, Hid (wr = w4) := ⟨_, rfl⟩
              obtain ⟨f4, Hf4⟩ : ∃ f4, Hid (f = f4) := ⟨_, rfl⟩
              obtain ⟨A4, HA4⟩ : ∃ A4, Hid (A = A4) := ⟨_, rfl⟩
              rw [Hw4.out] at c0 Hh Hgr ⊢
              rw [Hf4.out, HA4.out] at Hh
              have Hh4 := Hh
              have Hg4 := Hgr
              have HBy := Lib.hid (hBytes Hh4.out)
              unfold pb at HBy
              go_wp2_with fail
              refine HBy.out.mono ?_
              rintro e w5 ⟨v5, rfl, hb5, hg5⟩
              have Hh5 := Lib.hid (Hh4.out.grows hg5)
              have Hg5 := Lib.hid (Grows.trans' Hg4.out hg5)
              have HPs := Lib.hid (hParse w5 v5 _ _ hb5 (enc_bytes Hh4.out.wf) (wf_norm Hh4.out.wf) (low_norm Hh4.out.wf))
              clear hb5 hg5
              go_wp2_with fail
              refine HPs.out.mono ?_
              rintro e w6 ⟨q, rfl, hp6, _, hg6⟩
              have Hp6 := Lib.hid hp6
              have Hh6 := Lib.hid (Hh5.out.grows hg6)
              have Hg6 := Lib.hid (Grows.trans' Hg5.out hg6)
              clear hp6 hg6
              unfold pb
              obtain ⟨n, Hn⟩ : ∃ n, Hid (A4.l.length = n) := ⟨_, rfl⟩
              obtain ⟨r, Hr⟩ : ∃ r, Hid (freeA A4 = r) := ⟨_, rfl⟩
              obtain ⟨B, HB⟩ : ∃ B, Hid (rowOf (bytesA A4) 243 = B) := ⟨_, rfl⟩
              have hn120 : n ≤ 120 := by rw [← Hn.out]; exact Hh6.out.wf.ntop.1
              have HLg : Hid (∀ X, Grows w6 X → Calls Try.prog 18 #[pb g] X fun e w' => e = .returned (.int .i64 (n : Int)) ∧ X = w') := Lib.hid (fun X hX => by rw [← Hn.out]; exact hLen (Hh6.out.grows hX))
              have HLq : Hid (∀ X, Grows w6 X → Calls Try.prog 18 #[pb q] X fun e w' => e = .returned (.int .i64 (n : Int)) ∧ X = w') := Lib.hid (fun X hX => by have := hLen (Hp6.out.grows hX); rw [show (normA A4).l.length = n by rw [← Hn.out]; exact normL_length _ _] at this; exact this)
              have HFg : Hid (∀ X, Grows w6 X → Calls Try.prog 19 #[pb g] X fun e w' => e = .returned (.int .i64 (r : Int)) ∧ Grows X w') := Lib.hid (fun X hX => by rw [← Hr.out]; exact hFree (Hh6.out.grows hX))
              have HFq : Hid (∀ X, Grows w6 X → Calls Try.prog 19 #[pb q] X fun e w' => e = .returned (.int .i64 (r : Int)) ∧ Grows X w') := Lib.hid (fun X hX => by rw [← Hr.out, ← free_norm A4]; exact hFree (Hp6.out.grows hX))
              have HBg : Hid (∀ X, Grows w6 X → Calls Try.prog 22 #[pb g] X fun e w' => ∃ v, e = .returned v ∧ Byt w' v B ∧ Grows X w') := Lib.hid (fun X hX => by rw [← HB.out]; exact hBytes (Hh6.out.grows hX))
              have HBq : Hid (∀ X, Grows w6 X → Calls Try.prog 22 #[pb q] X fun e w' => ∃ v, e = .returned v ∧ Byt w' v B ∧ Grows X w') := Lib.hid (fun X hX => by rw [← HB.out, ← bytes_norm A4]; exact hBytes (Hp6.out.grows hX))
              unfold pb at HLg HLq HFg HFq HBg HBq
              clear HPs HBy
              go_wp2
              refine specs_region
                #[[], [0], [0, 1], [0, 1, 2], [0, 1, 2, 3], [0, 1, 2, 3, 4], [0, 1, 2, 3, 4, 5], [0, 1, 2, 3, 4, 5, 6], [0, 1, 2, 3, 4, 5, 6, 7], [0, 1, 2, 3, 4, 5, 6, 7, 8], [0, 1, 2, 3, 4, 5, 6, 7], [0, 1, 2, 3, 4, 5, 6, 7, 8, 9, 10], [0, 1, 2, 3, 4, 5, 6, 7, 8, 9, 10, 11], [0, 1, 2, 3, 4, 5, 6, 7, 8, 9, 10, 11, 12], [0, 1, 2, 3, 4, 5, 6, 7, 8, 9, 10, 11, 12, 13], [0, 1, 2, 3, 4, 5, 6, 7, 8, 9, 10, 11, 12, 13, 14], [0, 1, 2, 3, 4, 5, 6, 7, 8, 9, 10, 11, 12, 13, 14, 15], [0, 1, 2, 3, 4, 5, 6, 7, 8, 9, 10, 11, 12, 13, 14], [0, 1, 2, 3, 4, 5, 6, 7, 8, 9, 10, 11, 12, 13, 14, 15, 16, 17], [0, 1, 2, 3, 4, 5, 6, 7, 8, 9, 10, 11, 12, 13, 14, 15, 16, 17, 18], [0, 1, 2, 3, 4, 5, 6, 7, 8, 9, 10, 11, 12, 13, 14, 15, 16, 17, 18, 19], [0, 1, 2, 3, 4, 5, 6, 7, 8, 9, 10, 11, 12, 13, 14, 15, 16, 17, 18, 19, 20], [0, 1, 2, 3, 4, 5, 6, 7, 8, 9, 10, 11, 12, 13, 14, 15, 16, 17, 18, 19, 20, 21], [0, 1, 2, 3, 4, 5, 6, 7, 8, 9, 10, 11, 12, 13, 14, 15, 16, 17, 18, 19, 20, 21, 22], [0, 1, 2, 3, 4, 5, 6, 7, 8, 9, 10, 11, 12, 13, 14, 15, 16, 17, 18, 19, 20, 21, 22, 23], [0, 1, 2, 3, 4, 5, 6, 7, 8, 9, 10, 11, 12, 13, 14, 15, 16, 17, 18, 19, 20, 21], [0, 1, 2, 3, 4, 5, 6, 7, 8, 9, 10, 11, 12, 13, 14, 15, 16, 17, 18, 19, 20, 21, 22, 23, 25], [0, 1, 2, 3, 4, 5, 6, 7, 8, 9, 10, 11, 12, 13, 14, 15, 16, 17, 18, 19, 20, 21, 22, 23, 25, 26], [0, 1, 2, 3, 4, 5, 6, 7, 8, 9, 10, 11, 12, 13, 14, 15, 16, 17, 18, 19, 20, 21, 22, 23, 24, 25, 26, 27], [0, 1, 2, 3, 4, 5, 6, 7, 8, 9, 10, 11, 12, 13, 14, 15, 16, 17, 18, 19, 20, 21, 22, 23, 24, 25, 26, 27, 28]] #[[6], [], [], [], [5], [], [], [], [5], [], [3], [], [], [], [], [5], [], [3], [], [], [], [], [5], [], [], [3], [], [], [], []] #[true, true, true, true, true, true, true, true, true, true, true, true, true, true, true, true, true, true, true, true, true, true, true, true, true, true, true, true, true, true]
                ((.val ?vsc0) :: (.val ?vsc1) :: (.val ?vsc2) :: (.val ?vsc3) :: (.val ?vsc4) :: (.val ?vsc5) :: (.val ?vsc6) :: (.val ?vsc7) :: (.val ?vsc8) :: (.val ?vsc9) :: (.val ?vsc10) :: (.val ?vsc11) :: (.val ?vsc12) :: (.val ?vsc13) :: (.val ?vsc14) :: (.val ?vsc15) :: (.val ?vsc16) :: (.val ?vsc17) :: (.val ?vsc18) :: (.val ?vsc19) :: (.val ?vsc20) :: (.val ?vsc21) :: (.val ?vsc22) :: (.byt (B)) :: (.val (.string ⟨(B : List UInt8).toArray⟩)) :: (.val ?vsc25) :: (.byt (B)) :: (.val (.string ⟨(B : List UInt8).toArray⟩)) :: (.val ?vsc28) :: (.val ?vsc29) :: []).toArray
                hmx ?chksc ?grdsc ?stpsc ?rstsc
              case chksc => rfl
              case stpsc =>
                refine ⟨?_, ?_, ?_, ?_, ?_, ?_, ?_, ?_, ?_, ?_, ?_, ?_, ?_, ?_, ?_, ?_, ?_, ?_, ?_, ?_, ?_, ?_, ?_, ?_, ?_, ?_, ?_, ?_, ?_, ?_, trivial⟩
                · refine step_intro rfl rfl fun ρ X hc hf hgl hX hp ho => ?_
                  change StepOk _ { dst := _, op := Op.move (Operand.tmp 6), type := _, pos := _, after := _, guard := _ } _ _ _
                  have k6 : ρ (.tmp 6) = .int .i64 0 := ho 6 (by decide)
                  clear hp ho
                  refine StepOk.of_run (v := ?vsc0) (w' := X) ?_ ⟨rfl, Below.refl _ _⟩
                  clear hX
                  go_simp
                  all_goals try go_bits
                  all_goals try simp only [IntWalk.iteOmega]
                  all_goals try go_bits
                  all_goals rfl
                · refine step_intro rfl rfl fun ρ X hc hf hgl hX hp ho => ?_
                  change StepOk _ { dst := _, op := Op.call { callee := Callee.value (Operand.func 13), args := #[Operand.tmp 59], argTypes := #[36] }, type := _, pos := _, after := _, guard := _ } _ _ _
                  have k59 : ρ (.tmp 59) = ?vsc0 := hp 0 (by decide)
                  clear hp ho
                  refine StepOk.of_call (f := 13) (args := #[?vsc0]) (w' := X) ?_ (vNum _ X) ?_
                  · go_simp
                    all_goals try go_bits
                    all_goals try rfl
                  · rintro e w'' ⟨rfl, rfl⟩; refine ⟨_, rfl, ?_, Below.refl _ _⟩; show _ = ?vsc1; rfl
                · refine step_intro rfl rfl fun ρ X hc hf hgl hX hp ho => ?_
                  change StepOk _ { dst := _, op := Op.binOp BinOp.neq 3 (Operand.tmp 60) (Operand.const (Value.int IntKind.i64 0)) 3, type := _, pos := _, after := _, guard := _ } _ _ _
                  have k60 : ρ (.tmp 60) = ?vsc1 := hp 1 (by decide)
                  clear hp ho
                  refine StepOk.of_run (v := ?vsc2) (w' := X) ?_ ⟨rfl, Below.refl _ _⟩
                  clear hX
                  go_simp
                  all_goals try go_bits
                  all_goals try simp only [IntWalk.iteOmega]
                  all_goals try go_bits
                  all_goals rfl
                · refine step_intro rfl rfl fun ρ X hc hf hgl hX hp ho => ?_
                  change StepOk _ { dst := _, op := Op.move (Operand.tmp 61), type := _, pos := _, after := _, guard := _ } _ _ _
                  have k61 : ρ (.tmp 61) = ?vsc2 := hp 2 (by decide)
                  clear hp ho
                  refine StepOk.of_run (v := ?vsc3) (w' := X) ?_ ⟨rfl, Below.refl _ _⟩
                  clear hX
                  go_simp
                  all_goals try go_bits
                  all_goals try simp only [IntWalk.iteOmega]
                  all_goals try go_bits
                  all_goals rfl
                · refine step_intro rfl rfl fun ρ X hc hf hgl hX hp ho => ?_
                  change StepOk _ { dst := _, op := Op.move (Operand.tmp 5), type := _, pos := _, after := _, guard := _ } _ _ _
                  have k5 : ρ (.tmp 5) = .pointer (some ⟨q, 0, none⟩) := ho 5 (by decide)
                  clear hp ho
                  refine StepOk.of_run (v := ?vsc4) (w' := X) ?_ ⟨rfl, Below.refl _ _⟩
                  clear hX
                  go_simp
                  all_goals try go_bits
                  all_goals try simp only [IntWalk.iteOmega]
                  all_goals try go_bits
                  all_goals rfl
                · refine step_intro rfl rfl fun ρ X hc hf hgl hX hp ho => ?_
                  change StepOk _ { dst := _, op := Op.binOp BinOp.eql 25 (Operand.tmp 63) (Operand.const (Value.pointer none)) 25, type := _, pos := _, after := _, guard := _ } _ _ _
                  have k63 : ρ (.tmp 63) = ?vsc4 := hp 4 (by decide)
                  clear hp ho
                  refine StepOk.of_run (v := ?vsc5) (w' := X) ?_ ⟨rfl, Below.refl _ _⟩
                  clear hX
                  go_simp
                  all_goals try go_bits
                  all_goals try simp only [IntWalk.iteOmega]
                  all_goals try go_bits
                  all_goals rfl
                · refine step_intro rfl rfl fun ρ X hc hf hgl hX hp ho => ?_
                  change StepOk _ { dst := _, op := Op.pick (Operand.tmp 62) (Operand.const (Value.bool true)) (Operand.tmp 64), type := _, pos := _, after := _, guard := _ } _ _ _
                  have k62 : ρ (.tmp 62) = ?vsc3 := hp 3 (by decide)
                  have k64 : ρ (.tmp 64) = ?vsc5 := hp 5 (by decide)
                  clear hp ho
                  refine StepOk.of_run (v := ?vsc6) (w' := X) ?_ ⟨rfl, Below.refl _ _⟩
                  clear hX
                  go_simp
                  all_goals try go_bits
                  all_goals try simp only [IntWalk.iteOmega]
                  all_goals try go_bits
                  all_goals rfl
                · refine step_intro rfl rfl fun ρ X hc hf hgl hX hp ho => ?_
                  change StepOk _ { dst := _, op := Op.move (Operand.tmp 65), type := _, pos := _, after := _, guard := _ } _ _ _
                  have k65 : ρ (.tmp 65) = ?vsc6 := hp 6 (by decide)
                  clear hp ho
                  refine StepOk.of_run (v := ?vsc7) (w' := X) ?_ ⟨rfl, Below.refl _ _⟩
                  clear hX
                  go_simp
                  all_goals try go_bits
                  all_goals try simp only [IntWalk.iteOmega]
                  all_goals try go_bits
                  all_goals rfl
                · refine step_intro rfl rfl fun ρ X hc hf hgl hX hp ho => ?_
                  change StepOk _ { dst := _, op := Op.move (Operand.tmp 5), type := _, pos := _, after := _, guard := _ } _ _ _
                  have k5 : ρ (.tmp 5) = .pointer (some ⟨q, 0, none⟩) := ho 5 (by decide)
                  clear hp ho
                  refine StepOk.of_run (v := ?vsc8) (w' := X) ?_ ⟨rfl, Below.refl _ _⟩
                  clear hX
                  go_simp
                  all_goals try go_bits
                  all_goals try simp only [IntWalk.iteOmega]
                  all_goals try go_bits
                  all_goals rfl
                · refine step_intro rfl rfl fun ρ X hc hf hgl hX hp ho => ?_
                  change StepOk _ { dst := _, op := Op.call { callee := Callee.value (Operand.func 18), args := #[Operand.tmp 67], argTypes := #[25] }, type := _, pos := _, after := _, guard := _ } _ _ _
                  have k67 : ρ (.tmp 67) = ?vsc8 := hp 8 (by decide)
                  clear hp ho
                  refine StepOk.of_call (f := 18) (args := #[?vsc8]) (w' := X) ?_ (HLq.out X hX) ?_
                  · go_simp
                    all_goals try go_bits
                    all_goals try rfl
                  · rintro e w'' ⟨rfl, rfl⟩; refine ⟨_, rfl, ?_, Below.refl _ _⟩; show _ = ?vsc9; rfl
                · refine step_intro rfl rfl fun ρ X hc hf hgl hX hp ho => ?_
                  change StepOk _ { dst := _, op := Op.move (Operand.tmp 3), type := _, pos := _, after := _, guard := _ } _ _ _
                  have k3 : ρ (.tmp 3) = .pointer (some ⟨g, 0, none⟩) := ho 3 (by decide)
                  clear hp ho
                  refine StepOk.of_run (v := ?vsc10) (w' := X) ?_ ⟨rfl, Below.refl _ _⟩
                  clear hX
                  go_simp
                  all_goals try go_bits
                  all_goals try simp only [IntWalk.iteOmega]
                  all_goals try go_bits
                  all_goals rfl
                · refine step_intro rfl rfl fun ρ X hc hf hgl hX hp ho => ?_
                  change StepOk _ { dst := _, op := Op.call { callee := Callee.value (Operand.func 18), args := #[Operand.tmp 69], argTypes := #[25] }, type := _, pos := _, after := _, guard := _ } _ _ _
                  have k69 : ρ (.tmp 69) = ?vsc10 := hp 10 (by decide)
                  clear hp ho
                  refine StepOk.of_call (f := 18) (args := #[?vsc10]) (w' := X) ?_ (HLg.out X hX) ?_
                  · go_simp
                    all_goals try go_bits
                    all_goals try rfl
                  · rintro e w'' ⟨rfl, rfl⟩; refine ⟨_, rfl, ?_, Below.refl _ _⟩; show _ = ?vsc11; rfl
                · refine step_intro rfl rfl fun ρ X hc hf hgl hX hp ho => ?_
                  change StepOk _ { dst := _, op := Op.binOp BinOp.neq 3 (Operand.tmp 68) (Operand.tmp 70) 3, type := _, pos := _, after := _, guard := _ } _ _ _
                  have k68 : ρ (.tmp 68) = ?vsc9 := hp 9 (by decide)
                  have k70 : ρ (.tmp 70) = ?vsc11 := hp 11 (by decide)
                  clear hp ho
                  refine StepOk.of_run (v := ?vsc12) (w' := X) ?_ ⟨rfl, Below.refl _ _⟩
                  clear hX
                  go_simp
                  all_goals try go_bits
                  all_goals try simp only [IntWalk.iteOmega]
                  all_goals try go_bits
                  all_goals rfl
                · refine step_intro rfl rfl fun ρ X hc hf hgl hX hp ho => ?_
                  change StepOk _ { dst := _, op := Op.pick (Operand.tmp 66) (Operand.const (Value.bool true)) (Operand.tmp 71), type := _, pos := _, after := _, guard := _ } _ _ _
                  have k66 : ρ (.tmp 66) = ?vsc7 := hp 7 (by decide)
                  have k71 : ρ (.tmp 71) = ?vsc12 := hp 12 (by decide)
                  clear hp ho
                  refine StepOk.of_run (v := ?vsc13) (w' := X) ?_ ⟨rfl, Below.refl _ _⟩
                  clear hX
                  go_simp
                  all_goals try go_bits
                  all_goals try simp only [IntWalk.iteOmega]
                  all_goals try go_bits
                  all_goals rfl
                · refine step_intro rfl rfl fun ρ X hc hf hgl hX hp ho => ?_
                  change StepOk _ { dst := _, op := Op.move (Operand.tmp 72), type := _, pos := _, after := _, guard := _ } _ _ _
                  have k72 : ρ (.tmp 72) = ?vsc13 := hp 13 (by decide)
                  clear hp ho
                  refine StepOk.of_run (v := ?vsc14) (w' := X) ?_ ⟨rfl, Below.refl _ _⟩
                  clear hX
                  go_simp
                  all_goals try go_bits
                  all_goals try simp only [IntWalk.iteOmega]
                  all_goals try go_bits
                  all_goals rfl
                · refine step_intro rfl rfl fun ρ X hc hf hgl hX hp ho => ?_
                  change StepOk _ { dst := _, op := Op.move (Operand.tmp 5), type := _, pos := _, after := _, guard := _ } _ _ _
                  have k5 : ρ (.tmp 5) = .pointer (some ⟨q, 0, none⟩) := ho 5 (by decide)
                  clear hp ho
                  refine StepOk.of_run (v := ?vsc15) (w' := X) ?_ ⟨rfl, Below.refl _ _⟩
                  clear hX
                  go_simp
                  all_goals try go_bits
                  all_goals try simp only [IntWalk.iteOmega]
                  all_goals try go_bits
                  all_goals rfl
                · refine step_intro rfl rfl fun ρ X hc hf hgl hX hp ho => ?_
                  change StepOk _ { dst := _, op := Op.call { callee := Callee.value (Operand.func 19), args := #[Operand.tmp 74], argTypes := #[25] }, type := _, pos := _, after := _, guard := _ } _ _ _
                  have k74 : ρ (.tmp 74) = ?vsc15 := hp 15 (by decide)
                  clear hp ho
                  refine StepOk.of_call (f := 19) (args := #[?vsc15]) (w' := X) ?_ (HFq.out X hX) ?_
                  · go_simp
                    all_goals try go_bits
                    all_goals try rfl
                  · rintro e w'' ⟨rfl, hg'⟩; refine ⟨_, rfl, ?_, hg'⟩; show _ = ?vsc16; rfl
                · refine step_intro rfl rfl fun ρ X hc hf hgl hX hp ho => ?_
                  change StepOk _ { dst := _, op := Op.move (Operand.tmp 3), type := _, pos := _, after := _, guard := _ } _ _ _
                  have k3 : ρ (.tmp 3) = .pointer (some ⟨g, 0, none⟩) := ho 3 (by decide)
                  clear hp ho
                  refine StepOk.of_run (v := ?vsc17) (w' := X) ?_ ⟨rfl, Below.refl _ _⟩
                  clear hX
                  go_simp
                  all_goals try go_bits
                  all_goals try simp only [IntWalk.iteOmega]
                  all_goals try go_bits
                  all_goals rfl
                · refine step_intro rfl rfl fun ρ X hc hf hgl hX hp ho => ?_
                  change StepOk _ { dst := _, op := Op.call { callee := Callee.value (Operand.func 19), args := #[Operand.tmp 76], argTypes := #[25] }, type := _, pos := _, after := _, guard := _ } _ _ _
                  have k76 : ρ (.tmp 76) = ?vsc17 := hp 17 (by decide)
                  clear hp ho
                  refine StepOk.of_call (f := 19) (args := #[?vsc17]) (w' := X) ?_ (HFg.out X hX) ?_
                  · go_simp
                    all_goals try go_bits
                    all_goals try rfl
                  · rintro e w'' ⟨rfl, hg'⟩; refine ⟨_, rfl, ?_, hg'⟩; show _ = ?vsc18; rfl
                · refine step_intro rfl rfl fun ρ X hc hf hgl hX hp ho => ?_
                  change StepOk _ { dst := _, op := Op.binOp BinOp.neq 3 (Operand.tmp 75) (Operand.tmp 77) 3, type := _, pos := _, after := _, guard := _ } _ _ _
                  have k75 : ρ (.tmp 75) = ?vsc16 := hp 16 (by decide)
                  have k77 : ρ (.tmp 77) = ?vsc18 := hp 18 (by decide)
                  clear hp ho
                  refine StepOk.of_run (v := ?vsc19) (w' := X) ?_ ⟨rfl, Below.refl _ _⟩
                  clear hX
                  go_simp
                  all_goals try go_bits
                  all_goals try simp only [IntWalk.iteOmega]
                  all_goals try go_bits
                  all_goals rfl
                · refine step_intro rfl rfl fun ρ X hc hf hgl hX hp ho => ?_
                  change StepOk _ { dst := _, op := Op.pick (Operand.tmp 73) (Operand.const (Value.bool true)) (Operand.tmp 78), type := _, pos := _, after := _, guard := _ } _ _ _
                  have k73 : ρ (.tmp 73) = ?vsc14 := hp 14 (by decide)
                  have k78 : ρ (.tmp 78) = ?vsc19 := hp 19 (by decide)
                  clear hp ho
                  refine StepOk.of_run (v := ?vsc20) (w' := X) ?_ ⟨rfl, Below.refl _ _⟩
                  clear hX
                  go_simp
                  all_goals try go_bits
                  all_goals try simp only [IntWalk.iteOmega]
                  all_goals try go_bits
                  all_goals rfl
                · refine step_intro rfl rfl fun ρ X hc hf hgl hX hp ho => ?_
                  change StepOk _ { dst := _, op := Op.move (Operand.tmp 79), type := _, pos := _, after := _, guard := _ } _ _ _
                  have k79 : ρ (.tmp 79) = ?vsc20 := hp 20 (by decide)
                  clear hp ho
                  refine StepOk.of_run (v := ?vsc21) (w' := X) ?_ ⟨rfl, Below.refl _ _⟩
                  clear hX
                  go_simp
                  all_goals try go_bits
                  all_goals try simp only [IntWalk.iteOmega]
                  all_goals try go_bits
                  all_goals rfl
                · refine step_intro rfl rfl fun ρ X hc hf hgl hX hp ho => ?_
                  change StepOk _ { dst := _, op := Op.move (Operand.tmp 5), type := _, pos := _, after := _, guard := _ } _ _ _
                  have k5 : ρ (.tmp 5) = .pointer (some ⟨q, 0, none⟩) := ho 5 (by decide)
                  clear hp ho
                  refine StepOk.of_run (v := ?vsc22) (w' := X) ?_ ⟨rfl, Below.refl _ _⟩
                  clear hX
                  go_simp
                  all_goals try go_bits
                  all_goals try simp only [IntWalk.iteOmega]
                  all_goals try go_bits
                  all_goals rfl
                · refine step_intro rfl rfl fun ρ X hc hf hgl hX hp ho => ?_
                  change StepOk _ { dst := _, op := Op.call { callee := Callee.value (Operand.func 22), args := #[Operand.tmp 81], argTypes := #[25] }, type := _, pos := _, after := _, guard := _ } _ _ _
                  have k81 : ρ (.tmp 81) = ?vsc22 := hp 22 (by decide)
                  clear hp ho
                  refine StepOk.of_call (f := 22) (args := #[.pointer (some ⟨q, 0, none⟩)]) (w' := X) ?_ (HBq.out X hX) ?_
                  · go_simp
                    all_goals try rfl
                  · rintro e w'' ⟨v, rfl, hb', hg'⟩; exact ⟨v, rfl, hb', hg'⟩
                · refine step_intro rfl rfl fun ρ X hc hf hgl hX hp ho => ?_
                  change StepOk _ { dst := _, op := Op.convert 30 9 (Operand.tmp 82), type := _, pos := _, after := _, guard := _ } _ _ _
                  have k82 := hp 23 (by decide)
                  clear hp ho
                  have hr := run_string (P := Try.prog) (T := 30) (e := 5) (S := 9) rfl rfl rfl k82
                  refine StepOk.of_run (v := .string ⟨(B : List UInt8).toArray⟩) (w' := X) ?_ ⟨rfl, Below.refl _ _⟩
                  simp only [execOp, Sem.run_bind, hr, Result.andThen_ok, Sem.run_pure]
                · refine step_intro rfl rfl fun ρ X hc hf hgl hX hp ho => ?_
                  change StepOk _ { dst := _, op := Op.move (Operand.tmp 3), type := _, pos := _, after := _, guard := _ } _ _ _
                  have k3 : ρ (.tmp 3) = .pointer (some ⟨g, 0, none⟩) := ho 3 (by decide)
                  clear hp ho
                  refine StepOk.of_run (v := ?vsc25) (w' := X) ?_ ⟨rfl, Below.refl _ _⟩
                  clear hX
                  go_simp
                  all_goals try go_bits
                  all_goals try simp only [IntWalk.iteOmega]
                  all_goals try go_bits
                  all_goals rfl
                · refine step_intro rfl rfl fun ρ X hc hf hgl hX hp ho => ?_
                  change StepOk _ { dst := _, op := Op.call { callee := Callee.value (Operand.func 22), args := #[Operand.tmp 84], argTypes := #[25] }, type := _, pos := _, after := _, guard := _ } _ _ _
                  have k84 : ρ (.tmp 84) = ?vsc25 := hp 25 (by decide)
                  clear hp ho
                  refine StepOk.of_call (f := 22) (args := #[.pointer (some ⟨g, 0, none⟩)]) (w' := X) ?_ (HBg.out X hX) ?_
                  · go_simp
                    all_goals try rfl
                  · rintro e w'' ⟨v, rfl, hb', hg'⟩; exact ⟨v, rfl, hb', hg'⟩
                · refine step_intro rfl rfl fun ρ X hc hf hgl hX hp ho => ?_
                  change StepOk _ { dst := _, op := Op.convert 30 9 (Operand.tmp 85), type := _, pos := _, after := _, guard := _ } _ _ _
                  have k85 := hp 26 (by decide)
                  clear hp ho
                  have hr := run_string (P := Try.prog) (T := 30) (e := 5) (S := 9) rfl rfl rfl k85
                  refine StepOk.of_run (v := .string ⟨(B : List UInt8).toArray⟩) (w' := X) ?_ ⟨rfl, Below.refl _ _⟩
                  simp only [execOp, Sem.run_bind, hr, Result.andThen_ok, Sem.run_pure]
                · refine step_intro rfl rfl fun ρ X hc hf hgl hX hp ho => ?_
                  change StepOk _ { dst := _, op := Op.binOp BinOp.neq 9 (Operand.tmp 83) (Operand.tmp 86) 9, type := _, pos := _, after := _, guard := _ } _ _ _
                  have k83 : ρ (.tmp 83) = (.string ⟨(B : List UInt8).toArray⟩) := hp 24 (by decide)
                  have k86 : ρ (.tmp 86) = (.string ⟨(B : List UInt8).toArray⟩) := hp 27 (by decide)
                  clear hp ho
                  refine StepOk.of_run (v := ?vsc28) (w' := X) ?_ ⟨rfl, Below.refl _ _⟩
                  clear hX
                  go_simp
                  all_goals try go_bits
                  all_goals try simp only [IntWalk.iteOmega]
                  all_goals try go_bits
                  all_goals rfl
                · refine step_intro rfl rfl fun ρ X hc hf hgl hX hp ho => ?_
                  change StepOk _ { dst := _, op := Op.pick (Operand.tmp 80) (Operand.const (Value.bool true)) (Operand.tmp 87), type := _, pos := _, after := _, guard := _ } _ _ _
                  have k80 : ρ (.tmp 80) = ?vsc21 := hp 21 (by decide)
                  have k87 : ρ (.tmp 87) = ?vsc28 := hp 28 (by decide)
                  clear hp ho
                  refine StepOk.of_run (v := ?vsc29) (w' := X) ?_ ⟨rfl, Below.refl _ _⟩
                  clear hX
                  go_simp
                  all_goals try go_bits
                  all_goals try simp only [IntWalk.iteOmega]
                  all_goals try go_bits
                  all_goals rfl
              case grdsc => rfl
              case rstsc =>
                intro a0 X hb
                obtain ⟨x82, hx82⟩ : ∃ x, a0.tmps.getD 82 undef = x := ⟨_, rfl⟩
                have p82 := hb.done' 23 82 rfl rfl
                rw [hx82] at p82
                obtain ⟨x85, hx85⟩ : ∃ x, a0.tmps.getD 85 undef = x := ⟨_, rfl⟩
                have p85 := hb.done' 26 85 rfl rfl
                rw [hx85] at p85
                have hfr := hb.frame ((59, ?vsc0) :: (60, ?vsc1) :: (61, ?vsc2) :: (62, ?vsc3) :: (63, ?vsc4) :: (64, ?vsc5) :: (65, ?vsc6) :: (66, ?vsc7) :: (67, ?vsc8) :: (68, ?vsc9) :: (69, ?vsc10) :: (70, ?vsc11) :: (71, ?vsc12) :: (72, ?vsc13) :: (73, ?vsc14) :: (74, ?vsc15) :: (75, ?vsc16) :: (76, ?vsc17) :: (77, ?vsc18) :: (78, ?vsc19) :: (79, ?vsc20) :: (80, ?vsc21) :: (81, ?vsc22) :: (82, x82) :: (83, (.string ⟨(B : List UInt8).toArray⟩)) :: (84, ?vsc25) :: (85, x85) :: (86, (.string ⟨(B : List UInt8).toArray⟩)) :: (87, ?vsc28) :: (88, ?vsc29) :: []) rfl ⟨hb.done' 0 59 rfl rfl, hb.done' 1 60 rfl rfl, hb.done' 2 61 rfl rfl, hb.done' 3 62 rfl rfl, hb.done' 4 63 rfl rfl, hb.done' 5 64 rfl rfl, hb.done' 6 65 rfl rfl, hb.done' 7 66 rfl rfl, hb.done' 8 67 rfl rfl, hb.done' 9 68 rfl rfl, hb.done' 10 69 rfl rfl, hb.done' 11 70 rfl rfl, hb.done' 12 71 rfl rfl, hb.done' 13 72 rfl rfl, hb.done' 14 73 rfl rfl, hb.done' 15 74 rfl rfl, hb.done' 16 75 rfl rfl, hb.done' 17 76 rfl rfl, hb.done' 18 77 rfl rfl, hb.done' 19 78 rfl rfl, hb.done' 20 79 rfl rfl, hb.done' 21 80 rfl rfl, hb.done' 22 81 rfl rfl, hx82, hb.done' 24 83 rfl rfl, hb.done' 25 84 rfl rfl, hx85, hb.done' 27 86 rfl rfl, hb.done' 28 87 rfl rfl, hb.done' 29 88 rfl rfl, trivial⟩
                simp only [updL, ↓reduceIte, Nat.reduceEqDiff, Nat.reduceAdd, Nat.zero_add] at hfr
                have HX := Lib.hid hb.ext
                clear hb
                subst hfr
                have HgA := HX
                go_wp2
                go_loopw [7] (fun t7 wq => ∃ j : Nat, j ≤ n ∧ t7 = .int .i64 j ∧ Hid (Grows w6 wq)) (fun t7 _ => n - (intOf t7).toNat)
                case atStart => exact ⟨0, by omega, rfl, HgA⟩
                case round =>
                  obtain ⟨j, hj, rfl, Hgj⟩ := hrel
                  have HLx := Lib.hid (HLg.out _ Hgj.out)
                  by_cases hjl : j < n
                  · have hjl' : (j : Int) < (n : Int) := by omega
                    obtain ⟨c, Hcc⟩ : ∃ c, Hid ((cl A4.l j).p = c) := ⟨_, rfl⟩
                    have HCg : Hid (∀ X, Grows wr X → Calls Try.prog 20 #[pb g, .int .i64 (j : Int)] X fun e w' => ∃ v, e = .returned v ∧ Byt w' v c ∧ Grows X w') := Lib.hid (fun X hX => hCellB (Hh6.out.grows (Grows.trans' Hgj.out hX)) j (by rw [Hn.out]; exact hjl) c Hcc.out)
                    have HCq : Hid (∀ X, Grows wr X → Calls Try.prog 20 #[pb q, .int .i64 (j : Int)] X fun e w' => ∃ v, e = .returned v ∧ Byt w' v c ∧ Grows X w') := Lib.hid (fun X hX => hCellB (Hp6.out.grows (Grows.trans' Hgj.out hX)) j (by rw [norm_len, Hn.out]; exact hjl) c (by rw [norm_p A4 j (by rw [Hn.out]; exact hjl)]; exact Hcc.out))
                    unfold pb at HCg HCq
                    go_wp2_with (go_at_call 18; refine HLx.out.mono ?_; rintro e w7 ⟨rfl, rfl⟩)
                    refine specs_region
                      #[[], [], [0, 1], [0, 1, 2], [], [], [0, 1, 2, 4, 5], [0, 1, 2, 4, 5, 6], [0, 1, 2, 3, 4, 5, 6, 7]] #[[5], [7], [], [], [3], [7], [], [], []] #[true, true, true, true, true, true, true, true, true]
                      ((.val ?vsd0) :: (.val ?vsd1) :: (.byt (c)) :: (.val (.string ⟨(c : List UInt8).toArray⟩)) :: (.val ?vsd4) :: (.val ?vsd5) :: (.byt (c)) :: (.val (.string ⟨(c : List UInt8).toArray⟩)) :: (.val ?vsd8) :: []).toArray
                      hmx ?chksd ?grdsd ?stpsd ?rstsd
                    case chksd => rfl
                    case stpsd =>
                      refine ⟨?_, ?_, ?_, ?_, ?_, ?_, ?_, ?_, ?_, trivial⟩
                      · refine step_intro rfl rfl fun ρ X hc hf hgl hX hp ho => ?_
                        change StepOk _ { dst := _, op := Op.move (Operand.tmp 5), type := _, pos := _, after := _, guard := _ } _ _ _
                        have k5 : ρ (.tmp 5) = .pointer (some ⟨q, 0, none⟩) := ho 5 (by decide)
                        clear hp ho
                        refine StepOk.of_run (v := ?vsd0) (w' := X) ?_ ⟨rfl, Below.refl _ _⟩
                        clear hX
                        go_simp
                        all_goals try go_bits
                        all_goals try simp only [IntWalk.iteOmega]
                        all_goals try go_bits
                        all_goals rfl
                      · refine step_intro rfl rfl fun ρ X hc hf hgl hX hp ho => ?_
                        change StepOk _ { dst := _, op := Op.move (Operand.tmp 7), type := _, pos := _, after := _, guard := _ } _ _ _
                        have k7 : ρ (.tmp 7) = .int .i64 (j : Int) := ho 7 (by decide)
                        clear hp ho
                        refine StepOk.of_run (v := ?vsd1) (w' := X) ?_ ⟨rfl, Below.refl _ _⟩
                        clear hX
                        go_simp
                        all_goals try go_bits
                        all_goals try simp only [IntWalk.iteOmega]
                        all_goals try go_bits
                        all_goals rfl
                      · refine step_intro rfl rfl fun ρ X hc hf hgl hX hp ho => ?_
                        change StepOk _ { dst := _, op := Op.call { callee := Callee.value (Operand.func 20), args := #[Operand.tmp 95, Operand.tmp 96], argTypes := #[25, 3] }, type := _, pos := _, after := _, guard := _ } _ _ _
                        have k95 : ρ (.tmp 95) = ?vsd0 := hp 0 (by decide)
                        have k96 : ρ (.tmp 96) = ?vsd1 := hp 1 (by decide)
                        clear hp ho
                        refine StepOk.of_call (f := 20) (args := #[.pointer (some ⟨q, 0, none⟩), .int .i64 (j : Int)]) (w' := X) ?_ (HCq.out X hX) ?_
                        · go_simp
                          all_goals try rfl
                        · rintro e w'' ⟨v, rfl, hb', hg'⟩; exact ⟨v, rfl, hb', hg'⟩
                      · refine step_intro rfl rfl fun ρ X hc hf hgl hX hp ho => ?_
                        change StepOk _ { dst := _, op := Op.convert 30 9 (Operand.tmp 97), type := _, pos := _, after := _, guard := _ } _ _ _
                        have k97 := hp 2 (by decide)
                        clear hp ho
                        have hr := run_string (P := Try.prog) (T := 30) (e := 5) (S := 9) rfl rfl rfl k97
                        refine StepOk.of_run (v := .string ⟨(c : List UInt8).toArray⟩) (w' := X) ?_ ⟨rfl, Below.refl _ _⟩
                        simp only [execOp, Sem.run_bind, hr, Result.andThen_ok, Sem.run_pure]
                      · refine step_intro rfl rfl fun ρ X hc hf hgl hX hp ho => ?_
                        change StepOk _ { dst := _, op := Op.move (Operand.tmp 3), type := _, pos := _, after := _, guard := _ } _ _ _
                        have k3 : ρ (.tmp 3) = .pointer (some ⟨g, 0, none⟩) := ho 3 (by decide)
                        clear hp ho
                        refine StepOk.of_run (v := ?vsd4) (w' := X) ?_ ⟨rfl, Below.refl _ _⟩
                        clear hX
                        go_simp
                        all_goals try go_bits
                        all_goals try simp only [IntWalk.iteOmega]
                        all_goals try go_bits
                        all_goals rfl
                      · refine step_intro rfl rfl fun ρ X hc hf hgl hX hp ho => ?_
                        change StepOk _ { dst := _, op := Op.move (Operand.tmp 7), type := _, pos := _, after := _, guard := _ } _ _ _
                        have k7 : ρ (.tmp 7) = .int .i64 (j : Int) := ho 7 (by decide)
                        clear hp ho
                        refine StepOk.of_run (v := ?vsd5) (w' := X) ?_ ⟨rfl, Below.refl _ _⟩
                        clear hX
                        go_simp
                        all_goals try go_bits
                        all_goals try simp only [IntWalk.iteOmega]
                        all_goals try go_bits
                        all_goals rfl
                      · refine step_intro rfl rfl fun ρ X hc hf hgl hX hp ho => ?_
                        change StepOk _ { dst := _, op := Op.call { callee := Callee.value (Operand.func 20), args := #[Operand.tmp 99, Operand.tmp 100], argTypes := #[25, 3] }, type := _, pos := _, after := _, guard := _ } _ _ _
                        have k99 : ρ (.tmp 99) = ?vsd4 := hp 4 (by decide)
                        have k100 : ρ (.tmp 100) = ?vsd5 := hp 5 (by decide)
                        clear hp ho
                        refine StepOk.of_call (f := 20) (args := #[.pointer (some ⟨g, 0, none⟩), .int .i64 (j : Int)]) (w' := X) ?_ (HCg.out X hX) ?_
                        · go_simp
                          all_goals try rfl
                        · rintro e w'' ⟨v, rfl, hb', hg'⟩; exact ⟨v, rfl, hb', hg'⟩
                      · refine step_intro rfl rfl fun ρ X hc hf hgl hX hp ho => ?_
                        change StepOk _ { dst := _, op := Op.convert 30 9 (Operand.tmp 101), type := _, pos := _, after := _, guard := _ } _ _ _
                        have k101 := hp 6 (by decide)
                        clear hp ho
                        have hr := run_string (P := Try.prog) (T := 30) (e := 5) (S := 9) rfl rfl rfl k101
                        refine StepOk.of_run (v := .string ⟨(c : List UInt8).toArray⟩) (w' := X) ?_ ⟨rfl, Below.refl _ _⟩
                        simp only [execOp, Sem.run_bind, hr, Result.andThen_ok, Sem.run_pure]
                      · refine step_intro rfl rfl fun ρ X hc hf hgl hX hp ho => ?_
                        change StepOk _ { dst := _, op := Op.binOp BinOp.neq 9 (Operand.tmp 98) (Operand.tmp 102) 9, type := _, pos := _, after := _, guard := _ } _ _ _
                        have k98 : ρ (.tmp 98) = (.string ⟨(c : List UInt8).toArray⟩) := hp 3 (by decide)
                        have k102 : ρ (.tmp 102) = (.string ⟨(c : List UInt8).toArray⟩) := hp 7 (by decide)
                        clear hp ho
                        refine StepOk.of_run (v := ?vsd8) (w' := X) ?_ ⟨rfl, Below.refl _ _⟩
                        clear hX
                        go_simp
                        all_goals try go_bits
                        all_goals try simp only [IntWalk.iteOmega]
                        all_goals try go_bits
                        all_goals rfl
                    case grdsd => rfl
                    case rstsd =>
                      intro a0 X hb
                      obtain ⟨x97, hx97⟩ : ∃ x, a0.tmps.getD 97 undef = x := ⟨_, rfl⟩
                      have p97 := hb.done' 2 97 rfl rfl
                      rw [hx97] at p97
                      obtain ⟨x101, hx101⟩ : ∃ x, a0.tmps.getD 101 undef = x := ⟨_, rfl⟩
                      have p101 := hb.done' 6 101 rfl rfl
                      rw [hx101] at p101
                      have hfr := hb.frame ((95, ?vsd0) :: (96, ?vsd1) :: (97, x97) :: (98, (.string ⟨(c : List UInt8).toArray⟩)) :: (99, ?vsd4) :: (100, ?vsd5) :: (101, x101) :: (102, (.string ⟨(c : List UInt8).toArray⟩)) :: (103, ?vsd8) :: []) rfl ⟨hb.done' 0 95 rfl rfl, hb.done' 1 96 rfl rfl, hx97, hb.done' 3 98 rfl rfl, hb.done' 4 99 rfl rfl, hb.done' 5 100 rfl rfl, hx101, hb.done' 7 102 rfl rfl, hb.done' 8 103 rfl rfl, trivial⟩
                      simp only [updL, ↓reduceIte, Nat.reduceEqDiff, Nat.reduceAdd, Nat.zero_add] at hfr
                      have HX := Lib.hid hb.ext
                      clear hb
                      subst hfr
                      have HgX := Lib.hid (Grows.trans' Hgj.out HX.out)
                      go_wp2
                      go_roundw
                      case rel => exact ⟨j + 1, by omega, by simp, HgX⟩
                      case measure => simp [intOf]; omega
                  · have hjl' : ¬ (j : Int) < (n : Int) := by omega
                    go_wp2_with (go_at_call 18; refine HLx.out.mono ?_; rintro e w7 ⟨rfl, rfl⟩)
                    go_roundw
                    case rel => exact ⟨k + 1, _, _, by omega, by simp, Lib.hid (Hh6.out.grows Hgj.out), Lib.hid (Grows.trans' Hg6.out Hgj.out)⟩
                    case measure => simp [intOf]; omega
      · have hlt' : ¬ (k : Int) < (N : Int) := by omega
        go_wp2_with (go_at_call 8; refine (HLv.out _).mono ?_; rintro e w2 ⟨rfl, hg⟩)
        go_ret
        exact ⟨rfl, Grows.trans' Hgr.out hg⟩
end Go.Proofs.Ytpodbhimkbadhaa
