/-
  The walk of SlotDoes.
-/
import Derived.Test.YtpodbhimkbadhaaSlZ2
namespace Go.Proofs.Ytpodbhimkbadhaa
open Go.RowKit
set_option linter.unusedVariables false
set_option linter.unusedSimpArgs false

theorem RB.weak {w : World} {B B' q : Nat} {vL : Value} {t : Nat} {L : List Ce} (h : RB w B' q vL t L) (hB : B ≤ B') : RB w B q vL t L :=
  ⟨h.row, h.own, h.ps, Nat.le_trans hB h.qB, fun j hj => Nat.le_trans hB (h.vB j hj)⟩
set_option maxRecDepth 100000 in
set_option maxHeartbeats 1000000 in
theorem walkDoes (v : Value) (l : List De) (w : World) (hl : DeS w v l) : Calls Try.prog 3 #[v] w fun e w' => e = .returned (.bool true) ∧ Grows w w' := by
  have HSm := Lib.hid (vSmall w v l hl)
  have HLv := Lib.hid (fun w => vLive w)
  obtain ⟨⟨a, cap, rfl, hm, hc⟩, ho⟩ := hl
  obtain ⟨N, HN⟩ : ∃ N, Hid (l.length = N) := ⟨_, rfl⟩
  rw [HN.out] at hm hc HSm ⊢
  have Hc := Lib.hid hc
  have Ho := Lib.hid ho
  have hmI : (N : Int) ≤ 9223372036854775807 := by unfold maxLen at hm; omega
  clear hc ho hm
  go_enter Try.func3, Try.ntmps3
  go_wp2_with fail
  refine HSm.out.mono ?_
  rintro e w1 ⟨⟨b, rfl, hb⟩, rfl⟩
  cases b with
  | false =>
    go_wp2_with (go_at_call 8; refine (HLv.out _).mono ?_; rintro e w2 ⟨rfl, hg⟩)
    go_ret
    exact ⟨rfl, hg⟩
  | true =>
    have HS : Hid (Sm l) := hb.1 rfl
    have hN : N ≤ 120 := by have := HS.out.1; rw [HN.out] at this; exact this
    clear hb hmI
    obtain ⟨g, Hg⟩ : ∃ g, Hid (w.heap.size = g) := ⟨_, rfl⟩
    have HNw := Lib.hid (vNew w)
    rw [Hg.out] at HNw
    unfold pb at HNw
    go_wp2_with fail
    refine HNw.out.mono ?_
    rintro e w1 ⟨rfl, hb1, hg1⟩
    have Hh1 : Hid (Has w1 g newR newA) := ⟨hb1, enc_new, wf_new⟩
    have Hg1 := Lib.hid hg1
    have HRn := Lib.hid (rNew w1)
    obtain ⟨q, Hq⟩ : ∃ q, Hid (w1.heap.size = q) := ⟨_, rfl⟩
    rw [Hq.out] at HRn
    clear hb1 hg1
    go_wp2_with fail
    refine HRn.out.mono ?_
    rintro e w2 ⟨rfl, hr2, hg2⟩
    have HR2 : Hid (RB w2 g q (.slice none 0 0) 243 []) := hr2.weak (by rw [← Hq.out, ← Hg.out]; exact Hg1.out.size)
    have Hh2 := Lib.hid (Hh1.out.grows hg2)
    have Hg2 := Lib.hid (Grows.trans' Hg1.out hg2)
    clear hr2 hg2
    go_wp2
    go_loopw [5] (fun t5 wr => ∃ (k : Nat) (A : Bo), k ≤ N ∧ t5 = .int .i64 k ∧ Hid (HasIn wr g A) ∧ Hid (RBIn wr g q A) ∧ Hid (Grows w wr)) (fun t5 _ => N - (intOf t5).toNat)
    case atStart => exact ⟨0, newA, by omega, rfl, Lib.hid ⟨_, Hh2.out⟩, Lib.hid ⟨_, _, _, HR2.out, rfl⟩, Hg2⟩
    case round =>
      obtain ⟨k, A, hk, rfl, Hh, HR, Hgr⟩ := hrel
      by_cases hlt : k < N
      · have hlt' : (k : Int) < (N : Int) := by omega
        obtain ⟨b, off, rfl, hcl⟩ := Hc.out.resolve_left (by rintro rfl; have := HN.out; simp at this; omega)
        have hd := Ho.out k
        obtain ⟨c0, c1, c2⟩ := hcl k hlt
        have c0 := Grows.cell' Hgr.out c0
        have c1 := Grows.cell' Hgr.out c1
        have c2 := Grows.cell' Hgr.out c2
        obtain ⟨f, hhf⟩ := Hh.out
        obtain ⟨vL, t, L, hrb, hA⟩ := HR.out
        have HDo := Lib.hid (vDoes hhf hrb hA (dx l k) (hd.grows Hgr.out) (by rw [← Hg.out]; exact byt_outY hd.p) (Nat.le_refl _) (HS.out.2 k))
        obtain ⟨A', HA'⟩ : ∃ A', Hid (doA A (dx l k) = A') := ⟨_, rfl⟩
        rw [HA'.out] at HDo
        unfold De.v pb at HDo
        clear hcl hd hhf hrb hA
        go_wp2_with fail
        refine HDo.out.mono ?_
        rintro e w3 ⟨rfl, ⟨f3, hh3⟩, ⟨vL3, t3, L3, hr3, hA3⟩, hbl⟩
        have Hg3 : Hid (Grows w w3) := Below.trans Hgr.out (by rw [Hg.out]; exact hbl)
        have HAl := Lib.hid (vAlike hh3 hr3 hA3)
        have Hh3 : Hid (HasIn w3 g A') := ⟨_, hh3⟩
        have HR3 : Hid (RBIn w3 g q A') := ⟨_, _, _, hr3, hA3⟩
        unfold pb at HAl
        clear hh3 hr3 hbl c0 c1 c2
        go_wp2_with fail
        refine HAl.out.mono ?_
        rintro e w4 ⟨rfl, hg4⟩
        have Hh4 := Lib.hid (Hh3.out.grows hg4)
        have HR4 := Lib.hid (HR3.out.grows hg4)
        have Hg4 := Lib.hid (Grows.trans' Hg3.out hg4)
        clear hg4
        go_wp2
        go_roundw
        case rel => exact ⟨k + 1, A', by omega, by simp, Hh4, HR4, Hg4⟩
        case measure => simp [intOf]; omega
      · have hlt' : ¬ (k : Int) < (N : Int) := by omega
        go_wp2_with (go_at_call 8; refine (HLv.out _).mono ?_; rintro e w2 ⟨rfl, hg⟩)
        go_ret
        exact ⟨rfl, Grows.trans' Hgr.out hg⟩
end Go.Proofs.Ytpodbhimkbadhaa
