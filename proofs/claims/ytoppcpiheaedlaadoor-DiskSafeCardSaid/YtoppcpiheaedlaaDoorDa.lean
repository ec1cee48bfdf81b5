/-
  DiskArms: an armed disk.
-/
import Derived.Test.YtoppcpiheaedlaaDoorLv
namespace Go.Proofs.YtoppcpiheaedlaaDoor
open Go.RowKit Go.Maps Go.MapKept
set_option linter.unusedVariables false
set_option linter.unusedSimpArgs false
attribute [local go_sem] sv nv mv pv

/-- A disk of the call's own, and what it shows. -/
structure Mine (w : World) (q : Nat) (x : Px) (s : Ps) (wr : World) : Prop where
  li : LiveIn wr q x
  s : x.s = s
  gr : Grows w wr
  us : ∀ k, useP q x k → w.heap.size ≤ k
theorem Mine.grows {w wr w' : World} {q : Nat} {x : Px} {s : Ps} (h : Mine w q x s wr) (g : Grows wr w') : Mine w q x s w' := ⟨h.li.grows g, h.s, Grows.trans' h.gr g, h.us⟩
theorem Mine.turn {w wr w' : World} {q : Nat} {x x' : Px} {s s' : Ps} (h : Mine w q x s wr) (ht : TurnP q x x' wr w') (hP : PD w' q x') (hs : x'.s = s') : Mine w q x' s' w' :=
  ⟨h.li.turn ht hP, hs, ⟨ht.but.os.trans h.gr.os, ht.but.tape.trans h.gr.tape, ht.but.output.trans h.gr.output, Nat.le_trans h.gr.size ht.but.size, fun k hk => (ht.but.block k (Nat.lt_of_lt_of_le hk h.gr.size) (fun hm => by have := h.us k (mut_use hm); omega)).trans (h.gr.block k hk)⟩, fun k hk => (ht.uses k hk).elim (h.us k) (fun hl => Nat.le_trans h.gr.size hl)⟩
theorem Mine.new {w w0 : World} {q : Nat} {x : Px} {s : Ps} (hek : EK w) (hP : PD w0 q x) (hs : x.s = s) (hG : Grows w w0) (hu : ∀ k, useP q x k → w.heap.size ≤ k) : Mine w q x s w0 :=
  ⟨⟨hP, hek.grows hG, fun h => by have := hu 0 (mut_use h); have := hek.pos; omega⟩, hs, hG, hu⟩

def aS (f c : Int) : Ps := ⟨16, [[]], [], 0, [], f, c⟩
theorem sync_aS (f c : Int) : syncDirP (aS f c) = if c = 0 then (0, aS f c) else if 0 < f then (0, aS (f - 1) c) else (c, aS 0 0) := by
  unfold syncDirP guardP beginP aS
  by_cases h : c = 0
  · simp [h, settleP, nowP]
  · by_cases h2 : 0 < f <;> simp [h, h2, settleP, nowP]
theorem arm_new (after code : Int) : armP (newP 16) after code = if 0 ≤ after ∧ (code = 41 ∨ code = 42) then aS after code else aS 0 0 := rfl
def aAt (after code : Int) (k : Nat) : Ps := if 0 ≤ after ∧ (code = 41 ∨ code = 42) ∧ (k : Int) ≤ after then aS (after - k) code else aS 0 0
def aR (after code : Int) (k : Nat) : Int := if 0 ≤ after ∧ (code = 41 ∨ code = 42) ∧ after < (k : Int) then 1 else 0
theorem aAt0 (after code : Int) : aAt after code 0 = armP (newP 16) after code := by
  rw [arm_new]
  unfold aAt
  by_cases h : 0 ≤ after ∧ (code = 41 ∨ code = 42)
  · rw [if_pos h, if_pos ⟨h.1, h.2, by omega⟩]; simp
  · rw [if_neg h, if_neg (fun hh => h ⟨hh.1, hh.2.1⟩)]
theorem aR0 (after code : Int) : aR after code 0 = 0 := by
  unfold aR
  rw [if_neg]
  omega
theorem aR_le (after code : Int) (k : Nat) : aR after code k = 0 ∨ aR after code k = 1 := by unfold aR; split <;> simp
theorem aHit (k : Nat) (code : Int) (hc : code = 41 ∨ code = 42) : syncDirP (aAt k code k) = (code, aAt k code (k + 1)) ∧ aR k code k = 0 ∧ aR k code (k + 1) = 1 := by
  have h0 : ¬ code = 0 := by omega
  refine ⟨?_, ?_, ?_⟩
  · unfold aAt
    rw [if_pos ⟨by omega, hc, by omega⟩, sync_aS, if_neg h0, if_neg (by omega), if_neg (by omega)]
  · unfold aR; rw [if_neg (by omega)]
  · unfold aR; rw [if_pos ⟨by omega, hc, by omega⟩]
theorem aMiss (after code : Int) (k : Nat) (h : (k : Int) ≠ after ∨ ¬ (code = 41 ∨ code = 42)) : syncDirP (aAt after code k) = (0, aAt after code (k + 1)) ∧ aR after code (k + 1) = aR after code k := by
  by_cases hc : code = 41 ∨ code = 42
  · have hne : (k : Int) ≠ after := h.elim id (fun g => absurd hc g)
    by_cases hl : (k : Int) < after
    · constructor
      · unfold aAt
        rw [if_pos ⟨by omega, hc, by omega⟩, if_pos ⟨by omega, hc, by omega⟩, sync_aS, if_neg (by omega), if_pos (by omega)]
        congr 2
        omega
      · unfold aR; rw [if_neg (by omega), if_neg (by omega)]
    · constructor
      · unfold aAt
        rw [if_neg (by omega), if_neg (by omega), sync_aS, if_pos rfl]
      · unfold aR
        by_cases h0 : 0 ≤ after
        · rw [if_pos ⟨h0, hc, by omega⟩, if_pos ⟨h0, hc, by omega⟩]
        · rw [if_neg (by omega), if_neg (by omega)]
  · constructor
    · unfold aAt
      rw [if_neg (fun g => hc g.2.1), if_neg (fun g => hc g.2.1), sync_aS, if_pos rfl]
    · unfold aR
      rw [if_neg (fun g => hc g.2.1), if_neg (fun g => hc g.2.1)]

set_option maxRecDepth 100000 in
set_option maxHeartbeats 16000000 in
theorem kArmsOut (after code n : Int) (hout : n < 0 ∨ 60 < n ∨ 100 < after) (w : World) (hek : EK w) :
    Calls Tryd.prog 4 #[.int .i64 after, .int .i64 code, .int .i64 n] w fun e w' => e = .returned (.bool true) ∧ Grows w w' := by
  have HN := pNew 16 (by omega) w
  rw [show ((16 : Nat) : Int) = 16 from rfl] at HN
  have HN := Lib.hid HN
  have Hek := Lib.hid hek
  clear hek
  by_cases h1 : n < 0
  · clear hout
    go_enter Tryd.func4, Tryd.ntmps4
    go_wp2_with fail
    refine HN.out.mono ?_
    rintro e w0 ⟨q, x0, rfl, hP, hs, hG, hu⟩
    have HG0 := Lib.hid hG
    have HL := Lib.hid (pLive w0 (Hek.out.grows hG))
    clear hP hs hG hu HN
    go_wp2_with fail
    refine HL.out.mono ?_
    rintro e w1 ⟨rfl, hG⟩
    have HG1 := Lib.hid (Grows.trans' HG0.out hG)
    clear hG HL
    go_wp2
    go_ret
    exact ⟨rfl, HG1.out⟩
  · by_cases h2 : 60 < n
    · clear hout
      go_enter Tryd.func4, Tryd.ntmps4
      go_wp2_with fail
      refine HN.out.mono ?_
      rintro e w0 ⟨q, x0, rfl, hP, hs, hG, hu⟩
      have HG0 := Lib.hid hG
      have HL := Lib.hid (pLive w0 (Hek.out.grows hG))
      clear hP hs hG hu HN
      go_wp2_with fail
      refine HL.out.mono ?_
      rintro e w1 ⟨rfl, hG⟩
      have HG1 := Lib.hid (Grows.trans' HG0.out hG)
      clear hG HL
      go_wp2
      go_ret
      exact ⟨rfl, HG1.out⟩
    · have h3 : 100 < after := by omega
      clear hout
      go_enter Tryd.func4, Tryd.ntmps4
      go_wp2_with fail
      refine HN.out.mono ?_
      rintro e w0 ⟨q, x0, rfl, hP, hs, hG, hu⟩
      have HG0 := Lib.hid hG
      have HL := Lib.hid (pLive w0 (Hek.out.grows hG))
      clear hP hs hG hu HN
      go_wp2_with fail
      refine HL.out.mono ?_
      rintro e w1 ⟨rfl, hG⟩
      have HG1 := Lib.hid (Grows.trans' HG0.out hG)
      clear hG HL
      go_wp2
      go_ret
      exact ⟨rfl, HG1.out⟩
set_option maxRecDepth 100000 in
set_option maxHeartbeats 16000000 in
theorem kArmsIn (after code : Int) (nn : Nat) (hn : nn ≤ 60) (haf : after ≤ 100) (hra : -9223372036854775808 ≤ after) (hrc : -9223372036854775808 ≤ code ∧ code ≤ 9223372036854775807) (w : World) (hek : EK w) :
    Calls Tryd.prog 4 #[.int .i64 after, .int .i64 code, .int .i64 (nn : Int)] w fun e w' => e = .returned (.bool true) ∧ Grows w w' := by
  have HN := pNew 16 (by omega) w
  rw [show ((16 : Nat) : Int) = 16 from rfl] at HN
  have HN := Lib.hid HN
  have Hek := Lib.hid hek
  have h1 : ¬ (nn : Int) < 0 := by omega
  have h2 : ¬ 60 < (nn : Int) := by omega
  have h3 : ¬ 100 < after := by omega
  have Hrc := Lib.hid hrc
  have Hra := Lib.hid hra
  have Haf := Lib.hid haf
  clear hek hrc hra haf
  go_enter Tryd.func4, Tryd.ntmps4
  go_wp2_with fail
  refine HN.out.mono ?_
  rintro e w0 ⟨q, x0, rfl, hP, hs, hG, hu⟩
  have HM0 : Hid (Mine w q x0 (newP 16) w0) := Mine.new Hek.out hP hs hG hu
  have HA := Lib.hid (pArm hP after code ⟨Hra.out, by have := Haf.out; omega⟩)
  clear hP hs hG hu HN
  go_wp2_with fail
  refine HA.out.mono ?_
  rintro e w1 ⟨rfl, hP, hT⟩
  have HM1 : Hid (Mine w q (armX x0 after code) (aAt after code 0) w1) := HM0.out.turn hT hP (by rw [armX_s, HM0.out.s, aAt0])
  clear hP hT HA
  go_wp2
  go_loopw [9, 10] (fun t9 t10 wr => ∃ (k : Nat) (x : Px), k ≤ nn ∧ t10 = .int .i64 k ∧ t9 = .int .i64 (aR after code k) ∧ Hid (Mine w q x (aAt after code k) wr)) (fun _ t10 _ => nn - (intOf t10).toNat)
  case atStart => exact ⟨0, _, by omega, rfl, by rw [aR0], HM1.out⟩
  case round =>
    obtain ⟨k, x, hk, rfl, rfl, HM⟩ := hrel
    by_cases hlt : k < nn
    · have hlt' : (k : Int) < (nn : Int) := by omega
      have HS := Lib.hid (PSyncDir HM.out.li.pd)
      obtain ⟨sr, Hsr⟩ : ∃ y, Hid (aR after code k = y) := ⟨_, rfl⟩
      have hsr : sr = 0 ∨ sr = 1 := by rw [← Hsr.out]; exact aR_le _ _ _
      rw [Hsr.out]
      by_cases hit : (k : Int) = after ∧ (code = 41 ∨ code = 42)
      · obtain ⟨hka, hc⟩ := hit
        have hke : ((k : Int) == after) = true := by simpa using hka
        obtain ⟨F1, F2, F3⟩ := aHit k code hc
        rw [hka] at F1 F2 F3
        have HF1 := Lib.hid F1
        have HF3 := Lib.hid F3
        have hsr0 : sr = 0 := Hsr.out.symm.trans F2
        subst hsr0
        have Hc := Lib.hid hc
        have Hk := Lib.hid hk
        have Hlt := Lib.hid hlt
        have Hka := Lib.hid hka
        clear F1 F2 F3 hsr hk hlt hka
        rcases hc with hc | hc
        · have e41 : (code == 41) = true := by simpa using hc
          clear hc
          go_wp2_with fail
          refine HS.out.mono ?_
          rintro e w2 ⟨v, rfl, hF, x', hP, hs, hT⟩
          rw [HM.out.s, HF1.out] at hF hs
          have HM2 : Hid (Mine w q x' (aAt after code (k + 1)) w2) := HM.out.turn hT hP hs
          have hF : IsFault w2 v opSyncDir [] code := hF
          obtain ⟨fb, e1, _⟩ := hF.form (by have := Hc.out; omega)
          subst e1
          have HTo := Lib.hid (pTold _ _ _ _ w2 HM2.out.li.ek hF Hrc.out)
          unfold sv opSyncDir at HTo
          clear hF hP hs hT
          go_wp2_with fail
          refine HTo.out.mono ?_
          rintro e w3 ⟨rfl, hG⟩
          have HM3 := Lib.hid (HM2.out.grows hG)
          clear hG
          go_wp2
          go_roundw
          case rel => exact ⟨k + 1, x', by have := Hlt.out; omega, by go_num, by rw [HF3.out], HM3.out⟩
          case measure => have := Hlt.out; simp [intOf]; omega
        · have e41 : (code == 41) = false := by simp; omega
          have e42 : (code == 42) = true := by simpa using hc
          clear hc
          go_wp2_with fail
          refine HS.out.mono ?_
          rintro e w2 ⟨v, rfl, hF, x', hP, hs, hT⟩
          rw [HM.out.s, HF1.out] at hF hs
          have HM2 : Hid (Mine w q x' (aAt after code (k + 1)) w2) := HM.out.turn hT hP hs
          have hF : IsFault w2 v opSyncDir [] code := hF
          obtain ⟨fb, e1, _⟩ := hF.form (by have := Hc.out; omega)
          subst e1
          have HTo := Lib.hid (pTold _ _ _ _ w2 HM2.out.li.ek hF Hrc.out)
          unfold sv opSyncDir at HTo
          clear hF hP hs hT
          go_wp2_with fail
          refine HTo.out.mono ?_
          rintro e w3 ⟨rfl, hG⟩
          have HM3 := Lib.hid (HM2.out.grows hG)
          clear hG
          go_wp2
          go_roundw
          case rel => exact ⟨k + 1, x', by have := Hlt.out; omega, by go_num, by rw [HF3.out], HM3.out⟩
          case measure => have := Hlt.out; simp [intOf]; omega
      · have hmiss : (k : Int) ≠ after ∨ ¬ (code = 41 ∨ code = 42) := by
          by_cases ha : (k : Int) = after
          · exact .inr fun hc => hit ⟨ha, hc⟩
          · exact .inl ha
        obtain ⟨F1, F2⟩ := aMiss after code k hmiss
        have HF1 := Lib.hid F1
        have HF3 := Lib.hid F2
        have Hk := Lib.hid hk
        have Hlt := Lib.hid hlt
        clear F1 F2 hit hk hlt
        by_cases ha : (k : Int) = after
        · have hke : ((k : Int) == after) = true := by simpa using ha
          have hc : ¬ (code = 41 ∨ code = 42) := hmiss.elim (fun g => absurd ha g) id
          have e41 : (code == 41) = false := by simp; omega
          have e42 : (code == 42) = false := by simp; omega
          clear ha hc hmiss
          go_wp2_with fail
          refine HS.out.mono ?_
          rintro e w2 ⟨v, rfl, hF, x', hP, hs, hT⟩
          rw [HM.out.s, HF1.out] at hF hs
          have HM2 : Hid (Mine w q x' (aAt after code (k + 1)) w2) := HM.out.turn hT hP hs
          have hF : IsFault w2 v opSyncDir [] 0 := hF
          have e1 := hF.nilOf
          subst e1
          have HTo := Lib.hid (pTold0 opSyncDir [] w2)
          unfold sv opSyncDir at HTo
          clear hF hP hs hT
          go_wp2_with fail
          refine HTo.out.mono ?_
          rintro e w3 ⟨rfl, hG⟩
          have HM3 := Lib.hid (HM2.out.grows hG)
          clear hG
          go_wp2
          go_roundw
          case rel => exact ⟨k + 1, x', by have := Hlt.out; omega, by go_num, by rw [HF3.out, Hsr.out], HM3.out⟩
          case measure => have := Hlt.out; simp [intOf]; omega
        · have hke : ((k : Int) == after) = false := by simpa using ha
          clear ha hmiss
          go_wp2_with fail
          refine HS.out.mono ?_
          rintro e w2 ⟨v, rfl, hF, x', hP, hs, hT⟩
          rw [HM.out.s, HF1.out] at hF hs
          have HM2 : Hid (Mine w q x' (aAt after code (k + 1)) w2) := HM.out.turn hT hP hs
          have hF : IsFault w2 v opSyncDir [] 0 := hF
          have e1 := hF.nilOf
          subst e1
          have HTo := Lib.hid (pTold0 opSyncDir [] w2)
          unfold sv opSyncDir at HTo
          clear hF hP hs hT
          go_wp2_with fail
          refine HTo.out.mono ?_
          rintro e w3 ⟨rfl, hG⟩
          have HM3 := Lib.hid (HM2.out.grows hG)
          clear hG
          go_wp2
          go_roundw
          case rel => exact ⟨k + 1, x', by have := Hlt.out; omega, by go_num, by rw [HF3.out, Hsr.out], HM3.out⟩
          case measure => have := Hlt.out; simp [intOf]; omega
    · have hlt' : ¬ (k : Int) < (nn : Int) := by omega
      have HL := Lib.hid (pLive wr HM.out.li.ek)
      have HMg := Lib.hid HM.out.gr
      obtain ⟨sr, Hsr⟩ : ∃ y, Hid (aR after code k = y) := ⟨_, rfl⟩
      have hsr : sr ≤ 1 := by rw [← Hsr.out]; have := aR_le after code k; omega
      rw [Hsr.out]
      clear hlt hk
      go_wp2_with fail
      refine HL.out.mono ?_
      rintro e w2 ⟨rfl, hG⟩
      have HG2 := Lib.hid (Grows.trans' HMg.out hG)
      clear hG
      go_wp2
      go_ret
      exact ⟨rfl, HG2.out⟩

theorem i64_range {a : Int} (h : (Lit.int .i64 a).wf = true) : -9223372036854775808 ≤ a ∧ a ≤ 9223372036854775807 := by
  simp [Lit.wf, IntKind.min, IntKind.max, IntKind.bits, IntKind.signed] at h
  omega
theorem kArms (after code n : Int) (hra : -9223372036854775808 ≤ after ∧ after ≤ 9223372036854775807) (hrc : -9223372036854775808 ≤ code ∧ code ≤ 9223372036854775807) (w : World) (hek : EK w) :
    Calls Tryd.prog 4 #[.int .i64 after, .int .i64 code, .int .i64 n] w fun e w' => e = .returned (.bool true) ∧ Grows w w' := by
  by_cases h : n < 0 ∨ 60 < n ∨ 100 < after
  · exact kArmsOut after code n h w hek
  · have hn : n = ((n.toNat : Nat) : Int) := by omega
    rw [hn]
    exact kArmsIn after code n.toNat (by omega) (by omega) hra.1 hrc w hek
end Go.Proofs.YtoppcpiheaedlaaDoor
