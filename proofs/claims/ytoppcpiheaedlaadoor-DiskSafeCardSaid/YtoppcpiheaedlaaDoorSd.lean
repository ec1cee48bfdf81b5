/-
  DiskSafe: what is asked of nothing else.
-/
import Derived.Test.YtoppcpiheaedlaaDoorSc
namespace Go.Proofs.YtoppcpiheaedlaaDoor
open Go.RowKit Go.Maps Go.MapKept
set_option linter.unusedVariables false
set_option linter.unusedSimpArgs false
attribute [local go_sem] sv nv mv pv

set_option maxRecDepth 100000 in
set_option maxHeartbeats 16000000 in
theorem kSafeOut (w : World) (hek : EK w) (a0 a1 a2 a4 : Option Addr) (c0 c1 c2 c4 nF nG nW nK : Nat) (changes : Int) (hout : 8 < nF ∨ 8 < nG ∨ nW < nG ∨ 80 < nK) :
    Calls Tryd.prog 3 #[.slice a0 nF c0, .slice a1 nG c1, .slice a2 nW c2, .int .i64 changes, .slice a4 nK c4] w fun e w' => e = .returned (.bool true) ∧ Grows w w' := by
  have HL := Lib.hid (pLive w hek)
  clear hek
  by_cases h1 : 8 < nF
  · have h1' : (8 : Int) < (nF : Int) := by omega
    clear hout h1
    go_enter Tryd.func3, Tryd.ntmps3
    go_wp2_with fail
    refine HL.out.mono ?_
    rintro e w1 ⟨rfl, hG⟩
    have HG1 := Lib.hid hG
    clear hG HL
    go_wp2
    go_ret
    exact ⟨rfl, HG1.out⟩
  · have h1' : ¬ (8 : Int) < (nF : Int) := by omega
    by_cases h2 : 8 < nG
    · have h2' : (8 : Int) < (nG : Int) := by omega
      clear hout h1 h2
      go_enter Tryd.func3, Tryd.ntmps3
      go_wp2_with fail
      refine HL.out.mono ?_
      rintro e w1 ⟨rfl, hG⟩
      have HG1 := Lib.hid hG
      clear hG HL
      go_wp2
      go_ret
      exact ⟨rfl, HG1.out⟩
    · have h2' : ¬ (8 : Int) < (nG : Int) := by omega
      by_cases h3 : nW < nG
      · have h3' : (nW : Int) < (nG : Int) := by omega
        clear hout h1 h2 h3
        go_enter Tryd.func3, Tryd.ntmps3
        go_wp2_with fail
        refine HL.out.mono ?_
        rintro e w1 ⟨rfl, hG⟩
        have HG1 := Lib.hid hG
        clear hG HL
        go_wp2
        go_ret
        exact ⟨rfl, HG1.out⟩
      · have h3' : ¬ (nW : Int) < (nG : Int) := by omega
        have h4' : (80 : Int) < (nK : Int) := by omega
        clear hout h1 h2 h3
        go_enter Tryd.func3, Tryd.ntmps3
        go_wp2_with fail
        refine HL.out.mono ?_
        rintro e w1 ⟨rfl, hG⟩
        have HG1 := Lib.hid hG
        clear hG HL
        go_wp2
        go_ret
        exact ⟨rfl, HG1.out⟩

theorem ints_of_row {w : World} {a : Option Addr} {len cap : Nat} {zs : List Int}
    (h : (a = none ∧ len = 0 ∧ cap = 0 ∧ zs = []) ∨
      ∃ x, a = some x ∧ len ≤ cap ∧ cap ≤ maxLen ∧ zs.length = cap ∧ (∀ i, i < zs.length → w.cell? (x.add i) = some (.int .i64 (zs.getD i 0))) ∧ ∀ n ∈ zs, (Lit.int .i64 n).wf = true) :
    ∃ l : List Int, len = l.length ∧ IntS w (.slice a len cap) l ∧ (∀ z ∈ l, -9223372036854775808 ≤ z ∧ z ≤ 9223372036854775807) ∧ l.length ≤ 9223372036854775807 := by
  rcases h with ⟨rfl, rfl, rfl, rfl⟩ | ⟨x, rfl, h1, h2, h3, h4, h5⟩
  · exact ⟨[], rfl, ⟨none, 0, rfl, .inl rfl⟩, by simp, by simp⟩
  · have hl : (zs.take len).length = len := by simp; omega
    refine ⟨zs.take len, hl.symm, ⟨some x, cap, by rw [hl], ?_⟩, fun z hz => i64_range (h5 z (List.mem_of_mem_take hz)), by rw [hl]; unfold maxLen at h2; omega⟩
    by_cases h0 : len = 0
    · left; subst h0; simp
    · right
      obtain ⟨b, off, spot⟩ := x
      have hc := h4 0 (by omega)
      have hspot : spot = none := by simpa [Addr.add] using World.cell?_spot hc
      subst hspot
      refine ⟨b, off, rfl, fun i hi => ?_⟩
      rw [hl] at hi
      have hci := h4 i (by omega)
      rw [Addr.add_lit] at hci
      rw [hci]
      simp [List.getD, List.getElem?_take, hi]
theorem kSafe (w : World) (hek : EK w) (a0 a1 a2 a4 : Option Addr) (c0 c1 c2 c4 nF nG nW nK : Nat) (F G : List (List UInt8)) (Wh Kp : List Int) (changes : Int) (hch : -9223372036854775808 ≤ changes ∧ changes ≤ 9223372036854775807)
    (hF : nF = F.length ∧ BytL w (.slice a0 nF c0) F) (hG : nG = G.length ∧ BytL w (.slice a1 nG c1) G)
    (hW : nW = Wh.length ∧ IntS w (.slice a2 nW c2) Wh ∧ (∀ z ∈ Wh, -9223372036854775808 ≤ z ∧ z ≤ 9223372036854775807) ∧ Wh.length ≤ 9223372036854775807)
    (hK : nK = Kp.length ∧ IntS w (.slice a4 nK c4) Kp ∧ (∀ z ∈ Kp, -9223372036854775808 ≤ z ∧ z ≤ 9223372036854775807) ∧ Kp.length ≤ 9223372036854775807) :
    Calls Tryd.prog 3 #[.slice a0 nF c0, .slice a1 nG c1, .slice a2 nW c2, .int .i64 changes, .slice a4 nK c4] w fun e w' => e = .returned (.bool true) ∧ Grows w w' := by
  by_cases h : 8 < nF ∨ 8 < nG ∨ nW < nG ∨ 80 < nK
  · exact kSafeOut w hek a0 a1 a2 a4 c0 c1 c2 c4 nF nG nW nK changes h
  · obtain ⟨e0, f0⟩ := hF
    obtain ⟨e1, f1⟩ := hG
    obtain ⟨e2, f2, r2, l2⟩ := hW
    obtain ⟨e4, f4, r4, l4⟩ := hK
    exact kSafeIn w a0 a1 a2 a4 c0 c1 c2 c4 nF nG nW nK F G Wh Kp changes hch ⟨hek, by rw [← e0]; exact f0, by rw [← e1]; exact f1, by rw [← e2]; exact f2, by rw [← e4]; exact f4, by omega, by omega, by omega, by omega, r2, r4, l2⟩ e0.symm e1.symm e2.symm e4.symm
end Go.Proofs.YtoppcpiheaedlaaDoor
