/-
  Contracts: has, filled, Free, Holes, Cell, New.
-/
import Derived.Test.YtpodbhimkbadhaaSlC
import Derived.Lib.SliceRun
import Derived.WalkSpells
import Derived.Outline
namespace Go.Proofs.Ytpodbhimkbadhaa
open Go.RowKit
set_option linter.unusedVariables false
set_option linter.unusedSimpArgs false

/-- A body that holds these cells. -/
structure Has (W : World) (g : Nat) (f : Raw) (A : Bo) : Prop where
  at_ : BodyAt W g f
  enc : Enc f A
  wf : Wf A
theorem Has.grows {W W' : World} {g : Nat} {f : Raw} {A : Bo} (h : Has W g f A) (k : Grows W W') : Has W' g f A := ⟨h.at_.grows k, h.enc, h.wf⟩
theorem Has.but {O : Nat → Prop} {W W' : World} {g : Nat} {f : Raw} {A : Bo} (h : Has W g f A) (k : But O W W') (ho : ¬ O g) : Has W' g f A := ⟨h.at_.but k ho, h.enc, h.wf⟩
theorem hLen {w : World} {g : Nat} {f : Raw} {A : Bo} (h : Has w g f A) : Calls Try.prog 18 #[pb g] w fun e w' => e = .returned (.int .i64 (A.l.length : Int)) ∧ w = w' := vLen w g f h.at_ _ h.enc.n
theorem hTop {w : World} {g : Nat} {f : Raw} {A : Bo} (h : Has w g f A) : Calls Try.prog 30 #[pb g] w fun e w' => e = .returned (.int .i64 (A.top : Int)) ∧ w = w' := vTop w g f h.at_ _ h.enc.top
theorem hDirEnd {w : World} {g : Nat} {f : Raw} {A : Bo} (h : Has w g f A) : Calls Try.prog 29 #[pb g] w fun e w' => e = .returned (.int .i64 ((2 + 2 * A.l.length : Nat) : Int)) ∧ w = w' := vDirEnd w g f h.at_ _ h.enc.n
theorem hEntry {w : World} {g : Nat} {f : Raw} {A : Bo} (h : Has w g f A) (i : Nat) (hi : i < A.l.length) : Calls Try.prog 34 #[pb g, .int .i64 (i : Int)] w fun e w' => e = .returned (.tuple #[.int .i64 ((cl A.l i).pl : Int), .int .i64 ((cl A.l i).p.length : Int)]) ∧ Grows w w' :=
  vEntry w g f h.at_ i (by have := h.wf.dir; have := h.wf.ntop; omega) _ _ (h.enc.pl i hi) (h.enc.sz i hi)
def cellv (g : Nat) (c : Cl) : Value := slv g c.pl (c.pl + c.p.length)
theorem hLying {w : World} {g : Nat} {f : Raw} {A : Bo} (h : Has w g f A) (i : Nat) (hi : i < A.l.length) : Calls Try.prog 35 #[pb g, .int .i64 (i : Int)] w fun e w' => e = .returned (cellv g (cl A.l i)) ∧ Grows w w' :=
  vLying w g f h.at_ i (by have := h.wf.dir; have := h.wf.ntop; omega) _ _ (h.enc.pl i hi) (h.enc.sz i hi) (h.wf.end_ i hi)
theorem Has.cellv {w : World} {g : Nat} {f : Raw} {A : Bo} (h : Has w g f A) (i : Nat) (hi : i < A.l.length) : Byt w (cellv g (cl A.l i)) (cl A.l i).p := by
  have := h.at_.slv (cl A.l i).pl ((cl A.l i).pl + (cl A.l i).p.length) (by omega) (h.wf.end_ i hi)
  have e : rowOf (fun j => f ((cl A.l i).pl + j)) ((cl A.l i).pl + (cl A.l i).p.length - (cl A.l i).pl) = (cl A.l i).p := by
    refine List.ext_getElem (by rw [rowOf_length]; omega) (fun m h1 h2 => ?_)
    have h3 := h.enc.by_ i m hi h2
    simp only [rowOf, List.getElem_map, List.getElem_range]
    rw [h3]
    simp [List.getD, h2]
  rw [e] at this
  exact this

theorem hHasYes {w : World} {g : Nat} {f : Raw} {A : Bo} (h : Has w g f A) (i : Nat) (hi : i < A.l.length) : Calls Try.prog 33 #[pb g, .int .i64 (i : Int)] w fun e w' => e = .returned (.bool true) ∧ w = w' := by
  have H1 := Lib.hid (hLen h)
  have hb := h.wf.ntop
  clear h
  obtain ⟨n, hn⟩ : ∃ n, A.l.length = n := ⟨_, rfl⟩
  rw [hn] at H1 hi hb
  clear hn
  have hi' : (i : Int) < (n : Int) := by omega
  go_enter Try.func33, Try.ntmps33
  go_wp2_with (go_at_call 18; refine H1.out.mono ?_; rintro e w1 ⟨rfl, rfl⟩)
  go_ret
  exact ⟨by simp, rfl⟩
theorem hHasNo {w : World} {g : Nat} {f : Raw} {A : Bo} (h : Has w g f A) (i : Int) (hi : i < 0 ∨ (A.l.length : Int) ≤ i) : Calls Try.prog 33 #[pb g, .int .i64 i] w fun e w' => e = .returned (.bool false) ∧ w = w' := by
  have H1 := Lib.hid (hLen h)
  have hb := h.wf.ntop
  clear h
  obtain ⟨n, hn⟩ : ∃ n, A.l.length = n := ⟨_, rfl⟩
  rw [hn] at H1 hi hb
  clear hn
  by_cases h0 : i < 0
  · have h0' : ¬ 0 ≤ i := by omega
    clear hi
    go_enter Try.func33, Try.ntmps33
    go_wp2_with (go_at_call 18; refine H1.out.mono ?_; rintro e w1 ⟨rfl, rfl⟩)
    go_ret
    exact ⟨by simp, rfl⟩
  · have h0' : 0 ≤ i := by omega
    have h1' : ¬ i < (n : Int) := by omega
    have h2' : (n : Int) ≤ i := by omega
    clear hi h0
    go_enter Try.func33, Try.ntmps33
    go_wp2_with (go_at_call 18; refine H1.out.mono ?_; rintro e w1 ⟨rfl, rfl⟩)
    go_ret
    exact ⟨by simp; exact h2', rfl⟩
theorem hFilled {w : World} {g : Nat} {f : Raw} {A : Bo} (h : Has w g f A) : Calls Try.prog 36 #[pb g] w fun e w' => e = .returned (.int .i64 (sumL A.l : Int)) ∧ Grows w w' := by
  have H1 := Lib.hid (hLen h)
  have Hh := Lib.hid h
  have hb := h.wf.ntop
  clear h
  obtain ⟨n, Hn⟩ : ∃ n, Hid (A.l.length = n) := ⟨_, rfl⟩
  rw [Hn.out] at H1 hb
  have Hs : Hid (sumL A.l ≤ 241) := hb.2.2
  obtain ⟨S, HS⟩ : ∃ S, Hid (sumL A.l = S) := ⟨_, rfl⟩
  rw [HS.out]
  rw [HS.out] at hb Hs
  go_enter Try.func36, Try.ntmps36
  go_wp2_with (go_at_call 18; refine H1.out.mono ?_; rintro e w1 ⟨rfl, rfl⟩)
  go_loopw [3, 9] (fun t3 t9 wr => ∃ k s : Nat, k ≤ n ∧ s ≤ 241 ∧ t9 = .int .i64 k ∧ t3 = .int .i64 s ∧ Hid (s = sumL (A.l.take k)) ∧ Hid (Grows w wr)) (fun _ t9 _ => n - (intOf t9).toNat)
  case atStart => exact ⟨0, 0, by omega, by omega, rfl, rfl, Lib.hid (by simp [sumL]), Lib.hid (Below.refl _ _)⟩
  case round =>
    obtain ⟨k, s, hk, hs, rfl, rfl, Hk, Hg⟩ := hrel
    by_cases hlt : k < n
    · have hlt' : (k : Int) < (n : Int) := by omega
      have HE := Lib.hid (hEntry (Hh.out.grows Hg.out) k (by rw [Hn.out]; exact hlt))
      obtain ⟨c, Hc⟩ : ∃ c, Hid ((cl A.l k).p.length = c) := ⟨_, rfl⟩
      rw [Hc.out] at HE
      have hc : s + c ≤ 241 := by
        have h1 := sum_succ A.l k (by rw [Hn.out]; exact hlt)
        have h2 := sum_take_le A.l (k + 1)
        have h3 := Hk.out
        have h4 := HS.out
        have h5 := Hc.out
        omega
      go_wp2_with (go_at_call 34; refine HE.out.mono ?_; rintro e w1 ⟨rfl, hg⟩)
      go_roundw
      case rel =>
        refine ⟨k + 1, s + c, by omega, hc, by simp, by simp, Lib.hid ?_, Lib.hid (Grows.trans' Hg.out hg)⟩
        rw [sum_succ A.l k (by rw [Hn.out]; exact hlt), Hc.out, Hk.out]
      case measure => simp [intOf]; omega
    · obtain rfl : k = n := by omega
      go_wp2
      go_ret
      refine ⟨?_, Hg.out⟩
      have : s = S := by rw [Hk.out, ← Hn.out, List.take_length, HS.out]
      rw [this]; rfl
theorem hFree {w : World} {g : Nat} {f : Raw} {A : Bo} (h : Has w g f A) : Calls Try.prog 19 #[pb g] w fun e w' => e = .returned (.int .i64 (freeA A : Int)) ∧ Grows w w' := by
  have H1 := Lib.hid (hDirEnd h)
  have H2 := Lib.hid (hFilled h)
  have hd := h.wf.dir
  have hs := h.wf.sum
  clear h
  have HF : Hid (freeA A = 241 - 2 * A.l.length - sumL A.l) := rfl
  obtain ⟨n, hn⟩ : ∃ n, A.l.length = n := ⟨_, rfl⟩
  obtain ⟨s, hs'⟩ : ∃ s, sumL A.l = s := ⟨_, rfl⟩
  rw [hn] at H1 hd HF
  rw [hs'] at H2 hs HF
  have hle : 2 + 2 * n + s ≤ 243 := by omega
  clear hn hs'
  unfold pb at *
  go_enter Try.func19, Try.ntmps19
  go_wp2_with (first
    | (go_at_call 29; refine H1.out.mono ?_; rintro e w1 ⟨rfl, rfl⟩)
    | (go_at_call 36; refine H2.out.mono ?_; rintro e w1 ⟨rfl, hg⟩))
  go_ret
  refine ⟨?_, hg⟩
  rw [HF.out]
  simp
  omega
theorem hHoles {w : World} {g : Nat} {f : Raw} {A : Bo} (h : Has w g f A) : Calls Try.prog 17 #[pb g] w fun e w' => e = .returned (.int .i64 (holesA A : Int)) ∧ Grows w w' := by
  have H1 := Lib.hid (hTop h)
  have H2 := Lib.hid (hFilled h)
  have hs := h.wf.sum
  clear h
  have HF : Hid (holesA A = 243 - A.top - sumL A.l) := rfl
  obtain ⟨n, hn⟩ : ∃ n, A.top = n := ⟨_, rfl⟩
  obtain ⟨s, hs'⟩ : ∃ s, sumL A.l = s := ⟨_, rfl⟩
  rw [hn] at H1 hs HF
  rw [hs'] at H2 hs HF
  clear hn hs'
  unfold pb at *
  go_enter Try.func17, Try.ntmps17
  go_wp2_with (first
    | (go_at_call 30; refine H1.out.mono ?_; rintro e w1 ⟨rfl, rfl⟩)
    | (go_at_call 36; refine H2.out.mono ?_; rintro e w1 ⟨rfl, hg⟩))
  go_ret
  refine ⟨?_, hg⟩
  rw [HF.out]
  simp
  omega
theorem hCellNo {w : World} {g : Nat} {f : Raw} {A : Bo} (h : Has w g f A) (i : Int) (hi : i < 0 ∨ (A.l.length : Int) ≤ i) : Calls Try.prog 20 #[pb g, .int .i64 i] w fun e w' => e = .returned (.slice none 0 0) ∧ w = w' := by
  have H1 := Lib.hid (hHasNo h i hi)
  clear h hi
  go_enter Try.func20, Try.ntmps20
  go_wp2_with (go_at_call 33; refine H1.out.mono ?_; rintro e w1 ⟨rfl, rfl⟩)
  go_ret
  exact ⟨rfl, rfl⟩
theorem hCellYes {w : World} {g : Nat} {f : Raw} {A : Bo} (h : Has w g f A) (i : Nat) (hi : i < A.l.length) : Calls Try.prog 20 #[pb g, .int .i64 (i : Int)] w fun e w' => ∃ v, e = .returned v ∧ Own 5 w.heap.size w' v (cl A.l i).p ∧ Grows w w' := by
  have H1 := Lib.hid (hHasYes h i hi)
  have H2 := Lib.hid (hLying h i hi)
  have Hv := Lib.hid (h.cellv i hi)
  have Hl := Lib.hid (h.wf.len i hi)
  clear h hi
  go_enter Try.func20, Try.ntmps20
  go_wp2_with (first
    | (go_at_call 33; refine H1.out.mono ?_; rintro e w1 ⟨rfl, rfl⟩)
    | (go_at_call 35; refine H2.out.mono ?_; rintro e w1 ⟨rfl, hg⟩; have Hg := Lib.hid hg; clear hg)
    | (go_at_call 37; refine (clone_any _ _ _ (Hv.out.grows Hg.out) (by have := Hl.out; omega)).mono ?_; rintro e w2 ⟨v, rfl, ho, hg2⟩))
  go_ret
  exact ⟨_, rfl, ho.base Hg.out.size, Grows.trans' Hg.out hg2⟩
end Go.Proofs.Ytpodbhimkbadhaa
