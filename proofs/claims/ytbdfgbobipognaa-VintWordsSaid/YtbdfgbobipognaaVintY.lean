/-
  The walks of the laws VintWords, VintBack.
-/
import Derived.Test.YtbdfgbobipognaaVintW
namespace Go.Proofs.Ytbdfgbobipognaa
open Go.RowKit
set_option linter.unusedVariables false
set_option linter.unusedSimpArgs false

set_option maxRecDepth 100000 in
set_option maxHeartbeats 2000000 in
theorem walkWords (v u : Value) (l m : List UInt8) (n : Nat) (hn : n < 18446744073709551616) (w : World) (h : Byt w v l) (h' : Byt w u m) :
    Calls Try.prog 8 #[v, u, .int .u64 n] w fun e w' => e = .returned (.bool true) ∧ Grows w w' := by
  obtain ⟨i0, hi, hz0, hz1, hz2⟩ := info_parts info5
  have H := Lib.hid h
  obtain ⟨a, cap, rfl⟩ := h.slice
  have H' := Lib.hid h'
  obtain ⟨a', cap', rfl⟩ := h'.slice
  have Hn := Lib.hid hn
  clear h h' hn
  by_cases hl : 5000 < l.length
  · have hl' : (5000 : Int) < (l.length : Int) := by omega
    clear hl
    go_enter Try.func8, Try.ntmps8
    go_wp2_with (go_at_call 12; refine (live_any _).mono ?_; rintro e w4 ⟨rfl, hg4⟩)
    go_ret
    exact ⟨rfl, hg4⟩
  · have hl' : ¬ (5000 : Int) < (l.length : Int) := by omega
    by_cases hm : 5000 < m.length
    · have hm' : (5000 : Int) < (m.length : Int) := by omega
      clear hl hm
      go_enter Try.func8, Try.ntmps8
      go_wp2_with (go_at_call 12; refine (live_any _).mono ?_; rintro e w4 ⟨rfl, hg4⟩)
      go_ret
      exact ⟨rfl, hg4⟩
    · have hm' : ¬ (5000 : Int) < (m.length : Int) := by omega
      obtain ⟨B, hB⟩ : ∃ B, B = putB l ++ putB m := ⟨_, rfl⟩
      obtain ⟨k1, hk1⟩ : ∃ k, k = (putB l).length := ⟨_, rfl⟩
      obtain ⟨k2, hk2⟩ : ∃ k, k = (putB m).length := ⟨_, rfl⟩
      have p1 := put_len l.length
      have p2 := put_len m.length
      have q1 : k1 ≤ 5010 := by rw [hk1]; unfold putB; rw [List.length_append]; omega
      have q2 : k2 ≤ 5010 := by rw [hk2]; unfold putB; rw [List.length_append]; omega
      have hBl : B.length = k1 + k2 := by rw [hB, hk1, hk2, List.length_append]
      have G1 : Hid (getB B = (l, k1, 0)) := by
        show _ = _
        rw [hB, hk1]
        have := getB_put l (putB m) (by omega)
        unfold putB at *
        rw [this, List.length_append]
      have G2 : Hid (B.drop k1 = putB m) := by
        show _ = _
        rw [hB, hk1]
        simp
      have G3 : Hid (getB (putB m) = (m, k2, 0)) := by
        show _ = _
        rw [hk2]
        have := getB_put m [] (by omega)
        rw [List.append_nil] at this
        unfold putB at *
        rw [this, List.length_append]
      have tk : ¬ (B.length : Int) < (k1 : Int) := by omega
      have tk0 : ¬ (k1 : Int) < 0 := by omega
      have tsum : ((k1 : Int) + (k2 : Int) == (B.length : Int)) = true := by rw [beq_iff_eq]; omega
      have HBl := Lib.hid hBl
      have HB := Lib.hid hB
      clear hBl hB hk1 hk2 p1 p2
      go_enter Try.func8, Try.ntmps8
      go_wp2_with fail
      refine (vPutBytes _ l _ (H.out.grows (Grows.alloc' _ _)) (by omega)).mono ?_
      rintro e w1 ⟨v1, rfl, ho1, hg1⟩
      have E1 := Lib.hid ((Own.empty 5 w.heap.size w (Nat.le_refl _)).grows hg1)
      have L1 : Hid ((putB l).length ≤ 5010) := by
        have := (put_len l.length).2
        show (put l.length ++ l).length ≤ _
        rw [List.length_append]; omega
      have L2 : Hid ((putB m).length ≤ 5010) := by
        have := (put_len m.length).2
        show (put m.length ++ m).length ≤ _
        rw [List.length_append]; omega
      have HG1 := Lib.hid (Grows.trans' (Grows.alloc' w (.cells #[] 5)) hg1)
      go_wp2_with (at_builtin; refine wpList_app rfl _ _ 23 5 i0 rfl Try.underlying23 hi hz0 hz1 hz2 w.heap.size _ _ [] (putB l) rfl E1.out rfl ho1.byt (by have := L1.out; simp; omega) HG1.out.size ?_; intro v2 w2 hown2 hgrow2)
      have HG2 : Hid (Grows w w2) := grows_app HG1.out E1.out HG1.out.size hgrow2
      clear hgrow2 hg1 ho1
      refine (vPutBytes _ m _ (H'.out.grows HG2.out) (by omega)).mono ?_
      rintro e w3 ⟨v3, rfl, ho3, hg3⟩
      have HG3 := Lib.hid (Grows.trans' HG2.out hg3)
      have hown3 := hown2.grows hg3
      go_wp2_with (at_builtin; refine wpList_app rfl _ _ 23 5 i0 rfl Try.underlying23 hi hz0 hz1 hz2 w.heap.size _ _ _ (putB m) rfl hown3 rfl ho3.byt (by have := L1.out; have := L2.out; simp; omega) HG3.out.size ?_; intro v4 w4 hown4 hgrow4)
      have HG4 : Hid (Grows w w4) := grows_app HG3.out hown3 HG3.out.size hgrow4
      have hb4 : Byt w4 v4 B := by rw [HB.out]; simpa using hown4.byt
      clear hgrow4 hown4 hown3 hown2 ho3 hg3
      obtain ⟨a4, c4, rfl⟩ := hb4.slice
      refine (vGetBytes _ B _ hb4 (by have := HBl.out; omega)).mono ?_
      rw [G1.out]
      rintro e w5 ⟨v5, rfl, ho5, hg5⟩
      have HG5 := Lib.hid (Grows.trans' HG4.out hg5)
      have Hb4 := Lib.hid (hb4.grows hg5)
      have Hb5 := Lib.hid ho5.byt
      clear ho5 hg5 hb4
      go_wp2_with (first | (go_at_call 15; refine (num_any _ _).mono ?_; rintro e w3 ⟨rfl, rfl⟩) | (refine wpList_sliceFrom rfl _ _ 23 i0 rfl Try.underlying23 hi hz1 (.slice a4 B.length c4) B rfl Hb4.out k1 .i64 rfl (by omega) ?_; intro a6 c6 hb6))
      rw [G2.out] at hb6
      refine (vGetBytes _ (putB m) _ hb6 (by have := L2.out; omega)).mono ?_
      rw [G3.out]
      rintro e w6 ⟨v6, rfl, ho6, hg6⟩
      have HG6 := Lib.hid (Grows.trans' HG5.out hg6)
      have Hb6 := Lib.hid ho6.byt
      have Hb5' := Lib.hid (Hb5.out.grows hg6)
      have HHl := Lib.hid (H.out.grows HG6.out)
      have HHm := Lib.hid (H'.out.grows HG6.out)
      clear ho6 hg6 hb6
      go_wp2_with (first | (go_at_call 15; refine (num_any _ _).mono ?_; rintro e w3 ⟨rfl, rfl⟩) | (refine wpList_conv rfl _ 23 5 9 rfl rfl rfl rfl v5 l rfl Hb5'.out ?_) | (refine wpList_conv rfl _ 23 5 9 rfl rfl rfl rfl v6 m rfl Hb6.out ?_) | (refine wpList_conv rfl _ 23 5 9 rfl rfl rfl rfl (.slice a l.length cap) l rfl HHl.out ?_) | (refine wpList_conv rfl _ 23 5 9 rfl rfl rfl rfl (.slice a' m.length cap') m rfl HHm.out ?_))
      refine (vFixed n 8 Hn.out _).mono ?_
      rintro e w7 ⟨v7, rfl, ho7, hg7⟩
      have HG7 := Lib.hid (Grows.trans' HG6.out hg7)
      have Hb7 := Lib.hid ho7.byt
      clear ho7 hg7
      go_wp2_with fail
      refine (vNumber _ _ _ Hb7.out).mono ?_
      rw [number_fixed n Hn.out]
      rintro e w8 ⟨rfl, rfl⟩
      go_wp2_with (go_at_call 12; refine (live_any _).mono ?_; rintro e w9 ⟨rfl, hg9⟩)
      go_ret
      exact ⟨rfl, Grows.trans' HG7.out hg9⟩
end Go.Proofs.Ytbdfgbobipognaa
