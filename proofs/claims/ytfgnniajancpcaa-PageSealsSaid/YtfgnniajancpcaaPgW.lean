/-
  The walk of PageSeals.
-/
import Derived.Test.YtfgnniajancpcaaPgT
namespace Go.Proofs.Ytfgnniajancpcaa
open Go.RowKit
set_option linter.unusedVariables false
set_option linter.unusedSimpArgs false

theorem sealAny (k : Int) (n : Nat) (hn : n < 18446744073709551616) (u : Value) (l : List UInt8) (w : World) (hu : Byt w u l) (s : List UInt8) (er : Nat) (hs : sealP ⟨k, n, l⟩ = (s, er)) :
    Calls Try.prog 7 #[pgv k n u] w fun e w' => ∃ a cap, e = .returned (.tuple #[.slice a s.length cap, .int .i64 (er : Int)]) ∧ Byt w' (.slice a s.length cap) s ∧ Grows w w' := by
  cases hf : fitsP ⟨k, n, l⟩ with
  | false =>
    unfold sealP at hs
    rw [if_neg (by rw [hf]; simp)] at hs
    simp only [Prod.mk.injEq] at hs
    obtain ⟨rfl, rfl⟩ := hs
    exact (vSealNo k n u l w hu hf).mono fun e w' ⟨he, hg⟩ => ⟨none, 0, he, Byt.nil _, hg⟩
  | true =>
    unfold sealP at hs
    rw [if_pos hf] at hs
    simp only [Prod.mk.injEq] at hs
    obtain ⟨rfl, rfl⟩ := hs
    refine (vSealYes k n hn u l w hu hf).mono ?_
    rintro e w' ⟨v, rfl, ho, hg⟩
    obtain ⟨a, cap, rfl⟩ := ho.byt.slice
    exact ⟨a, cap, rfl, ho.byt, hg⟩
theorem refSealAny (k : Int) (n : Nat) (hn : n < 18446744073709551616) (u : Value) (l : List UInt8) (w : World) (hu : Byt w u l) (s : List UInt8) (er : Nat) (hs : sealP ⟨k, n, l⟩ = (s, er)) :
    Calls Try.prog 8 #[pgv k n u] w fun e w' => ∃ a cap, e = .returned (.tuple #[.slice a s.length cap, .int .i64 (er : Int)]) ∧ Byt w' (.slice a s.length cap) s ∧ Grows w w' := by
  cases hf : fitsP ⟨k, n, l⟩ with
  | false =>
    unfold sealP at hs
    rw [if_neg (by rw [hf]; simp)] at hs
    simp only [Prod.mk.injEq] at hs
    obtain ⟨rfl, rfl⟩ := hs
    exact (rSealNo k n u l w hu hf).mono fun e w' ⟨he, hg⟩ => ⟨none, 0, he, Byt.nil _, hg⟩
  | true =>
    unfold sealP at hs
    rw [if_pos hf] at hs
    simp only [Prod.mk.injEq] at hs
    obtain ⟨rfl, rfl⟩ := hs
    refine (rSealYes k n hn u l w hu hf).mono ?_
    rintro e w' ⟨v, rfl, ho, hg⟩
    obtain ⟨a, cap, rfl⟩ := ho.byt.slice
    exact ⟨a, cap, rfl, ho.byt, hg⟩
theorem refOpenIs (v : Value) (l : List UInt8) (w : World) (h : Byt w v l) (k : Int) (n : Nat) (m : List UInt8) (e : Nat) (ho : openP l = (⟨k, n, m⟩, e)) :
    Calls Try.prog 10 #[v] w fun en w' => ∃ a cap, en = .returned (.tuple #[pgv k n (.slice a m.length cap), .int .i64 (e : Int)]) ∧ Byt w' (.slice a m.length cap) m ∧ Grows w w' := by
  refine (rOpen v l w h).mono ?_
  rw [ho]
  rintro en w' ⟨u, rfl, hb, hg⟩
  obtain ⟨a, cap, rfl⟩ := hb.slice
  exact ⟨a, cap, rfl, hb, hg⟩
theorem refSameIs (k k' : Int) (n n' : Nat) (u v : Value) (l m : List UInt8) (w : World) (hu : Byt w u l) (hv : Byt w v m) (b : Bool) (hb : sameP ⟨k, n, l⟩ ⟨k', n', m⟩ = b) :
    Calls Try.prog 12 #[pgv k n u, pgv k' n' v] w fun e w' => e = .returned (.bool b) ∧ Grows w w' := by
  subst hb; exact refSame k k' n n' u v l m w hu hv

set_option maxRecDepth 100000 in
set_option maxHeartbeats 1000000 in
theorem walkSeals_out (k : Int) (n : Nat) (u v : Value) (l b : List UInt8) (w : World) (h : Byt w u l) (h' : Byt w v b) (ho : 2000 < l.length ∨ 2000 < b.length) :
    Calls Try.prog 3 #[pgv k n u, v] w fun e w' => e = .returned (.bool true) ∧ Grows w w' := by
  obtain ⟨a, cap, rfl⟩ := h.slice
  obtain ⟨a', cap', rfl⟩ := h'.slice
  clear h h'
  unfold pgv
  by_cases c1 : (2000 : Int) < (l.length : Int)
  · clear ho
    go_enter Try.func3, Try.ntmps3
    go_wp2_with (go_at_call 6; refine (live_any _).mono ?_; rintro e w4 ⟨rfl, hg4⟩)
    go_ret
    exact ⟨rfl, Grows.trans' (Grows.alloc' _ _) hg4⟩
  · have c2 : (2000 : Int) < (b.length : Int) := by omega
    clear ho
    go_enter Try.func3, Try.ntmps3
    go_wp2_with (go_at_call 6; refine (live_any _).mono ?_; rintro e w4 ⟨rfl, hg4⟩)
    go_ret
    exact ⟨rfl, Grows.trans' (Grows.alloc' _ _) hg4⟩

set_option maxRecDepth 100000 in
set_option maxHeartbeats 4000000 in
theorem walkSeals_in (k : Int) (n : Nat) (hn : n < 18446744073709551616) (u v : Value) (l b : List UInt8) (w : World) (h : Byt w u l) (h' : Byt w v b) (hl : l.length ≤ 2000) (hl' : b.length ≤ 2000) :
    Calls Try.prog 3 #[pgv k n u, v] w fun e w' => e = .returned (.bool true) ∧ Grows w w' := by
  obtain ⟨i0, hi, hz0, hz1, hz2⟩ := info_parts info5
  have hmx : Try.prog.follows .mixedOrders = true := by kernel_rfl
  obtain ⟨a, cap, rfl⟩ := h.slice
  obtain ⟨a', cap', rfl⟩ := h'.slice
  obtain ⟨q, Hq⟩ : ∃ q, Hid (w.heap.size = q) := ⟨_, Lib.hid rfl⟩
  obtain ⟨W0, HW0⟩ : ∃ W0, Hid ((w.alloc (.cells #[.int .i64 k, .int .u64 n, .slice a l.length cap] 25)) = W0) := ⟨_, Lib.hid rfl⟩
  have HG0 : Hid (Grows w W0) := by show Grows _ _; rw [← HW0.out]; exact Grows.alloc' _ _
  have HP0 : Hid (W0.heap[q]? = some (.cells #[.int .i64 k, .int .u64 n, .slice a l.length cap] 25 (0, 0))) := by
    show _ = _
    rw [← HW0.out, ← Hq.out]
    exact heap_alloc_new w _
  have HbP : Hid (Byt W0 (.slice a l.length cap) l) := h.grows HG0.out
  have HbB : Hid (Byt W0 (.slice a' b.length cap') b) := h'.grows HG0.out
  have c1 : ¬ (2000 : Int) < (l.length : Int) := by omega
  have c2 : ¬ (2000 : Int) < (b.length : Int) := by omega
  obtain ⟨⟨s, er⟩, Hs⟩ : ∃ r, Shut (sealP ⟨k, n, l⟩ = r) := ⟨_, ⟨rfl⟩⟩
  obtain ⟨⟨⟨ko, no, lo⟩, eo⟩, Ho⟩ : ∃ r, Shut (openP b = r) := ⟨_, ⟨rfl⟩⟩
  have HS1 : Shut (sameP ⟨ko, no, lo⟩ ⟨ko, no, lo⟩ = true) := ⟨(sameP_iff _ _).2 rfl⟩
  obtain ⟨bb, Hbb⟩ : ∃ bb, Shut (sameP ⟨k, n, l⟩ ⟨ko, no, lo⟩ = bb) := ⟨_, ⟨rfl⟩⟩
  have Hn := Lib.hid hn
  have Hl := Lib.hid hl'
  clear hl hl' h h' hn
  unfold pgv
  obtain ⟨c0, c3, c4⟩ := boxCells (Below.refl (q + 1) W0) HP0.out
  go_enter Try.func3, Try.ntmps3
  go_wp2_with (first
    | (refine wpList_boxT rfl 25 (.tmp 0) rfl #[.int .i64 k, .int .u64 n, .slice a l.length cap] rfl ?_; rw [HW0.out, Hq.out]))
  clear c0 c3 c4
  refine (sealAny k n Hn.out _ l W0 HbP.out s er Hs.out).mono ?_
  rintro e w1 ⟨a1, k1, rfl, hb1, hg1⟩
  have HG1 := Lib.hid (Grows.trans' HG0.out hg1)
  have HP1 := Lib.hid (hg1.heap' HP0.out)
  have HbP1 := Lib.hid (HbP.out.grows hg1)
  have HbB1 := Lib.hid (HbB.out.grows hg1)
  have HX1 := Lib.hid hb1
  clear hb1 hg1
  obtain ⟨c0, c3, c4⟩ := boxCells (Below.refl (q + 1) w1) HP1.out
  go_wp2_with fail
  clear c0 c3 c4
  refine (refSealAny k n Hn.out _ l w1 HbP1.out s er Hs.out).mono ?_
  rintro e w2 ⟨a2, k2, rfl, hb2, hg2⟩
  have HG2 := Lib.hid (Grows.trans' HG1.out hg2)
  have HP2 := Lib.hid (hg2.heap' HP1.out)
  have HbP2 := Lib.hid (HbP1.out.grows hg2)
  have HbB2 := Lib.hid (HbB1.out.grows hg2)
  have HX2 := Lib.hid (HX1.out.grows hg2)
  have HY2 := Lib.hid hb2
  clear hb2 hg2
  go_wp2_with (at_builtin; refine wpList_app rfl _ _ 23 5 i0 rfl Try.underlying23 hi hz0 hz1 hz2 w2.heap.size _ _ [] b rfl (Own.empty _ _ _ (Nat.le_refl _)) rfl (HbB2.out.grows (Grows.alloc' _ _)) (by have := Hl.out; simp; omega) (by simp) ?_; intro v3 w3 hown3 hgrow3; have HG23 : Hid (Grows w2 w3) := grows_app ((Below.refl _ _).alloc (Nat.le_refl _) _) (Own.empty 5 _ _ (Nat.le_refl _)) (by simp) hgrow3; clear hgrow3)
  have hb3 : Byt w3 v3 b := hown3.byt
  have HP3 := Lib.hid (HG23.out.heap' HP2.out)
  have HG3 := Lib.hid (Grows.trans' HG2.out HG23.out)
  have HbP3 := Lib.hid (HbP2.out.grows HG23.out)
  have HbB3 := Lib.hid (HbB2.out.grows HG23.out)
  have HX3 := Lib.hid (HX2.out.grows HG23.out)
  have HY3 := Lib.hid (HY2.out.grows HG23.out)
  clear hown3
  refine (openIs _ b w3 hb3 ko no lo eo Ho.out).mono ?_
  clear hb3
  rintro e w4 ⟨a4, k4, rfl, hb4, hg4⟩
  unfold pgv
  obtain ⟨q4, Hq4⟩ : ∃ q4, Hid (w4.heap.size = q4) := ⟨_, Lib.hid rfl⟩
  obtain ⟨W4, HW4⟩ : ∃ W4, Hid (w4.alloc (.cells #[.int .i64 ko, .int .u64 no, .slice a4 lo.length k4] 25) = W4) := ⟨_, Lib.hid rfl⟩
  have hR4 := heap_alloc_new w4 (.cells #[.int .i64 ko, .int .u64 no, .slice a4 lo.length k4] 25)
  have hg4' : Grows w4 W4 := by rw [← HW4.out]; exact Grows.alloc' _ _
  have hg34 := Grows.trans' hg4 hg4'
  rw [HW4.out, Hq4.out] at hR4
  have HO4 := Lib.hid hR4
  have HP4 := Lib.hid (hg34.heap' HP3.out)
  have HG4 := Lib.hid (Grows.trans' HG3.out hg34)
  have HbP4 := Lib.hid (HbP3.out.grows hg34)
  have HbB4 := Lib.hid (HbB3.out.grows hg34)
  have HX4 := Lib.hid (HX3.out.grows hg34)
  have HY4 := Lib.hid (HY3.out.grows hg34)
  have HbO4 := Lib.hid (hb4.grows hg4')
  clear hR4 hg4' hg34 hb4 hg4
  go_wp2_with fail
  rw [Hq4.out, HW4.out]
  refine (refOpenIs _ b W4 HbB4.out ko no lo eo Ho.out).mono ?_
  rintro e w5 ⟨a5, k5, rfl, hb5, hg5⟩
  unfold pgv
  obtain ⟨q5, Hq5⟩ : ∃ q5, Hid (w5.heap.size = q5) := ⟨_, Lib.hid rfl⟩
  obtain ⟨W5, HW5⟩ : ∃ W5, Hid (w5.alloc (.cells #[.int .i64 ko, .int .u64 no, .slice a5 lo.length k5] 25) = W5) := ⟨_, Lib.hid rfl⟩
  have hR5 := heap_alloc_new w5 (.cells #[.int .i64 ko, .int .u64 no, .slice a5 lo.length k5] 25)
  have hg5' : Grows w5 W5 := by rw [← HW5.out]; exact Grows.alloc' _ _
  have hg45 := Grows.trans' hg5 hg5'
  rw [HW5.out, Hq5.out] at hR5
  have HR5 := Lib.hid hR5
  have HO5 := Lib.hid (hg45.heap' HO4.out)
  have HP5 := Lib.hid (hg45.heap' HP4.out)
  have HG5 := Lib.hid (Grows.trans' HG4.out hg45)
  have HbP5 := Lib.hid (HbP4.out.grows hg45)
  have HX5 := Lib.hid (HX4.out.grows hg45)
  have HY5 := Lib.hid (HY4.out.grows hg45)
  have HbO5 := Lib.hid (HbO4.out.grows hg45)
  have HbR5 := Lib.hid (hb5.grows hg5')
  clear hR5 hg5' hg45 hb5 hg5
  go_wp2_with fail
  rw [Hq5.out, HW5.out]
  refine specs_region
    (([] :: [0] :: [] :: [2] :: [0, 1, 2, 3] :: [0, 1, 2, 3, 4] :: [0, 1, 2, 3, 4, 5] :: [0, 1, 2, 3, 4, 5, 6] :: [0, 1, 2, 3, 4, 5] :: [0, 1, 2, 3, 4, 5, 6, 7, 8] :: [0, 1, 2, 3, 4, 5, 6, 7, 8, 9] :: [0, 1, 2, 3, 4, 5, 6, 7, 8, 9, 10] :: [0, 1, 2, 3, 4, 5, 6, 7, 8, 9, 10, 11] :: [0, 1, 2, 3, 4, 5, 6, 7, 8, 9, 10, 11] :: [0, 1, 2, 3, 4, 5, 6, 7, 8, 9, 10, 11, 12, 13] :: [0, 1, 2, 3, 4, 5, 6, 7, 8, 9, 10, 11, 12, 13, 14] :: [0, 1, 2, 3, 4, 5, 6, 7, 8, 9, 10, 11, 12, 13, 14, 15] :: [0, 1, 2, 3, 4, 5, 6, 7, 8, 9, 10, 11, 12, 13, 14, 15, 16] :: [0, 1, 2, 3, 4, 5, 6, 7, 8, 9, 10, 11, 12, 13, 14, 15, 16, 17] :: [0, 1, 2, 3, 4, 5, 6, 7, 8, 9, 10, 11, 12, 13, 14, 15, 16] :: [0, 1, 2, 3, 4, 5, 6, 7, 8, 9, 10, 11, 12, 13, 14, 15, 16, 17, 18, 19] :: [0, 1, 2, 3, 4, 5, 6, 7, 8, 9, 10, 11, 12, 13, 14, 15, 16, 17, 18, 19, 20] :: [0, 1, 2, 3, 4, 5, 6, 7, 8, 9, 10, 11, 12, 13, 14, 15, 16, 17, 18, 19, 20, 21] :: [0, 1, 2, 3, 4, 5, 6, 7, 8, 9, 10, 11, 12, 13, 14, 15, 16, 17, 18, 19, 20, 21, 22] :: [0, 1, 2, 3, 4, 5, 6, 7, 8, 9, 10, 11, 12, 13, 14, 15, 16, 17, 18, 19, 20, 21, 22] :: [0, 1, 2, 3, 4, 5, 6, 7, 8, 9, 10, 11, 12, 13, 14, 15, 16, 17, 18, 19, 20, 21, 22, 23, 24] :: [0, 1, 2, 3, 4, 5, 6, 7, 8, 9, 10, 11, 12, 13, 14, 15, 16, 17, 18, 19, 20, 21, 22] :: [0, 1, 2, 3, 4, 5, 6, 7, 8, 9, 10, 11, 12, 13, 14, 15, 16, 17, 18, 19, 20, 21, 22] :: [0, 1, 2, 3, 4, 5, 6, 7, 8, 9, 10, 11, 12, 13, 14, 15, 16, 17, 18, 19, 20, 21, 22, 23, 24, 25, 26, 27] :: [0, 1, 2, 3, 4, 5, 6, 7, 8, 9, 10, 11, 12, 13, 14, 15, 16, 17, 18, 19, 20, 21, 22, 23, 24, 25, 26, 27, 28] :: [0, 1, 2, 3, 4, 5, 6, 7, 8, 9, 10, 11, 12, 13, 14, 15, 16, 17, 18, 19, 20, 21, 22, 23, 24, 25, 26, 27, 28, 29] :: (0 :: 1 :: 2 :: 3 :: 4 :: 5 :: 6 :: 7 :: 8 :: 9 :: 10 :: 11 :: 12 :: 13 :: 14 :: 15 :: 16 :: 17 :: 18 :: 19 :: 20 :: 21 :: 22 :: 23 :: 24 :: 25 :: 26 :: 27 :: 28 :: 29 :: 30 :: []) :: (0 :: 1 :: 2 :: 3 :: 4 :: 5 :: 6 :: 7 :: 8 :: 9 :: 10 :: 11 :: 12 :: 13 :: 14 :: 15 :: 16 :: 17 :: 18 :: 19 :: 20 :: 21 :: 22 :: 23 :: 24 :: 25 :: 26 :: 27 :: 28 :: 29 :: 30 :: 31 :: []) :: (0 :: 1 :: 2 :: 3 :: 4 :: 5 :: 6 :: 7 :: 8 :: 9 :: 10 :: 11 :: 12 :: 13 :: 14 :: 15 :: 16 :: 17 :: 18 :: 19 :: 20 :: 21 :: 22 :: 23 :: 24 :: 25 :: 26 :: 27 :: 28 :: 29 :: 30 :: 31 :: 32 :: []) :: (0 :: 1 :: 2 :: 3 :: 4 :: 5 :: 6 :: 7 :: 8 :: 9 :: 10 :: 11 :: 12 :: 13 :: 14 :: 15 :: 16 :: 17 :: 18 :: 19 :: 20 :: 21 :: 22 :: 23 :: 24 :: 25 :: 26 :: 27 :: 28 :: 29 :: 30 :: 31 :: 32 :: 33 :: []) :: []).toArray) (([5] :: [] :: [7] :: [] :: [] :: [] :: [6] :: [] :: [8] :: [] :: [] :: [] :: [9] :: [11] :: [] :: [] :: [] :: [10] :: [] :: [12] :: [] :: [] :: [] :: [2] :: [9] :: [] :: [2] :: [9] :: [] :: [] :: [] :: [] :: [] :: [] :: [] :: []).toArray) ((true :: true :: true :: true :: true :: true :: true :: true :: true :: true :: true :: true :: true :: true :: true :: true :: true :: true :: true :: true :: true :: true :: true :: true :: true :: true :: true :: true :: true :: true :: true :: true :: true :: true :: true :: []).toArray)
    ((.val ?v0) :: (.val (.string ⟨(s : List UInt8).toArray⟩)) :: (.val ?v2) :: (.val (.string ⟨(s : List UInt8).toArray⟩)) :: (.val (.bool true)) :: (.val ?v5) :: (.val ?v6) :: (.val ?v7) :: (.val ?v8) :: (.val (.bool true)) :: (.val ?v10) :: (.val ?v11) :: (.val (.agg #[.int .i64 ko, .int .u64 no, .slice a4 lo.length k4])) :: (.val (.agg #[.int .i64 ko, .int .u64 no, .slice a5 lo.length k5])) :: (.val ?v14) :: (.val ?v15) :: (.val ?v16) :: (.val ?v17) :: (.val ?v18) :: (.val ?v19) :: (.val (.bool true)) :: (.val ?v21) :: (.val ?v22) :: (.val (.agg #[.int .i64 k, .int .u64 n, .slice a l.length cap])) :: (.val (.agg #[.int .i64 ko, .int .u64 no, .slice a4 lo.length k4])) :: (.val ?v25) :: (.val (.agg #[.int .i64 k, .int .u64 n, .slice a l.length cap])) :: (.val (.agg #[.int .i64 ko, .int .u64 no, .slice a4 lo.length k4])) :: (.val ?v28) :: (.val (.bool true)) :: (.val ?v30) :: (.val ?v31) :: (.val ?v32) :: (.val ?v33) :: (.val ?v34) :: []).toArray
    hmx ?chk ?grd ?stp ?rst
  case chk => rfl
  case stp =>
    refine ⟨?_, ?_, ?_, ?_, ?_, ?_, ?_, ?_, ?_, ?_, ?_, ?_, ?_, ?_, ?_, ?_, ?_, ?_, ?_, ?_, ?_, ?_, ?_, ?_, ?_, ?_, ?_, ?_, ?_, ?_, ?_, ?_, ?_, ?_, ?_, trivial⟩
    · refine step_intro rfl rfl fun ρ X hc hf hgl hX hp ho => ?_
      change StepOk _ { dst := _, op := Op.move (Operand.tmp 5), type := _, pos := _, after := _, guard := _ } _ _ _
      have k5 : ρ (.tmp 5) = .slice a1 s.length k1 := ho 5 (by decide)
      clear hp ho
      refine StepOk.of_run (v := ?v0) (w' := X) ?_ ⟨rfl, Below.refl _ _⟩
      clear hX
      go_simp
      all_goals try go_bits
      all_goals try simp only [IntWalk.iteOmega]
      all_goals try go_bits
      all_goals rfl
    · refine step_intro rfl rfl fun ρ X hc hf hgl hX hp ho => ?_
      change StepOk _ { dst := _, op := Op.convert 23 9 (Operand.tmp 45), type := _, pos := _, after := _, guard := _ } _ _ _
      have k45 : ρ (.tmp 45) = ?v0 := hp 0 (by decide)
      clear hp ho
      have hr := run_string (P := Try.prog) (T := 23) (e := 5) (S := 9) rfl rfl rfl (Byt.grows HX5.out hX)
      refine StepOk.of_run (v := .string ⟨(s : List UInt8).toArray⟩) (w' := X) ?_ ⟨rfl, Below.refl _ _⟩
      simp only [execOp, k45, Sem.run_bind, hr, Result.andThen_ok, Sem.run_pure]
    · refine step_intro rfl rfl fun ρ X hc hf hgl hX hp ho => ?_
      change StepOk _ { dst := _, op := Op.move (Operand.tmp 7), type := _, pos := _, after := _, guard := _ } _ _ _
      have k7 : ρ (.tmp 7) = .slice a2 s.length k2 := ho 7 (by decide)
      clear hp ho
      refine StepOk.of_run (v := ?v2) (w' := X) ?_ ⟨rfl, Below.refl _ _⟩
      clear hX
      go_simp
      all_goals try go_bits
      all_goals try simp only [IntWalk.iteOmega]
      all_goals try go_bits
      all_goals rfl
    · refine step_intro rfl rfl fun ρ X hc hf hgl hX hp ho => ?_
      change StepOk _ { dst := _, op := Op.convert 23 9 (Operand.tmp 47), type := _, pos := _, after := _, guard := _ } _ _ _
      have k47 : ρ (.tmp 47) = ?v2 := hp 2 (by decide)
      clear hp ho
      have hr := run_string (P := Try.prog) (T := 23) (e := 5) (S := 9) rfl rfl rfl (Byt.grows HY5.out hX)
      refine StepOk.of_run (v := .string ⟨(s : List UInt8).toArray⟩) (w' := X) ?_ ⟨rfl, Below.refl _ _⟩
      simp only [execOp, k47, Sem.run_bind, hr, Result.andThen_ok, Sem.run_pure]
    · refine step_intro rfl rfl fun ρ X hc hf hgl hX hp ho => ?_
      change StepOk _ { dst := _, op := Op.binOp BinOp.eql 9 (Operand.tmp 46) (Operand.tmp 48) 9, type := _, pos := _, after := _, guard := _ } _ _ _
      have k46 : ρ (.tmp 46) = (.string ⟨(s : List UInt8).toArray⟩) := hp 1 (by decide)
      have k48 : ρ (.tmp 48) = (.string ⟨(s : List UInt8).toArray⟩) := hp 3 (by decide)
      clear hp ho
      refine StepOk.of_run (v := .bool true) (w' := X) ?_ ⟨rfl, Below.refl _ _⟩
      clear hX
      simp [go_sem, execOp, k46, k48]
    · refine step_intro rfl rfl fun ρ X hc hf hgl hX hp ho => ?_
      change StepOk _ { dst := _, op := Op.move (Operand.tmp 49), type := _, pos := _, after := _, guard := _ } _ _ _
      have k49 : ρ (.tmp 49) = (.bool true) := hp 4 (by decide)
      clear hp ho
      refine StepOk.of_run (v := ?v5) (w' := X) ?_ ⟨rfl, Below.refl _ _⟩
      clear hX
      go_simp
      all_goals try go_bits
      all_goals try simp only [IntWalk.iteOmega]
      all_goals try go_bits
      all_goals rfl
    · refine step_intro rfl rfl fun ρ X hc hf hgl hX hp ho => ?_
      change StepOk _ { dst := _, op := Op.move (Operand.tmp 6), type := _, pos := _, after := _, guard := _ } _ _ _
      have k6 : ρ (.tmp 6) = .int .i64 (er : Int) := ho 6 (by decide)
      clear hp ho
      refine StepOk.of_run (v := ?v6) (w' := X) ?_ ⟨rfl, Below.refl _ _⟩
      clear hX
      go_simp
      all_goals try go_bits
      all_goals try simp only [IntWalk.iteOmega]
      all_goals try go_bits
      all_goals rfl
    · refine step_intro rfl rfl fun ρ X hc hf hgl hX hp ho => ?_
      change StepOk _ { dst := _, op := Op.call { callee := Callee.value (Operand.func 11), args := #[Operand.tmp 51], argTypes := #[27] }, type := _, pos := _, after := _, guard := _ } _ _ _
      have k51 : ρ (.tmp 51) = ?v6 := hp 6 (by decide)
      clear hp ho
      refine StepOk.of_call (f := 11) (args := #[?v6]) (w' := X) ?_ (vNum _ X) ?_
      · go_simp
        all_goals try go_bits
        all_goals try rfl
      · rintro e w'' ⟨rfl, rfl⟩; refine ⟨_, rfl, ?_, Below.refl _ _⟩; show _ = ?v7; rfl
    · refine step_intro rfl rfl fun ρ X hc hf hgl hX hp ho => ?_
      change StepOk _ { dst := _, op := Op.move (Operand.tmp 8), type := _, pos := _, after := _, guard := _ } _ _ _
      have k8 : ρ (.tmp 8) = .int .i64 (er : Int) := ho 8 (by decide)
      clear hp ho
      refine StepOk.of_run (v := ?v8) (w' := X) ?_ ⟨rfl, Below.refl _ _⟩
      clear hX
      go_simp
      all_goals try go_bits
      all_goals try simp only [IntWalk.iteOmega]
      all_goals try go_bits
      all_goals rfl
    · refine step_intro rfl rfl fun ρ X hc hf hgl hX hp ho => ?_
      change StepOk _ { dst := _, op := Op.binOp BinOp.eql 3 (Operand.tmp 52) (Operand.tmp 53) 3, type := _, pos := _, after := _, guard := _ } _ _ _
      have k52 : ρ (.tmp 52) = ?v7 := hp 7 (by decide)
      have k53 : ρ (.tmp 53) = ?v8 := hp 8 (by decide)
      clear hp ho
      refine StepOk.of_run (v := .bool true) (w' := X) ?_ ⟨rfl, Below.refl _ _⟩
      clear hX
      simp [go_sem, execOp, k52, k53]
    · refine step_intro rfl rfl fun ρ X hc hf hgl hX hp ho => ?_
      change StepOk _ { dst := _, op := Op.pick (Operand.tmp 50) (Operand.tmp 54) (Operand.const (Value.bool false)), type := _, pos := _, after := _, guard := _ } _ _ _
      have k50 : ρ (.tmp 50) = ?v5 := hp 5 (by decide)
      have k54 : ρ (.tmp 54) = (.bool true) := hp 9 (by decide)
      clear hp ho
      refine StepOk.of_run (v := ?v10) (w' := X) ?_ ⟨rfl, Below.refl _ _⟩
      clear hX
      go_simp
      all_goals try go_bits
      all_goals try simp only [IntWalk.iteOmega]
      all_goals try go_bits
      all_goals rfl
    · refine step_intro rfl rfl fun ρ X hc hf hgl hX hp ho => ?_
      change StepOk _ { dst := _, op := Op.move (Operand.tmp 55), type := _, pos := _, after := _, guard := _ } _ _ _
      have k55 : ρ (.tmp 55) = ?v10 := hp 10 (by decide)
      clear hp ho
      refine StepOk.of_run (v := ?v11) (w' := X) ?_ ⟨rfl, Below.refl _ _⟩
      clear hX
      go_simp
      all_goals try go_bits
      all_goals try simp only [IntWalk.iteOmega]
      all_goals try go_bits
      all_goals rfl
    · refine step_intro rfl rfl fun ρ X hc hf hgl hX hp ho => ?_
      change StepOk _ { dst := _, op := Op.load 25 (Operand.tmp 9), type := _, pos := _, after := _, guard := _ } _ _ _
      have k9 : ρ (.tmp 9) = .pointer (some ⟨q4, 0, none⟩) := ho 9 (by decide)
      clear hp ho
      refine StepOk.of_run (v := .agg #[.int .i64 ko, .int .u64 no, .slice a4 lo.length k4]) (w' := X) ?_ ⟨rfl, Below.refl _ _⟩
      simp only [execOp, Instr.loadAt, Instr.sureAddr, k9, Sem.run_bind, Sem.run_pure, Result.andThen_ok, run_loadVar_row X _ 25 25 #[.int .i64 ko, .int .u64 no, .slice a4 lo.length k4] (0, 0) _ (hX.heap' HO5.out) Try.underlying25 rfl sizePg]
    · refine step_intro rfl rfl fun ρ X hc hf hgl hX hp ho => ?_
      change StepOk _ { dst := _, op := Op.load 25 (Operand.tmp 11), type := _, pos := _, after := _, guard := _ } _ _ _
      have k11 : ρ (.tmp 11) = .pointer (some ⟨q5, 0, none⟩) := ho 11 (by decide)
      clear hp ho
      refine StepOk.of_run (v := .agg #[.int .i64 ko, .int .u64 no, .slice a5 lo.length k5]) (w' := X) ?_ ⟨rfl, Below.refl _ _⟩
      simp only [execOp, Instr.loadAt, Instr.sureAddr, k11, Sem.run_bind, Sem.run_pure, Result.andThen_ok, run_loadVar_row X _ 25 25 #[.int .i64 ko, .int .u64 no, .slice a5 lo.length k5] (0, 0) _ (hX.heap' HR5.out) Try.underlying25 rfl sizePg]
    · refine step_intro rfl rfl fun ρ X hc hf hgl hX hp ho => ?_
      change StepOk _ { dst := _, op := Op.call { callee := Callee.value (Operand.func 12), args := #[Operand.tmp 57, Operand.tmp 58], argTypes := #[25, 25] }, type := _, pos := _, after := _, guard := _ } _ _ _
      have k57 : ρ (.tmp 57) = (.agg #[.int .i64 ko, .int .u64 no, .slice a4 lo.length k4]) := hp 12 (by decide)
      have k58 : ρ (.tmp 58) = (.agg #[.int .i64 ko, .int .u64 no, .slice a5 lo.length k5]) := hp 13 (by decide)
      clear hp ho
      refine StepOk.of_call (f := 12) (args := #[(.agg #[.int .i64 ko, .int .u64 no, .slice a4 lo.length k4]), (.agg #[.int .i64 ko, .int .u64 no, .slice a5 lo.length k5])]) (w' := X) ?_ (refSameIs ko ko no no _ _ lo lo X (HbO5.out.grows hX) (HbR5.out.grows hX) true HS1.out) ?_
      · go_simp
        all_goals try go_bits
        all_goals try rfl
      · rintro e w'' ⟨rfl, hg'⟩; refine ⟨_, rfl, ?_, hg'⟩; show _ = ?v14; rfl
    · refine step_intro rfl rfl fun ρ X hc hf hgl hX hp ho => ?_
      change StepOk _ { dst := _, op := Op.pick (Operand.tmp 56) (Operand.tmp 59) (Operand.const (Value.bool false)), type := _, pos := _, after := _, guard := _ } _ _ _
      have k56 : ρ (.tmp 56) = ?v11 := hp 11 (by decide)
      have k59 : ρ (.tmp 59) = ?v14 := hp 14 (by decide)
      clear hp ho
      refine StepOk.of_run (v := ?v15) (w' := X) ?_ ⟨rfl, Below.refl _ _⟩
      clear hX
      go_simp
      all_goals try go_bits
      all_goals try simp only [IntWalk.iteOmega]
      all_goals try go_bits
      all_goals rfl
    · refine step_intro rfl rfl fun ρ X hc hf hgl hX hp ho => ?_
      change StepOk _ { dst := _, op := Op.move (Operand.tmp 60), type := _, pos := _, after := _, guard := _ } _ _ _
      have k60 : ρ (.tmp 60) = ?v15 := hp 15 (by decide)
      clear hp ho
      refine StepOk.of_run (v := ?v16) (w' := X) ?_ ⟨rfl, Below.refl _ _⟩
      clear hX
      go_simp
      all_goals try go_bits
      all_goals try simp only [IntWalk.iteOmega]
      all_goals try go_bits
      all_goals rfl
    · refine step_intro rfl rfl fun ρ X hc hf hgl hX hp ho => ?_
      change StepOk _ { dst := _, op := Op.move (Operand.tmp 10), type := _, pos := _, after := _, guard := _ } _ _ _
      have k10 : ρ (.tmp 10) = .int .i64 (eo : Int) := ho 10 (by decide)
      clear hp ho
      refine StepOk.of_run (v := ?v17) (w' := X) ?_ ⟨rfl, Below.refl _ _⟩
      clear hX
      go_simp
      all_goals try go_bits
      all_goals try simp only [IntWalk.iteOmega]
      all_goals try go_bits
      all_goals rfl
    · refine step_intro rfl rfl fun ρ X hc hf hgl hX hp ho => ?_
      change StepOk _ { dst := _, op := Op.call { callee := Callee.value (Operand.func 11), args := #[Operand.tmp 62], argTypes := #[27] }, type := _, pos := _, after := _, guard := _ } _ _ _
      have k62 : ρ (.tmp 62) = ?v17 := hp 17 (by decide)
      clear hp ho
      refine StepOk.of_call (f := 11) (args := #[?v17]) (w' := X) ?_ (vNum _ X) ?_
      · go_simp
        all_goals try go_bits
        all_goals try rfl
      · rintro e w'' ⟨rfl, rfl⟩; refine ⟨_, rfl, ?_, Below.refl _ _⟩; show _ = ?v18; rfl
    · refine step_intro rfl rfl fun ρ X hc hf hgl hX hp ho => ?_
      change StepOk _ { dst := _, op := Op.move (Operand.tmp 12), type := _, pos := _, after := _, guard := _ } _ _ _
      have k12 : ρ (.tmp 12) = .int .i64 (eo : Int) := ho 12 (by decide)
      clear hp ho
      refine StepOk.of_run (v := ?v19) (w' := X) ?_ ⟨rfl, Below.refl _ _⟩
      clear hX
      go_simp
      all_goals try go_bits
      all_goals try simp only [IntWalk.iteOmega]
      all_goals try go_bits
      all_goals rfl
    · refine step_intro rfl rfl fun ρ X hc hf hgl hX hp ho => ?_
      change StepOk _ { dst := _, op := Op.binOp BinOp.eql 3 (Operand.tmp 63) (Operand.tmp 64) 3, type := _, pos := _, after := _, guard := _ } _ _ _
      have k63 : ρ (.tmp 63) = ?v18 := hp 18 (by decide)
      have k64 : ρ (.tmp 64) = ?v19 := hp 19 (by decide)
      clear hp ho
      refine StepOk.of_run (v := .bool true) (w' := X) ?_ ⟨rfl, Below.refl _ _⟩
      clear hX
      simp [go_sem, execOp, k63, k64]
    · refine step_intro rfl rfl fun ρ X hc hf hgl hX hp ho => ?_
      change StepOk _ { dst := _, op := Op.pick (Operand.tmp 61) (Operand.tmp 65) (Operand.const (Value.bool false)), type := _, pos := _, after := _, guard := _ } _ _ _
      have k61 : ρ (.tmp 61) = ?v16 := hp 16 (by decide)
      have k65 : ρ (.tmp 65) = (.bool true) := hp 20 (by decide)
      clear hp ho
      refine StepOk.of_run (v := ?v21) (w' := X) ?_ ⟨rfl, Below.refl _ _⟩
      clear hX
      go_simp
      all_goals try go_bits
      all_goals try simp only [IntWalk.iteOmega]
      all_goals try go_bits
      all_goals rfl
    · refine step_intro rfl rfl fun ρ X hc hf hgl hX hp ho => ?_
      change StepOk _ { dst := _, op := Op.move (Operand.tmp 66), type := _, pos := _, after := _, guard := _ } _ _ _
      have k66 : ρ (.tmp 66) = ?v21 := hp 21 (by decide)
      clear hp ho
      refine StepOk.of_run (v := ?v22) (w' := X) ?_ ⟨rfl, Below.refl _ _⟩
      clear hX
      go_simp
      all_goals try go_bits
      all_goals try simp only [IntWalk.iteOmega]
      all_goals try go_bits
      all_goals rfl
    · refine step_intro rfl rfl fun ρ X hc hf hgl hX hp ho => ?_
      change StepOk _ { dst := _, op := Op.load 25 (Operand.tmp 2), type := _, pos := _, after := _, guard := _ } _ _ _
      have k2 : ρ (.tmp 2) = .pointer (some ⟨q, 0, none⟩) := ho 2 (by decide)
      clear hp ho
      refine StepOk.of_run (v := .agg #[.int .i64 k, .int .u64 n, .slice a l.length cap]) (w' := X) ?_ ⟨rfl, Below.refl _ _⟩
      simp only [execOp, Instr.loadAt, Instr.sureAddr, k2, Sem.run_bind, Sem.run_pure, Result.andThen_ok, run_loadVar_row X _ 25 25 #[.int .i64 k, .int .u64 n, .slice a l.length cap] (0, 0) _ (hX.heap' HP5.out) Try.underlying25 rfl sizePg]
    · refine step_intro rfl rfl fun ρ X hc hf hgl hX hp ho => ?_
      change StepOk _ { dst := _, op := Op.load 25 (Operand.tmp 9), type := _, pos := _, after := _, guard := _ } _ _ _
      have k9 : ρ (.tmp 9) = .pointer (some ⟨q4, 0, none⟩) := ho 9 (by decide)
      clear hp ho
      refine StepOk.of_run (v := .agg #[.int .i64 ko, .int .u64 no, .slice a4 lo.length k4]) (w' := X) ?_ ⟨rfl, Below.refl _ _⟩
      simp only [execOp, Instr.loadAt, Instr.sureAddr, k9, Sem.run_bind, Sem.run_pure, Result.andThen_ok, run_loadVar_row X _ 25 25 #[.int .i64 ko, .int .u64 no, .slice a4 lo.length k4] (0, 0) _ (hX.heap' HO5.out) Try.underlying25 rfl sizePg]
    · refine step_intro rfl rfl fun ρ X hc hf hgl hX hp ho => ?_
      change StepOk _ { dst := _, op := Op.call { callee := Callee.value (Operand.func 13), args := #[Operand.tmp 68, Operand.tmp 69], argTypes := #[25, 25] }, type := _, pos := _, after := _, guard := _ } _ _ _
      have k68 : ρ (.tmp 68) = (.agg #[.int .i64 k, .int .u64 n, .slice a l.length cap]) := hp 23 (by decide)
      have k69 : ρ (.tmp 69) = (.agg #[.int .i64 ko, .int .u64 no, .slice a4 lo.length k4]) := hp 24 (by decide)
      clear hp ho
      refine StepOk.of_call (f := 13) (args := #[(.agg #[.int .i64 k, .int .u64 n, .slice a l.length cap]), (.agg #[.int .i64 ko, .int .u64 no, .slice a4 lo.length k4])]) (w' := X) ?_ (sameIs k ko n no _ _ l lo X (HbP5.out.grows hX) (HbO5.out.grows hX) bb Hbb.out) ?_
      · go_simp
        all_goals try go_bits
        all_goals try rfl
      · rintro e w'' ⟨rfl, hg'⟩; refine ⟨_, rfl, ?_, hg'⟩; show _ = ?v25; rfl
    · refine step_intro rfl rfl fun ρ X hc hf hgl hX hp ho => ?_
      change StepOk _ { dst := _, op := Op.load 25 (Operand.tmp 2), type := _, pos := _, after := _, guard := _ } _ _ _
      have k2 : ρ (.tmp 2) = .pointer (some ⟨q, 0, none⟩) := ho 2 (by decide)
      clear hp ho
      refine StepOk.of_run (v := .agg #[.int .i64 k, .int .u64 n, .slice a l.length cap]) (w' := X) ?_ ⟨rfl, Below.refl _ _⟩
      simp only [execOp, Instr.loadAt, Instr.sureAddr, k2, Sem.run_bind, Sem.run_pure, Result.andThen_ok, run_loadVar_row X _ 25 25 #[.int .i64 k, .int .u64 n, .slice a l.length cap] (0, 0) _ (hX.heap' HP5.out) Try.underlying25 rfl sizePg]
    · refine step_intro rfl rfl fun ρ X hc hf hgl hX hp ho => ?_
      change StepOk _ { dst := _, op := Op.load 25 (Operand.tmp 9), type := _, pos := _, after := _, guard := _ } _ _ _
      have k9 : ρ (.tmp 9) = .pointer (some ⟨q4, 0, none⟩) := ho 9 (by decide)
      clear hp ho
      refine StepOk.of_run (v := .agg #[.int .i64 ko, .int .u64 no, .slice a4 lo.length k4]) (w' := X) ?_ ⟨rfl, Below.refl _ _⟩
      simp only [execOp, Instr.loadAt, Instr.sureAddr, k9, Sem.run_bind, Sem.run_pure, Result.andThen_ok, run_loadVar_row X _ 25 25 #[.int .i64 ko, .int .u64 no, .slice a4 lo.length k4] (0, 0) _ (hX.heap' HO5.out) Try.underlying25 rfl sizePg]
    · refine step_intro rfl rfl fun ρ X hc hf hgl hX hp ho => ?_
      change StepOk _ { dst := _, op := Op.call { callee := Callee.value (Operand.func 12), args := #[Operand.tmp 71, Operand.tmp 72], argTypes := #[25, 25] }, type := _, pos := _, after := _, guard := _ } _ _ _
      have k71 : ρ (.tmp 71) = (.agg #[.int .i64 k, .int .u64 n, .slice a l.length cap]) := hp 26 (by decide)
      have k72 : ρ (.tmp 72) = (.agg #[.int .i64 ko, .int .u64 no, .slice a4 lo.length k4]) := hp 27 (by decide)
      clear hp ho
      refine StepOk.of_call (f := 12) (args := #[(.agg #[.int .i64 k, .int .u64 n, .slice a l.length cap]), (.agg #[.int .i64 ko, .int .u64 no, .slice a4 lo.length k4])]) (w' := X) ?_ (refSameIs k ko n no _ _ l lo X (HbP5.out.grows hX) (HbO5.out.grows hX) bb Hbb.out) ?_
      · go_simp
        all_goals try go_bits
        all_goals try rfl
      · rintro e w'' ⟨rfl, hg'⟩; refine ⟨_, rfl, ?_, hg'⟩; show _ = ?v28; rfl
    · refine step_intro rfl rfl fun ρ X hc hf hgl hX hp ho => ?_
      change StepOk _ { dst := _, op := Op.binOp BinOp.eql 4 (Operand.tmp 70) (Operand.tmp 73) 4, type := _, pos := _, after := _, guard := _ } _ _ _
      have k70 : ρ (.tmp 70) = ?v25 := hp 25 (by decide)
      have k73 : ρ (.tmp 73) = ?v28 := hp 28 (by decide)
      clear hp ho
      refine StepOk.of_run (v := .bool true) (w' := X) ?_ ⟨rfl, Below.refl _ _⟩
      clear hX
      simp [go_sem, execOp, k70, k73]
    · refine step_intro rfl rfl fun ρ X hc hf hgl hX hp ho => ?_
      change StepOk _ { dst := _, op := Op.pick (Operand.tmp 67) (Operand.tmp 74) (Operand.const (Value.bool false)), type := _, pos := _, after := _, guard := _ } _ _ _
      have k67 : ρ (.tmp 67) = ?v22 := hp 22 (by decide)
      have k74 : ρ (.tmp 74) = (.bool true) := hp 29 (by decide)
      clear hp ho
      refine StepOk.of_run (v := ?v30) (w' := X) ?_ ⟨rfl, Below.refl _ _⟩
      clear hX
      go_simp
      all_goals try go_bits
      all_goals try simp only [IntWalk.iteOmega]
      all_goals try go_bits
      all_goals rfl
    · refine step_intro rfl rfl fun ρ X hc hf hgl hX hp ho => ?_
      change StepOk _ { dst := _, op := Op.move (Operand.tmp 75), type := _, pos := _, after := _, guard := _ } _ _ _
      have k75 : ρ (.tmp 75) = ?v30 := hp 30 (by decide)
      clear hp ho
      refine StepOk.of_run (v := ?v31) (w' := X) ?_ ⟨rfl, Below.refl _ _⟩
      clear hX
      go_simp
      all_goals try go_bits
      all_goals try simp only [IntWalk.iteOmega]
      all_goals try go_bits
      all_goals rfl
    · refine step_intro rfl rfl fun ρ X hc hf hgl hX hp ho => ?_
      change StepOk _ { dst := _, op := Op.call { callee := Callee.value (Operand.func 6), args := #[], argTypes := #[] }, type := _, pos := _, after := _, guard := _ } _ _ _
      clear hp ho
      refine StepOk.of_call (f := 6) (args := #[]) (w' := X) ?_ (live_any X) ?_
      · go_simp
        all_goals try go_bits
        all_goals try rfl
      · rintro e w'' ⟨rfl, hg'⟩; refine ⟨_, rfl, ?_, hg'⟩; show _ = ?v32; rfl
    · refine step_intro rfl rfl fun ρ X hc hf hgl hX hp ho => ?_
      change StepOk _ { dst := _, op := Op.pick (Operand.tmp 76) (Operand.tmp 77) (Operand.const (Value.bool false)), type := _, pos := _, after := _, guard := _ } _ _ _
      have k76 : ρ (.tmp 76) = ?v31 := hp 31 (by decide)
      have k77 : ρ (.tmp 77) = ?v32 := hp 32 (by decide)
      clear hp ho
      refine StepOk.of_run (v := ?v33) (w' := X) ?_ ⟨rfl, Below.refl _ _⟩
      clear hX
      go_simp
      all_goals try go_bits
      all_goals try simp only [IntWalk.iteOmega]
      all_goals try go_bits
      all_goals rfl
    · refine step_intro rfl rfl fun ρ X hc hf hgl hX hp ho => ?_
      change StepOk _ { dst := _, op := Op.assign (Operand.tmp 78), type := _, pos := _, after := _, guard := _ } _ _ _
      have k78 : ρ (.tmp 78) = ?v33 := hp 33 (by decide)
      clear hp ho
      refine StepOk.of_run (v := ?v34) (w' := X) ?_ ⟨rfl, Below.refl _ _⟩
      clear hX
      go_simp
      all_goals try go_bits
      all_goals try simp only [IntWalk.iteOmega]
      all_goals try go_bits
      all_goals rfl
  case grd => rfl
  case rst =>
    intro a0 X hb
    have hfr := hb.frame ((4, ?v34) :: (45, ?v0) :: (46, (.string ⟨(s : List UInt8).toArray⟩)) :: (47, ?v2) :: (48, (.string ⟨(s : List UInt8).toArray⟩)) :: (49, (.bool true)) :: (50, ?v5) :: (51, ?v6) :: (52, ?v7) :: (53, ?v8) :: (54, (.bool true)) :: (55, ?v10) :: (56, ?v11) :: (57, (.agg #[.int .i64 ko, .int .u64 no, .slice a4 lo.length k4])) :: (58, (.agg #[.int .i64 ko, .int .u64 no, .slice a5 lo.length k5])) :: (59, ?v14) :: (60, ?v15) :: (61, ?v16) :: (62, ?v17) :: (63, ?v18) :: (64, ?v19) :: (65, (.bool true)) :: (66, ?v21) :: (67, ?v22) :: (68, (.agg #[.int .i64 k, .int .u64 n, .slice a l.length cap])) :: (69, (.agg #[.int .i64 ko, .int .u64 no, .slice a4 lo.length k4])) :: (70, ?v25) :: (71, (.agg #[.int .i64 k, .int .u64 n, .slice a l.length cap])) :: (72, (.agg #[.int .i64 ko, .int .u64 no, .slice a4 lo.length k4])) :: (73, ?v28) :: (74, (.bool true)) :: (75, ?v30) :: (76, ?v31) :: (77, ?v32) :: (78, ?v33) :: []) rfl ⟨hb.done' 34 4 rfl rfl, hb.done' 0 45 rfl rfl, hb.done' 1 46 rfl rfl, hb.done' 2 47 rfl rfl, hb.done' 3 48 rfl rfl, hb.done' 4 49 rfl rfl, hb.done' 5 50 rfl rfl, hb.done' 6 51 rfl rfl, hb.done' 7 52 rfl rfl, hb.done' 8 53 rfl rfl, hb.done' 9 54 rfl rfl, hb.done' 10 55 rfl rfl, hb.done' 11 56 rfl rfl, hb.done' 12 57 rfl rfl, hb.done' 13 58 rfl rfl, hb.done' 14 59 rfl rfl, hb.done' 15 60 rfl rfl, hb.done' 16 61 rfl rfl, hb.done' 17 62 rfl rfl, hb.done' 18 63 rfl rfl, hb.done' 19 64 rfl rfl, hb.done' 20 65 rfl rfl, hb.done' 21 66 rfl rfl, hb.done' 22 67 rfl rfl, hb.done' 23 68 rfl rfl, hb.done' 24 69 rfl rfl, hb.done' 25 70 rfl rfl, hb.done' 26 71 rfl rfl, hb.done' 27 72 rfl rfl, hb.done' 28 73 rfl rfl, hb.done' 29 74 rfl rfl, hb.done' 30 75 rfl rfl, hb.done' 31 76 rfl rfl, hb.done' 32 77 rfl rfl, hb.done' 33 78 rfl rfl, trivial⟩
    simp only [updL, ↓reduceIte, Nat.reduceEqDiff, Nat.reduceAdd, Nat.zero_add] at hfr
    have HX := Lib.hid hb.ext
    clear hb
    subst hfr
    go_wp2
    go_ret
    exact ⟨rfl, Grows.trans' HG5.out HX.out⟩
theorem walkSeals (k : Int) (n : Nat) (hn : n < 18446744073709551616) (u : Value) (l : List UInt8) (v : Value) (b : List UInt8) (w : World) (h : Byt w u l) (h' : Byt w v b) :
    Calls Try.prog 3 #[pgv k n u, v] w fun e w' => e = .returned (.bool true) ∧ Grows w w' := by
  by_cases ho : 2000 < l.length ∨ 2000 < b.length
  · exact walkSeals_out k n u v l b w h h' ho
  · exact walkSeals_in k n hn u v l b w h h' (by omega) (by omega)
end Go.Proofs.Ytfgnniajancpcaa
