/-
  The contract of live.
-/
import Derived.Test.YtfgnniajancpcaaPgS
namespace Go.Proofs.Ytfgnniajancpcaa
open Go.RowKit
set_option linter.unusedVariables false
set_option linter.unusedSimpArgs false

theorem seal_len (p : Pg) (h : fitsP p = true) : (putC (contentP p)).length = 256 := by
  have := contentP_length p
  obtain ⟨_, hb⟩ := (fitsP_iff p).1 h
  rw [putC_length]
  omega
theorem sealYes (k : Int) (n : Nat) (hn : n < 18446744073709551616) (u : Value) (l : List UInt8) (w : World) (hu : Byt w u l) (h : fitsP ⟨k, n, l⟩ = true) (s : List UInt8) (hs : putC (contentP ⟨k, n, l⟩) = s) :
    Calls Try.prog 7 #[pgv k n u] w fun e w' => ∃ g cap, e = .returned (.tuple #[.slice (some ⟨g, 0, none⟩) 256 cap, .int .i64 0]) ∧ Own 5 w.heap.size w' (.slice (some ⟨g, 0, none⟩) 256 cap) s ∧ Grows w w' := by
  refine (vSealYes k n hn u l w hu h).mono ?_
  rintro e w' ⟨v, rfl, ho, hg⟩
  have hl := seal_len _ h
  obtain ⟨g, cap, rfl, _⟩ := ho.form (by omega)
  rw [hl] at ho ⊢
  rw [hs] at ho
  exact ⟨g, cap, rfl, ho, hg⟩
theorem openIs (v : Value) (l : List UInt8) (w : World) (h : Byt w v l) (k : Int) (n : Nat) (m : List UInt8) (e : Nat) (ho : openP l = (⟨k, n, m⟩, e)) :
    Calls Try.prog 9 #[v] w fun en w' => ∃ a cap, en = .returned (.tuple #[pgv k n (.slice a m.length cap), .int .i64 (e : Nat)]) ∧ Byt w' (.slice a m.length cap) m ∧ Grows w w' := by
  refine (vOpen v l w h).mono ?_
  rw [ho]
  rintro en w' ⟨u, rfl, hb, hg⟩
  obtain ⟨a, cap, rfl⟩ := hb.slice
  exact ⟨a, cap, rfl, hb, hg⟩
theorem sameIs (k k' : Int) (n n' : Nat) (u v : Value) (l m : List UInt8) (w : World) (hu : Byt w u l) (hv : Byt w v m) (b : Bool) (hb : sameP ⟨k, n, l⟩ ⟨k', n', m⟩ = b) :
    Calls Try.prog 13 #[pgv k n u, pgv k' n' v] w fun e w' => e = .returned (.bool b) ∧ Grows w w' := by
  subst hb; exact vSame k k' n n' u v l m w hu hv

set_option maxRecDepth 100000 in
set_option maxHeartbeats 2000000 in
theorem live_any (w : World) : Calls Try.prog 6 #[] w fun e w' => e = .returned (.bool true) ∧ Grows w w' := by
  obtain ⟨i0, hi, hz0, hz1, hz2⟩ := info_parts info5
  obtain ⟨Z, HZ⟩ : ∃ Z : List UInt8, Shut (List.replicate 243 0 = Z) := ⟨_, ⟨rfl⟩⟩
  have HZl : Hid (Z.length = 243) := by show _ = _; rw [← HZ.out, List.length_replicate]
  have hf : fitsP ⟨3, 7, Z⟩ = true := (fitsP_iff _).2 ⟨by constructor <;> simp, HZl.out⟩
  have hf9 : fitsP ⟨9, 0, Z⟩ = false := by rw [Bool.eq_false_iff]; intro h; have := ((fitsP_iff _).1 h).1.2; simp at this
  obtain ⟨s, Hs⟩ : ∃ s, Shut (putC (contentP ⟨3, 7, Z⟩) = s) := ⟨_, ⟨rfl⟩⟩
  have HO : Shut (openP s = (⟨3, 7, Z⟩, 0)) := ⟨by rw [← Hs.out]; exact open_seal _ hf (by simp)⟩
  have Hf : Shut _ := ⟨hf⟩
  have Hf9 : Shut _ := ⟨hf9⟩
  have HS1 : Shut (sameP ⟨3, 7, Z⟩ ⟨3, 7, Z⟩ = true) := ⟨(sameP_iff _ _).2 rfl⟩
  have HS0 : Shut (sameP ⟨3, 7, Z⟩ ⟨0, 0, []⟩ = false) := ⟨by simp [sameP]⟩
  clear hf hf9
  go_enter Try.func6, Try.ntmps6
  go_wp2_with (first
    | (at_make; refine wpList_make_full _ rfl _ _ 23 rfl w.heap.size 5 i0 (.int .u8 0) 1 Try.underlying23 hi hz0 hz1 .i64 .i64 _ _ 243 rfl rfl rfl rfl (by rw [hz2]; omega) (by unfold maxLen; omega) (Nat.le_refl _) ?_; intro w1 hown hgrow))
  have hown' := madeB hown
  rw [HZ.out] at hown'
  obtain ⟨q, Hq⟩ : ∃ q, Hid (w1.heap.size = q) := ⟨_, Lib.hid rfl⟩
  obtain ⟨g0, Hg0⟩ : ∃ g0, Hid (w.heap.size = g0) := ⟨_, Lib.hid rfl⟩
  have HG1 : Hid (Grows w w1) := (Below.refl _ _).grown hgrow (Nat.le_refl _) (fun _ h => by cases h)
  rw [Hg0.out] at hown' ⊢
  obtain ⟨W1, HW1⟩ : ∃ W1, Hid (w1.alloc (.cells #[.int .i64 3, .int .u64 7, .slice (some ⟨g0, 0, none⟩) 243 243] 25) = W1) := ⟨_, Lib.hid rfl⟩
  have hR1 := heap_alloc_new w1 (.cells #[.int .i64 3, .int .u64 7, .slice (some ⟨g0, 0, none⟩) 243 243] 25)
  have HG1' : Hid (Grows w1 W1) := by show Grows _ _; rw [← HW1.out]; exact Grows.alloc' _ _
  rw [HW1.out, Hq.out] at hR1 ⊢
  have HR1 := Lib.hid hR1
  have HbZ := Lib.hid (hown'.byt.grows HG1'.out)
  clear hown hown' hgrow hR1
  refine (sealYes 3 7 (by simp) _ Z W1 HbZ.out Hf.out s Hs.out).mono ?_
  rintro e w2 ⟨gs, cs, rfl, ho2, hg2⟩
  have HR2 := Lib.hid (hg2.heap' HR1.out)
  have HbZ2 := Lib.hid (HbZ.out.grows hg2)
  have HG2 := Lib.hid (Grows.trans' (Grows.trans' HG1.out HG1'.out) hg2)
  have Hb2 := Lib.hid ho2.byt
  clear ho2 hg2
  go_wp2_with fail
  refine (openIs _ s w2 Hb2.out 3 7 Z 0 HO.out).mono ?_
  rintro e w3 ⟨a3, c3, rfl, hb3, hg3⟩
  rw [HZl.out] at hb3 ⊢
  unfold pgv
  obtain ⟨q3, Hq3⟩ : ∃ q3, Hid (w3.heap.size = q3) := ⟨_, Lib.hid rfl⟩
  obtain ⟨W3, HW3⟩ : ∃ W3, Hid (w3.alloc (.cells #[.int .i64 3, .int .u64 7, .slice a3 243 c3] 25) = W3) := ⟨_, Lib.hid rfl⟩
  have hR3 := heap_alloc_new w3 (.cells #[.int .i64 3, .int .u64 7, .slice a3 243 c3] 25)
  have hg3' : Grows w3 W3 := by rw [← HW3.out]; exact Grows.alloc' _ _
  rw [HW3.out, Hq3.out] at hR3
  have HR3 := Lib.hid hR3
  have HR3' := Lib.hid (hg3'.heap' (hg3.heap' HR2.out))
  have HG3 := Lib.hid (Grows.trans' (Grows.trans' HG2.out hg3) hg3')
  have HbZ3 := Lib.hid (hg3'.trans' (Grows.rfl' _) |> fun g => (HbZ2.out.grows hg3).grows g)
  have Hb3 := Lib.hid (hb3.grows hg3')
  clear hR3 hg3' hb3 hg3
  go_wp2_with (first
    | (at_make; rw [Hq3.out, HW3.out]; refine wpList_make_full _ rfl _ _ 23 rfl W3.heap.size 5 i0 (.int .u8 0) 1 Try.underlying23 hi hz0 hz1 .i64 .i64 _ _ 243 rfl rfl rfl rfl (by rw [hz2]; omega) (by unfold maxLen; omega) (Nat.le_refl _) ?_; intro w5 hown hgrow))
  have hown' := madeB hown
  rw [HZ.out] at hown'
  have hg5 : Grows W3 w5 := (Below.refl _ _).grown hgrow (Nat.le_refl _) (fun _ h => by cases h)
  clear hgrow hown
  refine (vSealNo 9 0 _ Z w5 hown'.byt Hf9.out).mono ?_
  rintro e w6 ⟨rfl, hg6⟩
  have hg56 := Grows.trans' hg5 hg6
  have HR6 := Lib.hid (hg56.heap' HR3'.out)
  have HR6' := Lib.hid (hg56.heap' HR3.out)
  have HG6 := Lib.hid (Grows.trans' HG3.out hg56)
  have HbZ6 := Lib.hid (HbZ3.out.grows hg56)
  have Hb6 := Lib.hid (Hb3.out.grows hg56)
  clear hg56 hg5 hg6 hown'
  obtain ⟨c0, c1, c2⟩ := boxCells (Below.refl (q + 1) w6) HR6.out
  obtain ⟨d0, d1, d2⟩ := boxCells (Below.refl (q3 + 1) w6) HR6'.out
  have HC1 := Lib.hid (sameIs 3 3 7 7 _ _ Z Z w6 HbZ6.out Hb6.out true HS1.out)
  go_wp2_with (go_at_call 11; refine (vNum _ _).mono ?_; rintro e w7 ⟨rfl, rfl⟩)
  refine HC1.out.mono ?_
  rintro e w7 ⟨rfl, hg7⟩
  have HG7 := Lib.hid (Grows.trans' HG6.out hg7)
  have HC2 := Lib.hid (sameIs 3 0 7 0 _ (.slice none 0 0) Z [] w7 (HbZ6.out.grows hg7) (Byt.nil _) false HS0.out)
  have HR7 := Lib.hid (hg7.heap' HR6.out)
  clear hg7 c0 c1 c2 d0 d1 d2
  obtain ⟨c0, c1, c2⟩ := boxCells (Below.refl (q + 1) w7) HR7.out
  go_wp2_with fail
  refine HC2.out.mono ?_
  rintro e w8 ⟨rfl, hg8⟩
  have HG8 := Lib.hid (Grows.trans' HG7.out hg8)
  clear hg8 c0 c1 c2
  go_wp2_with fail
  go_ret
  exact ⟨rfl, HG8.out⟩
end Go.Proofs.Ytfgnniajancpcaa
