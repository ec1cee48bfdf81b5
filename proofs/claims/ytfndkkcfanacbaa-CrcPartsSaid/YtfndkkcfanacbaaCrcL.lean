/-
  The law's own test 'live': the sum of nine digits, a text that is put and checked, one that is none.
-/
import Derived.Test.YtfndkkcfanacbaaCrcV
import Derived.Lib.SlBytesConst
import Derived.Lib.SmallJoins
namespace Go.Proofs.Ytfndkkcfanacbaa
open Go.RowKit
set_option linter.unusedVariables false
set_option linter.unusedSimpArgs false

theorem nine : sumC [49, 50, 51, 52, 53, 54, 55, 56, 57] = 3808858755 := by decide +kernel
theorem five : moreC (sumC [49, 50, 51, 52, 53]) [54, 55, 56, 57] = 3808858755 := by rw [sumC_app]; decide +kernel
theorem check6 : checkC [97, 98, 99, 100, 101, 102] = ([], false) := by decide +kernel
theorem byt_litm (W : World) (e : TypeId) (fr : Nat × Nat) (l : List UInt8) (vs : Array Value) (g n : Nat) (hg : g = W.heap.size) (hn : n = l.length) (hl : l.length ≤ maxLen) (hv : (l.map bv).toArray = vs) :
    Byt (W.alloc (.cells vs e fr)) (.slice (some ⟨g, 0, none⟩) n n) l := by
  subst hv
  subst hn
  refine ⟨_, _, rfl, Nat.le_refl _, hl, fun h => (by cases h), .inr ⟨g, 0, rfl, fun i hi => ?_⟩⟩
  rw [Go.Joins.cell_alloc_mark_at _ _ _ _ _ _ hg]
  simp [List.getD, hi]

theorem live3 (W : World) : BytL (((W.alloc (.cells #[.int .u8 49, .int .u8 50, .int .u8 51, .int .u8 52] 5 (4, 5))).alloc (.cells #[.int .u8 53, .int .u8 54, .int .u8 55, .int .u8 56, .int .u8 57] 5 (5, 6))).alloc (.cells #[.slice (some ⟨W.heap.size, 0, none⟩) 4 4, .slice (some ⟨W.heap.size + 1, 0, none⟩) 5 5] 22)) (.slice (some ⟨W.heap.size + 1 + 1, 0, none⟩) 2 2) [[49, 50, 51, 52], [53, 54, 55, 56, 57]] :=
  BytL.lit' _ _ [.slice (some ⟨W.heap.size, 0, none⟩) 4 4, .slice (some ⟨W.heap.size + 1, 0, none⟩) 5 5] _ _ _ (by simp) rfl rfl (by simp [maxLen]) fun i hi => match i, hi with
    | 0, _ => (byt_litm W _ _ [49, 50, 51, 52] _ _ _ rfl rfl (by simp [maxLen]) rfl).grows (Grows.alloc' _ _)
    | 1, _ => byt_litm _ _ _ [53, 54, 55, 56, 57] _ _ _ (by simp) rfl (by simp [maxLen]) rfl
    | _ + 2, h => absurd h (by simp)
theorem live4 (W : World) : BytL ((W.alloc (.cells #[.int .u8 49, .int .u8 50, .int .u8 51, .int .u8 52, .int .u8 53] 5 (5, 6))).alloc (.cells #[.slice (some ⟨W.heap.size, 0, none⟩) 5 5] 22)) (.slice (some ⟨W.heap.size + 1, 0, none⟩) 1 1) [[49, 50, 51, 52, 53]] :=
  BytL.lit' _ _ [.slice (some ⟨W.heap.size, 0, none⟩) 5 5] _ _ _ (by simp) rfl rfl (by simp [maxLen]) fun i hi => match i, hi with
    | 0, _ => byt_litm W _ _ [49, 50, 51, 52, 53] _ _ _ rfl rfl (by simp [maxLen]) rfl
    | _ + 1, h => absurd h (by simp)
theorem live5 (W : World) : Byt (W.alloc (.cells #[.int .u8 54, .int .u8 55, .int .u8 56, .int .u8 57] 5 (4, 5))) (.slice (some ⟨W.heap.size, 0, none⟩) 4 4) [54, 55, 56, 57] := byt_litm W _ _ _ _ _ _ rfl rfl (by simp [maxLen]) rfl

set_option maxRecDepth 100000 in
set_option maxHeartbeats 1000000 in
theorem live_any (w : World) : Calls Try.prog 8 #[] w fun e w' => e = .returned (.bool true) ∧ Grows w w' := by
  have hcv := fun W C n c => Lib.run_convert_bytes_const (P := Try.prog) W 22 5 C n c rfl rfl
  have hcv2 := fun (W : World) (o : Obj) C n c => Go.Joins.run_convert_bytes_const_at (P := Try.prog) (W.alloc o) 22 5 C n c (W.heap.size + 1) (by simp) rfl rfl
  have l1 : ∀ W, Byt (World.alloc W (.cells #[.int .u8 97, .int .u8 98] 5 (2, 3))) (.slice (some ⟨W.heap.size, 0, none⟩) 2 2) [97, 98] := fun W => byt_litm W _ _ _ _ _ _ rfl rfl (by simp [maxLen]) rfl
  have l2 : ∀ W, Byt (World.alloc W (.cells #[.int .u8 97, .int .u8 98, .int .u8 99, .int .u8 100, .int .u8 101, .int .u8 102] 5 (6, 7))) (.slice (some ⟨W.heap.size, 0, none⟩) 6 6) [97, 98, 99, 100, 101, 102] := fun W => byt_litm W _ _ _ _ _ _ rfl rfl (by simp [maxLen]) rfl
  have L1 := Lib.hid l1
  have L2 := Lib.hid l2
  clear l1 l2
  go_enter Try.func8, Try.ntmps8
  go_wp2_with fail
  refine (vPutC _ [97, 98] _ (L1.out w) (by simp)).mono ?_
  rintro e w1 ⟨v1, rfl, ho1, hg1⟩
  have HG1 := Lib.hid (Grows.trans' (Grows.alloc' _ _) hg1)
  go_wp2_with fail
  refine (vCheckC _ (putC [97, 98]) _ ho1.byt (by simp [putC, four])).mono ?_
  rw [checkC_put]
  rintro e w2 ⟨v2, rfl, hb2, hg2⟩
  have HG2 := Lib.hid (Grows.trans' HG1.out hg2)
  clear hg1 hg2 ho1
  go_wp2_with fail
  refine (vCheckC _ [97, 98, 99, 100, 101, 102] _ (L2.out w2) (by simp)).mono ?_
  rw [check6]
  rintro e w3 ⟨v3, rfl, hb3, hg3⟩
  have HG3 := Lib.hid (Grows.trans' (Grows.trans' HG2.out (Grows.alloc' _ _)) hg3)
  have Hb2 := Lib.hid (hb2.grows (Grows.trans' (Grows.alloc' _ _) hg3))
  clear hg3 hb2 hb3
  go_wp2_with fail
  refine (vSumC _ _ _ (live3 w3)).mono ?_
  rw [show sumC (List.flatten [[49, 50, 51, 52], [53, 54, 55, 56, 57]]) = 3808858755 from nine]
  rintro e w4 ⟨rfl, hg4⟩
  have HG4 := Lib.hid (Grows.trans' (Grows.trans' (Grows.trans' (Grows.trans' HG3.out (Grows.alloc' _ _)) (Grows.alloc' _ _)) (Grows.alloc' _ _)) hg4)
  have Hb4 := Lib.hid (Hb2.out.grows (Grows.trans' (Grows.trans' (Grows.trans' (Grows.alloc' _ _) (Grows.alloc' _ _)) (Grows.alloc' _ _)) hg4))
  clear hg4
  go_wp2_with fail
  refine (vSumC _ _ _ (live4 w4)).mono ?_
  obtain ⟨c, Hc⟩ : ∃ c, Hid (c = sumC [49, 50, 51, 52, 53]) := ⟨_, rfl⟩
  rw [show sumC (List.flatten [[49, 50, 51, 52, 53]]) = c from Hc.out.symm]
  rintro e w5 ⟨rfl, hg5⟩
  have HG5 := Lib.hid (Grows.trans' (Grows.trans' (Grows.trans' HG4.out (Grows.alloc' _ _)) (Grows.alloc' _ _)) hg5)
  have Hb5 := Lib.hid (Hb4.out.grows (Grows.trans' (Grows.trans' (Grows.alloc' _ _) (Grows.alloc' _ _)) hg5))
  clear hg5
  go_wp2_with fail
  refine (vMoreC c (by rw [Hc.out]; exact sumC_lt _) _ _ _ (live5 w5)).mono ?_
  rw [Hc.out, five]
  rintro e w6 ⟨rfl, hg6⟩
  have HG6 := Lib.hid (Grows.trans' (Grows.trans' HG5.out (Grows.alloc' _ _)) hg6)
  have Hb6 := Lib.hid (Hb5.out.grows (Grows.trans' (Grows.alloc' _ _) hg6))
  clear hg6
  obtain ⟨a2, c2, rfl⟩ := Hb6.out.slice
  go_wp2_with (refine wpList_conv rfl _ 22 5 9 rfl rfl rfl rfl (.slice a2 2 c2) [97, 98] rfl Hb6.out ?_)
  go_ret
  exact ⟨rfl, HG6.out⟩
end Go.Proofs.Ytfndkkcfanacbaa
