/-
  The walk of SlotNil.
-/
import Derived.Test.YtpodbhimkbadhaaSlP
namespace Go.Proofs.Ytpodbhimkbadhaa
open Go.RowKit
set_option linter.unusedVariables false
set_option linter.unusedSimpArgs false

set_option maxRecDepth 100000 in
theorem walkNil (x : De) (w : World) (hx : DeOk w x) : Calls Try.prog 6 #[x.v] w fun e w' => e = .returned (.bool true) ∧ Grows w w' := by
  obtain ⟨pa, pc, hp⟩ := hx.p.slice
  obtain ⟨k, i, pv, p⟩ := x
  obtain ⟨q, Hq⟩ : ∃ q, Hid (w.heap.size = q) := ⟨_, rfl⟩
  obtain ⟨W0, HW0⟩ : ∃ W0, Hid (w.alloc (.cells #[.int .i64 k, .int .i64 i, pv] 32) = W0) := ⟨_, rfl⟩
  have HG : Hid (Grows w W0) := by show Grows _ _; rw [← HW0.out]; exact Grows.alloc' _ _
  have hrow : W0.heap[q]? = some (.cells #[.int .i64 k, .int .i64 i, pv] 32 (0, 0)) := by rw [← HW0.out, ← Hq.out]; exact heap_alloc_new _ _
  have c1 : W0.cell? ⟨q, 1, none⟩ = some (.int .i64 i) := by rw [cell_of_row W0 q 1 _ _ (0, 0) hrow]; rfl
  have c2 : W0.cell? ⟨q, 2, none⟩ = some pv := by rw [cell_of_row W0 q 2 _ _ (0, 0) hrow]; rfl
  have HL := Lib.hid (vLive W0)
  clear hrow hx
  unfold De.v
  dsimp only
  go_enter Try.func6, Try.ntmps6
  go_wp2_with (first
    | (refine wpList_boxT rfl 32 (.tmp 0) rfl #[.int .i64 k, .int .i64 i, pv] rfl ?_; rw [HW0.out, Hq.out])
    | (go_at_call 13; refine (vNum _ _).mono ?_; rintro e w1 ⟨rfl, rfl⟩)
    | (go_at_call 16; refine (nPack _).mono ?_; rintro e w1 ⟨rfl, rfl⟩)
    | (go_at_call 14; refine (nInsert _ _ _).mono ?_; rintro e w1 ⟨rfl, rfl⟩)
    | (go_at_call 15; refine (nDelete _ _).mono ?_; rintro e w1 ⟨rfl, rfl⟩)
    | (go_at_call 18; refine (nLen _).mono ?_; rintro e w1 ⟨rfl, rfl⟩)
    | (go_at_call 19; refine (nFree _).mono ?_; rintro e w1 ⟨rfl, rfl⟩)
    | (go_at_call 17; refine (nHoles _).mono ?_; rintro e w1 ⟨rfl, rfl⟩)
    | (go_at_call 20; refine (nCell _ _).mono ?_; rintro e w1 ⟨rfl, rfl⟩)
    | (go_at_call 22; refine (nBytes _).mono ?_; rintro e w1 ⟨rfl, rfl⟩)
    | (go_at_call 8; refine HL.out.mono ?_; rintro e w1 ⟨rfl, hg⟩))
  go_ret
  exact ⟨rfl, Grows.trans' HG.out hg⟩
end Go.Proofs.Ytpodbhimkbadhaa
