/-
  Contracts of Same, the program's and the document's; of bytes.Equal.
-/
import Derived.Test.YtfgnniajancpcaaPgA
namespace Go.Proofs.Ytfgnniajancpcaa
open Go.RowKit
set_option linter.unusedVariables false
set_option linter.unusedSimpArgs false

/-- What stands for a page. -/
def pgv (k : Int) (n : Nat) (u : Value) : Value := .agg #[.int .i64 k, .int .u64 (n : Int), u]

theorem vEqual (u v : Value) (l m : List UInt8) (w : World) (hu : Byt w u l) (hv : Byt w v m) :
    Calls Try.prog 25 #[u, v] w fun e w' => e = .returned (.bool (l == m)) ∧ w = w' := by
  have Hu := Lib.hid hu
  have Hv := Lib.hid hv
  clear hu hv
  go_enter Try.func25, Try.ntmps25
  go_wp2_with (first
    | (refine wpList_conv rfl (.tmp 5) 23 5 9 rfl rfl rfl rfl u l rfl Hu.out ?_)
    | (refine wpList_conv rfl (.tmp 7) 23 5 9 rfl rfl rfl rfl v m rfl Hv.out ?_))
  go_ret
  exact ⟨by simp, rfl⟩
set_option maxRecDepth 100000 in
theorem vSame (k k' : Int) (n n' : Nat) (u v : Value) (l m : List UInt8) (w : World) (hu : Byt w u l) (hv : Byt w v m) :
    Calls Try.prog 13 #[pgv k n u, pgv k' n' v] w fun e w' => e = .returned (.bool (sameP ⟨k, n, l⟩ ⟨k', n', m⟩)) ∧ Grows w w' := by
  have HE : Hid (Calls Try.prog 25 #[u, v] ((w.alloc (.cells #[.int .i64 k, .int .u64 n, u] 25)).alloc (.cells #[.int .i64 k', .int .u64 n', v] 25)) fun e w' => e = .returned (.bool (l == m)) ∧ ((w.alloc (.cells #[.int .i64 k, .int .u64 n, u] 25)).alloc (.cells #[.int .i64 k', .int .u64 n', v] 25)) = w') :=
    vEqual u v l m _ ((hu.grows (Grows.alloc' _ _)).grows (Grows.alloc' _ _)) ((hv.grows (Grows.alloc' _ _)).grows (Grows.alloc' _ _))
  clear hu hv
  unfold pgv
  unfold sameP
  by_cases hk : k = k'
  · by_cases hn : n = n'
    · subst hk
      subst hn
      go_enter Try.func13, Try.ntmps13
      go_wp2_with (first
        | (go_at_call 25; refine HE.out.mono ?_; rintro e w1 ⟨rfl, rfl⟩))
      go_ret
      exact ⟨by simp, Grows.trans' (Grows.alloc' _ _) (Grows.alloc' _ _)⟩
    · have hn' : ¬ (n : Int) = (n' : Int) := by omega
      subst hk
      go_enter Try.func13, Try.ntmps13
      go_wp2
      go_ret
      exact ⟨by simp [hn], Grows.trans' (Grows.alloc' _ _) (Grows.alloc' _ _)⟩
  · go_enter Try.func13, Try.ntmps13
    go_wp2
    go_ret
    exact ⟨by simp [hk], Grows.trans' (Grows.alloc' _ _) (Grows.alloc' _ _)⟩
set_option maxRecDepth 100000 in
theorem refSame (k k' : Int) (n n' : Nat) (u v : Value) (l m : List UInt8) (w : World) (hu : Byt w u l) (hv : Byt w v m) :
    Calls Try.prog 12 #[pgv k n u, pgv k' n' v] w fun e w' => e = .returned (.bool (sameP ⟨k, n, l⟩ ⟨k', n', m⟩)) ∧ Grows w w' := by
  have Hu : Hid (Byt ((w.alloc (.cells #[.int .i64 k, .int .u64 n, u] 25)).alloc (.cells #[.int .i64 k', .int .u64 n', v] 25)) u l) := (hu.grows (Grows.alloc' _ _)).grows (Grows.alloc' _ _)
  have Hv : Hid (Byt ((w.alloc (.cells #[.int .i64 k, .int .u64 n, u] 25)).alloc (.cells #[.int .i64 k', .int .u64 n', v] 25)) v m) := (hv.grows (Grows.alloc' _ _)).grows (Grows.alloc' _ _)
  clear hu hv
  unfold pgv
  unfold sameP
  by_cases hk : k = k'
  · by_cases hn : n = n'
    · subst hk
      subst hn
      go_enter Try.func12, Try.ntmps12
      go_wp2_with (first
        | (refine wpList_conv rfl (.tmp 19) 23 5 9 rfl rfl rfl rfl u l rfl Hu.out ?_)
        | (refine wpList_conv rfl (.tmp 22) 23 5 9 rfl rfl rfl rfl v m rfl Hv.out ?_))
      go_ret
      exact ⟨by simp, Grows.trans' (Grows.alloc' _ _) (Grows.alloc' _ _)⟩
    · have hn' : ¬ (n : Int) = (n' : Int) := by omega
      subst hk
      go_enter Try.func12, Try.ntmps12
      go_wp2
      go_ret
      exact ⟨by simp [hn], Grows.trans' (Grows.alloc' _ _) (Grows.alloc' _ _)⟩
  · go_enter Try.func12, Try.ntmps12
    go_wp2
    go_ret
    exact ⟨by simp [hk], Grows.trans' (Grows.alloc' _ _) (Grows.alloc' _ _)⟩
end Go.Proofs.Ytfgnniajancpcaa
