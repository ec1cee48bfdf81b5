/-
  The walk of PageTurned.
-/
import Derived.Test.YtfgnniajancpcaaPgL
namespace Go.Proofs.Ytfgnniajancpcaa
open Go.RowKit
set_option linter.unusedVariables false
set_option linter.unusedSimpArgs false

theorem sealNo (k : Int) (n : Nat) (u : Value) (l : List UInt8) (w : World) (hu : Byt w u l) (h : fitsP ⟨k, n, l⟩ = false) :
    Calls Try.prog 7 #[pgv k n u] w fun e w' => e = .returned (.tuple #[.slice none 0 0, .int .i64 50]) ∧ Grows w w' := vSealNo k n u l w hu h

set_option maxRecDepth 100000 in
set_option maxHeartbeats 1000000 in
theorem walkTurned_out (k : Int) (n : Nat) (u : Value) (l : List UInt8) (at' : Int) (x : UInt8) (w : World) (h : Byt w u l)
    (ho : 2000 < l.length ∨ at' < 0 ∨ 256 ≤ at' ∨ x.toNat = 0) :
    Calls Try.prog 5 #[pgv k n u, .int .i64 at', .int .u8 (x.toNat : Int)] w fun e w' => e = .returned (.bool true) ∧ Grows w w' := by
  obtain ⟨a, cap, rfl⟩ := h.slice
  clear h
  unfold pgv
  by_cases c1 : (2000 : Int) < (l.length : Int)
  · clear ho
    go_enter Try.func5, Try.ntmps5
    go_wp2_with (go_at_call 6; refine (live_any _).mono ?_; rintro e w4 ⟨rfl, hg4⟩)
    go_ret
    exact ⟨rfl, Grows.trans' (Grows.alloc' _ _) hg4⟩
  · by_cases c2 : at' < 0
    · clear ho
      go_enter Try.func5, Try.ntmps5
      go_wp2_with (go_at_call 6; refine (live_any _).mono ?_; rintro e w4 ⟨rfl, hg4⟩)
      go_ret
      exact ⟨rfl, Grows.trans' (Grows.alloc' _ _) hg4⟩
    · by_cases c3 : 256 ≤ at'
      · clear ho
        go_enter Try.func5, Try.ntmps5
        go_wp2_with (go_at_call 6; refine (live_any _).mono ?_; rintro e w4 ⟨rfl, hg4⟩)
        go_ret
        exact ⟨rfl, Grows.trans' (Grows.alloc' _ _) hg4⟩
      · have c5 : ((x.toNat : Int) == 0) = true := by rw [beq_iff_eq]; omega
        clear ho
        go_enter Try.func5, Try.ntmps5
        go_wp2_with (go_at_call 6; refine (live_any _).mono ?_; rintro e w4 ⟨rfl, hg4⟩)
        go_ret
        exact ⟨rfl, Grows.trans' (Grows.alloc' _ _) hg4⟩

set_option maxRecDepth 100000 in
set_option maxHeartbeats 2000000 in
theorem walkTurned_in (k : Int) (n : Nat) (hn : n < 18446744073709551616) (u : Value) (l : List UInt8) (i : Nat) (x : UInt8) (w : World) (h : Byt w u l) (hl : l.length ≤ 2000) (hi4 : i < 256) (hx : x.toNat ≠ 0) :
    Calls Try.prog 5 #[pgv k n u, .int .i64 (i : Int), .int .u8 (x.toNat : Int)] w fun e w' => e = .returned (.bool true) ∧ Grows w w' := by
  have H : Hid (Byt (w.alloc (.cells #[.int .i64 k, .int .u64 n, u] 25)) u l) := h.grows (Grows.alloc' _ _)
  obtain ⟨a, cap, rfl⟩ := h.slice
  clear h
  have c1 : ¬ (2000 : Int) < (l.length : Int) := by omega
  have c2 : ¬ (i : Int) < 0 := by omega
  have c3 : ¬ 256 ≤ (i : Int) := by omega
  have c5 : ((x.toNat : Int) == 0) = false := by rw [beq_eq_false_iff_ne]; omega
  unfold pgv
  cases hf : fitsP ⟨k, n, l⟩ with
  | false =>
    have HS := Lib.hid (sealNo k n _ l _ H.out hf)
    clear hl hi4 hx hf H
    go_enter Try.func5, Try.ntmps5
    go_wp2_with fail
    refine HS.out.mono ?_
    rintro e w1 ⟨rfl, hg1⟩
    have HG1 := Lib.hid (Grows.trans' (Grows.alloc' _ _) hg1)
    clear hg1
    go_wp2_with (first
      | (go_at_call 11; refine (vNum _ _).mono ?_; rintro e w7 ⟨rfl, rfl⟩)
      | (go_at_call 6; refine (live_any _).mono ?_; rintro e w4 ⟨rfl, hg4⟩))
    go_ret
    exact ⟨rfl, Grows.trans' HG1.out hg4⟩
  | true =>
    obtain ⟨B, HB⟩ : ∃ B, Shut (putC (contentP ⟨k, n, l⟩) = B) := ⟨_, ⟨rfl⟩⟩
    have hBl : B.length = 256 := by rw [← HB.out]; exact seal_len _ hf
    have HBl := Lib.hid hBl
    obtain ⟨y, Hy⟩ : ∃ y, Hid (B.getD i 0 = y) := ⟨_, Lib.hid rfl⟩
    have HT : Shut (openP (B.set i (y ^^^ x)) = (⟨0, 0, []⟩, 51)) := ⟨by rw [← Hy.out, ← HB.out]; exact open_turned _ i x hf hi4 hx⟩
    have hyx : bits BinOp.xor IntKind.u8 (y.toNat : Int) (x.toNat : Int) = ((y ^^^ x).toNat : Int) := by
      rw [UInt8.toNat_xor]
      exact u8_xor_nat _ _ y.toNat_lt x.toNat_lt
    have hyb := y.toNat_lt
    have hxb := x.toNat_lt
    have HS := Lib.hid (sealYes k n hn _ l _ H.out hf B HB.out)
    have Hi := Lib.hid hi4
    have hiI : (i : Int) < 256 := by omega
    clear hl hx hf hBl H hn
    go_enter Try.func5, Try.ntmps5
    go_wp2_with fail
    refine HS.out.mono ?_
    rintro e w1 ⟨g, c, rfl, ho1, hg1⟩
    have HG1 := Lib.hid (Grows.trans' (Grows.alloc' _ _) hg1)
    have hgB : w.heap.size ≤ g := by
      obtain ⟨g', c', e', hq⟩ := ho1.form (by rw [HBl.out]; omega)
      simp only [Value.slice.injEq, Option.some.injEq, Addr.mk.injEq, and_true] at e'
      have := (Grows.alloc' w (.cells #[.int .i64 k, .int .u64 n, .slice a l.length cap] 25)).size
      omega
    have HgB := Lib.hid hgB
    have hck := ho1.cell i (by rw [HBl.out]; exact Hi.out)
    rw [Hy.out] at hck
    unfold bv at hck
    have hfz := ho1.unfrozen i
    have HO1 := Lib.hid ho1
    clear ho1 hg1 hgB
    go_wp2_with (go_at_call 11; refine (vNum _ _).mono ?_; rintro e w7 ⟨rfl, rfl⟩)
    have hb4 : Byt (w1.setCell ⟨g, i, none⟩ (.int .u8 ((y ^^^ x).toNat : Int))) (.slice (some ⟨g, 0, none⟩) 256 c) (B.set i (y ^^^ x)) := (HO1.out.store i (y ^^^ x)).byt
    have HG4 : Hid (Grows w (w1.setCell ⟨g, i, none⟩ (.int .u8 ((y ^^^ x).toNat : Int)))) := HG1.out.setCell HgB.out _
    clear hck hfz
    refine (openIs _ (B.set i (y ^^^ x)) _ hb4 0 0 [] 51 HT.out).mono ?_
    rintro e w5 ⟨a5, c5', rfl, hb5, hg5⟩
    have HG5 := Lib.hid (Grows.trans' HG4.out hg5)
    clear hb4 hb5 hg5
    unfold pgv
    go_wp2_with (first
      | (go_at_call 11; refine (vNum _ _).mono ?_; rintro e w7 ⟨rfl, rfl⟩)
      | (go_at_call 6; refine (live_any _).mono ?_; rintro e w6 ⟨rfl, hg6⟩))
    go_ret
    exact ⟨rfl, Grows.trans' (Grows.trans' HG5.out (Grows.alloc' _ _)) hg6⟩
theorem walkTurned (k : Int) (n : Nat) (hn : n < 18446744073709551616) (u : Value) (l : List UInt8) (at' : Int) (x : UInt8) (w : World) (h : Byt w u l) :
    Calls Try.prog 5 #[pgv k n u, .int .i64 at', .int .u8 (x.toNat : Int)] w fun e w' => e = .returned (.bool true) ∧ Grows w w' := by
  by_cases ho : 2000 < l.length ∨ at' < 0 ∨ 256 ≤ at' ∨ x.toNat = 0
  · exact walkTurned_out k n u l at' x w h ho
  · obtain ⟨i, rfl⟩ := Int.eq_ofNat_of_zero_le (show 0 ≤ at' by omega)
    exact walkTurned_in k n hn u l i x w h (by omega) (by omega) (by omega)
end Go.Proofs.Ytfgnniajancpcaa
