/-
  Contracts of the program's own fallen and entry: eight bits of the register; the table, whose entries are reckoned when they are needed.
-/
import Derived.Test.YtfgnniajancpcaaCrcR
import Derived.Test.YtfgnniajancpcaaKitE
import Derived.Test.YtfgnniajancpcaaVn
namespace Go.Proofs.Ytfgnniajancpcaa
open Go.RowKit
set_option linter.unusedVariables false
set_option linter.unusedSimpArgs false

set_option maxRecDepth 100000 in
theorem vFallen (x : Nat) (hx32 : x < 4294967296) (w : World) :
    Calls Try.prog 35 #[.int .u32 x] w fun e w' => e = .returned (.int .u32 (bitsC 8 x : Nat)) ∧ w = w' := by
  go_enter Try.func35, Try.ntmps35
  go_wp2
  go_loop [0, 4] (fun t0 t4 => ∃ k m : Nat, k ≤ 8 ∧ m < 4294967296 ∧ t0 = .int .u32 m ∧ t4 = .int .i64 k ∧ Hid (bitsC 8 x = bitsC (8 - k) m))
    (fun _ t4 => 8 - (intOf t4).toNat)
  case atStart => exact ⟨0, x, by omega, hx32, rfl, rfl, rfl⟩
  case round =>
    obtain ⟨k, m, hk, hm, rfl, rfl, Hm⟩ := hrel
    by_cases hlt : k < 8
    · have hlt' : (k : Int) < 8 := by omega
      have ha : bits BinOp.and IntKind.u32 (m : Int) 1 = (m : Int) % 2 := by
        have := u32_and_nat m 1 hm (by omega)
        rw [Nat.and_one_is_mod] at this
        simpa using this
      have hx2 : bits BinOp.xor IntKind.u32 ((m : Int) / 2) 2197175160 = ((m / 2 ^^^ 2197175160 : Nat) : Int) := by
        have := u32_xor_nat (m / 2) 2197175160 (by omega) (by omega)
        simpa using this
      have hb : m / 2 ^^^ 2197175160 < 4294967296 := xor_lt (by omega) (by omega)
      have Hnext : Hid (bitsC 8 x = bitsC (8 - (k + 1)) (bitC m)) := by
        show _ = _
        rw [Hm.out, show 8 - k = (8 - (k + 1)) + 1 by omega]
        rfl
      by_cases ho : m % 2 = 1
      · have ho' : ((m : Int) % 2 == 1) = true := by rw [beq_iff_eq]; omega
        have Ho := Lib.hid ho
        clear ho
        go_wp2
        go_round
        case rel =>
          refine ⟨k + 1, m / 2 ^^^ 2197175160, by omega, hb, by simp, by simp, ?_⟩
          show _ = _
          rw [Hnext.out]
          unfold bitC
          rw [if_pos Ho.out]
        case measure => simp [intOf]; omega
      · have ho' : ((m : Int) % 2 == 1) = false := by rw [beq_eq_false_iff_ne]; omega
        have Ho := Lib.hid ho
        clear ho
        go_wp2
        go_round
        case rel =>
          refine ⟨k + 1, m / 2, by omega, by omega, by simp, by simp, ?_⟩
          show _ = _
          rw [Hnext.out]
          unfold bitC
          rw [if_neg Ho.out, Nat.xor_zero]
        case measure => simp [intOf]; omega
    · have hlt' : ¬ (k : Int) < 8 := by omega
      go_wp2
      go_ret
      obtain rfl : k = 8 := by omega
      exact ⟨by rw [Hm.out]; rfl, rfl⟩

/-- A table, in its block. -/
def Tab (W : World) (b : Nat) : Prop :=
  ∃ cells : Array Value, W.heap[b]? = some (.cells cells 61 (0, 0)) ∧ cells.size = 512 ∧
    ∀ i, i < 256 → (∃ e : Nat, cells[i]? = some (.int .u32 e)) ∧ ∃ k, cells[256 + i]? = some (.bool k) ∧ (k = true → cells[i]? = some (.int .u32 (bitsC 8 i : Nat)))

set_option maxRecDepth 100000 in
theorem vEntry (b : Nat) (low : UInt8) (w : World) (h : Tab w b) :
    Calls Try.prog 33 #[.pointer (some ⟨b, 0, none⟩), .int .u8 (low.toNat : Int)] w fun e w' => e = .returned (.int .u32 (bitsC 8 low.toNat : Nat)) ∧ Tab w' b ∧ Below b w w' := by
  obtain ⟨cells, hb, hsz, hc⟩ := h
  obtain ⟨n, Hn⟩ : ∃ n, Hid (low.toNat = n) := ⟨_, rfl⟩
  have hn : n < 256 := by rw [← Hn.out]; exact low.toNat_lt
  rw [Hn.out]
  obtain ⟨⟨e, he⟩, k, hk, hkt⟩ := hc n hn
  have ck : w.cell? ⟨b, 256 + n, none⟩ = some (.bool k) := by
    rw [cell_of_row w b (256 + n) cells 61 (0, 0) hb]; exact hk
  cases k with
  | true =>
    have ce : w.cell? ⟨b, n, none⟩ = some (.int .u32 (bitsC 8 n : Nat)) := by
      rw [cell_of_row w b n cells 61 (0, 0) hb]; exact hkt rfl
    have HT : Hid (Tab w b) := ⟨cells, hb, hsz, hc⟩
    clear hb hc hk hkt he hsz
    go_enter Try.func33, Try.ntmps33
    go_wp2
    go_ret
    exact ⟨rfl, HT.out, Below.refl _ _⟩
  | false =>
    have hmx : Try.prog.follows .mixedOrders = true := by kernel_rfl
    obtain ⟨x, Hx⟩ : ∃ x, Hid (bitsC 8 n = x) := ⟨_, rfl⟩
    have HF := Lib.hid (fun W => vFallen n (by omega) W)
    obtain ⟨c1, Hc1⟩ : ∃ c1, Hid (c1 = cells.setIfInBounds n (.int .u32 x)) := ⟨_, rfl⟩
    obtain ⟨N, HN⟩ : ∃ N, Hid (N = Obj.cells c1 61 (0, 0)) := ⟨_, rfl⟩
    have hn1 : c1.setIfInBounds n (.int .u32 x) = c1 := by rw [Hc1.out]; simp
    have Hb := Lib.hid hb
    have hX0 : ∀ X, Turns b N w X → ∃ cs, X.heap[b]? = some (.cells cs 61 (0, 0)) ∧ cs.setIfInBounds n (.int .u32 x) = c1 := fun X hX => by
      rcases hX.2 with h2 | h2
      · exact ⟨cells, by rw [h2]; exact Hb.out, Hc1.out.symm⟩
      · exact ⟨c1, by rw [h2, HN.out], hn1⟩
    have HX0 := Lib.hid hX0
    have hc1n : c1.size = 512 := by rw [Hc1.out]; simpa using hsz
    have hwn : IntKind.u32.wrap (n : Int) = (n : Int) := wrap_u32 _ (by omega) (by omega)
    have hnI : ¬ (256 ≤ (n : Int)) := by omega
    have HC := Lib.hid hc
    clear hc hkt hX0 hn1 hb
    rw [Hx.out] at HF
    rw [Hx.out]
    go_enter Try.func33, Try.ntmps33
    go_wp2_with fail
    refine turns_last b N 14
      #[[], [], [], [], [], [4], [4, 5], [0], [0, 7], [0, 1, 4, 5, 6, 7, 8], [0, 1, 4, 5, 6, 7, 8, 9], [2], [2, 11], [0, 1, 2, 3, 4, 5, 6, 7, 8, 9, 10, 11, 12], [0, 1, 2, 3, 4, 5, 6, 7, 8, 9, 10, 11, 12, 13]] #[[0], [1], [0], [1], [1], [], [], [], [], [], [], [], [], [], []] #[true, true, true, true, true, true, true, true, true, true, true, true, true, true, true]
      #[some (.pointer (some ⟨b, 0, none⟩)), some (.int .u8 (n : Int)), some (.pointer (some ⟨b, 0, none⟩)), some (.int .u8 (n : Int)), some (.int .u8 (n : Int)), some (.int .u32 (n : Int)), some (.int .u32 (x : Int)), some (.pointer (some ⟨b, 0, none⟩)), some (.pointer (some ⟨b, 0, none⟩)), some (.pointer (some ⟨b, n, none⟩)), none, some (.pointer (some ⟨b, 0, none⟩)), some (.pointer (some ⟨b, 256, none⟩)), some (.pointer (some ⟨b, 256 + n, none⟩)), none] hmx ?_ ?_ rfl ?_ ?_
    · rfl
    · rfl
    · refine ⟨?_, ?_, ?_, ?_, ?_, ?_, ?_, ?_, ?_, ?_, ?_, ?_, ?_, ?_, ?_, trivial⟩
      · refine step_introE rfl rfl fun ρ X hc hf hgl hX hp ho => ?_
        change StepOk _ { dst := _, op := Op.move (Operand.tmp 0), type := _, pos := _, after := _, guard := _ } _ _ _
        have k0 : ρ (.tmp 0) = .pointer (some ⟨b, 0, none⟩) := ho 0 (by decide)
        refine StepOk.of_run (v := .pointer (some ⟨b, 0, none⟩)) (w' := X) ?_ ⟨rfl, (turns_ok b N).refl _⟩
        simp [go_sem, execOp, hc, hf, hwn, hnI, k0]
      · refine step_introE rfl rfl fun ρ X hc hf hgl hX hp ho => ?_
        change StepOk _ { dst := _, op := Op.move (Operand.tmp 1), type := _, pos := _, after := _, guard := _ } _ _ _
        have k1 : ρ (.tmp 1) = .int .u8 (n : Int) := ho 1 (by decide)
        refine StepOk.of_run (v := .int .u8 (n : Int)) (w' := X) ?_ ⟨rfl, (turns_ok b N).refl _⟩
        simp [go_sem, execOp, hc, hf, hwn, hnI, k1]
      · refine step_introE rfl rfl fun ρ X hc hf hgl hX hp ho => ?_
        change StepOk _ { dst := _, op := Op.move (Operand.tmp 0), type := _, pos := _, after := _, guard := _ } _ _ _
        have k0 : ρ (.tmp 0) = .pointer (some ⟨b, 0, none⟩) := ho 0 (by decide)
        refine StepOk.of_run (v := .pointer (some ⟨b, 0, none⟩)) (w' := X) ?_ ⟨rfl, (turns_ok b N).refl _⟩
        simp [go_sem, execOp, hc, hf, hwn, hnI, k0]
      · refine step_introE rfl rfl fun ρ X hc hf hgl hX hp ho => ?_
        change StepOk _ { dst := _, op := Op.move (Operand.tmp 1), type := _, pos := _, after := _, guard := _ } _ _ _
        have k1 : ρ (.tmp 1) = .int .u8 (n : Int) := ho 1 (by decide)
        refine StepOk.of_run (v := .int .u8 (n : Int)) (w' := X) ?_ ⟨rfl, (turns_ok b N).refl _⟩
        simp [go_sem, execOp, hc, hf, hwn, hnI, k1]
      · refine step_introE rfl rfl fun ρ X hc hf hgl hX hp ho => ?_
        change StepOk _ { dst := _, op := Op.move (Operand.tmp 1), type := _, pos := _, after := _, guard := _ } _ _ _
        have k1 : ρ (.tmp 1) = .int .u8 (n : Int) := ho 1 (by decide)
        refine StepOk.of_run (v := .int .u8 (n : Int)) (w' := X) ?_ ⟨rfl, (turns_ok b N).refl _⟩
        simp [go_sem, execOp, hc, hf, hwn, hnI, k1]
      · refine step_introE rfl rfl fun ρ X hc hf hgl hX hp ho => ?_
        change StepOk _ { dst := _, op := Op.convert 5 50 (Operand.tmp 16), type := _, pos := _, after := _, guard := _ } _ _ _
        have k16 : ρ (.tmp 16) = .int .u8 (n : Int) := hp 4 (by decide)
        refine StepOk.of_run (v := .int .u32 (n : Int)) (w' := X) ?_ ⟨rfl, (turns_ok b N).refl _⟩
        simp [go_sem, execOp, hc, hf, hwn, hnI, k16]
      · refine step_introE rfl rfl fun ρ X hc hf hgl hX hp ho => ?_
        change StepOk _ { dst := _, op := Op.call { callee := Callee.value (Operand.func 35), args := #[Operand.tmp 17], argTypes := #[50] }, type := _, pos := _, after := _, guard := _ } _ _ _
        have k17 : ρ (.tmp 17) = .int .u32 (n : Int) := hp 5 (by decide)
        refine StepOk.of_call (f := 35) (args := #[.int .u32 (n : Int)]) (w' := X) ?_ (HF.out X) ?_
        · simp [go_sem, execOp, hc, hf, k17]
        · rintro e w'' ⟨rfl, rfl⟩; exact ⟨_, rfl, rfl, (turns_ok b N).refl _⟩
      · refine step_introE rfl rfl fun ρ X hc hf hgl hX hp ho => ?_
        change StepOk _ { dst := _, op := Op.nilCheck (Operand.tmp 12), type := _, pos := _, after := _, guard := _ } _ _ _
        have k12 : ρ (.tmp 12) = .pointer (some ⟨b, 0, none⟩) := hp 0 (by decide)
        refine StepOk.of_run (v := .pointer (some ⟨b, 0, none⟩)) (w' := X) ?_ ⟨rfl, (turns_ok b N).refl _⟩
        simp [go_sem, execOp, hc, hf, hwn, hnI, k12]
      · refine step_introE rfl rfl fun ρ X hc hf hgl hX hp ho => ?_
        change StepOk _ { dst := _, op := Op.fieldAddr 61 (Operand.tmp 19) 0, type := _, pos := _, after := _, guard := _ } _ _ _
        have k19 : ρ (.tmp 19) = .pointer (some ⟨b, 0, none⟩) := hp 7 (by decide)
        refine StepOk.of_run (v := .pointer (some ⟨b, 0, none⟩)) (w' := X) ?_ ⟨rfl, (turns_ok b N).refl _⟩
        simp [go_sem, execOp, hc, hf, hwn, hnI, k19]
      · refine step_introE rfl rfl fun ρ X hc hf hgl hX hp ho => ?_
        change StepOk _ { dst := _, op := Op.indexAddr 58 (Operand.tmp 20) (Operand.tmp 13), type := _, pos := _, after := _, guard := _ } _ _ _
        have k20 : ρ (.tmp 20) = .pointer (some ⟨b, 0, none⟩) := hp 8 (by decide)
        have k13 : ρ (.tmp 13) = .int .u8 (n : Int) := hp 1 (by decide)
        refine StepOk.of_run (v := .pointer (some ⟨b, n, none⟩)) (w' := X) ?_ ⟨rfl, (turns_ok b N).refl _⟩
        simp [go_sem, execOp, hc, hf, hwn, hnI, k20, k13]
      · refine step_introE rfl rfl fun ρ X hc hf hgl hX hp ho => ?_
        change StepOk _ { dst := _, op := Op.store 50 (Operand.tmp 21) (Operand.tmp 18), type := _, pos := _, after := _, guard := _ } _ _ _
        have k21 : ρ (.tmp 21) = .pointer (some ⟨b, n, none⟩) := hp 9 (by decide)
        have k18 : ρ (.tmp 18) = .int .u32 (x : Int) := hp 6 (by decide)
        obtain ⟨cs, hcs, hcs1⟩ := HX0.out X hX
        have hf0 := frozen_of_row X b n cs 61 hcs
        have hcc : X.cell? ⟨b, n, none⟩ = cs[n]? := cell_of_row X b n cs 61 (0, 0) hcs
        have h5 : c1.size = cs.size := by rw [← hcs1, Array.size_setIfInBounds]
        have hls : n < cs.size := by omega
        rw [Array.getElem?_eq_getElem hls] at hcc
        have hN1 : (X.setCell ⟨b, n, none⟩ (.int .u32 x)).heap[b]? = some N := by rw [row_setCell hcs, hcs1, HN.out]
        have hB1 : Below b X (X.setCell ⟨b, n, none⟩ (.int .u32 x)) := Below.setCell (p := ⟨b, n, none⟩) (Below.refl _ _) (Nat.le_refl _) _
        refine StepOk.mono (Ψ := fun v W' => W'.heap[b]? = some N ∧ Turns b N X W') ?_ (fun v W' h => h)
        unfold StepOk
        simp [go_sem, execOp, hc, hf0, hcc, k21, k18]
        exact ⟨hN1, hB1, .inr hN1⟩
      · refine step_introE rfl rfl fun ρ X hc hf hgl hX hp ho => ?_
        change StepOk _ { dst := _, op := Op.nilCheck (Operand.tmp 14), type := _, pos := _, after := _, guard := _ } _ _ _
        have k14 : ρ (.tmp 14) = .pointer (some ⟨b, 0, none⟩) := hp 2 (by decide)
        refine StepOk.of_run (v := .pointer (some ⟨b, 0, none⟩)) (w' := X) ?_ ⟨rfl, (turns_ok b N).refl _⟩
        simp [go_sem, execOp, hc, hf, hwn, hnI, k14]
      · refine step_introE rfl rfl fun ρ X hc hf hgl hX hp ho => ?_
        change StepOk _ { dst := _, op := Op.fieldAddr 61 (Operand.tmp 22) 1, type := _, pos := _, after := _, guard := _ } _ _ _
        have k22 : ρ (.tmp 22) = .pointer (some ⟨b, 0, none⟩) := hp 11 (by decide)
        refine StepOk.of_run (v := .pointer (some ⟨b, 256, none⟩)) (w' := X) ?_ ⟨rfl, (turns_ok b N).refl _⟩
        simp [go_sem, execOp, hc, hf, hwn, hnI, k22]
      · refine step_introE rfl rfl fun ρ X hc hf hgl hX hp ho => ?_
        change StepOk _ { dst := _, op := Op.indexAddr 59 (Operand.tmp 23) (Operand.tmp 15), type := _, pos := _, after := _, guard := _ } _ _ _
        have k23 : ρ (.tmp 23) = .pointer (some ⟨b, 256, none⟩) := hp 12 (by decide)
        have k15 : ρ (.tmp 15) = .int .u8 (n : Int) := hp 3 (by decide)
        refine StepOk.of_run (v := .pointer (some ⟨b, 256 + n, none⟩)) (w' := X) ?_ ⟨rfl, (turns_ok b N).refl _⟩
        simp [go_sem, execOp, hc, hf, hwn, hnI, k23, k15]
      · exact last_intro rfl
    · intro a0 X hb
      have hxN : X.heap[b]? = some N := by obtain ⟨v, hv⟩ := hb.mute 10 _ (by decide) rfl; exact hv
      have hsl : Slots a0.tmps 0 ((.pointer (some ⟨b, 0, none⟩)) :: (.int .u8 (n : Int)) :: (undef) :: (undef) :: (.int .u32 0) :: (.pointer (some ⟨b, 0, none⟩)) :: (.int .u8 (n : Int)) :: (.pointer (some ⟨b, 0, none⟩)) :: (.pointer (some ⟨b, 256, none⟩)) :: (.pointer (some ⟨b, 256 + n, none⟩)) :: (.bool false) :: (.bool true) :: (.pointer (some ⟨b, 0, none⟩)) :: (.int .u8 (n : Int)) :: (.pointer (some ⟨b, 0, none⟩)) :: (.int .u8 (n : Int)) :: (.int .u8 (n : Int)) :: (.int .u32 (n : Int)) :: (.int .u32 (x : Int)) :: (.pointer (some ⟨b, 0, none⟩)) :: (.pointer (some ⟨b, 0, none⟩)) :: (.pointer (some ⟨b, n, none⟩)) :: (.pointer (some ⟨b, 0, none⟩)) :: (.pointer (some ⟨b, 256, none⟩)) :: (.pointer (some ⟨b, 256 + n, none⟩)) :: (undef) :: (undef) :: (undef) :: (undef) :: (undef) :: (undef) :: []) := ⟨hb.orig' 0 rfl, hb.orig' 1 rfl, hb.orig' 2 rfl, hb.orig' 3 rfl, hb.orig' 4 rfl, hb.orig' 5 rfl, hb.orig' 6 rfl, hb.orig' 7 rfl, hb.orig' 8 rfl, hb.orig' 9 rfl, hb.orig' 10 rfl, hb.orig' 11 rfl, hb.done' 0 12 rfl rfl, hb.done' 1 13 rfl rfl, hb.done' 2 14 rfl rfl, hb.done' 3 15 rfl rfl, hb.done' 4 16 rfl rfl, hb.done' 5 17 rfl rfl, hb.done' 6 18 rfl rfl, hb.done' 7 19 rfl rfl, hb.done' 8 20 rfl rfl, hb.done' 9 21 rfl rfl, hb.done' 11 22 rfl rfl, hb.done' 12 23 rfl rfl, hb.done' 13 24 rfl rfl, hb.orig' 25 rfl, hb.orig' 26 rfl, hb.orig' 27 rfl, hb.orig' 28 rfl, hb.orig' 29 rfl, hb.orig' 30 rfl, trivial⟩
      have hfr := frame_eq hsl (hb.size.trans rfl) hb.defers
      have HB := Lib.hid hb.ext.1
      rw [HN.out] at hxN
      have hf0 := frozen_of_row X b (256 + n) c1 61 hxN
      have hcc : X.cell? ⟨b, 256 + n, none⟩ = c1[256 + n]? := cell_of_row X b (256 + n) c1 61 (0, 0) hxN
      rw [Array.getElem?_eq_getElem (by omega)] at hcc
      have hx2 := row_setCell hxN (256 + n) (.bool true)
      have hc2 : (X.setCell ⟨b, 256 + n, none⟩ (.bool true)).cell? ⟨b, n, none⟩ = some (.int .u32 (x : Int)) := by rw [cell_of_row _ b n _ 61 (0, 0) hx2, Hc1.out]; simp [show 256 + n ≠ n by omega, show n < cells.size by omega]
      have HT : Hid (Tab (X.setCell ⟨b, 256 + n, none⟩ (.bool true)) b) := by
        refine ⟨_, hx2, by rw [Array.size_setIfInBounds]; exact hc1n, fun i hi => ?_⟩
        obtain ⟨⟨e', he'⟩, k', hk', hkt'⟩ := HC.out i hi
        rw [Hc1.out]
        by_cases hin : i = n
        · subst hin
          refine ⟨⟨x, by simp [show 256 + i ≠ i by omega, show i < cells.size by omega]⟩, true, by simp [show 256 + i < cells.size by omega], fun _ => ?_⟩
          rw [Hx.out]; simp [show 256 + i ≠ i by omega, show i < cells.size by omega]
        · have e1 : ((cells.setIfInBounds n (.int .u32 x)).setIfInBounds (256 + n) (.bool true))[i]? = cells[i]? := by rw [Array.getElem?_setIfInBounds_ne (by omega), Array.getElem?_setIfInBounds_ne (by omega)]
          have e2 : ((cells.setIfInBounds n (.int .u32 x)).setIfInBounds (256 + n) (.bool true))[256 + i]? = cells[256 + i]? := by rw [Array.getElem?_setIfInBounds_ne (by omega), Array.getElem?_setIfInBounds_ne (by omega)]
          rw [e1, e2]
          exact ⟨⟨e', he'⟩, k', hk', hkt'⟩
      clear hb hsl hxN hx2
      subst hfr
      change StepOk _ { dst := none, op := Op.store 4 (Operand.tmp 24) (Operand.const (Value.bool true)), type := _, pos := _, after := _, guard := _ } _ _ _
      unfold StepOk
      simp [go_sem, execOp, hcc, hf0]
      clear hcc hf0
      go_wp2
      go_ret
      exact ⟨rfl, HT.out, Below.setCell (p := ⟨b, 256 + n, none⟩) HB.out (Nat.le_refl _) _⟩
end Go.Proofs.Ytfgnniajancpcaa
