/-
  Contracts of the document's own answer for crc: step, More, Sum, Put, Check.
-/
import Derived.Test.YtfgnniajancpcaaCrcF
import Derived.Laws.BitsAllLaws
import Derived.Outline
namespace Go.Proofs.Ytfgnniajancpcaa
open Go.RowKit
set_option linter.unusedVariables false
set_option linter.unusedSimpArgs false

theorem wrap_u32 (x : Int) (h0 : 0 ≤ x) (h1 : x < 4294967296) : IntKind.u32.wrap x = x := by
  simp only [IntKind.wrap]
  simp [IntKind.bits, IntKind.signed]
  omega

set_option maxRecDepth 100000 in
theorem refStep (c : Nat) (hc : c < 4294967296) (b : UInt8) (w : World) :
    Calls Try.prog 34 #[.int .u32 c, .int .u8 (b.toNat : Int)] w fun e w' => e = .returned (.int .u32 (stepC c b : Nat)) ∧ w = w' := by
  have hb := b.toNat_lt
  have hw : IntKind.u32.wrap (b.toNat : Int) = (b.toNat : Int) := wrap_u32 _ (by omega) (by omega)
  obtain ⟨x, Hx⟩ : ∃ x, Hid (x = c ^^^ b.toNat) := ⟨_, rfl⟩
  have hx : bits BinOp.xor IntKind.u32 (c : Int) (b.toNat : Int) = (x : Int) := by rw [u32_xor_nat c b.toNat hc (by omega), Hx.out]
  have hx32 : x < 4294967296 := by rw [Hx.out]; exact xor_lt hc (by omega)
  clear hb hc
  go_enter Try.func34, Try.ntmps34
  go_wp2
  go_loop [0, 5] (fun t0 t5 => ∃ k m : Nat, k ≤ 8 ∧ m < 4294967296 ∧ t0 = .int .u32 m ∧ t5 = .int .i64 k ∧ Hid (bitsC 8 x = bitsC (8 - k) m))
    (fun _ t5 => 8 - (intOf t5).toNat)
  case atStart => exact ⟨0, x, by omega, hx32, rfl, rfl, rfl⟩
  case round =>
    obtain ⟨k, m, hk, hm, rfl, rfl, Hm⟩ := hrel
    by_cases hlt : k < 8
    · have hlt' : (k : Int) < 8 := by omega
      have ha : bits BinOp.and IntKind.u32 (m : Int) 1 = (m : Int) % 2 := by
        have := u32_and_nat m 1 hm (by omega)
        rw [Nat.and_one_is_mod] at this
        simpa using this
      have hx2 : bits BinOp.xor IntKind.u32 ((m : Int) / 2) 2197175160 = ((m / 2 ^^^ 2197175160 : Nat) : Int) := by
        have := u32_xor_nat (m / 2) 2197175160 (by omega) (by omega)
        simpa using this
      have hb : m / 2 ^^^ 2197175160 < 4294967296 := xor_lt (by omega) (by omega)
      have Hnext : Hid (bitsC 8 x = bitsC (8 - (k + 1)) (bitC m)) := by
        show _ = _
        rw [Hm.out, show 8 - k = (8 - (k + 1)) + 1 by omega]
        rfl
      by_cases ho : m % 2 = 1
      · have ho' : ((m : Int) % 2 == 1) = true := by rw [beq_iff_eq]; omega
        have Ho := Lib.hid ho
        clear ho
        go_wp2
        go_round
        case rel =>
          refine ⟨k + 1, m / 2 ^^^ 2197175160, by omega, hb, by simp, by simp, ?_⟩
          show _ = _
          rw [Hnext.out]
          unfold bitC
          rw [if_pos Ho.out]
        case measure => simp [intOf]; omega
      · have ho' : ((m : Int) % 2 == 1) = false := by rw [beq_eq_false_iff_ne]; omega
        have Ho := Lib.hid ho
        clear ho
        go_wp2
        go_round
        case rel =>
          refine ⟨k + 1, m / 2, by omega, by omega, by simp, by simp, ?_⟩
          show _ = _
          rw [Hnext.out]
          unfold bitC
          rw [if_neg Ho.out, Nat.xor_zero]
        case measure => simp [intOf]; omega
    · have hlt' : ¬ (k : Int) < 8 := by omega
      go_wp2
      go_ret
      obtain rfl : k = 8 := by omega
      exact ⟨by unfold stepC; rw [← Hx.out, Hm.out]; rfl, rfl⟩

theorem notC_int (c : Nat) (hc : c < 4294967296) : bits BinOp.xor IntKind.u32 IntKind.u32.max (c : Int) = (notC c : Int) := by
  rw [notC_eq]
  exact u32_xor_nat 4294967295 c (by omega) hc
theorem u32_unsigned : IntKind.u32.signed = false := rfl

set_option maxRecDepth 100000 in
theorem refMore_some (c : Nat) (hc : c < 4294967296) (b off cap : Nat) (l : List UInt8) (w : World) (hcl : ∀ i, i < l.length → w.cell? ⟨b, off + i, none⟩ = some (bv (l.getD i 0))) (hl : l.length ≤ maxLen) :
    Calls Try.prog 32 #[.int .u32 c, .slice (some ⟨b, off, none⟩) l.length cap] w fun e w' => e = .returned (.int .u32 (moreC c l : Nat)) ∧ w = w' := by
  unfold maxLen at hl
  have hus := u32_unsigned
  have hn := notC_int c hc
  obtain ⟨x, Hx⟩ : ∃ x, Hid (x = notC c) := ⟨_, rfl⟩
  have hx32 : x < 4294967296 := by rw [Hx.out]; exact notC_lt hc
  rw [← Hx.out] at hn
  clear hc
  go_enter Try.func32, Try.ntmps32
  go_wp2
  go_loop [0, 5] (fun t0 t5 => ∃ k m : Nat, k ≤ l.length ∧ m < 4294967296 ∧ t0 = .int .u32 m ∧ t5 = .int .i64 k ∧ Hid (m = runC x (l.take k)))
    (fun _ t5 => l.length - (intOf t5).toNat)
  case atStart => exact ⟨0, x, by omega, hx32, by simp only [hn], rfl, rfl⟩
  case round =>
    obtain ⟨k, m, hk, hm, rfl, rfl, Hm⟩ := hrel
    by_cases hlt : k < l.length
    · have hck := hcl k hlt
      obtain ⟨d, Hd⟩ : ∃ d, Hid (l.getD k 0 = d) := ⟨_, rfl⟩
      rw [Hd.out] at hck
      unfold bv at hck
      have Hm32 := Lib.hid hm
      clear hcl hm
      go_wp2_with fail
      refine (refStep m Hm32.out d _).mono ?_
      rintro e w1 ⟨rfl, rfl⟩
      go_wp2
      go_round
      case rel => exact ⟨k + 1, stepC m d, by omega, stepC_lt Hm32.out d, by simp, by simp, by show _ = _; rw [take_snoc l k hlt, runC_app, ← Hm.out, Hd.out]; rfl⟩
      case measure => simp [intOf]; omega
    · have hn2 := notC_int m hm
      go_wp2
      go_ret
      refine ⟨?_, rfl⟩
      show Ending.returned (Value.int IntKind.u32 (notC m : Nat)) = _
      rw [Hm.out, List.take_of_length_le (by omega), Hx.out]
      rfl

set_option maxRecDepth 100000 in
theorem refMore_nil (c : Nat) (hc : c < 4294967296) (a : Option Addr) (cap : Nat) (w : World) :
    Calls Try.prog 32 #[.int .u32 c, .slice a 0 cap] w fun e w' => e = .returned (.int .u32 (moreC c [] : Nat)) ∧ w = w' := by
  have hus := u32_unsigned
  have hn := notC_int c hc
  obtain ⟨x, Hx⟩ : ∃ x, Hid (x = notC c) := ⟨_, rfl⟩
  have hx32 : x < 4294967296 := by rw [Hx.out]; exact notC_lt hc
  rw [← Hx.out] at hn
  have hn2 := notC_int x hx32
  clear hc
  go_enter Try.func32, Try.ntmps32
  go_wp2
  refine wp_loop_rounds 1 ?_
  rw [rounds_succ]
  go_wp2
  go_ret
  refine ⟨?_, rfl⟩
  show Ending.returned (Value.int IntKind.u32 (notC x : Nat)) = _
  rw [Hx.out]
  rfl

theorem refMore (c : Nat) (hc : c < 4294967296) (v : Value) (l : List UInt8) (w : World) (h : Byt w v l) :
    Calls Try.prog 32 #[.int .u32 c, v] w fun e w' => e = .returned (.int .u32 (moreC c l : Nat)) ∧ w = w' := by
  obtain ⟨a, cap, rfl, h1, h2, h3, h4⟩ := h
  rcases h4 with rfl | ⟨b, off, rfl, h4⟩
  · exact refMore_nil c hc a cap w
  · exact refMore_some c hc b off cap l w h4 (by omega)

theorem refSum (v : Value) (l : List UInt8) (w : World) (h : Byt w v l) :
    Calls Try.prog 28 #[v] w fun e w' => e = .returned (.int .u32 (sumC l : Nat)) ∧ w = w' := by
  have H := Lib.hid (refMore 0 (by omega) v l w h)
  clear h
  go_enter Try.func28, Try.ntmps28
  go_wp2_with fail
  refine H.out.mono ?_
  rintro e w1 ⟨rfl, rfl⟩
  go_wp2
  go_ret
  exact ⟨rfl, rfl⟩

theorem byt_four (W : World) (e : TypeId) (n : Nat) :
    Byt (W.alloc (.cells #[.int .u8 ((n : Int) / 16777216 % 256), .int .u8 ((n : Int) / 65536 % 256), .int .u8 ((n : Int) / 256 % 256), .int .u8 ((n : Int) % 256)] e)) (.slice (some ⟨W.heap.size, 0, none⟩) 4 4) (four n) := by
  have h := (Own.lit e 0 W (four n) (Nat.zero_le _) (by simp [four, maxLen])).byt
  have e1 : ((four n).map bv).toArray = #[.int .u8 ((n : Int) / 16777216 % 256), .int .u8 ((n : Int) / 65536 % 256), .int .u8 ((n : Int) / 256 % 256), .int .u8 ((n : Int) % 256)] := by
    unfold four
    simp only [List.map_cons, List.map_nil, bvE]
    simp
  rw [e1] at h
  exact h

set_option maxRecDepth 100000 in
theorem refPutC (v : Value) (l : List UInt8) (w : World) (h : Byt w v l) (hl : l.length ≤ 70368744177664) :
    Calls Try.prog 20 #[v] w fun e w' => ∃ v', e = .returned v' ∧ Own 5 w.heap.size w' v' (putC l) ∧ Grows w w' := by
  obtain ⟨i0, hi, hz0, hz1, hz2⟩ := info_parts info5
  have H := Lib.hid h
  have HS := Lib.hid (refSum v l w h)
  obtain ⟨a, cap, rfl⟩ := h.slice
  clear h
  obtain ⟨n, Hn⟩ : ∃ n, Hid (n = sumC l) := ⟨_, rfl⟩
  rw [← Hn.out] at HS
  have Hl := Lib.hid hl
  clear hl
  go_enter Try.func20, Try.ntmps20
  go_wp2_with fail
  refine HS.out.mono ?_
  rintro e w1 ⟨rfl, rfl⟩
  go_wp2_with (first
    | (at_builtin; refine wpList_app rfl _ _ 23 5 i0 rfl Try.underlying23 hi hz0 hz1 hz2 w.heap.size _ _ [] l rfl (Own.empty _ _ _ (Nat.le_refl _)) rfl (H.out.grows (Grows.alloc' _ _)) (by have := Hl.out; simp; omega) (by simp) ?_; intro v1 w1 hown1 hgrow1; have HG1 := Lib.hid (grows_app ((Below.refl _ _).alloc (Nat.le_refl _) _) (Own.empty 5 _ _ (Nat.le_refl _)) (by simp) hgrow1); clear hgrow1)
    | (at_builtin; refine wpList_app rfl _ _ 23 5 i0 rfl Try.underlying23 hi hz0 hz1 hz2 w.heap.size _ _ ([] ++ l) (four n) rfl (hown1.alloc _) rfl (byt_four _ _ n) (by have := Hl.out; simp [four]; omega) (by have := HG1.out.size; simp; omega) ?_; intro v2 w2 hown2 hgrow2))
  go_ret
  exact ⟨_, rfl, by unfold putC; rw [← Hn.out]; exact hown2, grows_push HG1.out hown1 HG1.out.size hgrow2⟩

set_option maxRecDepth 100000 in
set_option maxHeartbeats 1000000 in
theorem refCheckC (v : Value) (l : List UInt8) (w : World) (h : Byt w v l) (hl : l.length ≤ 70368744177664) :
    Calls Try.prog 23 #[v] w fun e w' => ∃ v', e = .returned (.tuple #[v', .bool (checkC l).2]) ∧ Byt w' v' (checkC l).1 ∧ Grows w w' := by
  obtain ⟨i0, hi, hz0, hz1, hz2⟩ := info_parts info5
  have hmx : Try.prog.follows .mixedOrders = true := by kernel_rfl
  have H := Lib.hid h
  obtain ⟨a, cap, rfl⟩ := h.slice
  clear h
  by_cases h4 : l.length < 4
  · have h4' : (l.length : Int) < 4 := by omega
    have HR : Hid (checkC l = ([], false)) := by show _ = _; unfold checkC; rw [if_pos h4]
    clear h4 hl
    go_enter Try.func23, Try.ntmps23
    go_wp2
    go_ret2
    exact ⟨_, by rw [HR.out]; rfl, by rw [HR.out]; exact Byt.nil _, Below.refl _ _⟩
  · have h4' : ¬ (l.length : Int) < 4 := by omega
    obtain ⟨k, hk⟩ : ∃ k : Nat, l.length = k + 4 := ⟨l.length - 4, by omega⟩
    have hk1 : (l.length : Int) - 4 = (k : Int) := by omega
    have hk2 : l.length - 4 = k := by omega
    have hk3 : k ≤ l.length := by omega
    have hk5 : k ≤ 70368744177664 := by omega
    obtain ⟨q, Hq⟩ : ∃ q, Hid (q = l.take k) := ⟨_, rfl⟩
    have HR : Hid (checkC l = if putC q = l then (q, true) else ([], false)) := by show _ = _; unfold checkC; rw [if_neg h4, hk2, ← Hq.out]
    have Hql : Hid (q.length ≤ 70368744177664) := by show q.length ≤ _; rw [Hq.out, List.length_take]; omega
    clear h4 hl hk hk2
    go_enter Try.func23, Try.ntmps23
    go_wp2_with (first
      | (refine wpList_sliceTo rfl _ _ 23 i0 rfl Try.underlying23 hi hz1 (.slice a l.length cap) l rfl (H.out.grows (Grows.alloc' _ _)) k .i64 rfl hk3 ?_; intro a1 c1 hb1; rw [← Hq.out] at hb1)
      | (at_builtin; refine wpList_app rfl _ _ 23 5 i0 rfl Try.underlying23 hi hz0 hz1 hz2 w.heap.size _ _ [] q rfl (Own.empty _ _ _ (Nat.le_refl _)) rfl hb1 (by have := Hql.out; simp; omega) (by simp) ?_; intro v1 w1 hown1 hgrow1; have HG1 := Lib.hid (grows_app ((Below.refl _ _).alloc (Nat.le_refl _) _) (Own.empty 5 _ _ (Nat.le_refl _)) (by simp) hgrow1); clear hgrow1))
    have hb2 : Byt w1 v1 q := hown1.byt
    have Hl := Lib.hid (H.out.grows HG1.out)
    clear hown1
    by_cases hE : putC q = l
    · have HR' : Hid (checkC l = (q, true)) := by show _ = _; rw [HR.out, if_pos hE]
      clear HR
      refine specs_region
        #[[], [0], [0, 1], [], [3], [0, 1, 2, 3, 4]]
        #[[4], [], [], [0], [], []]
        #[true, true, true, true, true, true]
        #[.byt (q), .byt ((putC q)), .val (.string ⟨((putC q) : List UInt8).toArray⟩), .byt (l), .val (.string ⟨(l : List UInt8).toArray⟩), .val (.bool false)]
        hmx ?_ ?_ ?_ ?_
      · rfl
      · rfl
      · refine ⟨?_, ?_, ?_, ?_, ?_, ?_, trivial⟩
        · refine step_intro rfl rfl fun ρ X hc hf hgl hX hp ho => ?_
          change StepOk _ { dst := _, op := Op.move (Operand.tmp 4), type := _, pos := _, after := _, guard := _ } _ _ _
          have e4 : ρ (.tmp 4) = v1 := ho 4 (by decide)
          have k4 : Byt X (ρ (.tmp 4)) q := by rw [e4]; exact Byt.grows (hb2) hX
          refine StepOk.of_run (v := ρ (.tmp 4)) (w' := X) ?_ ⟨k4, Below.refl _ _⟩
          simp [go_sem, execOp]
        · refine step_intro rfl rfl fun ρ X hc hf hgl hX hp ho => ?_
          change StepOk _ { dst := _, op := Op.call { callee := Callee.value (Operand.func 20), args := #[Operand.tmp 15], argTypes := #[23] }, type := _, pos := _, after := _, guard := _ } _ _ _
          have k15 : Byt X (ρ (.tmp 15)) q := hp 0 (by decide)
          refine StepOk.of_call (f := 20) (args := #[ρ (.tmp 15)]) (w' := X) ?_ (refPutC _ q X k15 Hql.out) ?_
          · simp [go_sem, execOp, hc, hf]
          · rintro e w'' ⟨v, rfl, ho', hg'⟩; exact ⟨v, rfl, (show Byt w'' v (putC q) from ho'.byt), hg'⟩
        · refine step_intro rfl rfl fun ρ X hc hf hgl hX hp ho => ?_
          change StepOk _ { dst := _, op := Op.convert 23 9 (Operand.tmp 16), type := _, pos := _, after := _, guard := _ } _ _ _
          have k16 : Byt X (ρ (.tmp 16)) (putC q) := hp 1 (by decide)
          refine StepOk.of_run (v := .string ⟨((putC q) : List UInt8).toArray⟩) (w' := X) ?_ ⟨rfl, Below.refl _ _⟩
          have hr := run_string (P := Try.prog) (T := 23) (e := 5) (S := 9) rfl rfl rfl k16
          simp only [execOp, Sem.run_bind, hr, Result.andThen_ok, Sem.run_pure]
        · refine step_intro rfl rfl fun ρ X hc hf hgl hX hp ho => ?_
          change StepOk _ { dst := _, op := Op.move (Operand.tmp 0), type := _, pos := _, after := _, guard := _ } _ _ _
          have e0 : ρ (.tmp 0) = .slice a l.length cap := ho 0 (by decide)
          have k0 : Byt X (ρ (.tmp 0)) l := by rw [e0]; exact Byt.grows (Hl.out) hX
          refine StepOk.of_run (v := ρ (.tmp 0)) (w' := X) ?_ ⟨k0, Below.refl _ _⟩
          simp [go_sem, execOp]
        · refine step_intro rfl rfl fun ρ X hc hf hgl hX hp ho => ?_
          change StepOk _ { dst := _, op := Op.convert 23 9 (Operand.tmp 18), type := _, pos := _, after := _, guard := _ } _ _ _
          have k18 : Byt X (ρ (.tmp 18)) l := hp 3 (by decide)
          refine StepOk.of_run (v := .string ⟨(l : List UInt8).toArray⟩) (w' := X) ?_ ⟨rfl, Below.refl _ _⟩
          have hr := run_string (P := Try.prog) (T := 23) (e := 5) (S := 9) rfl rfl rfl k18
          simp only [execOp, Sem.run_bind, hr, Result.andThen_ok, Sem.run_pure]
        · refine step_intro rfl rfl fun ρ X hc hf hgl hX hp ho => ?_
          change StepOk _ { dst := _, op := Op.binOp BinOp.neq 9 (Operand.tmp 17) (Operand.tmp 19) 9, type := _, pos := _, after := _, guard := _ } _ _ _
          have k17 : ρ (.tmp 17) = .string ⟨((putC q) : List UInt8).toArray⟩ := hp 2 (by decide)
          have k19 : ρ (.tmp 19) = .string ⟨(l : List UInt8).toArray⟩ := hp 4 (by decide)
          refine StepOk.of_run (v := .bool false) (w' := X) ?_ ⟨rfl, Below.refl _ _⟩
          simp [go_sem, execOp, hc, hf, k17, k19, hE]
      · intro a W hb
        have k0 : a.tmps.getD 20 undef = .bool false := hb.done' 5 20 rfl rfl
        have k4 : a.tmps.getD 4 undef = v1 := hb.orig' 4 rfl
        have hG := hb.ext
        have ha : a = { tmps := [a.tmps.getD 0 undef, a.tmps.getD 1 undef, a.tmps.getD 2 undef, a.tmps.getD 3 undef, a.tmps.getD 4 undef, a.tmps.getD 5 undef, a.tmps.getD 6 undef, a.tmps.getD 7 undef, a.tmps.getD 8 undef, a.tmps.getD 9 undef, a.tmps.getD 10 undef, a.tmps.getD 11 undef, a.tmps.getD 12 undef, a.tmps.getD 13 undef, a.tmps.getD 14 undef, a.tmps.getD 15 undef, a.tmps.getD 16 undef, a.tmps.getD 17 undef, a.tmps.getD 18 undef, a.tmps.getD 19 undef, a.tmps.getD 20 undef, a.tmps.getD 21 undef].toArray, defers := [] } := frame_eq ⟨rfl, rfl, rfl, rfl, rfl, rfl, rfl, rfl, rfl, rfl, rfl, rfl, rfl, rfl, rfl, rfl, rfl, rfl, rfl, rfl, rfl, rfl, trivial⟩ (hb.size.trans rfl) (hb.defers.trans rfl)
        rw [k4, k0] at ha
        generalize a.tmps.getD 0 undef = y0 at ha
        generalize a.tmps.getD 1 undef = y1 at ha
        generalize a.tmps.getD 2 undef = y2 at ha
        generalize a.tmps.getD 3 undef = y3 at ha
        generalize a.tmps.getD 5 undef = y5 at ha
        generalize a.tmps.getD 6 undef = y6 at ha
        generalize a.tmps.getD 7 undef = y7 at ha
        generalize a.tmps.getD 8 undef = y8 at ha
        generalize a.tmps.getD 9 undef = y9 at ha
        generalize a.tmps.getD 10 undef = y10 at ha
        generalize a.tmps.getD 11 undef = y11 at ha
        generalize a.tmps.getD 12 undef = y12 at ha
        generalize a.tmps.getD 13 undef = y13 at ha
        generalize a.tmps.getD 14 undef = y14 at ha
        generalize a.tmps.getD 15 undef = y15 at ha
        generalize a.tmps.getD 16 undef = y16 at ha
        generalize a.tmps.getD 17 undef = y17 at ha
        generalize a.tmps.getD 18 undef = y18 at ha
        generalize a.tmps.getD 19 undef = y19 at ha
        generalize a.tmps.getD 21 undef = y21 at ha
        subst ha
        have HG := Lib.hid hG
        have Hb2 := Lib.hid hb2
        clear hG
        clear hb hb2
        go_wp2_with fail
        go_ret2
        exact ⟨_, by rw [HR'.out]; rfl, by rw [HR'.out]; exact Hb2.out.grows HG.out, Grows.trans' HG1.out HG.out⟩
    · have HR' : Hid (checkC l = ([], false)) := by show _ = _; rw [HR.out, if_neg hE]
      clear HR
      refine specs_region
        #[[], [0], [0, 1], [], [3], [0, 1, 2, 3, 4]]
        #[[4], [], [], [0], [], []]
        #[true, true, true, true, true, true]
        #[.byt (q), .byt ((putC q)), .val (.string ⟨((putC q) : List UInt8).toArray⟩), .byt (l), .val (.string ⟨(l : List UInt8).toArray⟩), .val (.bool true)]
        hmx ?_ ?_ ?_ ?_
      · rfl
      · rfl
      · refine ⟨?_, ?_, ?_, ?_, ?_, ?_, trivial⟩
        · refine step_intro rfl rfl fun ρ X hc hf hgl hX hp ho => ?_
          change StepOk _ { dst := _, op := Op.move (Operand.tmp 4), type := _, pos := _, after := _, guard := _ } _ _ _
          have e4 : ρ (.tmp 4) = v1 := ho 4 (by decide)
          have k4 : Byt X (ρ (.tmp 4)) q := by rw [e4]; exact Byt.grows (hb2) hX
          refine StepOk.of_run (v := ρ (.tmp 4)) (w' := X) ?_ ⟨k4, Below.refl _ _⟩
          simp [go_sem, execOp]
        · refine step_intro rfl rfl fun ρ X hc hf hgl hX hp ho => ?_
          change StepOk _ { dst := _, op := Op.call { callee := Callee.value (Operand.func 20), args := #[Operand.tmp 15], argTypes := #[23] }, type := _, pos := _, after := _, guard := _ } _ _ _
          have k15 : Byt X (ρ (.tmp 15)) q := hp 0 (by decide)
          refine StepOk.of_call (f := 20) (args := #[ρ (.tmp 15)]) (w' := X) ?_ (refPutC _ q X k15 Hql.out) ?_
          · simp [go_sem, execOp, hc, hf]
          · rintro e w'' ⟨v, rfl, ho', hg'⟩; exact ⟨v, rfl, (show Byt w'' v (putC q) from ho'.byt), hg'⟩
        · refine step_intro rfl rfl fun ρ X hc hf hgl hX hp ho => ?_
          change StepOk _ { dst := _, op := Op.convert 23 9 (Operand.tmp 16), type := _, pos := _, after := _, guard := _ } _ _ _
          have k16 : Byt X (ρ (.tmp 16)) (putC q) := hp 1 (by decide)
          refine StepOk.of_run (v := .string ⟨((putC q) : List UInt8).toArray⟩) (w' := X) ?_ ⟨rfl, Below.refl _ _⟩
          have hr := run_string (P := Try.prog) (T := 23) (e := 5) (S := 9) rfl rfl rfl k16
          simp only [execOp, Sem.run_bind, hr, Result.andThen_ok, Sem.run_pure]
        · refine step_intro rfl rfl fun ρ X hc hf hgl hX hp ho => ?_
          change StepOk _ { dst := _, op := Op.move (Operand.tmp 0), type := _, pos := _, after := _, guard := _ } _ _ _
          have e0 : ρ (.tmp 0) = .slice a l.length cap := ho 0 (by decide)
          have k0 : Byt X (ρ (.tmp 0)) l := by rw [e0]; exact Byt.grows (Hl.out) hX
          refine StepOk.of_run (v := ρ (.tmp 0)) (w' := X) ?_ ⟨k0, Below.refl _ _⟩
          simp [go_sem, execOp]
        · refine step_intro rfl rfl fun ρ X hc hf hgl hX hp ho => ?_
          change StepOk _ { dst := _, op := Op.convert 23 9 (Operand.tmp 18), type := _, pos := _, after := _, guard := _ } _ _ _
          have k18 : Byt X (ρ (.tmp 18)) l := hp 3 (by decide)
          refine StepOk.of_run (v := .string ⟨(l : List UInt8).toArray⟩) (w' := X) ?_ ⟨rfl, Below.refl _ _⟩
          have hr := run_string (P := Try.prog) (T := 23) (e := 5) (S := 9) rfl rfl rfl k18
          simp only [execOp, Sem.run_bind, hr, Result.andThen_ok, Sem.run_pure]
        · refine step_intro rfl rfl fun ρ X hc hf hgl hX hp ho => ?_
          change StepOk _ { dst := _, op := Op.binOp BinOp.neq 9 (Operand.tmp 17) (Operand.tmp 19) 9, type := _, pos := _, after := _, guard := _ } _ _ _
          have k17 : ρ (.tmp 17) = .string ⟨((putC q) : List UInt8).toArray⟩ := hp 2 (by decide)
          have k19 : ρ (.tmp 19) = .string ⟨(l : List UInt8).toArray⟩ := hp 4 (by decide)
          refine StepOk.of_run (v := .bool true) (w' := X) ?_ ⟨rfl, Below.refl _ _⟩
          simp [go_sem, execOp, hc, hf, k17, k19, hE]
      · intro a W hb
        have k0 : a.tmps.getD 20 undef = .bool true := hb.done' 5 20 rfl rfl
        have k4 : a.tmps.getD 4 undef = v1 := hb.orig' 4 rfl
        have hG := hb.ext
        have ha : a = { tmps := [a.tmps.getD 0 undef, a.tmps.getD 1 undef, a.tmps.getD 2 undef, a.tmps.getD 3 undef, a.tmps.getD 4 undef, a.tmps.getD 5 undef, a.tmps.getD 6 undef, a.tmps.getD 7 undef, a.tmps.getD 8 undef, a.tmps.getD 9 undef, a.tmps.getD 10 undef, a.tmps.getD 11 undef, a.tmps.getD 12 undef, a.tmps.getD 13 undef, a.tmps.getD 14 undef, a.tmps.getD 15 undef, a.tmps.getD 16 undef, a.tmps.getD 17 undef, a.tmps.getD 18 undef, a.tmps.getD 19 undef, a.tmps.getD 20 undef, a.tmps.getD 21 undef].toArray, defers := [] } := frame_eq ⟨rfl, rfl, rfl, rfl, rfl, rfl, rfl, rfl, rfl, rfl, rfl, rfl, rfl, rfl, rfl, rfl, rfl, rfl, rfl, rfl, rfl, rfl, trivial⟩ (hb.size.trans rfl) (hb.defers.trans rfl)
        rw [k4, k0] at ha
        generalize a.tmps.getD 0 undef = y0 at ha
        generalize a.tmps.getD 1 undef = y1 at ha
        generalize a.tmps.getD 2 undef = y2 at ha
        generalize a.tmps.getD 3 undef = y3 at ha
        generalize a.tmps.getD 5 undef = y5 at ha
        generalize a.tmps.getD 6 undef = y6 at ha
        generalize a.tmps.getD 7 undef = y7 at ha
        generalize a.tmps.getD 8 undef = y8 at ha
        generalize a.tmps.getD 9 undef = y9 at ha
        generalize a.tmps.getD 10 undef = y10 at ha
        generalize a.tmps.getD 11 undef = y11 at ha
        generalize a.tmps.getD 12 undef = y12 at ha
        generalize a.tmps.getD 13 undef = y13 at ha
        generalize a.tmps.getD 14 undef = y14 at ha
        generalize a.tmps.getD 15 undef = y15 at ha
        generalize a.tmps.getD 16 undef = y16 at ha
        generalize a.tmps.getD 17 undef = y17 at ha
        generalize a.tmps.getD 18 undef = y18 at ha
        generalize a.tmps.getD 19 undef = y19 at ha
        generalize a.tmps.getD 21 undef = y21 at ha
        subst ha
        have HG := Lib.hid hG
        have Hb2 := Lib.hid hb2
        clear hG
        clear hb hb2
        go_wp2_with fail
        go_ret2
        exact ⟨_, by rw [HR'.out]; rfl, by rw [HR'.out]; exact Byt.nil _, Grows.trans' HG1.out HG.out⟩
end Go.Proofs.Ytfgnniajancpcaa
