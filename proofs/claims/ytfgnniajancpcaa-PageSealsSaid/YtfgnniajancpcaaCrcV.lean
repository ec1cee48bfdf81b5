/-
  Contracts of the program's own Sum, More, Put, Check, and of slices.Grow and slices.Concat on bytes.
-/
import Derived.Test.YtfgnniajancpcaaCrcO
import Derived.Lib.AppendZeros
namespace Go.Proofs.Ytfgnniajancpcaa
open Go.RowKit
set_option linter.unusedVariables false
set_option linter.unusedSimpArgs false

theorem vSumC (v : Value) (ls : List (List UInt8)) (w : World) (h : BytL w v ls) :
    Calls Try.prog 27 #[v] w fun e w' => e = .returned (.int .u32 (sumC ls.flatten : Nat)) ∧ Grows w w' := by
  have H := Lib.hid (vOnward 0 (by omega) v ls w h)
  obtain ⟨a, cap, rfl⟩ := h.slice
  clear h
  go_enter Try.func27, Try.ntmps27
  go_wp2_with fail
  refine H.out.mono ?_
  rintro e w1 ⟨rfl, hG⟩
  go_wp2
  go_ret
  exact ⟨rfl, hG⟩

theorem bytL1 (w : World) (v : Value) (l : List UInt8) (h : Byt w v l) : BytL (w.alloc (.cells #[v] 23)) (.slice (some ⟨w.heap.size, 0, none⟩) 1 1) [l] :=
  BytL.lit' w 23 [v] [l] _ 1 rfl rfl rfl (by simp [maxLen]) (fun i hi => match i, hi with | 0, _ => h | _ + 1, h => absurd h (by simp))
theorem bytL2 (w : World) (v u : Value) (l m : List UInt8) (h : Byt w v l) (k : Byt w u m) : BytL (w.alloc (.cells #[v, u] 23)) (.slice (some ⟨w.heap.size, 0, none⟩) 2 2) [l, m] :=
  BytL.lit' w 23 [v, u] [l, m] _ 2 rfl rfl rfl (by simp [maxLen]) (fun i hi => match i, hi with | 0, _ => h | 1, _ => k | _ + 2, h => absurd h (by simp))

set_option maxRecDepth 100000 in
theorem vGrow (n : Nat) (hn : n ≤ 140737488355328) (w : World) :
    Calls Try.prog 30 #[.slice none 0 0, .int .i64 n] w fun e w' => ∃ v', e = .returned v' ∧ Own 5 w.heap.size w' v' [] ∧ Grows w w' := by
  obtain ⟨i0, hi, hz0, hz1, hz2⟩ := info_parts info5
  by_cases h0 : n = 0
  · subst h0
    go_enter Try.func30, Try.ntmps30
    go_wp2
    go_ret
    exact ⟨_, rfl, Own.nil _ _ _, Below.refl _ _⟩
  · have h1 : ¬ ((n : Int) < 0) := by omega
    have h2 : (n : Int) > 0 := by omega
    have hrz := fun ty => Lib.run_append_nil_zeros (P := Try.prog) w 23 3 ty 5 i0 (.int .u8 0) .i64 .i64 Try.underlying23 Try.underlying3 hi hz0 n (by omega) (by omega) (by omega) (by rw [hz2]; omega)
    have hge := grownCap_ge w n 0 5
    have hle := grownCap_le_maxLen w n 0 5 (by unfold maxLen; omega)
    obtain ⟨G, hG⟩ : ∃ G, G = grownCap w n 0 5 := ⟨_, rfl⟩
    rw [← hG] at hrz hge hle
    have Hle := Lib.hid hle
    unfold maxLen at hle
    clear hG
    go_enter Try.func30, Try.ntmps30
    go_wp2_with (at_builtin; refine Lib.wpList_append_run _ rfl _ _ _ _ rfl _ _ rfl rfl _ _ (hrz _) ?_)
    go_ret
    refine ⟨_, rfl, ⟨by simp, .inr ⟨w.heap.size, G, _, rfl, Nat.le_refl _, heap_alloc_new w.drew _, Nat.zero_le _, Hle.out, ?_, by simp⟩⟩, (Below.refl _ _).drew.alloc (Nat.le_refl _) _⟩
    simp [Value.cells, Builtin.zeroCells]
    omega

theorem len_snocL (ls : List (List UInt8)) (k : Nat) (hk : k < ls.length) : (ls.take (k + 1)).flatten.length = (ls.take k).flatten.length + (ls.getD k []).length := by
  rw [flat_snocL ls k hk, List.length_append]
theorem len_takeL (ls : List (List UInt8)) (k : Nat) : (ls.take k).flatten.length ≤ ls.flatten.length := by
  have h : ls.flatten = (ls.take k).flatten ++ (ls.drop k).flatten := by rw [← List.flatten_append, List.take_append_drop]
  rw [h, List.length_append]
  omega

set_option maxRecDepth 100000 in
set_option maxHeartbeats 2000000 in
theorem vConcat_some (b off cap : Nat) (ls : List (List UInt8)) (w : World) (hl : ls.length ≤ maxLen) (ht : ls.flatten.length ≤ 140737488355328) (hcl : ∀ i, i < ls.length → ∃ u, w.cell? ⟨b, off + i, none⟩ = some u ∧ Byt w u (ls.getD i [])) :
    Calls Try.prog 26 #[.slice (some ⟨b, off, none⟩) ls.length cap] w fun e w' => ∃ v', e = .returned v' ∧ Own 5 w.heap.size w' v' ls.flatten ∧ Grows w w' := by
  obtain ⟨i0, hi, hz0, hz1, hz2⟩ := info_parts info5
  unfold maxLen at hl
  have HC := Lib.hid hcl
  have Ht := Lib.hid ht
  clear hcl ht
  go_enter Try.func26, Try.ntmps26
  go_wp2
  go_loop [3, 11] (fun t3 t11 => ∃ k s : Nat, k ≤ ls.length ∧ s ≤ 140737488355328 ∧ t3 = .int .i64 s ∧ t11 = .int .i64 k ∧ Hid (s = (ls.take k).flatten.length))
    (fun _ t11 => ls.length - (intOf t11).toNat)
  case atStart => exact ⟨0, 0, by omega, by omega, rfl, rfl, rfl⟩
  case round =>
    obtain ⟨k, s, hk, hs, rfl, rfl, Hs⟩ := hrel
    by_cases hlt : k < ls.length
    · obtain ⟨u, hu, hby⟩ := HC.out k hlt
      have hsn : s + (ls.getD k []).length ≤ 140737488355328 := by
        have h1 := len_snocL ls k hlt
        have h2 := len_takeL ls (k + 1)
        have h3 := Ht.out
        rw [Hs.out]
        omega
      have Hsn : Hid (s + (ls.getD k []).length = (ls.take (k + 1)).flatten.length) := by show _ = _; rw [len_snocL ls k hlt, ← Hs.out]
      obtain ⟨l, Hl⟩ : ∃ l, Hid (ls.getD k [] = l) := ⟨_, rfl⟩
      rw [Hl.out] at hby hsn Hsn
      obtain ⟨a', cap', rfl, h1, h2, h3, h4⟩ := hby
      clear h1 h2 h3 h4
      have hneg : ¬ ((s : Int) + (l.length : Int) < 0) := by omega
      go_wp2
      go_round
      case rel => exact ⟨k + 1, s + l.length, by omega, hsn, by simp, by simp, Hsn.out⟩
      case measure => simp [intOf]; omega
    · have Hs2 : Hid (s = ls.flatten.length) := by show _ = _; rw [Hs.out, List.take_of_length_le (by omega)]
      have HG := Lib.hid (vGrow s hs w)
      clear hs
      go_wp2_with fail
      refine HG.out.mono ?_
      rintro e w1 ⟨v1, rfl, hown, hg⟩
      go_wp2
      go_loopw [6, 27] (fun t6 t27 wr => ∃ k : Nat, k ≤ ls.length ∧ t27 = .int .i64 k ∧ Own 5 w.heap.size wr t6 (ls.take k).flatten ∧ Grows w wr)
        (fun _ t27 _ => ls.length - (intOf t27).toNat)
      case atStart => exact ⟨0, by omega, rfl, by simpa using hown, hg⟩
      case round =>
        obtain ⟨j, hj, rfl, hownj, hgj⟩ := hrel
        by_cases hjl : j < ls.length
        · obtain ⟨u, hu, hby⟩ := HC.out j hjl
          have hu' := hgj.cell' hu
          have hby' := hby.grows hgj
          have Hlen : Hid ((ls.take j).flatten.length + (ls.getD j []).length ≤ 140737488355328) := by
            have h1 := len_snocL ls j hjl
            have h2 := len_takeL ls (j + 1)
            have h3 := Ht.out
            show _ ≤ _
            omega
          have Hfl := Lib.hid (flat_snocL ls j hjl)
          have Hgj := Lib.hid hgj
          have Hby := Lib.hid hby'
          have Hown := Lib.hid hownj
          clear hu hby hby' hgj hownj
          go_wp2_with (at_builtin; refine wpList_app rfl _ _ 23 5 i0 rfl Try.underlying23 hi hz0 hz1 hz2 w.heap.size _ _ _ _ rfl Hown.out rfl Hby.out Hlen.out Hgj.out.size ?_; intro v' w2 hown' hgrow)
          go_roundw
          case rel => exact ⟨j + 1, by omega, by simp, by rw [Hfl.out]; exact hown', grows_app Hgj.out Hown.out Hgj.out.size hgrow⟩
          case measure => simp [intOf]; omega
        · go_wp2
          go_ret
          refine ⟨_, rfl, ?_, hgj⟩
          rw [List.take_of_length_le (by omega)] at hownj
          exact hownj

theorem vConcat (v : Value) (ls : List (List UInt8)) (w : World) (h : BytL w v ls) (hne : ls ≠ []) (ht : ls.flatten.length ≤ 140737488355328) :
    Calls Try.prog 26 #[v] w fun e w' => ∃ v', e = .returned v' ∧ Own 5 w.heap.size w' v' ls.flatten ∧ Grows w w' := by
  obtain ⟨a, cap, rfl, h1, h2, h3, h4⟩ := h
  obtain ⟨b, off, rfl, h5⟩ := h4.resolve_left hne
  exact vConcat_some b off cap ls w (by omega) ht h5
theorem vSum1 (v : Value) (l : List UInt8) (w : World) (h : BytL w v [l]) :
    Calls Try.prog 27 #[v] w fun e w' => e = .returned (.int .u32 (sumC l : Nat)) ∧ Grows w w' := by
  have := vSumC v [l] w h
  rwa [show List.flatten [l] = l by simp] at this

theorem Own.base {e : TypeId} {B B' : Nat} {W : World} {v : Value} {l : List UInt8} (h : Own e B W v l) (hb : B' ≤ B) : Own e B' W v l := by
  refine ⟨h.1, ?_⟩
  rcases h.2 with h' | ⟨g, cap, cur, e1, hg, rest⟩
  · exact .inl h'
  · exact .inr ⟨g, cap, cur, e1, by omega, rest⟩
theorem fix_four (n : Nat) : fixed n 4 = four n := by
  unfold fixed four
  rw [if_neg (by omega : ¬ ((4 : Int) < 1 ∨ (8 : Int) < 4))]
  show fixG 4 n = _
  simp [fixG_cons, fixG, Nat.div_div_eq_div_mul]

set_option maxRecDepth 100000 in
theorem vPutC (v : Value) (l : List UInt8) (w : World) (h : Byt w v l) (hl : l.length ≤ 70368744177664) :
    Calls Try.prog 17 #[v] w fun e w' => ∃ v', e = .returned v' ∧ Own 5 w.heap.size w' v' (putC l) ∧ Grows w w' := by
  have H := Lib.hid h
  have HS := Lib.hid (vSum1 _ l _ (bytL1 w v l h))
  obtain ⟨a, cap, rfl⟩ := h.slice
  obtain ⟨n, Hn⟩ : ∃ n, Hid (n = sumC l) := ⟨_, rfl⟩
  have hn : n < 4294967296 := by rw [Hn.out]; exact sumC_lt l
  have hw : IntKind.u64.wrap (n : Int) = (n : Int) := wrap_u64 _ (by omega) (by omega)
  rw [← Hn.out] at HS
  have HF := Lib.hid (fun w => vFixed n 4 (by omega) w)
  have Hl := Lib.hid hl
  clear h hl hn
  go_enter Try.func17, Try.ntmps17
  go_wp2_with fail
  refine HS.out.mono ?_
  rintro e w1 ⟨rfl, hg1⟩
  have HG1 := Lib.hid (Grows.trans' (Grows.alloc' w _) hg1)
  clear hg1
  go_wp2_with fail
  refine (HF.out _).mono ?_
  rintro e w2 ⟨v2, rfl, hown2, hg2⟩
  rw [fix_four] at hown2
  obtain ⟨a2, cap2, rfl⟩ := hown2.byt.slice
  have HG2 := Lib.hid (Grows.trans' HG1.out hg2)
  have HC := Lib.hid (vConcat _ _ _ (bytL2 w2 _ _ l (four n) (H.out.grows HG2.out) hown2.byt) (by simp) (by have := Hl.out; simp [four]; omega))
  clear hg2 hown2
  go_wp2_with fail
  refine HC.out.mono ?_
  rintro e w3 ⟨v3, rfl, hown3, hg3⟩
  go_wp2
  go_ret
  refine ⟨_, rfl, ?_, Grows.trans' (Grows.trans' HG2.out (Grows.alloc' _ _)) hg3⟩
  have h1 : [l, four n].flatten = putC l := by unfold putC; rw [← Hn.out]; simp
  rw [h1] at hown3
  exact hown3.base (by have := HG2.out.size; simp; omega)

theorem four_numG (r : List UInt8) (h : r.length = 4) : four (numG r) = r ∧ numG r < 4294967296 := by
  match r, h with
  | [a, b, c, d], _ =>
    have ha := a.toNat_lt
    have hb := b.toNat_lt
    have hc := c.toNat_lt
    have hd := d.toNat_lt
    have e : numG [a, b, c, d] = ((a.toNat * 256 + b.toNat) * 256 + c.toNat) * 256 + d.toNat := by simp [numG]
    rw [e]
    refine ⟨?_, by omega⟩
    unfold four
    refine congr (congrArg _ ?_) (congr (congrArg _ ?_) (congr (congrArg _ ?_) (congr (congrArg _ ?_) rfl))) <;> (apply UInt8.toNat_inj.1; rw [UInt8.toNat_ofNat']; omega)
theorem number_four (r : List UInt8) (h : r.length = 4) (n : Nat) (hn : n < 4294967296) : number r = n ↔ four n = r := by
  obtain ⟨h1, h2⟩ := four_numG r h
  have h3 : number r = numG r := by unfold number; rw [if_neg (by omega)]
  rw [h3]
  constructor
  · rintro rfl; exact h1
  · intro h4
    exact four_inj h2 hn (h1.trans h4.symm)

set_option maxRecDepth 100000 in
set_option maxHeartbeats 2000000 in
theorem vCheckC (v : Value) (l : List UInt8) (w : World) (h : Byt w v l) (hl : l.length ≤ 70368744177664) :
    Calls Try.prog 21 #[v] w fun e w' => ∃ v', e = .returned (.tuple #[v', .bool (checkC l).2]) ∧ Byt w' v' (checkC l).1 ∧ Grows w w' := by
  obtain ⟨i0, hi, hz0, hz1, hz2⟩ := info_parts info5
  have hmx : Try.prog.follows .mixedOrders = true := by kernel_rfl
  have H := Lib.hid h
  obtain ⟨a, cap, rfl⟩ := h.slice
  clear h
  by_cases h4 : l.length < 4
  · obtain ⟨z, hz⟩ : ∃ z : Int, (l.length : Int) - 4 = z := ⟨_, rfl⟩
    have hzn : z < 0 := by omega
    have HR : Hid (checkC l = ([], false)) := by show _ = _; unfold checkC; rw [if_pos h4]
    clear h4 hl
    go_enter Try.func21, Try.ntmps21
    go_wp2_with fail
    refine specs_region
      #[[], [0], [0, 1], [0, 1, 2], [0, 1, 2], [0, 1, 2, 3, 4], [0, 1, 2, 3, 4, 5], [0, 1, 2], [0, 1, 2], [0, 1, 2, 7, 8], [0, 1, 2, 7, 8, 9], [0, 1, 2, 3, 4, 5, 6, 7, 8, 9, 10], [0, 1, 2, 3, 4, 5, 6, 7, 8, 9, 10, 11], [0, 1, 2, 3, 4, 5, 6, 7, 8, 9, 10, 11, 12], [0, 1, 2, 3, 4, 5, 6, 7, 8, 9, 10, 11, 12, 13]]
      #[[4], [], [], [0], [4], [], [], [0], [4], [], [], [], [], [], []]
      #[true, true, true, false, false, false, false, false, false, false, false, false, false, false, true]
      #[.val (.int .i64 z), .val (.bool true), .val (.bool true), .val (undef), .val (undef), .val (undef), .val (undef), .val (undef), .val (undef), .val (undef), .val (undef), .val (undef), .val (undef), .val (undef), .val (.bool true)]
      hmx ?_ ?_ ?_ ?_
    · rfl
    · rfl
    · refine ⟨?_, ?_, ?_, ?_, ?_, ?_, ?_, ?_, ?_, ?_, ?_, ?_, ?_, ?_, ?_, trivial⟩
      · refine step_intro rfl rfl fun ρ X hc hf hgl hX hp ho => ?_
        change StepOk _ { dst := _, op := Op.move (Operand.tmp 4), type := _, pos := _, after := _, guard := _ } _ _ _
        have e4 : ρ (.tmp 4) = .int .i64 z := ho 4 (by decide)
        have k4 := e4
        refine StepOk.of_run (v := .int .i64 z) (w' := X) ?_ ⟨rfl, Below.refl _ _⟩
        simp [go_sem, execOp, hc, hf, k4]
      · refine step_intro rfl rfl fun ρ X hc hf hgl hX hp ho => ?_
        change StepOk _ { dst := _, op := Op.binOp BinOp.lss 3 (Operand.tmp 8) (Operand.const (Value.int IntKind.i64 0)) 3, type := _, pos := _, after := _, guard := _ } _ _ _
        have k8 : ρ (.tmp 8) = .int .i64 z := hp 0 (by decide)
        refine StepOk.of_run (v := .bool true) (w' := X) ?_ ⟨rfl, Below.refl _ _⟩
        simp [go_sem, execOp, hc, hf, k8, hzn]
      · refine step_intro rfl rfl fun ρ X hc hf hgl hX hp ho => ?_
        change StepOk _ { dst := _, op := Op.move (Operand.tmp 9), type := _, pos := _, after := _, guard := _ } _ _ _
        have k9 : ρ (.tmp 9) = .bool true := hp 1 (by decide)
        refine StepOk.of_run (v := .bool true) (w' := X) ?_ ⟨rfl, Below.refl _ _⟩
        simp [go_sem, execOp, hc, hf, k9]
      · exact step_skip rfl rfl (fun _ _ => rfl)
      · exact step_skip rfl rfl (fun _ _ => rfl)
      · exact step_skip rfl rfl (fun _ _ => rfl)
      · exact step_skip rfl rfl (fun _ _ => rfl)
      · exact step_skip rfl rfl (fun _ _ => rfl)
      · exact step_skip rfl rfl (fun _ _ => rfl)
      · exact step_skip rfl rfl (fun _ _ => rfl)
      · exact step_skip rfl rfl (fun _ _ => rfl)
      · exact step_skip rfl rfl (fun _ _ => rfl)
      · exact step_skip rfl rfl (fun _ _ => rfl)
      · exact step_skip rfl rfl (fun _ _ => rfl)
      · refine step_intro rfl rfl fun ρ X hc hf hgl hX hp ho => ?_
        change StepOk _ { dst := _, op := Op.pick (Operand.tmp 10) (Operand.const (Value.bool true)) (Operand.tmp 21), type := _, pos := _, after := _, guard := _ } _ _ _
        have k10 : ρ (.tmp 10) = .bool true := hp 2 (by decide)
        have k21 : ρ (.tmp 21) = undef := hp 13 (by decide)
        refine StepOk.of_run (v := .bool true) (w' := X) ?_ ⟨rfl, Below.refl _ _⟩
        simp [go_sem, execOp, hc, hf, k10, k21]
    · intro a W hb
      have k22 : a.tmps.getD 22 undef = .bool true := hb.done' 14 22 rfl rfl
      have hG := hb.ext
      have ha : a = { tmps := [a.tmps.getD 0 undef, a.tmps.getD 1 undef, a.tmps.getD 2 undef, a.tmps.getD 3 undef, a.tmps.getD 4 undef, a.tmps.getD 5 undef, a.tmps.getD 6 undef, a.tmps.getD 7 undef, a.tmps.getD 8 undef, a.tmps.getD 9 undef, a.tmps.getD 10 undef, a.tmps.getD 11 undef, a.tmps.getD 12 undef, a.tmps.getD 13 undef, a.tmps.getD 14 undef, a.tmps.getD 15 undef, a.tmps.getD 16 undef, a.tmps.getD 17 undef, a.tmps.getD 18 undef, a.tmps.getD 19 undef, a.tmps.getD 20 undef, a.tmps.getD 21 undef, a.tmps.getD 22 undef, a.tmps.getD 23 undef, a.tmps.getD 24 undef, a.tmps.getD 25 undef, a.tmps.getD 26 undef].toArray, defers := [] } := frame_eq ⟨rfl, rfl, rfl, rfl, rfl, rfl, rfl, rfl, rfl, rfl, rfl, rfl, rfl, rfl, rfl, rfl, rfl, rfl, rfl, rfl, rfl, rfl, rfl, rfl, rfl, rfl, rfl, trivial⟩ (hb.size.trans rfl) (hb.defers.trans rfl)
      rw [k22] at ha
      generalize a.tmps.getD 0 undef = y0 at ha
      generalize a.tmps.getD 1 undef = y1 at ha
      generalize a.tmps.getD 2 undef = y2 at ha
      generalize a.tmps.getD 3 undef = y3 at ha
      generalize a.tmps.getD 4 undef = y4 at ha
      generalize a.tmps.getD 5 undef = y5 at ha
      generalize a.tmps.getD 6 undef = y6 at ha
      generalize a.tmps.getD 7 undef = y7 at ha
      generalize a.tmps.getD 8 undef = y8 at ha
      generalize a.tmps.getD 9 undef = y9 at ha
      generalize a.tmps.getD 10 undef = y10 at ha
      generalize a.tmps.getD 11 undef = y11 at ha
      generalize a.tmps.getD 12 undef = y12 at ha
      generalize a.tmps.getD 13 undef = y13 at ha
      generalize a.tmps.getD 14 undef = y14 at ha
      generalize a.tmps.getD 15 undef = y15 at ha
      generalize a.tmps.getD 16 undef = y16 at ha
      generalize a.tmps.getD 17 undef = y17 at ha
      generalize a.tmps.getD 18 undef = y18 at ha
      generalize a.tmps.getD 19 undef = y19 at ha
      generalize a.tmps.getD 20 undef = y20 at ha
      generalize a.tmps.getD 21 undef = y21 at ha
      generalize a.tmps.getD 23 undef = y23 at ha
      generalize a.tmps.getD 24 undef = y24 at ha
      generalize a.tmps.getD 25 undef = y25 at ha
      generalize a.tmps.getD 26 undef = y26 at ha
      subst ha
      have HG := Lib.hid hG
      clear hG
      clear hb
      go_wp2_with fail
      go_ret2
      exact ⟨_, by rw [HR.out]; rfl, by rw [HR.out]; exact Byt.nil _, HG.out⟩
  · obtain ⟨k, hk⟩ : ∃ k : Nat, l.length = k + 4 := ⟨l.length - 4, by omega⟩
    have hk1 : (l.length : Int) - 4 = (k : Int) := by omega
    have hk2 : l.length - 4 = k := by omega
    have hk3 : k ≤ l.length := by omega
    have hk5 : k ≤ 70368744177664 := by omega
    have hk0 : ¬ ((k : Int) < 0) := by omega
    have hdl : (l.drop k).length = 4 := by rw [List.length_drop]; omega
    have hsl := sumC_lt (l.take k)
    have hws : IntKind.u64.wrap ((sumC (l.take k) : Nat) : Int) = (sumC (l.take k) : Nat) := wrap_u64 _ (by omega) (by omega)
    have hqr := checkC_app (l.take k) (l.drop k) hdl
    rw [List.take_append_drop] at hqr
    have hnf := number_four (l.drop k) hdl _ hsl
    have HQ : Hid ((l.take k).length ≤ 140737488355328) := by show _ ≤ _; rw [List.length_take]; omega
    clear h4 hl hk hk2 hdl hsl
    by_cases hE : number (l.drop k) = sumC (l.take k)
    · rw [if_pos (hnf.1 hE)] at hqr
      have HR := Lib.hid hqr
      clear hqr hnf
      go_enter Try.func21, Try.ntmps21
      go_wp2_with fail
      refine specs_region
        #[[], [0], [0, 1], [0, 1, 2], [0, 1, 2], [0, 1, 2, 3, 4], [0, 1, 2, 3, 4, 5], [0, 1, 2], [0, 1, 2], [0, 1, 2, 7, 8], [0, 1, 2, 7, 8, 9], [0, 1, 2, 3, 4, 5, 6, 7, 8, 9, 10], [0, 1, 2, 3, 4, 5, 6, 7, 8, 9, 10, 11], [0, 1, 2, 3, 4, 5, 6, 7, 8, 9, 10, 11, 12], [0, 1, 2, 3, 4, 5, 6, 7, 8, 9, 10, 11, 12, 13]]
        #[[4], [], [], [0], [4], [], [], [0], [4], [], [], [], [], [], []]
        #[true, true, true, true, true, true, true, true, true, true, true, true, true, true, true]
        #[.val (.int .i64 (k : Int)), .val (.bool false), .val (.bool false), .byt (l), .val (.int .i64 (k : Int)), .byt (((l : List UInt8).drop (k))), .val (.int .u64 ((number ((l : List UInt8).drop (k)) : Nat) : Int)), .byt (l), .val (.int .i64 (k : Int)), .byt (((l : List UInt8).take (k))), .bytl (([((l : List UInt8).take (k))] : List (List UInt8))), .val (.int .u32 ((sumC ((l : List UInt8).take (k)) : Nat) : Int)), .val (.int .u64 ((sumC ((l : List UInt8).take (k)) : Nat) : Int)), .val (.bool false), .val (.bool false)]
        hmx ?_ ?_ ?_ ?_
      · rfl
      · rfl
      · refine ⟨?_, ?_, ?_, ?_, ?_, ?_, ?_, ?_, ?_, ?_, ?_, ?_, ?_, ?_, ?_, trivial⟩
        · refine step_intro rfl rfl fun ρ X hc hf hgl hX hp ho => ?_
          change StepOk _ { dst := _, op := Op.move (Operand.tmp 4), type := _, pos := _, after := _, guard := _ } _ _ _
          have e4 : ρ (.tmp 4) = .int .i64 (k : Int) := ho 4 (by decide)
          have k4 := e4
          refine StepOk.of_run (v := .int .i64 (k : Int)) (w' := X) ?_ ⟨rfl, Below.refl _ _⟩
          simp [go_sem, execOp, hc, hf, k4]
        · refine step_intro rfl rfl fun ρ X hc hf hgl hX hp ho => ?_
          change StepOk _ { dst := _, op := Op.binOp BinOp.lss 3 (Operand.tmp 8) (Operand.const (Value.int IntKind.i64 0)) 3, type := _, pos := _, after := _, guard := _ } _ _ _
          have k8 : ρ (.tmp 8) = .int .i64 (k : Int) := hp 0 (by decide)
          refine StepOk.of_run (v := .bool false) (w' := X) ?_ ⟨rfl, Below.refl _ _⟩
          simp [go_sem, execOp, hc, hf, k8, hk0]
        · refine step_intro rfl rfl fun ρ X hc hf hgl hX hp ho => ?_
          change StepOk _ { dst := _, op := Op.move (Operand.tmp 9), type := _, pos := _, after := _, guard := _ } _ _ _
          have k9 : ρ (.tmp 9) = .bool false := hp 1 (by decide)
          refine StepOk.of_run (v := .bool false) (w' := X) ?_ ⟨rfl, Below.refl _ _⟩
          simp [go_sem, execOp, hc, hf, k9]
        · refine step_intro rfl rfl fun ρ X hc hf hgl hX hp ho => ?_
          change StepOk _ { dst := _, op := Op.move (Operand.tmp 0), type := _, pos := _, after := _, guard := _ } _ _ _
          have e0 : ρ (.tmp 0) = .slice a l.length cap := ho 0 (by decide)
          have k0 : Byt X (ρ (.tmp 0)) l := by rw [e0]; exact Byt.grows (H.out) hX
          refine StepOk.of_run (v := ρ (.tmp 0)) (w' := X) ?_ ⟨k0, Below.refl _ _⟩
          simp [go_sem, execOp]
        · refine step_intro rfl rfl fun ρ X hc hf hgl hX hp ho => ?_
          change StepOk _ { dst := _, op := Op.move (Operand.tmp 4), type := _, pos := _, after := _, guard := _ } _ _ _
          have e4 : ρ (.tmp 4) = .int .i64 (k : Int) := ho 4 (by decide)
          have k4 := e4
          refine StepOk.of_run (v := .int .i64 (k : Int)) (w' := X) ?_ ⟨rfl, Below.refl _ _⟩
          simp [go_sem, execOp, hc, hf, k4]
        · refine step_intro rfl rfl fun ρ X hc hf hgl hX hp ho => ?_
          change StepOk _ { dst := _, op := Op.slice 23 (Operand.tmp 11) (some (Operand.tmp 12)) none none, type := _, pos := _, after := _, guard := _ } _ _ _
          have k11 : Byt X (ρ (.tmp 11)) l := hp 3 (by decide)
          have k12 : ρ (.tmp 12) = .int .i64 (k : Int) := hp 4 (by decide)
          obtain ⟨aa, cc, hr, hbb⟩ := sliceFrom_byt (P := Try.prog) (T := 23) (L := k) (kl := .i64) rfl hi hz1 k11 hk3
          refine StepOk.of_run (v := .slice aa _ cc) (w' := X) ?_ ⟨hbb, Below.refl _ _⟩
          simp only [execOp, Option.map_some, Option.map_none, k12, hr, Sem.run_bind, Sem.run_pure, Result.andThen_ok]
        · refine step_intro rfl rfl fun ρ X hc hf hgl hX hp ho => ?_
          change StepOk _ { dst := _, op := Op.call { callee := Callee.value (Operand.func 22), args := #[Operand.tmp 13], argTypes := #[23] }, type := _, pos := _, after := _, guard := _ } _ _ _
          have k13 : Byt X (ρ (.tmp 13)) ((l : List UInt8).drop (k)) := hp 5 (by decide)
          refine StepOk.of_call (f := 22) (args := #[ρ (.tmp 13)]) (w' := X) ?_ (vNumber _ _ X k13) ?_
          · simp [go_sem, execOp, hc, hf]
          · rintro e w'' ⟨rfl, rfl⟩; exact ⟨_, rfl, rfl, Below.refl _ _⟩
        · refine step_intro rfl rfl fun ρ X hc hf hgl hX hp ho => ?_
          change StepOk _ { dst := _, op := Op.move (Operand.tmp 0), type := _, pos := _, after := _, guard := _ } _ _ _
          have e0 : ρ (.tmp 0) = .slice a l.length cap := ho 0 (by decide)
          have k0 : Byt X (ρ (.tmp 0)) l := by rw [e0]; exact Byt.grows (H.out) hX
          refine StepOk.of_run (v := ρ (.tmp 0)) (w' := X) ?_ ⟨k0, Below.refl _ _⟩
          simp [go_sem, execOp]
        · refine step_intro rfl rfl fun ρ X hc hf hgl hX hp ho => ?_
          change StepOk _ { dst := _, op := Op.move (Operand.tmp 4), type := _, pos := _, after := _, guard := _ } _ _ _
          have e4 : ρ (.tmp 4) = .int .i64 (k : Int) := ho 4 (by decide)
          have k4 := e4
          refine StepOk.of_run (v := .int .i64 (k : Int)) (w' := X) ?_ ⟨rfl, Below.refl _ _⟩
          simp [go_sem, execOp, hc, hf, k4]
        · refine step_intro rfl rfl fun ρ X hc hf hgl hX hp ho => ?_
          change StepOk _ { dst := _, op := Op.slice 23 (Operand.tmp 15) none (some (Operand.tmp 16)) none, type := _, pos := _, after := _, guard := _ } _ _ _
          have k15 : Byt X (ρ (.tmp 15)) l := hp 7 (by decide)
          have k16 : ρ (.tmp 16) = .int .i64 (k : Int) := hp 8 (by decide)
          obtain ⟨aa, cc, hr, hbb⟩ := sliceTo_byt (P := Try.prog) (T := 23) (H := k) (kh := .i64) rfl hi hz1 k15 hk3
          refine StepOk.of_run (v := .slice aa (k) cc) (w' := X) ?_ ⟨hbb, Below.refl _ _⟩
          simp only [execOp, Option.map_some, Option.map_none, k16, hr, Sem.run_bind, Sem.run_pure, Result.andThen_ok]
        · refine step_intro rfl rfl fun ρ X hc hf hgl hX hp ho => ?_
          change StepOk _ { dst := _, op := Op.buildSlice 54 1 #[(0, Operand.tmp 17)], type := _, pos := _, after := _, guard := _ } _ _ _
          have k17 : Byt X (ρ (.tmp 17)) ((l : List UInt8).take (k)) := hp 9 (by decide)
          obtain ⟨aa17, cc17, ee17⟩ := k17.slice
          refine StepOk.of_run (v := .slice (some ⟨X.heap.size, 0, none⟩) 1 1) (w' := X.alloc (.cells ([ρ (.tmp 17)] : List Value).toArray 23)) ?_ ⟨BytL.lit X 23 [ρ (.tmp 17)] [((l : List UInt8).take (k))] rfl (by simp [maxLen]) (fun i hi => match i, hi with | 0, _ => k17 | _ + 1, h => absurd h (by simp)), Grows.alloc' _ _⟩
          simp [go_sem, execOp, hc, ee17]
        · refine step_intro rfl rfl fun ρ X hc hf hgl hX hp ho => ?_
          change StepOk _ { dst := _, op := Op.call { callee := Callee.value (Operand.func 27), args := #[Operand.tmp 18], argTypes := #[54] }, type := _, pos := _, after := _, guard := _ } _ _ _
          have k18 : BytL X (ρ (.tmp 18)) ([((l : List UInt8).take (k))] : List (List UInt8)) := hp 10 (by decide)
          refine StepOk.of_call (f := 27) (args := #[ρ (.tmp 18)]) (w' := X) ?_ (vSum1 _ _ X k18) ?_
          · simp [go_sem, execOp, hc, hf]
          · rintro e w'' ⟨rfl, hg'⟩; exact ⟨_, rfl, rfl, hg'⟩
        · refine step_intro rfl rfl fun ρ X hc hf hgl hX hp ho => ?_
          change StepOk _ { dst := _, op := Op.convert 50 22 (Operand.tmp 19), type := _, pos := _, after := _, guard := _ } _ _ _
          have k19 : ρ (.tmp 19) = .int .u32 ((sumC ((l : List UInt8).take (k)) : Nat) : Int) := hp 11 (by decide)
          refine StepOk.of_run (v := .int .u64 ((sumC ((l : List UInt8).take (k)) : Nat) : Int)) (w' := X) ?_ ⟨rfl, Below.refl _ _⟩
          simp [go_sem, execOp, hc, hf, k19, hws]
        · refine step_intro rfl rfl fun ρ X hc hf hgl hX hp ho => ?_
          change StepOk _ { dst := _, op := Op.binOp BinOp.neq 22 (Operand.tmp 14) (Operand.tmp 20) 22, type := _, pos := _, after := _, guard := _ } _ _ _
          have k14 : ρ (.tmp 14) = .int .u64 ((number ((l : List UInt8).drop (k)) : Nat) : Int) := hp 6 (by decide)
          have k20 : ρ (.tmp 20) = .int .u64 ((sumC ((l : List UInt8).take (k)) : Nat) : Int) := hp 12 (by decide)
          refine StepOk.of_run (v := .bool false) (w' := X) ?_ ⟨rfl, Below.refl _ _⟩
          simp [go_sem, execOp, hc, hf, k14, k20, hE]
        · refine step_intro rfl rfl fun ρ X hc hf hgl hX hp ho => ?_
          change StepOk _ { dst := _, op := Op.pick (Operand.tmp 10) (Operand.const (Value.bool true)) (Operand.tmp 21), type := _, pos := _, after := _, guard := _ } _ _ _
          have k10 : ρ (.tmp 10) = .bool false := hp 2 (by decide)
          have k21 : ρ (.tmp 21) = .bool false := hp 13 (by decide)
          refine StepOk.of_run (v := .bool false) (w' := X) ?_ ⟨rfl, Below.refl _ _⟩
          simp [go_sem, execOp, hc, hf, k10, k21]
      · intro a W hb
        have k22 : a.tmps.getD 22 undef = .bool false := hb.done' 14 22 rfl rfl
        have k0 : a.tmps.getD 0 undef = .slice _ l.length cap := hb.orig' 0 rfl
        have k4 : a.tmps.getD 4 undef = .int .i64 (k : Int) := hb.orig' 4 rfl
        have hG := hb.ext
        have ha : a = { tmps := [a.tmps.getD 0 undef, a.tmps.getD 1 undef, a.tmps.getD 2 undef, a.tmps.getD 3 undef, a.tmps.getD 4 undef, a.tmps.getD 5 undef, a.tmps.getD 6 undef, a.tmps.getD 7 undef, a.tmps.getD 8 undef, a.tmps.getD 9 undef, a.tmps.getD 10 undef, a.tmps.getD 11 undef, a.tmps.getD 12 undef, a.tmps.getD 13 undef, a.tmps.getD 14 undef, a.tmps.getD 15 undef, a.tmps.getD 16 undef, a.tmps.getD 17 undef, a.tmps.getD 18 undef, a.tmps.getD 19 undef, a.tmps.getD 20 undef, a.tmps.getD 21 undef, a.tmps.getD 22 undef, a.tmps.getD 23 undef, a.tmps.getD 24 undef, a.tmps.getD 25 undef, a.tmps.getD 26 undef].toArray, defers := [] } := frame_eq ⟨rfl, rfl, rfl, rfl, rfl, rfl, rfl, rfl, rfl, rfl, rfl, rfl, rfl, rfl, rfl, rfl, rfl, rfl, rfl, rfl, rfl, rfl, rfl, rfl, rfl, rfl, rfl, trivial⟩ (hb.size.trans rfl) (hb.defers.trans rfl)
        rw [k0, k4, k22] at ha
        generalize a.tmps.getD 1 undef = y1 at ha
        generalize a.tmps.getD 2 undef = y2 at ha
        generalize a.tmps.getD 3 undef = y3 at ha
        generalize a.tmps.getD 5 undef = y5 at ha
        generalize a.tmps.getD 6 undef = y6 at ha
        generalize a.tmps.getD 7 undef = y7 at ha
        generalize a.tmps.getD 8 undef = y8 at ha
        generalize a.tmps.getD 9 undef = y9 at ha
        generalize a.tmps.getD 10 undef = y10 at ha
        generalize a.tmps.getD 11 undef = y11 at ha
        generalize a.tmps.getD 12 undef = y12 at ha
        generalize a.tmps.getD 13 undef = y13 at ha
        generalize a.tmps.getD 14 undef = y14 at ha
        generalize a.tmps.getD 15 undef = y15 at ha
        generalize a.tmps.getD 16 undef = y16 at ha
        generalize a.tmps.getD 17 undef = y17 at ha
        generalize a.tmps.getD 18 undef = y18 at ha
        generalize a.tmps.getD 19 undef = y19 at ha
        generalize a.tmps.getD 20 undef = y20 at ha
        generalize a.tmps.getD 21 undef = y21 at ha
        generalize a.tmps.getD 23 undef = y23 at ha
        generalize a.tmps.getD 24 undef = y24 at ha
        generalize a.tmps.getD 25 undef = y25 at ha
        generalize a.tmps.getD 26 undef = y26 at ha
        subst ha
        have HG := Lib.hid hG
        clear hG
        clear hb
        go_wp2_with (refine wpList_sliceTo rfl _ _ 23 i0 rfl Try.underlying23 hi hz1 (.slice _ l.length cap) l rfl (H.out.grows HG.out) k .i64 rfl hk3 ?_; intro a1 c1 hb1)
        refine (clone_any _ _ _ hb1 HQ.out).mono ?_
        rintro e w1 ⟨v1, rfl, hown1, hg1⟩
        go_wp2
        go_ret2
        exact ⟨_, by rw [HR.out]; rfl, by rw [HR.out]; exact hown1.byt, Grows.trans' HG.out hg1⟩
    · have hEI : ¬ ((number (l.drop k) : Nat) : Int) = ((sumC (l.take k) : Nat) : Int) := by omega
      rw [if_neg (fun h => hE (hnf.2 h))] at hqr
      have HR := Lib.hid hqr
      clear hqr hnf
      go_enter Try.func21, Try.ntmps21
      go_wp2_with fail
      refine specs_region
        #[[], [0], [0, 1], [0, 1, 2], [0, 1, 2], [0, 1, 2, 3, 4], [0, 1, 2, 3, 4, 5], [0, 1, 2], [0, 1, 2], [0, 1, 2, 7, 8], [0, 1, 2, 7, 8, 9], [0, 1, 2, 3, 4, 5, 6, 7, 8, 9, 10], [0, 1, 2, 3, 4, 5, 6, 7, 8, 9, 10, 11], [0, 1, 2, 3, 4, 5, 6, 7, 8, 9, 10, 11, 12], [0, 1, 2, 3, 4, 5, 6, 7, 8, 9, 10, 11, 12, 13]]
        #[[4], [], [], [0], [4], [], [], [0], [4], [], [], [], [], [], []]
        #[true, true, true, true, true, true, true, true, true, true, true, true, true, true, true]
        #[.val (.int .i64 (k : Int)), .val (.bool false), .val (.bool false), .byt (l), .val (.int .i64 (k : Int)), .byt (((l : List UInt8).drop (k))), .val (.int .u64 ((number ((l : List UInt8).drop (k)) : Nat) : Int)), .byt (l), .val (.int .i64 (k : Int)), .byt (((l : List UInt8).take (k))), .bytl (([((l : List UInt8).take (k))] : List (List UInt8))), .val (.int .u32 ((sumC ((l : List UInt8).take (k)) : Nat) : Int)), .val (.int .u64 ((sumC ((l : List UInt8).take (k)) : Nat) : Int)), .val (.bool true), .val (.bool true)]
        hmx ?_ ?_ ?_ ?_
      · rfl
      · rfl
      · refine ⟨?_, ?_, ?_, ?_, ?_, ?_, ?_, ?_, ?_, ?_, ?_, ?_, ?_, ?_, ?_, trivial⟩
        · refine step_intro rfl rfl fun ρ X hc hf hgl hX hp ho => ?_
          change StepOk _ { dst := _, op := Op.move (Operand.tmp 4), type := _, pos := _, after := _, guard := _ } _ _ _
          have e4 : ρ (.tmp 4) = .int .i64 (k : Int) := ho 4 (by decide)
          have k4 := e4
          refine StepOk.of_run (v := .int .i64 (k : Int)) (w' := X) ?_ ⟨rfl, Below.refl _ _⟩
          simp [go_sem, execOp, hc, hf, k4]
        · refine step_intro rfl rfl fun ρ X hc hf hgl hX hp ho => ?_
          change StepOk _ { dst := _, op := Op.binOp BinOp.lss 3 (Operand.tmp 8) (Operand.const (Value.int IntKind.i64 0)) 3, type := _, pos := _, after := _, guard := _ } _ _ _
          have k8 : ρ (.tmp 8) = .int .i64 (k : Int) := hp 0 (by decide)
          refine StepOk.of_run (v := .bool false) (w' := X) ?_ ⟨rfl, Below.refl _ _⟩
          simp [go_sem, execOp, hc, hf, k8, hk0]
        · refine step_intro rfl rfl fun ρ X hc hf hgl hX hp ho => ?_
          change StepOk _ { dst := _, op := Op.move (Operand.tmp 9), type := _, pos := _, after := _, guard := _ } _ _ _
          have k9 : ρ (.tmp 9) = .bool false := hp 1 (by decide)
          refine StepOk.of_run (v := .bool false) (w' := X) ?_ ⟨rfl, Below.refl _ _⟩
          simp [go_sem, execOp, hc, hf, k9]
        · refine step_intro rfl rfl fun ρ X hc hf hgl hX hp ho => ?_
          change StepOk _ { dst := _, op := Op.move (Operand.tmp 0), type := _, pos := _, after := _, guard := _ } _ _ _
          have e0 : ρ (.tmp 0) = .slice a l.length cap := ho 0 (by decide)
          have k0 : Byt X (ρ (.tmp 0)) l := by rw [e0]; exact Byt.grows (H.out) hX
          refine StepOk.of_run (v := ρ (.tmp 0)) (w' := X) ?_ ⟨k0, Below.refl _ _⟩
          simp [go_sem, execOp]
        · refine step_intro rfl rfl fun ρ X hc hf hgl hX hp ho => ?_
          change StepOk _ { dst := _, op := Op.move (Operand.tmp 4), type := _, pos := _, after := _, guard := _ } _ _ _
          have e4 : ρ (.tmp 4) = .int .i64 (k : Int) := ho 4 (by decide)
          have k4 := e4
          refine StepOk.of_run (v := .int .i64 (k : Int)) (w' := X) ?_ ⟨rfl, Below.refl _ _⟩
          simp [go_sem, execOp, hc, hf, k4]
        · refine step_intro rfl rfl fun ρ X hc hf hgl hX hp ho => ?_
          change StepOk _ { dst := _, op := Op.slice 23 (Operand.tmp 11) (some (Operand.tmp 12)) none none, type := _, pos := _, after := _, guard := _ } _ _ _
          have k11 : Byt X (ρ (.tmp 11)) l := hp 3 (by decide)
          have k12 : ρ (.tmp 12) = .int .i64 (k : Int) := hp 4 (by decide)
          obtain ⟨aa, cc, hr, hbb⟩ := sliceFrom_byt (P := Try.prog) (T := 23) (L := k) (kl := .i64) rfl hi hz1 k11 hk3
          refine StepOk.of_run (v := .slice aa _ cc) (w' := X) ?_ ⟨hbb, Below.refl _ _⟩
          simp only [execOp, Option.map_some, Option.map_none, k12, hr, Sem.run_bind, Sem.run_pure, Result.andThen_ok]
        · refine step_intro rfl rfl fun ρ X hc hf hgl hX hp ho => ?_
          change StepOk _ { dst := _, op := Op.call { callee := Callee.value (Operand.func 22), args := #[Operand.tmp 13], argTypes := #[23] }, type := _, pos := _, after := _, guard := _ } _ _ _
          have k13 : Byt X (ρ (.tmp 13)) ((l : List UInt8).drop (k)) := hp 5 (by decide)
          refine StepOk.of_call (f := 22) (args := #[ρ (.tmp 13)]) (w' := X) ?_ (vNumber _ _ X k13) ?_
          · simp [go_sem, execOp, hc, hf]
          · rintro e w'' ⟨rfl, rfl⟩; exact ⟨_, rfl, rfl, Below.refl _ _⟩
        · refine step_intro rfl rfl fun ρ X hc hf hgl hX hp ho => ?_
          change StepOk _ { dst := _, op := Op.move (Operand.tmp 0), type := _, pos := _, after := _, guard := _ } _ _ _
          have e0 : ρ (.tmp 0) = .slice a l.length cap := ho 0 (by decide)
          have k0 : Byt X (ρ (.tmp 0)) l := by rw [e0]; exact Byt.grows (H.out) hX
          refine StepOk.of_run (v := ρ (.tmp 0)) (w' := X) ?_ ⟨k0, Below.refl _ _⟩
          simp [go_sem, execOp]
        · refine step_intro rfl rfl fun ρ X hc hf hgl hX hp ho => ?_
          change StepOk _ { dst := _, op := Op.move (Operand.tmp 4), type := _, pos := _, after := _, guard := _ } _ _ _
          have e4 : ρ (.tmp 4) = .int .i64 (k : Int) := ho 4 (by decide)
          have k4 := e4
          refine StepOk.of_run (v := .int .i64 (k : Int)) (w' := X) ?_ ⟨rfl, Below.refl _ _⟩
          simp [go_sem, execOp, hc, hf, k4]
        · refine step_intro rfl rfl fun ρ X hc hf hgl hX hp ho => ?_
          change StepOk _ { dst := _, op := Op.slice 23 (Operand.tmp 15) none (some (Operand.tmp 16)) none, type := _, pos := _, after := _, guard := _ } _ _ _
          have k15 : Byt X (ρ (.tmp 15)) l := hp 7 (by decide)
          have k16 : ρ (.tmp 16) = .int .i64 (k : Int) := hp 8 (by decide)
          obtain ⟨aa, cc, hr, hbb⟩ := sliceTo_byt (P := Try.prog) (T := 23) (H := k) (kh := .i64) rfl hi hz1 k15 hk3
          refine StepOk.of_run (v := .slice aa (k) cc) (w' := X) ?_ ⟨hbb, Below.refl _ _⟩
          simp only [execOp, Option.map_some, Option.map_none, k16, hr, Sem.run_bind, Sem.run_pure, Result.andThen_ok]
        · refine step_intro rfl rfl fun ρ X hc hf hgl hX hp ho => ?_
          change StepOk _ { dst := _, op := Op.buildSlice 54 1 #[(0, Operand.tmp 17)], type := _, pos := _, after := _, guard := _ } _ _ _
          have k17 : Byt X (ρ (.tmp 17)) ((l : List UInt8).take (k)) := hp 9 (by decide)
          obtain ⟨aa17, cc17, ee17⟩ := k17.slice
          refine StepOk.of_run (v := .slice (some ⟨X.heap.size, 0, none⟩) 1 1) (w' := X.alloc (.cells ([ρ (.tmp 17)] : List Value).toArray 23)) ?_ ⟨BytL.lit X 23 [ρ (.tmp 17)] [((l : List UInt8).take (k))] rfl (by simp [maxLen]) (fun i hi => match i, hi with | 0, _ => k17 | _ + 1, h => absurd h (by simp)), Grows.alloc' _ _⟩
          simp [go_sem, execOp, hc, ee17]
        · refine step_intro rfl rfl fun ρ X hc hf hgl hX hp ho => ?_
          change StepOk _ { dst := _, op := Op.call { callee := Callee.value (Operand.func 27), args := #[Operand.tmp 18], argTypes := #[54] }, type := _, pos := _, after := _, guard := _ } _ _ _
          have k18 : BytL X (ρ (.tmp 18)) ([((l : List UInt8).take (k))] : List (List UInt8)) := hp 10 (by decide)
          refine StepOk.of_call (f := 27) (args := #[ρ (.tmp 18)]) (w' := X) ?_ (vSum1 _ _ X k18) ?_
          · simp [go_sem, execOp, hc, hf]
          · rintro e w'' ⟨rfl, hg'⟩; exact ⟨_, rfl, rfl, hg'⟩
        · refine step_intro rfl rfl fun ρ X hc hf hgl hX hp ho => ?_
          change StepOk _ { dst := _, op := Op.convert 50 22 (Operand.tmp 19), type := _, pos := _, after := _, guard := _ } _ _ _
          have k19 : ρ (.tmp 19) = .int .u32 ((sumC ((l : List UInt8).take (k)) : Nat) : Int) := hp 11 (by decide)
          refine StepOk.of_run (v := .int .u64 ((sumC ((l : List UInt8).take (k)) : Nat) : Int)) (w' := X) ?_ ⟨rfl, Below.refl _ _⟩
          simp [go_sem, execOp, hc, hf, k19, hws]
        · refine step_intro rfl rfl fun ρ X hc hf hgl hX hp ho => ?_
          change StepOk _ { dst := _, op := Op.binOp BinOp.neq 22 (Operand.tmp 14) (Operand.tmp 20) 22, type := _, pos := _, after := _, guard := _ } _ _ _
          have k14 : ρ (.tmp 14) = .int .u64 ((number ((l : List UInt8).drop (k)) : Nat) : Int) := hp 6 (by decide)
          have k20 : ρ (.tmp 20) = .int .u64 ((sumC ((l : List UInt8).take (k)) : Nat) : Int) := hp 12 (by decide)
          refine StepOk.of_run (v := .bool true) (w' := X) ?_ ⟨rfl, Below.refl _ _⟩
          simp [go_sem, execOp, hc, hf, k14, k20, hEI]
        · refine step_intro rfl rfl fun ρ X hc hf hgl hX hp ho => ?_
          change StepOk _ { dst := _, op := Op.pick (Operand.tmp 10) (Operand.const (Value.bool true)) (Operand.tmp 21), type := _, pos := _, after := _, guard := _ } _ _ _
          have k10 : ρ (.tmp 10) = .bool false := hp 2 (by decide)
          have k21 : ρ (.tmp 21) = .bool true := hp 13 (by decide)
          refine StepOk.of_run (v := .bool true) (w' := X) ?_ ⟨rfl, Below.refl _ _⟩
          simp [go_sem, execOp, hc, hf, k10, k21]
      · intro a W hb
        have k22 : a.tmps.getD 22 undef = .bool true := hb.done' 14 22 rfl rfl
        have hG := hb.ext
        have ha : a = { tmps := [a.tmps.getD 0 undef, a.tmps.getD 1 undef, a.tmps.getD 2 undef, a.tmps.getD 3 undef, a.tmps.getD 4 undef, a.tmps.getD 5 undef, a.tmps.getD 6 undef, a.tmps.getD 7 undef, a.tmps.getD 8 undef, a.tmps.getD 9 undef, a.tmps.getD 10 undef, a.tmps.getD 11 undef, a.tmps.getD 12 undef, a.tmps.getD 13 undef, a.tmps.getD 14 undef, a.tmps.getD 15 undef, a.tmps.getD 16 undef, a.tmps.getD 17 undef, a.tmps.getD 18 undef, a.tmps.getD 19 undef, a.tmps.getD 20 undef, a.tmps.getD 21 undef, a.tmps.getD 22 undef, a.tmps.getD 23 undef, a.tmps.getD 24 undef, a.tmps.getD 25 undef, a.tmps.getD 26 undef].toArray, defers := [] } := frame_eq ⟨rfl, rfl, rfl, rfl, rfl, rfl, rfl, rfl, rfl, rfl, rfl, rfl, rfl, rfl, rfl, rfl, rfl, rfl, rfl, rfl, rfl, rfl, rfl, rfl, rfl, rfl, rfl, trivial⟩ (hb.size.trans rfl) (hb.defers.trans rfl)
        rw [k22] at ha
        generalize a.tmps.getD 0 undef = y0 at ha
        generalize a.tmps.getD 1 undef = y1 at ha
        generalize a.tmps.getD 2 undef = y2 at ha
        generalize a.tmps.getD 3 undef = y3 at ha
        generalize a.tmps.getD 4 undef = y4 at ha
        generalize a.tmps.getD 5 undef = y5 at ha
        generalize a.tmps.getD 6 undef = y6 at ha
        generalize a.tmps.getD 7 undef = y7 at ha
        generalize a.tmps.getD 8 undef = y8 at ha
        generalize a.tmps.getD 9 undef = y9 at ha
        generalize a.tmps.getD 10 undef = y10 at ha
        generalize a.tmps.getD 11 undef = y11 at ha
        generalize a.tmps.getD 12 undef = y12 at ha
        generalize a.tmps.getD 13 undef = y13 at ha
        generalize a.tmps.getD 14 undef = y14 at ha
        generalize a.tmps.getD 15 undef = y15 at ha
        generalize a.tmps.getD 16 undef = y16 at ha
        generalize a.tmps.getD 17 undef = y17 at ha
        generalize a.tmps.getD 18 undef = y18 at ha
        generalize a.tmps.getD 19 undef = y19 at ha
        generalize a.tmps.getD 20 undef = y20 at ha
        generalize a.tmps.getD 21 undef = y21 at ha
        generalize a.tmps.getD 23 undef = y23 at ha
        generalize a.tmps.getD 24 undef = y24 at ha
        generalize a.tmps.getD 25 undef = y25 at ha
        generalize a.tmps.getD 26 undef = y26 at ha
        subst ha
        have HG := Lib.hid hG
        clear hG
        clear hb
        go_wp2_with fail
        go_ret2
        exact ⟨_, by rw [HR.out]; rfl, by rw [HR.out]; exact Byt.nil _, HG.out⟩
end Go.Proofs.Ytfgnniajancpcaa
