import Derived.Test.YtoppcpiheaedlaaGreatDoorChecked
import Derived.Test.YtoppcpiheaedlaaGreatDoorGen
import Derived.Test.YtoppcpiheaedlaaGreatDoorVintF
import Derived.Maps.AppendAt
import Derived.RangeFuncBox
import Derived.RangeFuncLeaves
import Derived.Shelf.Abstract
import Derived.OwnWalkIn
import Derived.TacticsInMore
import Derived.LoopNIn
import Derived.LoopIn
import Derived.LoopTactic
import Derived.Outline
import Derived.Laws.BitsAllLaws
import Derived.Shelf.RegionOpen
import Derived.RangeFuncNested
import Derived.WalkSpells
section
/-
  Contracts of Put, of the program and of the document's own answer.
-/
namespace Go.Proofs.YtoppcpiheaedlaaGreatDoor
open Go.RowKit



set_option maxRecDepth 100000 in
set_option maxHeartbeats 400000 in
theorem refPut (n : Nat) (hn : n < 18446744073709551616) (w : World) :
    Calls Tryz.prog 64 #[.int .u64 n] w fun e w' => ∃ v, e = .returned v ∧ Own 5 w.heap.size w' v (put n) ∧ Grows w w' := by
  obtain ⟨i0, hi, hz0, hz1, hz2⟩ := info_parts info5
  have Hn := Lib.hid hn
  clear hn
  go_enter Tryz.func64, Tryz.ntmps64
  go_wp2_with fail
  go_loopw [0, 3] (fun t v wr => ∃ (k m : Nat) (pre : List UInt8), t = .int .u64 m ∧ m ≤ n ∧ k ≤ 9 ∧ pre.length + k = 9 ∧ put n = pre ++ putL k m ∧ m < 128 ^ (k + 1) ∧ Own 5 w.heap.size wr v pre ∧ Grows w wr)
    (fun t _ _ => (intOf t).toNat)
  case atStart => exact ⟨9, n, [], rfl, Nat.le_refl _, Nat.le_refl _, rfl, rfl, by have := Hn.out; omega, Own.nil _ _ _, Below.refl _ _⟩
  case round =>
    obtain ⟨k, m, pre, rfl, hm, hk, hpk, hput, hmk, hown, hB⟩ := hrel
    by_cases h : m < 128
    · go_wp2_with (at_builtin; refine wpList_push rfl _ _ 36 5 i0 rfl Tryz.underlying36 hi hz0 hz1 hz2 w.heap.size _ pre rfl (hown.alloc _) wr.heap.size 1 rfl _ (cell_lit _ _ _) (UInt8.ofNat m) (byteE m _ (by omega) (by omega)) (by omega) (by have := hB.size; simp; omega) ?_; intro v' w1 hown' hgrow)
      go_ret
      exact ⟨_, rfl, by rw [hput, putL_lt _ _ h]; exact hown', grows_push hB hown hB.size hgrow⟩
    · have hk1 : 1 ≤ k := by
        rcases k with _ | k
        · simp at hmk; omega
        · omega
      obtain ⟨k, rfl⟩ : ∃ j, k = j + 1 := ⟨k - 1, by omega⟩
      have hw : IntKind.u64.wrap ((m : Int) / 128) = (m : Int) / 128 := wrap_u64 _ (by omega) (by have := Hn.out; omega)
      go_wp2_with (at_builtin; refine wpList_push rfl _ _ 36 5 i0 rfl Tryz.underlying36 hi hz0 hz1 hz2 w.heap.size _ pre rfl (hown.alloc _) wr.heap.size 1 rfl _ (cell_lit _ _ _) (UInt8.ofNat (m % 128 + 128)) (byteE (m % 128 + 128) _ (by omega) (by omega)) (by omega) (by have := hB.size; simp; omega) ?_; intro v' w1 hown' hgrow)
      go_roundw
      case rel => exact ⟨k, m / 128, pre ++ [UInt8.ofNat (m % 128 + 128)], by simp, by omega, by omega, by simp; omega, by rw [hput, putL_ge _ _ h]; simp, by rw [Nat.pow_succ] at hmk; omega, hown', grows_push hB hown hB.size hgrow⟩
      case measure => simp [intOf]; omega
end Go.Proofs.YtoppcpiheaedlaaGreatDoor
end

section
/-
  The contract of vint.Put: a range over a function.
-/
namespace Go.Proofs.YtoppcpiheaedlaaGreatDoor
open Go.RowKit Go.Shelf

attribute [local go_sem] Oper.semAt_some

theorem or128 (m : Nat) : bits BinOp.or IntKind.u8 ((m : Int) % 256) 128 = (m : Int) % 128 + 128 := by
  have key : ∀ x : Fin 256, bits BinOp.or IntKind.u8 ((x.val : Int)) 128 = (x.val : Int) % 128 + 128 := by decide +kernel
  have h := key ⟨m % 256, by omega⟩
  simp only at h
  rw [show ((m : Int) % 256) = ((m % 256 : Nat) : Int) from by omega, h]
  omega

set_option maxRecDepth 100000 in
set_option maxHeartbeats 1000000 in
theorem groups1_in (F : Fence) (n : Nat) (hF : F.fn 111) (hro : F.round = none) (hn : 1 ≤ n) (l Bn n₀ : Nat) (N : Nat) (hN : N < 18446744073709551616) (J Jx : List Int → World → Prop)
    (hY : ∀ pre x W, J pre W → pre.length < 10 → YieldAt F (n - 1) Tryz.prog l #[.int .u8 x] W fun e W' =>
      (e = .returned (.bool true) ∧ J (pre ++ [x]) W' ∧ Below n₀ W W') ∨ (e = .returned (.bool false) ∧ Jx (pre ++ [x]) W'))
    (W : World) (hBn : W.cell? ⟨Bn, 0, none⟩ = some (.int .u64 N)) (h0 : J [] W) :
    CallsIn F n Tryz.prog 111 #[.func (.yield l) #[] #[], .pointer (some ⟨Bn, 0, none⟩)] W fun e W' => (∃ v, e = .returned v) ∧
      ((∃ ys, ys = putI 9 N ∧ J ys W') ∨ (∃ pre, pre <+: putI 9 N ∧ Jx pre W')) := by
  have HN := Lib.hid hN
  clear hN
  refine callsIn_of_wp Tryz.func111 rfl hF ?_ hro
  simp only [Tryz.ntmps111, List.size_toArray, List.length_cons, List.length_nil, Nat.reduceAdd, Nat.reduceSub, Array.replicate_succ, Array.replicate_zero, List.push_toArray, List.append_toArray, List.nil_append, List.cons_append]
  gi_wp2
  gi_loopw [3] (fun p wr => ∃ (k m : Nat) (pre : List Int), p = .int .u64 m ∧ m ≤ N ∧ k ≤ 9 ∧ pre.length + k = 9 ∧ putI 9 N = pre ++ putI k m ∧ m < 128 ^ (k + 1) ∧ J pre wr)
    (fun p _ => (intOf p).toNat)
  case atStart => exact ⟨9, N, [], rfl, Nat.le_refl _, Nat.le_refl _, rfl, rfl, by have := HN.out; omega, h0⟩
  case round =>
    obtain ⟨k, m, pre, rfl, hm, hk, hpk, hput, hmk, hJ⟩ := hrel
    by_cases h : m < 128
    · obtain ⟨fn, tmps, assign, body, hy, hR⟩ := hY pre (m : Int) wr hJ (by omega)
      gi_wp2
      refine hR.mono ?_
      rintro e W3 (⟨rfl, hJ3, _⟩ | ⟨rfl, hJx3⟩)
      · gi_wp2
        go_end0
        exact ⟨⟨_, rfl⟩, .inl ⟨_, by rw [hput, putI_lt _ _ h], hJ3⟩⟩
      · gi_wp2
        go_end0
        exact ⟨⟨_, rfl⟩, .inr ⟨pre ++ [(m : Int)], by rw [hput, putI_lt _ _ h]; exact List.prefix_refl _, hJx3⟩⟩
    · have hk1 : 1 ≤ k := by
        rcases k with _ | k
        · simp at hmk; omega
        · omega
      obtain ⟨k, rfl⟩ : ∃ j, k = j + 1 := ⟨k - 1, by omega⟩
      obtain ⟨fn, tmps, assign, body, hy, hR⟩ := hY pre ((m : Int) % 128 + 128) wr hJ (by omega)
      have hor := or128 m
      gi_wp2
      refine hR.mono ?_
      rintro e W3 (⟨rfl, hJ3, _⟩ | ⟨rfl, hJx3⟩)
      · gi_wp2
        go_roundw
        case rel => exact ⟨k, m / 128, pre ++ [(m : Int) % 128 + 128], by simp, by omega, by omega, by simp; omega, by rw [hput, putI_ge _ _ h]; simp, by rw [Nat.pow_succ] at hmk; omega, hJ3⟩
        case measure => simp [intOf]; omega
      · gi_wp2
        refine bodyPost_ret (results_none rfl _ _ _) rfl ?_
        exact ⟨⟨_, rfl⟩, .inr ⟨pre ++ [(m : Int) % 128 + 128], by rw [hput, putI_ge _ _ h]; exact ⟨_, by simp; rfl⟩, hJx3⟩⟩

set_option maxHeartbeats 1000000 in
theorem groups_in (F : Fence) (n : Nat) (hF : F.fn 95) (hro : F.round = none) (N : Int) (w : World) :
    CallsIn F n Tryz.prog 95 #[.int .u64 N] w fun e w' => e = .returned (.func (.func 111) #[] #[.pointer (some ⟨w.heap.size, 0, none⟩)]) ∧ w' = w.alloc (.cells #[.int .u64 N] 123) := by
  have hmf : ∀ (fn : Fn) (first cap : Array Value) (w : World), (Instr.makeFunc fn first cap).run Tryz.prog w = .ok (.func fn first cap) w := fun _ _ _ _ => rfl
  refine callsIn_of_wp Tryz.func95 rfl hF ?_ hro
  simp only [Tryz.ntmps95, List.size_toArray, List.length_cons, List.length_nil, Nat.reduceAdd, Nat.reduceSub, Array.replicate_succ, Array.replicate_zero, List.push_toArray, List.append_toArray, List.nil_append, List.cons_append]
  gi_wp2
  go_ret
  exact ⟨rfl, rfl⟩

theorem groups_stops (F : Fence) (n : Nat) (hF : F.fn 111) (hro : F.round = none) (hn : 1 ≤ n) (Bn n₀ : Nat) (N : Nat) (hN : N < 18446744073709551616) (w : World) (hBn : Bn < w.heap.size)
    (hc : w.cell? ⟨Bn, 0, none⟩ = some (.int .u64 N)) :
    SeqStopsK F n Tryz.prog 111 #[.pointer (some ⟨Bn, 0, none⟩)] (fun x : Int => #[Value.int .u8 x]) (Below n₀) (fun ys => ys = putI 9 N) (fun pre => pre <+: putI 9 N) 10 w := fun l J Jx W hW _ _ hY h0 =>
  groups1_in F n hF hro hn l Bn n₀ N hN J Jx hY W ((hW.cell (p := ⟨Bn, 0, none⟩) hBn).trans hc) h0

set_option maxRecDepth 100000 in
set_option maxHeartbeats 2000000 in
theorem put_in (F : Fence) (n : Nat) (h3 : F.fn 60) (h4 : F.fn 95) (h5 : F.fn 111) (hro : F.round = none) (hn : 3 ≤ n) (N : Nat) (hN : N < 18446744073709551616) (w : World) :
    CallsIn F n Tryz.prog 60 #[.int .u64 N] w fun e W' => ∃ v, e = .returned v ∧ W'.ownsRow w.heap.size 5 1 v (putI 9 N).length ((putI 9 N).map (Value.int .u8)) ∧ Below w.heap.size w W' := by
  have h1 : 1 ≤ n := by omega
  have HN := Lib.hid hN
  clear hN
  obtain ⟨i0, hi, hz0, hz1, hz2⟩ := info_parts info5
  refine callsIn_of_wp_marks Tryz.func60 rfl h3 ?_ hro
  simp only [Tryz.ntmps60, List.size_toArray, List.length_cons, List.length_nil, Nat.reduceAdd, Nat.reduceSub, Array.replicate_succ, Array.replicate_zero, List.push_toArray, List.append_toArray, List.nil_append, List.cons_append]
  gi_wp2_with (gi_at_call 95; refine (groups_in F (n - 1) h4 hro _ _).mono ?_; rintro e w' ⟨rfl, rfl⟩)
  have bO := Boxed.new w 36 (.slice none 0 0)
  have bN := Boxed.new (w.alloc (.cells #[.slice none 0 0] 36)) 123 (.int .u64 N)
  rw [World.size_alloc] at bN
  have hB0 : Below w.heap.size w ((w.alloc (.cells #[.slice none 0 0] 36)).alloc (.cells #[.int .u64 N] 123)) := ((Below.refl _ w).alloc (Nat.le_refl _) _).alloc (by simp) _
  refine wpIn_rangeFunc_ownG hro h1 (gf := 111) (lb := #[.pointer (some ⟨w.heap.size + 1, 0, none⟩)]) rfl h5 (enters_of Tryz.func111 (by kernel_rfl) rfl)
    (groups_stops F (n - 1) h5 hro (by omega) (w.heap.size + 1) w.heap.size N HN.out _ (by simp) bN.cell) belowK_t (belowK_b (by simp; omega)) (Below.refl _ _) (fun _ => rfl)
    (fun pre W => (∃ v, Boxed W w.heap.size 36 v ∧ W.ownsRow w.heap.size 5 1 v pre.length (pre.map (Value.int .u8)) ∧ True) ∧ Below w.heap.size w W)
    (fun _ _ _ => False)
    (OwnFrom.and (Own.from (holdsRow_own w.heap.size w.heap.size 36 5 1 (fun pre : List Int => pre.length) (fun pre => pre.map (Value.int .u8)) (fun _ _ => True)) _) (ownFrom_below (Nat.le_refl _) (by simp; omega)))
    (fun _ _ _ _ _ hs _ _ => hs)
    ⟨⟨_, bO.alloc _, World.ownsRow_nil _ _ _ _, trivial⟩, hB0⟩
    (fun x => { tmps := #[.int .u64 N, undef, .slice none 0 0, .pointer (some ⟨w.heap.size, 0, none⟩), .int .u8 x, .int .u64 N, .func (.func 111) #[] #[.pointer (some ⟨w.heap.size + 1, 0, none⟩)], .int .u8 x, undef, undef, undef, undef, undef], defers := [] }) ?assign ?body ?done ?stop
  case assign =>
    intro l x W K hK
    gi_wp2
    exact hK
  case body =>
    rintro l pre x W ⟨⟨v, hv, hrow, _⟩, hB⟩ hlt
    have hc := hv.cell
    gi_wp2_with (gi_at_builtin; refine wpListIn_append_own _ rfl _ _ 36 rfl w.heap.size 5 i0 (.int .u8 0) 1 1 Tryz.underlying36 hi hz0 hz1 hz2 rfl (by decide) _ _ _ rfl (hrow.alloc _) ⟨W.heap.size, 0, none⟩ 1 1 [.int .u8 x] rfl rfl (cell_one_new _ _ _) (by simp [Value.oneCell']) (by unfold maxLen; omega) (by omega) (by have := hB.size; simp; omega) ?_; intro v' w1 hown' hgrow _; obtain ⟨g', cap', rfl⟩ := ownsRow_succ hown'; obtain ⟨hv1, hv2, hr2, hk2, hb2⟩ := hv.appended (by decide) hrow hB.size (Nat.le_refl _) hown' hgrow; have hc1 := hv1.cell; have hf1 := hv1.frozen)
    exact ⟨hk2.from _, hb2, ⟨_, hv2, by simpa using hr2, trivial⟩, hB.trans hb2⟩
  case done =>
    rintro D ys W hD rfl ⟨⟨v, hv, hrow, _⟩, hB⟩ hK
    have hc := hv.cell
    gi_wp2
    refine ⟨by simp, .inl ⟨_, _, rfl, run_takeDeferred hK, ?_⟩⟩
    exact ⟨_, results_tmp rfl _ _ _, v, rfl, ownsRow_putObj hrow _ hK rfl, hB.trans (belowK_b (w := w) (Nat.le_refl _) W D _ _ (by simp at hD; omega) hK rfl rfl)⟩
  case stop =>
    rintro D c pre W _ _ h _
    exact h.elim

/-- **vint.Put.** -/
theorem vPut (N : Nat) (hN : N < 18446744073709551616) (w : World) :
    Calls Tryz.prog 60 #[.int .u64 N] w fun e w' => ∃ v, e = .returned v ∧ Own 5 w.heap.size w' v (put N) ∧ Grows w w' := by
  refine (callsIn_wide (n := 3)).1 ?_
  refine (put_in Fence.wide 3 trivial trivial trivial rfl (Nat.le_refl _) N hN w).mono ?_
  rintro e w' ⟨v, rfl, ho, hB⟩
  refine ⟨v, rfl, own_snoc ho ?_ ?_, hB⟩
  · rw [putI_eq 9 N (by omega)]; simp [put]
  · rw [putI_eq 9 N (by omega)]; simp [put, bv, Function.comp_def]
end Go.Proofs.YtoppcpiheaedlaaGreatDoor
end

section
/-
  Contracts of the small functions of vint and of the document's own answers.
-/
namespace Go.Proofs.YtoppcpiheaedlaaGreatDoor
open Go.RowKit
set_option linter.unusedVariables false

/-- The three answers of Get, as values. -/
def got (x : Nat × Nat × Nat) : Value := .tuple #[.int .u64 x.1, .int .i64 x.2.1, .int .i64 x.2.2]

theorem refGet_nil (a : Option Addr) (cap : Nat) (w : World) :
    Calls Tryz.prog 68 #[.slice a 0 cap] w fun e w' => e = .returned (got (0, 0, 10)) ∧ w = w' := by
  go_enter Tryz.func68, Tryz.ntmps68
  go_wp2
  refine wp_loop_rounds 1 ?_
  rw [rounds_succ]
  go_wp2
  go_ret3
  exact ⟨rfl, rfl⟩


theorem getF_cons (k : Nat) (c : UInt8) (r : List UInt8) (i acc : Nat) : getF (k + 1) (c :: r) i acc =
    if i = 9 ∧ 1 < c.toNat then (0, 0, 11)
    else if c.toNat < 128 then (if 0 < i ∧ c.toNat = 0 then (0, 0, 12) else (acc + c.toNat % 128 * 128 ^ i, i + 1, 0))
    else getF k r (i + 1) (acc + c.toNat % 128 * 128 ^ i) := rfl

set_option maxRecDepth 100000 in
set_option maxHeartbeats 1000000 in
theorem refGet_some (b off cap : Nat) (l : List UInt8) (w : World) (hc : ∀ i, i < l.length → w.cell? ⟨b, off + i, none⟩ = some (bv (l.getD i 0))) (hlc : l.length ≤ cap) (hm : cap ≤ maxLen) :
    Calls Tryz.prog 68 #[.slice (some ⟨b, off, none⟩) l.length cap] w fun e w' => e = .returned (got (get l)) ∧ w = w' := by
  unfold maxLen at hm
  go_enter Tryz.func68, Tryz.ntmps68
  go_wp2
  go_loop [5, 6, 7] (fun t5 t6 t7 => ∃ k acc M : Nat, k ≤ 9 ∧ k ≤ l.length ∧ t5 = .int .u64 acc ∧ t6 = .int .u64 M ∧ t7 = .int .i64 k ∧ Hid (M = 128 ^ k) ∧ Hid (acc < 128 ^ k) ∧ Hid (get l = getF (10 - k) (l.drop k) k acc))
    (fun _ _ t7 => 10 - (intOf t7).toNat)
  case atStart => exact ⟨0, 0, 1, by omega, by omega, rfl, rfl, rfl, rfl, by show 0 < 1; omega, rfl⟩
  case round =>
    obtain ⟨k, acc, M, hk9, hkl, rfl, rfl, rfl, HM, Hacc, Hget⟩ := hrel
    obtain ⟨fu, Hfu⟩ : ∃ fu, Hid (10 - k = fu + 1) := ⟨9 - k, by show 10 - k = 9 - k + 1; omega⟩
    by_cases hlt : k < l.length
    · have hck := hc k hlt
      obtain ⟨c, Hc⟩ : ∃ c, Hid (l.getD k 0 = c) := ⟨_, rfl⟩
      rw [Hc.out] at hck
      unfold bv at hck
      clear hc
      have hc256 := c.toNat_lt
      have Hg2 : Hid (get l = getF (fu + 1) (c :: l.drop (k + 1)) k acc) := by
        show _ = _
        rw [Hget.out, Hfu.out, get_drop l k hlt, Hc.out]
      clear Hget
      obtain ⟨p, Hp⟩ : ∃ p, Hid (p = c.toNat % 128 * M) := ⟨_, rfl⟩
      have key : k ≤ 8 ∨ c.toNat ≤ 1 → IntKind.u64.wrap ((c.toNat : Int) % 128 * (M : Int)) = (p : Int) ∧ IntKind.u64.wrap ((acc : Int) + (p : Int)) = (acc : Int) + (p : Int) ∧ (k ≤ 8 → IntKind.u64.wrap ((M : Int) * 128) = (M : Int) * 128) := fun h => by
        have h1 : (p : Int) = (c.toNat : Int) % 128 * (M : Int) := by rw [Hp.out]; simp
        have ha : acc < M := by rw [HM.out]; exact Hacc.out
        have hM8 : k ≤ 8 → M ≤ 2 ^ 56 := fun h8 => by rw [HM.out, pow_128]; exact Nat.pow_le_pow_right (by omega) (by omega)
        have hM9 : M ≤ 2 ^ 63 := by rw [HM.out, pow_128]; exact Nat.pow_le_pow_right (by omega) (by omega)
        have hb : acc + p < 2 ^ 64 := by
          rcases h with h | h
          · have := hM8 h
            have : p ≤ 127 * 2 ^ 56 := by rw [Hp.out]; exact Nat.mul_le_mul (by omega) (hM8 h)
            omega
          · have : p ≤ 1 * 2 ^ 63 := by rw [Hp.out]; exact Nat.mul_le_mul (by omega) hM9
            omega
        rw [← h1]
        exact ⟨wrap_u64 _ (by omega) (by omega), wrap_u64 _ (by omega) (by omega), fun h8 => wrap_u64 _ (by omega) (by have := hM8 h8; omega)⟩
      by_cases h9 : k = 9
      · have e9 : ((k : Int) == 9) = true := by rw [beq_iff_eq]; omega
        have H9 := Lib.hid h9
        have h8k : 8 < k := by omega
        clear h9
        by_cases h1 : 1 < c.toNat
        · have h1' : (1 : Int) < (c.toNat : Int) := by omega
          clear key
          go_wp2
          go_ret3
          exact ⟨by rw [Hg2.out, getF_cons, if_pos ⟨H9.out, h1⟩]; rfl, rfl⟩
        · obtain ⟨hw1, hw2, _⟩ := key (.inr (by omega))
          have h1' : ¬ (1 : Int) < (c.toNat : Int) := by omega
          have h128 : (c.toNat : Int) < 128 := by omega
          have hk0 : (0 : Int) < (k : Int) := by omega
          by_cases hz : c.toNat = 0
          · have hz' : ((c.toNat : Int) == 0) = true := by rw [beq_iff_eq]; omega
            have Hz := Lib.hid hz
            clear key hz
            go_wp2
            go_ret3
            exact ⟨by rw [Hg2.out, getF_cons, if_neg (by have := Hz.out; omega), if_pos (by have := Hz.out; omega), if_pos ⟨by omega, Hz.out⟩]; rfl, rfl⟩
          · have hz' : ((c.toNat : Int) == 0) = false := by rw [beq_eq_false_iff_ne]; omega
            clear key
            go_wp2
            go_ret3
            exact ⟨by rw [Hg2.out, getF_cons, if_neg (by omega), if_pos (by omega), if_neg (by omega), ← HM.out, ← Hp.out]; simp [got], rfl⟩
      · have e9 : ((k : Int) == 9) = false := by rw [beq_eq_false_iff_ne]; omega
        obtain ⟨hw1, hw2, hw3⟩ := key (.inl (by omega))
        have hw3 := hw3 (by omega)
        by_cases h128 : c.toNat < 128
        · have h128' : (c.toNat : Int) < 128 := by omega
          by_cases hk0 : k = 0
          · have hk0' : ¬ (0 : Int) < (k : Int) := by omega
            have Hk0 := Lib.hid hk0
            clear key hk0
            go_wp2
            go_ret3
            exact ⟨by have := Hk0.out; rw [Hg2.out, getF_cons, if_neg (by omega), if_pos (by omega), if_neg (by omega), ← HM.out, ← Hp.out]; simp [got], rfl⟩
          · have hk0' : (0 : Int) < (k : Int) := by omega
            by_cases hz : c.toNat = 0
            · have hz' : ((c.toNat : Int) == 0) = true := by rw [beq_iff_eq]; omega
              have Hz := Lib.hid hz
              clear key hz
              go_wp2
              go_ret3
              exact ⟨by rw [Hg2.out, getF_cons, if_neg (by have := Hz.out; omega), if_pos (by have := Hz.out; omega), if_pos ⟨by omega, Hz.out⟩]; rfl, rfl⟩
            · have hz' : ((c.toNat : Int) == 0) = false := by rw [beq_eq_false_iff_ne]; omega
              clear key
              go_wp2
              go_ret3
              exact ⟨by rw [Hg2.out, getF_cons, if_neg (by omega), if_pos (by omega), if_neg (by omega), ← HM.out, ← Hp.out]; simp [got], rfl⟩
        · have h128' : ¬ (c.toNat : Int) < 128 := by omega
          clear key
          go_wp2
          go_round
          case rel =>
            refine ⟨k + 1, acc + p, M * 128, by omega, by omega, by simp, by simp, by simp, ?_, ?_, ?_⟩
            · show M * 128 = 128 ^ (k + 1)
              rw [Nat.pow_succ, HM.out]
            · show acc + p < 128 ^ (k + 1)
              have ha := Hacc.out
              have : p ≤ 127 * 128 ^ k := by rw [Hp.out, HM.out]; exact Nat.mul_le_mul_right _ (by omega)
              rw [Nat.pow_succ]
              omega
            · show get l = _
              rw [Hg2.out, getF_cons, if_neg (by omega), if_neg h128, Hp.out, HM.out, show 10 - (k + 1) = fu by have := Hfu.out; omega]
          case measure => simp [intOf]; omega
    · go_wp2
      go_ret3
      exact ⟨by rw [Hget.out, Hfu.out, List.drop_of_length_le (by omega)]; rfl, rfl⟩

theorem refGet (v : Value) (l : List UInt8) (w : World) (h : Byt w v l) :
    Calls Tryz.prog 68 #[v] w fun e w' => e = .returned (got (get l)) ∧ w = w' := by
  obtain ⟨a, cap, rfl, h1, h2, _, rfl | ⟨b, off, rfl, hc⟩⟩ := h
  · exact refGet_nil a cap w
  · exact refGet_some b off cap l w hc h1 h2
end Go.Proofs.YtoppcpiheaedlaaGreatDoor
end

section
/-
  Contracts of Number and Fixed, of the program and of the document's own answer.
-/
namespace Go.Proofs.YtoppcpiheaedlaaGreatDoor
open Go.RowKit
set_option linter.unusedVariables false

end Go.Proofs.YtoppcpiheaedlaaGreatDoor
end

section
/-
  Contracts of refusal, leading and Get of the program.
-/
namespace Go.Proofs.YtoppcpiheaedlaaGreatDoor
open Go.RowKit Go.Shelf
set_option linter.unusedVariables false

set_option maxRecDepth 100000 in
set_option maxHeartbeats 1000000 in
theorem refusal_any (s : Nat) (hs : s ≤ 10) (c : UInt8) (w : World) :
    Calls Tryz.prog 131 #[.int .i64 s, .int .u8 c.toNat] w fun e w' => e = .returned (.int .i64 (refus s c.toNat)) ∧ w = w' := by
  have hc := c.toNat_lt
  by_cases h1 : 128 ≤ c.toNat
  · have h1' : (128 : Int) ≤ (c.toNat : Int) := by omega
    have e0 : ((c.toNat : Int) == 0) = false := by rw [beq_eq_false_iff_ne]; omega
    have hgt : (1 : Int) < (c.toNat : Int) := by omega
    by_cases h2 : s < 10
    · have h2' : (s : Int) < 10 := by omega
      go_enter Tryz.func131, Tryz.ntmps131
      go_wp2
      go_ret
      exact ⟨by unfold refus; rw [if_pos ⟨h1, h2⟩]; rfl, rfl⟩
    · have h2' : ¬ (s : Int) < 10 := by omega
      have e2 : ((s : Int) == 10) = true := by rw [beq_iff_eq]; omega
      go_enter Tryz.func131, Tryz.ntmps131
      go_wp2
      go_ret
      exact ⟨by unfold refus; rw [if_neg (by omega), if_pos (by omega), if_pos (by omega)]; rfl, rfl⟩
  · have h1' : ¬ (128 : Int) ≤ (c.toNat : Int) := by omega
    by_cases h10 : s = 10
    · have e2 : ((s : Int) == 10) = true := by rw [beq_iff_eq]; omega
      have H10 := Lib.hid h10
      clear h10
      by_cases h3 : 1 < c.toNat
      · have h3' : (1 : Int) < (c.toNat : Int) := by omega
        go_enter Tryz.func131, Tryz.ntmps131
        go_wp2
        go_ret
        exact ⟨by unfold refus; rw [if_neg (by omega), if_pos H10.out, if_pos h3]; rfl, rfl⟩
      · have h3' : ¬ (1 : Int) < (c.toNat : Int) := by omega
        by_cases h4 : c.toNat = 0
        · have e0 : ((c.toNat : Int) == 0) = true := by rw [beq_iff_eq]; omega
          have H4 := Lib.hid h4
          clear h4
          go_enter Tryz.func131, Tryz.ntmps131
          go_wp2
          go_ret
          exact ⟨by unfold refus; rw [if_neg (by omega), if_pos H10.out, if_neg h3, if_pos H4.out]; rfl, rfl⟩
        · have e0 : ((c.toNat : Int) == 0) = false := by rw [beq_eq_false_iff_ne]; omega
          go_enter Tryz.func131, Tryz.ntmps131
          go_wp2
          go_ret
          exact ⟨by unfold refus; rw [if_neg (by omega), if_pos H10.out, if_neg h3, if_neg h4]; rfl, rfl⟩
    · have e2 : ((s : Int) == 10) = false := by rw [beq_eq_false_iff_ne]; omega
      by_cases h3 : 1 < s
      · have h3' : (1 : Int) < (s : Int) := by omega
        by_cases h4 : c.toNat = 0
        · have e0 : ((c.toNat : Int) == 0) = true := by rw [beq_iff_eq]; omega
          have H4 := Lib.hid h4
          clear h4
          go_enter Tryz.func131, Tryz.ntmps131
          go_wp2
          go_ret
          exact ⟨by unfold refus; rw [if_neg (by omega), if_neg h10, if_pos ⟨h3, H4.out⟩]; rfl, rfl⟩
        · have e0 : ((c.toNat : Int) == 0) = false := by rw [beq_eq_false_iff_ne]; omega
          go_enter Tryz.func131, Tryz.ntmps131
          go_wp2
          go_ret
          exact ⟨by unfold refus; rw [if_neg (by omega), if_neg h10, if_neg (by omega)]; rfl, rfl⟩
      · have h3' : ¬ (1 : Int) < (s : Int) := by omega
        go_enter Tryz.func131, Tryz.ntmps131
        go_wp2
        go_ret
        exact ⟨by unfold refus; rw [if_neg (by omega), if_neg h10, if_neg (by omega)]; rfl, rfl⟩

theorem leadF_end (L : List UInt8) (k : Nat) (h : L.length ≤ k ∨ 10 ≤ k) : leadF (10 - k) (L.drop k) k = [] := by
  rcases h with h | h
  · rw [List.drop_of_length_le h]
    cases 10 - k <;> rfl
  · rw [show 10 - k = 0 by omega]; rfl

/-- A leading byte with its place, as yield takes it. -/
def encP (x : Fin 10 × UInt8) : Array Value := #[.int .i64 (x.1.val : Int), .int .u8 (x.2.toNat : Int)]

section
attribute [local go_sem] Oper.semAt_some

set_option maxRecDepth 100000 in
set_option maxHeartbeats 2000000 in
theorem leading1_in (F : Fence) (n : Nat) (hF : F.fn 140) (hro : F.round = none) (hn : 1 ≤ n) (l Bs n₀ b off cap : Nat) (L : List UInt8) (hb : b < n₀) (hlc : L.length ≤ cap) (hm : cap ≤ 9223372036854775807) (J Jx : List (Fin 10 × UInt8) → World → Prop)
    (hY : ∀ pre x W, J pre W → pre.length < 10 → YieldAt F (n - 1) Tryz.prog l (encP x) W fun e W' =>
      (e = .returned (.bool true) ∧ J (pre ++ [x]) W' ∧ Below n₀ W W') ∨ (e = .returned (.bool false) ∧ Jx (pre ++ [x]) W'))
    (W : World) (hBs : W.cell? ⟨Bs, 0, none⟩ = some (.slice (some ⟨b, off, none⟩) L.length cap)) (hc : ∀ i, i < L.length → W.cell? ⟨b, off + i, none⟩ = some (bv (L.getD i 0))) (h0 : J [] W) :
    CallsIn F n Tryz.prog 140 #[.func (.yield l) #[] #[], .pointer (some ⟨Bs, 0, none⟩)] W fun e W' => (∃ v, e = .returned v) ∧
      ((∃ ys, ys = leadF 10 L 0 ∧ J ys W') ∨ (∃ pre, pre <+: leadF 10 L 0 ∧ Jx pre W')) := by
  refine callsIn_of_wp Tryz.func140 rfl hF ?_ hro
  simp only [Tryz.ntmps140, List.size_toArray, List.length_cons, List.length_nil, Nat.reduceAdd, Nat.reduceSub, Array.replicate_succ, Array.replicate_zero, List.push_toArray, List.append_toArray, List.nil_append, List.cons_append]
  by_cases hten : (L.length : Int) ≤ 10
  all_goals
    gi_wp2
    gi_loopw [11] (fun t11 wr => ∃ (k : Nat) (pre : List (Fin 10 × UInt8)), k ≤ L.length ∧ k ≤ 10 ∧ t11 = .int .i64 k ∧ Hid (pre.length = k ∧ leadF 10 L 0 = pre ++ leadF (10 - k) (L.drop k) k) ∧ J pre wr ∧ Below n₀ W wr)
      (fun t11 _ => 10 - (intOf t11).toNat)
    case atStart => exact ⟨0, [], by omega, by omega, rfl, ⟨rfl, rfl⟩, h0, Below.refl _ _⟩
    case round =>
      obtain ⟨k, pre, hk, hk10, rfl, Hp, hJ, hB⟩ := hrel
      by_cases hlt : k < L.length ∧ k < 10
      · obtain ⟨hl1, hl2⟩ := hlt
        have hck := (hB.cell (p := ⟨b, off + k, none⟩) hb).trans (hc k hl1)
        obtain ⟨c, Hc⟩ : ∃ c, Hid (L.getD k 0 = c) := ⟨_, rfl⟩
        rw [Hc.out] at hck
        unfold bv at hck
        clear hc
        have hc256 := c.toNat_lt
        obtain ⟨fn, tmps, assign, body, hy, hR⟩ := hY pre (⟨k, hl2⟩, c) wr hJ (by rw [Hp.out.1]; exact hl2)
        unfold encP at hy
        dsimp only at hy
        have Hlead : Hid (leadF 10 L 0 = pre ++ (⟨k, hl2⟩, c) :: (if c.toNat < 128 then [] else leadF (10 - (k + 1)) (L.drop (k + 1)) (k + 1))) := by
          show _ = _
          rw [Hp.out.2, get_drop L k hl1, Hc.out, show 10 - k = (10 - (k + 1)) + 1 by omega]
          have : Fin.ofNat 10 k = (⟨k, hl2⟩ : Fin 10) := by ext; simp [Fin.ofNat]; omega
          rw [leadF, this]
        by_cases h128 : c.toNat < 128
        · have h128' : (c.toNat : Int) < 128 := by omega
          gi_wp2
          refine hR.mono ?_
          rintro e W3 (⟨rfl, hJ3, hk3⟩ | ⟨rfl, hJx3⟩)
          · gi_wp2
            refine bodyPost_ret (results_none rfl _ _ _) rfl ?_
            exact ⟨⟨_, rfl⟩, .inl ⟨_, by rw [Hlead.out, if_pos h128], hJ3⟩⟩
          · gi_wp2
            refine bodyPost_ret (results_none rfl _ _ _) rfl ?_
            exact ⟨⟨_, rfl⟩, .inr ⟨_, by rw [Hlead.out, if_pos h128]; exact List.prefix_refl _, hJx3⟩⟩
        · have h128' : ¬ (c.toNat : Int) < 128 := by omega
          gi_wp2
          refine hR.mono ?_
          rintro e W3 (⟨rfl, hJ3, hk3⟩ | ⟨rfl, hJx3⟩)
          · gi_wp2
            go_roundw
            case rel => exact ⟨k + 1, pre ++ [(⟨k, hl2⟩, c)], by omega, by omega, by simp, ⟨by simp [Hp.out.1], by rw [Hlead.out, if_neg h128]; simp⟩, hJ3, hB.trans hk3⟩
            case measure => simp [intOf]; omega
          · gi_wp2
            refine bodyPost_ret (results_none rfl _ _ _) rfl ?_
            exact ⟨⟨_, rfl⟩, .inr ⟨_, by rw [Hlead.out, if_neg h128]; exact ⟨_, by simp; rfl⟩, hJx3⟩⟩
      · gi_wp2
        go_end0
        exact ⟨⟨_, rfl⟩, .inl ⟨pre, by rw [Hp.out.2, leadF_end L k (by omega)]; simp, hJ⟩⟩

theorem leading1_nil_in (F : Fence) (n : Nat) (hF : F.fn 140) (hro : F.round = none) (l Bs cap : Nat) (a : Option Addr) (hcap : a = none → cap = 0) (J : List (Fin 10 × UInt8) → World → Prop)
    (W : World) (hBs : W.cell? ⟨Bs, 0, none⟩ = some (.slice a 0 cap)) (h0 : J [] W) :
    CallsIn F n Tryz.prog 140 #[.func (.yield l) #[] #[], .pointer (some ⟨Bs, 0, none⟩)] W fun e W' => (∃ v, e = .returned v) ∧ J [] W' := by
  refine callsIn_of_wp Tryz.func140 rfl hF ?_ hro
  simp only [Tryz.ntmps140, List.size_toArray, List.length_cons, List.length_nil, Nat.reduceAdd, Nat.reduceSub, Array.replicate_succ, Array.replicate_zero, List.push_toArray, List.append_toArray, List.nil_append, List.cons_append]
  gi_wp2
  gi_loopw [11] (fun i wr => i = .int .i64 0 ∧ J [] wr) (fun _ _ => 0)
  case atStart => exact ⟨rfl, h0⟩
  case round =>
    obtain ⟨rfl, hJs⟩ := hrel
    gi_wp2
    go_end0
    exact ⟨⟨_, rfl⟩, hJs⟩

set_option maxHeartbeats 1000000 in
theorem leading_in (F : Fence) (n : Nat) (hF : F.fn 130) (hro : F.round = none) (v : Value) (hv : ∃ a l c, v = .slice a l c) (w : World) :
    CallsIn F n Tryz.prog 130 #[v] w fun e w' => e = .returned (.func (.func 140) #[] #[.pointer (some ⟨w.heap.size, 0, none⟩)]) ∧ w' = w.alloc (.cells #[v] 36) := by
  obtain ⟨a, l, c, rfl⟩ := hv
  have hmf : ∀ (fn : Fn) (first cap : Array Value) (w : World), (Instr.makeFunc fn first cap).run Tryz.prog w = .ok (.func fn first cap) w := fun _ _ _ _ => rfl
  refine callsIn_of_wp Tryz.func130 rfl hF ?_ hro
  simp only [Tryz.ntmps130, List.size_toArray, List.length_cons, List.length_nil, Nat.reduceAdd, Nat.reduceSub, Array.replicate_succ, Array.replicate_zero, List.push_toArray, List.append_toArray, List.nil_append, List.cons_append]
  gi_wp2
  go_ret
  exact ⟨rfl, rfl⟩

/-- A slice of bytes that came in, in blocks below n₀. -/
def BytB (n₀ : Nat) (W : World) (v : Value) (l : List UInt8) : Prop :=
  ∃ a cap, v = .slice a l.length cap ∧ l.length ≤ cap ∧ cap ≤ maxLen ∧ (a = none → cap = 0) ∧
    (l = [] ∨ ∃ b off, a = some ⟨b, off, none⟩ ∧ b < n₀ ∧ ∀ i, i < l.length → W.cell? ⟨b, off + i, none⟩ = some (bv (l.getD i 0)))
theorem BytB.of_byt {W : World} {v : Value} {l : List UInt8} (h : Byt W v l) : BytB W.heap.size W v l := by
  obtain ⟨a, cap, rfl, h1, h2, h3, h4⟩ := h
  refine ⟨a, cap, rfl, h1, h2, h3, ?_⟩
  by_cases hl : l = []
  · exact .inl hl
  · obtain ⟨b, off, rfl, hc⟩ := h4.resolve_left hl
    have h0 : 0 < l.length := List.length_pos_iff.2 hl
    exact .inr ⟨b, off, rfl, World.block_lt_of_cell? W _ (hc 0 h0), hc⟩
theorem BytB.below {n₀ : Nat} {A B : World} {v : Value} {l : List UInt8} (h : Below n₀ A B) (hb : BytB n₀ A v l) : BytB n₀ B v l := by
  obtain ⟨a, cap, rfl, h1, h2, h3, h4⟩ := hb
  refine ⟨a, cap, rfl, h1, h2, h3, h4.imp id ?_⟩
  rintro ⟨b, off, rfl, hb, hc⟩
  exact ⟨b, off, rfl, hb, fun i hi => (h.cell (p := ⟨b, off + i, none⟩) hb).trans (hc i hi)⟩

theorem leading_stops (F : Fence) (n : Nat) (hF : F.fn 140) (hro : F.round = none) (hn : 1 ≤ n) (Bs n₀ : Nat) (v : Value) (L : List UInt8) (w : World) (hBs : Bs < w.heap.size) (hn₀ : n₀ ≤ w.heap.size)
    (hc : w.cell? ⟨Bs, 0, none⟩ = some v) (hI : BytB n₀ w v L) :
    SeqStopsK F n Tryz.prog 140 #[.pointer (some ⟨Bs, 0, none⟩)] encP (Below n₀) (fun ys => ys = leadF 10 L 0) (fun pre => pre <+: leadF 10 L 0) 10 w := fun l J Jx W hW _ _ hY h0 => by
  have hc' := (hW.cell (p := ⟨Bs, 0, none⟩) hBs).trans hc
  obtain ⟨a, cap, rfl, h1, h2, h3, rfl | ⟨b, off, rfl, hb, hcs⟩⟩ := hI.below (hW.mono hn₀)
  · exact (leading1_nil_in F n hF hro l Bs cap a h3 J W hc' h0).mono fun e W' ⟨he, hj⟩ => ⟨he, .inl ⟨_, rfl, hj⟩⟩
  · exact leading1_in F n hF hro hn l Bs n₀ b off cap L hb h1 (by unfold maxLen at h2; omega) J Jx hY W hc' hcs h0
end
end Go.Proofs.YtoppcpiheaedlaaGreatDoor
end

section
/-
  The contract of vint.Get.
-/
namespace Go.Proofs.YtoppcpiheaedlaaGreatDoor
open Go.RowKit Go.Shelf
set_option linter.unusedVariables false
set_option linter.unusedSimpArgs false

theorem accG_lt (s : Nat) (x : Fin 10 × UInt8) (h : s < 18446744073709551616) : accG s x < 18446744073709551616 := by
  unfold accG
  exact Nat.or_lt_two_pow (n := 64) h (Nat.mod_lt _ (by decide))
theorem foldG_lt (l : List (Fin 10 × UInt8)) : ∀ s, s < 18446744073709551616 → l.foldl accG s < 18446744073709551616 := by
  induction l with
  | nil => intro s h; exact h
  | cons x l ih => intro s h; exact ih _ (accG_lt s x h)
theorem sizeG_snoc (l : List (Fin 10 × UInt8)) (x : Fin 10 × UInt8) : ∀ i, sizeG i (l ++ [x]) = x.1.val + 1 := by
  induction l with
  | nil => intro i; rfl
  | cons y l ih => intro i; exact ih _
theorem lastG_snoc (l : List (Fin 10 × UInt8)) (x : Fin 10 × UInt8) : ∀ i, lastG i (l ++ [x]) = x.2 := by
  induction l with
  | nil => intro i; rfl
  | cons y l ih => intro i; exact ih _
theorem sizeG_le (l : List (Fin 10 × UInt8)) : ∀ i, i ≤ 10 → sizeG i l ≤ 10 := by
  induction l with
  | nil => intro i h; exact h
  | cons x l ih => intro i h; exact ih _ (by have := x.1.isLt; omega)

theorem boxed_grows {W X : World} {B : Nat} {t : TypeId} {v : Value} (h : Boxed W B t v) (g : Grows W X) : Boxed X B t v := (g.block B h.lt).trans h
theorem keeps_grows {W X : World} (g : Grows W X) : KeepsOthers W X := ⟨g.size, fun k o hk _ => (g.block k (Array.getElem?_eq_some_iff.1 hk).1).trans hk⟩

section
attribute [local go_sem] Oper.semAt_some

set_option maxRecDepth 100000 in
set_option maxHeartbeats 4000000 in
theorem get_in (F : Fence) (HF : Hid (F = Fence.wide)) (n : Nat) (h3 : F.fn 113) (h4 : F.fn 130) (h5 : F.fn 140) (h6 : F.fn 131) (hro : F.round = none) (hn : 3 ≤ n) (v : Value) (L : List UInt8) (w : World) (hv : Byt w v L) :
    CallsIn F n Tryz.prog 113 #[v] w fun e w' => e = .returned (got (get L)) ∧ Below w.heap.size w w' := by
  have h1 : 1 ≤ n := by omega
  have hsl : ∃ a l c, v = .slice a l c := by obtain ⟨a, c, e, _⟩ := hv; exact ⟨a, _, c, e⟩
  have hvB := BytB.of_byt hv
  refine callsIn_of_wp_marks Tryz.func113 rfl h3 ?_ hro
  simp only [Tryz.ntmps113, List.size_toArray, List.length_cons, List.length_nil, Nat.reduceAdd, Nat.reduceSub, Array.replicate_succ, Array.replicate_zero, List.push_toArray, List.append_toArray, List.nil_append, List.cons_append]
  gi_wp2_with (gi_at_call 130; refine (leading_in F (n - 1) h4 hro _ hsl _).mono ?_; rintro e w' ⟨rfl, rfl⟩)
  have bN0 := Boxed.new w 123 (.int .u64 0)
  have bS0 := Boxed.new (w.alloc (.cells #[.int .u64 0] 123)) 3 (.int .i64 0)
  have bL0 := Boxed.new ((w.alloc (.cells #[.int .u64 0] 123)).alloc (.cells #[.int .i64 0] 3)) 5 (.int .u8 128)
  have bV0 := Boxed.new (((w.alloc (.cells #[.int .u64 0] 123)).alloc (.cells #[.int .i64 0] 3)).alloc (.cells #[.int .u8 128] 5)) 36 v
  have hB0 : Below w.heap.size w ((((w.alloc (.cells #[.int .u64 0] 123)).alloc (.cells #[.int .i64 0] 3)).alloc (.cells #[.int .u8 128] 5)).alloc (.cells #[v] 36)) :=
    ((((Below.refl _ w).alloc (Nat.le_refl _) _).alloc (by simp) _).alloc (by simp; omega) _).alloc (by simp; omega) _
  have bN1 := ((bN0.alloc (.cells #[.int .i64 0] 3)).alloc (.cells #[.int .u8 128] 5)).alloc (.cells #[v] 36)
  have bS1 := (bS0.alloc (.cells #[.int .u8 128] 5)).alloc (.cells #[v] 36)
  have bL1 := bL0.alloc (.cells #[v] 36)
  simp only [World.size_alloc] at bS1 bL1 bV0
  obtain ⟨W0, hW0⟩ : ∃ W0, ((((w.alloc (.cells #[.int .u64 0] 123)).alloc (.cells #[.int .i64 0] 3)).alloc (.cells #[.int .u8 128] 5)).alloc (.cells #[v] 36)) = W0 := ⟨_, rfl⟩
  have hsz : W0.heap.size = w.heap.size + 4 := by rw [← hW0]; simp
  rw [hW0] at bN1 bS1 bL1 bV0 hB0 ⊢
  clear hW0 bN0 bS0 bL0
  refine wpIn_rangeFunc_ownG hro h1 (gf := 140) (lb := #[.pointer (some ⟨w.heap.size + 1 + 1 + 1, 0, none⟩)]) rfl h5 (enters_of Tryz.func140 (by kernel_rfl) rfl)
    (leading_stops F (n - 1) h5 hro (by omega) (w.heap.size + 1 + 1 + 1) w.heap.size v L W0 (by omega) (by omega) bV0.cell (hvB.below hB0)) belowK_t (belowK_b (by omega)) (Below.refl _ _) (fun _ => rfl)
    (fun pre W => (Boxed W w.heap.size 123 (.int .u64 ((pre.foldl accG 0 : Nat) : Int)) ∧ Boxed W (w.heap.size + 1) 3 (.int .i64 ((sizeG 0 pre : Nat) : Int)) ∧ Boxed W (w.heap.size + 1 + 1) 5 (.int .u8 ((lastG 128 pre).toNat : Int))) ∧ Below w.heap.size w W)
    (fun _ _ _ => False)
    (OwnFrom.and (OwnFrom.and (Own.from (boxed_own _ _ (fun pre => .int .u64 ((List.foldl accG 0 pre : Nat) : Int))) _) (OwnFrom.and (Own.from (boxed_own _ _ (fun pre => .int .i64 ((sizeG 0 pre : Nat) : Int))) _) (Own.from (boxed_own _ _ (fun pre => .int .u8 ((lastG 128 pre).toNat : Int))) _))) (ownFrom_below (Nat.le_refl _) (by omega)))
    (fun _ _ _ _ _ hs _ _ => hs)
    ⟨⟨bN1, bS1, bL1⟩, hB0⟩
    (fun x => { tmps := #[v, undef, .int .u64 0, .int .i64 0, .int .i64 0, .pointer (some ⟨w.heap.size, 0, none⟩), .pointer (some ⟨w.heap.size + 1, 0, none⟩), .pointer (some ⟨w.heap.size + 1 + 1, 0, none⟩), .int .i64 (x.1.val : Int), .int .u8 (x.2.toNat : Int), undef, v, .func (.func 140) #[] #[.pointer (some ⟨w.heap.size + 1 + 1 + 1, 0, none⟩)], .int .i64 (x.1.val : Int), .int .u8 (x.2.toNat : Int), undef, undef, undef, undef, undef, undef, undef, undef, undef, undef, undef, undef, undef, undef, undef, undef, undef, undef, undef], defers := [] }) ?assign ?body ?done ?stop
  case assign =>
    intro l x W K hK
    unfold encP
    gi_wp2
    exact hK
  case body =>
    rintro l pre ⟨x, c⟩ W ⟨⟨bN, bS, bL⟩, hB⟩ hlt
    have hd : 1 ≤ n - 1 - 1 := by omega
    have hmx : Tryz.prog.follows .mixedOrders = true := by kernel_rfl
    have hcN := bN.cell
    have hfN := bN.frozen
    have hx := x.isLt
    have hc256 := c.toNat_lt
    have hNb : pre.foldl accG 0 < 18446744073709551616 := foldG_lt pre 0 (by omega)
    have Hacc : Hid (accG (pre.foldl accG 0) (x, c) = pre.foldl accG 0 ||| (c.toNat % 128 * 2 ^ (7 * x.val) % 18446744073709551616)) := rfl
    generalize hi : x.val = i at *
    generalize hNv : pre.foldl accG 0 = N at *
    obtain ⟨p, hp⟩ : ∃ p, c.toNat % 128 * 2 ^ (7 * i) % 18446744073709551616 = p := ⟨_, rfl⟩
    have hpb : p < 18446744073709551616 := by rw [← hp]; exact Nat.mod_lt _ (by omega)
    obtain ⟨r, hr⟩ : ∃ r, c.toNat % 128 = r := ⟨_, rfl⟩
    obtain ⟨s, hs⟩ : ∃ s, 7 * i = s := ⟨_, rfl⟩
    have hs0 : (0 : Int) ≤ (s : Int) := by omega
    have hs1 : (s : Int) ≤ 64 := by omega
    have ht : (c.toNat : Int).tmod 128 = (r : Int) := by rw [Int.tmod_eq_emod_of_nonneg (by omega)]; omega
    have hwr : IntKind.u64.wrap (r : Int) = (r : Int) := wrap_u64 _ (by omega) (by omega)
    have h7 : IntKind.i64.wrap (7 * (i : Int)) = (s : Int) := by rw [IntWalk.i64_in _ (by omega)]; omega
    have hw1 : IntKind.u64.wrap ((r : Int) * 2 ^ s) = (p : Int) := by
      rw [IntKind.wrap_u64, ← hp, hr, hs]
      simp
    obtain ⟨q, hq⟩ : ∃ q, N ||| p = q := ⟨_, rfl⟩
    have hw2 : bits BinOp.or IntKind.u64 (N : Int) (p : Int) = (q : Int) := by rw [← hq]; exact u64_or_nat N p hNb hpb
    have Hi := Lib.hid hi
    have HN := Lib.hid hNv
    have Hp := Lib.hid hp
    have Hq := Lib.hid hq
    have HB := Lib.hid (And.intro hB (And.intro bN (And.intro bS bL)))
    have hcS := bS.cell
    have hfS := bS.frozen
    have hcL := bL.cell
    have hfL := bL.frozen
    clear hi hNv hp hq hNb hpb hr hs bN bS bL hB bV0 bL1 bS1 bN1 hB0 hv hvB hsl
    gi_wp2
    rw [show F.inRound l = Fence.wide.inRound l from by rw [HF.out]]
    refine specs_round 8
      #[[], [], [1], [1, 2], [], [4], [1, 2, 3, 4, 5], [0, 1, 2, 3, 4, 5, 6], [0, 1, 2, 3, 4, 5, 6, 7]] #[[5], [9], [], [], [8], [], [], [], [5]] #[true, true, true, true, true, true, true, true, true] #[.val (.int .u64 (N : Int)), .val (.int .u8 (c.toNat : Int)), .val (.int .u8 (r : Int)), .val (.int .u64 (r : Int)), .val (.int .i64 (i : Int)), .val (.int .i64 (s : Int)), .val (.int .u64 (p : Int)), .val (.int .u64 (q : Int)), .any] hmx ?_ ?_ ?_ rfl ?_ ?_
    · rfl
    · rfl
    · rfl
    · refine ⟨?_, ?_, ?_, ?_, ?_, ?_, ?_, ?_, ?_, trivial⟩
      · refine step_intro rfl rfl fun ρ X hc hf hgl hX hp ho => ?_
        have k5 : ρ (.tmp 5) = .pointer (some ⟨w.heap.size, 0, none⟩) := ho 5 (by decide)
        have hcW := Grows.cell' hX hcN
        refine StepOk.of_run (v := .int .u64 (N : Int)) (w' := X) ?_ ⟨rfl, Below.refl _ _⟩
        simp [go_sem, execOp, k5, hcW]
      · refine step_intro rfl rfl fun ρ X hc hf hgl hX hp ho => ?_
        have k9 : ρ (.tmp 9) = .int .u8 (c.toNat : Int) := ho 9 (by decide)
        refine StepOk.of_run (v := .int .u8 (c.toNat : Int)) (w' := X) ?_ ⟨rfl, Below.refl _ _⟩
        simp [go_sem, execOp, hc, k9]
      · refine step_intro rfl rfl fun ρ X hc hf hgl hX hp ho => ?_
        have k16 : ρ (.tmp 16) = .int .u8 (c.toNat : Int) := hp 1 (by decide)
        refine StepOk.of_run (v := .int .u8 (r : Int)) (w' := X) ?_ ⟨rfl, Below.refl _ _⟩
        simp [go_sem, execOp, hc, k16, ht]
      · refine step_intro rfl rfl fun ρ X hc hf hgl hX hp ho => ?_
        have k17 : ρ (.tmp 17) = .int .u8 (r : Int) := hp 2 (by decide)
        refine StepOk.of_run (v := .int .u64 (r : Int)) (w' := X) ?_ ⟨rfl, Below.refl _ _⟩
        simp [go_sem, execOp, hc, k17, hwr]
      · refine step_intro rfl rfl fun ρ X hc hf hgl hX hp ho => ?_
        have k8 : ρ (.tmp 8) = .int .i64 (i : Int) := ho 8 (by decide)
        refine StepOk.of_run (v := .int .i64 (i : Int)) (w' := X) ?_ ⟨rfl, Below.refl _ _⟩
        simp [go_sem, execOp, hc, k8]
      · refine step_intro rfl rfl fun ρ X hc hf hgl hX hp ho => ?_
        have k19 : ρ (.tmp 19) = .int .i64 (i : Int) := hp 4 (by decide)
        refine StepOk.of_run (v := .int .i64 (s : Int)) (w' := X) ?_ ⟨rfl, Below.refl _ _⟩
        simp [go_sem, execOp, hc, k19, h7]
      · refine step_intro rfl rfl fun ρ X hc hf hgl hX hp ho => ?_
        have k18 : ρ (.tmp 18) = .int .u64 (r : Int) := hp 3 (by decide)
        have k20 : ρ (.tmp 20) = .int .i64 (s : Int) := hp 5 (by decide)
        refine StepOk.of_run (v := .int .u64 (p : Int)) (w' := X) ?_ ⟨rfl, Below.refl _ _⟩
        simp [go_sem, execOp, hc, k18, k20, hw1, hs0, hs1]
      · refine step_intro rfl rfl fun ρ X hc hf hgl hX hp ho => ?_
        have k15 : ρ (.tmp 15) = .int .u64 (N : Int) := hp 0 (by decide)
        have k21 : ρ (.tmp 21) = .int .u64 (p : Int) := hp 6 (by decide)
        refine StepOk.of_run (v := .int .u64 (q : Int)) (w' := X) ?_ ⟨rfl, Below.refl _ _⟩
        simp [go_sem, execOp, hc, k15, k21, hw2]
      · exact last_intro rfl
    · intro a X hb
      have k5 : a.eval (.tmp 5) = .pointer (some ⟨w.heap.size, 0, none⟩) := hb.orig' 5 rfl
      have k22 : a.eval (.tmp 22) = .int .u64 (q : Int) := hb.done' 7 22 rfl rfl
      have hsl : Slots a.tmps 0 ((v) :: (undef) :: (.int .u64 0) :: (.int .i64 0) :: (.int .i64 0) :: (.pointer (some ⟨w.heap.size, 0, none⟩)) :: (.pointer (some ⟨w.heap.size + 1, 0, none⟩)) :: (.pointer (some ⟨w.heap.size + 1 + 1, 0, none⟩)) :: (.int .i64 (i : Int)) :: (.int .u8 (c.toNat : Int)) :: (undef) :: (v) :: (.func (.func 140) #[] #[.pointer (some ⟨w.heap.size + 1 + 1 + 1, 0, none⟩)]) :: (.int .i64 (i : Int)) :: (.int .u8 (c.toNat : Int)) :: (.int .u64 (N : Int)) :: (.int .u8 (c.toNat : Int)) :: (.int .u8 (r : Int)) :: (.int .u64 (r : Int)) :: (.int .i64 (i : Int)) :: (.int .i64 (s : Int)) :: (.int .u64 (p : Int)) :: (.int .u64 (q : Int)) :: (undef) :: (undef) :: (undef) :: (undef) :: (undef) :: (undef) :: (undef) :: (undef) :: (undef) :: (undef) :: (undef) :: []) := ⟨hb.orig' 0 rfl, hb.orig' 1 rfl, hb.orig' 2 rfl, hb.orig' 3 rfl, hb.orig' 4 rfl, hb.orig' 5 rfl, hb.orig' 6 rfl, hb.orig' 7 rfl, hb.orig' 8 rfl, hb.orig' 9 rfl, hb.orig' 10 rfl, hb.orig' 11 rfl, hb.orig' 12 rfl, hb.orig' 13 rfl, hb.orig' 14 rfl, hb.done' 0 15 rfl rfl, hb.done' 1 16 rfl rfl, hb.done' 2 17 rfl rfl, hb.done' 3 18 rfl rfl, hb.done' 4 19 rfl rfl, hb.done' 5 20 rfl rfl, hb.done' 6 21 rfl rfl, hb.done' 7 22 rfl rfl, hb.orig' 23 rfl, hb.orig' 24 rfl, hb.orig' 25 rfl, hb.orig' 26 rfl, hb.orig' 27 rfl, hb.orig' 28 rfl, hb.orig' 29 rfl, hb.orig' 30 rfl, hb.orig' 31 rfl, hb.orig' 32 rfl, hb.orig' 33 rfl, trivial⟩
      have hfr := frame_eq hsl (hb.size.trans rfl) hb.defers
      have hcX := Grows.cell' hb.ext hcN
      have hcSX := Grows.cell' hb.ext hcS
      have hcLX := Grows.cell' hb.ext hcL
      have hfX : X.frozen? ⟨w.heap.size, 0, none⟩ = false := (hb.ext.frozen (p := ⟨w.heap.size, 0, none⟩) (World.block_lt_of_cell? _ _ hcN)).trans hfN
      have hfSX : X.frozen? ⟨w.heap.size + 1, 0, none⟩ = false := (hb.ext.frozen (p := ⟨w.heap.size + 1, 0, none⟩) (World.block_lt_of_cell? _ _ hcS)).trans hfS
      have hfLX : X.frozen? ⟨w.heap.size + 1 + 1, 0, none⟩ = false := (hb.ext.frozen (p := ⟨w.heap.size + 1 + 1, 0, none⟩) (World.block_lt_of_cell? _ _ hcL)).trans hfL
      have hext := Lib.hid hb.ext
      clear hb hsl
      subst hfr
      change StepOk _ { dst := none, op := Op.store 123 (Operand.tmp 5) (Operand.tmp 22), type := _, pos := _, after := _, guard := _ } _ _ _
      unfold StepOk
      clear k5 k22
      simp [go_sem, execOp, hcX, hfX]
      gi_wp2
      obtain ⟨hB, bN, bS, bL⟩ := HB.out
      have hg := hext.out
      have bN2 := Boxed.set (.int .u64 (q : Int)) (boxed_grows bN hg)
      have bS2 := (boxed_grows bS hg).other (B' := w.heap.size) (by omega) (.int .u64 (q : Int))
      have bL2 := (boxed_grows bL hg).other (B' := w.heap.size) (by omega) (.int .u64 (q : Int))
      refine ⟨(((keeps_grows hg).trans (KeepsOthers.setCell _ _ _)).trans ((KeepsOthers.setCell _ _ _).trans (KeepsOthers.setCell _ _ _))).from _, ?_, ⟨?_, ?_, ?_⟩, ?_⟩
      · exact (((Below.mono hg hB.size).setCell (p := ⟨w.heap.size, 0, none⟩) (Nat.le_refl _) _).setCell (p := ⟨w.heap.size + 1, 0, none⟩) (by simp) _).setCell (p := ⟨w.heap.size + 1 + 1, 0, none⟩) (by simp; omega) _
      · rw [List.foldl_append, List.foldl_cons, List.foldl_nil, HN.out, Hacc.out, Hp.out, Hq.out]
        exact (bN2.other (by omega) _).other (by omega) _
      · rw [sizeG_snoc]
        simp only [Hi.out]
        exact (bS2.set _).other (by omega) _
      · rw [lastG_snoc]
        exact (bL2.other (by omega) _).set _
      · exact hB.trans ((((Below.mono hg hB.size).setCell (p := ⟨w.heap.size, 0, none⟩) (Nat.le_refl _) _).setCell (p := ⟨w.heap.size + 1, 0, none⟩) (by simp) _).setCell (p := ⟨w.heap.size + 1 + 1, 0, none⟩) (by simp; omega) _)
  case done =>
    rintro D ys W hD rfl ⟨⟨bN, bS, bL⟩, hB⟩ hK
    have hcN := bN.cell
    have hcS := bS.cell
    have hcL := bL.cell
    have hsz10 := sizeG_le (leadF 10 L 0) 0 (by omega)
    have hgl := get_lead 10 L 0 0 128 rfl (by omega) (by decide)
    generalize sizeG 0 (leadF 10 L 0) = sz at *
    generalize lastG 128 (leadF 10 L 0) = lc at *
    generalize List.foldl accG 0 (leadF 10 L 0) = N at *
    obtain ⟨E, hE⟩ : ∃ E, refus sz lc.toNat = E := ⟨_, rfl⟩
    have href : CallsIn F (n - 1) Tryz.prog 131 #[.int .i64 (sz : Int), .int .u8 (lc.toNat : Int)] W fun e w' => e = .returned (.int .i64 (E : Int)) ∧ W = w' := by
      rw [HF.out]
      refine callsIn_wide.2 ?_
      rw [← hE]
      exact refusal_any sz hsz10 lc W
    have Href := Lib.hid href
    rw [hE] at hgl
    have HE := Lib.hid hE
    have HB := Lib.hid hB
    have HKb : Hid (Below w.heap.size w (W.putObj D (.deferred none))) := hB.trans (belowK_b (w := w) (Nat.le_refl _) W D _ _ (by omega) hK rfl rfl)
    clear href hE hB bN bS bL bV0 bL1 bS1 bN1 hB0 hv hvB hsl hsz10
    rcases hgl with ⟨hne, hg⟩ | ⟨h0, hg⟩
    · have e1 : ((E : Int) != 0) = true := by rw [bne_iff_ne]; omega
      have Hg := Lib.hid hg
      clear hg hne
      gi_wp2_with (gi_at_call 131; refine Href.out.mono ?_; rintro e w' ⟨rfl, rfl⟩)
      refine ⟨by simp, .inl ⟨_, _, rfl, run_takeDeferred hK, ?_⟩⟩
      exact ⟨_, results_tmp3 rfl _ _ _, by unfold get; rw [Hg.out]; rfl, HKb.out⟩
    · have e1 : ((E : Int) != 0) = false := by rw [h0]; rfl
      have Hg := Lib.hid hg
      have H0 := Lib.hid h0
      clear hg h0
      gi_wp2_with (gi_at_call 131; refine Href.out.mono ?_; rintro e w' ⟨rfl, rfl⟩)
      gi_region
      all_goals gi_wp2
      all_goals refine ⟨by simp, .inl ⟨_, _, rfl, run_takeDeferred hK, ?_⟩⟩
      all_goals exact ⟨_, results_tmp3 rfl _ _ _, by unfold get; rw [Hg.out]; rfl, Below.drew HKb.out⟩
  case stop =>
    rintro D c pre W _ _ h _
    exact h.elim
end

/-- **vint.Get.** -/
theorem vGet (v : Value) (l : List UInt8) (w : World) (h : Byt w v l) :
    Calls Tryz.prog 113 #[v] w fun e w' => e = .returned (got (get l)) ∧ Grows w w' :=
  (callsIn_wide (n := 3)).1 (get_in Fence.wide rfl 3 trivial trivial trivial trivial rfl (Nat.le_refl _) v l w h)
end Go.Proofs.YtoppcpiheaedlaaGreatDoor
end

section
/-
  Contracts of Clone, PutBytes and GetBytes, of the program and of the document's own answer.
-/
namespace Go.Proofs.YtoppcpiheaedlaaGreatDoor
open Go.RowKit
set_option linter.unusedVariables false
set_option linter.unusedSimpArgs false


set_option maxRecDepth 100000 in
theorem clone_any (v : Value) (l : List UInt8) (w : World) (h : Byt w v l) (hl : l.length ≤ 140737488355328) :
    Calls Tryz.prog 129 #[v] w fun e w' => ∃ v', e = .returned v' ∧ Own 5 w.heap.size w' v' l ∧ Grows w w' := by
  obtain ⟨i0, hi, hz0, hz1, hz2⟩ := info_parts info5
  have H := Lib.hid h
  obtain ⟨a, cap, rfl, h1, h2, h3, h4⟩ := h
  cases a with
  | none =>
    have hl0 : l = [] := by
      have := h3 rfl
      exact List.eq_nil_of_length_eq_zero (by omega)
    subst hl0
    obtain rfl := h3 rfl
    have hq := Lib.run_eql_slice_nil (P := Tryz.prog)
    go_enter Tryz.func129, Tryz.ntmps129
    go_wp2
    go_ret
    exact ⟨_, rfl, Own.nil _ _ _, Below.refl _ _⟩
  | some x =>
    have hq := Lib.run_eql_slice_nil (P := Tryz.prog)
    have Hl := Lib.hid hl
    clear h1 h2 h3 h4 hl
    go_enter Tryz.func129, Tryz.ntmps129
    go_wp2_with (at_builtin; refine wpList_app rfl _ _ 36 5 i0 rfl Tryz.underlying36 hi hz0 hz1 hz2 w.heap.size _ _ [] l rfl (Own.empty _ _ _ (Nat.le_refl _)) rfl (H.out.grows (Grows.alloc' _ _)) (by have := Hl.out; simp; omega) (by simp) ?_; intro v' w1 hown' hgrow)
    go_ret
    exact ⟨_, rfl, by simpa using hown', grows_app ((Below.refl _ _).alloc (Nat.le_refl _) _) (Own.empty _ _ _ (Nat.le_refl _)) (by simp) hgrow⟩

/-- A text with its length. -/
def putB (l : List UInt8) : List UInt8 := put l.length ++ l


set_option maxRecDepth 100000 in
theorem vPutBytes (v : Value) (l : List UInt8) (w : World) (h : Byt w v l) (hl : l.length ≤ 70368744177664) :
    Calls Tryz.prog 59 #[v] w fun e w' => ∃ v', e = .returned v' ∧ Own 5 w.heap.size w' v' (putB l) ∧ Grows w w' := by
  obtain ⟨i0, hi, hz0, hz1, hz2⟩ := info_parts info5
  have H := Lib.hid h
  obtain ⟨a, cap, rfl⟩ := h.slice
  clear h
  have hw : IntKind.u64.wrap (l.length : Int) = (l.length : Int) := wrap_u64 _ (by omega) (by omega)
  have Hput := Lib.hid (fun w => vPut l.length (by omega) w)
  have Hlen : Hid ((put l.length).length + l.length ≤ 140737488355328) := by
    have := (putL_length 9 l.length).2
    show (putL 9 l.length).length + _ ≤ _
    omega
  clear hl
  go_enter Tryz.func59, Tryz.ntmps59
  go_wp2_with fail
  refine (Hput.out _).mono ?_
  rintro e w1 ⟨v1, rfl, hown, hg⟩
  go_wp2_with (at_builtin; refine wpList_app rfl _ _ 36 5 i0 rfl Tryz.underlying36 hi hz0 hz1 hz2 w.heap.size _ _ _ l rfl hown rfl (H.out.grows hg) Hlen.out hg.size ?_; intro v' w2 hown' hgrow)
  go_ret
  exact ⟨_, rfl, hown', grows_app hg hown hg.size hgrow⟩

set_option maxRecDepth 100000 in
theorem refPutBytes (v : Value) (l : List UInt8) (w : World) (h : Byt w v l) (hl : l.length ≤ 70368744177664) :
    Calls Tryz.prog 63 #[v] w fun e w' => ∃ v', e = .returned v' ∧ Own 5 w.heap.size w' v' (putB l) ∧ Grows w w' := by
  obtain ⟨i0, hi, hz0, hz1, hz2⟩ := info_parts info5
  have H := Lib.hid h
  obtain ⟨a, cap, rfl⟩ := h.slice
  clear h
  have hw : IntKind.u64.wrap (l.length : Int) = (l.length : Int) := wrap_u64 _ (by omega) (by omega)
  have Hput := Lib.hid (fun w => refPut l.length (by omega) w)
  have Hlen : Hid ((put l.length).length + l.length ≤ 140737488355328) := by
    have := (putL_length 9 l.length).2
    show (putL 9 l.length).length + _ ≤ _
    omega
  clear hl
  go_enter Tryz.func63, Tryz.ntmps63
  go_wp2_with fail
  refine (Hput.out _).mono ?_
  rintro e w1 ⟨v1, rfl, hown, hg⟩
  go_wp2_with (at_builtin; refine wpList_app rfl _ _ 36 5 i0 rfl Tryz.underlying36 hi hz0 hz1 hz2 w.heap.size _ _ _ l rfl hown rfl (H.out.grows hg) Hlen.out hg.size ?_; intro v' w2 hown' hgrow)
  go_ret
  exact ⟨_, rfl, hown', grows_app hg hown hg.size hgrow⟩

set_option maxRecDepth 100000 in
set_option maxHeartbeats 1000000 in
theorem vGetBytes (v : Value) (l : List UInt8) (w : World) (h : Byt w v l) (hl : l.length ≤ 70368744177664) :
    Calls Tryz.prog 112 #[v] w fun e w' => ∃ v', e = .returned (.tuple #[v', .int .i64 (getB l).2.1, .int .i64 (getB l).2.2]) ∧ Own 5 w.heap.size w' v' (getB l).1 ∧ Grows w w' := by
  have H := Lib.hid h
  obtain ⟨i0, hi, hz0, hz1, hz2⟩ := info_parts info5
  have hok := get_ok l
  obtain ⟨n, k, e, hg⟩ : ∃ n k e, get l = (n, k, e) := ⟨_, _, _, rfl⟩
  have Hget : Hid (∀ w', Byt w' v l → Calls Tryz.prog 113 #[v] w' fun E W' => E = .returned (.tuple #[.int .u64 n, .int .i64 k, .int .i64 e]) ∧ Grows w' W') := fun w' hw => by
    have := vGet v l w' hw
    rw [hg] at this
    exact this
  obtain ⟨a, cap, rfl⟩ := h.slice
  clear h
  rw [hg] at hok
  simp only at hok
  by_cases he : e = 0
  · have e1 : ((e : Int) != 0) = false := by rw [he]; rfl
    obtain ⟨h1, h2, h3, h4⟩ := hok he
    have hw1 : IntKind.u64.wrap ((l.length : Int) - (k : Int)) = (l.length : Int) - (k : Int) := wrap_u64 _ (by omega) (by omega)
    have He := Lib.hid he
    by_cases hn : l.length - k < n
    · have hn' : (l.length : Int) - (k : Int) < (n : Int) := by omega
      have Hb : Hid (getB l = ([], 0, 10)) := by show _ = _; unfold getB; rw [hg]; simp [he, hn]
      clear he hok h4 hg hn
      go_enter Tryz.func112, Tryz.ntmps112
      go_wp2_with fail
      refine (Hget.out _ H.out).mono ?_
      rintro E w1 ⟨rfl, hg1⟩
      go_wp2_with fail
      go_ret3
      exact ⟨_, by rw [Hb.out]; rfl, by rw [Hb.out]; exact Own.nil _ _ _, hg1⟩
    · have hn' : ¬ (l.length : Int) - (k : Int) < (n : Int) := by omega
      have hnk : k + n ≤ l.length := by omega
      have Hb : Hid (getB l = ((l.drop k).take n, k + n, 0)) := by show _ = _; unfold getB; rw [hg]; simp [he, hn]
      clear he hok h4 hg hn
      go_enter Tryz.func112, Tryz.ntmps112
      go_wp2_with fail
      refine (Hget.out _ H.out).mono ?_
      rintro E w1 ⟨rfl, hg1⟩
      have HB1 := Lib.hid (H.out.grows hg1)
      go_wp2_with (refine wpList_slice rfl _ _ _ 36 i0 rfl Tryz.underlying36 hi hz1 a cap l rfl HB1.out k (k + n) .i64 .i64 rfl rfl (by omega) hnk ?_; intro a' c' hb')
      rw [Nat.add_sub_cancel_left] at hb'
      refine (clone_any _ _ _ hb' (by simp; omega)).mono ?_
      rintro E w2 ⟨v2, rfl, hown, hg2⟩
      go_wp2_with fail
      go_ret3
      exact ⟨_, by rw [Hb.out]; simp; rfl, by rw [Hb.out]; exact hown.mono hg1.size, Grows.trans' hg1 hg2⟩
  · have e1 : ((e : Int) != 0) = true := by rw [bne_iff_ne]; omega
    have Hb : Hid (getB l = ([], 0, e)) := by show _ = _; unfold getB; rw [hg]; simp [he]
    clear hok hl hg he
    go_enter Tryz.func112, Tryz.ntmps112
    go_wp2_with fail
    refine (Hget.out _ H.out).mono ?_
    rintro E w1 ⟨rfl, hg1⟩
    go_wp2_with fail
    go_ret3
    exact ⟨_, by rw [Hb.out]; rfl, by rw [Hb.out]; exact Own.nil _ _ _, hg1⟩

set_option maxRecDepth 100000 in
set_option maxHeartbeats 1000000 in
theorem refGetBytes (v : Value) (l : List UInt8) (w : World) (h : Byt w v l) (hl : l.length ≤ 70368744177664) :
    Calls Tryz.prog 66 #[v] w fun e w' => ∃ v', e = .returned (.tuple #[v', .int .i64 (getB l).2.1, .int .i64 (getB l).2.2]) ∧ Own 5 w.heap.size w' v' (getB l).1 ∧ Grows w w' := by
  have H := Lib.hid h
  obtain ⟨i0, hi, hz0, hz1, hz2⟩ := info_parts info5
  have hok := get_ok l
  obtain ⟨n, k, e, hg⟩ : ∃ n k e, get l = (n, k, e) := ⟨_, _, _, rfl⟩
  have Hget : Hid (∀ w', Byt w' v l → Calls Tryz.prog 68 #[v] w' fun E W' => E = .returned (.tuple #[.int .u64 n, .int .i64 k, .int .i64 e]) ∧ w' = W') := fun w' hw => by
    have := refGet v l w' hw
    rw [hg] at this
    exact this
  obtain ⟨a, cap, rfl⟩ := h.slice
  clear h
  rw [hg] at hok
  simp only at hok
  by_cases he : e = 0
  · have e1 : ((e : Int) != 0) = false := by rw [he]; rfl
    obtain ⟨h1, h2, h3, h4⟩ := hok he
    have hw1 : IntKind.u64.wrap ((l.length : Int) - (k : Int)) = (l.length : Int) - (k : Int) := wrap_u64 _ (by omega) (by omega)
    have He := Lib.hid he
    by_cases hn : l.length - k < n
    · have hn' : (l.length : Int) - (k : Int) < (n : Int) := by omega
      have Hb : Hid (getB l = ([], 0, 10)) := by show _ = _; unfold getB; rw [hg]; simp [he, hn]
      clear he hok h4 hg hn
      go_enter Tryz.func66, Tryz.ntmps66
      go_wp2_with fail
      refine (Hget.out _ H.out).mono ?_
      rintro E w1 ⟨rfl, rfl⟩
      go_wp2_with fail
      go_ret3
      exact ⟨_, by rw [Hb.out]; rfl, by rw [Hb.out]; exact Own.nil _ _ _, Below.refl _ _⟩
    · have hn' : ¬ (l.length : Int) - (k : Int) < (n : Int) := by omega
      have hnk : k + n ≤ l.length := by omega
      have Hb : Hid (getB l = ((l.drop k).take n, k + n, 0)) := by show _ = _; unfold getB; rw [hg]; simp [he, hn]
      clear he hok h4 hg hn
      go_enter Tryz.func66, Tryz.ntmps66
      go_wp2_with fail
      refine (Hget.out _ H.out).mono ?_
      rintro E w1 ⟨rfl, rfl⟩
      have HB1 := Lib.hid (H.out.grows (Grows.alloc' w (.cells #[] 5)))
      go_wp2_with (refine wpList_slice rfl _ _ _ 36 i0 rfl Tryz.underlying36 hi hz1 a cap l rfl HB1.out k (k + n) .i64 .i64 rfl rfl (by omega) hnk ?_; intro a' c' hb'; refine wpList_app rfl _ _ 36 5 i0 rfl Tryz.underlying36 hi hz0 hz1 hz2 w.heap.size _ _ [] _ rfl (Own.empty _ _ _ (Nat.le_refl _)) rfl hb' (by simp; omega) (by simp) ?_; intro v' w2 hown' hgrow)
      rw [Nat.add_sub_cancel_left] at hown'
      go_ret3
      exact ⟨_, by rw [Hb.out]; simp; rfl, by rw [Hb.out]; simpa using hown', grows_app ((Below.refl _ _).alloc (Nat.le_refl _) _) (Own.empty _ _ _ (Nat.le_refl _)) (by simp) hgrow⟩
  · have e1 : ((e : Int) != 0) = true := by rw [bne_iff_ne]; omega
    have Hb : Hid (getB l = ([], 0, e)) := by show _ = _; unfold getB; rw [hg]; simp [he]
    clear hok hl hg he
    go_enter Tryz.func66, Tryz.ntmps66
    go_wp2_with fail
    refine (Hget.out _ H.out).mono ?_
    rintro E w1 ⟨rfl, rfl⟩
    go_wp2_with fail
    go_ret3
    exact ⟨_, by rw [Hb.out]; rfl, by rw [Hb.out]; exact Own.nil _ _ _, Below.refl _ _⟩
end Go.Proofs.YtoppcpiheaedlaaGreatDoor
end
