/-
  Contracts of refusal, leading and Get of the program.
-/
import Derived.Test.YtbdfgbobipognaaVintQ
import Derived.Test.YtbdfgbobipognaaVintS
import Derived.Outline
namespace Go.Proofs.Ytbdfgbobipognaa
open Go.RowKit Go.Shelf
set_option linter.unusedVariables false

set_option maxRecDepth 100000 in
set_option maxHeartbeats 1000000 in
theorem refusal_any (s : Nat) (hs : s ≤ 10) (c : UInt8) (w : World) :
    Calls Try.prog 26 #[.int .i64 s, .int .u8 c.toNat] w fun e w' => e = .returned (.int .i64 (refus s c.toNat)) ∧ w = w' := by
  have hc := c.toNat_lt
  by_cases h1 : 128 ≤ c.toNat
  · have h1' : (128 : Int) ≤ (c.toNat : Int) := by omega
    have e0 : ((c.toNat : Int) == 0) = false := by rw [beq_eq_false_iff_ne]; omega
    have hgt : (1 : Int) < (c.toNat : Int) := by omega
    by_cases h2 : s < 10
    · have h2' : (s : Int) < 10 := by omega
      go_enter Try.func26, Try.ntmps26
      go_wp2
      go_ret
      exact ⟨by unfold refus; rw [if_pos ⟨h1, h2⟩]; rfl, rfl⟩
    · have h2' : ¬ (s : Int) < 10 := by omega
      have e2 : ((s : Int) == 10) = true := by rw [beq_iff_eq]; omega
      go_enter Try.func26, Try.ntmps26
      go_wp2
      go_ret
      exact ⟨by unfold refus; rw [if_neg (by omega), if_pos (by omega), if_pos (by omega)]; rfl, rfl⟩
  · have h1' : ¬ (128 : Int) ≤ (c.toNat : Int) := by omega
    by_cases h10 : s = 10
    · have e2 : ((s : Int) == 10) = true := by rw [beq_iff_eq]; omega
      have H10 := Lib.hid h10
      clear h10
      by_cases h3 : 1 < c.toNat
      · have h3' : (1 : Int) < (c.toNat : Int) := by omega
        go_enter Try.func26, Try.ntmps26
        go_wp2
        go_ret
        exact ⟨by unfold refus; rw [if_neg (by omega), if_pos H10.out, if_pos h3]; rfl, rfl⟩
      · have h3' : ¬ (1 : Int) < (c.toNat : Int) := by omega
        by_cases h4 : c.toNat = 0
        · have e0 : ((c.toNat : Int) == 0) = true := by rw [beq_iff_eq]; omega
          have H4 := Lib.hid h4
          clear h4
          go_enter Try.func26, Try.ntmps26
          go_wp2
          go_ret
          exact ⟨by unfold refus; rw [if_neg (by omega), if_pos H10.out, if_neg h3, if_pos H4.out]; rfl, rfl⟩
        · have e0 : ((c.toNat : Int) == 0) = false := by rw [beq_eq_false_iff_ne]; omega
          go_enter Try.func26, Try.ntmps26
          go_wp2
          go_ret
          exact ⟨by unfold refus; rw [if_neg (by omega), if_pos H10.out, if_neg h3, if_neg h4]; rfl, rfl⟩
    · have e2 : ((s : Int) == 10) = false := by rw [beq_eq_false_iff_ne]; omega
      by_cases h3 : 1 < s
      · have h3' : (1 : Int) < (s : Int) := by omega
        by_cases h4 : c.toNat = 0
        · have e0 : ((c.toNat : Int) == 0) = true := by rw [beq_iff_eq]; omega
          have H4 := Lib.hid h4
          clear h4
          go_enter Try.func26, Try.ntmps26
          go_wp2
          go_ret
          exact ⟨by unfold refus; rw [if_neg (by omega), if_neg h10, if_pos ⟨h3, H4.out⟩]; rfl, rfl⟩
        · have e0 : ((c.toNat : Int) == 0) = false := by rw [beq_eq_false_iff_ne]; omega
          go_enter Try.func26, Try.ntmps26
          go_wp2
          go_ret
          exact ⟨by unfold refus; rw [if_neg (by omega), if_neg h10, if_neg (by omega)]; rfl, rfl⟩
      · have h3' : ¬ (1 : Int) < (s : Int) := by omega
        go_enter Try.func26, Try.ntmps26
        go_wp2
        go_ret
        exact ⟨by unfold refus; rw [if_neg (by omega), if_neg h10, if_neg (by omega)]; rfl, rfl⟩

theorem leadF_end (L : List UInt8) (k : Nat) (h : L.length ≤ k ∨ 10 ≤ k) : leadF (10 - k) (L.drop k) k = [] := by
  rcases h with h | h
  · rw [List.drop_of_length_le h]
    cases 10 - k <;> rfl
  · rw [show 10 - k = 0 by omega]; rfl

/-- A leading byte with its place, as yield takes it. -/
def encP (x : Fin 10 × UInt8) : Array Value := #[.int .i64 (x.1.val : Int), .int .u8 (x.2.toNat : Int)]

section
attribute [local go_sem] Oper.semAt_some

set_option maxRecDepth 100000 in
set_option maxHeartbeats 2000000 in
theorem leading1_in (F : Fence) (n : Nat) (hF : F.fn 29) (hro : F.round = none) (hn : 1 ≤ n) (l Bs n₀ b off cap : Nat) (L : List UInt8) (hb : b < n₀) (hlc : L.length ≤ cap) (hm : cap ≤ 9223372036854775807) (J Jx : List (Fin 10 × UInt8) → World → Prop)
    (hY : ∀ pre x W, J pre W → pre.length < 10 → YieldAt F (n - 1) Try.prog l (encP x) W fun e W' =>
      (e = .returned (.bool true) ∧ J (pre ++ [x]) W' ∧ Below n₀ W W') ∨ (e = .returned (.bool false) ∧ Jx (pre ++ [x]) W'))
    (W : World) (hBs : W.cell? ⟨Bs, 0, none⟩ = some (.slice (some ⟨b, off, none⟩) L.length cap)) (hc : ∀ i, i < L.length → W.cell? ⟨b, off + i, none⟩ = some (bv (L.getD i 0))) (h0 : J [] W) :
    CallsIn F n Try.prog 29 #[.func (.yield l) #[] #[], .pointer (some ⟨Bs, 0, none⟩)] W fun e W' => (∃ v, e = .returned v) ∧
      ((∃ ys, ys = leadF 10 L 0 ∧ J ys W') ∨ (∃ pre, pre <+: leadF 10 L 0 ∧ Jx pre W')) := by
  refine callsIn_of_wp Try.func29 rfl hF ?_ hro
  simp only [Try.ntmps29, List.size_toArray, List.length_cons, List.length_nil, Nat.reduceAdd, Nat.reduceSub, Array.replicate_succ, Array.replicate_zero, List.push_toArray, List.append_toArray, List.nil_append, List.cons_append]
  by_cases hten : (L.length : Int) ≤ 10
  all_goals
    gi_wp2
    gi_loopw [11] (fun t11 wr => ∃ (k : Nat) (pre : List (Fin 10 × UInt8)), k ≤ L.length ∧ k ≤ 10 ∧ t11 = .int .i64 k ∧ Hid (pre.length = k ∧ leadF 10 L 0 = pre ++ leadF (10 - k) (L.drop k) k) ∧ J pre wr ∧ Below n₀ W wr)
      (fun t11 _ => 10 - (intOf t11).toNat)
    case atStart => exact ⟨0, [], by omega, by omega, rfl, ⟨rfl, rfl⟩, h0, Below.refl _ _⟩
    case round =>
      obtain ⟨k, pre, hk, hk10, rfl, Hp, hJ, hB⟩ := hrel
      by_cases hlt : k < L.length ∧ k < 10
      · obtain ⟨hl1, hl2⟩ := hlt
        have hck := (hB.cell (p := ⟨b, off + k, none⟩) hb).trans (hc k hl1)
        obtain ⟨c, Hc⟩ : ∃ c, Hid (L.getD k 0 = c) := ⟨_, rfl⟩
        rw [Hc.out] at hck
        unfold bv at hck
        clear hc
        have hc256 := c.toNat_lt
        obtain ⟨fn, tmps, assign, body, hy, hR⟩ := hY pre (⟨k, hl2⟩, c) wr hJ (by rw [Hp.out.1]; exact hl2)
        unfold encP at hy
        dsimp only at hy
        have Hlead : Hid (leadF 10 L 0 = pre ++ (⟨k, hl2⟩, c) :: (if c.toNat < 128 then [] else leadF (10 - (k + 1)) (L.drop (k + 1)) (k + 1))) := by
          show _ = _
          rw [Hp.out.2, get_drop L k hl1, Hc.out, show 10 - k = (10 - (k + 1)) + 1 by omega]
          have : Fin.ofNat 10 k = (⟨k, hl2⟩ : Fin 10) := by ext; simp [Fin.ofNat]; omega
          rw [leadF, this]
        by_cases h128 : c.toNat < 128
        · have h128' : (c.toNat : Int) < 128 := by omega
          gi_wp2
          refine hR.mono ?_
          rintro e W3 (⟨rfl, hJ3, hk3⟩ | ⟨rfl, hJx3⟩)
          · gi_wp2
            refine bodyPost_ret (results_none rfl _ _ _) rfl ?_
            exact ⟨⟨_, rfl⟩, .inl ⟨_, by rw [Hlead.out, if_pos h128], hJ3⟩⟩
          · gi_wp2
            refine bodyPost_ret (results_none rfl _ _ _) rfl ?_
            exact ⟨⟨_, rfl⟩, .inr ⟨_, by rw [Hlead.out, if_pos h128]; exact List.prefix_refl _, hJx3⟩⟩
        · have h128' : ¬ (c.toNat : Int) < 128 := by omega
          gi_wp2
          refine hR.mono ?_
          rintro e W3 (⟨rfl, hJ3, hk3⟩ | ⟨rfl, hJx3⟩)
          · gi_wp2
            go_roundw
            case rel => exact ⟨k + 1, pre ++ [(⟨k, hl2⟩, c)], by omega, by omega, by simp, ⟨by simp [Hp.out.1], by rw [Hlead.out, if_neg h128]; simp⟩, hJ3, hB.trans hk3⟩
            case measure => simp [intOf]; omega
          · gi_wp2
            refine bodyPost_ret (results_none rfl _ _ _) rfl ?_
            exact ⟨⟨_, rfl⟩, .inr ⟨_, by rw [Hlead.out, if_neg h128]; exact ⟨_, by simp; rfl⟩, hJx3⟩⟩
      · gi_wp2
        go_end0
        exact ⟨⟨_, rfl⟩, .inl ⟨pre, by rw [Hp.out.2, leadF_end L k (by omega)]; simp, hJ⟩⟩

theorem leading1_nil_in (F : Fence) (n : Nat) (hF : F.fn 29) (hro : F.round = none) (l Bs cap : Nat) (a : Option Addr) (hcap : a = none → cap = 0) (J : List (Fin 10 × UInt8) → World → Prop)
    (W : World) (hBs : W.cell? ⟨Bs, 0, none⟩ = some (.slice a 0 cap)) (h0 : J [] W) :
    CallsIn F n Try.prog 29 #[.func (.yield l) #[] #[], .pointer (some ⟨Bs, 0, none⟩)] W fun e W' => (∃ v, e = .returned v) ∧ J [] W' := by
  refine callsIn_of_wp Try.func29 rfl hF ?_ hro
  simp only [Try.ntmps29, List.size_toArray, List.length_cons, List.length_nil, Nat.reduceAdd, Nat.reduceSub, Array.replicate_succ, Array.replicate_zero, List.push_toArray, List.append_toArray, List.nil_append, List.cons_append]
  gi_wp2
  gi_loopw [11] (fun i wr => i = .int .i64 0 ∧ J [] wr) (fun _ _ => 0)
  case atStart => exact ⟨rfl, h0⟩
  case round =>
    obtain ⟨rfl, hJs⟩ := hrel
    gi_wp2
    go_end0
    exact ⟨⟨_, rfl⟩, hJs⟩

set_option maxHeartbeats 1000000 in
theorem leading_in (F : Fence) (n : Nat) (hF : F.fn 25) (hro : F.round = none) (v : Value) (hv : ∃ a l c, v = .slice a l c) (w : World) :
    CallsIn F n Try.prog 25 #[v] w fun e w' => e = .returned (.func (.func 29) #[] #[.pointer (some ⟨w.heap.size, 0, none⟩)]) ∧ w' = w.alloc (.cells #[v] 23) := by
  obtain ⟨a, l, c, rfl⟩ := hv
  have hmf : ∀ (fn : Fn) (first cap : Array Value) (w : World), (Instr.makeFunc fn first cap).run Try.prog w = .ok (.func fn first cap) w := fun _ _ _ _ => rfl
  refine callsIn_of_wp Try.func25 rfl hF ?_ hro
  simp only [Try.ntmps25, List.size_toArray, List.length_cons, List.length_nil, Nat.reduceAdd, Nat.reduceSub, Array.replicate_succ, Array.replicate_zero, List.push_toArray, List.append_toArray, List.nil_append, List.cons_append]
  gi_wp2
  go_ret
  exact ⟨rfl, rfl⟩

/-- A slice of bytes that came in, in blocks below n₀. -/
def BytB (n₀ : Nat) (W : World) (v : Value) (l : List UInt8) : Prop :=
  ∃ a cap, v = .slice a l.length cap ∧ l.length ≤ cap ∧ cap ≤ maxLen ∧ (a = none → cap = 0) ∧
    (l = [] ∨ ∃ b off, a = some ⟨b, off, none⟩ ∧ b < n₀ ∧ ∀ i, i < l.length → W.cell? ⟨b, off + i, none⟩ = some (bv (l.getD i 0)))
theorem BytB.of_byt {W : World} {v : Value} {l : List UInt8} (h : Byt W v l) : BytB W.heap.size W v l := by
  obtain ⟨a, cap, rfl, h1, h2, h3, h4⟩ := h
  refine ⟨a, cap, rfl, h1, h2, h3, ?_⟩
  by_cases hl : l = []
  · exact .inl hl
  · obtain ⟨b, off, rfl, hc⟩ := h4.resolve_left hl
    have h0 : 0 < l.length := List.length_pos_iff.2 hl
    exact .inr ⟨b, off, rfl, World.block_lt_of_cell? W _ (hc 0 h0), hc⟩
theorem BytB.below {n₀ : Nat} {A B : World} {v : Value} {l : List UInt8} (h : Below n₀ A B) (hb : BytB n₀ A v l) : BytB n₀ B v l := by
  obtain ⟨a, cap, rfl, h1, h2, h3, h4⟩ := hb
  refine ⟨a, cap, rfl, h1, h2, h3, h4.imp id ?_⟩
  rintro ⟨b, off, rfl, hb, hc⟩
  exact ⟨b, off, rfl, hb, fun i hi => (h.cell (p := ⟨b, off + i, none⟩) hb).trans (hc i hi)⟩

theorem leading_stops (F : Fence) (n : Nat) (hF : F.fn 29) (hro : F.round = none) (hn : 1 ≤ n) (Bs n₀ : Nat) (v : Value) (L : List UInt8) (w : World) (hBs : Bs < w.heap.size) (hn₀ : n₀ ≤ w.heap.size)
    (hc : w.cell? ⟨Bs, 0, none⟩ = some v) (hI : BytB n₀ w v L) :
    SeqStopsK F n Try.prog 29 #[.pointer (some ⟨Bs, 0, none⟩)] encP (Below n₀) (fun ys => ys = leadF 10 L 0) (fun pre => pre <+: leadF 10 L 0) 10 w := fun l J Jx W hW _ _ hY h0 => by
  have hc' := (hW.cell (p := ⟨Bs, 0, none⟩) hBs).trans hc
  obtain ⟨a, cap, rfl, h1, h2, h3, rfl | ⟨b, off, rfl, hb, hcs⟩⟩ := hI.below (hW.mono hn₀)
  · exact (leading1_nil_in F n hF hro l Bs cap a h3 J W hc' h0).mono fun e W' ⟨he, hj⟩ => ⟨he, .inl ⟨_, rfl, hj⟩⟩
  · exact leading1_in F n hF hro hn l Bs n₀ b off cap L hb h1 (by unfold maxLen at h2; omega) J Jx hY W hc' hcs h0
end
end Go.Proofs.Ytbdfgbobipognaa
