/-
  slices.Chunk: bytes handed out in parts of 64.
-/
import Derived.Test.YtoppcpiheaedlaaGreatDoorSv
import Derived.Test.YtoppcpiheaedlaaGreatDoorKitL
namespace Go.Proofs.YtoppcpiheaedlaaGreatDoor
open Go.RowKit
set_option linter.unusedVariables false
set_option linter.unusedSimpArgs false

section
variable {P : Program} {ops : Array Oper} {a0 : Act} {w0 : World} {Q : Exit → Act → World → Prop} {E : World → World → Prop}
theorem opRule_wide (n : Nat) (P : Program) (ops : Array Oper) (Q : Exit → Act → World → Prop) : OpRule P ops (wpOpIn Fence.wide n P ops Q) where
  does := fun i o a W Ψ K ho hw h hK => by
    unfold wpOpIn
    simp only [ho, hw, if_true]
    refine ⟨fun _ _ => trivial, ?_⟩
    rw [show Fence.wide.round = none from rfl, Oper.semAt_none]
    unfold StepOk at h
    generalize (execOp a.eval o).run P W = r at *
    cases r with
    | ok x w' =>
      cases x <;> simp only at h <;> simp only [Oper.uponIn] <;> first
        | exact hK _ _ h
        | exact ⟨fun h => by simp [Fence.wide] at h, CallsIn.mono (show CallsIn Fence.wide (n - 1) P _ _ _ _ from (callsIn_wide (n := n - 1)).2 h) (fun e w'' he => by obtain ⟨v, rfl, hv⟩ := he; exact hK _ _ hv)⟩
    | halt x w' => simp only at h
  skips := fun i o a W K ho hw h => by
    unfold wpOpIn
    simp only [ho, hw]
    exact ⟨fun f hf => trivial, h⟩
theorem specs_wide {id n : Nat} (pre org : Array (List Nat)) (run : Array Bool) (specs : Array Spec) (hm : P.follows .mixedOrders = true) (hchk : regionChk ops a0.tmps.size ops.size pre org run = true)
    (hg : guardChk ops run specs = true)
    (hs : AllReq (fun i => if i = ops.size then True else StepReq P ops pre org run (phi specs) a0 w0 i) (List.range ops.size))
    (hQ : ∀ a W, AllBut ops ops.size (phi specs) a0 w0 a W → Q .normal a W) :
    (Code.region id ops true).wpIn Fence.wide n P Q a0 w0 := by
  refine wpIn_region_any hm ?_
  rw [anyOf_wpAnyIn]
  exact facts_any (last := ops.size) (Φ := phi specs) (opRule_wide n P ops Q) hchk (fun _ _ _ _ g h => Spec.grows g h) (guards_ok hg) hs (fun o ho => by simp at ho) (fun _ => hQ) ops.size _ a0 _ (by simp) (by simp) rinv0
theorem region_R_last {id l n : Nat} (hE : ExtOk E) (hEG : ∀ {a b}, Grows a b → E a b) (last : Nat) (pre org : Array (List Nat)) (run : Array Bool) (specs : Array (SpecL E)) (T : StateK)
    (hks : ∀ i s W W', i ∉ T.kl.getD s [] → T.made.getD s none ≠ some i → T.rel E i W W' → T.Ψ s W → T.Ψ s W') (hi : ∀ s, T.made.getD s none = none → T.Ψ s { w0 with drawn := w0.drawn + 1 })
    (hm : P.follows .mixedOrders = true ∧ noDefer ops = true) (hchk : regionChk ops a0.tmps.size last pre org run = true) (hkd : T.chk ops.size pre = true) (hfr : fragChk T.muts pre specs = true)
    (hg : guardChkL ops run specs = true) {o : Oper} (ho : ops[last]? = some o)
    (hs : AllReq (fun i => if i = last then True else StepReqK E T P ops pre org run (phiL specs) a0 w0 i) (List.range ops.size))
    (hlast : ∀ a W, AllButK E T ops last (phiL specs) a0 w0 a W → StepOk P o a.eval W (fun v W' => Q .normal (a.put o.dst v) W')) :
    (Code.region id ops true).wpIn (Fence.wide.inRound l) n P Q a0 w0 := by
  refine wpIn_region_any hm.1 ?_
  rw [anyOf_wpAnyIn]
  exact facts_anyL (last := last) (Φ := phiL specs) hE (opRule_round l n P ops Q hm.2) hchk (fun i j v W W' h1 h2 h3 h4 => SpecL.stays hEG hfr h1 h2 h3 h4) hEG hks hkd (guards_okL hg) hs (fun o' ho' => by rw [ho] at ho'; obtain rfl := Option.some.inj ho'; exact hlast) (fun h => by have := (Array.getElem?_eq_some_iff.1 ho).1; omega) ops.size _ a0 _ (by simp) (by simp) (rinv0K hE hi)
end

theorem fin_take {N : Nat} (k : Nat) (hk : k < N) : (List.finRange N).take (k + 1) = (List.finRange N).take k ++ [⟨k, hk⟩] := by
  rw [List.take_succ_eq_append_getElem (by simpa using hk)]
  simp
/-- A part, as yield takes it. -/
def encC (g off N : Nat) (x : Fin N) : Array Value := #[.slice (some ⟨g, off + x.1 * 64, none⟩) 64 64]
def cellK (a b : Nat) (W W' : World) : Prop := ∀ k, k = a ∨ k = b → ∀ u, W.cell? ⟨k, 0, none⟩ = some u → W'.cell? ⟨k, 0, none⟩ = some u
theorem cellK.trans {a b : Nat} {A B C : World} (h : cellK a b A B) (k : cellK a b B C) : cellK a b A C := fun i hi u hu => k i hi u (h i hi u hu)

section
attribute [local go_sem] Oper.semAt_some

set_option maxRecDepth 100000 in
set_option maxHeartbeats 4000000 in
theorem chunk1_in (n : Nat) (hn : 1 ≤ n) (l Bs Bn N g off cap : Nat) (a : Option Addr) (ha : 0 < N → a = some ⟨g, off, none⟩) (hcap : N * 64 ≤ cap) (hm : cap ≤ 9223372036854775807) (hN : N ≤ 4096) (J Jx : List (Fin N) → World → Prop)
    (hY : ∀ pre x W, J pre W → pre.length < N → YieldAt Fence.wide (n - 1) Tryz.prog l (encC g off N x) W fun e W' =>
      (e = .returned (.bool true) ∧ J (pre ++ [x]) W' ∧ cellK Bs Bn W W') ∨ (e = .returned (.bool false) ∧ Jx (pre ++ [x]) W'))
    (W : World) (hBs : W.cell? ⟨Bs, 0, none⟩ = some (.slice a (N * 64) cap)) (hBn : W.cell? ⟨Bn, 0, none⟩ = some (.int .i64 64)) (h0 : J [] W) (hJ' : ∀ pre W, J pre W → J pre W.drew) :
    CallsIn Fence.wide n Tryz.prog 132 #[.func (.yield l) #[] #[], .pointer (some ⟨Bs, 0, none⟩), .pointer (some ⟨Bn, 0, none⟩)] W fun e W' => (∃ v, e = .returned v) ∧
      ((∃ ys, ys = List.finRange N ∧ J ys W') ∨ (∃ pre, pre <+: List.finRange N ∧ Jx pre W')) := by
  have hmx : Tryz.prog.follows .mixedOrders = true := by kernel_rfl
  refine callsIn_of_wp Tryz.func132 rfl trivial ?_ rfl
  simp only [Tryz.ntmps132, List.size_toArray, List.length_cons, List.length_nil, Nat.reduceAdd, Nat.reduceSub, Array.replicate_succ, Array.replicate_zero, List.push_toArray, List.append_toArray, List.nil_append, List.cons_append]
  obtain ⟨L, HL⟩ : ∃ L, Hid (N * 64 = L) := ⟨_, rfl⟩
  rw [HL.out] at hBs hcap
  have hLI : (L : Int) ≤ 262144 := by have := HL.out; omega
  gi_wp2
  gi_loopw [4] (fun t4 wr => ∃ (k : Nat), k ≤ N ∧ t4 = .int .i64 ((k * 64 : Nat) : Int) ∧ J ((List.finRange N).take k) wr ∧ wr.cell? ⟨Bs, 0, none⟩ = some (.slice a L cap) ∧ wr.cell? ⟨Bn, 0, none⟩ = some (.int .i64 64))
    (fun t4 _ => L - (intOf t4).toNat)
  case atStart => exact ⟨0, by omega, rfl, h0, hBs, hBn⟩
  case round =>
    obtain ⟨k, hk, rfl, hJ, hcs, hcn⟩ := hrel
    obtain ⟨K, HK⟩ : ∃ K, Hid (k * 64 = K) := ⟨_, rfl⟩
    rw [HK.out]
    by_cases hlt : (K : Int) < (L : Int)
    · have hkN : k < N := by have := HL.out; have := HK.out; omega
      obtain rfl := ha (by omega)
      have hK0 : (0 : Int) ≤ (K : Int) := by omega
      have hKL : (K : Int) ≤ (L : Int) := by omega
      have hmin : (64 : Int) ≤ (L : Int) - (K : Int) := by have := HL.out; have := HK.out; omega
      have hlen : (List.take k (List.finRange N)).length = k := by simp; omega
      obtain ⟨fn, tmps, assign, body, hy, hR⟩ := hY _ ⟨k, hkN⟩ (World.drew wr) (hJ' _ _ hJ) (by rw [hlen]; exact hkN)
      gi_wp2
      unfold encC at hy
      dsimp only at hy
      rw [HK.out] at hy
      have hmn : min (64 : Int) ((L - K : Nat) : Int) = 64 := by omega
      have hsub : ((K : Int) + 64).toNat - K = 64 := by omega
      have h264 : (K : Int) + 64 ≤ (L : Int) := by omega
      have hcapI : (L : Int) ≤ (cap : Int) := by omega
      have Htk : Hid (List.take (k + 1) (List.finRange N) = List.take k (List.finRange N) ++ [⟨k, hkN⟩]) := fin_take k hkN
      gi_region
      all_goals gi_wp2
      all_goals refine hR.mono ?_
      all_goals rintro e W3 (⟨rfl, hJ3, hk3⟩ | ⟨rfl, hJx3⟩)
      · have hc3 := hk3 Bs (.inl rfl) _ hcs
        have hc4 := hk3 Bn (.inr rfl) _ hcn
        gi_wp2
        go_roundw
        case rel => exact ⟨k + 1, by omega, by have := HK.out; simp; omega, by rw [Htk.out]; exact hJ3, hc3, hc4⟩
        case measure => simp [intOf]; omega
      · gi_wp2
        refine bodyPost_ret (results_none rfl _ _ _) rfl ?_
        exact ⟨⟨_, rfl⟩, .inr ⟨_, by rw [← Htk.out]; exact List.take_prefix _ _, hJx3⟩⟩
    · have hk : k = N := by have := HL.out; have := HK.out; omega
      subst hk
      gi_wp2
      go_end0
      refine ⟨⟨_, rfl⟩, .inl ?_⟩
      rw [List.take_of_length_le (by simp)] at hJ
      first | exact hJ | exact ⟨_, rfl, hJ⟩
end
end Go.Proofs.YtoppcpiheaedlaaGreatDoor
