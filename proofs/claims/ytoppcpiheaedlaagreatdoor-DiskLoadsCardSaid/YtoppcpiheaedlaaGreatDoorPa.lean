/-
  The program's disk: names; faults.
-/
import Derived.Test.YtoppcpiheaedlaaGreatDoorPd
namespace Go.Proofs.YtoppcpiheaedlaaGreatDoor
open Go.RowKit
set_option linter.unusedVariables false
set_option linter.unusedSimpArgs false
attribute [local go_sem] sv nv

set_option maxRecDepth 100000 in
theorem pMayName (c : UInt8) (w : World) : Calls Tryz.prog 115 #[.int .u8 (c.toNat : Int)] w fun e w' => e = .returned (.bool (nmByte c)) ∧ w' = w := by
  have hc46 : c = 46 ↔ c.toNat = 46 := ⟨fun h => by rw [h]; rfl, fun h => UInt8.toNat_inj.1 h⟩
  obtain ⟨b, Hb⟩ : ∃ b, Hid (nmByte c = b) := ⟨_, rfl⟩
  rw [Hb.out]
  by_cases hA : 97 ≤ c.toNat
  · by_cases hB : c.toNat ≤ 122
    · have hf0 : (97 : Int) ≤ (c.toNat : Int) := by omega
      have hf1 : (c.toNat : Int) ≤ 122 := by omega
      have hb : b = true := by rw [← Hb.out]; unfold nmByte; simp [hc46]; omega
      subst hb
      clear hc46
      go_enter Tryz.func115, Tryz.ntmps115
      go_wp2
      go_ret
      exact ⟨rfl, rfl⟩
    · have hf0 : (97 : Int) ≤ (c.toNat : Int) := by omega
      have hf1 : ¬ (c.toNat : Int) ≤ 122 := by omega
      have hf2 : (48 : Int) ≤ (c.toNat : Int) := by omega
      have hf3 : ¬ (c.toNat : Int) ≤ 57 := by omega
      have hf4 : ((c.toNat : Int) == 46) = false := by simp; omega
      have hb : b = false := by rw [← Hb.out]; unfold nmByte; simp [hc46]; omega
      subst hb
      clear hc46
      go_enter Tryz.func115, Tryz.ntmps115
      go_wp2
      go_ret
      exact ⟨rfl, rfl⟩
  · by_cases hC : 48 ≤ c.toNat
    · by_cases hD : c.toNat ≤ 57
      · have hf0 : ¬ (97 : Int) ≤ (c.toNat : Int) := by omega
        have hf1 : (48 : Int) ≤ (c.toNat : Int) := by omega
        have hf2 : (c.toNat : Int) ≤ 57 := by omega
        have hb : b = true := by rw [← Hb.out]; unfold nmByte; simp [hc46]; omega
        subst hb
        clear hc46
        go_enter Tryz.func115, Tryz.ntmps115
        go_wp2
        go_ret
        exact ⟨rfl, rfl⟩
      · have hf0 : ¬ (97 : Int) ≤ (c.toNat : Int) := by omega
        have hf1 : (48 : Int) ≤ (c.toNat : Int) := by omega
        have hf2 : ¬ (c.toNat : Int) ≤ 57 := by omega
        have hf4 : ((c.toNat : Int) == 46) = false := by simp; omega
        have hb : b = false := by rw [← Hb.out]; unfold nmByte; simp [hc46]; omega
        subst hb
        clear hc46
        go_enter Tryz.func115, Tryz.ntmps115
        go_wp2
        go_ret
        exact ⟨rfl, rfl⟩
    · by_cases hE : c.toNat = 46
      · have hf0 : ¬ (97 : Int) ≤ (c.toNat : Int) := by omega
        have hf1 : ¬ (48 : Int) ≤ (c.toNat : Int) := by omega
        have hf4 : ((c.toNat : Int) == 46) = true := by simp; omega
        have hb : b = true := by rw [← Hb.out]; unfold nmByte; simp [hc46]; omega
        subst hb
        clear hc46 hE
        go_enter Tryz.func115, Tryz.ntmps115
        go_wp2
        go_ret
        exact ⟨rfl, rfl⟩
      · have hf0 : ¬ (97 : Int) ≤ (c.toNat : Int) := by omega
        have hf1 : ¬ (48 : Int) ≤ (c.toNat : Int) := by omega
        have hf4 : ((c.toNat : Int) == 46) = false := by simp; omega
        have hb : b = false := by rw [← Hb.out]; unfold nmByte; simp [hc46]; omega
        subst hb
        clear hc46
        go_enter Tryz.func115, Tryz.ntmps115
        go_wp2
        go_ret
        exact ⟨rfl, rfl⟩

set_option maxRecDepth 100000 in
set_option maxHeartbeats 1000000 in
theorem pIsName (s : Nm) (hs : True) (w : World) :
    Calls Tryz.prog 100 #[sv s] w fun e w' => e = .returned (.bool (nameOK s)) ∧ w' = w := by
  unfold sv
  by_cases h1 : s.length < 1
  · have h1' : (s.length : Int) < 1 := by omega
    have hr : nameOK s = false := by unfold nameOK; simp; intro h; omega
    rw [hr]
    go_enter Tryz.func100, Tryz.ntmps100
    go_wp2
    go_ret
    exact ⟨rfl, rfl⟩
  · have h1' : ¬ (s.length : Int) < 1 := by omega
    by_cases h16 : 16 < s.length
    · have h16' : (16 : Int) < (s.length : Int) := by omega
      have hr : nameOK s = false := by unfold nameOK; simp; intro _ h; omega
      rw [hr]
      go_enter Tryz.func100, Tryz.ntmps100
      go_wp2
      go_ret
      exact ⟨rfl, rfl⟩
    · have h16' : ¬ (16 : Int) < (s.length : Int) := by omega
      have hr : nameOK s = s.all nmByte := by unfold nameOK; simp; intro _; omega
      rw [hr]
      have Hs16 := Lib.hid (show s.length ≤ 16 by omega)
      clear h16 h1 hr hs
      go_enter Tryz.func100, Tryz.ntmps100
      go_wp2
      go_loop [3, 14] (fun _ t3 => ∃ k : Nat, k ≤ s.length ∧ t3 = .int .i64 k ∧ Hid ((s.take k).all nmByte = true))
        (fun _ t3 => s.length - (intOf t3).toNat)
      case atStart => exact ⟨0, by omega, rfl, rfl⟩
      case round =>
        obtain ⟨k, hk, rfl, Hall⟩ := hrel
        by_cases hlt : k < s.length
        · have hlt' : (k : Int) < (s.length : Int) := by omega
          obtain ⟨c, Hc⟩ : ∃ c, Hid (s.getD k 0 = c) := ⟨_, rfl⟩
          have hget : ∀ h, ({ data := s.toArray } : ByteArray)[k]'h = c := fun h => by
            rw [← Hc.out]
            show s.toArray[k]'_ = _
            simp [List.getD, hlt]
          have Hsn : Hid ((s.take (k + 1)).all nmByte = nmByte c) := by
            show _ = _
            rw [take_snoc s k hlt, List.all_append, Hall.out, Hc.out]
            simp
          have Hbad : Hid (nmByte c = false → s.all nmByte = false) := fun hb => by
            rw [List.all_eq_false]
            refine ⟨c, ?_, by simp [hb]⟩
            rw [← Hc.out, List.getD, List.getElem?_eq_getElem hlt, Option.getD_some]
            exact List.getElem_mem hlt
          have Hlt := Lib.hid hlt
          have hk16 : (k : Int) < 16 := by have := Hs16.out; omega
          have HM := Lib.hid (pMayName c)
          obtain ⟨b, Hb⟩ : ∃ b, Hid (nmByte c = b) := ⟨_, rfl⟩
          rw [Hb.out] at HM Hsn Hbad
          clear hk hlt
          go_wp2_with fail
          refine (HM.out _).mono ?_
          rintro e w3 ⟨rfl, e3⟩
          have e4 := e3.symm
          subst e4
          cases b with
          | true =>
            go_wp2
            go_round
            case rel => exact ⟨k + 1, Hlt.out, by simp, Hsn.out⟩
            case measure => have := Hlt.out; simp [intOf]; omega
          | false =>
            have Hno : Hid (s.all nmByte = false) := Hbad.out rfl
            go_wp2
            go_ret
            exact ⟨by rw [Hno.out]; rfl, rfl⟩
        · have hlt' : ¬ (k : Int) < (s.length : Int) := by omega
          have Hyes : Hid (s.all nmByte = true) := by show _ = _; rw [← Hall.out, List.take_of_length_le (by omega)]
          go_wp2
          go_ret
          exact ⟨by rw [Hyes.out]; rfl, rfl⟩

/-- What a fault is: an error that wraps an Errno; none for no error. -/
def IsFault (W : World) (v : Value) (op nm : List UInt8) (code : Int) : Prop :=
  (code = 0 ∧ v = .nilIface) ∨ (code ≠ 0 ∧ ∃ b, v = .iface 77 (.pointer (some ⟨b, 0, none⟩)) ∧ W.heap[b]? = some (.cells #[sv op, sv nm, .iface 53 (.int .i64 code)] 81 (0, 0)))
theorem IsFault.grows {W W' : World} {v : Value} {op nm : List UInt8} {code : Int} (h : IsFault W v op nm code) (g : Grows W W') : IsFault W' v op nm code := by
  rcases h with h | ⟨h, b, e, hb⟩
  · exact .inl h
  · exact .inr ⟨h, b, e, g.heap' hb⟩
set_option maxRecDepth 100000 in
theorem pFault (op nm : List UInt8) (code : Int) (w : World) :
    Calls Tryz.prog 35 #[sv op, sv nm, .int .i64 code] w fun e w' => ∃ v, e = .returned v ∧ IsFault w' v op nm code ∧ Grows w w' := by
  unfold sv
  by_cases h0 : code = 0
  · subst h0
    go_enter Tryz.func35, Tryz.ntmps35
    go_wp2
    go_ret
    exact ⟨_, rfl, .inl ⟨rfl, rfl⟩, Below.refl _ _⟩
  · have hne : (code == 0) = false := by simpa using h0
    go_enter Tryz.func35, Tryz.ntmps35
    go_wp2
    go_ret
    exact ⟨_, rfl, .inr ⟨h0, _, rfl, heap_alloc_new _ _⟩, Grows.alloc' _ _⟩
end Go.Proofs.YtoppcpiheaedlaaGreatDoor
