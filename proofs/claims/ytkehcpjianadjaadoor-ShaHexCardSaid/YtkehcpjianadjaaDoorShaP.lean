/-
  A digest's text and back, as pure functions.
-/
import Derived.Test.YtkehcpjianadjaaDoorShaQ
namespace Go.Proofs.YtkehcpjianadjaaDoor

theorem isD_hexd (q : Nat) (h : q < 16) : isD (hexd q) = true ∧ valD (hexd q) = UInt8.ofNat q := by
  have key : ∀ q : Fin 16, isD (hexd q.val) = true ∧ valD (hexd q.val) = UInt8.ofNat q.val := by decide
  exact key ⟨q, h⟩
theorem hexF_all (l : List UInt8) : (hexF l).all isD = true := by
  induction l with
  | nil => rfl
  | cons b l ih =>
    have hb := b.toNat_lt
    have e : hexF (b :: l) = hexd (b.toNat / 16) :: hexd (b.toNat % 16) :: hexF l := by simp [hexF]
    rw [e, List.all_cons, List.all_cons, (isD_hexd _ (by omega)).1, (isD_hexd _ (by omega)).1, ih]
    rfl
theorem hexF_get (l : List UInt8) : ∀ j, j < l.length → (hexF l).getD (2 * j) 0 = hexd ((l.getD j 0).toNat / 16) ∧ (hexF l).getD (2 * j + 1) 0 = hexd ((l.getD j 0).toNat % 16) := by
  induction l with
  | nil => intro j h; simp at h
  | cons b l ih =>
    intro j h
    have e : hexF (b :: l) = hexd (b.toNat / 16) :: hexd (b.toNat % 16) :: hexF l := by simp [hexF]
    rw [e]
    cases j with
    | zero => exact ⟨rfl, rfl⟩
    | succ j =>
      have := ih j (by simpa using h)
      rw [show 2 * (j + 1) = 2 * j + 1 + 1 by omega, show 2 * j + 1 + 1 + 1 = (2 * j + 1) + 1 + 1 by omega]
      simpa using this
theorem nibbles (b : UInt8) : UInt8.ofNat (b.toNat / 16) * 16 + UInt8.ofNat (b.toNat % 16) = b := by
  have hb := b.toNat_lt
  apply UInt8.toNat_inj.1
  rw [UInt8.toNat_add, UInt8.toNat_mul, UInt8.toNat_ofNat', UInt8.toNat_ofNat']
  have : (16 : UInt8).toNat = 16 := rfl
  rw [this]
  omega
theorem parse_hex (l : List UInt8) (hl : l.length = 32) : parseF (hexF l) = (l, true) := by
  have h64 : (hexF l).length = 64 := by rw [hexF_length]; omega
  unfold parseF
  rw [if_pos ⟨h64, hexF_all l⟩]
  congr 1
  apply List.ext_getElem
  · rw [partL_length, hl]
  · intro j h1 h2
    have hj : j < l.length := h2
    simp only [partL, List.getElem_map, List.getElem_range]
    unfold partD
    have hb := (l.getD j 0).toNat_lt
    rw [if_pos (by omega), (hexF_get l j hj).1, (hexF_get l j hj).2, (isD_hexd _ (by omega)).2, (isD_hexd _ (by omega)).2, nibbles]
    simp [List.getD, hj]
def abcT : List UInt8 := [98, 97, 55, 56, 49, 54, 98, 102, 56, 102, 48, 49, 99, 102, 101, 97, 52, 49, 52, 49, 52, 48, 100, 101, 53, 100, 97, 101, 50, 50, 50, 51, 98, 48, 48, 51, 54, 49, 97, 51, 57, 54, 49, 55, 55, 97, 57, 99, 98, 52, 49, 48, 102, 102, 54, 49, 102, 50, 48, 48, 49, 53, 97, 100]
theorem parse_abc : parseF abcT = (abcD, true) := by decide +kernel
theorem parse_BA : (parseF [66, 65]).2 = false := by decide +kernel
theorem hex_abc : hexF abcD = abcT := by decide +kernel
end Go.Proofs.YtkehcpjianadjaaDoor
