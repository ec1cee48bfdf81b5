/-
  Words of 32 bits as they stand in the machine, and what the operations make of them.
-/
import Derived.Test.YtkehcpjianadjaaDoorGen
import Derived.Laws.BitsAllLaws
import Derived.Outline
import Derived.RegionTactic
import Derived.Laws.MakeOwn
namespace Go.Proofs.YtkehcpjianadjaaDoor
open Go.RowKit
set_option linter.unusedVariables false
set_option linter.unusedSimpArgs false

theorem info32 : (Tryd.prog.info? 44).map (fun i => (i.zero, i.size, i.bytes)) = some (some (.int .u32 0), 1, 4) := by kernel_rfl
/-- A word's number; not to be opened by the walk. -/
def wn (x : UInt32) : Int := (x.toNat : Int)
theorem wn_def (x : UInt32) : wn x = (x.toNat : Int) := rfl
theorem wn_nonneg (x : UInt32) : 0 ≤ wn x := by unfold wn; omega
theorem wn_lt (x : UInt32) : wn x < 4294967296 := by unfold wn; have := x.toNat_lt; omega
def wv (x : UInt32) : Value := .int .u32 (wn x)
theorem wrap32 (x : Int) : IntKind.u32.wrap x = x % 4294967296 := by
  simp only [IntKind.wrap]
  simp [IntKind.bits, IntKind.signed]
theorem wn_add (x y : UInt32) : IntKind.u32.wrap (wn x + wn y) = wn (x + y) := by
  rw [wrap32]; unfold wn; rw [UInt32.toNat_add]; omega
theorem wn_xor (x y : UInt32) : bits .xor .u32 (wn x) (wn y) = wn (x ^^^ y) := by
  unfold wn; rw [UInt32.toNat_xor]; exact u32_xor_nat _ _ x.toNat_lt y.toNat_lt
theorem wn_and (x y : UInt32) : bits .and .u32 (wn x) (wn y) = wn (x &&& y) := by
  unfold wn; rw [UInt32.toNat_and]; exact u32_and_nat _ _ x.toNat_lt y.toNat_lt
theorem wn_or (x y : UInt32) : bits .or .u32 (wn x) (wn y) = wn (x ||| y) := by
  unfold wn; rw [UInt32.toNat_or]; exact u32_or_nat _ _ x.toNat_lt y.toNat_lt
theorem wn_not (x : UInt32) : bits .xor .u32 IntKind.u32.max (wn x) = wn (~~~x) := by
  have h : ~~~x = (4294967295 : UInt32) ^^^ x := by
    apply UInt32.toBitVec_inj.1
    rw [UInt32.toBitVec_not, UInt32.toBitVec_xor, BitVec.xor_comm]
    exact BitVec.xor_allOnes.symm
  rw [h]
  exact wn_xor 4294967295 x
theorem wn_shr (x : UInt32) (k : Nat) (hk : k < 32) : wn x / 2 ^ k = wn (x >>> UInt32.ofNat k) := by
  unfold wn
  have h : (x >>> UInt32.ofNat k).toNat = x.toNat / 2 ^ k := by
    rw [UInt32.toNat_shiftRight, UInt32.toNat_ofNat', Nat.shiftRight_eq_div_pow, Nat.mod_eq_of_lt (by omega : k < 2 ^ 32), Nat.mod_eq_of_lt hk]
  rw [h]
  simp
theorem wn_shl (x : UInt32) (k : Nat) (hk : k < 32) : IntKind.u32.wrap (wn x * 2 ^ k) = wn (x <<< UInt32.ofNat k) := by
  rw [wrap32]
  unfold wn
  have h : (x <<< UInt32.ofNat k).toNat = x.toNat * 2 ^ k % 4294967296 := by
    rw [UInt32.toNat_shiftLeft, UInt32.toNat_ofNat', Nat.shiftLeft_eq, Nat.mod_eq_of_lt (by omega : k < 2 ^ 32), Nat.mod_eq_of_lt hk]
  rw [h]
  simp
theorem wn_byte (b : UInt8) : IntKind.u32.wrap (b.toNat : Int) = wn b.toUInt32 := by
  rw [wrap32]; unfold wn; rw [UInt8.toNat_toUInt32]; have := b.toNat_lt; omega
theorem wn_low (x : UInt32) : wn x % 256 = ((x.toUInt8.toNat : Nat) : Int) := by
  unfold wn; rw [UInt32.toNat_toUInt8]; omega

/-- A word turned n bits to the right. -/
def rotr (x : UInt32) (n : Nat) : UInt32 := x >>> UInt32.ofNat n ||| x <<< UInt32.ofNat (32 - n)

theorem refTurn (x : UInt32) (n : Nat) (h1 : 1 ≤ n) (h2 : n < 32) (w : World) :
    Calls Tryd.prog 27 #[.int .u32 (wn x), .int .i64 (n : Int)] w fun e w' => e = .returned (.int .u32 (wn (rotr x n))) ∧ w' = w.drew := by
  have e1 := wn_shr x n h2
  have e2 := wn_shl x (32 - n) (by omega)
  have e3 := wn_or (x >>> UInt32.ofNat n) (x <<< UInt32.ofNat (32 - n))
  have hn : (32 : Int) - (n : Int) = ((32 - n : Nat) : Int) := by omega
  go_enter Tryd.func27, Tryd.ntmps27
  go_wp2
  go_region
  go_wp2
  go_ret
  exact ⟨rfl, rfl⟩
end Go.Proofs.YtkehcpjianadjaaDoor
