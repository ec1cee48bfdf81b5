/-
  Pages as the document has them, as plain Lean: what is sealed, what is opened, when two are the same.
-/
import Derived.Test.YtfgnniajancpcaaCrcF
import Derived.Test.YtfgnniajancpcaaVintF
namespace Go.Proofs.Ytfgnniajancpcaa
open Go.RowKit
set_option linter.unusedVariables false

structure Pg where
  kind : Int
  lsn : Nat
  body : List UInt8

def isK (k : Int) : Bool := decide (1 ≤ k ∧ k ≤ 5)
def zeroP : Pg := ⟨0, 0, []⟩
def fitsP (p : Pg) : Bool := isK p.kind && decide (p.body.length = 243)
def contentP (p : Pg) : List UInt8 := UInt8.ofNat p.kind.toNat :: (fixG 8 p.lsn ++ p.body)
def sealP (p : Pg) : List UInt8 × Nat := if fitsP p = true then (putC (contentP p), 0) else ([], 50)
def ofC (l : List UInt8) : Pg := ⟨((l.getD 0 0).toNat : Int), numG ((l.drop 1).take 8), l.drop 9⟩
def openP (l : List UInt8) : Pg × Nat :=
  if l.length = 256 then
    if (checkC l).2 = true then
      if isK (ofC (checkC l).1).kind = true then (ofC (checkC l).1, 0) else (zeroP, 50)
    else (zeroP, 51)
  else (zeroP, 50)
def sameP (p q : Pg) : Bool := p.kind == q.kind && (p.lsn == q.lsn && p.body == q.body)

theorem sameP_iff (p q : Pg) : sameP p q = true ↔ p = q := by
  cases p; cases q
  simp [sameP]
theorem isK_iff (k : Int) : isK k = true ↔ 1 ≤ k ∧ k ≤ 5 := by simp [isK]
theorem fitsP_iff (p : Pg) : fitsP p = true ↔ (1 ≤ p.kind ∧ p.kind ≤ 5) ∧ p.body.length = 243 := by simp [fitsP, isK_iff]
theorem contentP_length (p : Pg) : (contentP p).length = p.body.length + 9 := by
  simp [contentP, fixG_length]
  omega
theorem ofC_content (p : Pg) (h : fitsP p = true) (hn : p.lsn < 18446744073709551616) : ofC (contentP p) = p := by
  obtain ⟨⟨h1, h5⟩, _⟩ := (fitsP_iff p).1 h
  cases p with
  | mk k n b =>
    simp only at h1 h5 hn ⊢
    unfold ofC contentP
    simp only [List.getD_cons_zero, List.drop_succ_cons, List.drop_zero]
    rw [List.take_append_of_le_length (by rw [fixG_length]; omega), List.take_of_length_le (by rw [fixG_length]; omega), numG_fix]
    have hd : List.drop 8 (fixG 8 n ++ b) = b := by
      rw [List.drop_append_of_le_length (by rw [fixG_length]; omega), List.drop_of_length_le (by rw [fixG_length]; omega)]; rfl
    rw [hd, UInt8.toNat_ofNat', Nat.mod_eq_of_lt (by omega)]
    congr 1
    · omega
    · exact Nat.mod_eq_of_lt (by omega)
theorem open_seal (p : Pg) (h : fitsP p = true) (hn : p.lsn < 18446744073709551616) : openP (putC (contentP p)) = (p, 0) := by
  have hl := contentP_length p
  obtain ⟨hk, hb⟩ := (fitsP_iff p).1 h
  unfold openP
  rw [checkC_put, putC_length, hl, hb, if_pos rfl, if_pos rfl, ofC_content p h hn, if_pos ((isK_iff _).2 hk)]
theorem seal_inj (p q : Pg) (h : fitsP p = true) (hq : fitsP q = true) (hn : p.lsn < 18446744073709551616) (hm : q.lsn < 18446744073709551616) (he : putC (contentP p) = putC (contentP q)) : p = q := by
  have h1 := open_seal p h hn
  rw [he, open_seal q hq hm] at h1
  exact (congrArg Prod.fst h1).symm
theorem open_turned (p : Pg) (i : Nat) (x : UInt8) (h : fitsP p = true) (hi : i < 256) (hx : x.toNat ≠ 0) : openP ((putC (contentP p)).set i ((putC (contentP p)).getD i 0 ^^^ x)) = (zeroP, 51) := by
  have hl := contentP_length p
  obtain ⟨_, hb⟩ := (fitsP_iff p).1 h
  unfold openP
  rw [byte_turned (contentP p) i x (by omega) hx, List.length_set, putC_length, hl, hb, if_pos rfl, if_neg (by simp)]
theorem check_len (l : List UInt8) (h : (checkC l).2 = true) : (checkC l).1.length + 4 = l.length := by
  unfold checkC at h ⊢
  by_cases h4 : l.length < 4
  · rw [if_pos h4] at h; cases h
  · rw [if_neg h4] at h ⊢
    split at h
    · rename_i he
      rw [if_pos he]
      simp
      omega
    · cases h
end Go.Proofs.Ytfgnniajancpcaa
