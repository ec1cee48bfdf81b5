/-
  What the program's own sha is asked to do, as one structure of contracts: to be filled over the landed code. Law: api.Sum held against api.Sum.
-/
import Derived.Test.YtkehcpjianadjaaDoorShaP
import Derived.Test.YtkehcpjianadjaaDoorMat
import Derived.Stop.BytesEq
namespace Go.Proofs.YtkehcpjianadjaaDoor
open Go.RowKit
set_option linter.unusedVariables false

theorem eqArr (l : List UInt8) (hl : l.length = 32) (X : World) : (binOp .eql 25 (arr l) (arr l)).run Tryd.prog X = .ok (.bool true) X := by
  have h := run_eql_bytes (P := Tryd.prog) X 25 5 32 Tryd.underlying25 Tryd.underlying5 (fun w => by obtain ⟨i0, hi, hz0, hz1, hz2⟩ := info_parts info5; simp [sizeOf, typeInfo, hi, hz1]) l l hl hl
  rw [show (l == l) = true by simp] at h
  exact h
theorem guardOff : Tryd.prog.eqGuardType Tryd.prog.depth 25 = false := by kernel_rfl

/-- The table of the cube roots, as it is laid. -/
structure KW (w : World) : Prop where
  out : ∀ i, i < 64 → w.cell? ⟨0, i, none⟩ = some (.int .u32 (wn (kK.getD i 0)))
theorem KW.up {w w' : World} (h : KW w) (g : Grows w w') : KW w' := ⟨fun i hi => g.cell' (h.out i hi)⟩
/-- Blocks that were there and are not in O are as they were. -/
structure But (O : Nat → Prop) (w w' : World) : Prop where
  os : w'.os = w.os
  tape : w'.tape = w.tape
  output : w'.output = w.output
  size : w.heap.size ≤ w'.heap.size
  block : ∀ k, k < w.heap.size → ¬ O k → w'.heap[k]? = w.heap[k]?
theorem But.below {O : Nat → Prop} {w w' : World} {B : Nat} (h : But O w w') (hB : B ≤ w.heap.size) (hO : ∀ k, O k → B ≤ k) : Below B w w' :=
  ⟨h.os, h.tape, h.output, h.size, fun k hk => h.block k (by omega) (fun hk' => by have := hO k hk'; omega)⟩
/-- A slice whose bytes do not lie in O. -/
def Outside (O : Nat → Prop) (v : Value) : Prop := ∀ b off sp n c, v = .slice (some ⟨b, off, sp⟩) n c → n ≠ 0 → ¬ O b
theorem Byt.outside {w : World} {v : Value} {m : List UInt8} {O : Nat → Prop} (h : Byt w v m) (hO : ∀ k, O k → w.heap.size ≤ k) : Outside O v := by
  intro b off sp n c e hn hb
  obtain ⟨a, cap, e', h1, h2, h3, h4⟩ := h
  rw [e] at e'
  simp only [Value.slice.injEq] at e'
  obtain ⟨rfl, rfl, rfl⟩ := e'
  rcases h4 with rfl | ⟨b', off', e2, hc⟩
  · simp at hn
  · simp only [Option.some.injEq, Addr.mk.injEq] at e2
    obtain ⟨rfl, rfl, rfl⟩ := e2
    have := World.block_lt_of_cell? w _ (hc 0 (by omega))
    have := hO b hb
    simp at *
    omega

structure HashOK (H : World → Nat → List UInt8 → (Nat → Prop) → Prop) : Prop where
  kept : ∀ {W W' : World} {p : Nat} {l : List UInt8} {O : Nat → Prop}, H W p l O → (∀ k, O k → W'.heap[k]? = W.heap[k]?) → H W' p l O
  lt : ∀ {W : World} {p : Nat} {l : List UInt8} {O : Nat → Prop} {k : Nat}, H W p l O → O k → k < W.heap.size
  new : ∀ w : World, Calls Tryd.prog 11 #[] w fun e w' => ∃ p O, e = .returned (.pointer (some ⟨p, 0, none⟩)) ∧ H w' p [] O ∧ (∀ k, O k → w.heap.size ≤ k) ∧ Grows w w'
  write : ∀ (W : World) (p : Nat) (l : List UInt8) (O : Nat → Prop) (v : Value) (m : List UInt8), KW W → H W p l O → Byt W v m → Outside O v → l.length + m.length ≤ 1099511627776 →
    Calls Tryd.prog 12 #[.pointer (some ⟨p, 0, none⟩), v] W fun e W' => ∃ O', e = .returned (.int .i64 (m.length : Int)) ∧ H W' p (l ++ m) O' ∧ (∀ k, O' k → O k ∨ W.heap.size ≤ k) ∧ But O W W'
  sum : ∀ (W : World) (p : Nat) (l : List UInt8) (O : Nat → Prop), KW W → H W p l O → l.length ≤ 1099511627776 →
    Calls Tryd.prog 13 #[.pointer (some ⟨p, 0, none⟩)] W fun e W' => e = .returned (arr (shaF l)) ∧ Grows W W'
  writeNil : ∀ (W : World) (v : Value) (m : List UInt8), Byt W v m → Calls Tryd.prog 12 #[.pointer none, v] W fun e W' => e = .returned (.int .i64 0) ∧ Grows W W'
  sumNil : ∀ W : World, Calls Tryd.prog 13 #[.pointer none] W fun e W' => e = .returned (arr (List.replicate 32 0)) ∧ Grows W W'
  sumAll : ∀ (W : World) (v : Value) (ls : List (List UInt8)), KW W → BytL W v ls → ls.flatten.length ≤ 1099511627776 → Calls Tryd.prog 9 #[v] W fun e W' => e = .returned (arr (shaF ls.flatten)) ∧ Grows W W'
  hex : ∀ (W : World) (l : List UInt8), l.length = 32 → Calls Tryd.prog 16 #[arr l] W fun e W' => e = .returned (.string ⟨(hexF l).toArray⟩) ∧ Grows W W'
  parse : ∀ (W : World) (l : List UInt8), l.length ≤ 1099511627776 → Calls Tryd.prog 14 #[.string ⟨l.toArray⟩] W fun e W' => e = .returned (.tuple #[arr (parseF l).1, .bool (parseF l).2]) ∧ Grows W W'

theorem HashOK.grows {H : World → Nat → List UInt8 → (Nat → Prop) → Prop} (S : HashOK H) {W W' : World} {p : Nat} {l : List UInt8} {O : Nat → Prop} (h : H W p l O) (g : Grows W W') : H W' p l O :=
  S.kept h fun k hk => g.block k (S.lt h hk)
end Go.Proofs.YtkehcpjianadjaaDoor
