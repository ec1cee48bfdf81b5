/-
  Small laws that every stage's walks use: what a byte's type is, slices that read as lists, the end of a law's body.
-/
import Derived.Test.YtfndkkcfanacbaaChecked
import Derived.Test.YtfndkkcfanacbaaByt
namespace Go.Proofs.Ytfndkkcfanacbaa
open Go.RowKit
set_option linter.unusedVariables false

theorem take_snoc (l : List UInt8) (k : Nat) (hk : k < l.length) : l.take (k + 1) = l.take k ++ [l.getD k 0] := by
  rw [List.take_succ_eq_append_getElem hk]; simp [List.getD, hk]
theorem info5 : (Try.prog.info? 5).map (fun i => (i.zero, i.size, i.bytes)) = some (some (.int .u8 0), 1, 1) := by kernel_rfl
theorem own_snoc {e : TypeId} {B : Nat} {W : World} {v : Value} {n : Nat} {xs : List Value} {l : List UInt8} (h : W.ownsRow B e 1 v n xs) (hn : n = l.length) (hx : xs = l.map bv) : Own e B W v l := by
  subst hn; subst hx; exact h
theorem get_drop (l : List UInt8) (k : Nat) (hk : k < l.length) : l.drop k = l.getD k 0 :: l.drop (k + 1) := by
  rw [List.drop_eq_getElem_cons hk]; simp [List.getD, hk]
theorem Own.empty (e : TypeId) (B : Nat) (W : World) (hB : B ≤ W.heap.size) : Own e B (W.alloc (.cells #[] e)) (.slice (some ⟨W.heap.size, 0, none⟩) 0 0) [] := by
  have := Own.lit e B W [] hB (by simp)
  simpa using this
theorem Byt.slice {W : World} {v : Value} {l : List UInt8} (h : Byt W v l) : ∃ a cap, v = .slice a l.length cap := by
  obtain ⟨a, cap, e, _⟩ := h
  exact ⟨a, cap, e⟩
theorem retTrue {P : Program} {fn : Func} {t : Tmp} {a : Act} {w0 W : World} (hr : fn.results = #[.tmp t]) (hd : a.defers = []) (h0 : a.tmps.getD t undef = .bool true) (hg : Grows w0 W) :
    bodyPost P fn (fun e w' => e = .returned (.bool true) ∧ Grows w0 w') .ret a W :=
  bodyPost_ret (results_tmp hr _ _ _) hd ⟨by rw [h0], hg⟩
theorem takeN (l : List Nat) (k : Nat) (hk : k < l.length) : l.take (k + 1) = l.take k ++ [l.getD k 0] := by
  rw [List.take_succ_eq_append_getElem hk]; simp [List.getD, hk]
theorem dropN (l : List Nat) (k : Nat) (hk : k < l.length) : l.drop k = l.getD k 0 :: l.drop (k + 1) := by
  rw [List.drop_eq_getElem_cons hk]; simp [List.getD, hk]
/-- What came in as a slice of 64-bit numbers. -/
theorem words_of_row {w : World} {a : Option Addr} {len cap : Nat} {zs : List Int}
    (h : (a = none ∧ len = 0 ∧ cap = 0 ∧ zs = []) ∨
      ∃ x, a = some x ∧ len ≤ cap ∧ cap ≤ maxLen ∧ zs.length = cap ∧ (∀ i, i < zs.length → w.cell? (x.add i) = some (.int .u64 (zs.getD i 0))) ∧ ∀ n ∈ zs, (Lit.int .u64 n).wf = true) :
    ∃ ns : List Nat, len = ns.length ∧ (∀ i, ns.getD i 0 < 18446744073709551616) ∧ (ns = [] ∨ ∃ b off, a = some ⟨b, off, none⟩ ∧ ∀ i, i < ns.length → w.cell? ⟨b, off + i, none⟩ = some (.int .u64 ((ns.getD i 0 : Nat) : Int))) := by
  rcases h with ⟨rfl, rfl, rfl, rfl⟩ | ⟨x, rfl, h1, h2, h3, h4, h5⟩
  · exact ⟨[], rfl, by simp, .inl rfl⟩
  · have hl : ((zs.take len).map Int.toNat).length = len := by simp; omega
    have hin : ∀ i, i < zs.length → 0 ≤ zs.getD i 0 ∧ zs.getD i 0 < 18446744073709551616 := fun i hi => by
      have hm : zs.getD i 0 ∈ zs := by
        rw [List.getD, List.getElem?_eq_getElem hi, Option.getD_some]
        exact List.getElem_mem _
      have hwf := h5 _ hm
      simp [Lit.wf, IntKind.min, IntKind.max, IntKind.bits, IntKind.signed] at hwf
      simp [List.getD] at *
      omega
    have e1 : ∀ i, i < len → ((zs.take len).map Int.toNat).getD i 0 = (zs.getD i 0).toNat := fun i hi => by
      simp [List.getD, hi, show i < zs.length by omega]
    refine ⟨(zs.take len).map Int.toNat, hl.symm, fun i => ?_, ?_⟩
    · by_cases hi : i < len
      · rw [e1 i hi]
        have := hin i (by omega)
        omega
      · have : ((zs.take len).map Int.toNat).getD i 0 = 0 := by
          rw [List.getD, List.getElem?_eq_none (by omega)]; rfl
        omega
    · by_cases h0 : len = 0
      · left; subst h0; simp
      · right
        obtain ⟨b, off, spot⟩ := x
        have hc := h4 0 (by omega)
        have hspot : spot = none := by simpa [Addr.add] using World.cell?_spot hc
        subst hspot
        refine ⟨b, off, rfl, fun i hi => ?_⟩
        rw [hl] at hi
        have hci := h4 i (by omega)
        rw [Addr.add_lit] at hci
        have := hin i (by omega)
        rw [hci, e1 i hi]
        congr 2
        omega

/-! Bytes of the call's own, one by one. -/
theorem Own.form {e : TypeId} {B : Nat} {W : World} {v : Value} {l : List UInt8} (h : Own e B W v l) (hn : 0 < l.length) : ∃ g cap, v = .slice (some ⟨g, 0, none⟩) l.length cap ∧ B ≤ g := by
  rcases h.2 with ⟨_, h0⟩ | ⟨g, cap, _, hv, hg, _⟩
  · omega
  · exact ⟨g, cap, hv, hg⟩
theorem Own.cell {e : TypeId} {B : Nat} {W : World} {g n cap : Nat} {l : List UInt8} (h : Own e B W (.slice (some ⟨g, 0, none⟩) n cap) l) (j : Nat) (hj : j < l.length) : W.cell? ⟨g, j, none⟩ = some (bv (l.getD j 0)) := by
  have hn : n = l.length := h.byt.len
  subst hn
  rw [World.ownsRow.cellAt h j (by omega)]
  simp [List.getD, hj]
theorem Own.unfrozen {e : TypeId} {B : Nat} {W : World} {g n cap : Nat} {l : List UInt8} (h : Own e B W (.slice (some ⟨g, 0, none⟩) n cap) l) (j : Nat) : W.frozen? ⟨g, j, none⟩ = false := by
  have hn : n = l.length := h.byt.len
  subst hn
  exact World.ownsRow.frozenAt h j
theorem Own.store {e : TypeId} {B : Nat} {W : World} {g n cap : Nat} {l : List UInt8} (h : Own e B W (.slice (some ⟨g, 0, none⟩) n cap) l) (j : Nat) (d : UInt8) : Own e B (W.setCell ⟨g, j, none⟩ (bv d)) (.slice (some ⟨g, 0, none⟩) n cap) (l.set j d) := by
  have hn : n = l.length := h.byt.len
  subst hn
  have := (World.ownsRow.stored h j (bv d)).1
  unfold Own
  rw [List.length_set, List.map_set]
  exact this

theorem nat_of_u32 {a : Int} (h : (Lit.int .u32 a).wf = true) : ∃ n : Nat, a = n ∧ n < 4294967296 := by
  simp [Lit.wf, IntKind.min, IntKind.max, IntKind.bits, IntKind.signed] at h
  exact ⟨a.toNat, by omega, by omega⟩
theorem byte_of_u8 {a : Int} (h : (Lit.int .u8 a).wf = true) : ∃ x : UInt8, a = (x.toNat : Int) := by
  simp [Lit.wf, IntKind.min, IntKind.max, IntKind.bits, IntKind.signed] at h
  exact ⟨UInt8.ofNat a.toNat, by rw [UInt8.toNat_ofNat']; omega⟩
theorem range_of_i64 {a : Int} (h : (Lit.int .i64 a).wf = true) : -9223372036854775808 ≤ a ∧ a ≤ 9223372036854775807 := by
  simp [Lit.wf, IntKind.min, IntKind.max, IntKind.bits, IntKind.signed] at h
  omega
end Go.Proofs.Ytfndkkcfanacbaa
