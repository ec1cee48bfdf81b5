/-
  'live' of the laws of sha, over whatever meets the contracts.
-/
import Derived.Test.YtkehcpjianadjaaDoorShaW
import Derived.Test.YtkehcpjianadjaaDoorKitK
import Derived.Lib.SlBytesConst
import Derived.Lib.SmallJoins
namespace Go.Proofs.YtkehcpjianadjaaDoor
open Go.RowKit
set_option linter.unusedVariables false
set_option linter.unusedSimpArgs false

theorem byt_litm (W : World) (e : TypeId) (fr : Nat × Nat) (l : List UInt8) (vs : Array Value) (g n : Nat) (hg : g = W.heap.size) (hn : n = l.length) (hl : l.length ≤ maxLen) (hv : (l.map bv).toArray = vs) :
    Byt (W.alloc (.cells vs e fr)) (.slice (some ⟨g, 0, none⟩) n n) l := by
  subst hv
  subst hn
  refine ⟨_, _, rfl, Nat.le_refl _, hl, fun h => (by cases h), .inr ⟨g, 0, rfl, fun i hi => ?_⟩⟩
  rw [Go.Joins.cell_alloc_mark_at _ _ _ _ _ _ hg]
  simp [List.getD, hi]

/-- Blocks below B are as they were; others may have been marked. -/
structure Marks (B : Nat) (w w' : World) : Prop where
  os : w'.os = w.os
  tape : w'.tape = w.tape
  output : w'.output = w.output
  size : w.heap.size ≤ w'.heap.size
  block : ∀ k, k < w.heap.size → w'.heap[k]? = w.heap[k]? ∨ (B ≤ k ∧ ∃ C e f f', w.heap[k]? = some (.cells C e f) ∧ w'.heap[k]? = some (.cells C e f'))
theorem Marks.ok (B : Nat) : ExtOk (Marks B) where
  refl := fun w => ⟨rfl, rfl, rfl, Nat.le_refl _, fun _ _ => .inl rfl⟩
  trans := fun {a b c} h k => ⟨k.os.trans h.os, k.tape.trans h.tape, k.output.trans h.output, Nat.le_trans h.size k.size, fun n hn => by
    rcases h.block n hn with h1 | ⟨h0, C, e, f, f', h1, h2⟩
    · rcases k.block n (Nat.lt_of_lt_of_le hn h.size) with k1 | ⟨k0, C', e', g, g', k1, k2⟩
      · exact .inl (k1.trans h1)
      · exact .inr ⟨k0, C', e', g, g', by rw [← h1]; exact k1, k2⟩
    · rcases k.block n (Nat.lt_of_lt_of_le hn h.size) with k1 | ⟨k0, C', e', g, g', k1, k2⟩
      · exact .inr ⟨h0, C, e, f, f', h1, k1.trans h2⟩
      · rw [h2] at k1
        simp only [Option.some.injEq, Obj.cells.injEq] at k1
        obtain ⟨rfl, rfl, _⟩ := k1
        exact .inr ⟨h0, C, e, f, g', h1, k2⟩⟩
  drew := fun w => ⟨rfl, rfl, rfl, Nat.le_refl _, fun _ _ => .inl rfl⟩
theorem Marks.ofGrows {B : Nat} {a b : World} (h : Grows a b) : Marks B a b := ⟨h.os, h.tape, h.output, h.size, fun k hk => .inl (h.block k hk)⟩
theorem Marks.below {B : Nat} {a b : World} (h : Marks B a b) (hB : B ≤ a.heap.size) : Below B a b := ⟨h.os, h.tape, h.output, h.size, fun k hk => by
  rcases h.block k (by omega) with h1 | ⟨h0, _⟩
  · exact h1
  · omega⟩
theorem Marks.cell {B : Nat} {a b : World} (h : Marks B a b) {p : Addr} {v : Value} (hc : a.cell? p = some v) : b.cell? p = some v := by
  rcases h.block p.block (World.block_lt_of_cell? a p hc) with h1 | ⟨_, C, e, f, f', h1, h2⟩
  · exact (World.cell?_of_block h1).trans hc
  · unfold World.cell? at hc ⊢
    rw [h1] at hc
    rw [h2]
    exact hc
theorem Marks.byt {B : Nat} {l : List UInt8} (v : Value) (a b : World) (g : Marks B a b) (h : Byt a v l) : Byt b v l := by
  obtain ⟨ad, cap, rfl, h1, h2, h3, h4⟩ := h
  refine ⟨ad, cap, rfl, h1, h2, h3, h4.imp id ?_⟩
  rintro ⟨bb, off, rfl, hc⟩
  exact ⟨bb, off, rfl, fun i hi => g.cell (hc i hi)⟩
theorem Marks.bytL {B : Nat} {ls : List (List UInt8)} (v : Value) (a b : World) (g : Marks B a b) (h : BytL a v ls) : BytL b v ls := by
  obtain ⟨ad, cap, rfl, h1, h2, h3, h4⟩ := h
  refine ⟨ad, cap, rfl, h1, h2, h3, h4.imp id ?_⟩
  rintro ⟨bb, off, rfl, hc⟩
  refine ⟨bb, off, rfl, fun i hi => ?_⟩
  obtain ⟨u, h5, h6⟩ := hc i hi
  exact ⟨u, g.cell h5, g.byt _ _ _ h6⟩
/-- A row of bytes in a block of its own, marked or not. -/
def RowAt (B : Nat) (C : Array Value) (e : TypeId) (n : Nat) (v : Value) (W : World) : Prop := ∃ g f, v = .slice (some ⟨g, 0, none⟩) n n ∧ B ≤ g ∧ W.heap[g]? = some (.cells C e f)
theorem RowAt.ext {B : Nat} {C : Array Value} {e : TypeId} {n : Nat} (v : Value) (a b : World) (g : Marks B a b) (h : RowAt B C e n v a) : RowAt B C e n v b := by
  obtain ⟨k, f, rfl, hk, hc⟩ := h
  rcases g.block k (Array.getElem?_eq_some_iff.1 hc).1 with h1 | ⟨_, C', e', f1, f', h1, h2⟩
  · exact ⟨k, f, rfl, hk, h1.trans hc⟩
  · rw [hc] at h1
    simp only [Option.some.injEq, Obj.cells.injEq] at h1
    obtain ⟨rfl, rfl, _⟩ := h1
    exact ⟨k, f', rfl, hk, h2⟩
theorem RowAt.byt {B : Nat} {e : TypeId} {n : Nat} {v : Value} {W : World} {l : List UInt8} (h : RowAt B (l.map bv).toArray e n v W) (hn : n = l.length) (hl : l.length ≤ maxLen) : Byt W v l := by
  obtain ⟨g, f, rfl, hk, hc⟩ := h
  subst hn
  refine ⟨_, _, rfl, Nat.le_refl _, hl, fun h => (by cases h), .inr ⟨g, 0, rfl, fun i hi => ?_⟩⟩
  rw [cell_of_row W g (0 + i) _ e f hc]
  simp [List.getD, hi]
/-- The conversion of a constant text: the row is marked. -/
theorem run_convert_mark {P : Program} {B : Nat} {t e : TypeId} {C : Array Value} {n : Nat} {v : Value} {W : World} (ht : P.underlying t = some (.slice e)) (he : P.underlying e = some (.int .u8)) (h : RowAt B C e n v W) :
    ∃ W', (convert t t v).run P W = .ok v W' ∧ RowAt B C e n v W' ∧ Marks B W W' := by
  obtain ⟨g, f, rfl, hk, hc⟩ := h
  have hsh : W.shape? g = some (e, C.size) := by unfold World.shape?; rw [hc]
  have hlt := (Array.getElem?_eq_some_iff.1 hc).1
  have hg : (W.freeze ⟨g, C.size, none⟩ 1).heap[g]? = some (.cells C e (if f.1 == f.2 then (C.size, C.size + 1) else (min f.1 C.size, max f.2 (C.size + 1)))) := by
    have h' : W.heap[g] = .cells C e f := by simpa [Array.getElem?_eq_getElem hlt] using hc
    unfold World.freeze
    rw [if_neg (by decide)]
    show (W.heap.modify g _)[g]? = _
    rw [Array.getElem?_eq_getElem (by simpa using hlt), Array.getElem_modify_self, h']
  refine ⟨W.freeze ⟨g, C.size, none⟩ 1, ?_, ⟨g, _, rfl, hk, hg⟩, ⟨rfl, rfl, rfl, ?_, fun k hk' => ?_⟩⟩
  · simp [convert, run_underlying ht, run_underlying he, markStringish, hsh]
  · unfold World.freeze
    simp
  · by_cases e1 : k = g
    · subst e1
      exact .inr ⟨hk, C, e, f, _, hc, hg⟩
    · left
      unfold World.freeze
      rw [if_neg (by decide)]
      show (W.heap.modify g _)[k]? = _
      rw [Array.getElem?_modify]
      rw [if_neg (fun h => e1 h.symm)]

theorem lits (B : Nat) : True := trivial
set_option maxRecDepth 100000 in
set_option maxHeartbeats 4000000 in
theorem live_sha {H : World → Nat → List UInt8 → (Nat → Prop) → Prop} (S : HashOK H) : LiveOK := by
  intro w hK
  have hmx : Tryd.prog.follows .mixedOrders = true := by kernel_rfl
  have hcv := fun W C n c => Lib.run_convert_bytes_const (P := Tryd.prog) W 22 5 C n c rfl rfl
  have hcv2 := fun (W : World) (o : Obj) C n c => Go.Joins.run_convert_bytes_const_at (P := Tryd.prog) (W.alloc o) 22 5 C n c (W.heap.size + 1) (by simp) rfl rfl
  have L1 := Lib.hid (fun W : World => byt_litm W 5 (2, 3) [97, 98] #[.int .u8 97, .int .u8 98] W.heap.size 2 rfl rfl (by simp [maxLen]) rfl)
  have L2 := Lib.hid (fun W : World => byt_litm W 5 (1, 2) [99] #[.int .u8 99] W.heap.size 1 rfl rfl (by simp [maxLen]) rfl)
  obtain ⟨A, HA⟩ : ∃ A, Shut (arr abcD = .agg A) := ⟨_, ⟨rfl⟩⟩
  obtain ⟨hAs, hA1⟩ := arrSize abcD rfl A HA.out
  obtain ⟨Z0, HZ0⟩ : ∃ A, Shut (arr (parseF [66, 65]).1 = .agg A) := ⟨_, ⟨rfl⟩⟩
  obtain ⟨hZs, hZ1⟩ := arrSize _ (parseF_length _) Z0 HZ0.out
  have hE := eqAgg abcD rfl A HA.out
  have hg := guardOff
  obtain ⟨Y, hY, hYs⟩ := arrZ25
  go_enter Tryd.func8, Tryd.ntmps8
  go_wp2_with fail
  refine (S.new _).mono ?_
  rintro e w1 ⟨p, O, rfl, hH1, hO1, hG1⟩
  have HH1 := Lib.hid hH1
  have HO1 := Lib.hid hO1
  have HG1 := Lib.hid hG1
  clear hH1 hO1 hG1
  go_wp2_with fail
  have hga := Grows.alloc' w1 (.cells #[.int .u8 97, .int .u8 98] 5 (2, 3))
  refine (S.write _ p [] O _ [97, 98] (hK.up (Grows.trans' HG1.out hga)) (S.grows HH1.out hga) (L1.out w1) (fun b off sp n c e hn hb => by cases e; have := S.lt HH1.out hb; omega) (by simp)).mono ?_
  rintro e w2 ⟨O2, rfl, hH2, hO2, hBt2⟩
  have HH2 : Hid (H w2 p [97, 98] O2) := Lib.hid (by simpa using hH2)
  have HO2 : Hid (∀ k, O2 k → w.heap.size ≤ k) := fun k hk => by
    rcases hO2 k hk with h | h
    · exact HO1.out k h
    · have := HG1.out.size; have := hga.size; omega
  have HG2 : Hid (Below w.heap.size w w2) := Below.trans (Grows.trans' HG1.out hga) (hBt2.below (by have := HG1.out.size; have := hga.size; omega) HO1.out)
  clear hH2 hO2 hBt2 hga
  go_wp2_with fail
  have hga := Grows.alloc' w2 (.cells #[.int .u8 99] 5 (1, 2))
  refine (S.write _ p [97, 98] O2 _ [99] (hK.up (Grows.trans' HG2.out hga)) (S.grows HH2.out hga) (L2.out w2) (fun b off sp n c e hn hb => by cases e; have := S.lt HH2.out hb; omega) (by simp)).mono ?_
  rintro e w3 ⟨O3, rfl, hH3, hO3, hBt3⟩
  have HH3 : Hid (H w3 p [97, 98, 99] O3) := Lib.hid (by simpa using hH3)
  have HG3 : Hid (Below w.heap.size w w3) := Below.trans (Grows.trans' HG2.out hga) (hBt3.below (by have := HG2.out.size; have := hga.size; omega) HO2.out)
  clear hH3 hO3 hBt3 hga
  go_wp2_with fail
  have hps : ∀ X, Calls Tryd.prog 14 #[.string { data := #[98, 97, 55, 56, 49, 54, 98, 102, 56, 102, 48, 49, 99, 102, 101, 97, 52, 49, 52, 49, 52, 48, 100, 101, 53, 100, 97, 101, 50, 50, 50, 51, 98, 48, 48, 51, 54, 49, 97, 51, 57, 54, 49, 55, 55, 97, 57, 99, 98, 52, 49, 48, 102, 102, 54, 49, 102, 50, 48, 48, 49, 53, 97, 100] }] X fun e W' => e = .returned (.tuple #[.agg A, .bool true]) ∧ Grows X W' := fun X => by
    have := S.parse X abcT (by decide)
    rw [parse_abc] at this
    simp only [HA.out] at this
    exact this
  refine (hps _).mono ?_
  rintro e w4 ⟨rfl, hg4⟩
  clear hps
  have h9 := heap_alloc_new w4 (.cells Y 25)
  obtain ⟨hb4, hg5⟩ := allocSet w4 Y A 25
  go_wp2_with (first
    | (refine wpList_allocT rfl 25 rfl _ hY ?_)
    | (refine wpList_storeT rfl _ _ _ rfl w4.heap.size 25 Y A rfl rfl h9 (by rw [hAs]; exact infoSum) (by rw [hYs, hAs]) hA1 ?_))
  have HG5 := Lib.hid (Grows.trans' HG3.out (Grows.trans' hg4 hg5))
  have HH5 := Lib.hid (S.grows HH3.out (Grows.trans' hg4 hg5))
  obtain ⟨w5, hw5⟩ : ∃ x, (w4.alloc (.cells Y 25)).setRow w4.heap.size A = x := ⟨_, rfl⟩
  rw [hw5] at hb4 HG5 HH5 ⊢
  have Hb4 := Lib.hid hb4
  obtain ⟨n4, Hn4⟩ : ∃ n, Hid (w4.heap.size = n) := ⟨_, rfl⟩
  rw [Hn4.out] at Hb4 ⊢
  clear hw5 hg4 hg5 h9 hb4
  have hpb : ∀ X, Calls Tryd.prog 14 #[.string { data := #[66, 65] }] X fun e W' => e = .returned (.tuple #[.agg Z0, .bool false]) ∧ Grows X W' := fun X => by
    have := S.parse X [66, 65] (by decide)
    rw [parse_BA] at this
    simp only [HZ0.out] at this
    exact this
  refine (hpb _).mono ?_
  rintro e w6 ⟨rfl, hg6⟩
  clear hpb
  have h9 := heap_alloc_new w6 (.cells Y 25)
  obtain ⟨hb6, hg7⟩ := allocSet w6 Y Z0 25
  go_wp2_with (first
    | (refine wpList_allocT rfl 25 rfl _ hY ?_)
    | (refine wpList_storeT rfl _ _ _ rfl w6.heap.size 25 Y Z0 rfl rfl h9 (by rw [hZs]; exact infoSum) (by rw [hYs, hZs]) hZ1 ?_))
  have hg67 := Grows.trans' hg6 hg7
  have HG7 := Lib.hid (Grows.trans' HG5.out hg67)
  have HH7 := Lib.hid (S.grows HH5.out hg67)
  have Hb7 := Lib.hid (hg67.heap' Hb4.out)
  obtain ⟨w7, hw7⟩ : ∃ x, (w6.alloc (.cells Y 25)).setRow w6.heap.size Z0 = x := ⟨_, rfl⟩
  rw [hw7] at HG7 HH7 Hb7 ⊢
  clear hw7 hg6 hg7 hg67 h9 hb6 hcv hcv2
  have hx16 : ∀ X, Marks w7.heap.size w7 X → Calls Tryd.prog 13 #[.pointer (some ⟨p, 0, none⟩)] X fun e W' => e = .returned (.agg A) ∧ Grows X W' := fun X hX => by
    have := S.sum X p [97, 98, 99] O3 (hK.up (Below.trans HG7.out (Below.mono (hX.below (Nat.le_refl _)) HG7.out.size))) (S.kept HH7.out fun k hk => (hX.below (Nat.le_refl _)).block k (S.lt HH7.out hk)) (by simp)
    rw [shaF_abc, HA.out] at this
    exact this
  have hx23 : ∀ X v, Marks w7.heap.size w7 X → BytL X v [[97, 98, 99]] → Calls Tryd.prog 9 #[v] X fun e W' => e = .returned (.agg A) ∧ Grows X W' := fun X v hX hv => by
    have := S.sumAll X v [[97, 98, 99]] (hK.up (Below.trans HG7.out (Below.mono (hX.below (Nat.le_refl _)) HG7.out.size))) hv (by simp)
    rw [show [[97, 98, 99]].flatten = ([97, 98, 99] : List UInt8) from rfl, shaF_abc, HA.out] at this
    exact this
  have hx29 : ∀ X, Calls Tryd.prog 16 #[.agg A] X fun e W' => e = .returned (.string { data := #[98, 97, 55, 56, 49, 54, 98, 102, 56, 102, 48, 49, 99, 102, 101, 97, 52, 49, 52, 49, 52, 48, 100, 101, 53, 100, 97, 101, 50, 50, 50, 51, 98, 48, 48, 51, 54, 49, 97, 51, 57, 54, 49, 55, 55, 97, 57, 99, 98, 52, 49, 48, 102, 102, 54, 49, 102, 50, 48, 48, 49, 53, 97, 100] }) ∧ Grows X W' := fun X => by
    have := S.hex X abcD rfl
    rw [hex_abc, HA.out] at this
    exact this
  have HX16 := Lib.hid hx16
  have HX23 := Lib.hid hx23
  have HX29 := Lib.hid hx29
  clear hx16 hx23 hx29
  refine region_K (E := Marks w7.heap.size) (Marks.ok _) Marks.ofGrows
    #[[], [0], [0, 1], [0, 1, 2], [0, 1, 2, 3], [0, 1, 2, 3, 4], [0, 1, 2, 3, 4, 5], [0, 1, 2, 3, 4, 5, 6], [0, 1, 2, 3, 4, 5, 6, 7], [0, 1, 2, 3, 4, 5, 6, 7, 8], [0, 1, 2, 3, 4, 5, 6, 7, 8, 9], [0, 1, 2, 3, 4, 5, 6, 7, 8, 9, 10], [0, 1, 2, 3, 4, 5, 6, 7, 8, 9, 10, 11], [0, 1, 2, 3, 4, 5, 6, 7, 8, 9, 10, 11, 12], [0, 1, 2, 3, 4, 5, 6, 7, 8, 9, 10, 11, 12, 13], [0, 1, 2, 3, 4, 5, 6, 7, 8, 9, 10, 11, 12, 13, 14], [0, 1, 2, 3, 4, 5, 6, 7, 8, 9, 10, 11, 12, 13], [0, 1, 2, 3, 4, 5, 6, 7, 8, 9, 10, 11, 12, 13, 14, 15, 16], [0, 1, 2, 3, 4, 5, 6, 7, 8, 9, 10, 11, 12, 13, 14, 15, 16, 17], [0, 1, 2, 3, 4, 5, 6, 7, 8, 9, 10, 11, 12, 13, 14, 15, 16, 17, 18], [0, 1, 2, 3, 4, 5, 6, 7, 8, 9, 10, 11, 12, 13, 14, 15, 16, 17, 18, 19], [0, 1, 2, 3, 4, 5, 6, 7, 8, 9, 10, 11, 12, 13, 14, 15, 16, 17, 18, 19, 20], [0, 1, 2, 3, 4, 5, 6, 7, 8, 9, 10, 11, 12, 13, 14, 15, 16, 17, 18, 19, 20, 21], [0, 1, 2, 3, 4, 5, 6, 7, 8, 9, 10, 11, 12, 13, 14, 15, 16, 17, 18, 19, 20, 21, 22], [0, 1, 2, 3, 4, 5, 6, 7, 8, 9, 10, 11, 12, 13, 14, 15, 16, 17, 18, 19], [0, 1, 2, 3, 4, 5, 6, 7, 8, 9, 10, 11, 12, 13, 14, 15, 16, 17, 18, 19, 20, 21, 22, 23, 24], [0, 1, 2, 3, 4, 5, 6, 7, 8, 9, 10, 11, 12, 13, 14, 15, 16, 17, 18, 19, 20, 21, 22, 23, 24, 25], [0, 1, 2, 3, 4, 5, 6, 7, 8, 9, 10, 11, 12, 13, 14, 15, 16, 17, 18, 19, 20, 21, 22, 23, 24, 25, 26], [0, 1, 2, 3, 4, 5, 6, 7, 8, 9, 10, 11, 12, 13, 14, 15, 16, 17, 18, 19, 20, 21, 22, 23, 24, 25, 26, 27], [0, 1, 2, 3, 4, 5, 6, 7, 8, 9, 10, 11, 12, 13, 14, 15, 16, 17, 18, 19, 20, 21, 22, 23, 24, 25, 26, 27, 28], [0, 1, 2, 3, 4, 5, 6, 7, 8, 9, 10, 11, 12, 13, 14, 15, 16, 17, 18, 19, 20, 21, 22, 23, 24, 25, 26, 27, 28, 29], [0, 1, 2, 3, 4, 5, 6, 7, 8, 9, 10, 11, 12, 13, 14, 15, 16, 17, 18, 19, 20, 21, 22, 23, 24, 25, 26, 27, 28, 29, 30], [0, 1, 2, 3, 4, 5, 6, 7, 8, 9, 10, 11, 12, 13, 14, 15, 16, 17, 18, 19, 20, 21, 22, 23, 24, 25, 26, 27, 28, 29, 30, 31]] #[[2], [], [], [3], [], [], [], [5], [], [], [7], [], [], [], [1], [], [4], [], [], [], [], [], [], [], [4], [], [], [], [4], [], [], [], []] #[true, true, true, true, true, true, true, true, true, true, true, true, true, true, true, true, true, true, true, true, true, true, true, true, true, true, true, true, true, true, true, true, true]
    ((.val ?v0) :: (.val ?v1) :: (.val ?v2) :: (.val ?v3) :: (.val ?v4) :: (.val ?v5) :: (.val ?v6) :: (.val ?v7) :: (.val ?v8) :: (.val ?v9) :: (.val ?v10) :: (.val ?v11) :: (.val ?v12) :: (.val ?v13) :: (.val ?v14) :: (.val ?v15) :: (.val (.agg A)) :: (.val ?v17) :: (.val ?v18) :: (.val ?v19) :: (.pred (RowAt w7.heap.size (([97, 98, 99] : List UInt8).map bv).toArray 5 3) RowAt.ext) :: (.pred (RowAt w7.heap.size (([97, 98, 99] : List UInt8).map bv).toArray 5 3) RowAt.ext) :: (.pred (fun v W => BytL W v [[97, 98, 99]]) Marks.bytL) :: (.val ?v23) :: (.val (.agg A)) :: (.val ?v25) :: (.val ?v26) :: (.val ?v27) :: (.val (.agg A)) :: (.val ?v29) :: (.val ?v30) :: (.val ?v31) :: (.val ?v32) :: []).toArray
    { Ψ := fun _ _ => True, made := #[], kl := #[], use := #[], muts := [21] }
    (fun _ _ _ _ _ _ _ _ => trivial)
    (fun _ _ => trivial)
    hmx ?chk rfl ?grd ?stp ?rst
  case chk => rfl
  case stp =>
    refine ⟨?_, ?_, ?_, ?_, ?_, ?_, ?_, ?_, ?_, ?_, ?_, ?_, ?_, ?_, ?_, ?_, ?_, ?_, ?_, ?_, ?_, ?_, ?_, ?_, ?_, ?_, ?_, ?_, ?_, ?_, ?_, ?_, ?_, trivial⟩
    · refine step_introK rfl rfl fun ρ X hc hf hgl hX hp ho hu => ?_
      change StepOk _ { dst := _, op := Op.move (Operand.tmp 2), type := _, pos := _, after := _, guard := _ } _ _ _
      have k2 : ρ (.tmp 2) = .int .i64 2 := ho 2 (by decide)
      refine stepK_plain (i := 0) rfl ?_
      clear hu
      clear hp ho
      refine StepOk.of_run (v := ?v0) (w' := X) ?_ ⟨rfl, Below.refl _ _⟩
      clear hX
      go_simp
      all_goals try go_bits
      all_goals try simp only [IntWalk.iteOmega]
      all_goals try go_bits
      all_goals rfl
    · refine step_introK rfl rfl fun ρ X hc hf hgl hX hp ho hu => ?_
      change StepOk _ { dst := _, op := Op.binOp BinOp.eql 3 (Operand.tmp 27) (Operand.const (Value.int IntKind.i64 2)) 3, type := _, pos := _, after := _, guard := _ } _ _ _
      have k27 : ρ (.tmp 27) = ?v0 := hp 0 (by decide)
      refine stepK_plain (i := 1) rfl ?_
      clear hu
      clear hp ho
      refine StepOk.of_run (v := ?v1) (w' := X) ?_ ⟨rfl, Below.refl _ _⟩
      clear hX
      go_simp
      all_goals try go_bits
      all_goals try simp only [IntWalk.iteOmega]
      all_goals try go_bits
      all_goals rfl
    · refine step_introK rfl rfl fun ρ X hc hf hgl hX hp ho hu => ?_
      change StepOk _ { dst := _, op := Op.move (Operand.tmp 28), type := _, pos := _, after := _, guard := _ } _ _ _
      have k28 : ρ (.tmp 28) = ?v1 := hp 1 (by decide)
      refine stepK_plain (i := 2) rfl ?_
      clear hu
      clear hp ho
      refine StepOk.of_run (v := ?v2) (w' := X) ?_ ⟨rfl, Below.refl _ _⟩
      clear hX
      go_simp
      all_goals try go_bits
      all_goals try simp only [IntWalk.iteOmega]
      all_goals try go_bits
      all_goals rfl
    · refine step_introK rfl rfl fun ρ X hc hf hgl hX hp ho hu => ?_
      change StepOk _ { dst := _, op := Op.move (Operand.tmp 3), type := _, pos := _, after := _, guard := _ } _ _ _
      have k3 : ρ (.tmp 3) = .int .i64 1 := ho 3 (by decide)
      refine stepK_plain (i := 3) rfl ?_
      clear hu
      clear hp ho
      refine StepOk.of_run (v := ?v3) (w' := X) ?_ ⟨rfl, Below.refl _ _⟩
      clear hX
      go_simp
      all_goals try go_bits
      all_goals try simp only [IntWalk.iteOmega]
      all_goals try go_bits
      all_goals rfl
    · refine step_introK rfl rfl fun ρ X hc hf hgl hX hp ho hu => ?_
      change StepOk _ { dst := _, op := Op.binOp BinOp.eql 3 (Operand.tmp 30) (Operand.const (Value.int IntKind.i64 1)) 3, type := _, pos := _, after := _, guard := _ } _ _ _
      have k30 : ρ (.tmp 30) = ?v3 := hp 3 (by decide)
      refine stepK_plain (i := 4) rfl ?_
      clear hu
      clear hp ho
      refine StepOk.of_run (v := ?v4) (w' := X) ?_ ⟨rfl, Below.refl _ _⟩
      clear hX
      go_simp
      all_goals try go_bits
      all_goals try simp only [IntWalk.iteOmega]
      all_goals try go_bits
      all_goals rfl
    · refine step_introK rfl rfl fun ρ X hc hf hgl hX hp ho hu => ?_
      change StepOk _ { dst := _, op := Op.pick (Operand.tmp 29) (Operand.tmp 31) (Operand.const (Value.bool false)), type := _, pos := _, after := _, guard := _ } _ _ _
      have k29 : ρ (.tmp 29) = ?v2 := hp 2 (by decide)
      have k31 : ρ (.tmp 31) = ?v4 := hp 4 (by decide)
      refine stepK_plain (i := 5) rfl ?_
      clear hu
      clear hp ho
      refine StepOk.of_run (v := ?v5) (w' := X) ?_ ⟨rfl, Below.refl _ _⟩
      clear hX
      go_simp
      all_goals try go_bits
      all_goals try simp only [IntWalk.iteOmega]
      all_goals try go_bits
      all_goals rfl
    · refine step_introK rfl rfl fun ρ X hc hf hgl hX hp ho hu => ?_
      change StepOk _ { dst := _, op := Op.move (Operand.tmp 32), type := _, pos := _, after := _, guard := _ } _ _ _
      have k32 : ρ (.tmp 32) = ?v5 := hp 5 (by decide)
      refine stepK_plain (i := 6) rfl ?_
      clear hu
      clear hp ho
      refine StepOk.of_run (v := ?v6) (w' := X) ?_ ⟨rfl, Below.refl _ _⟩
      clear hX
      go_simp
      all_goals try go_bits
      all_goals try simp only [IntWalk.iteOmega]
      all_goals try go_bits
      all_goals rfl
    · refine step_introK rfl rfl fun ρ X hc hf hgl hX hp ho hu => ?_
      change StepOk _ { dst := _, op := Op.move (Operand.tmp 5), type := _, pos := _, after := _, guard := _ } _ _ _
      have k5 : ρ (.tmp 5) = .bool true := ho 5 (by decide)
      refine stepK_plain (i := 7) rfl ?_
      clear hu
      clear hp ho
      refine StepOk.of_run (v := ?v7) (w' := X) ?_ ⟨rfl, Below.refl _ _⟩
      clear hX
      go_simp
      all_goals try go_bits
      all_goals try simp only [IntWalk.iteOmega]
      all_goals try go_bits
      all_goals rfl
    · refine step_introK rfl rfl fun ρ X hc hf hgl hX hp ho hu => ?_
      change StepOk _ { dst := _, op := Op.pick (Operand.tmp 33) (Operand.tmp 34) (Operand.const (Value.bool false)), type := _, pos := _, after := _, guard := _ } _ _ _
      have k33 : ρ (.tmp 33) = ?v6 := hp 6 (by decide)
      have k34 : ρ (.tmp 34) = ?v7 := hp 7 (by decide)
      refine stepK_plain (i := 8) rfl ?_
      clear hu
      clear hp ho
      refine StepOk.of_run (v := ?v8) (w' := X) ?_ ⟨rfl, Below.refl _ _⟩
      clear hX
      go_simp
      all_goals try go_bits
      all_goals try simp only [IntWalk.iteOmega]
      all_goals try go_bits
      all_goals rfl
    · refine step_introK rfl rfl fun ρ X hc hf hgl hX hp ho hu => ?_
      change StepOk _ { dst := _, op := Op.move (Operand.tmp 35), type := _, pos := _, after := _, guard := _ } _ _ _
      have k35 : ρ (.tmp 35) = ?v8 := hp 8 (by decide)
      refine stepK_plain (i := 9) rfl ?_
      clear hu
      clear hp ho
      refine StepOk.of_run (v := ?v9) (w' := X) ?_ ⟨rfl, Below.refl _ _⟩
      clear hX
      go_simp
      all_goals try go_bits
      all_goals try simp only [IntWalk.iteOmega]
      all_goals try go_bits
      all_goals rfl
    · refine step_introK rfl rfl fun ρ X hc hf hgl hX hp ho hu => ?_
      change StepOk _ { dst := _, op := Op.move (Operand.tmp 7), type := _, pos := _, after := _, guard := _ } _ _ _
      have k7 : ρ (.tmp 7) = .bool false := ho 7 (by decide)
      refine stepK_plain (i := 10) rfl ?_
      clear hu
      clear hp ho
      refine StepOk.of_run (v := ?v10) (w' := X) ?_ ⟨rfl, Below.refl _ _⟩
      clear hX
      go_simp
      all_goals try go_bits
      all_goals try simp only [IntWalk.iteOmega]
      all_goals try go_bits
      all_goals rfl
    · refine step_introK rfl rfl fun ρ X hc hf hgl hX hp ho hu => ?_
      change StepOk _ { dst := _, op := Op.unOp UnOp.not 4 (Operand.tmp 37), type := _, pos := _, after := _, guard := _ } _ _ _
      have k37 : ρ (.tmp 37) = ?v10 := hp 10 (by decide)
      refine stepK_plain (i := 11) rfl ?_
      clear hu
      clear hp ho
      refine StepOk.of_run (v := ?v11) (w' := X) ?_ ⟨rfl, Below.refl _ _⟩
      clear hX
      go_simp
      all_goals try go_bits
      all_goals try simp only [IntWalk.iteOmega]
      all_goals try go_bits
      all_goals rfl
    · refine step_introK rfl rfl fun ρ X hc hf hgl hX hp ho hu => ?_
      change StepOk _ { dst := _, op := Op.pick (Operand.tmp 36) (Operand.tmp 38) (Operand.const (Value.bool false)), type := _, pos := _, after := _, guard := _ } _ _ _
      have k36 : ρ (.tmp 36) = ?v9 := hp 9 (by decide)
      have k38 : ρ (.tmp 38) = ?v11 := hp 11 (by decide)
      refine stepK_plain (i := 12) rfl ?_
      clear hu
      clear hp ho
      refine StepOk.of_run (v := ?v12) (w' := X) ?_ ⟨rfl, Below.refl _ _⟩
      clear hX
      go_simp
      all_goals try go_bits
      all_goals try simp only [IntWalk.iteOmega]
      all_goals try go_bits
      all_goals rfl
    · refine step_introK rfl rfl fun ρ X hc hf hgl hX hp ho hu => ?_
      change StepOk _ { dst := _, op := Op.move (Operand.tmp 39), type := _, pos := _, after := _, guard := _ } _ _ _
      have k39 : ρ (.tmp 39) = ?v12 := hp 12 (by decide)
      refine stepK_plain (i := 13) rfl ?_
      clear hu
      clear hp ho
      refine StepOk.of_run (v := ?v13) (w' := X) ?_ ⟨rfl, Below.refl _ _⟩
      clear hX
      go_simp
      all_goals try go_bits
      all_goals try simp only [IntWalk.iteOmega]
      all_goals try go_bits
      all_goals rfl
    · refine step_introK rfl rfl fun ρ X hc hf hgl hX hp ho hu => ?_
      change StepOk _ { dst := _, op := Op.move (Operand.tmp 1), type := _, pos := _, after := _, guard := _ } _ _ _
      have k1 : ρ (.tmp 1) = .pointer (some ⟨p, 0, none⟩) := ho 1 (by decide)
      refine stepK_plain (i := 14) rfl ?_
      clear hu
      clear hp ho
      refine StepOk.of_run (v := ?v14) (w' := X) ?_ ⟨rfl, Below.refl _ _⟩
      clear hX
      go_simp
      all_goals try go_bits
      all_goals try simp only [IntWalk.iteOmega]
      all_goals try go_bits
      all_goals rfl
    · refine step_introK rfl rfl fun ρ X hc hf hgl hX hp ho hu => ?_
      change StepOk _ { dst := _, op := Op.call { callee := Callee.value (Operand.func 13), args := #[Operand.tmp 41], argTypes := #[30] }, type := _, pos := _, after := _, guard := _ } _ _ _
      have k41 : ρ (.tmp 41) = ?v14 := hp 14 (by decide)
      refine stepK_plain (i := 15) rfl ?_
      clear hu
      clear hp ho
      refine StepOk.of_call (f := 13) (args := #[?v14]) (w' := X) ?_ (HX16.out X hX) ?_
      · go_simp
        all_goals try go_bits
        all_goals try rfl
      · rintro e w'' ⟨rfl, hg'⟩; refine ⟨_, rfl, ?_, hg'⟩; show _ = ?v15; rfl
    · refine step_introK rfl rfl fun ρ X hc hf hgl hX hp ho hu => ?_
      change StepOk _ { dst := _, op := Op.load 25 (Operand.tmp 4), type := _, pos := _, after := _, guard := _ } _ _ _
      have k4 : ρ (.tmp 4) = .pointer (some ⟨n4, 0, none⟩) := ho 4 (by decide)
      refine stepK_plain (i := 16) rfl ?_
      clear hu
      clear hp ho
      refine StepOk.of_run (v := .agg A) (w' := X) ?_ ⟨rfl, Below.refl _ _⟩
      simp only [execOp, Instr.loadAt, Instr.sureAddr, k4, Sem.run_bind, Sem.run_pure, Result.andThen_ok, run_loadVar_row X _ 25 25 A (0, 0) _ (((hX.below (Nat.le_refl _)).block _ (Array.getElem?_eq_some_iff.1 Hb7.out).1).trans Hb7.out) Tryd.underlying25 rfl (by rw [hAs]; exact infoSum)]
    · refine step_introK rfl rfl fun ρ X hc hf hgl hX hp ho hu => ?_
      change StepOk _ { dst := _, op := Op.binOp BinOp.eql 25 (Operand.tmp 42) (Operand.tmp 43) 25, type := _, pos := _, after := _, guard := _ } _ _ _
      have k42 : ρ (.tmp 42) = ?v15 := hp 15 (by decide)
      have k43 : ρ (.tmp 43) = (.agg A) := hp 16 (by decide)
      refine stepK_plain (i := 17) rfl ?_
      clear hu
      clear hp ho
      refine StepOk.of_run (v := ?v17) (w' := X) ?_ ⟨rfl, Below.refl _ _⟩
      clear hX
      go_simp
      all_goals try go_bits
      all_goals try simp only [IntWalk.iteOmega]
      all_goals try go_bits
      all_goals rfl
    · refine step_introK rfl rfl fun ρ X hc hf hgl hX hp ho hu => ?_
      change StepOk _ { dst := _, op := Op.pick (Operand.tmp 40) (Operand.tmp 44) (Operand.const (Value.bool false)), type := _, pos := _, after := _, guard := _ } _ _ _
      have k40 : ρ (.tmp 40) = ?v13 := hp 13 (by decide)
      have k44 : ρ (.tmp 44) = ?v17 := hp 17 (by decide)
      refine stepK_plain (i := 18) rfl ?_
      clear hu
      clear hp ho
      refine StepOk.of_run (v := ?v18) (w' := X) ?_ ⟨rfl, Below.refl _ _⟩
      clear hX
      go_simp
      all_goals try go_bits
      all_goals try simp only [IntWalk.iteOmega]
      all_goals try go_bits
      all_goals rfl
    · refine step_introK rfl rfl fun ρ X hc hf hgl hX hp ho hu => ?_
      change StepOk _ { dst := _, op := Op.move (Operand.tmp 45), type := _, pos := _, after := _, guard := _ } _ _ _
      have k45 : ρ (.tmp 45) = ?v18 := hp 18 (by decide)
      refine stepK_plain (i := 19) rfl ?_
      clear hu
      clear hp ho
      refine StepOk.of_run (v := ?v19) (w' := X) ?_ ⟨rfl, Below.refl _ _⟩
      clear hX
      go_simp
      all_goals try go_bits
      all_goals try simp only [IntWalk.iteOmega]
      all_goals try go_bits
      all_goals rfl
    · refine step_introK rfl rfl fun ρ X hc hf hgl hX hp ho hu => ?_
      change StepOk _ { dst := _, op := Op.buildSlice 22 3 #[(0, Operand.const (Value.int IntKind.u8 97)), (1, Operand.const (Value.int IntKind.u8 98)), (2, Operand.const (Value.int IntKind.u8 99))], type := _, pos := _, after := _, guard := _ } _ _ _
      refine stepK_plain (i := 20) rfl ?_
      clear hu
      clear hp ho
      refine StepOk.of_run (v := .slice (some ⟨X.heap.size, 0, none⟩) 3 3) (w' := X.alloc (.cells (([97, 98, 99] : List UInt8).map bv).toArray 5)) ?_ ⟨⟨_, _, rfl, hX.size, heap_alloc_new X _⟩, Grows.alloc' _ _⟩
      simp [go_sem, execOp, hc, bv]
    · refine step_introK rfl rfl fun ρ X hc hf hgl hX hp ho hu => ?_
      change StepOk _ { dst := _, op := Op.convert 22 22 (Operand.tmp 47), type := _, pos := _, after := _, guard := _ } _ _ _
      have k47 := hp 20 (by decide)
      clear hu
      clear hp ho
      refine stepK_made rfl ?_
      obtain ⟨W', hr, hrow, hmk⟩ := run_convert_mark (P := Tryd.prog) Tryd.underlying22 Tryd.underlying5 k47
      refine StepOk.of_run (v := ρ (.tmp 47)) (w' := W') ?_ ⟨hrow, hmk, fun s hs => by simp at hs⟩
      simp only [execOp, Sem.run_bind, Sem.run_pure, hr, Result.andThen_ok]
    · refine step_introK rfl rfl fun ρ X hc hf hgl hX hp ho hu => ?_
      change StepOk _ { dst := _, op := Op.buildSlice 29 1 #[(0, Operand.tmp 48)], type := _, pos := _, after := _, guard := _ } _ _ _
      have k48 := hp 21 (by decide)
      refine stepK_plain (i := 22) rfl ?_
      clear hu
      clear hp ho
      have hb := RowAt.byt k48 rfl (by simp [maxLen])
      obtain ⟨g, fr, e48, _, _⟩ := k48
      refine StepOk.of_run (v := .slice (some ⟨X.heap.size, 0, none⟩) 1 1) (w' := X.alloc (.cells ([ρ (.tmp 48)] : List Value).toArray 22)) ?_ ⟨BytL.lit X 22 [ρ (.tmp 48)] [[97, 98, 99]] rfl (by simp [maxLen]) (fun i hi => match i, hi with | 0, _ => hb | _ + 1, h => absurd h (by simp)), Grows.alloc' _ _⟩
      simp [go_sem, execOp, hc, e48]
    · refine step_introK rfl rfl fun ρ X hc hf hgl hX hp ho hu => ?_
      change StepOk _ { dst := _, op := Op.call { callee := Callee.value (Operand.func 9), args := #[Operand.tmp 49], argTypes := #[29] }, type := _, pos := _, after := _, guard := _ } _ _ _
      have k49 := hp 22 (by decide)
      refine stepK_plain (i := 23) rfl ?_
      clear hu
      clear hp ho
      refine StepOk.of_call (f := 9) (args := #[ρ (.tmp 49)]) (w' := X) ?_ (HX23.out X _ hX k49) ?_
      · go_simp
        all_goals try go_bits
        all_goals try rfl
      · rintro e w'' ⟨rfl, hg'⟩; refine ⟨_, rfl, ?_, hg'⟩; show _ = ?v23; rfl
    · refine step_introK rfl rfl fun ρ X hc hf hgl hX hp ho hu => ?_
      change StepOk _ { dst := _, op := Op.load 25 (Operand.tmp 4), type := _, pos := _, after := _, guard := _ } _ _ _
      have k4 : ρ (.tmp 4) = .pointer (some ⟨n4, 0, none⟩) := ho 4 (by decide)
      refine stepK_plain (i := 24) rfl ?_
      clear hu
      clear hp ho
      refine StepOk.of_run (v := .agg A) (w' := X) ?_ ⟨rfl, Below.refl _ _⟩
      simp only [execOp, Instr.loadAt, Instr.sureAddr, k4, Sem.run_bind, Sem.run_pure, Result.andThen_ok, run_loadVar_row X _ 25 25 A (0, 0) _ (((hX.below (Nat.le_refl _)).block _ (Array.getElem?_eq_some_iff.1 Hb7.out).1).trans Hb7.out) Tryd.underlying25 rfl (by rw [hAs]; exact infoSum)]
    · refine step_introK rfl rfl fun ρ X hc hf hgl hX hp ho hu => ?_
      change StepOk _ { dst := _, op := Op.binOp BinOp.eql 25 (Operand.tmp 50) (Operand.tmp 51) 25, type := _, pos := _, after := _, guard := _ } _ _ _
      have k50 : ρ (.tmp 50) = ?v23 := hp 23 (by decide)
      have k51 : ρ (.tmp 51) = (.agg A) := hp 24 (by decide)
      refine stepK_plain (i := 25) rfl ?_
      clear hu
      clear hp ho
      refine StepOk.of_run (v := ?v25) (w' := X) ?_ ⟨rfl, Below.refl _ _⟩
      clear hX
      go_simp
      all_goals try go_bits
      all_goals try simp only [IntWalk.iteOmega]
      all_goals try go_bits
      all_goals rfl
    · refine step_introK rfl rfl fun ρ X hc hf hgl hX hp ho hu => ?_
      change StepOk _ { dst := _, op := Op.pick (Operand.tmp 46) (Operand.tmp 52) (Operand.const (Value.bool false)), type := _, pos := _, after := _, guard := _ } _ _ _
      have k46 : ρ (.tmp 46) = ?v19 := hp 19 (by decide)
      have k52 : ρ (.tmp 52) = ?v25 := hp 25 (by decide)
      refine stepK_plain (i := 26) rfl ?_
      clear hu
      clear hp ho
      refine StepOk.of_run (v := ?v26) (w' := X) ?_ ⟨rfl, Below.refl _ _⟩
      clear hX
      go_simp
      all_goals try go_bits
      all_goals try simp only [IntWalk.iteOmega]
      all_goals try go_bits
      all_goals rfl
    · refine step_introK rfl rfl fun ρ X hc hf hgl hX hp ho hu => ?_
      change StepOk _ { dst := _, op := Op.move (Operand.tmp 53), type := _, pos := _, after := _, guard := _ } _ _ _
      have k53 : ρ (.tmp 53) = ?v26 := hp 26 (by decide)
      refine stepK_plain (i := 27) rfl ?_
      clear hu
      clear hp ho
      refine StepOk.of_run (v := ?v27) (w' := X) ?_ ⟨rfl, Below.refl _ _⟩
      clear hX
      go_simp
      all_goals try go_bits
      all_goals try simp only [IntWalk.iteOmega]
      all_goals try go_bits
      all_goals rfl
    · refine step_introK rfl rfl fun ρ X hc hf hgl hX hp ho hu => ?_
      change StepOk _ { dst := _, op := Op.load 25 (Operand.tmp 4), type := _, pos := _, after := _, guard := _ } _ _ _
      have k4 : ρ (.tmp 4) = .pointer (some ⟨n4, 0, none⟩) := ho 4 (by decide)
      refine stepK_plain (i := 28) rfl ?_
      clear hu
      clear hp ho
      refine StepOk.of_run (v := .agg A) (w' := X) ?_ ⟨rfl, Below.refl _ _⟩
      simp only [execOp, Instr.loadAt, Instr.sureAddr, k4, Sem.run_bind, Sem.run_pure, Result.andThen_ok, run_loadVar_row X _ 25 25 A (0, 0) _ (((hX.below (Nat.le_refl _)).block _ (Array.getElem?_eq_some_iff.1 Hb7.out).1).trans Hb7.out) Tryd.underlying25 rfl (by rw [hAs]; exact infoSum)]
    · refine step_introK rfl rfl fun ρ X hc hf hgl hX hp ho hu => ?_
      change StepOk _ { dst := _, op := Op.call { callee := Callee.value (Operand.func 16), args := #[Operand.tmp 55], argTypes := #[25] }, type := _, pos := _, after := _, guard := _ } _ _ _
      have k55 : ρ (.tmp 55) = (.agg A) := hp 28 (by decide)
      refine stepK_plain (i := 29) rfl ?_
      clear hu
      clear hp ho
      refine StepOk.of_call (f := 16) (args := #[(.agg A)]) (w' := X) ?_ (HX29.out X) ?_
      · go_simp
        all_goals try go_bits
        all_goals try rfl
      · rintro e w'' ⟨rfl, hg'⟩; refine ⟨_, rfl, ?_, hg'⟩; show _ = ?v29; rfl
    · refine step_introK rfl rfl fun ρ X hc hf hgl hX hp ho hu => ?_
      change StepOk _ { dst := _, op := Op.binOp BinOp.eql 9 (Operand.tmp 56) (Operand.const (Value.string { data := #[98, 97, 55, 56, 49, 54, 98, 102, 56, 102, 48, 49, 99, 102, 101, 97, 52, 49, 52, 49, 52, 48, 100, 101, 53, 100, 97, 101, 50, 50, 50, 51, 98, 48, 48, 51, 54, 49, 97, 51, 57, 54, 49, 55, 55, 97, 57, 99, 98, 52, 49, 48, 102, 102, 54, 49, 102, 50, 48, 48, 49, 53, 97, 100] })) 9, type := _, pos := _, after := _, guard := _ } _ _ _
      have k56 : ρ (.tmp 56) = ?v29 := hp 29 (by decide)
      refine stepK_plain (i := 30) rfl ?_
      clear hu
      clear hp ho
      refine StepOk.of_run (v := ?v30) (w' := X) ?_ ⟨rfl, Below.refl _ _⟩
      clear hX
      go_simp
      all_goals try go_bits
      all_goals try simp only [IntWalk.iteOmega]
      all_goals try go_bits
      all_goals rfl
    · refine step_introK rfl rfl fun ρ X hc hf hgl hX hp ho hu => ?_
      change StepOk _ { dst := _, op := Op.pick (Operand.tmp 54) (Operand.tmp 57) (Operand.const (Value.bool false)), type := _, pos := _, after := _, guard := _ } _ _ _
      have k54 : ρ (.tmp 54) = ?v27 := hp 27 (by decide)
      have k57 : ρ (.tmp 57) = ?v30 := hp 30 (by decide)
      refine stepK_plain (i := 31) rfl ?_
      clear hu
      clear hp ho
      refine StepOk.of_run (v := ?v31) (w' := X) ?_ ⟨rfl, Below.refl _ _⟩
      clear hX
      go_simp
      all_goals try go_bits
      all_goals try simp only [IntWalk.iteOmega]
      all_goals try go_bits
      all_goals rfl
    · refine step_introK rfl rfl fun ρ X hc hf hgl hX hp ho hu => ?_
      change StepOk _ { dst := _, op := Op.assign (Operand.tmp 58), type := _, pos := _, after := _, guard := _ } _ _ _
      have k58 : ρ (.tmp 58) = ?v31 := hp 31 (by decide)
      refine stepK_plain (i := 32) rfl ?_
      clear hu
      clear hp ho
      refine StepOk.of_run (v := ?v32) (w' := X) ?_ ⟨rfl, Below.refl _ _⟩
      clear hX
      go_simp
      all_goals try go_bits
      all_goals try simp only [IntWalk.iteOmega]
      all_goals try go_bits
      all_goals rfl
  case grd => rfl
  case rst =>
    intro a0 X hb
    obtain ⟨x47, hx47⟩ : ∃ x, a0.tmps.getD 47 undef = x := ⟨_, rfl⟩
    have p47 := hb.done' 20 47 rfl rfl
    rw [hx47] at p47
    obtain ⟨x48, hx48⟩ : ∃ x, a0.tmps.getD 48 undef = x := ⟨_, rfl⟩
    have p48 := hb.done' 21 48 rfl rfl
    rw [hx48] at p48
    obtain ⟨x49, hx49⟩ : ∃ x, a0.tmps.getD 49 undef = x := ⟨_, rfl⟩
    have p49 := hb.done' 22 49 rfl rfl
    rw [hx49] at p49
    have hfr := hb.frame ((0, ?v32) :: (27, ?v0) :: (28, ?v1) :: (29, ?v2) :: (30, ?v3) :: (31, ?v4) :: (32, ?v5) :: (33, ?v6) :: (34, ?v7) :: (35, ?v8) :: (36, ?v9) :: (37, ?v10) :: (38, ?v11) :: (39, ?v12) :: (40, ?v13) :: (41, ?v14) :: (42, ?v15) :: (43, (.agg A)) :: (44, ?v17) :: (45, ?v18) :: (46, ?v19) :: (47, x47) :: (48, x48) :: (49, x49) :: (50, ?v23) :: (51, (.agg A)) :: (52, ?v25) :: (53, ?v26) :: (54, ?v27) :: (55, (.agg A)) :: (56, ?v29) :: (57, ?v30) :: (58, ?v31) :: []) rfl ⟨hb.done' 32 0 rfl rfl, hb.done' 0 27 rfl rfl, hb.done' 1 28 rfl rfl, hb.done' 2 29 rfl rfl, hb.done' 3 30 rfl rfl, hb.done' 4 31 rfl rfl, hb.done' 5 32 rfl rfl, hb.done' 6 33 rfl rfl, hb.done' 7 34 rfl rfl, hb.done' 8 35 rfl rfl, hb.done' 9 36 rfl rfl, hb.done' 10 37 rfl rfl, hb.done' 11 38 rfl rfl, hb.done' 12 39 rfl rfl, hb.done' 13 40 rfl rfl, hb.done' 14 41 rfl rfl, hb.done' 15 42 rfl rfl, hb.done' 16 43 rfl rfl, hb.done' 17 44 rfl rfl, hb.done' 18 45 rfl rfl, hb.done' 19 46 rfl rfl, hx47, hx48, hx49, hb.done' 23 50 rfl rfl, hb.done' 24 51 rfl rfl, hb.done' 25 52 rfl rfl, hb.done' 26 53 rfl rfl, hb.done' 27 54 rfl rfl, hb.done' 28 55 rfl rfl, hb.done' 29 56 rfl rfl, hb.done' 30 57 rfl rfl, hb.done' 31 58 rfl rfl, trivial⟩
    simp only [updL, ↓reduceIte, Nat.reduceEqDiff, Nat.reduceAdd, Nat.zero_add] at hfr
    have HX := Lib.hid hb.ext
    clear hb
    subst hfr
    go_wp2
    go_ret
    exact ⟨rfl, Below.trans HG7.out (Below.mono (HX.out.below (Nat.le_refl _)) HG7.out.size)⟩
end Go.Proofs.YtkehcpjianadjaaDoor
