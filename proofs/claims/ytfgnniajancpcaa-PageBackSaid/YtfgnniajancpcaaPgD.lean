/-
  The contract of Seal.
-/
import Derived.Test.YtfgnniajancpcaaPgC
namespace Go.Proofs.Ytfgnniajancpcaa
open Go.RowKit
set_option linter.unusedVariables false
set_option linter.unusedSimpArgs false

theorem vKindIs (k : Int) (b : Bool) (h : isK k = b) (w : World) : Calls Try.prog 14 #[.int .i64 k] w fun e w' => e = .returned (.bool b) ∧ w = w' := by
  subst h; exact vIsKind k w
theorem vSealNo (k : Int) (n : Nat) (u : Value) (l : List UInt8) (w : World) (hu : Byt w u l) (h : fitsP ⟨k, n, l⟩ = false) :
    Calls Try.prog 7 #[pgv k n u] w fun e w' => e = .returned (.tuple #[.slice none 0 0, .int .i64 50]) ∧ Grows w w' := by
  obtain ⟨a, cap, rfl⟩ := hu.slice
  clear hu
  unfold pgv
  cases hk : isK k with
  | false =>
    have HK := Lib.hid (fun w => vKindIs k false hk w)
    clear hk h
    go_enter Try.func7, Try.ntmps7
    go_wp2_with (go_at_call 14; refine (HK.out _).mono ?_; rintro e w1 ⟨rfl, rfl⟩)
    go_ret2
    exact ⟨rfl, Grows.alloc' _ _⟩
  | true =>
    have hl : ¬ (l.length : Int) = 243 := by
      intro e
      have : fitsP ⟨k, n, l⟩ = true := by unfold fitsP; simp [hk]; omega
      rw [this] at h; cases h
    have HK := Lib.hid (fun w => vKindIs k true hk w)
    clear hk h
    go_enter Try.func7, Try.ntmps7
    go_wp2_with (go_at_call 14; refine (HK.out _).mono ?_; rintro e w1 ⟨rfl, rfl⟩)
    go_ret2
    exact ⟨rfl, Grows.alloc' _ _⟩

theorem Own.block_lt {e : TypeId} {B : Nat} {W : World} {g n cap : Nat} {l : List UInt8} (h : Own e B W (.slice (some ⟨g, 0, none⟩) n cap) l) : g < W.heap.size := by
  rcases h.2 with ⟨e, _⟩ | ⟨g', cap, cur, e, _, hg, _⟩
  · cases e
  · simp only [Value.slice.injEq, Option.some.injEq, Addr.mk.injEq, and_true] at e
    obtain ⟨rfl, _⟩ := e
    exact (Array.getElem?_eq_some_iff.1 hg).1
theorem cp3 (z a b c : List UInt8) (hz : z.length = 252) (ha : a.length = 1) (hb : b.length = 8) (hc : c.length = 243) (L1 L2 : List UInt8) (h1 : L1 = z.take 0 ++ a ++ z.drop (0 + 1)) (h2 : L2 = L1.take 1 ++ b ++ L1.drop (1 + 8)) :
    L2.take 9 ++ c ++ L2.drop (9 + 243) = a ++ b ++ c := by
  have e1 : L1.take 1 = a := by rw [h1, List.take_zero, List.nil_append, List.take_left' ha]
  have e2 : (L1.drop 9).length = 243 := by rw [h1]; simp [hz, ha]
  have e3 : L2 = a ++ b ++ L1.drop 9 := by rw [h2, e1]
  rw [e3, List.take_left' (by simp [ha, hb]), List.drop_of_length_le (by simp [ha, hb, e2])]
  simp
theorem madeB {W : World} {B n : Nat} {v : Value} (h : W.ownsRow B 5 1 v n (madeCells (Value.int IntKind.u8 0).cells (n * 1)).toList) : Own 5 B W v (List.replicate n 0) :=
  own_snoc h (by simp) (by simp [toList_madeCells_one, Value.cells, bv])
theorem boxCells {q : Nat} {W0 W : World} (hb : Below (q + 1) W0 W) {t : TypeId} {c0 c1 c2 : Value} (h : W0.heap[q]? = some (.cells #[c0, c1, c2] t (0, 0))) :
    W.cell? ⟨q, 0, none⟩ = some c0 ∧ W.cell? ⟨q, 1, none⟩ = some c1 ∧ W.cell? ⟨q, 2, none⟩ = some c2 := by
  have h' : W.heap[q]? = some (.cells #[c0, c1, c2] t (0, 0)) := (hb.block q (by omega)).trans h
  exact ⟨by rw [cell_of_row W q 0 _ _ (0, 0) h']; rfl, by rw [cell_of_row W q 1 _ _ (0, 0) h']; rfl, by rw [cell_of_row W q 2 _ _ (0, 0) h']; rfl⟩
set_option maxRecDepth 100000 in
set_option maxHeartbeats 1000000 in
theorem vSealYes (k : Int) (n : Nat) (hn : n < 18446744073709551616) (u : Value) (l : List UInt8) (w : World) (hu : Byt w u l) (h : fitsP ⟨k, n, l⟩ = true) :
    Calls Try.prog 7 #[pgv k n u] w fun e w' => ∃ v, e = .returned (.tuple #[v, .int .i64 0]) ∧ Own 5 w.heap.size w' v (putC (contentP ⟨k, n, l⟩)) ∧ Grows w w' := by
  obtain ⟨i0, hi, hz0, hz1, hz2⟩ := info_parts info5
  obtain ⟨⟨h1, h5⟩, hl⟩ := (fitsP_iff _).1 h
  simp only at h1 h5 hl
  obtain ⟨kk, rfl⟩ := Int.eq_ofNat_of_zero_le (show 0 ≤ k by omega)
  have HK := Lib.hid (fun w => vKindIs (kk : Int) true ((isK_iff (kk : Int)).2 ⟨h1, h5⟩) w)
  have HF1 := Lib.hid (fun w => vFixed_some kk 1 (by omega) (by omega) (by omega) w)
  have HF8 := Lib.hid (fun w => vFixed_some n 8 hn (by omega) (by omega) w)
  have hkw : IntKind.u64.wrap (kk : Int) = (kk : Int) := wrap_u64 _ (by omega) (by omega)
  obtain ⟨a, cap, rfl⟩ := hu.slice
  obtain ⟨q, hq⟩ : ∃ q, w.heap.size = q := ⟨_, rfl⟩
  have Hq := Lib.hid hq
  obtain ⟨W0, hW0⟩ : ∃ W0, w.alloc (.cells #[.int .i64 kk, .int .u64 n, .slice a l.length cap] 25) = W0 := ⟨_, rfl⟩
  have HW0 := Lib.hid hW0
  have HG0 : Hid (Grows w W0) := by show Grows _ _; rw [← hW0]; exact Grows.alloc' _ _
  have Hz : Hid (W0.heap.size = q + 1) := by show _ = _; rw [← hW0, ← hq]; simp
  have HB : Hid (W0.heap[q]? = some (.cells #[.int .i64 kk, .int .u64 n, .slice a l.length cap] 25 (0, 0))) := by show _ = _; rw [← hW0, ← hq]; exact heap_alloc_new _ _
  have Hu := Lib.hid hu
  have Hl := Lib.hid hl
  have hlI : (l.length : Int) = 243 := by omega
  have HT : Hid ([UInt8.ofNat kk] ++ fixG 8 n ++ l = contentP ⟨kk, n, l⟩) := by show _ = _; unfold contentP; simp
  have Hf : Hid (fitsP ⟨kk, n, l⟩ = true) := h
  have Hc := contentP_length ⟨kk, n, l⟩
  rw [show (Pg.body ⟨kk, n, l⟩).length = 243 from hl] at Hc
  have Hc := Lib.hid Hc
  clear hu h hl hn h1 h5 hq hW0
  unfold pgv
  obtain ⟨c0, c1, c2⟩ := boxCells (Below.refl (q + 1) W0) HB.out
  go_enter Try.func7, Try.ntmps7
  go_wp2_with (first
    | (refine wpList_boxT rfl 25 (.tmp 0) rfl #[.int .i64 kk, .int .u64 n, .slice a l.length cap] rfl ?_; rw [HW0.out, Hq.out])
    | (go_at_call 14; refine (HK.out _).mono ?_; rintro e w1 ⟨rfl, rfl⟩)
    | (at_make; refine wpList_make_full _ rfl _ _ 23 rfl (q + 1) 5 i0 (.int .u8 0) 1 Try.underlying23 hi hz0 hz1 .i64 .i64 _ _ 252 rfl rfl rfl rfl (by rw [hz2]; omega) (by unfold maxLen; omega) (by rw [Hz.out]; exact Nat.le_refl _) ?_; intro w1 hown hgrow; rw [Hz.out] at hown ⊢))
  have hB1 : Below (q + 1) W0 w1 := (Below.refl _ _).grown hgrow (by rw [Hz.out]; exact Nat.le_refl _) (fun _ h => by cases h)
  have hown' : Own 5 (q + 1) w1 (.slice (some ⟨q + 1, 0, none⟩) 252 252) (List.replicate 252 0) := madeB hown
  have hR1 := RowB.of_own hown' (by simp)
  have hs1 := hown'.block_lt
  clear hown hown' hgrow c0 c1 c2
  refine (vParts _ 0 252 (Nat.le_refl _) w1).mono ?_
  rintro e w2 ⟨rfl, hg2⟩
  have HR2 := Lib.hid (hR1.grows hg2)
  have HB2 : Hid (Below (q + 1) W0 w2) := Below.trans hB1 (Below.mono hg2 (by omega))
  have hs2 := hg2.size
  clear hR1 hB1
  obtain ⟨c0, c1, c2⟩ := boxCells HB2.out HB.out
  go_wp2_with fail
  clear c0 c1 c2
  refine (HF1.out _).mono ?_
  rintro e w3 ⟨v3, rfl, hown3, hg3⟩
  have HR3 := Lib.hid (HR2.out.grows hg3)
  have HB3 : Hid (Below (q + 1) W0 w3) := Below.trans HB2.out (Below.mono hg3 (by omega))
  have Hv3 : Hid (Byt w3 v3 (fixG 1 kk)) := hown3.byt
  have hs3 := hg3.size
  clear hown3 hg3 hg2 HB2 HR2
  go_wp2_with (refine wpList_copyB rfl (.tmp 25) (.tmp 31) 23 rfl Try.underlying23 sizeU8 (q + 1) 0 1 1 rfl (List.replicate 252 0) HR3.out (by rw [List.length_replicate]; omega) v3 (fixG 1 kk) rfl Hv3.out (fixG_length 1 kk) ?_; intro w4 hr4 hbel4; have HR4 := Lib.hid hr4; have HB4 := Lib.hid (hbel4 _ _ HB3.out (Nat.le_refl _)); obtain ⟨c0, c1, c2⟩ := boxCells HB4.out HB.out; clear hr4)
  have hs4 := (hbel4 0 w3 (Below.refl _ _) (Nat.zero_le _)).size
  clear c0 c1 c2 hbel4 HR3 HB3 Hv3
  refine (HF8.out _).mono ?_
  rintro e w5 ⟨v5, rfl, hown5, hg5⟩
  have HR5 := Lib.hid (HR4.out.grows hg5)
  have HB5 : Hid (Below (q + 1) W0 w5) := Below.trans HB4.out (Below.mono hg5 (by omega))
  have Hv5 : Hid (Byt w5 v5 (fixG 8 n)) := hown5.byt
  have hs5 := hg5.size
  clear hown5 hg5 HR4 HB4
  obtain ⟨L1, HL1⟩ : ∃ L1, Hid (L1 = List.take 0 (List.replicate 252 0) ++ fixG 1 kk ++ List.drop (0 + 1) (List.replicate 252 0)) := ⟨_, Lib.hid rfl⟩
  rw [← HL1.out] at HR5
  have HL1n : Hid (L1.length = 252) := by show _ = _; rw [HL1.out]; simp [fixG_length]
  go_wp2_with (first
    | (refine wpList_copyB rfl (.tmp 33) (.tmp 38) 23 rfl Try.underlying23 sizeU8 (q + 1) 1 8 8 rfl L1 HR5.out (by rw [HL1n.out]; omega) v5 (fixG 8 n) rfl Hv5.out (fixG_length 8 n) ?_; intro w6 hr6 hbel6; have HR6 := Lib.hid hr6; have HB6 := Lib.hid (hbel6 _ _ HB5.out (Nat.le_refl _)); obtain ⟨c0, c1, c2⟩ := boxCells HB6.out HB.out; have HG6 : Hid (Grows w w6) := Grows.trans' HG0.out (Below.mono HB6.out (by have := Hz.out; omega)); obtain ⟨L2, HL2⟩ : ∃ L2, Hid (L2 = List.take 1 L1 ++ fixG 8 n ++ List.drop (1 + 8) L1) := ⟨_, Lib.hid rfl⟩; rw [← HL2.out] at HR6; have HL2n : Hid (L2.length = 252) := (show L2.length = 252 by rw [HL2.out]; simp [fixG_length, HL1n.out]); clear hr6 hbel6)
    | (refine wpList_copyB rfl (.tmp 40) (.tmp 42) 23 rfl Try.underlying23 sizeU8 (q + 1) 9 243 243 rfl L2 HR6.out (by rw [HL2n.out]; omega) (.slice a l.length cap) l rfl (Hu.out.grows HG6.out) Hl.out ?_; intro w7 hr7 hbel7; have HR7 := Lib.hid hr7; have HB7 := Lib.hid (hbel7 _ _ HB6.out (Nat.le_refl _)); clear c0 c1 c2 hr7 hbel7))
  have hr7 := HR7.out
  rw [cp3 _ _ _ _ List.length_replicate (fixG_length 1 kk) (fixG_length 8 n) Hl.out L1 L2 HL1.out HL2.out, show fixG 1 kk = [UInt8.ofNat kk] by simp [fixG_cons, fixG], HT.out] at hr7
  have hb7 := hr7.byt 0 252 252 (by rw [Hc.out]; omega) (Nat.le_refl _) (by simp [maxLen])
  rw [List.drop_zero, List.take_of_length_le (by rw [Hc.out]; omega)] at hb7
  have HG7 : Hid (Grows w w7) := Grows.trans' HG0.out (Below.mono HB7.out (by have := Hz.out; omega))
  have HP := Lib.hid (vPutC _ _ w7 hb7 (by rw [Hc.out]; omega))
  clear hr7 hb7
  refine HP.out.mono ?_
  rintro e w8 ⟨v8, rfl, hown8, hg8⟩
  have Hown8 := Lib.hid hown8
  have Hg8 := Lib.hid hg8
  clear hown8 hg8
  go_wp2
  go_ret2
  exact ⟨_, rfl, Hown8.out.base HG7.out.size, Grows.trans' HG7.out Hg8.out⟩
end Go.Proofs.Ytfgnniajancpcaa
