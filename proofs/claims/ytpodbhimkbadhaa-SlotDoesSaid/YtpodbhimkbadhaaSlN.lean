/-
  A nil body; the laws' own 'live'.
-/
import Derived.Test.YtpodbhimkbadhaaSlM
namespace Go.Proofs.Ytpodbhimkbadhaa
open Go.RowKit
set_option linter.unusedVariables false
set_option linter.unusedSimpArgs false

theorem vNum (n : Int) (w : World) : Calls Try.prog 13 #[.int .i64 n] w fun e w' => e = .returned (.int .i64 n) ∧ w = w' := by
  go_enter Try.func13, Try.ntmps13
  go_wp2
  go_ret
  exact ⟨rfl, rfl⟩
theorem nPack (w : World) : Calls Try.prog 16 #[.pointer none] w fun e w' => e = .returned (.tuple #[]) ∧ w = w' := by
  go_enter Try.func16, Try.ntmps16
  go_wp2
  exact bodyPost_ret (v := .tuple #[]) (by simp [results, Try.results16, go_sem]) rfl ⟨rfl, rfl⟩
theorem nLen (w : World) : Calls Try.prog 18 #[.pointer none] w fun e w' => e = .returned (.int .i64 0) ∧ w = w' := by
  go_enter Try.func18, Try.ntmps18
  go_wp2
  go_ret
  exact ⟨rfl, rfl⟩
theorem nFree (w : World) : Calls Try.prog 19 #[.pointer none] w fun e w' => e = .returned (.int .i64 0) ∧ w = w' := by
  go_enter Try.func19, Try.ntmps19
  go_wp2
  go_ret
  exact ⟨rfl, rfl⟩
theorem nHoles (w : World) : Calls Try.prog 17 #[.pointer none] w fun e w' => e = .returned (.int .i64 0) ∧ w = w' := by
  go_enter Try.func17, Try.ntmps17
  go_wp2
  go_ret
  exact ⟨rfl, rfl⟩
theorem nBytes (w : World) : Calls Try.prog 22 #[.pointer none] w fun e w' => e = .returned (.slice none 0 0) ∧ w = w' := by
  go_enter Try.func22, Try.ntmps22
  go_wp2
  go_ret
  exact ⟨rfl, rfl⟩
theorem nInsert (w : World) (i : Int) (v : Value) : Calls Try.prog 14 #[.pointer none, .int .i64 i, v] w fun e w' => e = .returned (.int .i64 7) ∧ w = w' := by
  go_enter Try.func14, Try.ntmps14
  go_wp2
  go_ret
  exact ⟨rfl, rfl⟩
theorem nHas (w : World) (i : Int) : Calls Try.prog 33 #[.pointer none, .int .i64 i] w fun e w' => e = .returned (.bool false) ∧ w = w' := by
  have H := Lib.hid (nLen w)
  by_cases h0 : i < 0
  · have h0' : ¬ 0 ≤ i := by omega
    go_enter Try.func33, Try.ntmps33
    go_wp2_with (go_at_call 18; refine H.out.mono ?_; rintro e w1 ⟨rfl, rfl⟩)
    go_ret
    exact ⟨by simp, rfl⟩
  · have h0' : 0 ≤ i := by omega
    go_enter Try.func33, Try.ntmps33
    go_wp2_with (go_at_call 18; refine H.out.mono ?_; rintro e w1 ⟨rfl, rfl⟩)
    go_ret
    exact ⟨by simp; omega, rfl⟩
theorem nDelete (w : World) (i : Int) : Calls Try.prog 15 #[.pointer none, .int .i64 i] w fun e w' => e = .returned (.int .i64 7) ∧ w = w' := by
  have H := Lib.hid (nHas w i)
  go_enter Try.func15, Try.ntmps15
  go_wp2_with (go_at_call 33; refine H.out.mono ?_; rintro e w1 ⟨rfl, rfl⟩)
  go_ret
  exact ⟨rfl, rfl⟩
theorem nCell (w : World) (i : Int) : Calls Try.prog 20 #[.pointer none, .int .i64 i] w fun e w' => e = .returned (.slice none 0 0) ∧ w = w' := by
  have H := Lib.hid (nHas w i)
  go_enter Try.func20, Try.ntmps20
  go_wp2_with (go_at_call 33; refine H.out.mono ?_; rintro e w1 ⟨rfl, rfl⟩)
  go_ret
  exact ⟨rfl, rfl⟩

/-! live. -/
theorem madeB {W : World} {B n : Nat} {v : Value} (h : W.ownsRow B 5 1 v n (madeCells (Value.int IntKind.u8 0).cells (n * 1)).toList) : Own 5 B W v (List.replicate n 0) :=
  own_snoc h (by simp) (by simp [toList_madeCells_one, Value.cells, bv])
def lvC : List UInt8 := 9 :: List.replicate 77 0
def lv1 : Bo := insA newA 0 lvC
def lv2 : Bo := insA lv1 0 lvC
def lv3 : Bo := insA lv2 2 lvC
theorem lvC_len : lvC.length = 78 := by decide +kernel
theorem lv_facts : freeA newA = 241 ∧ lv1.l.length = 1 ∧ freeA lv1 = 161 ∧ lv2.l.length = 2 ∧ freeA lv2 = 81 ∧ lv3.l.length = 3 ∧ freeA lv3 = 1 ∧ holesA lv3 = 0 ∧ (cl (normA lv3).l 2).p = lvC ∧ (normA lv3).l.length = 3 := by
  decide +kernel
set_option maxRecDepth 100000 in
set_option maxHeartbeats 2000000 in
theorem vLive (w : World) : Calls Try.prog 8 #[] w fun e w' => e = .returned (.bool true) ∧ Grows w w' := by
  obtain ⟨l0, l1, l2, l3, l4, l5, l6, l7, l8, l9⟩ := lv_facts
  have L := Lib.hid (And.intro l0 (And.intro l1 (And.intro l2 (And.intro l3 (And.intro l4 (And.intro l5 (And.intro l6 (And.intro l7 (And.intro l8 l9)))))))))
  have Hc := Lib.hid lvC_len
  obtain ⟨i0, hi, hz0, hz1, hz2⟩ := info_parts info5
  obtain ⟨q, Hq⟩ : ∃ q, Hid (w.heap.size = q) := ⟨_, rfl⟩
  have HN := Lib.hid (vNew w)
  rw [Hq.out] at HN
  clear l0 l1 l2 l3 l4 l5 l6 l7 l8 l9
  unfold pb at HN
  go_enter Try.func8, Try.ntmps8
  go_wp2_with (first
    | (go_at_call 9; refine HN.out.mono ?_; rintro e w1 ⟨rfl, hb1, hg1⟩)
    | (at_make; refine wpList_make_full _ rfl _ _ 30 rfl w1.heap.size 5 i0 (.int .u8 0) 1 Try.underlying30 hi hz0 hz1 .i64 .i64 _ _ 78 rfl rfl rfl rfl (by rw [hz2]; omega) (by unfold maxLen; omega) (Nat.le_refl _) ?_; intro w2 hown hgrow; have hO := madeB hown; have c0 := hO.cell 0 (by rw [List.length_replicate]; omega); have f0 := hO.unfrozen 0))
  have Hh1 : Hid (Has w1 q newR newA) := ⟨hb1, enc_new, wf_new⟩
  have Hg1 := Lib.hid hg1
  obtain ⟨r, Hr⟩ : ∃ r, Hid (w1.heap.size = r) := ⟨_, rfl⟩
  have Hqr : Hid (q ≠ r) := by have := hb1.lt; have := Hr.out; show q ≠ r; omega
  have hg2 : Grows w1 w2 := (Below.refl _ _).grown hgrow (Nat.le_refl _) (fun _ h => by cases h)
  have Hh2 := Lib.hid (Hh1.out.grows hg2)
  have Hg2 := Lib.hid (Grows.trans' Hg1.out hg2)
  rw [Hr.out] at hO ⊢
  clear hown hgrow hg2 hb1 hg1
  have HO3 := Lib.hid (hO.store 0 9)
  have Hh3 := Lib.hid (Hh2.out.but (But.setCell (But.refl' (At r) w2) ⟨r, 0, none⟩ (bv 9) rfl) Hqr.out)
  have Hg3 := Lib.hid (but_new Hg2.out (But.setCell (But.refl' (At r) w2) ⟨r, 0, none⟩ (bv 9) rfl) (by have := Hg1.out.size; have := Hr.out; omega))
  have HOc : Hid (Own 5 r (w2.setCell ⟨r, 0, none⟩ (bv 9)) (.slice (some ⟨r, 0, none⟩) 78 78) lvC) := HO3.out
  rw [show bv 9 = .int .u8 9 from rfl] at HOc Hh3 Hg3
  obtain ⟨w3, hw3⟩ : ∃ w3, w2.setCell ⟨r, 0, none⟩ (.int .u8 9) = w3 := ⟨_, rfl⟩
  rw [hw3] at HOc Hh3 Hg3 ⊢
  clear c0 f0 hO HO3 hw3 Hh2 Hg2 w2
  have Hout : Hid (Outside (At q) (.slice (some ⟨r, 0, none⟩) 78 78)) := by
    intro b o sp n c e _ hb
    simp only [Value.slice.injEq, Option.some.injEq, Addr.mk.injEq] at e
    exact Hqr.out (hb.symm.trans e.1.1.symm)
  refine (hInsOk Hh3.out 0 (Nat.zero_le _) _ lvC HOc.out.byt Hout.out (by rw [Hc.out]; omega) (by rw [Hc.out, L.out.1]; omega)).mono ?_
  rintro e w4 ⟨rfl, ⟨f4, hh4⟩, hu4⟩
  have Hh4 : Hid (Has w4 q f4 lv1) := hh4
  have Hg4 := Lib.hid (but_new Hg3.out hu4 (by rw [Hq.out]; exact Nat.le_refl _))
  have Hb4 := Lib.hid (HOc.out.byt.but hu4 Hout.out)
  clear hh4 hu4
  go_wp2_with fail
  refine (hInsOk Hh4.out 0 (Nat.zero_le _) _ lvC Hb4.out Hout.out (by rw [Hc.out]; omega) (by rw [Hc.out, L.out.2.2.1]; omega)).mono ?_
  rintro e w5 ⟨rfl, ⟨f5, hh5⟩, hu5⟩
  have Hh5 : Hid (Has w5 q f5 lv2) := hh5
  have Hg5 := Lib.hid (but_new Hg4.out hu5 (by rw [Hq.out]; exact Nat.le_refl _))
  have Hb5 := Lib.hid (Hb4.out.but hu5 Hout.out)
  clear hh5 hu5
  go_wp2_with fail
  refine (hInsOk Hh5.out 2 (by rw [L.out.2.2.2.1]; omega) _ lvC Hb5.out Hout.out (by rw [Hc.out]; omega) (by rw [Hc.out, L.out.2.2.2.2.1]; omega)).mono ?_
  rintro e w6 ⟨rfl, ⟨f6, hh6⟩, hu6⟩
  have Hh6 : Hid (Has w6 q f6 lv3) := hh6
  have Hg6 := Lib.hid (but_new Hg5.out hu6 (by rw [Hq.out]; exact Nat.le_refl _))
  clear hh6 hu6
  go_wp2_with fail
  refine (hInsRoom Hh6.out 0 (Nat.zero_le _) none 0 0 (by omega) (by rw [L.out.2.2.2.2.2.2.1]; omega)).mono ?_
  rintro e w7 ⟨rfl, hg7⟩
  have Hh7 := Lib.hid (Hh6.out.grows hg7)
  have Hg7 := Lib.hid (Grows.trans' Hg6.out hg7)
  clear hg7
  go_wp2_with fail
  refine (hBytes Hh7.out).mono ?_
  rintro e w8 ⟨v8, rfl, hb8, hg8⟩
  have Hh8 := Lib.hid (Hh7.out.grows hg8)
  have Hg8 := Lib.hid (Grows.trans' Hg7.out hg8)
  have Hb8 := Lib.hid hb8
  clear hb8 hg8
  go_wp2_with fail
  refine (hParse w8 v8 _ _ Hb8.out (enc_bytes Hh8.out.wf) (wf_norm Hh8.out.wf) (low_norm Hh8.out.wf)).mono ?_
  rintro e w9 ⟨p, rfl, hh9, _, hg9⟩
  have Hp9 := Lib.hid hh9
  have Hh9 := Lib.hid (Hh8.out.grows hg9)
  have Hg9 := Lib.hid (Grows.trans' Hg8.out hg9)
  clear hh9 hg9
  have HF := Lib.hid (hFree Hh9.out)
  rw [L.out.2.2.2.2.2.2.1] at HF
  unfold pb at HF
  unfold pb
  go_wp2_with (first
    | (go_at_call 13; refine (vNum _ _).mono ?_; rintro e w1 ⟨rfl, rfl⟩)
    | (go_at_call 19; refine HF.out.mono ?_; rintro e w10 ⟨rfl, hg10⟩; have HpA := Lib.hid (Hp9.out.grows hg10); have HhA := Lib.hid (Hh9.out.grows hg10); have HgA := Lib.hid (Grows.trans' Hg9.out hg10); clear hg10; have HLn := Lib.hid (hLen HpA.out); rw [L.out.2.2.2.2.2.2.2.2.2] at HLn; unfold pb at HLn)
    | (go_at_call 18; refine HLn.out.mono ?_; rintro e w11 ⟨rfl, rfl⟩))
  refine (hCellYes HpA.out 2 (by rw [L.out.2.2.2.2.2.2.2.2.2]; omega)).mono ?_
  rintro e w11 ⟨v11, rfl, ho11, hg11⟩
  rw [L.out.2.2.2.2.2.2.2.2.1] at ho11
  obtain ⟨g11, cp11, rfl, _⟩ := ho11.form (by rw [Hc.out]; omega)
  rw [Hc.out]
  have HpB := Lib.hid (HpA.out.grows hg11)
  have HhB := Lib.hid (HhA.out.grows hg11)
  have HgB := Lib.hid (Grows.trans' HgA.out hg11)
  clear hg11 ho11
  go_wp2_with fail
  refine (hCellYes HpB.out 2 (by rw [L.out.2.2.2.2.2.2.2.2.2]; omega)).mono ?_
  rintro e w12 ⟨v12, rfl, ho12, hg12⟩
  rw [L.out.2.2.2.2.2.2.2.2.1] at ho12
  obtain ⟨g12, cp12, rfl, _⟩ := ho12.form (by rw [Hc.out]; omega)
  have c12 := ho12.cell 0 (by rw [Hc.out]; omega)
  rw [show bv (lvC.getD 0 0) = .int .u8 9 from rfl] at c12
  rw [Hc.out]
  have HO := Lib.hid (hHoles (HhB.out.grows hg12))
  rw [L.out.2.2.2.2.2.2.2.1] at HO
  unfold pb at HO
  have HgC := Lib.hid (Grows.trans' HgB.out hg12)
  clear hg12 ho12
  go_wp2_with (go_at_call 17; refine HO.out.mono ?_; rintro e w13 ⟨rfl, hg13⟩)
  go_ret
  exact ⟨rfl, Grows.trans' HgC.out hg13⟩
end Go.Proofs.Ytpodbhimkbadhaa
