/-
  A body's bytes are written: a cell is laid.
-/
import Derived.Test.YtpodbhimkbadhaaSlB
import Derived.Test.YtpodbhimkbadhaaCpM
namespace Go.Proofs.Ytpodbhimkbadhaa
open Go.RowKit
set_option linter.unusedVariables false
set_option linter.unusedSimpArgs false

abbrev At (g : Nat) : Nat → Prop := fun k => k = g
theorem BodyAt.frozen {W : World} {g : Nat} {f : Raw} (h : BodyAt W g f) (i : Nat) : W.frozen? ⟨g, i, none⟩ = false := frozen_of_row W g i _ _ h
theorem BodyAt.set {W : World} {g : Nat} {f : Raw} (h : BodyAt W g f) (i : Nat) (hi : i < 243) (x : UInt8) (z : Int) (hz : z = (x.toNat : Int)) : BodyAt (W.setCell ⟨g, i, none⟩ (.int .u8 z)) g (upd f i x) := by
  subst hz
  unfold BodyAt
  rw [row_setCell h i]
  congr 2
  apply Array.ext'
  apply List.ext_getElem?
  intro j
  by_cases hj : j < 243
  · simp only [Array.toList_setIfInBounds, List.getElem?_set, List.getElem?_map, rowOf_get _ _ _ hj, List.length_map, rowOf_length, Option.map_some]
    unfold upd
    by_cases e : i = j
    · subst e; simp [hi, bv]
    · rw [if_neg e, if_neg (fun h => e h.symm)]
  · rw [List.getElem?_eq_none (by simp [rowOf_length]; omega), List.getElem?_eq_none (by simp [rowOf_length]; omega)]
theorem ovr_row (f : Raw) (L : Nat) (m : List UInt8) (h : L + m.length ≤ 243) : (rowOf f 243).take L ++ m ++ (rowOf f 243).drop (L + m.length) = rowOf (ovr f L m) 243 := by
  have hl : (List.take L (rowOf f 243)).length = L := by rw [List.length_take, rowOf_length]; omega
  apply List.ext_getElem?
  intro j
  by_cases hj : j < 243
  · rw [rowOf_get _ _ _ hj]
    unfold ovr
    by_cases a : j < L
    · rw [List.append_assoc, List.getElem?_append_left (by omega), if_neg (by omega), List.getElem?_take_of_lt a, rowOf_get _ _ _ hj]
    · rw [List.append_assoc, List.getElem?_append_right (by omega), hl]
      by_cases b : j < L + m.length
      · rw [if_pos (by omega), List.getElem?_append_left (by omega)]
        simp [List.getD, show j - L < m.length by omega]
      · rw [if_neg (by omega), List.getElem?_append_right (by omega), List.getElem?_drop, show L + m.length + (j - L - m.length) = j by omega, rowOf_get _ _ _ hj]
  · rw [List.getElem?_eq_none (by simp [rowOf_length]; omega), List.getElem?_eq_none (by rw [rowOf_length]; omega)]
theorem run_copyBody {w : World} {g : Nat} {f : Raw} (h : BodyAt w g f) (L H : Nat) (h1 : L ≤ H) (h2 : H ≤ 243) (v : Value) (m : List UInt8) (hv : Byt w v m) (ty : TypeId) :
    ∃ w', (Builtin.copy_ #[30, 30] ty #[slv g L H, v]).run Try.prog w = .ok (goInt ((min m.length (H - L) : Nat) : Int)) w' ∧ BodyAt w' g (ovr f L (m.take (H - L))) ∧ But (At g) w w' := by
  have hT := Try.underlying30
  obtain ⟨k, hk⟩ : ∃ k, min m.length (H - L) = k := ⟨_, rfl⟩
  rw [hk]
  have htk : m.take (H - L) = m.take k := by
    rcases Nat.le_total m.length (H - L) with h3 | h3
    · rw [List.take_of_length_le h3, List.take_of_length_le (by omega)]
    · rw [show H - L = k by omega]
  rw [htk]
  have hcs : ((rowOf f 243).map bv).toArray.size = 243 := by simp [rowOf_length]
  obtain ⟨ad0, cap0, rfl, a1, a2, a3, a4⟩ := hv
  by_cases h0 : k = 0
  · subst h0
    refine ⟨w, ?_, ?_, But.refl' _ _⟩
    · unfold slv
      have hself := setRow_self w g _ _ (0, 0) h
      cases ad0 with
      | none =>
        obtain rfl := a3 rfl
        have hm0 : m.length = 0 := by omega
        rw [hm0]
        exact run_copy_nil _ w _ _ ty _ _ _ _ hT (by rw [size1]; rfl)
      | some z =>
        have := run_copy_row Try.prog w 30 30 ty 5 g (sOff L) (H - L) (243 - L) z m.length cap0 _ _ [] hT size1 h (by simp only [List.length_nil]; exact hk.symm) (by simp) (by simp [rowOf_length]; unfold sOff; split <;> omega) (by simp)
        simp only [List.append_nil, List.length_nil, Nat.add_zero, List.take_append_drop, Array.toArray_toList] at this
        rw [hself] at this
        exact this
    · have : ovr f L (m.take 0) = f := by funext j; unfold ovr; rw [if_neg (by simp only [List.take_zero, List.length_nil]; omega)]
      rw [this]; exact h
  · have hsO : sOff L = L := by unfold sOff; rw [if_neg (by omega)]
    obtain ⟨b, of, rfl, hc⟩ := a4.resolve_left (by rintro rfl; simp at hk; omega)
    have hkl : ((m.take k).map bv).length = k := by rw [List.length_map, List.length_take]; omega
    have := run_copy_row Try.prog w 30 30 ty 5 g L (H - L) (243 - L) ⟨b, of, none⟩ m.length cap0 _ _ ((m.take k).map bv) hT size1 h (by rw [hkl]; exact hk.symm) (fun j v hj => by
      have hjk : j < k := by have := (List.getElem?_eq_some_iff.1 hj).1; rw [hkl] at this; exact this
      rw [Addr.add_lit, hc j (by omega), ← hj]
      simp [List.getD, hjk, show j < m.length by omega]) (by rw [hkl]; simp [rowOf_length]; omega) (fun v hv => by
      obtain ⟨z, _, rfl⟩ := List.mem_map.1 hv
      rfl)
    rw [hkl] at this
    refine ⟨_, by unfold slv; rw [hsO]; exact this, ?_, But.setRow (But.refl' _ _) _ _ rfl⟩
    unfold BodyAt
    rw [setRow_heap w g _ _ _ _ h]
    congr 2
    rw [← ovr_row f L (m.take k) (by rw [List.length_take]; omega), List.length_take, show min k m.length = k by omega]
    apply Array.ext'
    simp [List.map_take, List.map_drop]

theorem StepOk.of_skip {P : Program} {o : Oper} {ρ : Operand → Value} {w w' : World} {Ψ : Value → World → Prop} (h : (execOp ρ o).run P w = .ok .skip w') (hv : Ψ undef w') : StepOk P o ρ w Ψ := by
  unfold StepOk; rw [h]; exact hv
/-- A body of which one byte is written amid a region. -/
def bodT (g : Nat) (f0 f1 : Raw) (i : Nat) (use : Array (List Nat)) : StateK :=
  { Ψ := fun s W => match s with
      | 0 => BodyAt W g f0
      | 1 => BodyAt W g f1
      | _ => True
    made := #[none, some i], kl := #[[i], []], use := use, muts := [i] }
theorem bodT_ks (g : Nat) (f0 f1 : Raw) (k : Nat) (use : Array (List Nat)) : ∀ i s W W', i ∉ (bodT g f0 f1 k use).kl.getD s [] → (bodT g f0 f1 k use).made.getD s none ≠ some i → (bodT g f0 f1 k use).rel (But (At g)) i W W' → (bodT g f0 f1 k use).Ψ s W → (bodT g f0 f1 k use).Ψ s W' := by
  intro i s W W' h1 h2 h3 h4
  match s with
  | 0 =>
    have hi : i ≠ k := by simpa [bodT] using h1
    have h5 : Grows W W' := by simpa [StateK.rel, bodT, hi] using h3
    exact BodyAt.grows h4 h5
  | 1 =>
    have hi : i ≠ k := by intro e; exact h2 (by rw [e]; rfl)
    have h5 : Grows W W' := by simpa [StateK.rel, bodT, hi] using h3
    exact BodyAt.grows h4 h5
  | _ + 2 => trivial

set_option maxRecDepth 100000 in
set_option maxHeartbeats 1000000 in
theorem vLay (w : World) (g : Nat) (f : Raw) (h : BodyAt w g f) (i : Nat) (hi : 3 + 2 * i < 243) (v : Value) (c : List UInt8) (hv : Byt w v c) (ho : Outside (At g) v) (ht : (f 1).toNat ≤ 243) (hct : c.length ≤ (f 1).toNat) (hc : c.length ≤ 78) :
    Calls Try.prog 32 #[pb g, .int .i64 (i : Int), v] w fun e w' => e = .returned (.tuple #[]) ∧ BodyAt w' g (layR f i c) ∧ But (At g) w w' := by
  obtain ⟨a, cap, rfl⟩ := hv.slice
  obtain ⟨n, Hn⟩ : ∃ n, Hid (c.length = n) := ⟨_, rfl⟩
  obtain ⟨t, Ht⟩ : ∃ t, Hid ((f 1).toNat = t) := ⟨_, rfl⟩
  rw [Hn.out] at hct hc ho
  rw [Ht.out] at ht hct
  have Hv := Lib.hid hv
  rw [Hn.out] at Hv
  have H0 := Lib.hid h
  have Ho := Lib.hid ho
  have HE := Lib.hid (fun w => vEntryAt w i (by omega))
  obtain ⟨e, He⟩ : ∃ e, Hid (2 + 2 * i = e) := ⟨_, rfl⟩
  rw [He.out] at HE
  have he2 : 2 ≤ e := by have := He.out; omega
  have he1 : e + 1 < 243 := by have := He.out; omega
  have HL : Hid (ovr (upd (upd (upd f 1 (UInt8.ofNat (t - n))) e (UInt8.ofNat (t - n))) (e + 1) (UInt8.ofNat n)) (t - n) (c.take (243 - (t - n))) = layR f i c) := by
    show _ = _
    unfold layR
    rw [Ht.out, Hn.out, He.out, show 3 + 2 * i = e + 1 by have := He.out; omega, List.take_of_length_le (by rw [Hn.out]; omega)]
  have c1 := h.cell 1 (by omega)
  rw [Ht.out] at c1
  have hq1 : ((t : Int) - (n : Int)) % 256 = ((t - n : Nat) : Int) := by omega
  have hq2 : IntKind.u8.wrap (n : Int) = (n : Int) := by simp [IntKind.wrap, IntKind.bits, IntKind.signed]; omega
  have Hts : Hid (t - n ≤ 243) := by show _ ≤ _; omega
  obtain ⟨s, Hs⟩ : ∃ s, Hid (t - n = s) := ⟨_, rfl⟩
  rw [Hs.out] at HL hq1 Hts
  have Hq1 := Lib.hid hq1
  have hs243 := Hts.out
  have hn78 := hc
  rw [Hn.out]
  have hmx : Try.prog.follows .mixedOrders = true := by kernel_rfl
  clear h hv ho hi hq1 ht hct hc
  unfold pb
  go_enter Try.func32, Try.ntmps32
  go_wp2
  refine specs_last 10
    #[[], [0], [0, 1], [0, 1, 2], [0, 1, 2, 3], [], [0, 1, 2, 3, 4, 5], [0], [0, 7], [0, 1, 2, 3, 4, 5, 6, 7, 8], [0, 1, 2, 3, 4, 5, 6, 7, 8, 9]] #[[0], [], [], [], [], [6], [], [], [], [], []] #[true, true, true, true, true, true, true, true, true, true, true]
    ((.val ?va0) :: (.val ?va1) :: (.val ?va2) :: (.val ?va3) :: (.val ?va4) :: (.val ?va5) :: (.val ?va6) :: (.val ?va7) :: (.val ?va8) :: (.val ?va9) :: (.any) :: []).toArray
    hmx ?chka ?grda rfl ?stpa ?rsta
  case chka => rfl
  case stpa =>
    refine ⟨?_, ?_, ?_, ?_, ?_, ?_, ?_, ?_, ?_, ?_, ?_, trivial⟩
    · refine step_intro rfl rfl fun ρ X hc hf hgl hX hp ho => ?_
      change StepOk _ { dst := _, op := Op.move (Operand.tmp 0), type := _, pos := _, after := _, guard := _ } _ _ _
      have k0 : ρ (.tmp 0) = .pointer (some ⟨g, 0, none⟩) := ho 0 (by decide)
      clear hp ho
      refine StepOk.of_run (v := ?va0) (w' := X) ?_ ⟨rfl, Below.refl _ _⟩
      clear hX
      go_simp
      all_goals try go_bits
      all_goals try simp only [IntWalk.iteOmega]
      all_goals try go_bits
      all_goals rfl
    · refine step_intro rfl rfl fun ρ X hc hf hgl hX hp ho => ?_
      change StepOk _ { dst := _, op := Op.nilCheck (Operand.tmp 11), type := _, pos := _, after := _, guard := _ } _ _ _
      have k11 : ρ (.tmp 11) = ?va0 := hp 0 (by decide)
      clear hp ho
      refine StepOk.of_run (v := ?va1) (w' := X) ?_ ⟨rfl, Below.refl _ _⟩
      clear hX
      go_simp
      all_goals try go_bits
      all_goals try simp only [IntWalk.iteOmega]
      all_goals try go_bits
      all_goals rfl
    · refine step_intro rfl rfl fun ρ X hc hf hgl hX hp ho => ?_
      change StepOk _ { dst := _, op := Op.fieldAddr 47 (Operand.tmp 12) 0, type := _, pos := _, after := _, guard := _ } _ _ _
      have k12 : ρ (.tmp 12) = ?va1 := hp 1 (by decide)
      clear hp ho
      refine StepOk.of_run (v := ?va2) (w' := X) ?_ ⟨rfl, Below.refl _ _⟩
      clear hX
      go_simp
      all_goals try go_bits
      all_goals try simp only [IntWalk.iteOmega]
      all_goals try go_bits
      all_goals rfl
    · refine step_intro rfl rfl fun ρ X hc hf hgl hX hp ho => ?_
      change StepOk _ { dst := _, op := Op.indexAddr 45 (Operand.tmp 13) (Operand.const (Value.int IntKind.i64 1)), type := _, pos := _, after := _, guard := _ } _ _ _
      have k13 : ρ (.tmp 13) = ?va2 := hp 2 (by decide)
      clear hp ho
      refine StepOk.of_run (v := ?va3) (w' := X) ?_ ⟨rfl, Below.refl _ _⟩
      clear hX
      go_simp
      all_goals try go_bits
      all_goals try simp only [IntWalk.iteOmega]
      all_goals try go_bits
      all_goals rfl
    · refine step_intro rfl rfl fun ρ X hc hf hgl hX hp ho => ?_
      change StepOk _ { dst := _, op := Op.load 5 (Operand.tmp 14), type := _, pos := _, after := _, guard := _ } _ _ _
      have k14 : ρ (.tmp 14) = ?va3 := hp 3 (by decide)
      have c1X := Grows.cell' hX c1
      clear hp ho
      refine StepOk.of_run (v := ?va4) (w' := X) ?_ ⟨rfl, Below.refl _ _⟩
      clear hX
      go_simp
      all_goals try go_bits
      all_goals try simp only [IntWalk.iteOmega]
      all_goals try go_bits
      all_goals rfl
    · refine step_intro rfl rfl fun ρ X hc hf hgl hX hp ho => ?_
      change StepOk _ { dst := _, op := Op.move (Operand.tmp 6), type := _, pos := _, after := _, guard := _ } _ _ _
      have k6 : ρ (.tmp 6) = .int .u8 (n : Int) := ho 6 (by decide)
      clear hp ho
      refine StepOk.of_run (v := ?va5) (w' := X) ?_ ⟨rfl, Below.refl _ _⟩
      clear hX
      go_simp
      all_goals try go_bits
      all_goals try simp only [IntWalk.iteOmega]
      all_goals try go_bits
      all_goals rfl
    · refine step_intro rfl rfl fun ρ X hc hf hgl hX hp ho => ?_
      change StepOk _ { dst := _, op := Op.binOp BinOp.sub 5 (Operand.tmp 15) (Operand.tmp 16) 5, type := _, pos := _, after := _, guard := _ } _ _ _
      have k15 : ρ (.tmp 15) = ?va4 := hp 4 (by decide)
      have k16 : ρ (.tmp 16) = ?va5 := hp 5 (by decide)
      clear hp ho
      refine StepOk.of_run (v := ?va6) (w' := X) ?_ ⟨rfl, Below.refl _ _⟩
      clear hX
      go_simp
      all_goals try go_bits
      all_goals try simp only [IntWalk.iteOmega]
      all_goals try go_bits
      all_goals rfl
    · refine step_intro rfl rfl fun ρ X hc hf hgl hX hp ho => ?_
      change StepOk _ { dst := _, op := Op.nilCheck (Operand.tmp 11), type := _, pos := _, after := _, guard := _ } _ _ _
      have k11 : ρ (.tmp 11) = ?va0 := hp 0 (by decide)
      clear hp ho
      refine StepOk.of_run (v := ?va7) (w' := X) ?_ ⟨rfl, Below.refl _ _⟩
      clear hX
      go_simp
      all_goals try go_bits
      all_goals try simp only [IntWalk.iteOmega]
      all_goals try go_bits
      all_goals rfl
    · refine step_intro rfl rfl fun ρ X hc hf hgl hX hp ho => ?_
      change StepOk _ { dst := _, op := Op.fieldAddr 47 (Operand.tmp 18) 0, type := _, pos := _, after := _, guard := _ } _ _ _
      have k18 : ρ (.tmp 18) = ?va7 := hp 7 (by decide)
      clear hp ho
      refine StepOk.of_run (v := ?va8) (w' := X) ?_ ⟨rfl, Below.refl _ _⟩
      clear hX
      go_simp
      all_goals try go_bits
      all_goals try simp only [IntWalk.iteOmega]
      all_goals try go_bits
      all_goals rfl
    · refine step_intro rfl rfl fun ρ X hc hf hgl hX hp ho => ?_
      change StepOk _ { dst := _, op := Op.indexAddr 45 (Operand.tmp 19) (Operand.const (Value.int IntKind.i64 1)), type := _, pos := _, after := _, guard := _ } _ _ _
      have k19 : ρ (.tmp 19) = ?va8 := hp 8 (by decide)
      clear hp ho
      refine StepOk.of_run (v := ?va9) (w' := X) ?_ ⟨rfl, Below.refl _ _⟩
      clear hX
      go_simp
      all_goals try go_bits
      all_goals try simp only [IntWalk.iteOmega]
      all_goals try go_bits
      all_goals rfl
    · exact last_intro rfl
  case grda => rfl
  case rsta =>
    intro a0 X hb
    have hfr := hb.frame ((11, ?va0) :: (12, ?va1) :: (13, ?va2) :: (14, ?va3) :: (15, ?va4) :: (16, ?va5) :: (17, ?va6) :: (18, ?va7) :: (19, ?va8) :: (20, ?va9) :: []) rfl ⟨hb.done' 0 11 rfl rfl, hb.done' 1 12 rfl rfl, hb.done' 2 13 rfl rfl, hb.done' 3 14 rfl rfl, hb.done' 4 15 rfl rfl, hb.done' 5 16 rfl rfl, hb.done' 6 17 rfl rfl, hb.done' 7 18 rfl rfl, hb.done' 8 19 rfl rfl, hb.done' 9 20 rfl rfl, trivial⟩
    simp only [updL, ↓reduceIte, Nat.reduceEqDiff, Nat.reduceAdd, Nat.zero_add] at hfr
    have HX := Lib.hid hb.ext
    clear hb
    subst hfr
    change StepOk _ { dst := _, op := Op.store 5 (Operand.tmp 20) (Operand.tmp 17), type := _, pos := _, after := _, guard := _ } _ _ _
    have h0X := H0.out.grows HX.out
    have fX := h0X.frozen 1
    have cX := h0X.cell 1 (by omega)
    unfold StepOk
    simp [go_sem, execOp, cX, fX]
    have HB1 : Hid (BodyAt (X.setCell ⟨g, 1, none⟩ (.int .u8 (((t : Int) - (n : Int)) % 256))) g (upd f 1 (UInt8.ofNat s))) := h0X.set 1 (by omega) _ _ (by rw [ofNat_toNat _ (by omega)]; exact Hq1.out)
    have HU1 : Hid (But (At g) w (X.setCell ⟨g, 1, none⟩ (.int .u8 (((t : Int) - (n : Int)) % 256)))) := But.setCell (But.ofGrows HX.out) _ _ rfl
    clear cX fX h0X c1 HX
    obtain ⟨w1, hw1⟩ : ∃ w1, X.setCell ⟨g, 1, none⟩ (.int .u8 (((t : Int) - (n : Int)) % 256)) = w1 := ⟨_, rfl⟩
    rw [hw1] at HB1 HU1 ⊢
    clear hw1 X
    go_wp2_with (go_at_call 31; refine (HE.out _).mono ?_; rintro e w2 ⟨rfl, rfl⟩)
    obtain ⟨fA, HfA⟩ : ∃ fA, Hid (upd f 1 (UInt8.ofNat s) = fA) := ⟨_, rfl⟩
    rw [HfA.out] at HB1 HL
    have HV1 : Hid ((fA 1).toNat = s) := by show _ = _; rw [← HfA.out]; unfold upd; rw [if_pos rfl]; exact ofNat_toNat _ (by omega)
    have hi1 : IntKind.i64.wrap ((e : Int) + 1) = (e : Int) + 1 := IntWalk.i64_in _ (by omega)
    have hi2 : (0 : Int) ≤ (e : Int) + 1 := by omega
    have hi3 : ((e : Int) + 1).toNat = e + 1 := by omega
    refine region_K_last (E := (But (At g))) (But.ok _) But.ofGrows 18
      #[[], [], [], [], [3], [], [5], [5, 6], [5, 6, 7], [5, 6, 7, 8], [], [0], [0, 11], [0, 1, 5, 6, 7, 8, 9, 11, 12], [0, 1, 5, 6, 7, 8, 9, 11, 12, 13], [2], [2, 15], [0, 1, 2, 3, 4, 5, 6, 7, 8, 9, 10, 11, 12, 13, 14, 15, 16], [0, 1, 2, 3, 4, 5, 6, 7, 8, 9, 10, 11, 12, 13, 14, 15, 16, 17]] #[[0], [7], [0], [7], [], [0], [], [], [], [], [6], [], [], [], [], [], [], [], []] #[true, true, true, true, true, true, true, true, true, true, true, true, true, true, true, true, true, true, true]
      ((.val ?vb0) :: (.val ?vb1) :: (.val ?vb2) :: (.val ?vb3) :: (.val ?vb4) :: (.val ?vb5) :: (.val ?vb6) :: (.val ?vb7) :: (.val ?vb8) :: (.val ?vb9) :: (.val ?vb10) :: (.val ?vb11) :: (.val ?vb12) :: (.val ?vb13) :: (.any) :: (.val ?vb15) :: (.val ?vb16) :: (.val ?vb17) :: (.any) :: []).toArray
      (bodT g fA (upd fA e (UInt8.ofNat s)) 14 #[[], [], [], [], [], [], [], [], [], [0], [], [], [], [], [0]])
      (bodT_ks _ _ _ _ _)
      (fun s hs => match s, hs with | 0, _ => HB1.out | 1, h => by simp [bodT] at h | _ + 2, _ => trivial)
      hmx ?chkb rfl ?grdb rfl ?stpb ?rstb
    case chkb => rfl
    case stpb =>
      refine ⟨?_, ?_, ?_, ?_, ?_, ?_, ?_, ?_, ?_, ?_, ?_, ?_, ?_, ?_, ?_, ?_, ?_, ?_, ?_, trivial⟩
      · refine step_introK rfl rfl fun ρ X hc hf hgl hX hp ho hu => ?_
        change StepOk _ { dst := _, op := Op.move (Operand.tmp 0), type := _, pos := _, after := _, guard := _ } _ _ _
        have k0 : ρ (.tmp 0) = .pointer (some ⟨g, 0, none⟩) := ho 0 (by decide)
        refine stepK_plain (i := 0) rfl ?_
        clear hu
        clear hp ho
        refine StepOk.of_run (v := ?vb0) (w' := X) ?_ ⟨rfl, Below.refl _ _⟩
        clear hX
        go_simp
        all_goals try go_bits
        all_goals try simp only [IntWalk.iteOmega]
        all_goals try go_bits
        all_goals rfl
      · refine step_introK rfl rfl fun ρ X hc hf hgl hX hp ho hu => ?_
        change StepOk _ { dst := _, op := Op.move (Operand.tmp 7), type := _, pos := _, after := _, guard := _ } _ _ _
        have k7 : ρ (.tmp 7) = .int .i64 (e : Int) := ho 7 (by decide)
        refine stepK_plain (i := 1) rfl ?_
        clear hu
        clear hp ho
        refine StepOk.of_run (v := ?vb1) (w' := X) ?_ ⟨rfl, Below.refl _ _⟩
        clear hX
        go_simp
        all_goals try go_bits
        all_goals try simp only [IntWalk.iteOmega]
        all_goals try go_bits
        all_goals rfl
      · refine step_introK rfl rfl fun ρ X hc hf hgl hX hp ho hu => ?_
        change StepOk _ { dst := _, op := Op.move (Operand.tmp 0), type := _, pos := _, after := _, guard := _ } _ _ _
        have k0 : ρ (.tmp 0) = .pointer (some ⟨g, 0, none⟩) := ho 0 (by decide)
        refine stepK_plain (i := 2) rfl ?_
        clear hu
        clear hp ho
        refine StepOk.of_run (v := ?vb2) (w' := X) ?_ ⟨rfl, Below.refl _ _⟩
        clear hX
        go_simp
        all_goals try go_bits
        all_goals try simp only [IntWalk.iteOmega]
        all_goals try go_bits
        all_goals rfl
      · refine step_introK rfl rfl fun ρ X hc hf hgl hX hp ho hu => ?_
        change StepOk _ { dst := _, op := Op.move (Operand.tmp 7), type := _, pos := _, after := _, guard := _ } _ _ _
        have k7 : ρ (.tmp 7) = .int .i64 (e : Int) := ho 7 (by decide)
        refine stepK_plain (i := 3) rfl ?_
        clear hu
        clear hp ho
        refine StepOk.of_run (v := ?vb3) (w' := X) ?_ ⟨rfl, Below.refl _ _⟩
        clear hX
        go_simp
        all_goals try go_bits
        all_goals try simp only [IntWalk.iteOmega]
        all_goals try go_bits
        all_goals rfl
      · refine step_introK rfl rfl fun ρ X hc hf hgl hX hp ho hu => ?_
        change StepOk _ { dst := _, op := Op.binOp BinOp.add 3 (Operand.tmp 26) (Operand.const (Value.int IntKind.i64 1)) 3, type := _, pos := _, after := _, guard := _ } _ _ _
        have k26 : ρ (.tmp 26) = ?vb3 := hp 3 (by decide)
        refine stepK_plain (i := 4) rfl ?_
        clear hu
        clear hp ho
        refine StepOk.of_run (v := ?vb4) (w' := X) ?_ ⟨rfl, Below.refl _ _⟩
        clear hX
        go_simp
        all_goals try go_bits
        all_goals try simp only [IntWalk.iteOmega]
        all_goals try go_bits
        all_goals rfl
      · refine step_introK rfl rfl fun ρ X hc hf hgl hX hp ho hu => ?_
        change StepOk _ { dst := _, op := Op.move (Operand.tmp 0), type := _, pos := _, after := _, guard := _ } _ _ _
        have k0 : ρ (.tmp 0) = .pointer (some ⟨g, 0, none⟩) := ho 0 (by decide)
        refine stepK_plain (i := 5) rfl ?_
        clear hu
        clear hp ho
        refine StepOk.of_run (v := ?vb5) (w' := X) ?_ ⟨rfl, Below.refl _ _⟩
        clear hX
        go_simp
        all_goals try go_bits
        all_goals try simp only [IntWalk.iteOmega]
        all_goals try go_bits
        all_goals rfl
      · refine step_introK rfl rfl fun ρ X hc hf hgl hX hp ho hu => ?_
        change StepOk _ { dst := _, op := Op.nilCheck (Operand.tmp 28), type := _, pos := _, after := _, guard := _ } _ _ _
        have k28 : ρ (.tmp 28) = ?vb5 := hp 5 (by decide)
        refine stepK_plain (i := 6) rfl ?_
        clear hu
        clear hp ho
        refine StepOk.of_run (v := ?vb6) (w' := X) ?_ ⟨rfl, Below.refl _ _⟩
        clear hX
        go_simp
        all_goals try go_bits
        all_goals try simp only [IntWalk.iteOmega]
        all_goals try go_bits
        all_goals rfl
      · refine step_introK rfl rfl fun ρ X hc hf hgl hX hp ho hu => ?_
        change StepOk _ { dst := _, op := Op.fieldAddr 47 (Operand.tmp 29) 0, type := _, pos := _, after := _, guard := _ } _ _ _
        have k29 : ρ (.tmp 29) = ?vb6 := hp 6 (by decide)
        refine stepK_plain (i := 7) rfl ?_
        clear hu
        clear hp ho
        refine StepOk.of_run (v := ?vb7) (w' := X) ?_ ⟨rfl, Below.refl _ _⟩
        clear hX
        go_simp
        all_goals try go_bits
        all_goals try simp only [IntWalk.iteOmega]
        all_goals try go_bits
        all_goals rfl
      · refine step_introK rfl rfl fun ρ X hc hf hgl hX hp ho hu => ?_
        change StepOk _ { dst := _, op := Op.indexAddr 45 (Operand.tmp 30) (Operand.const (Value.int IntKind.i64 1)), type := _, pos := _, after := _, guard := _ } _ _ _
        have k30 : ρ (.tmp 30) = ?vb7 := hp 7 (by decide)
        refine stepK_plain (i := 8) rfl ?_
        clear hu
        clear hp ho
        refine StepOk.of_run (v := ?vb8) (w' := X) ?_ ⟨rfl, Below.refl _ _⟩
        clear hX
        go_simp
        all_goals try go_bits
        all_goals try simp only [IntWalk.iteOmega]
        all_goals try go_bits
        all_goals rfl
      · refine step_introK rfl rfl fun ρ X hc hf hgl hX hp ho hu => ?_
        change StepOk _ { dst := _, op := Op.load 5 (Operand.tmp 31), type := _, pos := _, after := _, guard := _ } _ _ _
        have k31 : ρ (.tmp 31) = ?vb8 := hp 8 (by decide)
        refine stepK_plain (i := 9) rfl ?_
        have hu0 := hu
        have c1X := (by have h := BodyAt.cell (show BodyAt X g fA from hu0 0 (by simp [bodT])) 1 (by omega); rw [HV1.out] at h; exact h : X.cell? ⟨g, 1, none⟩ = some (.int .u8 (s : Int)))
        clear hp ho
        refine StepOk.of_run (v := ?vb9) (w' := X) ?_ ⟨rfl, Below.refl _ _⟩
        clear hX
        go_simp
        all_goals try go_bits
        all_goals try simp only [IntWalk.iteOmega]
        all_goals try go_bits
        all_goals rfl
      · refine step_introK rfl rfl fun ρ X hc hf hgl hX hp ho hu => ?_
        change StepOk _ { dst := _, op := Op.move (Operand.tmp 6), type := _, pos := _, after := _, guard := _ } _ _ _
        have k6 : ρ (.tmp 6) = .int .u8 (n : Int) := ho 6 (by decide)
        refine stepK_plain (i := 10) rfl ?_
        clear hu
        clear hp ho
        refine StepOk.of_run (v := ?vb10) (w' := X) ?_ ⟨rfl, Below.refl _ _⟩
        clear hX
        go_simp
        all_goals try go_bits
        all_goals try simp only [IntWalk.iteOmega]
        all_goals try go_bits
        all_goals rfl
      · refine step_introK rfl rfl fun ρ X hc hf hgl hX hp ho hu => ?_
        change StepOk _ { dst := _, op := Op.nilCheck (Operand.tmp 23), type := _, pos := _, after := _, guard := _ } _ _ _
        have k23 : ρ (.tmp 23) = ?vb0 := hp 0 (by decide)
        refine stepK_plain (i := 11) rfl ?_
        clear hu
        clear hp ho
        refine StepOk.of_run (v := ?vb11) (w' := X) ?_ ⟨rfl, Below.refl _ _⟩
        clear hX
        go_simp
        all_goals try go_bits
        all_goals try simp only [IntWalk.iteOmega]
        all_goals try go_bits
        all_goals rfl
      · refine step_introK rfl rfl fun ρ X hc hf hgl hX hp ho hu => ?_
        change StepOk _ { dst := _, op := Op.fieldAddr 47 (Operand.tmp 34) 0, type := _, pos := _, after := _, guard := _ } _ _ _
        have k34 : ρ (.tmp 34) = ?vb11 := hp 11 (by decide)
        refine stepK_plain (i := 12) rfl ?_
        clear hu
        clear hp ho
        refine StepOk.of_run (v := ?vb12) (w' := X) ?_ ⟨rfl, Below.refl _ _⟩
        clear hX
        go_simp
        all_goals try go_bits
        all_goals try simp only [IntWalk.iteOmega]
        all_goals try go_bits
        all_goals rfl
      · refine step_introK rfl rfl fun ρ X hc hf hgl hX hp ho hu => ?_
        change StepOk _ { dst := _, op := Op.indexAddr 45 (Operand.tmp 35) (Operand.tmp 24), type := _, pos := _, after := _, guard := _ } _ _ _
        have k35 : ρ (.tmp 35) = ?vb12 := hp 12 (by decide)
        have k24 : ρ (.tmp 24) = ?vb1 := hp 1 (by decide)
        refine stepK_plain (i := 13) rfl ?_
        clear hu
        clear hp ho
        refine StepOk.of_run (v := ?vb13) (w' := X) ?_ ⟨rfl, Below.refl _ _⟩
        clear hX
        go_simp
        all_goals try go_bits
        all_goals try simp only [IntWalk.iteOmega]
        all_goals try go_bits
        all_goals rfl
      · refine step_introK rfl rfl fun ρ X hc hf hgl hX hp ho hu => ?_
        change StepOk _ { dst := _, op := Op.store 5 (Operand.tmp 36) (Operand.tmp 32), type := _, pos := _, after := _, guard := _ } _ _ _
        have k36 : ρ (.tmp 36) = ?vb13 := hp 13 (by decide)
        have k32 : ρ (.tmp 32) = ?vb9 := hp 9 (by decide)
        have hu0 := hu
        have hz : BodyAt X g fA := hu 0 (by simp [bodT])
        refine stepK_made rfl ?_
        have cX := hz.cell e (by omega)
        have fX := hz.frozen e
        refine StepOk.of_skip (w' := X.setCell ⟨g, e, none⟩ (.int .u8 (s : Int))) ?_ ⟨trivial, But.setCell (But.refl' _ _) _ _ rfl, fun s hs => ?_⟩
        · simp [go_sem, execOp, cX, fX, k36, k32]
        · match s, hs with
          | 0, h => simp [bodT] at h
          | 1, _ => exact hz.set e (by omega) _ _ (by rw [ofNat_toNat _ (by omega)])
          | _ + 2, h => simp [bodT] at h
      · refine step_introK rfl rfl fun ρ X hc hf hgl hX hp ho hu => ?_
        change StepOk _ { dst := _, op := Op.nilCheck (Operand.tmp 25), type := _, pos := _, after := _, guard := _ } _ _ _
        have k25 : ρ (.tmp 25) = ?vb2 := hp 2 (by decide)
        refine stepK_plain (i := 15) rfl ?_
        clear hu
        clear hp ho
        refine StepOk.of_run (v := ?vb15) (w' := X) ?_ ⟨rfl, Below.refl _ _⟩
        clear hX
        go_simp
        all_goals try go_bits
        all_goals try simp only [IntWalk.iteOmega]
        all_goals try go_bits
        all_goals rfl
      · refine step_introK rfl rfl fun ρ X hc hf hgl hX hp ho hu => ?_
        change StepOk _ { dst := _, op := Op.fieldAddr 47 (Operand.tmp 37) 0, type := _, pos := _, after := _, guard := _ } _ _ _
        have k37 : ρ (.tmp 37) = ?vb15 := hp 15 (by decide)
        refine stepK_plain (i := 16) rfl ?_
        clear hu
        clear hp ho
        refine StepOk.of_run (v := ?vb16) (w' := X) ?_ ⟨rfl, Below.refl _ _⟩
        clear hX
        go_simp
        all_goals try go_bits
        all_goals try simp only [IntWalk.iteOmega]
        all_goals try go_bits
        all_goals rfl
      · refine step_introK rfl rfl fun ρ X hc hf hgl hX hp ho hu => ?_
        change StepOk _ { dst := _, op := Op.indexAddr 45 (Operand.tmp 38) (Operand.tmp 27), type := _, pos := _, after := _, guard := _ } _ _ _
        have k38 : ρ (.tmp 38) = ?vb16 := hp 16 (by decide)
        have k27 : ρ (.tmp 27) = ?vb4 := hp 4 (by decide)
        refine stepK_plain (i := 17) rfl ?_
        clear hu
        clear hp ho
        refine StepOk.of_run (v := ?vb17) (w' := X) ?_ ⟨rfl, Below.refl _ _⟩
        clear hX
        go_simp
        all_goals try go_bits
        all_goals try simp only [IntWalk.iteOmega]
        all_goals try go_bits
        all_goals rfl
      · exact last_intro rfl
    case grdb => rfl
    case rstb =>
      intro a0 X hb
      have hfr := hb.frame ((23, ?vb0) :: (24, ?vb1) :: (25, ?vb2) :: (26, ?vb3) :: (27, ?vb4) :: (28, ?vb5) :: (29, ?vb6) :: (30, ?vb7) :: (31, ?vb8) :: (32, ?vb9) :: (33, ?vb10) :: (34, ?vb11) :: (35, ?vb12) :: (36, ?vb13) :: (37, ?vb15) :: (38, ?vb16) :: (39, ?vb17) :: []) rfl ⟨hb.done' 0 23 rfl rfl, hb.done' 1 24 rfl rfl, hb.done' 2 25 rfl rfl, hb.done' 3 26 rfl rfl, hb.done' 4 27 rfl rfl, hb.done' 5 28 rfl rfl, hb.done' 6 29 rfl rfl, hb.done' 7 30 rfl rfl, hb.done' 8 31 rfl rfl, hb.done' 9 32 rfl rfl, hb.done' 10 33 rfl rfl, hb.done' 11 34 rfl rfl, hb.done' 12 35 rfl rfl, hb.done' 13 36 rfl rfl, hb.done' 15 37 rfl rfl, hb.done' 16 38 rfl rfl, hb.done' 17 39 rfl rfl, trivial⟩
      simp only [updL, ↓reduceIte, Nat.reduceEqDiff, Nat.reduceAdd, Nat.zero_add] at hfr
      have HX := Lib.hid hb.ext
      have HS1 := Lib.hid (hb.stat 1 (fun j hj => by obtain rfl : 14 = j := (by simpa [bodT] using hj); exact ⟨by decide, by decide⟩) rfl)
      clear hb
      subst hfr
      change StepOk _ { dst := _, op := Op.store 5 (Operand.tmp 39) (Operand.tmp 33), type := _, pos := _, after := _, guard := _ } _ _ _
      have hz : BodyAt X g (upd fA e (UInt8.ofNat s)) := HS1.out
      have cX := hz.cell (e + 1) (by omega)
      have fX := hz.frozen (e + 1)
      unfold StepOk
      simp [go_sem, execOp, cX, fX]
      have HB3 : Hid (BodyAt (X.setCell ⟨g, e + 1, none⟩ (.int .u8 (n : Int))) g (upd (upd fA e (UInt8.ofNat s)) (e + 1) (UInt8.ofNat n))) := hz.set (e + 1) (by omega) _ _ (by rw [ofNat_toNat _ (by omega)])
      have HU3 : Hid (But (At g) w (X.setCell ⟨g, e + 1, none⟩ (.int .u8 (n : Int)))) := But.setCell (HU1.out.trans' HX.out) _ _ rfl
      clear cX fX hz HX HB1 HU1
      obtain ⟨w3, hw3⟩ : ∃ w3, X.setCell ⟨g, e + 1, none⟩ (.int .u8 (n : Int)) = w3 := ⟨_, rfl⟩
      rw [hw3] at HB3 HU3 ⊢
      clear hw3 HS1 X
      go_wp2
      obtain ⟨fB, HfB⟩ : ∃ fB, Hid (upd (upd fA e (UInt8.ofNat s)) (e + 1) (UInt8.ofNat n) = fB) := ⟨_, rfl⟩
      rw [HfB.out] at HB3 HL
      have HV3 : Hid ((fB 1).toNat = s) := by show _ = _; rw [← HfB.out]; unfold upd; rw [if_neg (by omega), if_neg (by omega)]; exact HV1.out
      have HT := Lib.hid (fun (w : World) (h : BodyAt w g fB) => vTop w g fB h s HV3.out)
      have Hv3 : Hid (Byt w3 (.slice a n cap) c) := Hv.out.but HU3.out Ho.out
      clear HfA HfB HV1 HV3 Hv Ho Hq1 hi1 hi2 hi3
      refine specs_last 7
        #[[], [0], [0, 1], [], [3], [0, 1, 2, 3, 4], [], [0, 1, 2, 3, 4, 5, 6]] #[[0], [], [], [0], [], [], [2], []] #[true, true, true, true, true, true, true, true]
        ((.val ?vc0) :: (.val ?vc1) :: (.val ?vc2) :: (.val ?vc3) :: (.val ?vc4) :: (.val (slv g s 243)) :: (.val ?vc6) :: (.any) :: []).toArray
        hmx ?chkc ?grdc rfl ?stpc ?rstc
      case chkc => rfl
      case stpc =>
        refine ⟨?_, ?_, ?_, ?_, ?_, ?_, ?_, ?_, trivial⟩
        · refine step_intro rfl rfl fun ρ X hc hf hgl hX hp ho => ?_
          change StepOk _ { dst := _, op := Op.move (Operand.tmp 0), type := _, pos := _, after := _, guard := _ } _ _ _
          have k0 : ρ (.tmp 0) = .pointer (some ⟨g, 0, none⟩) := ho 0 (by decide)
          clear hp ho
          refine StepOk.of_run (v := ?vc0) (w' := X) ?_ ⟨rfl, Below.refl _ _⟩
          clear hX
          go_simp
          all_goals try go_bits
          all_goals try simp only [IntWalk.iteOmega]
          all_goals try go_bits
          all_goals rfl
        · refine step_intro rfl rfl fun ρ X hc hf hgl hX hp ho => ?_
          change StepOk _ { dst := _, op := Op.nilCheck (Operand.tmp 40), type := _, pos := _, after := _, guard := _ } _ _ _
          have k40 : ρ (.tmp 40) = ?vc0 := hp 0 (by decide)
          clear hp ho
          refine StepOk.of_run (v := ?vc1) (w' := X) ?_ ⟨rfl, Below.refl _ _⟩
          clear hX
          go_simp
          all_goals try go_bits
          all_goals try simp only [IntWalk.iteOmega]
          all_goals try go_bits
          all_goals rfl
        · refine step_intro rfl rfl fun ρ X hc hf hgl hX hp ho => ?_
          change StepOk _ { dst := _, op := Op.fieldAddr 47 (Operand.tmp 41) 0, type := _, pos := _, after := _, guard := _ } _ _ _
          have k41 : ρ (.tmp 41) = ?vc1 := hp 1 (by decide)
          clear hp ho
          refine StepOk.of_run (v := ?vc2) (w' := X) ?_ ⟨rfl, Below.refl _ _⟩
          clear hX
          go_simp
          all_goals try go_bits
          all_goals try simp only [IntWalk.iteOmega]
          all_goals try go_bits
          all_goals rfl
        · refine step_intro rfl rfl fun ρ X hc hf hgl hX hp ho => ?_
          change StepOk _ { dst := _, op := Op.move (Operand.tmp 0), type := _, pos := _, after := _, guard := _ } _ _ _
          have k0 : ρ (.tmp 0) = .pointer (some ⟨g, 0, none⟩) := ho 0 (by decide)
          clear hp ho
          refine StepOk.of_run (v := ?vc3) (w' := X) ?_ ⟨rfl, Below.refl _ _⟩
          clear hX
          go_simp
          all_goals try go_bits
          all_goals try simp only [IntWalk.iteOmega]
          all_goals try go_bits
          all_goals rfl
        · refine step_intro rfl rfl fun ρ X hc hf hgl hX hp ho => ?_
          change StepOk _ { dst := _, op := Op.call { callee := Callee.value (Operand.func 30), args := #[Operand.tmp 43], argTypes := #[25] }, type := _, pos := _, after := _, guard := _ } _ _ _
          have k43 : ρ (.tmp 43) = ?vc3 := hp 3 (by decide)
          clear hp ho
          refine StepOk.of_call (f := 30) (args := #[?vc3]) (w' := X) ?_ (HT.out X (HB3.out.grows hX)) ?_
          · go_simp
            all_goals try go_bits
            all_goals try rfl
          · rintro e w'' ⟨rfl, rfl⟩; refine ⟨_, rfl, ?_, Below.refl _ _⟩; show _ = ?vc4; rfl
        · refine step_intro rfl rfl fun ρ X hc hf hgl hX hp ho => ?_
          change StepOk _ { dst := _, op := Op.slice 45 (Operand.tmp 42) (some (Operand.tmp 44)) none none, type := _, pos := _, after := _, guard := _ } _ _ _
          have k42 : ρ (.tmp 42) = ?vc2 := hp 2 (by decide)
          have k44 : ρ (.tmp 44) = ?vc4 := hp 4 (by decide)
          have hsl := run_slBf X g s .i64 (by omega)
          unfold pb at hsl
          refine StepOk.of_run (v := slv g s 243) (w' := X) ?_ ⟨rfl, Below.refl _ _⟩
          simp [go_sem, execOp, k42, k44, hsl]
        · refine step_intro rfl rfl fun ρ X hc hf hgl hX hp ho => ?_
          change StepOk _ { dst := _, op := Op.move (Operand.tmp 2), type := _, pos := _, after := _, guard := _ } _ _ _
          have k2 : ρ (.tmp 2) = .slice a n cap := ho 2 (by decide)
          clear hp ho
          refine StepOk.of_run (v := ?vc6) (w' := X) ?_ ⟨rfl, Below.refl _ _⟩
          clear hX
          go_simp
          all_goals try go_bits
          all_goals try simp only [IntWalk.iteOmega]
          all_goals try go_bits
          all_goals rfl
        · exact last_intro rfl
      case grdc => rfl
      case rstc =>
        intro a0 X hb
        obtain ⟨x47, hx47⟩ : ∃ x, a0.tmps.getD 47 undef = x := ⟨_, rfl⟩
        have hfr := hb.frame ((40, ?vc0) :: (41, ?vc1) :: (42, ?vc2) :: (43, ?vc3) :: (44, ?vc4) :: (45, (slv g s 243)) :: (46, ?vc6) :: (47, x47) :: []) rfl ⟨hb.done' 0 40 rfl rfl, hb.done' 1 41 rfl rfl, hb.done' 2 42 rfl rfl, hb.done' 3 43 rfl rfl, hb.done' 4 44 rfl rfl, hb.done' 5 45 rfl rfl, hb.done' 6 46 rfl rfl, hx47, trivial⟩
        simp only [updL, ↓reduceIte, Nat.reduceEqDiff, Nat.reduceAdd, Nat.zero_add] at hfr
        have HX := Lib.hid hb.ext
        clear hb
        subst hfr
        change StepOk _ { dst := _, op := Op.call { callee := Callee.builtin Builtin.copy, args := #[Operand.tmp 45, Operand.tmp 46], argTypes := #[30, 30] }, type := _, pos := _, after := _, guard := _ } _ _ _
        obtain ⟨w4, hr, hb4, hu4⟩ := run_copyBody (HB3.out.grows HX.out) s 243 (by omega) (Nat.le_refl _) (.slice a n cap) c (Hv3.out.grows HX.out) 3
        refine StepOk.of_run (v := goInt ((min c.length (243 - s) : Nat) : Int)) (w' := w4) ?_ ?_
        · simp only [execOp, resolve, invoke, builtin, Sem.run_bind, Sem.run_pure, Result.andThen_ok, List.map_toArray, List.map_cons, List.map_nil]
          show (Result.andThen ((Builtin.copy_ #[30, 30] _ #[slv g s 243, .slice a n cap]).run Try.prog X) _) = _
          rw [hr]
          rfl
        · rw [HL.out] at hb4
          have hu5 := (HU3.out.trans' (But.ofGrows HX.out)).trans' hu4
          clear hr hu4
          go_wp2
          go_end0
          exact ⟨rfl, hb4, hu5⟩
end Go.Proofs.Ytpodbhimkbadhaa
