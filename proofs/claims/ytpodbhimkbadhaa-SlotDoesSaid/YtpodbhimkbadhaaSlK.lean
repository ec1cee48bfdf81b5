/-
  The contract of Bytes.
-/
import Derived.Test.YtpodbhimkbadhaaSlJ
import Derived.Laws.MakeOwn
namespace Go.Proofs.Ytpodbhimkbadhaa
open Go.RowKit
set_option linter.unusedVariables false
set_option linter.unusedSimpArgs false

/-! A row of 243 bytes. -/
def BufAt (W : World) (g : Nat) (f : Raw) : Prop := W.heap[g]? = some (.cells ((rowOf f 243).map bv).toArray 5 (0, 0))

theorem BufAt.lt {W : World} {g : Nat} {f : Raw} (h : BufAt W g f) : g < W.heap.size := (Array.getElem?_eq_some_iff.1 h).1

theorem BufAt.cell {W : World} {g : Nat} {f : Raw} (h : BufAt W g f) (i : Nat) (hi : i < 243) : W.cell? ⟨g, i, none⟩ = some (.int .u8 ((f i).toNat : Int)) := by
  rw [cell_of_row W g i _ _ (0, 0) h]
  simp [rowOf_get f 243 i hi, bv]

theorem BufAt.grows {W W' : World} {g : Nat} {f : Raw} (h : BufAt W g f) (k : Grows W W') : BufAt W' g f := k.heap' h

theorem BufAt.but {O : Nat → Prop} {W W' : World} {g : Nat} {f : Raw} (h : BufAt W g f) (k : But O W W') (ho : ¬ O g) : BufAt W' g f := k.blockEq ho h

theorem BufAt.byt {W : World} {g : Nat} {f : Raw} (h : BufAt W g f) (o n c : Nat) (hn : o + n ≤ 243) (hc : n ≤ c) (hm : c ≤ maxLen) : Byt W (.slice (some ⟨g, o, none⟩) n c) (rowOf (fun j => f (o + j)) n) := by
  refine ⟨some ⟨g, o, none⟩, c, by rw [rowOf_length], by rw [rowOf_length]; exact hc, hm, (fun hh => by cases hh), Or.inr ⟨g, o, rfl, fun i hi => ?_⟩⟩
  rw [rowOf_length] at hi
  rw [h.cell (o + i) (by omega), rowOf_getD _ _ _ hi]
  rfl

theorem BufAt.slv {W : World} {g : Nat} {f : Raw} (h : BufAt W g f) (L H : Nat) (h1 : L ≤ H) (h2 : H ≤ 243) : Byt W (slv g L H) (rowOf (fun j => f (L + j)) (H - L)) := by
  unfold Go.Proofs.Ytpodbhimkbadhaa.slv
  by_cases e : 243 = L
  · have : H - L = 0 := by omega
    rw [this]
    exact (h.byt (sOff L) 0 (243 - L) (by unfold sOff; rw [if_pos e]; omega) (by omega) (by simp [maxLen]; omega))
  · have : sOff L = L := by unfold sOff; rw [if_neg e]
    rw [this]
    exact h.byt L (H - L) (243 - L) (by omega) (by omega) (by simp [maxLen]; omega)

theorem BufAt.frozen {W : World} {g : Nat} {f : Raw} (h : BufAt W g f) (i : Nat) : W.frozen? ⟨g, i, none⟩ = false := frozen_of_row W g i _ _ h

theorem BufAt.set {W : World} {g : Nat} {f : Raw} (h : BufAt W g f) (i : Nat) (hi : i < 243) (x : UInt8) (z : Int) (hz : z = (x.toNat : Int)) : BufAt (W.setCell ⟨g, i, none⟩ (.int .u8 z)) g (upd f i x) := by
  subst hz
  unfold BufAt
  rw [row_setCell h i]
  congr 2
  apply Array.ext'
  apply List.ext_getElem?
  intro j
  by_cases hj : j < 243
  · simp only [Array.toList_setIfInBounds, List.getElem?_set, List.getElem?_map, rowOf_get _ _ _ hj, List.length_map, rowOf_length, Option.map_some]
    unfold upd
    by_cases e : i = j
    · subst e; simp [hi, bv]
    · rw [if_neg e, if_neg (fun h => e h.symm)]
  · rw [List.getElem?_eq_none (by simp [rowOf_length]; omega), List.getElem?_eq_none (by simp [rowOf_length]; omega)]

theorem run_copyBuf {w : World} {g : Nat} {f : Raw} (h : BufAt w g f) (L H : Nat) (h1 : L ≤ H) (h2 : H ≤ 243) (v : Value) (m : List UInt8) (hv : Byt w v m) (ty : TypeId) :
    ∃ w', (Builtin.copy_ #[30, 30] ty #[slv g L H, v]).run Try.prog w = .ok (goInt ((min m.length (H - L) : Nat) : Int)) w' ∧ BufAt w' g (ovr f L (m.take (H - L))) ∧ But (At g) w w' := by
  have hT := Try.underlying30
  obtain ⟨k, hk⟩ : ∃ k, min m.length (H - L) = k := ⟨_, rfl⟩
  rw [hk]
  have htk : m.take (H - L) = m.take k := by
    rcases Nat.le_total m.length (H - L) with h3 | h3
    · rw [List.take_of_length_le h3, List.take_of_length_le (by omega)]
    · rw [show H - L = k by omega]
  rw [htk]
  have hcs : ((rowOf f 243).map bv).toArray.size = 243 := by simp [rowOf_length]
  obtain ⟨ad0, cap0, rfl, a1, a2, a3, a4⟩ := hv
  by_cases h0 : k = 0
  · subst h0
    refine ⟨w, ?_, ?_, But.refl' _ _⟩
    · unfold slv
      have hself := setRow_self w g _ _ (0, 0) h
      cases ad0 with
      | none =>
        obtain rfl := a3 rfl
        have hm0 : m.length = 0 := by omega
        rw [hm0]
        exact run_copy_nil _ w _ _ ty _ _ _ _ hT (by rw [size1]; rfl)
      | some z =>
        have := run_copy_row Try.prog w 30 30 ty 5 g (sOff L) (H - L) (243 - L) z m.length cap0 _ _ [] hT size1 h (by simp only [List.length_nil]; exact hk.symm) (by simp) (by simp [rowOf_length]; unfold sOff; split <;> omega) (by simp)
        simp only [List.append_nil, List.length_nil, Nat.add_zero, List.take_append_drop, Array.toArray_toList] at this
        rw [hself] at this
        exact this
    · have : ovr f L (m.take 0) = f := by funext j; unfold ovr; rw [if_neg (by simp only [List.take_zero, List.length_nil]; omega)]
      rw [this]; exact h
  · have hsO : sOff L = L := by unfold sOff; rw [if_neg (by omega)]
    obtain ⟨b, of, rfl, hc⟩ := a4.resolve_left (by rintro rfl; simp at hk; omega)
    have hkl : ((m.take k).map bv).length = k := by rw [List.length_map, List.length_take]; omega
    have := run_copy_row Try.prog w 30 30 ty 5 g L (H - L) (243 - L) ⟨b, of, none⟩ m.length cap0 _ _ ((m.take k).map bv) hT size1 h (by rw [hkl]; exact hk.symm) (fun j v hj => by
      have hjk : j < k := by have := (List.getElem?_eq_some_iff.1 hj).1; rw [hkl] at this; exact this
      rw [Addr.add_lit, hc j (by omega), ← hj]
      simp [List.getD, hjk, show j < m.length by omega]) (by rw [hkl]; simp [rowOf_length]; omega) (fun v hv => by
      obtain ⟨z, _, rfl⟩ := List.mem_map.1 hv
      rfl)
    rw [hkl] at this
    refine ⟨_, by unfold slv; rw [hsO]; exact this, ?_, But.setRow (But.refl' _ _) _ _ rfl⟩
    unfold BufAt
    rw [setRow_heap w g _ _ _ _ h]
    congr 2
    rw [← ovr_row f L (m.take k) (by rw [List.length_take]; omega), List.length_take, show min k m.length = k by omega]
    apply Array.ext'
    simp [List.map_take, List.map_drop]

theorem rep_row (n : Nat) : List.replicate n (Value.int .u8 0) = (rowOf zR n).map bv := by
  refine List.ext_getElem (by simp [rowOf_length]) (fun i h1 h2 => ?_)
  simp [rowOf, zR, bv]
theorem BufAt.ofOwn {B : Nat} {W : World} {q : Nat} (h : W.ownsRow B 5 1 (.slice (some ⟨q, 0, none⟩) 243 243) 243 (madeCells (Value.int IntKind.u8 0).cells (243 * 1)).toList) : BufAt W q zR := by
  rcases h.2 with ⟨e, _⟩ | ⟨g', cap, cur, e, _, hg, _, _, hs, ht⟩
  · cases e
  · simp only [Value.slice.injEq, Option.some.injEq, Addr.mk.injEq, and_true, true_and] at e
    obtain ⟨rfl, rfl⟩ := e
    unfold BufAt
    rw [hg]
    have : cur.toList = (rowOf zR 243).map bv := by
      rw [List.take_of_length_le (by rw [Array.length_toList, hs]; exact Nat.le_refl _)] at ht
      rw [ht]
      show (madeCells #[.int .u8 0] 243).toList = _
      rw [toList_madeCells_one]
      exact rep_row 243
    rw [← this]
theorem run_slF (w : World) (q L : Nat) (lo : Int) (hlo : lo = (L : Int)) (h1 : L ≤ 243) : (Instr.sliceAt 30 (.slice (some ⟨q, 0, none⟩) 243 243) (some (.int .i64 lo)) none none).run Try.prog w = .ok (slv q L 243) w := by
  subst hlo
  obtain ⟨i, hi, hs⟩ := Option.map_eq_some_iff.1 size1
  have he : Try.prog.elem 30 = 5 := by kernel_rfl
  have hT : Try.prog.underlying 30 = some (.slice (Try.prog.elem 30)) := by rw [he]; exact Try.underlying30
  rw [run_sliceAt_slice w _ _ _ _ _ hT, run_slice_l w _ _ 243 243 hT .i64 L (by omega) (by omega), he]
  have hz : (sizeOf 5).run Try.prog w = .ok 1 w := by simp [sizeOf, typeInfo, hi, hs, Result.andThen]
  rw [hz]
  unfold slv sOff sliced
  simp only [Result.andThen_ok, Int.toNat_natCast, Nat.mul_one]
  split
  · rfl
  · simp [Addr.add_lit]

set_option maxRecDepth 100000 in
set_option maxHeartbeats 1000000 in
theorem hBytes {w : World} {g : Nat} {f : Raw} {A : Bo} (h : Has w g f A) : Calls Try.prog 22 #[pb g] w fun e w' => ∃ v, e = .returned v ∧ Byt w' v (rowOf (bytesA A) 243) ∧ Grows w w' := by
  have hmx : Try.prog.follows .mixedOrders = true := by kernel_rfl
  obtain ⟨i0, hi, hz0, hz1, hz2⟩ := info_parts info5
  obtain ⟨q, Hq⟩ : ∃ q, Hid (w.heap.size = q) := ⟨_, rfl⟩
  obtain ⟨n, Hn⟩ : ∃ n, Hid (A.l.length = n) := ⟨_, rfl⟩
  obtain ⟨d, Hd⟩ : ∃ d, Hid (2 + 2 * n = d) := ⟨_, rfl⟩
  have Hh := Lib.hid h
  have hn : n ≤ 120 := by rw [← Hn.out]; exact h.wf.ntop.1
  have HD := Lib.hid (fun (w : World) (h : Has w g f A) => hDirEnd h)
  rw [Hn.out, Hd.out] at HD
  have hd : d ≤ 243 := by have := Hd.out; omega
  clear h
  unfold pb at *
  go_enter Try.func22, Try.ntmps22
  go_wp2_with (first
    | (at_make; refine wpList_make_full _ rfl _ _ 30 rfl q 5 i0 (.int .u8 0) 1 Try.underlying30 hi hz0 hz1 .i64 .i64 _ _ 243 rfl rfl rfl rfl (by rw [hz2]; omega) (by unfold maxLen; omega) (by rw [Hq.out]; exact Nat.le_refl _) ?_; intro w1 hown hgrow; rw [Hq.out] at hown ⊢))
  have Hb1 := Lib.hid (BufAt.ofOwn hown)
  have Hg1 : Hid (Grows w w1) := (Below.refl _ _).grown hgrow (Nat.le_refl _) (fun _ h => by cases h)
  clear hown hgrow hi hz0 hz1 hz2
  refine specs_last 7
    #[[], [], [1], [1, 2], [], [4], [1, 2, 3, 4, 5], [0, 1, 2, 3, 4, 5, 6]] #[[3], [0], [], [], [0], [], [], []] #[true, true, true, true, true, true, true, true]
    ((.val ?vx0) :: (.val ?vx1) :: (.val ?vx2) :: (.val ?vx3) :: (.val ?vx4) :: (.val ?vx5) :: (.val (slv g 0 d)) :: (.any) :: []).toArray
    hmx ?chkx ?grdx rfl ?stpx ?rstx
  case chkx => rfl
  case stpx =>
    refine ⟨?_, ?_, ?_, ?_, ?_, ?_, ?_, ?_, trivial⟩
    · refine step_intro rfl rfl fun ρ X hc hf hgl hX hp ho => ?_
      change StepOk _ { dst := _, op := Op.move (Operand.tmp 3), type := _, pos := _, after := _, guard := _ } _ _ _
      have k3 : ρ (.tmp 3) = .slice (some ⟨q, 0, none⟩) 243 243 := ho 3 (by decide)
      clear hp ho
      refine StepOk.of_run (v := ?vx0) (w' := X) ?_ ⟨rfl, Below.refl _ _⟩
      clear hX
      go_simp
      all_goals try go_bits
      all_goals try simp only [IntWalk.iteOmega]
      all_goals try go_bits
      all_goals rfl
    · refine step_intro rfl rfl fun ρ X hc hf hgl hX hp ho => ?_
      change StepOk _ { dst := _, op := Op.move (Operand.tmp 0), type := _, pos := _, after := _, guard := _ } _ _ _
      have k0 : ρ (.tmp 0) = .pointer (some ⟨g, 0, none⟩) := ho 0 (by decide)
      clear hp ho
      refine StepOk.of_run (v := ?vx1) (w' := X) ?_ ⟨rfl, Below.refl _ _⟩
      clear hX
      go_simp
      all_goals try go_bits
      all_goals try simp only [IntWalk.iteOmega]
      all_goals try go_bits
      all_goals rfl
    · refine step_intro rfl rfl fun ρ X hc hf hgl hX hp ho => ?_
      change StepOk _ { dst := _, op := Op.nilCheck (Operand.tmp 11), type := _, pos := _, after := _, guard := _ } _ _ _
      have k11 : ρ (.tmp 11) = ?vx1 := hp 1 (by decide)
      clear hp ho
      refine StepOk.of_run (v := ?vx2) (w' := X) ?_ ⟨rfl, Below.refl _ _⟩
      clear hX
      go_simp
      all_goals try go_bits
      all_goals try simp only [IntWalk.iteOmega]
      all_goals try go_bits
      all_goals rfl
    · refine step_intro rfl rfl fun ρ X hc hf hgl hX hp ho => ?_
      change StepOk _ { dst := _, op := Op.fieldAddr 47 (Operand.tmp 12) 0, type := _, pos := _, after := _, guard := _ } _ _ _
      have k12 : ρ (.tmp 12) = ?vx2 := hp 2 (by decide)
      clear hp ho
      refine StepOk.of_run (v := ?vx3) (w' := X) ?_ ⟨rfl, Below.refl _ _⟩
      clear hX
      go_simp
      all_goals try go_bits
      all_goals try simp only [IntWalk.iteOmega]
      all_goals try go_bits
      all_goals rfl
    · refine step_intro rfl rfl fun ρ X hc hf hgl hX hp ho => ?_
      change StepOk _ { dst := _, op := Op.move (Operand.tmp 0), type := _, pos := _, after := _, guard := _ } _ _ _
      have k0 : ρ (.tmp 0) = .pointer (some ⟨g, 0, none⟩) := ho 0 (by decide)
      clear hp ho
      refine StepOk.of_run (v := ?vx4) (w' := X) ?_ ⟨rfl, Below.refl _ _⟩
      clear hX
      go_simp
      all_goals try go_bits
      all_goals try simp only [IntWalk.iteOmega]
      all_goals try go_bits
      all_goals rfl
    · refine step_intro rfl rfl fun ρ X hc hf hgl hX hp ho => ?_
      change StepOk _ { dst := _, op := Op.call { callee := Callee.value (Operand.func 29), args := #[Operand.tmp 14], argTypes := #[25] }, type := _, pos := _, after := _, guard := _ } _ _ _
      have k14 : ρ (.tmp 14) = ?vx4 := hp 4 (by decide)
      clear hp ho
      refine StepOk.of_call (f := 29) (args := #[?vx4]) (w' := X) ?_ (HD.out X (Hh.out.grows (Grows.trans' Hg1.out hX))) ?_
      · go_simp
        all_goals try go_bits
        all_goals try rfl
      · rintro e w'' ⟨rfl, rfl⟩; refine ⟨_, rfl, ?_, Below.refl _ _⟩; show _ = ?vx5; rfl
    · refine step_intro rfl rfl fun ρ X hc hf hgl hX hp ho => ?_
      change StepOk _ { dst := _, op := Op.slice 45 (Operand.tmp 13) none (some (Operand.tmp 15)) none, type := _, pos := _, after := _, guard := _ } _ _ _
      have k13 : ρ (.tmp 13) = ?vx3 := hp 3 (by decide)
      have k15 : ρ (.tmp 15) = ?vx5 := hp 5 (by decide)
      have hsl := run_slBt X g d .i64 (by omega)
      unfold pb at hsl
      refine StepOk.of_run (v := slv g 0 d) (w' := X) ?_ ⟨rfl, Below.refl _ _⟩
      simp [go_sem, execOp, k13, k15, hsl]
    · exact last_intro rfl
  case grdx => rfl
  case rstx =>
    intro a0 X hb
    obtain ⟨x17, hx17⟩ : ∃ x, a0.tmps.getD 17 undef = x := ⟨_, rfl⟩
    have hfr := hb.frame ((10, ?vx0) :: (11, ?vx1) :: (12, ?vx2) :: (13, ?vx3) :: (14, ?vx4) :: (15, ?vx5) :: (16, (slv g 0 d)) :: (17, x17) :: []) rfl ⟨hb.done' 0 10 rfl rfl, hb.done' 1 11 rfl rfl, hb.done' 2 12 rfl rfl, hb.done' 3 13 rfl rfl, hb.done' 4 14 rfl rfl, hb.done' 5 15 rfl rfl, hb.done' 6 16 rfl rfl, hx17, trivial⟩
    simp only [updL, ↓reduceIte, Nat.reduceEqDiff, Nat.reduceAdd, Nat.zero_add] at hfr
    have HX := Lib.hid hb.ext
    clear hb
    subst hfr
    change StepOk _ { dst := _, op := Op.call { callee := Callee.builtin Builtin.copy, args := #[Operand.tmp 10, Operand.tmp 16], argTypes := #[30, 30] }, type := _, pos := _, after := _, guard := _ } _ _ _
    obtain ⟨w2, hr, hb2, hu2⟩ := run_copyBuf (Hb1.out.grows HX.out) 0 243 (by omega) (Nat.le_refl _) (slv g 0 d) _ ((Hh.out.grows (Grows.trans' Hg1.out HX.out)).at_.slv 0 d (by omega) (by omega)) 3
    refine StepOk.of_run (v := goInt ((min (rowOf (fun j => f (0 + j)) (d - 0)).length (243 - 0) : Nat) : Int)) (w' := w2) ?_ ?_
    · simp only [execOp, resolve, invoke, builtin, Sem.run_bind, Sem.run_pure, Result.andThen_ok, List.map_toArray, List.map_cons, List.map_nil]
      show (Result.andThen ((Builtin.copy_ #[30, 30] _ #[slv q 0 243, slv g 0 d]).run Try.prog X) _) = _
      rw [hr]
      rfl
    · have Hb2 : Hid (BufAt w2 q (bytP f A 0)) := by
        show BufAt _ _ _
        rw [bytP_zero Hh.out.enc]
        have e1 : (fun j => if j < 2 + 2 * A.l.length then f j else 0) = ovr zR 0 ((rowOf (fun j => f (0 + j)) (d - 0)).take (243 - 0)) := by
          funext j
          unfold ovr zR
          rw [List.take_of_length_le (by rw [rowOf_length]; omega), rowOf_length, Hn.out, Hd.out]
          by_cases hj : j < d
          · rw [if_pos hj, if_pos (by omega), rowOf_getD _ _ _ (by omega)]; congr 1; omega
          · rw [if_neg hj, if_neg (by omega)]
        rw [e1]
        exact hb2
      have Hg2 := Lib.hid (but_new (Grows.trans' Hg1.out HX.out) hu2 (by rw [Hq.out]; exact Nat.le_refl _))
      clear hr hb2 hu2 HX Hb1 Hg1
      go_wp2_with (go_at_call 18; refine (hLen (Hh.out.grows Hg2.out)).mono ?_; rintro e w3 ⟨rfl, rfl⟩)
      rw [Hn.out]
      go_loopw [20] (fun t20 wr => ∃ k : Nat, k ≤ n ∧ t20 = .int .i64 k ∧ Hid (BufAt wr q (bytP f A k)) ∧ Hid (Grows w wr)) (fun t20 _ => n - (intOf t20).toNat)
      case atStart => exact ⟨0, by omega, rfl, Hb2, Hg2⟩
      case round =>
        obtain ⟨k, hk, rfl, Hbk, Hgk⟩ := hrel
        by_cases hlt : k < n
        · have hlt' : (k : Int) < (n : Int) := by omega
          have Hkn : Hid (k < A.l.length) := by show _ < _; rw [Hn.out]; exact hlt
          have Hhk := Lib.hid (Hh.out.grows Hgk.out)
          have HEn := Lib.hid (hEntry Hhk.out k Hkn.out)
          have HE := Lib.hid (fun w => vEntryAt w k (by omega))
          obtain ⟨e, He⟩ : ∃ e, Hid (2 + 2 * k = e) := ⟨_, rfl⟩
          rw [He.out] at HE
          have he243 : e < 243 := by have := He.out; omega
          obtain ⟨t, Ht⟩ : ∃ t, Hid (A.top = t) := ⟨_, rfl⟩
          obtain ⟨p, Hp⟩ : ∃ p, Hid ((cl A.l k).pl = p) := ⟨_, rfl⟩
          obtain ⟨s, Hs⟩ : ∃ s, Hid ((cl A.l k).p.length = s) := ⟨_, rfl⟩
          have Hps : Hid (p + (cl A.l k).p.length ≤ 243) := by show _ ≤ _; rw [← Hp.out]; exact Hh.out.wf.end_ k Hkn.out
          have hp243 : p ≤ 243 := by have := Hps.out; omega
          rw [Hp.out, Hs.out] at HEn
          unfold pb at HEn
          by_cases h0 : s = 0
          · have Hz : Hid ((cl A.l k).p.length = 0) := by show _ = _; rw [Hs.out, h0]
            subst h0
            go_wp2_with (go_at_call 34; refine HEn.out.mono ?_; rintro e w4 ⟨rfl, hg⟩; have Hge := Lib.hid (Grows.trans' Hgk.out hg); have Hbe := Lib.hid (Hbk.out.grows hg); clear hg)
            have ct := (Hh.out.grows Hge.out).at_.cell 1 (by omega)
            rw [Hh.out.enc.top, Ht.out] at ct
            refine specs_last 9
              #[[], [], [1], [], [3], [3, 4], [3, 4, 5], [3, 4, 5, 6], [0, 1, 2, 3, 4, 5, 6, 7], [0, 1, 2, 3, 4, 5, 6, 7, 8]] #[[3], [4], [], [0], [], [], [], [], [], []] #[true, true, true, true, true, true, true, true, true, true]
              ((.val ?vy0) :: (.val ?vy1) :: (.val ?vy2) :: (.val ?vy3) :: (.val ?vy4) :: (.val ?vy5) :: (.val ?vy6) :: (.val ?vy7) :: (.val ?vy8) :: (.any) :: []).toArray
              hmx ?chky ?grdy rfl ?stpy ?rsty
            case chky => rfl
            case stpy =>
              refine ⟨?_, ?_, ?_, ?_, ?_, ?_, ?_, ?_, ?_, ?_, trivial⟩
              · refine step_intro rfl rfl fun ρ X hc hf hgl hX hp ho => ?_
                change StepOk _ { dst := _, op := Op.move (Operand.tmp 3), type := _, pos := _, after := _, guard := _ } _ _ _
                have k3 : ρ (.tmp 3) = .slice (some ⟨q, 0, none⟩) 243 243 := ho 3 (by decide)
                clear hp ho
                refine StepOk.of_run (v := ?vy0) (w' := X) ?_ ⟨rfl, Below.refl _ _⟩
                clear hX
                go_simp
                all_goals try go_bits
                all_goals try simp only [IntWalk.iteOmega]
                all_goals try go_bits
                all_goals rfl
              · refine step_intro rfl rfl fun ρ X hc hf hgl hX hp ho => ?_
                change StepOk _ { dst := _, op := Op.move (Operand.tmp 4), type := _, pos := _, after := _, guard := _ } _ _ _
                have k4 : ρ (.tmp 4) = .int .i64 (k : Int) := ho 4 (by decide)
                clear hp ho
                refine StepOk.of_run (v := ?vy1) (w' := X) ?_ ⟨rfl, Below.refl _ _⟩
                clear hX
                go_simp
                all_goals try go_bits
                all_goals try simp only [IntWalk.iteOmega]
                all_goals try go_bits
                all_goals rfl
              · refine step_intro rfl rfl fun ρ X hc hf hgl hX hp ho => ?_
                change StepOk _ { dst := _, op := Op.call { callee := Callee.value (Operand.func 31), args := #[Operand.tmp 32], argTypes := #[3] }, type := _, pos := _, after := _, guard := _ } _ _ _
                have k32 : ρ (.tmp 32) = ?vy1 := hp 1 (by decide)
                clear hp ho
                refine StepOk.of_call (f := 31) (args := #[?vy1]) (w' := X) ?_ (HE.out X) ?_
                · go_simp
                  all_goals try go_bits
                  all_goals try rfl
                · rintro e w'' ⟨rfl, rfl⟩; refine ⟨_, rfl, ?_, Below.refl _ _⟩; show _ = ?vy2; rfl
              · refine step_intro rfl rfl fun ρ X hc hf hgl hX hp ho => ?_
                change StepOk _ { dst := _, op := Op.move (Operand.tmp 0), type := _, pos := _, after := _, guard := _ } _ _ _
                have k0 : ρ (.tmp 0) = .pointer (some ⟨g, 0, none⟩) := ho 0 (by decide)
                clear hp ho
                refine StepOk.of_run (v := ?vy3) (w' := X) ?_ ⟨rfl, Below.refl _ _⟩
                clear hX
                go_simp
                all_goals try go_bits
                all_goals try simp only [IntWalk.iteOmega]
                all_goals try go_bits
                all_goals rfl
              · refine step_intro rfl rfl fun ρ X hc hf hgl hX hp ho => ?_
                change StepOk _ { dst := _, op := Op.nilCheck (Operand.tmp 34), type := _, pos := _, after := _, guard := _ } _ _ _
                have k34 : ρ (.tmp 34) = ?vy3 := hp 3 (by decide)
                clear hp ho
                refine StepOk.of_run (v := ?vy4) (w' := X) ?_ ⟨rfl, Below.refl _ _⟩
                clear hX
                go_simp
                all_goals try go_bits
                all_goals try simp only [IntWalk.iteOmega]
                all_goals try go_bits
                all_goals rfl
              · refine step_intro rfl rfl fun ρ X hc hf hgl hX hp ho => ?_
                change StepOk _ { dst := _, op := Op.fieldAddr 47 (Operand.tmp 35) 0, type := _, pos := _, after := _, guard := _ } _ _ _
                have k35 : ρ (.tmp 35) = ?vy4 := hp 4 (by decide)
                clear hp ho
                refine StepOk.of_run (v := ?vy5) (w' := X) ?_ ⟨rfl, Below.refl _ _⟩
                clear hX
                go_simp
                all_goals try go_bits
                all_goals try simp only [IntWalk.iteOmega]
                all_goals try go_bits
                all_goals rfl
              · refine step_intro rfl rfl fun ρ X hc hf hgl hX hp ho => ?_
                change StepOk _ { dst := _, op := Op.indexAddr 45 (Operand.tmp 36) (Operand.const (Value.int IntKind.i64 1)), type := _, pos := _, after := _, guard := _ } _ _ _
                have k36 : ρ (.tmp 36) = ?vy5 := hp 5 (by decide)
                clear hp ho
                refine StepOk.of_run (v := ?vy6) (w' := X) ?_ ⟨rfl, Below.refl _ _⟩
                clear hX
                go_simp
                all_goals try go_bits
                all_goals try simp only [IntWalk.iteOmega]
                all_goals try go_bits
                all_goals rfl
              · refine step_intro rfl rfl fun ρ X hc hf hgl hX hp ho => ?_
                change StepOk _ { dst := _, op := Op.load 5 (Operand.tmp 37), type := _, pos := _, after := _, guard := _ } _ _ _
                have k37 : ρ (.tmp 37) = ?vy6 := hp 6 (by decide)
                have ctX := Grows.cell' hX ct
                clear hp ho
                refine StepOk.of_run (v := ?vy7) (w' := X) ?_ ⟨rfl, Below.refl _ _⟩
                clear hX
                go_simp
                all_goals try go_bits
                all_goals try simp only [IntWalk.iteOmega]
                all_goals try go_bits
                all_goals rfl
              · refine step_intro rfl rfl fun ρ X hc hf hgl hX hp ho => ?_
                change StepOk _ { dst := _, op := Op.indexAddr 30 (Operand.tmp 31) (Operand.tmp 33), type := _, pos := _, after := _, guard := _ } _ _ _
                have k31 : ρ (.tmp 31) = ?vy0 := hp 0 (by decide)
                have k33 : ρ (.tmp 33) = ?vy2 := hp 2 (by decide)
                clear hp ho
                refine StepOk.of_run (v := ?vy8) (w' := X) ?_ ⟨rfl, Below.refl _ _⟩
                clear hX
                go_simp
                all_goals try go_bits
                all_goals try simp only [IntWalk.iteOmega]
                all_goals try go_bits
                all_goals rfl
              · exact last_intro rfl
            case grdy => rfl
            case rsty =>
              intro a0 X hb
              have hfr := hb.frame ((31, ?vy0) :: (32, ?vy1) :: (33, ?vy2) :: (34, ?vy3) :: (35, ?vy4) :: (36, ?vy5) :: (37, ?vy6) :: (38, ?vy7) :: (39, ?vy8) :: []) rfl ⟨hb.done' 0 31 rfl rfl, hb.done' 1 32 rfl rfl, hb.done' 2 33 rfl rfl, hb.done' 3 34 rfl rfl, hb.done' 4 35 rfl rfl, hb.done' 5 36 rfl rfl, hb.done' 6 37 rfl rfl, hb.done' 7 38 rfl rfl, hb.done' 8 39 rfl rfl, trivial⟩
              simp only [updL, ↓reduceIte, Nat.reduceEqDiff, Nat.reduceAdd, Nat.zero_add] at hfr
              have HX := Lib.hid hb.ext
              clear hb
              subst hfr
              change StepOk _ { dst := _, op := Op.store 5 (Operand.tmp 39) (Operand.tmp 38), type := _, pos := _, after := _, guard := _ } _ _ _
              have h0X := Hbe.out.grows HX.out
              have fX := h0X.frozen e
              have cX := h0X.cell e (by omega)
              unfold StepOk
              simp [go_sem, execOp, cX, fX]
              have Hby := Lib.hid (h0X.set e (by omega) (f 1) (t : Int) (by rw [Hh.out.enc.top, Ht.out]))
              have Hgy := Lib.hid (but_new (Grows.trans' Hge.out HX.out) (But.setCell (But.refl' (At q) X) ⟨q, e, none⟩ (.int .u8 (t : Int)) rfl) (by rw [Hq.out]; exact Nat.le_refl _))
              clear cX fX h0X ct HX
              obtain ⟨wy, hwy⟩ : ∃ wy, X.setCell ⟨q, e, none⟩ (.int .u8 (t : Int)) = wy := ⟨_, rfl⟩
              rw [hwy] at Hby Hgy ⊢
              clear hwy X
              have Hhy := Lib.hid (Hh.out.grows Hgy.out)
              rw [← He.out] at Hby
              go_wp2
              refine specs_last 6
                #[[], [], [0, 1], [], [], [3, 4], [0, 1, 2, 3, 4, 5]] #[[3], [5], [], [0], [4], [], []] #[true, true, true, true, true, true, true]
                ((.val ?vz0) :: (.val ?vz1) :: (.val (slv q p 243)) :: (.val ?vz3) :: (.val ?vz4) :: (.val (cellv g (cl A.l k))) :: (.any) :: []).toArray
                hmx ?chkz ?grdz rfl ?stpz ?rstz
              case chkz => rfl
              case stpz =>
                refine ⟨?_, ?_, ?_, ?_, ?_, ?_, ?_, trivial⟩
                · refine step_intro rfl rfl fun ρ X hc hf hgl hX hp ho => ?_
                  change StepOk _ { dst := _, op := Op.move (Operand.tmp 3), type := _, pos := _, after := _, guard := _ } _ _ _
                  have k3 : ρ (.tmp 3) = .slice (some ⟨q, 0, none⟩) 243 243 := ho 3 (by decide)
                  clear hp ho
                  refine StepOk.of_run (v := ?vz0) (w' := X) ?_ ⟨rfl, Below.refl _ _⟩
                  clear hX
                  go_simp
                  all_goals try go_bits
                  all_goals try simp only [IntWalk.iteOmega]
                  all_goals try go_bits
                  all_goals rfl
                · refine step_intro rfl rfl fun ρ X hc hf hgl hX hp ho => ?_
                  change StepOk _ { dst := _, op := Op.move (Operand.tmp 5), type := _, pos := _, after := _, guard := _ } _ _ _
                  have k5 : ρ (.tmp 5) = .int .i64 (p : Int) := ho 5 (by decide)
                  clear hp ho
                  refine StepOk.of_run (v := ?vz1) (w' := X) ?_ ⟨rfl, Below.refl _ _⟩
                  clear hX
                  go_simp
                  all_goals try go_bits
                  all_goals try simp only [IntWalk.iteOmega]
                  all_goals try go_bits
                  all_goals rfl
                · refine step_intro rfl rfl fun ρ X hc hf hgl hX hp ho => ?_
                  change StepOk _ { dst := _, op := Op.slice 30 (Operand.tmp 40) (some (Operand.tmp 41)) none none, type := _, pos := _, after := _, guard := _ } _ _ _
                  have k40 : ρ (.tmp 40) = ?vz0 := hp 0 (by decide)
                  have k41 : ρ (.tmp 41) = ?vz1 := hp 1 (by decide)
                  have hsl := run_slF X q p (p : Int) rfl (by omega)
                  refine StepOk.of_run (v := slv q p 243) (w' := X) ?_ ⟨rfl, Below.refl _ _⟩
                  simp [go_sem, execOp, k40, k41, hsl]
                · refine step_intro rfl rfl fun ρ X hc hf hgl hX hp ho => ?_
                  change StepOk _ { dst := _, op := Op.move (Operand.tmp 0), type := _, pos := _, after := _, guard := _ } _ _ _
                  have k0 : ρ (.tmp 0) = .pointer (some ⟨g, 0, none⟩) := ho 0 (by decide)
                  clear hp ho
                  refine StepOk.of_run (v := ?vz3) (w' := X) ?_ ⟨rfl, Below.refl _ _⟩
                  clear hX
                  go_simp
                  all_goals try go_bits
                  all_goals try simp only [IntWalk.iteOmega]
                  all_goals try go_bits
                  all_goals rfl
                · refine step_intro rfl rfl fun ρ X hc hf hgl hX hp ho => ?_
                  change StepOk _ { dst := _, op := Op.move (Operand.tmp 4), type := _, pos := _, after := _, guard := _ } _ _ _
                  have k4 : ρ (.tmp 4) = .int .i64 (k : Int) := ho 4 (by decide)
                  clear hp ho
                  refine StepOk.of_run (v := ?vz4) (w' := X) ?_ ⟨rfl, Below.refl _ _⟩
                  clear hX
                  go_simp
                  all_goals try go_bits
                  all_goals try simp only [IntWalk.iteOmega]
                  all_goals try go_bits
                  all_goals rfl
                · refine step_intro rfl rfl fun ρ X hc hf hgl hX hp ho => ?_
                  change StepOk _ { dst := _, op := Op.call { callee := Callee.value (Operand.func 35), args := #[Operand.tmp 43, Operand.tmp 44], argTypes := #[25, 3] }, type := _, pos := _, after := _, guard := _ } _ _ _
                  have k43 : ρ (.tmp 43) = ?vz3 := hp 3 (by decide)
                  have k44 : ρ (.tmp 44) = ?vz4 := hp 4 (by decide)
                  refine StepOk.of_call (f := 35) (args := #[.pointer (some ⟨g, 0, none⟩), .int .i64 (k : Int)]) (w' := X) ?_ (hLying (Hhy.out.grows hX) k Hkn.out) ?_
                  · go_simp
                    all_goals try rfl
                  · rintro e w'' ⟨rfl, hg'⟩; exact ⟨_, rfl, rfl, hg'⟩
                · exact last_intro rfl
              case grdz => rfl
              case rstz =>
                intro a0 X hb
                obtain ⟨x46, hx46⟩ : ∃ x, a0.tmps.getD 46 undef = x := ⟨_, rfl⟩
                have hfr := hb.frame ((40, ?vz0) :: (41, ?vz1) :: (42, (slv q p 243)) :: (43, ?vz3) :: (44, ?vz4) :: (45, (cellv g (cl A.l k))) :: (46, x46) :: []) rfl ⟨hb.done' 0 40 rfl rfl, hb.done' 1 41 rfl rfl, hb.done' 2 42 rfl rfl, hb.done' 3 43 rfl rfl, hb.done' 4 44 rfl rfl, hb.done' 5 45 rfl rfl, hx46, trivial⟩
                simp only [updL, ↓reduceIte, Nat.reduceEqDiff, Nat.reduceAdd, Nat.zero_add] at hfr
                have HX := Lib.hid hb.ext
                clear hb
                subst hfr
                change StepOk _ { dst := _, op := Op.call { callee := Callee.builtin Builtin.copy, args := #[Operand.tmp 42, Operand.tmp 45], argTypes := #[30, 30] }, type := _, pos := _, after := _, guard := _ } _ _ _
                obtain ⟨w2, hr, hb2, hu2⟩ := run_copyBuf (Hby.out.grows HX.out) p 243 (by omega) (Nat.le_refl _) (cellv g (cl A.l k)) (cl A.l k).p ((Hhy.out.grows HX.out).cellv k Hkn.out) 3
                refine StepOk.of_run (v := goInt ((min (cl A.l k).p.length (243 - p) : Nat) : Int)) (w' := w2) ?_ ?_
                · simp only [execOp, resolve, invoke, builtin, Sem.run_bind, Sem.run_pure, Result.andThen_ok, List.map_toArray, List.map_cons, List.map_nil]
                  show (Result.andThen ((Builtin.copy_ #[30, 30] _ #[slv q p 243, cellv g (cl A.l k)]).run Try.prog X) _) = _
                  rw [hr]
                  rfl
                · rw [List.take_of_length_le (show (cl A.l k).p.length ≤ 243 - p by have := Hps.out; omega)] at hb2
                  have Hb9 : Hid (BufAt w2 q (bytP f A (k + 1))) := by
                    show BufAt _ _ _
                    have h9 := bytP_succ Hh.out.enc Hh.out.wf k Hkn.out
                    rw [if_pos Hz.out, Hp.out] at h9
                    rw [h9]
                    exact hb2
                  have Hg9 := Lib.hid (but_new (Grows.trans' Hgy.out HX.out) hu2 (by rw [Hq.out]; exact Nat.le_refl _))
                  clear hr hb2 hu2 HX
                  go_wp2
                  go_roundw
                  case rel => exact ⟨k + 1, by omega, by simp, Hb9, Hg9⟩
                  case measure => simp [intOf]; omega
          · have Hz : Hid (¬ (cl A.l k).p.length = 0) := by show ¬ _; rw [Hs.out]; exact h0
            have h0' : ¬ (s : Int) = 0 := by omega
            go_wp2_with (go_at_call 34; refine HEn.out.mono ?_; rintro e w4 ⟨rfl, hg⟩; have Hge := Lib.hid (Grows.trans' Hgk.out hg); have Hbe := Lib.hid (Hbk.out.grows hg); have Hhe := Lib.hid (Hhk.out.grows hg); have Hgk := Hge; clear hg)
            refine specs_last 6
              #[[], [], [0, 1], [], [], [3, 4], [0, 1, 2, 3, 4, 5]] #[[3], [5], [], [0], [4], [], []] #[true, true, true, true, true, true, true]
              ((.val ?vn0) :: (.val ?vn1) :: (.val (slv q p 243)) :: (.val ?vn3) :: (.val ?vn4) :: (.val (cellv g (cl A.l k))) :: (.any) :: []).toArray
              hmx ?chkn ?grdn rfl ?stpn ?rstn
            case chkn => rfl
            case stpn =>
              refine ⟨?_, ?_, ?_, ?_, ?_, ?_, ?_, trivial⟩
              · refine step_intro rfl rfl fun ρ X hc hf hgl hX hp ho => ?_
                change StepOk _ { dst := _, op := Op.move (Operand.tmp 3), type := _, pos := _, after := _, guard := _ } _ _ _
                have k3 : ρ (.tmp 3) = .slice (some ⟨q, 0, none⟩) 243 243 := ho 3 (by decide)
                clear hp ho
                refine StepOk.of_run (v := ?vn0) (w' := X) ?_ ⟨rfl, Below.refl _ _⟩
                clear hX
                go_simp
                all_goals try go_bits
                all_goals try simp only [IntWalk.iteOmega]
                all_goals try go_bits
                all_goals rfl
              · refine step_intro rfl rfl fun ρ X hc hf hgl hX hp ho => ?_
                change StepOk _ { dst := _, op := Op.move (Operand.tmp 5), type := _, pos := _, after := _, guard := _ } _ _ _
                have k5 : ρ (.tmp 5) = .int .i64 (p : Int) := ho 5 (by decide)
                clear hp ho
                refine StepOk.of_run (v := ?vn1) (w' := X) ?_ ⟨rfl, Below.refl _ _⟩
                clear hX
                go_simp
                all_goals try go_bits
                all_goals try simp only [IntWalk.iteOmega]
                all_goals try go_bits
                all_goals rfl
              · refine step_intro rfl rfl fun ρ X hc hf hgl hX hp ho => ?_
                change StepOk _ { dst := _, op := Op.slice 30 (Operand.tmp 40) (some (Operand.tmp 41)) none none, type := _, pos := _, after := _, guard := _ } _ _ _
                have k40 : ρ (.tmp 40) = ?vn0 := hp 0 (by decide)
                have k41 : ρ (.tmp 41) = ?vn1 := hp 1 (by decide)
                have hsl := run_slF X q p (p : Int) rfl (by omega)
                refine StepOk.of_run (v := slv q p 243) (w' := X) ?_ ⟨rfl, Below.refl _ _⟩
                simp [go_sem, execOp, k40, k41, hsl]
              · refine step_intro rfl rfl fun ρ X hc hf hgl hX hp ho => ?_
                change StepOk _ { dst := _, op := Op.move (Operand.tmp 0), type := _, pos := _, after := _, guard := _ } _ _ _
                have k0 : ρ (.tmp 0) = .pointer (some ⟨g, 0, none⟩) := ho 0 (by decide)
                clear hp ho
                refine StepOk.of_run (v := ?vn3) (w' := X) ?_ ⟨rfl, Below.refl _ _⟩
                clear hX
                go_simp
                all_goals try go_bits
                all_goals try simp only [IntWalk.iteOmega]
                all_goals try go_bits
                all_goals rfl
              · refine step_intro rfl rfl fun ρ X hc hf hgl hX hp ho => ?_
                change StepOk _ { dst := _, op := Op.move (Operand.tmp 4), type := _, pos := _, after := _, guard := _ } _ _ _
                have k4 : ρ (.tmp 4) = .int .i64 (k : Int) := ho 4 (by decide)
                clear hp ho
                refine StepOk.of_run (v := ?vn4) (w' := X) ?_ ⟨rfl, Below.refl _ _⟩
                clear hX
                go_simp
                all_goals try go_bits
                all_goals try simp only [IntWalk.iteOmega]
                all_goals try go_bits
                all_goals rfl
              · refine step_intro rfl rfl fun ρ X hc hf hgl hX hp ho => ?_
                change StepOk _ { dst := _, op := Op.call { callee := Callee.value (Operand.func 35), args := #[Operand.tmp 43, Operand.tmp 44], argTypes := #[25, 3] }, type := _, pos := _, after := _, guard := _ } _ _ _
                have k43 : ρ (.tmp 43) = ?vn3 := hp 3 (by decide)
                have k44 : ρ (.tmp 44) = ?vn4 := hp 4 (by decide)
                refine StepOk.of_call (f := 35) (args := #[.pointer (some ⟨g, 0, none⟩), .int .i64 (k : Int)]) (w' := X) ?_ (hLying (Hhe.out.grows hX) k Hkn.out) ?_
                · go_simp
                  all_goals try rfl
                · rintro e w'' ⟨rfl, hg'⟩; exact ⟨_, rfl, rfl, hg'⟩
              · exact last_intro rfl
            case grdn => rfl
            case rstn =>
              intro a0 X hb
              obtain ⟨x46, hx46⟩ : ∃ x, a0.tmps.getD 46 undef = x := ⟨_, rfl⟩
              have hfr := hb.frame ((40, ?vn0) :: (41, ?vn1) :: (42, (slv q p 243)) :: (43, ?vn3) :: (44, ?vn4) :: (45, (cellv g (cl A.l k))) :: (46, x46) :: []) rfl ⟨hb.done' 0 40 rfl rfl, hb.done' 1 41 rfl rfl, hb.done' 2 42 rfl rfl, hb.done' 3 43 rfl rfl, hb.done' 4 44 rfl rfl, hb.done' 5 45 rfl rfl, hx46, trivial⟩
              simp only [updL, ↓reduceIte, Nat.reduceEqDiff, Nat.reduceAdd, Nat.zero_add] at hfr
              have HX := Lib.hid hb.ext
              clear hb
              subst hfr
              change StepOk _ { dst := _, op := Op.call { callee := Callee.builtin Builtin.copy, args := #[Operand.tmp 42, Operand.tmp 45], argTypes := #[30, 30] }, type := _, pos := _, after := _, guard := _ } _ _ _
              obtain ⟨w2, hr, hb2, hu2⟩ := run_copyBuf (Hbe.out.grows HX.out) p 243 (by omega) (Nat.le_refl _) (cellv g (cl A.l k)) (cl A.l k).p ((Hhe.out.grows HX.out).cellv k Hkn.out) 3
              refine StepOk.of_run (v := goInt ((min (cl A.l k).p.length (243 - p) : Nat) : Int)) (w' := w2) ?_ ?_
              · simp only [execOp, resolve, invoke, builtin, Sem.run_bind, Sem.run_pure, Result.andThen_ok, List.map_toArray, List.map_cons, List.map_nil]
                show (Result.andThen ((Builtin.copy_ #[30, 30] _ #[slv q p 243, cellv g (cl A.l k)]).run Try.prog X) _) = _
                rw [hr]
                rfl
              · rw [List.take_of_length_le (show (cl A.l k).p.length ≤ 243 - p by have := Hps.out; omega)] at hb2
                have Hb9 : Hid (BufAt w2 q (bytP f A (k + 1))) := by
                  show BufAt _ _ _
                  have h9 := bytP_succ Hh.out.enc Hh.out.wf k Hkn.out
                  rw [if_neg Hz.out, Hp.out] at h9
                  rw [h9]
                  exact hb2
                have Hg9 := Lib.hid (but_new (Grows.trans' Hgk.out HX.out) hu2 (by rw [Hq.out]; exact Nat.le_refl _))
                clear hr hb2 hu2 HX
                go_wp2
                go_roundw
                case rel => exact ⟨k + 1, by omega, by simp, Hb9, Hg9⟩
                case measure => simp [intOf]; omega
        · obtain rfl : k = n := by omega
          go_wp2
          go_ret
          have hb := Hbk.out
          rw [← Hn.out, bytP_done] at hb
          have h9 := hb.slv 0 243 (by omega) (Nat.le_refl _)
          rw [show rowOf (fun j => bytesA A (0 + j)) (243 - 0) = rowOf (bytesA A) 243 from rowOf_congr _ _ _ (fun j _ => by rw [Nat.zero_add])] at h9
          exact ⟨_, rfl, h9, Hgk.out⟩
end Go.Proofs.Ytpodbhimkbadhaa
