/-
  The contract of the document's own Seal.
-/
import Derived.Test.YtfgnniajancpcaaPgD
namespace Go.Proofs.Ytfgnniajancpcaa
open Go.RowKit
set_option linter.unusedVariables false
set_option linter.unusedSimpArgs false

theorem rKindIs (k : Int) (b : Bool) (h : isK k = b) (w : World) : Calls Try.prog 18 #[.int .i64 k] w fun e w' => e = .returned (.bool b) ∧ w = w' := by
  subst h; exact refKind k w
/-- Bytes of the call's own. -/
def ownS (e : TypeId) (B : Nat) (l : List UInt8) : Spec := .pred (fun v W => Own e B W v l) (fun _ _ _ g h => h.grows g)
/-- A literal's bytes: no room behind them. -/
def litS (l : List UInt8) : Spec := .pred (fun v W => ∃ g, v = .slice (some g) l.length l.length ∧ Byt W v l) (fun _ _ _ g ⟨a, e, h⟩ => ⟨a, e, h.grows g⟩)
theorem byt_lit (W : World) (e : TypeId) (l : List UInt8) (hl : l.length ≤ maxLen) : Byt (W.alloc (.cells (l.map bv).toArray e)) (.slice (some ⟨W.heap.size, 0, none⟩) l.length l.length) l :=
  (Own.lit e 0 W l (Nat.zero_le _) hl).byt

theorem StepOk.of_skip {P : Program} {o : Oper} {ρ : Operand → Value} {w w' : World} {Ψ : Value → World → Prop} (h : (execOp ρ o).run P w = .ok .skip w') (hv : Ψ undef w') : StepOk P o ρ w Ψ := by
  unfold StepOk; rw [h]; exact hv
theorem own_oneCell {e : TypeId} {B : Nat} {W : World} {v : Value} {l : List UInt8} (h : Own e B W v l) : v.oneCell' = true := by
  obtain ⟨a, c, rfl⟩ := h.byt.slice
  rfl
theorem rSealNo (k : Int) (n : Nat) (u : Value) (l : List UInt8) (w : World) (hu : Byt w u l) (h : fitsP ⟨k, n, l⟩ = false) :
    Calls Try.prog 8 #[pgv k n u] w fun e w' => e = .returned (.tuple #[.slice none 0 0, .int .i64 50]) ∧ Grows w w' := by
  obtain ⟨a, cap, rfl⟩ := hu.slice
  clear hu
  unfold pgv
  cases hk : isK k with
  | false =>
    have HK := Lib.hid (fun w => rKindIs k false hk w)
    clear hk h
    go_enter Try.func8, Try.ntmps8
    go_wp2_with (go_at_call 18; refine (HK.out _).mono ?_; rintro e w1 ⟨rfl, rfl⟩)
    go_ret2
    exact ⟨rfl, Grows.alloc' _ _⟩
  | true =>
    have hl : ¬ (l.length : Int) = 243 := by
      intro e
      have : fitsP ⟨k, n, l⟩ = true := by unfold fitsP; simp [hk]; omega
      rw [this] at h; cases h
    have HK := Lib.hid (fun w => rKindIs k true hk w)
    clear hk h
    go_enter Try.func8, Try.ntmps8
    go_wp2_with (go_at_call 18; refine (HK.out _).mono ?_; rintro e w1 ⟨rfl, rfl⟩)
    go_ret2
    exact ⟨rfl, Grows.alloc' _ _⟩

set_option maxRecDepth 100000 in
set_option maxHeartbeats 1000000 in
theorem rSealYes (k : Int) (n : Nat) (hn : n < 18446744073709551616) (u : Value) (l : List UInt8) (w : World) (hu : Byt w u l) (h : fitsP ⟨k, n, l⟩ = true) :
    Calls Try.prog 8 #[pgv k n u] w fun e w' => ∃ v, e = .returned (.tuple #[v, .int .i64 0]) ∧ Own 5 w.heap.size w' v (putC (contentP ⟨k, n, l⟩)) ∧ Grows w w' := by
  obtain ⟨i0, hi, hz0, hz1, hz2⟩ := info_parts info5
  have hmx : Try.prog.follows .mixedOrders = true := by kernel_rfl
  obtain ⟨⟨h1, h5⟩, hl⟩ := (fitsP_iff _).1 h
  simp only at h1 h5 hl
  obtain ⟨kk, rfl⟩ := Int.eq_ofNat_of_zero_le (show 0 ≤ k by omega)
  have HK := Lib.hid (fun w => rKindIs (kk : Int) true ((isK_iff (kk : Int)).2 ⟨h1, h5⟩) w)
  have HF8 := Lib.hid (fun w => refFixed_some n 8 hn (by omega) (by omega) w)
  have hkw : IntKind.u8.wrap (kk : Int) = (kk : Int) := by
    have : kk < 256 := by omega
    simp [IntKind.wrap, IntKind.signed, IntKind.bits]
    omega
  have hkb : bv (UInt8.ofNat kk) = .int .u8 (kk : Int) := by rw [bvE]; congr 1 <;> omega
  obtain ⟨a, cap, rfl⟩ := hu.slice
  obtain ⟨q, hq⟩ : ∃ q, w.heap.size = q := ⟨_, rfl⟩
  have Hq := Lib.hid hq
  obtain ⟨W0, hW0⟩ : ∃ W0, w.alloc (.cells #[.int .i64 kk, .int .u64 n, .slice a l.length cap] 25) = W0 := ⟨_, rfl⟩
  have HW0 := Lib.hid hW0
  have HG0 : Hid (Grows w W0) := by show Grows _ _; rw [← hW0]; exact Grows.alloc' _ _
  have Hz : Hid (W0.heap.size = q + 1) := by show _ = _; rw [← hW0, ← hq]; simp
  have HB : Hid (W0.heap[q]? = some (.cells #[.int .i64 kk, .int .u64 n, .slice a l.length cap] 25 (0, 0))) := by show _ = _; rw [← hW0, ← hq]; exact heap_alloc_new _ _
  have Hu := Lib.hid hu
  have Hl := Lib.hid hl
  have hlI : (l.length : Int) = 243 := by omega
  obtain ⟨x, Hx⟩ : ∃ x, Hid (UInt8.ofNat kk = x) := ⟨_, Lib.hid rfl⟩
  rw [Hx.out] at hkb
  have HT : Hid ([x] ++ fixG 8 n ++ l = contentP ⟨kk, n, l⟩) := by show _ = _; rw [← Hx.out]; unfold contentP; simp
  have Hc := contentP_length ⟨kk, n, l⟩
  rw [show (Pg.body ⟨kk, n, l⟩).length = 243 from hl] at Hc
  have Hc := Lib.hid Hc
  have Hkb := Lib.hid hkb
  clear hu h hl hn h1 h5 hq hW0 hkb
  unfold pgv
  obtain ⟨c0, c1, c2⟩ := boxCells (Below.refl (q + 1) W0) HB.out
  go_enter Try.func8, Try.ntmps8
  go_wp2_with (first
    | (refine wpList_boxT rfl 25 (.tmp 0) rfl #[.int .i64 kk, .int .u64 n, .slice a l.length cap] rfl ?_; rw [HW0.out, Hq.out])
    | (go_at_call 18; refine (HK.out _).mono ?_; rintro e w1 ⟨rfl, rfl⟩))
  refine specs_region
    #[[], [0], [0, 1], [0, 1, 2], [], [4], [4, 5], [0, 1, 2, 3, 4, 5, 6], [0, 1, 2, 3, 4, 5, 6, 7]] #[[1], [], [], [], [1], [], [], [], []] #[true, true, true, true, true, true, true, true, true]
    ((.val ?v0) :: (.val ?v1) :: (.val ?v2) :: (litS [x]) :: (.val ?v4) :: (.val ?v5) :: (.byt (fixG 8 n)) :: (ownS 5 (q + 1) ([x] ++ fixG 8 n)) :: (ownS 5 (q + 1) ([x] ++ fixG 8 n)) :: []).toArray
    hmx ?chk ?grd ?stp ?rst
  case chk => rfl
  case stp =>
    refine ⟨?_, ?_, ?_, ?_, ?_, ?_, ?_, ?_, ?_, trivial⟩
    · refine step_intro rfl rfl fun ρ X hc hf hgl hX hp ho => ?_
      change StepOk _ { dst := _, op := Op.fieldAddr 25 (Operand.tmp 1) 0, type := _, pos := _, after := _, guard := _ } _ _ _
      have k1 : ρ (.tmp 1) = .pointer (some ⟨q, 0, none⟩) := ho 1 (by decide)
      clear hp ho
      refine StepOk.of_run (v := ?v0) (w' := X) ?_ ⟨rfl, Below.refl _ _⟩
      clear hX
      go_simp
      all_goals try go_bits
      all_goals try simp only [IntWalk.iteOmega]
      all_goals try go_bits
      all_goals rfl
    · refine step_intro rfl rfl fun ρ X hc hf hgl hX hp ho => ?_
      change StepOk _ { dst := _, op := Op.load 3 (Operand.tmp 15), type := _, pos := _, after := _, guard := _ } _ _ _
      have k15 : ρ (.tmp 15) = ?v0 := hp 0 (by decide)
      have c0X := Grows.cell' hX c0
      have c1X := Grows.cell' hX c1
      have c2X := Grows.cell' hX c2
      clear hp ho
      refine StepOk.of_run (v := ?v1) (w' := X) ?_ ⟨rfl, Below.refl _ _⟩
      clear hX
      go_simp
      all_goals try go_bits
      all_goals try simp only [IntWalk.iteOmega]
      all_goals try go_bits
      all_goals rfl
    · refine step_intro rfl rfl fun ρ X hc hf hgl hX hp ho => ?_
      change StepOk _ { dst := _, op := Op.convert 3 5 (Operand.tmp 16), type := _, pos := _, after := _, guard := _ } _ _ _
      have k16 : ρ (.tmp 16) = ?v1 := hp 1 (by decide)
      clear hp ho
      refine StepOk.of_run (v := ?v2) (w' := X) ?_ ⟨rfl, Below.refl _ _⟩
      clear hX
      go_simp
      all_goals try go_bits
      all_goals try simp only [IntWalk.iteOmega]
      all_goals try go_bits
      all_goals rfl
    · refine step_intro rfl rfl fun ρ X hc hf hgl hX hp ho => ?_
      change StepOk _ { dst := _, op := Op.buildSlice 23 1 #[(0, Operand.tmp 17)], type := _, pos := _, after := _, guard := _ } _ _ _
      have k17 : ρ (.tmp 17) = ?v2 := hp 2 (by decide)
      refine StepOk.of_run (v := .slice (some ⟨X.heap.size, 0, none⟩) 1 1) (w' := X.alloc (.cells ([x].map bv).toArray 5)) ?_ ⟨⟨_, rfl, byt_lit X _ [x] (by simp [maxLen])⟩, Grows.alloc' _ _⟩
      clear hX
      simp [go_sem, execOp, hc, k17, Hkb.out]
    · refine step_intro rfl rfl fun ρ X hc hf hgl hX hp ho => ?_
      change StepOk _ { dst := _, op := Op.fieldAddr 25 (Operand.tmp 1) 1, type := _, pos := _, after := _, guard := _ } _ _ _
      have k1 : ρ (.tmp 1) = .pointer (some ⟨q, 0, none⟩) := ho 1 (by decide)
      clear hp ho
      refine StepOk.of_run (v := ?v4) (w' := X) ?_ ⟨rfl, Below.refl _ _⟩
      clear hX
      go_simp
      all_goals try go_bits
      all_goals try simp only [IntWalk.iteOmega]
      all_goals try go_bits
      all_goals rfl
    · refine step_intro rfl rfl fun ρ X hc hf hgl hX hp ho => ?_
      change StepOk _ { dst := _, op := Op.load 22 (Operand.tmp 19), type := _, pos := _, after := _, guard := _ } _ _ _
      have k19 : ρ (.tmp 19) = ?v4 := hp 4 (by decide)
      have c0X := Grows.cell' hX c0
      have c1X := Grows.cell' hX c1
      have c2X := Grows.cell' hX c2
      clear hp ho
      refine StepOk.of_run (v := ?v5) (w' := X) ?_ ⟨rfl, Below.refl _ _⟩
      clear hX
      go_simp
      all_goals try go_bits
      all_goals try simp only [IntWalk.iteOmega]
      all_goals try go_bits
      all_goals rfl
    · refine step_intro rfl rfl fun ρ X hc hf hgl hX hp ho => ?_
      change StepOk _ { dst := _, op := Op.call { callee := Callee.value (Operand.func 19), args := #[Operand.tmp 20, Operand.const (Value.int IntKind.i64 8)], argTypes := #[22, 3] }, type := _, pos := _, after := _, guard := _ } _ _ _
      have k20 : ρ (.tmp 20) = ?v5 := hp 5 (by decide)
      refine StepOk.of_call (f := 19) (args := #[.int .u64 (n : Int), .int .i64 8]) (w' := X) ?_ (HF8.out X) ?_
      · go_simp
        all_goals try rfl
      · rintro e w'' ⟨v, rfl, ho', hg'⟩; exact ⟨v, rfl, (show Byt w'' v (fixG 8 n) from ho'.byt), hg'⟩
    · refine step_intro rfl rfl fun ρ X hc hf hgl hX hp ho => ?_
      change StepOk _ { dst := _, op := Op.call { callee := Callee.builtin Builtin.append, args := #[Operand.tmp 18, Operand.tmp 21], argTypes := #[23, 23] }, type := _, pos := _, after := _, guard := _ } _ _ _
      have k18 := hp 3 (by decide)
      have k21 := hp 6 (by decide)
      obtain ⟨g18, e18, hb18⟩ := k18
      rw [e18] at hb18
      obtain ⟨v', W', hr, ho', hg'⟩ := run_app_full (P := Try.prog) (T := 23) (e := 5) (ty := 23) (x := ρ (.tmp 21)) rfl hi hz0 hz1 hz2 hb18 k21 (by rw [fixG_length]; simp) (by rw [fixG_length]; simp)
      refine StepOk.of_run (v := v') (w' := W') ?_ ⟨ho'.mono (by have := hX.size; have := Hz.out; omega), hg'⟩
      simp only [execOp, resolve, invoke, builtin, Sem.run_bind, Sem.run_pure, Result.andThen_ok, List.map_toArray, List.map_cons, List.map_nil, e18, hr]
    · refine step_intro rfl rfl fun ρ X hc hf hgl hX hp ho => ?_
      change StepOk _ { dst := _, op := Op.assign (Operand.tmp 22), type := _, pos := _, after := _, guard := _ } _ _ _
      have k22 := hp 7 (by decide)
      refine StepOk.of_run (v := ρ (.tmp 22)) (w' := X) ?_ ⟨k22, Below.refl _ _⟩
      simp [go_sem, execOp]
  case grd => rfl
  case rst =>
    intro a0 X hb
    obtain ⟨x4, hx4⟩ : ∃ x, a0.tmps.getD 4 undef = x := ⟨_, rfl⟩
    have p4 := hb.done' 8 4 rfl rfl
    rw [hx4] at p4
    obtain ⟨x18, hx18⟩ : ∃ x, a0.tmps.getD 18 undef = x := ⟨_, rfl⟩
    have p18 := hb.done' 3 18 rfl rfl
    rw [hx18] at p18
    obtain ⟨x21, hx21⟩ : ∃ x, a0.tmps.getD 21 undef = x := ⟨_, rfl⟩
    have p21 := hb.done' 6 21 rfl rfl
    rw [hx21] at p21
    obtain ⟨x22, hx22⟩ : ∃ x, a0.tmps.getD 22 undef = x := ⟨_, rfl⟩
    have p22 := hb.done' 7 22 rfl rfl
    rw [hx22] at p22
    have hfr := hb.frame ((4, x4) :: (15, ?v0) :: (16, ?v1) :: (17, ?v2) :: (18, x18) :: (19, ?v4) :: (20, ?v5) :: (21, x21) :: (22, x22) :: []) rfl ⟨hx4, hb.done' 0 15 rfl rfl, hb.done' 1 16 rfl rfl, hb.done' 2 17 rfl rfl, hx18, hb.done' 4 19 rfl rfl, hb.done' 5 20 rfl rfl, hx21, hx22, trivial⟩
    simp only [updL, ↓reduceIte, Nat.reduceEqDiff, Nat.reduceAdd, Nat.zero_add] at hfr
    have HX := Lib.hid hb.ext
    clear hb
    subst hfr
    have p4' : Own 5 (q + 1) X x4 ([x] ++ fixG 8 n) := p4
    have HBX : Hid (Below (q + 1) W0 X) := Below.mono HX.out (by have := Hz.out; omega)
    clear c0 c1 c2
    obtain ⟨c0, c1, c2⟩ := boxCells HBX.out HB.out
    have Ho4 := Lib.hid p4'
    have HuX := Lib.hid (Hu.out.grows (Grows.trans' HG0.out HX.out))
    clear p4 p4' p22 p21 p18 hx4 hx22 hx21 hx18
    go_wp2_with (at_builtin; refine wpList_app rfl _ _ 23 5 i0 rfl Try.underlying23 hi hz0 hz1 hz2 (q + 1) _ _ ([x] ++ fixG 8 n) l rfl Ho4.out rfl HuX.out (by rw [List.length_append, fixG_length, Hl.out]; simp) (by have := HX.out.size; have := Hz.out; omega) ?_; intro v9 w9 hown9 hgrow9; have HG9 : Hid (Below (q + 1) W0 w9) := grows_app HBX.out Ho4.out (by have := HX.out.size; have := Hz.out; omega) hgrow9; rw [HT.out] at hown9; have HP := Lib.hid (refPutC _ _ w9 hown9.byt (by rw [Hc.out]; omega)); clear hown9 hgrow9 c0 c1 c2)
    refine HP.out.mono ?_
    rintro e w8 ⟨v8, rfl, hown8, hg8⟩
    have Hown8 := Lib.hid hown8
    have Hg8 := Lib.hid hg8
    clear hown8 hg8
    go_wp2
    go_ret2
    have HG7 : Hid (Grows w w9) := Grows.trans' HG0.out (Below.mono HG9.out (by have := Hz.out; omega))
    exact ⟨_, rfl, Hown8.out.base HG7.out.size, Grows.trans' HG7.out Hg8.out⟩
end Go.Proofs.Ytfgnniajancpcaa
