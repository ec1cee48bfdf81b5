/-
  What a deed makes of both bodies.
-/
import Derived.Test.YtpodbhimkbadhaaSlZ
namespace Go.Proofs.Ytpodbhimkbadhaa
open Go.RowKit
set_option linter.unusedVariables false
set_option linter.unusedSimpArgs false

def doA (A : Bo) (x : De) : Bo := if x.k = 0 then insS A x.i x.p else if x.k = 1 then delS A x.i else if x.k = 2 then packA A else A
theorem HasIn.grows {w w' : World} {g : Nat} {A : Bo} (h : HasIn w g A) (k : Grows w w') : HasIn w' g A := by obtain ⟨f, h⟩ := h; exact ⟨f, h.grows k⟩
theorem RBIn.grows {w w' : World} {B q : Nat} {A : Bo} (h : RBIn w B q A) (k : Grows w w') : RBIn w' B q A := by obtain ⟨vL, t, L, h, e⟩ := h; exact ⟨vL, t, L, h.grows k, e⟩
theorem RBIn.at_ {w w' : World} {B q g : Nat} {A C : Bo} (h : RBIn w B q A) (hb : HasIn w g C) (k : But (At g) w w') : RBIn w' B q A := by obtain ⟨vL, t, L, h, e⟩ := h; obtain ⟨f, hb⟩ := hb; exact ⟨vL, t, L, h.at_ hb.at_ k, e⟩
/-- Both bodies, amid a region in which the one is written, then the other one. -/
def doT (g B q : Nat) (vL : Value) (t : Nat) (L : List Ce) (A A' : Bo) (i1 i2 : Nat) (use : Array (List Nat)) : StateK :=
  { Ψ := fun s W => match s with
      | 0 => HasIn W g A ∧ RB W B q vL t L
      | 1 => HasIn W g A' ∧ RB W B q vL t L
      | _ => True
    made := #[none, some i1], kl := #[[i1, i2], [i2]], use := use, muts := [i1, i2] }
theorem doT_ks (O : Nat → Prop) (g B q : Nat) (vL : Value) (t : Nat) (L : List Ce) (A A' : Bo) (i1 i2 : Nat) (use : Array (List Nat)) : ∀ i s W W', i ∉ (doT g B q vL t L A A' i1 i2 use).kl.getD s [] → (doT g B q vL t L A A' i1 i2 use).made.getD s none ≠ some i → (doT g B q vL t L A A' i1 i2 use).rel (But O) i W W' → (doT g B q vL t L A A' i1 i2 use).Ψ s W → (doT g B q vL t L A A' i1 i2 use).Ψ s W' := by
  intro i s W W' h1 h2 h3 h4
  match s with
  | 0 =>
    have hi : i ≠ i1 ∧ i ≠ i2 := by simpa [doT] using h1
    have h5 : Grows W W' := by simpa [StateK.rel, doT, hi.1, hi.2] using h3
    exact ⟨h4.1.grows h5, h4.2.grows h5⟩
  | 1 =>
    have hi2 : i ≠ i2 := by simpa [doT] using h1
    have hi1 : i ≠ i1 := by intro e; exact h2 (by rw [e]; rfl)
    have h5 : Grows W W' := by simpa [StateK.rel, doT, hi1, hi2] using h3
    exact ⟨h4.1.grows h5, h4.2.grows h5⟩
  | _ + 2 => trivial
set_option maxRecDepth 100000 in
set_option maxHeartbeats 2000000 in
theorem vDoes {w : World} {g : Nat} {f : Raw} {A : Bo} (hh : Has w g f A) {B q : Nat} {vL : Value} {t : Nat} {L : List Ce} (h : RB w B q vL t L) (hA : abs_ t L = A) (x : De) (hx : DeOk w x) (ho : Outside (fun b => B ≤ b) x.pv) (hBg : B ≤ g) (hp : x.p.length ≤ 2000) :
    Calls Try.prog 11 #[pb g, .pointer (some ⟨q, 0, none⟩), x.v] w fun e w' => e = .returned (.bool true) ∧ HasIn w' g (doA A x) ∧ RBIn w' B q (doA A x) ∧ Below B w w' := by
  have hmx : Try.prog.follows .mixedOrders = true := by kernel_rfl
  have hw : Wf (abs_ t L) := by rw [hA]; exact hh.wf
  obtain ⟨pa, pc, hpv⟩ := hx.p.slice
  have hbp := hx.p
  obtain ⟨kd, i, pv, p⟩ := x
  dsimp only at *
  obtain ⟨rb, Hrb⟩ : ∃ rb, Hid (w.heap.size = rb) := ⟨_, rfl⟩
  obtain ⟨w1, Hw1⟩ : ∃ w1, Hid (w.alloc (.cells #[.int .i64 kd, .int .i64 i, pv] 32) = w1) := ⟨_, rfl⟩
  have Hg1 : Hid (Grows w w1) := by show Grows _ _; rw [← Hw1.out]; exact Grows.alloc' _ _
  have hrow : w1.heap[rb]? = some (.cells #[.int .i64 kd, .int .i64 i, pv] 32 (0, 0)) := by rw [← Hw1.out, ← Hrb.out]; exact heap_alloc_new _ _
  have d0 : w1.cell? ⟨rb, 0, none⟩ = some (.int .i64 kd) := by rw [cell_of_row w1 rb 0 _ _ (0, 0) hrow]; rfl
  have d1 : w1.cell? ⟨rb, 1, none⟩ = some (.int .i64 i) := by rw [cell_of_row w1 rb 1 _ _ (0, 0) hrow]; rfl
  have d2 : w1.cell? ⟨rb, 2, none⟩ = some pv := by rw [cell_of_row w1 rb 2 _ _ (0, 0) hrow]; rfl
  have Hh := Lib.hid (hh.grows Hg1.out)
  have HR := Lib.hid (h.grows Hg1.out)
  have HBw : Hid (B ≤ w.heap.size) := by have := (Array.getElem?_eq_some_iff.1 h.row).1; have := h.qB; show B ≤ _; omega
  have HBg : Hid (B ≤ g) := hBg
  have HrO : Hid (¬ (rb = g ∨ OR q vL rb)) := by
    have h1 := hh.at_.lt
    have h2 := (Array.getElem?_eq_some_iff.1 h.row).1
    have h4 := Hrb.out
    show ¬ _
    rintro (e | e | e)
    · omega
    · omega
    · have := own_lt h.own rb e; omega
  have HOlt : Hid (∀ b, (b = g ∨ OR q vL b) → b < w1.heap.size ∧ B ≤ b) := by
    have h0 := Hg1.out.size
    show ∀ _, _
    rintro b (e | e | e)
    · have := hh.at_.lt; rw [e]; exact ⟨by omega, hBg⟩
    · have := (Array.getElem?_eq_some_iff.1 h.row).1; rw [e]; exact ⟨by omega, h.qB⟩
    · have := own_lt h.own b e; exact ⟨by omega, h.vB b e⟩
  have Hbp := Lib.hid (hbp.grows Hg1.out)
  have HA := Lib.hid hA
  have Hw := Lib.hid hw
  have HoB := Lib.hid ho
  have Hp2 := Lib.hid hp
  rw [hpv] at d2 Hbp HoB Hw1
  obtain ⟨m, Hm⟩ : ∃ m, Hid (p.length = m) := ⟨_, rfl⟩
  rw [Hm.out] at d2 Hbp HoB Hw1
  have HoO : Hid (Outside (fun b => b = g ∨ OR q vL b) (.slice pa m pc)) := Lib.hid (fun b o sp n c e hn hb => HoB.out b o sp n c e hn (HOlt.out b hb).2)
  have HoR : Hid (Outside (OR q vL) (.slice pa m pc)) := Lib.hid (fun b o sp n c e hn hb => HoB.out b o sp n c e hn (HOlt.out b (.inr hb)).2)
  unfold De.v
  dsimp only
  rw [hpv, Hm.out]
  clear hrow hh h hA hw hx hbp hpv ho hBg hp
  unfold pb
  by_cases h0 : kd = 0
  · subst h0
    have Hdo : Hid (doA A ⟨0, i, .slice pa m pc, p⟩ = insS A i p) := rfl
    go_enter Try.func11, Try.ntmps11
    go_wp2_with (refine wpList_boxT rfl 32 (.tmp 2) rfl _ rfl ?_; rw [Hw1.out, Hrb.out])
    refine region_L (E := (But (fun b => b = g ∨ OR q vL b))) (But.ok _) But.ofGrows
      #[[], [], [1], [], [], [4], [3, 4, 5], [0, 1, 2, 3, 4, 5, 6], [0, 1, 2, 3, 4, 5, 6, 7], [], [], [10], [], [12], [0, 1, 2, 3, 4, 5, 6, 7, 8, 9, 10, 11, 12, 13], [0, 1, 2, 3, 4, 5, 6, 7, 8, 9, 10, 11, 12, 13, 14], [0, 1, 2, 3, 4, 5, 6, 7, 8, 9, 10, 11, 12, 13, 14, 15]] #[[0], [5], [], [], [5], [], [], [], [], [1], [5], [], [5], [], [], [], []] #[true, true, true, true, true, true, true, true, true, true, true, true, true, true, true, true, true]
      ((.val ?va0) :: (.val ?va1) :: (.val ?va2) :: (.pred (fun v W => W.ownsRow w1.heap.size 5 1 v 0 [] ∧ ∃ g, v = .slice (some ⟨g, 0, none⟩) 0 0) (fun v a b h ho => ⟨own_but ho.1 h (fun j hj hO => by have h1 := own_base ho.1 j hj; have h2 := (HOlt.out j hO).1; omega), ho.2⟩)) :: (.val ?va4) :: (.val ?va5) :: (.pred (fun v W => Own 5 w1.heap.size W v p) (fun v a b h ho => own_but ho h (fun j hj hO => by have h1 := own_base ho j hj; have h2 := (HOlt.out j hO).1; omega))) :: (.val (.int .i64 (insE A i p))) :: (.val ?va8) :: (.val ?va9) :: (.val ?va10) :: (.val ?va11) :: (.val ?va12) :: (.val ?va13) :: (.frag (fun v W => v = .int .i64 (insE A i p) ∧ HasIn W g (insS A i p) ∧ RBIn W B q (insS A i p)) (fun v a b h ho => ⟨ho.1, ho.2.1.grows h, ho.2.2.grows h⟩)) :: (.val (.bool true)) :: (.val ?va16) :: []).toArray
      (doT g B q vL t L A (insS A i p) 7 14 #[[], [], [], [], [], [], [], [0], [], [], [], [], [], [], [1], [], []])
      (doT_ks _ _ _ _ _ _ _ _ _ _ _ _)
      (fun s hs => match s, hs with | 0, _ => ⟨⟨_, Hh.out.grows (Grows.drew' _)⟩, HR.out.grows (Grows.drew' _)⟩ | 1, h => by simp [doT] at h | _ + 2, _ => trivial)
      hmx ?chka rfl rfl ?grda ?stpa ?rsta
    case chka => rfl
    case stpa =>
      refine ⟨?_, ?_, ?_, ?_, ?_, ?_, ?_, ?_, ?_, ?_, ?_, ?_, ?_, ?_, ?_, ?_, ?_, trivial⟩
      · refine step_introK rfl rfl fun ρ X hc hf hgl hX hp ho hu => ?_
        change StepOk _ { dst := _, op := Op.move (Operand.tmp 0), type := _, pos := _, after := _, guard := _ } _ _ _
        have k0 : ρ (.tmp 0) = .pointer (some ⟨g, 0, none⟩) := ho 0 (by decide)
        refine stepK_plain (i := 0) rfl ?_
        clear hu
        clear hp ho
        refine StepOk.of_run (v := ?va0) (w' := X) ?_ ⟨rfl, Below.refl _ _⟩
        clear hX
        go_simp
        all_goals try go_bits
        all_goals try simp only [IntWalk.iteOmega]
        all_goals try go_bits
        all_goals rfl
      · refine step_introK rfl rfl fun ρ X hc hf hgl hX hp ho hu => ?_
        change StepOk _ { dst := _, op := Op.fieldAddr 32 (Operand.tmp 5) 1, type := _, pos := _, after := _, guard := _ } _ _ _
        have k5 : ρ (.tmp 5) = .pointer (some ⟨rb, 0, none⟩) := ho 5 (by decide)
        refine stepK_plain (i := 1) rfl ?_
        clear hu
        clear hp ho
        refine StepOk.of_run (v := ?va1) (w' := X) ?_ ⟨rfl, Below.refl _ _⟩
        clear hX
        go_simp
        all_goals try go_bits
        all_goals try simp only [IntWalk.iteOmega]
        all_goals try go_bits
        all_goals rfl
      · refine step_introK rfl rfl fun ρ X hc hf hgl hX hp ho hu => ?_
        change StepOk _ { dst := _, op := Op.load 3 (Operand.tmp 12), type := _, pos := _, after := _, guard := _ } _ _ _
        have k12 : ρ (.tmp 12) = ?va1 := hp 1 (by decide)
        refine stepK_plain (i := 2) rfl ?_
        clear hu
        have d1X := But.cell hX HrO.out d1
        have d2X := But.cell hX HrO.out d2
        clear hp ho
        refine StepOk.of_run (v := ?va2) (w' := X) ?_ ⟨rfl, Below.refl _ _⟩
        clear hX
        go_simp
        all_goals try go_bits
        all_goals try simp only [IntWalk.iteOmega]
        all_goals try go_bits
        all_goals rfl
      · refine step_introK rfl rfl fun ρ X hc hf hgl hX hp ho hu => ?_
        change StepOk _ { dst := _, op := Op.buildSlice 30 0 #[], type := _, pos := _, after := _, guard := _ } _ _ _
        refine stepK_plain (i := 3) rfl ?_
        clear hu
        clear hp ho
        refine StepOk.of_run (v := .slice (some ⟨X.heap.size, 0, none⟩) 0 0) (w' := X.alloc (.cells #[] 5)) ?_ ⟨⟨⟨by simp, .inr ⟨X.heap.size, 0, #[], rfl, hX.size, heap_alloc_new X _, Nat.le_refl _, by simp [maxLen], by simp, by simp⟩⟩, _, rfl⟩, Grows.alloc' _ _⟩
        simp [go_sem, execOp, hc]
      · refine step_introK rfl rfl fun ρ X hc hf hgl hX hp ho hu => ?_
        change StepOk _ { dst := _, op := Op.fieldAddr 32 (Operand.tmp 5) 2, type := _, pos := _, after := _, guard := _ } _ _ _
        have k5 : ρ (.tmp 5) = .pointer (some ⟨rb, 0, none⟩) := ho 5 (by decide)
        refine stepK_plain (i := 4) rfl ?_
        clear hu
        clear hp ho
        refine StepOk.of_run (v := ?va4) (w' := X) ?_ ⟨rfl, Below.refl _ _⟩
        clear hX
        go_simp
        all_goals try go_bits
        all_goals try simp only [IntWalk.iteOmega]
        all_goals try go_bits
        all_goals rfl
      · refine step_introK rfl rfl fun ρ X hc hf hgl hX hp ho hu => ?_
        change StepOk _ { dst := _, op := Op.load 30 (Operand.tmp 15), type := _, pos := _, after := _, guard := _ } _ _ _
        have k15 : ρ (.tmp 15) = ?va4 := hp 4 (by decide)
        refine stepK_plain (i := 5) rfl ?_
        clear hu
        have d1X := But.cell hX HrO.out d1
        have d2X := But.cell hX HrO.out d2
        clear hp ho
        refine StepOk.of_run (v := ?va5) (w' := X) ?_ ⟨rfl, Below.refl _ _⟩
        clear hX
        go_simp
        all_goals try go_bits
        all_goals try simp only [IntWalk.iteOmega]
        all_goals try go_bits
        all_goals rfl
      · refine step_introK rfl rfl fun ρ X hc hf hgl hX hp ho hu => ?_
        change StepOk _ { dst := _, op := Op.call { callee := Callee.builtin Builtin.append, args := #[Operand.tmp 14, Operand.tmp 16], argTypes := #[30, 30] }, type := _, pos := _, after := _, guard := _ } _ _ _
        have k14 := hp 3 (by decide)
        have k16 : ρ (.tmp 16) = ?va5 := hp 5 (by decide)
        refine stepK_plain (i := 6) rfl ?_
        clear hu
        clear hp ho
        obtain ⟨ho0, g0, e0⟩ := k14
        rw [e0] at ho0
        obtain ⟨v', W', hr, ho', hg'⟩ := run_copyB w1.heap.size X hX.size g0 ho0 (.slice pa m pc) p (Hbp.out.but hX HoO.out) (by have := Hp2.out; omega)
        refine StepOk.of_run (v := v') (w' := W') ?_ ⟨ho', hg'⟩
        simp only [execOp, resolve, invoke, builtin, Sem.run_bind, Sem.run_pure, Result.andThen_ok, List.map_toArray, List.map_cons, List.map_nil, e0, k16, hr]
      · refine step_introK rfl rfl fun ρ X hc hf hgl hX hp ho hu => ?_
        change StepOk _ { dst := _, op := Op.call { callee := Callee.value (Operand.func 14), args := #[Operand.tmp 11, Operand.tmp 13, Operand.tmp 17], argTypes := #[25, 3, 30] }, type := _, pos := _, after := _, guard := _ } _ _ _
        have k11 : ρ (.tmp 11) = ?va0 := hp 0 (by decide)
        have k13 : ρ (.tmp 13) = ?va2 := hp 2 (by decide)
        have k17 := hp 6 (by decide)
        have hu0 := hu
        have hst : HasIn X g A ∧ RB X B q vL t L := hu 0 (by simp [doT])
        obtain ⟨⟨fX, hhX⟩, hrX⟩ := hst
        refine stepK_made rfl ?_
        refine StepOk.of_call (f := 14) (args := #[.pointer (some ⟨g, 0, none⟩), .int .i64 i, ρ (.tmp 17)]) (w' := X) ?_ (hInsert hhX i (ρ (.tmp 17)) p k17.byt (fun b o sp n c e hn hb => by have h1 := own_base k17 b (by rw [e]; rfl); have h2 := (HOlt.out b (.inl hb)).1; omega)) ?_
        · clear hp ho
          go_simp
          all_goals try rfl
        · rintro e w'' ⟨rfl, hh', hu'⟩
          refine ⟨_, rfl, rfl, hu'.mono (fun k hk => .inl hk), fun s hs => ?_⟩
          match s, hs with
          | 0, h => simp [doT] at h
          | 1, _ => exact ⟨hh', hrX.at_ hhX.at_ hu'⟩
          | _ + 2, h => simp [doT] at h
      · refine step_introK rfl rfl fun ρ X hc hf hgl hX hp ho hu => ?_
        change StepOk _ { dst := _, op := Op.call { callee := Callee.value (Operand.func 13), args := #[Operand.tmp 18], argTypes := #[36] }, type := _, pos := _, after := _, guard := _ } _ _ _
        have k18 : ρ (.tmp 18) = (.int .i64 (insE A i p)) := hp 7 (by decide)
        refine stepK_plain (i := 8) rfl ?_
        clear hu
        clear hp ho
        refine StepOk.of_call (f := 13) (args := #[(.int .i64 (insE A i p))]) (w' := X) ?_ (vNum _ X) ?_
        · go_simp
          all_goals try go_bits
          all_goals try rfl
        · rintro e w'' ⟨rfl, rfl⟩; refine ⟨_, rfl, ?_, Below.refl _ _⟩; show _ = ?va8; rfl
      · refine step_introK rfl rfl fun ρ X hc hf hgl hX hp ho hu => ?_
        change StepOk _ { dst := _, op := Op.move (Operand.tmp 1), type := _, pos := _, after := _, guard := _ } _ _ _
        have k1 : ρ (.tmp 1) = .pointer (some ⟨q, 0, none⟩) := ho 1 (by decide)
        refine stepK_plain (i := 9) rfl ?_
        clear hu
        clear hp ho
        refine StepOk.of_run (v := ?va9) (w' := X) ?_ ⟨rfl, Below.refl _ _⟩
        clear hX
        go_simp
        all_goals try go_bits
        all_goals try simp only [IntWalk.iteOmega]
        all_goals try go_bits
        all_goals rfl
      · refine step_introK rfl rfl fun ρ X hc hf hgl hX hp ho hu => ?_
        change StepOk _ { dst := _, op := Op.fieldAddr 32 (Operand.tmp 5) 1, type := _, pos := _, after := _, guard := _ } _ _ _
        have k5 : ρ (.tmp 5) = .pointer (some ⟨rb, 0, none⟩) := ho 5 (by decide)
        refine stepK_plain (i := 10) rfl ?_
        clear hu
        clear hp ho
        refine StepOk.of_run (v := ?va10) (w' := X) ?_ ⟨rfl, Below.refl _ _⟩
        clear hX
        go_simp
        all_goals try go_bits
        all_goals try simp only [IntWalk.iteOmega]
        all_goals try go_bits
        all_goals rfl
      · refine step_introK rfl rfl fun ρ X hc hf hgl hX hp ho hu => ?_
        change StepOk _ { dst := _, op := Op.load 3 (Operand.tmp 21), type := _, pos := _, after := _, guard := _ } _ _ _
        have k21 : ρ (.tmp 21) = ?va10 := hp 10 (by decide)
        refine stepK_plain (i := 11) rfl ?_
        clear hu
        have d1X := But.cell hX HrO.out d1
        have d2X := But.cell hX HrO.out d2
        clear hp ho
        refine StepOk.of_run (v := ?va11) (w' := X) ?_ ⟨rfl, Below.refl _ _⟩
        clear hX
        go_simp
        all_goals try go_bits
        all_goals try simp only [IntWalk.iteOmega]
        all_goals try go_bits
        all_goals rfl
      · refine step_introK rfl rfl fun ρ X hc hf hgl hX hp ho hu => ?_
        change StepOk _ { dst := _, op := Op.fieldAddr 32 (Operand.tmp 5) 2, type := _, pos := _, after := _, guard := _ } _ _ _
        have k5 : ρ (.tmp 5) = .pointer (some ⟨rb, 0, none⟩) := ho 5 (by decide)
        refine stepK_plain (i := 12) rfl ?_
        clear hu
        clear hp ho
        refine StepOk.of_run (v := ?va12) (w' := X) ?_ ⟨rfl, Below.refl _ _⟩
        clear hX
        go_simp
        all_goals try go_bits
        all_goals try simp only [IntWalk.iteOmega]
        all_goals try go_bits
        all_goals rfl
      · refine step_introK rfl rfl fun ρ X hc hf hgl hX hp ho hu => ?_
        change StepOk _ { dst := _, op := Op.load 30 (Operand.tmp 23), type := _, pos := _, after := _, guard := _ } _ _ _
        have k23 : ρ (.tmp 23) = ?va12 := hp 12 (by decide)
        refine stepK_plain (i := 13) rfl ?_
        clear hu
        have d1X := But.cell hX HrO.out d1
        have d2X := But.cell hX HrO.out d2
        clear hp ho
        refine StepOk.of_run (v := ?va13) (w' := X) ?_ ⟨rfl, Below.refl _ _⟩
        clear hX
        go_simp
        all_goals try go_bits
        all_goals try simp only [IntWalk.iteOmega]
        all_goals try go_bits
        all_goals rfl
      · refine step_introK rfl rfl fun ρ X hc hf hgl hX hp ho hu => ?_
        change StepOk _ { dst := _, op := Op.call { callee := Callee.value (Operand.func 23), args := #[Operand.tmp 20, Operand.tmp 22, Operand.tmp 24], argTypes := #[27, 3, 30] }, type := _, pos := _, after := _, guard := _ } _ _ _
        have k20 : ρ (.tmp 20) = ?va9 := hp 9 (by decide)
        have k22 : ρ (.tmp 22) = ?va11 := hp 11 (by decide)
        have k24 : ρ (.tmp 24) = ?va13 := hp 13 (by decide)
        have hu0 := hu
        have hst : HasIn X g (insS A i p) ∧ RB X B q vL t L := hu 1 (by simp [doT])
        obtain ⟨⟨fX, hhX⟩, hrX⟩ := hst
        refine stepK_made rfl ?_
        refine StepOk.of_call (f := 23) (args := #[.pointer (some ⟨q, 0, none⟩), .int .i64 i, .slice pa m pc]) (w' := X) ?_ (rInsert hrX Hw.out i (.slice pa m pc) p (Hbp.out.but hX HoO.out) HoR.out) ?_
        · clear hp ho
          go_simp
          all_goals try rfl
        · rintro e w'' ⟨rfl, hr', hu'⟩
          rw [HA.out] at hr' ⊢
          refine ⟨_, rfl, ⟨rfl, ⟨_, hrX.keeps hhX hu'⟩, hr'⟩, hu'.mono (fun k hk => .inr hk), fun s hs => ?_⟩
          match s, hs with
          | 0, h => simp [doT] at h
          | 1, h => simp [doT] at h
          | _ + 2, h => simp [doT] at h
      · refine step_introK rfl rfl fun ρ X hc hf hgl hX hp ho hu => ?_
        change StepOk _ { dst := _, op := Op.binOp BinOp.eql 3 (Operand.tmp 19) (Operand.tmp 25) 3, type := _, pos := _, after := _, guard := _ } _ _ _
        have k19 : ρ (.tmp 19) = ?va8 := hp 8 (by decide)
        have k25 := hp 14 (by decide)
        refine stepK_plain (i := 15) rfl ?_
        clear hu
        clear hp ho
        obtain ⟨e25, _, _⟩ := k25
        refine StepOk.of_run (v := .bool true) (w' := X) ?_ ⟨rfl, Below.refl _ _⟩
        simp [go_sem, execOp, k19, e25]
      · refine step_introK rfl rfl fun ρ X hc hf hgl hX hp ho hu => ?_
        change StepOk _ { dst := _, op := Op.assign (Operand.tmp 26), type := _, pos := _, after := _, guard := _ } _ _ _
        have k26 : ρ (.tmp 26) = (.bool true) := hp 15 (by decide)
        refine stepK_plain (i := 16) rfl ?_
        clear hu
        clear hp ho
        refine StepOk.of_run (v := ?va16) (w' := X) ?_ ⟨rfl, Below.refl _ _⟩
        clear hX
        go_simp
        all_goals try go_bits
        all_goals try simp only [IntWalk.iteOmega]
        all_goals try go_bits
        all_goals rfl
    case grda => rfl
    case rsta =>
      intro a0 X hb
      obtain ⟨x14, hx14⟩ : ∃ x, a0.tmps.getD 14 undef = x := ⟨_, rfl⟩
      have p14 := hb.done' 3 14 rfl rfl
      rw [hx14] at p14
      obtain ⟨x17, hx17⟩ : ∃ x, a0.tmps.getD 17 undef = x := ⟨_, rfl⟩
      have p17 := hb.done' 6 17 rfl rfl
      rw [hx17] at p17
      obtain ⟨x25, hx25⟩ : ∃ x, a0.tmps.getD 25 undef = x := ⟨_, rfl⟩
      have p25 := hb.done' 14 25 rfl rfl
      rw [hx25] at p25
      have hfr := hb.frame ((6, ?va16) :: (11, ?va0) :: (12, ?va1) :: (13, ?va2) :: (14, x14) :: (15, ?va4) :: (16, ?va5) :: (17, x17) :: (18, (.int .i64 (insE A i p))) :: (19, ?va8) :: (20, ?va9) :: (21, ?va10) :: (22, ?va11) :: (23, ?va12) :: (24, ?va13) :: (25, x25) :: (26, (.bool true)) :: []) rfl ⟨hb.done' 16 6 rfl rfl, hb.done' 0 11 rfl rfl, hb.done' 1 12 rfl rfl, hb.done' 2 13 rfl rfl, hx14, hb.done' 4 15 rfl rfl, hb.done' 5 16 rfl rfl, hx17, hb.done' 7 18 rfl rfl, hb.done' 8 19 rfl rfl, hb.done' 9 20 rfl rfl, hb.done' 10 21 rfl rfl, hb.done' 11 22 rfl rfl, hb.done' 12 23 rfl rfl, hb.done' 13 24 rfl rfl, hx25, hb.done' 15 26 rfl rfl, trivial⟩
      simp only [updL, ↓reduceIte, Nat.reduceEqDiff, Nat.reduceAdd, Nat.zero_add] at hfr
      have HX := Lib.hid hb.ext
      clear hb
      subst hfr
      obtain ⟨_, hh9, hr9⟩ := (show x25 = .int .i64 (insE A i p) ∧ HasIn X g (insS A i p) ∧ RBIn X B q (insS A i p) from p25)
      have Hh9 := Lib.hid hh9
      have Hr9 := Lib.hid hr9
      have Hbl : Hid (Below B w X) := Below.trans (Below.mono Hg1.out HBw.out) (HX.out.below (Nat.le_trans HBw.out Hg1.out.size) (fun k hk => (HOlt.out k hk).2))
      clear hh9 hr9 d0 d1 d2
      go_wp2
      go_ret
      exact ⟨rfl, by rw [Hdo.out]; exact Hh9.out, by rw [Hdo.out]; exact Hr9.out, Hbl.out⟩
  · by_cases h1 : kd = 1
    · subst h1
      have Hdo : Hid (doA A ⟨1, i, .slice pa m pc, p⟩ = delS A i) := rfl
      go_enter Try.func11, Try.ntmps11
      go_wp2_with (refine wpList_boxT rfl 32 (.tmp 2) rfl _ rfl ?_; rw [Hw1.out, Hrb.out])
      refine region_L (E := (But (fun b => b = g ∨ OR q vL b))) (But.ok _) But.ofGrows
        #[[], [], [1], [0, 1, 2], [0, 1, 2, 3], [], [], [6], [0, 1, 2, 3, 4, 5, 6, 7], [0, 1, 2, 3, 4, 5, 6, 7, 8], [0, 1, 2, 3, 4, 5, 6, 7, 8, 9]] #[[0], [5], [], [], [], [1], [5], [], [], [], []] #[true, true, true, true, true, true, true, true, true, true, true]
        ((.val ?vb0) :: (.val ?vb1) :: (.val ?vb2) :: (.val (.int .i64 (delE A i))) :: (.val ?vb4) :: (.val ?vb5) :: (.val ?vb6) :: (.val ?vb7) :: (.frag (fun v W => v = .int .i64 (delE A i) ∧ HasIn W g (delS A i) ∧ RBIn W B q (delS A i)) (fun v a b h ho => ⟨ho.1, ho.2.1.grows h, ho.2.2.grows h⟩)) :: (.val (.bool true)) :: (.val ?vb10) :: []).toArray
        (doT g B q vL t L A (delS A i) 3 8 #[[], [], [], [0], [], [], [], [], [1], [], []])
        (doT_ks _ _ _ _ _ _ _ _ _ _ _ _)
        (fun s hs => match s, hs with | 0, _ => ⟨⟨_, Hh.out.grows (Grows.drew' _)⟩, HR.out.grows (Grows.drew' _)⟩ | 1, h => by simp [doT] at h | _ + 2, _ => trivial)
        hmx ?chkb rfl rfl ?grdb ?stpb ?rstb
      case chkb => rfl
      case stpb =>
        refine ⟨?_, ?_, ?_, ?_, ?_, ?_, ?_, ?_, ?_, ?_, ?_, trivial⟩
        · refine step_introK rfl rfl fun ρ X hc hf hgl hX hp ho hu => ?_
          change StepOk _ { dst := _, op := Op.move (Operand.tmp 0), type := _, pos := _, after := _, guard := _ } _ _ _
          have k0 : ρ (.tmp 0) = .pointer (some ⟨g, 0, none⟩) := ho 0 (by decide)
          refine stepK_plain (i := 0) rfl ?_
          clear hu
          clear hp ho
          refine StepOk.of_run (v := ?vb0) (w' := X) ?_ ⟨rfl, Below.refl _ _⟩
          clear hX
          go_simp
          all_goals try go_bits
          all_goals try simp only [IntWalk.iteOmega]
          all_goals try go_bits
          all_goals rfl
        · refine step_introK rfl rfl fun ρ X hc hf hgl hX hp ho hu => ?_
          change StepOk _ { dst := _, op := Op.fieldAddr 32 (Operand.tmp 5) 1, type := _, pos := _, after := _, guard := _ } _ _ _
          have k5 : ρ (.tmp 5) = .pointer (some ⟨rb, 0, none⟩) := ho 5 (by decide)
          refine stepK_plain (i := 1) rfl ?_
          clear hu
          clear hp ho
          refine StepOk.of_run (v := ?vb1) (w' := X) ?_ ⟨rfl, Below.refl _ _⟩
          clear hX
          go_simp
          all_goals try go_bits
          all_goals try simp only [IntWalk.iteOmega]
          all_goals try go_bits
          all_goals rfl
        · refine step_introK rfl rfl fun ρ X hc hf hgl hX hp ho hu => ?_
          change StepOk _ { dst := _, op := Op.load 3 (Operand.tmp 30), type := _, pos := _, after := _, guard := _ } _ _ _
          have k30 : ρ (.tmp 30) = ?vb1 := hp 1 (by decide)
          refine stepK_plain (i := 2) rfl ?_
          clear hu
          have d1X := But.cell hX HrO.out d1
          clear hp ho
          refine StepOk.of_run (v := ?vb2) (w' := X) ?_ ⟨rfl, Below.refl _ _⟩
          clear hX
          go_simp
          all_goals try go_bits
          all_goals try simp only [IntWalk.iteOmega]
          all_goals try go_bits
          all_goals rfl
        · refine step_introK rfl rfl fun ρ X hc hf hgl hX hp ho hu => ?_
          change StepOk _ { dst := _, op := Op.call { callee := Callee.value (Operand.func 15), args := #[Operand.tmp 29, Operand.tmp 31], argTypes := #[25, 3] }, type := _, pos := _, after := _, guard := _ } _ _ _
          have k29 : ρ (.tmp 29) = ?vb0 := hp 0 (by decide)
          have k31 : ρ (.tmp 31) = ?vb2 := hp 2 (by decide)
          have hu0 := hu
          have hst : HasIn X g A ∧ RB X B q vL t L := hu 0 (by simp [doT])
          obtain ⟨⟨fX, hhX⟩, hrX⟩ := hst
          refine stepK_made rfl ?_
          refine StepOk.of_call (f := 15) (args := #[.pointer (some ⟨g, 0, none⟩), .int .i64 i]) (w' := X) ?_ (hDelete hhX i) ?_
          · clear hp ho
            go_simp
            all_goals try rfl
          · rintro e w'' ⟨rfl, hh', hu'⟩
            refine ⟨_, rfl, rfl, hu'.mono (fun k hk => .inl hk), fun s hs => ?_⟩
            match s, hs with
            | 0, h => simp [doT] at h
            | 1, _ => exact ⟨hh', hrX.at_ hhX.at_ hu'⟩
            | _ + 2, h => simp [doT] at h
        · refine step_introK rfl rfl fun ρ X hc hf hgl hX hp ho hu => ?_
          change StepOk _ { dst := _, op := Op.call { callee := Callee.value (Operand.func 13), args := #[Operand.tmp 32], argTypes := #[36] }, type := _, pos := _, after := _, guard := _ } _ _ _
          have k32 : ρ (.tmp 32) = (.int .i64 (delE A i)) := hp 3 (by decide)
          refine stepK_plain (i := 4) rfl ?_
          clear hu
          clear hp ho
          refine StepOk.of_call (f := 13) (args := #[(.int .i64 (delE A i))]) (w' := X) ?_ (vNum _ X) ?_
          · go_simp
            all_goals try go_bits
            all_goals try rfl
          · rintro e w'' ⟨rfl, rfl⟩; refine ⟨_, rfl, ?_, Below.refl _ _⟩; show _ = ?vb4; rfl
        · refine step_introK rfl rfl fun ρ X hc hf hgl hX hp ho hu => ?_
          change StepOk _ { dst := _, op := Op.move (Operand.tmp 1), type := _, pos := _, after := _, guard := _ } _ _ _
          have k1 : ρ (.tmp 1) = .pointer (some ⟨q, 0, none⟩) := ho 1 (by decide)
          refine stepK_plain (i := 5) rfl ?_
          clear hu
          clear hp ho
          refine StepOk.of_run (v := ?vb5) (w' := X) ?_ ⟨rfl, Below.refl _ _⟩
          clear hX
          go_simp
          all_goals try go_bits
          all_goals try simp only [IntWalk.iteOmega]
          all_goals try go_bits
          all_goals rfl
        · refine step_introK rfl rfl fun ρ X hc hf hgl hX hp ho hu => ?_
          change StepOk _ { dst := _, op := Op.fieldAddr 32 (Operand.tmp 5) 1, type := _, pos := _, after := _, guard := _ } _ _ _
          have k5 : ρ (.tmp 5) = .pointer (some ⟨rb, 0, none⟩) := ho 5 (by decide)
          refine stepK_plain (i := 6) rfl ?_
          clear hu
          clear hp ho
          refine StepOk.of_run (v := ?vb6) (w' := X) ?_ ⟨rfl, Below.refl _ _⟩
          clear hX
          go_simp
          all_goals try go_bits
          all_goals try simp only [IntWalk.iteOmega]
          all_goals try go_bits
          all_goals rfl
        · refine step_introK rfl rfl fun ρ X hc hf hgl hX hp ho hu => ?_
          change StepOk _ { dst := _, op := Op.load 3 (Operand.tmp 35), type := _, pos := _, after := _, guard := _ } _ _ _
          have k35 : ρ (.tmp 35) = ?vb6 := hp 6 (by decide)
          refine stepK_plain (i := 7) rfl ?_
          clear hu
          have d1X := But.cell hX HrO.out d1
          clear hp ho
          refine StepOk.of_run (v := ?vb7) (w' := X) ?_ ⟨rfl, Below.refl _ _⟩
          clear hX
          go_simp
          all_goals try go_bits
          all_goals try simp only [IntWalk.iteOmega]
          all_goals try go_bits
          all_goals rfl
        · refine step_introK rfl rfl fun ρ X hc hf hgl hX hp ho hu => ?_
          change StepOk _ { dst := _, op := Op.call { callee := Callee.value (Operand.func 24), args := #[Operand.tmp 34, Operand.tmp 36], argTypes := #[27, 3] }, type := _, pos := _, after := _, guard := _ } _ _ _
          have k34 : ρ (.tmp 34) = ?vb5 := hp 5 (by decide)
          have k36 : ρ (.tmp 36) = ?vb7 := hp 7 (by decide)
          have hu0 := hu
          have hst : HasIn X g (delS A i) ∧ RB X B q vL t L := hu 1 (by simp [doT])
          obtain ⟨⟨fX, hhX⟩, hrX⟩ := hst
          refine stepK_made rfl ?_
          refine StepOk.of_call (f := 24) (args := #[.pointer (some ⟨q, 0, none⟩), .int .i64 i]) (w' := X) ?_ (rDelete hrX Hw.out i) ?_
          · clear hp ho
            go_simp
            all_goals try rfl
          · rintro e w'' ⟨rfl, hr', hu'⟩
            rw [HA.out] at hr' ⊢
            refine ⟨_, rfl, ⟨rfl, ⟨_, hrX.keeps hhX hu'⟩, hr'⟩, hu'.mono (fun k hk => .inr hk), fun s hs => ?_⟩
            match s, hs with
            | 0, h => simp [doT] at h
            | 1, h => simp [doT] at h
            | _ + 2, h => simp [doT] at h
        · refine step_introK rfl rfl fun ρ X hc hf hgl hX hp ho hu => ?_
          change StepOk _ { dst := _, op := Op.binOp BinOp.eql 3 (Operand.tmp 33) (Operand.tmp 37) 3, type := _, pos := _, after := _, guard := _ } _ _ _
          have k33 : ρ (.tmp 33) = ?vb4 := hp 4 (by decide)
          have k37 := hp 8 (by decide)
          refine stepK_plain (i := 9) rfl ?_
          clear hu
          clear hp ho
          obtain ⟨e25, _, _⟩ := k37
          refine StepOk.of_run (v := .bool true) (w' := X) ?_ ⟨rfl, Below.refl _ _⟩
          simp [go_sem, execOp, k33, e25]
        · refine step_introK rfl rfl fun ρ X hc hf hgl hX hp ho hu => ?_
          change StepOk _ { dst := _, op := Op.assign (Operand.tmp 38), type := _, pos := _, after := _, guard := _ } _ _ _
          have k38 : ρ (.tmp 38) = (.bool true) := hp 9 (by decide)
          refine stepK_plain (i := 10) rfl ?_
          clear hu
          clear hp ho
          refine StepOk.of_run (v := ?vb10) (w' := X) ?_ ⟨rfl, Below.refl _ _⟩
          clear hX
          go_simp
          all_goals try go_bits
          all_goals try simp only [IntWalk.iteOmega]
          all_goals try go_bits
          all_goals rfl
      case grdb => rfl
      case rstb =>
        intro a0 X hb
        obtain ⟨x37, hx37⟩ : ∃ x, a0.tmps.getD 37 undef = x := ⟨_, rfl⟩
        have p37 := hb.done' 8 37 rfl rfl
        rw [hx37] at p37
        have hfr := hb.frame ((6, ?vb10) :: (29, ?vb0) :: (30, ?vb1) :: (31, ?vb2) :: (32, (.int .i64 (delE A i))) :: (33, ?vb4) :: (34, ?vb5) :: (35, ?vb6) :: (36, ?vb7) :: (37, x37) :: (38, (.bool true)) :: []) rfl ⟨hb.done' 10 6 rfl rfl, hb.done' 0 29 rfl rfl, hb.done' 1 30 rfl rfl, hb.done' 2 31 rfl rfl, hb.done' 3 32 rfl rfl, hb.done' 4 33 rfl rfl, hb.done' 5 34 rfl rfl, hb.done' 6 35 rfl rfl, hb.done' 7 36 rfl rfl, hx37, hb.done' 9 38 rfl rfl, trivial⟩
        simp only [updL, ↓reduceIte, Nat.reduceEqDiff, Nat.reduceAdd, Nat.zero_add] at hfr
        have HX := Lib.hid hb.ext
        clear hb
        subst hfr
        obtain ⟨_, hh9, hr9⟩ := (show x37 = .int .i64 (delE A i) ∧ HasIn X g (delS A i) ∧ RBIn X B q (delS A i) from p37)
        have Hh9 := Lib.hid hh9
        have Hr9 := Lib.hid hr9
        have Hbl : Hid (Below B w X) := Below.trans (Below.mono Hg1.out HBw.out) (HX.out.below (Nat.le_trans HBw.out Hg1.out.size) (fun k hk => (HOlt.out k hk).2))
        clear hh9 hr9 d0 d1 d2
        go_wp2
        go_ret
        exact ⟨rfl, by rw [Hdo.out]; exact Hh9.out, by rw [Hdo.out]; exact Hr9.out, Hbl.out⟩
    · by_cases h2 : kd = 2
      · subst h2
        have Hdo : Hid (doA A ⟨2, i, .slice pa m pc, p⟩ = packA A) := rfl
        go_enter Try.func11, Try.ntmps11
        go_wp2_with (refine wpList_boxT rfl 32 (.tmp 2) rfl _ rfl ?_; rw [Hw1.out, Hrb.out])
        refine (hPack Hh.out).mono ?_
        rintro e w3 ⟨rfl, hh3, hu3⟩
        have Hh3 : Hid (HasIn w3 g (packA A)) := hh3
        have HR3 := Lib.hid (HR.out.at_ Hh.out.at_ hu3)
        have Hu3 := Lib.hid hu3
        clear hh3 hu3 d0 d1 d2
        go_wp2_with fail
        refine (rPack HR3.out Hw.out).mono ?_
        rintro e w4 ⟨rfl, hr4, hu4⟩
        have Hr4 : Hid (RBIn w4 B q (packA A)) := ⟨_, _, _, hr4, by rw [← HA.out]; exact abs_pack t L⟩
        have Hh4 : Hid (HasIn w4 g (packA A)) := by obtain ⟨f3, h3⟩ := Hh3.out; exact ⟨f3, HR3.out.keeps h3 hu4⟩
        have Hbl : Hid (Below B w w4) := Below.trans (Below.mono Hg1.out HBw.out) (((Hu3.out.mono (O' := fun b => b = g ∨ OR q vL b) (fun k hk => .inl hk)).trans' (hu4.mono (fun k hk => .inr hk))).below (Nat.le_trans HBw.out Hg1.out.size) (fun k hk => (HOlt.out k hk).2))
        clear hr4 hu4
        go_wp2
        go_ret
        exact ⟨rfl, by rw [Hdo.out]; exact Hh4.out, by rw [Hdo.out]; exact Hr4.out, Hbl.out⟩
      · have Hdo : Hid (doA A ⟨kd, i, .slice pa m pc, p⟩ = A) := by show doA A _ = _; unfold doA; rw [if_neg h0, if_neg h1, if_neg h2]
        go_enter Try.func11, Try.ntmps11
        go_wp2_with (refine wpList_boxT rfl 32 (.tmp 2) rfl _ rfl ?_; rw [Hw1.out, Hrb.out])
        go_ret
        exact ⟨rfl, by rw [Hdo.out]; exact ⟨_, Hh.out⟩, by rw [Hdo.out]; exact ⟨_, _, _, HR.out, HA.out⟩, Below.mono Hg1.out HBw.out⟩
end Go.Proofs.Ytpodbhimkbadhaa
