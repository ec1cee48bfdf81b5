/-
  A deed on a nil disk.
-/
import Derived.Test.YtoppcpiheaedlaaGreatDoorNm
namespace Go.Proofs.YtoppcpiheaedlaaGreatDoor
open Go.RowKit Go.Maps
set_option linter.unusedVariables false
set_option linter.unusedSimpArgs false
attribute [local go_sem] sv nv mv pv

def NilPost (w : World) (kd : Int) (e : Ending) (w' : World) : Prop := ∃ r, e = .returned (.tuple #[.int .i64 r, .string ⟨#[]⟩]) ∧ (0 ≤ kd → kd ≤ 7 → r = 7) ∧ Grows w w'
set_option maxRecDepth 100000 in
set_option maxHeartbeats 16000000 in
theorem pDoNil (x : Dd) (w : World) (hx : DdOk w x) (hpl : x.p.length ≤ 1000000) (hkl : x.keep.length ≤ 1000000) (hek : EK w) :
    Calls Tryz.prog 13 #[.pointer none, x.v] w (NilPost w x.kind) := by
  have hmx : Tryz.prog.follows .mixedOrders = true := by kernel_rfl
  obtain ⟨kd, a, b, n, vp, p, vk, keep⟩ := x
  have Hx := Lib.hid hx
  have Hpl := Lib.hid hpl
  have Hkl := Lib.hid hkl
  have Hek := Lib.hid hek
  obtain ⟨ap, cp, ep⟩ : ∃ ap cp, vp = .slice ap p.length cp := hx.p.slice
  obtain ⟨ak, ck, ek⟩ : ∃ ak ck, vk = .slice ak keep.length ck := by obtain ⟨ak, ck, e, _⟩ := hx.keep; exact ⟨ak, ck, e⟩
  subst ep
  subst ek
  clear hx hpl hkl hek
  show Calls _ _ #[_, .agg #[.int .i64 kd, .string ⟨a.toArray⟩, .string ⟨b.toArray⟩, .int .i64 n, .slice ap p.length cp, .slice ak keep.length ck]] _ _
  show Calls _ _ _ _ (NilPost w kd)
  obtain ⟨C, hC⟩ : ∃ C : Array Value, C = #[.int .i64 kd, .string ⟨a.toArray⟩, .string ⟨b.toArray⟩, .int .i64 n, .slice ap p.length cp, .slice ak keep.length ck] := ⟨_, rfl⟩
  rw [← hC]
  obtain ⟨g, Hg⟩ : ∃ g, Hid (w.heap.size = g) := ⟨_, rfl⟩
  obtain ⟨w1, Hw1⟩ : ∃ w1, Hid (w.alloc (.cells C 39) = w1) := ⟨_, rfl⟩
  have HG1 : Hid (Grows w w1) := by rw [← Hw1.out]; exact Grows.alloc' _ _
  have hrow : w1.heap[g]? = some (.cells C 39 (0, 0)) := by rw [← Hw1.out, ← Hg.out]; exact heap_alloc_new _ _
  have d0 : w1.cell? ⟨g, 0, none⟩ = some (.int .i64 kd) := by rw [cell_of_row _ g 0 _ _ _ hrow, hC]; rfl
  have d1 : w1.cell? ⟨g, 1, none⟩ = some (.string ⟨a.toArray⟩) := by rw [cell_of_row _ g 1 _ _ _ hrow, hC]; rfl
  have d2 : w1.cell? ⟨g, 2, none⟩ = some (.string ⟨b.toArray⟩) := by rw [cell_of_row _ g 2 _ _ _ hrow, hC]; rfl
  have d3 : w1.cell? ⟨g, 3, none⟩ = some (.int .i64 n) := by rw [cell_of_row _ g 3 _ _ _ hrow, hC]; rfl
  have d4 : w1.cell? ⟨g, 4, none⟩ = some (.slice ap p.length cp) := by rw [cell_of_row _ g 4 _ _ _ hrow, hC]; rfl
  have d5 : w1.cell? ⟨g, 5, none⟩ = some (.slice ak keep.length ck) := by rw [cell_of_row _ g 5 _ _ _ hrow, hC]; rfl
  clear hrow
  obtain ⟨lp, Hlp⟩ : ∃ y, Hid (p.length = y) := ⟨_, rfl⟩
  obtain ⟨lk, Hlk⟩ : ∃ y, Hid (keep.length = y) := ⟨_, rfl⟩
  rw [Hlp.out] at d4
  rw [Hlk.out] at d5
  obtain ⟨sa, Hsa⟩ : ∃ y : ByteArray, Hid (⟨a.toArray⟩ = y) := ⟨_, rfl⟩
  obtain ⟨sb, Hsb⟩ : ∃ y : ByteArray, Hid (⟨b.toArray⟩ = y) := ⟨_, rfl⟩
  rw [Hsa.out] at d1
  rw [Hsb.out] at d2
  have HxA : Hid (Byt w1 (.slice ap lp cp) p) := by rw [← Hlp.out]; exact Hx.out.p.grows HG1.out
  have HxK : Hid (IntS w1 (.slice ak lk ck) keep) := by rw [← Hlk.out]; exact Hx.out.keep.grows HG1.out
  by_cases h0 : kd = 0
  · subst h0
    go_enter Tryz.func13, Tryz.ntmps13
    go_wp2_with (first | (refine wpList_boxT rfl 39 _ rfl C rfl ?_; rw [Hg.out, Hw1.out]) | fail)
    refine specs_region
      #[[], [], [1], [0, 1, 2], [], [4], [0, 1, 2, 3, 4, 5], [0, 1, 2, 3, 4, 5, 6], [0, 1, 2, 3, 4, 5, 6, 7]] #[[0], [3], [], [], [3], [], [], [], []] #[true, true, true, true, true, true, true, true, true]
      ((.val ?vr00) :: (.val ?vr01) :: (.val ?vr02) :: (.pred (fun v W => IsFault W v opCreate a 7) (fun v a b g h => IsFault.grows h g)) :: (.val ?vr04) :: (.val ?vr05) :: (.val (.int .i64 7)) :: (.val ?vr07) :: (.val ?vr08) :: []).toArray
      hmx ?chkr0 ?grdr0 ?stpr0 ?rstr0
    case chkr0 => rfl
    case stpr0 =>
      refine ⟨?_, ?_, ?_, ?_, ?_, ?_, ?_, ?_, ?_, trivial⟩
      · refine step_intro rfl rfl fun ρ X hc hf hgl hX hp ho => ?_
        change StepOk _ { dst := _, op := Op.move (Operand.tmp 0), type := _, pos := _, after := _, guard := _ } _ _ _
        have k0 : ρ (.tmp 0) = .pointer none := ho 0 (by decide)
        clear hp ho
        refine StepOk.of_run (v := ?vr00) (w' := X) ?_ ⟨rfl, Below.refl _ _⟩
        clear hX
        go_simp
        all_goals try go_bits
        all_goals try simp only [IntWalk.iteOmega]
        all_goals try go_bits
        all_goals rfl
      · refine step_intro rfl rfl fun ρ X hc hf hgl hX hp ho => ?_
        change StepOk _ { dst := _, op := Op.fieldAddr 39 (Operand.tmp 3) 1, type := _, pos := _, after := _, guard := _ } _ _ _
        have k3 : ρ (.tmp 3) = .pointer (some ⟨g, 0, none⟩) := ho 3 (by decide)
        clear hp ho
        refine StepOk.of_run (v := ?vr01) (w' := X) ?_ ⟨rfl, Below.refl _ _⟩
        clear hX
        go_simp
        all_goals try go_bits
        all_goals try simp only [IntWalk.iteOmega]
        all_goals try go_bits
        all_goals rfl
      · refine step_intro rfl rfl fun ρ X hc hf hgl hX hp ho => ?_
        change StepOk _ { dst := _, op := Op.load 9 (Operand.tmp 13), type := _, pos := _, after := _, guard := _ } _ _ _
        have k13 : ρ (.tmp 13) = ?vr01 := hp 1 (by decide)
        have d0X := Grows.cell' hX d0
        have d1X := Grows.cell' hX d1
        have d2X := Grows.cell' hX d2
        have d3X := Grows.cell' hX d3
        have d4X := Grows.cell' hX d4
        have d5X := Grows.cell' hX d5
        clear hp ho
        refine StepOk.of_run (v := ?vr02) (w' := X) ?_ ⟨rfl, Below.refl _ _⟩
        clear hX
        go_simp
        all_goals try go_bits
        all_goals try simp only [IntWalk.iteOmega]
        all_goals try go_bits
        all_goals rfl
      · refine step_intro rfl rfl fun ρ X hc hf hgl hX hp ho => ?_
        change StepOk _ { dst := _, op := Op.call { callee := Callee.value (Operand.func 27), args := #[Operand.tmp 12, Operand.tmp 14], argTypes := #[25, 9] }, type := _, pos := _, after := _, guard := _ } _ _ _
        have k12 : ρ (.tmp 12) = ?vr00 := hp 0 (by decide)
        have k14 : ρ (.tmp 14) = ?vr02 := hp 2 (by decide)
        clear hp ho
        have HC := NCreate a X
        unfold sv at HC
        rw [Hsa.out] at HC
        refine StepOk.of_call (f := 27) (args := #[.pointer none, .string sa]) (w' := X) ?_ HC ?_
        · go_simp
          all_goals rfl
        · rintro e w' ⟨v, rfl, hF, hG⟩
          exact ⟨v, rfl, hF, hG⟩
      · refine step_intro rfl rfl fun ρ X hc hf hgl hX hp ho => ?_
        change StepOk _ { dst := _, op := Op.fieldAddr 39 (Operand.tmp 3) 1, type := _, pos := _, after := _, guard := _ } _ _ _
        have k3 : ρ (.tmp 3) = .pointer (some ⟨g, 0, none⟩) := ho 3 (by decide)
        clear hp ho
        refine StepOk.of_run (v := ?vr04) (w' := X) ?_ ⟨rfl, Below.refl _ _⟩
        clear hX
        go_simp
        all_goals try go_bits
        all_goals try simp only [IntWalk.iteOmega]
        all_goals try go_bits
        all_goals rfl
      · refine step_intro rfl rfl fun ρ X hc hf hgl hX hp ho => ?_
        change StepOk _ { dst := _, op := Op.load 9 (Operand.tmp 16), type := _, pos := _, after := _, guard := _ } _ _ _
        have k16 : ρ (.tmp 16) = ?vr04 := hp 4 (by decide)
        have d0X := Grows.cell' hX d0
        have d1X := Grows.cell' hX d1
        have d2X := Grows.cell' hX d2
        have d3X := Grows.cell' hX d3
        have d4X := Grows.cell' hX d4
        have d5X := Grows.cell' hX d5
        clear hp ho
        refine StepOk.of_run (v := ?vr05) (w' := X) ?_ ⟨rfl, Below.refl _ _⟩
        clear hX
        go_simp
        all_goals try go_bits
        all_goals try simp only [IntWalk.iteOmega]
        all_goals try go_bits
        all_goals rfl
      · refine step_intro rfl rfl fun ρ X hc hf hgl hX hp ho => ?_
        change StepOk _ { dst := _, op := Op.call { callee := Callee.value (Operand.func 12), args := #[Operand.tmp 15, Operand.const (Value.string { data := #[99, 114, 101, 97, 116, 101] }), Operand.tmp 17], argTypes := #[27, 9, 9] }, type := _, pos := _, after := _, guard := _ } _ _ _
        have k15 := hp 3 (by decide)
        have k17 : ρ (.tmp 17) = ?vr05 := hp 5 (by decide)
        clear hp ho
        have HC := pTold (ρ (.tmp 15)) opCreate a 7 X (Hek.out.grows (Grows.trans' HG1.out hX)) k15 (by omega)
        unfold sv at HC
        rw [Hsa.out] at HC
        unfold opCreate at HC
        refine StepOk.of_call (f := 12) (args := #[ρ (.tmp 15), .string { data := #[99, 114, 101, 97, 116, 101] }, .string sa]) (w' := X) ?_ HC ?_
        · go_simp
          all_goals rfl
        · rintro e w' ⟨rfl, hG⟩
          exact ⟨_, rfl, rfl, hG⟩
      · refine step_intro rfl rfl fun ρ X hc hf hgl hX hp ho => ?_
        change StepOk _ { dst := _, op := Op.assign (Operand.tmp 18), type := _, pos := _, after := _, guard := _ } _ _ _
        have k18 : ρ (.tmp 18) = (.int .i64 7) := hp 6 (by decide)
        clear hp ho
        refine StepOk.of_run (v := ?vr07) (w' := X) ?_ ⟨rfl, Below.refl _ _⟩
        clear hX
        go_simp
        all_goals try go_bits
        all_goals try simp only [IntWalk.iteOmega]
        all_goals try go_bits
        all_goals rfl
      · refine step_intro rfl rfl fun ρ X hc hf hgl hX hp ho => ?_
        change StepOk _ { dst := _, op := Op.assign (Operand.const (Value.string { data := #[] })), type := _, pos := _, after := _, guard := _ } _ _ _
        clear hp ho
        refine StepOk.of_run (v := ?vr08) (w' := X) ?_ ⟨rfl, Below.refl _ _⟩
        clear hX
        go_simp
        all_goals try go_bits
        all_goals try simp only [IntWalk.iteOmega]
        all_goals try go_bits
        all_goals rfl
    case grdr0 => rfl
    case rstr0 =>
      intro a0 X hb
      obtain ⟨x15, hx15⟩ : ∃ x, a0.tmps.getD 15 undef = x := ⟨_, rfl⟩
      have p15 := hb.done' 3 15 rfl rfl
      rw [hx15] at p15
      have hfr := hb.frame ((4, ?vr07) :: (5, ?vr08) :: (12, ?vr00) :: (13, ?vr01) :: (14, ?vr02) :: (15, x15) :: (16, ?vr04) :: (17, ?vr05) :: (18, (.int .i64 7)) :: []) rfl ⟨hb.done' 7 4 rfl rfl, hb.done' 8 5 rfl rfl, hb.done' 0 12 rfl rfl, hb.done' 1 13 rfl rfl, hb.done' 2 14 rfl rfl, hx15, hb.done' 4 16 rfl rfl, hb.done' 5 17 rfl rfl, hb.done' 6 18 rfl rfl, trivial⟩
      simp only [updL, ↓reduceIte, Nat.reduceEqDiff, Nat.reduceAdd, Nat.zero_add] at hfr
      have HX := Lib.hid hb.ext
      clear hb
      subst hfr
      have HGX := Lib.hid (Grows.trans' HG1.out HX.out)
      clear d0 d1 d2 d3 d4 d5 HX
      go_wp2
      go_ret2
      exact ⟨_, rfl, fun _ _ => rfl, HGX.out⟩
  have e0 : (kd == 0) = false := by simpa using h0
  by_cases h1 : kd = 1
  · subst h1
    clear h0 e0
    go_enter Tryz.func13, Tryz.ntmps13
    go_wp2_with (first | (refine wpList_boxT rfl 39 _ rfl C rfl ?_; rw [Hg.out, Hw1.out]) | fail)
    refine specs_region
      #[[], [], [1], [0, 1, 2], [], [4], [0, 1, 2, 3, 4, 5], [0, 1, 2, 3, 4, 5, 6], [0, 1, 2, 3, 4, 5, 6, 7]] #[[0], [3], [], [], [3], [], [], [], []] #[true, true, true, true, true, true, true, true, true]
      ((.val ?vr10) :: (.val ?vr11) :: (.val ?vr12) :: (.pred (fun v W => IsFault W v opRemove a 7) (fun v a b g h => IsFault.grows h g)) :: (.val ?vr14) :: (.val ?vr15) :: (.val (.int .i64 7)) :: (.val ?vr17) :: (.val ?vr18) :: []).toArray
      hmx ?chkr1 ?grdr1 ?stpr1 ?rstr1
    case chkr1 => rfl
    case stpr1 =>
      refine ⟨?_, ?_, ?_, ?_, ?_, ?_, ?_, ?_, ?_, trivial⟩
      · refine step_intro rfl rfl fun ρ X hc hf hgl hX hp ho => ?_
        change StepOk _ { dst := _, op := Op.move (Operand.tmp 0), type := _, pos := _, after := _, guard := _ } _ _ _
        have k0 : ρ (.tmp 0) = .pointer none := ho 0 (by decide)
        clear hp ho
        refine StepOk.of_run (v := ?vr10) (w' := X) ?_ ⟨rfl, Below.refl _ _⟩
        clear hX
        go_simp
        all_goals try go_bits
        all_goals try simp only [IntWalk.iteOmega]
        all_goals try go_bits
        all_goals rfl
      · refine step_intro rfl rfl fun ρ X hc hf hgl hX hp ho => ?_
        change StepOk _ { dst := _, op := Op.fieldAddr 39 (Operand.tmp 3) 1, type := _, pos := _, after := _, guard := _ } _ _ _
        have k3 : ρ (.tmp 3) = .pointer (some ⟨g, 0, none⟩) := ho 3 (by decide)
        clear hp ho
        refine StepOk.of_run (v := ?vr11) (w' := X) ?_ ⟨rfl, Below.refl _ _⟩
        clear hX
        go_simp
        all_goals try go_bits
        all_goals try simp only [IntWalk.iteOmega]
        all_goals try go_bits
        all_goals rfl
      · refine step_intro rfl rfl fun ρ X hc hf hgl hX hp ho => ?_
        change StepOk _ { dst := _, op := Op.load 9 (Operand.tmp 22), type := _, pos := _, after := _, guard := _ } _ _ _
        have k22 : ρ (.tmp 22) = ?vr11 := hp 1 (by decide)
        have d0X := Grows.cell' hX d0
        have d1X := Grows.cell' hX d1
        have d2X := Grows.cell' hX d2
        have d3X := Grows.cell' hX d3
        have d4X := Grows.cell' hX d4
        have d5X := Grows.cell' hX d5
        clear hp ho
        refine StepOk.of_run (v := ?vr12) (w' := X) ?_ ⟨rfl, Below.refl _ _⟩
        clear hX
        go_simp
        all_goals try go_bits
        all_goals try simp only [IntWalk.iteOmega]
        all_goals try go_bits
        all_goals rfl
      · refine step_intro rfl rfl fun ρ X hc hf hgl hX hp ho => ?_
        change StepOk _ { dst := _, op := Op.call { callee := Callee.value (Operand.func 33), args := #[Operand.tmp 21, Operand.tmp 23], argTypes := #[25, 9] }, type := _, pos := _, after := _, guard := _ } _ _ _
        have k21 : ρ (.tmp 21) = ?vr10 := hp 0 (by decide)
        have k23 : ρ (.tmp 23) = ?vr12 := hp 2 (by decide)
        clear hp ho
        have HC := NRemove a X
        unfold sv at HC
        rw [Hsa.out] at HC
        refine StepOk.of_call (f := 33) (args := #[.pointer none, .string sa]) (w' := X) ?_ HC ?_
        · go_simp
          all_goals rfl
        · rintro e w' ⟨v, rfl, hF, hG⟩
          exact ⟨v, rfl, hF, hG⟩
      · refine step_intro rfl rfl fun ρ X hc hf hgl hX hp ho => ?_
        change StepOk _ { dst := _, op := Op.fieldAddr 39 (Operand.tmp 3) 1, type := _, pos := _, after := _, guard := _ } _ _ _
        have k3 : ρ (.tmp 3) = .pointer (some ⟨g, 0, none⟩) := ho 3 (by decide)
        clear hp ho
        refine StepOk.of_run (v := ?vr14) (w' := X) ?_ ⟨rfl, Below.refl _ _⟩
        clear hX
        go_simp
        all_goals try go_bits
        all_goals try simp only [IntWalk.iteOmega]
        all_goals try go_bits
        all_goals rfl
      · refine step_intro rfl rfl fun ρ X hc hf hgl hX hp ho => ?_
        change StepOk _ { dst := _, op := Op.load 9 (Operand.tmp 25), type := _, pos := _, after := _, guard := _ } _ _ _
        have k25 : ρ (.tmp 25) = ?vr14 := hp 4 (by decide)
        have d0X := Grows.cell' hX d0
        have d1X := Grows.cell' hX d1
        have d2X := Grows.cell' hX d2
        have d3X := Grows.cell' hX d3
        have d4X := Grows.cell' hX d4
        have d5X := Grows.cell' hX d5
        clear hp ho
        refine StepOk.of_run (v := ?vr15) (w' := X) ?_ ⟨rfl, Below.refl _ _⟩
        clear hX
        go_simp
        all_goals try go_bits
        all_goals try simp only [IntWalk.iteOmega]
        all_goals try go_bits
        all_goals rfl
      · refine step_intro rfl rfl fun ρ X hc hf hgl hX hp ho => ?_
        change StepOk _ { dst := _, op := Op.call { callee := Callee.value (Operand.func 12), args := #[Operand.tmp 24, Operand.const (Value.string { data := #[114, 101, 109, 111, 118, 101] }), Operand.tmp 26], argTypes := #[27, 9, 9] }, type := _, pos := _, after := _, guard := _ } _ _ _
        have k24 := hp 3 (by decide)
        have k26 : ρ (.tmp 26) = ?vr15 := hp 5 (by decide)
        clear hp ho
        have HC := pTold (ρ (.tmp 24)) opRemove a 7 X (Hek.out.grows (Grows.trans' HG1.out hX)) k24 (by omega)
        unfold sv at HC
        rw [Hsa.out] at HC
        unfold opRemove at HC
        refine StepOk.of_call (f := 12) (args := #[ρ (.tmp 24), .string { data := #[114, 101, 109, 111, 118, 101] }, .string sa]) (w' := X) ?_ HC ?_
        · go_simp
          all_goals rfl
        · rintro e w' ⟨rfl, hG⟩
          exact ⟨_, rfl, rfl, hG⟩
      · refine step_intro rfl rfl fun ρ X hc hf hgl hX hp ho => ?_
        change StepOk _ { dst := _, op := Op.assign (Operand.tmp 27), type := _, pos := _, after := _, guard := _ } _ _ _
        have k27 : ρ (.tmp 27) = (.int .i64 7) := hp 6 (by decide)
        clear hp ho
        refine StepOk.of_run (v := ?vr17) (w' := X) ?_ ⟨rfl, Below.refl _ _⟩
        clear hX
        go_simp
        all_goals try go_bits
        all_goals try simp only [IntWalk.iteOmega]
        all_goals try go_bits
        all_goals rfl
      · refine step_intro rfl rfl fun ρ X hc hf hgl hX hp ho => ?_
        change StepOk _ { dst := _, op := Op.assign (Operand.const (Value.string { data := #[] })), type := _, pos := _, after := _, guard := _ } _ _ _
        clear hp ho
        refine StepOk.of_run (v := ?vr18) (w' := X) ?_ ⟨rfl, Below.refl _ _⟩
        clear hX
        go_simp
        all_goals try go_bits
        all_goals try simp only [IntWalk.iteOmega]
        all_goals try go_bits
        all_goals rfl
    case grdr1 => rfl
    case rstr1 =>
      intro a0 X hb
      obtain ⟨x24, hx24⟩ : ∃ x, a0.tmps.getD 24 undef = x := ⟨_, rfl⟩
      have p24 := hb.done' 3 24 rfl rfl
      rw [hx24] at p24
      have hfr := hb.frame ((4, ?vr17) :: (5, ?vr18) :: (21, ?vr10) :: (22, ?vr11) :: (23, ?vr12) :: (24, x24) :: (25, ?vr14) :: (26, ?vr15) :: (27, (.int .i64 7)) :: []) rfl ⟨hb.done' 7 4 rfl rfl, hb.done' 8 5 rfl rfl, hb.done' 0 21 rfl rfl, hb.done' 1 22 rfl rfl, hb.done' 2 23 rfl rfl, hx24, hb.done' 4 25 rfl rfl, hb.done' 5 26 rfl rfl, hb.done' 6 27 rfl rfl, trivial⟩
      simp only [updL, ↓reduceIte, Nat.reduceEqDiff, Nat.reduceAdd, Nat.zero_add] at hfr
      have HX := Lib.hid hb.ext
      clear hb
      subst hfr
      have HGX := Lib.hid (Grows.trans' HG1.out HX.out)
      clear d0 d1 d2 d3 d4 d5 HX
      go_wp2
      go_ret2
      exact ⟨_, rfl, fun _ _ => rfl, HGX.out⟩
  have e1 : (kd == 1) = false := by simpa using h1
  by_cases h2 : kd = 2
  · subst h2
    clear h0 e0 h1 e1
    go_enter Tryz.func13, Tryz.ntmps13
    go_wp2_with (first | (refine wpList_boxT rfl 39 _ rfl C rfl ?_; rw [Hg.out, Hw1.out]) | fail)
    refine specs_region
      #[[], [], [1], [], [3], [0, 1, 2, 3, 4], [], [6], [0, 1, 2, 3, 4, 5, 6, 7], [0, 1, 2, 3, 4, 5, 6, 7, 8], [0, 1, 2, 3, 4, 5, 6, 7, 8, 9]] #[[0], [3], [], [3], [], [], [3], [], [], [], []] #[true, true, true, true, true, true, true, true, true, true, true]
      ((.val ?vr20) :: (.val ?vr21) :: (.val ?vr22) :: (.val ?vr23) :: (.val ?vr24) :: (.pred (fun v W => IsFault W v opRename a 7) (fun v a b g h => IsFault.grows h g)) :: (.val ?vr26) :: (.val ?vr27) :: (.val (.int .i64 7)) :: (.val ?vr29) :: (.val ?vr210) :: []).toArray
      hmx ?chkr2 ?grdr2 ?stpr2 ?rstr2
    case chkr2 => rfl
    case stpr2 =>
      refine ⟨?_, ?_, ?_, ?_, ?_, ?_, ?_, ?_, ?_, ?_, ?_, trivial⟩
      · refine step_intro rfl rfl fun ρ X hc hf hgl hX hp ho => ?_
        change StepOk _ { dst := _, op := Op.move (Operand.tmp 0), type := _, pos := _, after := _, guard := _ } _ _ _
        have k0 : ρ (.tmp 0) = .pointer none := ho 0 (by decide)
        clear hp ho
        refine StepOk.of_run (v := ?vr20) (w' := X) ?_ ⟨rfl, Below.refl _ _⟩
        clear hX
        go_simp
        all_goals try go_bits
        all_goals try simp only [IntWalk.iteOmega]
        all_goals try go_bits
        all_goals rfl
      · refine step_intro rfl rfl fun ρ X hc hf hgl hX hp ho => ?_
        change StepOk _ { dst := _, op := Op.fieldAddr 39 (Operand.tmp 3) 1, type := _, pos := _, after := _, guard := _ } _ _ _
        have k3 : ρ (.tmp 3) = .pointer (some ⟨g, 0, none⟩) := ho 3 (by decide)
        clear hp ho
        refine StepOk.of_run (v := ?vr21) (w' := X) ?_ ⟨rfl, Below.refl _ _⟩
        clear hX
        go_simp
        all_goals try go_bits
        all_goals try simp only [IntWalk.iteOmega]
        all_goals try go_bits
        all_goals rfl
      · refine step_intro rfl rfl fun ρ X hc hf hgl hX hp ho => ?_
        change StepOk _ { dst := _, op := Op.load 9 (Operand.tmp 31), type := _, pos := _, after := _, guard := _ } _ _ _
        have k31 : ρ (.tmp 31) = ?vr21 := hp 1 (by decide)
        have d0X := Grows.cell' hX d0
        have d1X := Grows.cell' hX d1
        have d2X := Grows.cell' hX d2
        have d3X := Grows.cell' hX d3
        have d4X := Grows.cell' hX d4
        have d5X := Grows.cell' hX d5
        clear hp ho
        refine StepOk.of_run (v := ?vr22) (w' := X) ?_ ⟨rfl, Below.refl _ _⟩
        clear hX
        go_simp
        all_goals try go_bits
        all_goals try simp only [IntWalk.iteOmega]
        all_goals try go_bits
        all_goals rfl
      · refine step_intro rfl rfl fun ρ X hc hf hgl hX hp ho => ?_
        change StepOk _ { dst := _, op := Op.fieldAddr 39 (Operand.tmp 3) 2, type := _, pos := _, after := _, guard := _ } _ _ _
        have k3 : ρ (.tmp 3) = .pointer (some ⟨g, 0, none⟩) := ho 3 (by decide)
        clear hp ho
        refine StepOk.of_run (v := ?vr23) (w' := X) ?_ ⟨rfl, Below.refl _ _⟩
        clear hX
        go_simp
        all_goals try go_bits
        all_goals try simp only [IntWalk.iteOmega]
        all_goals try go_bits
        all_goals rfl
      · refine step_intro rfl rfl fun ρ X hc hf hgl hX hp ho => ?_
        change StepOk _ { dst := _, op := Op.load 9 (Operand.tmp 33), type := _, pos := _, after := _, guard := _ } _ _ _
        have k33 : ρ (.tmp 33) = ?vr23 := hp 3 (by decide)
        have d0X := Grows.cell' hX d0
        have d1X := Grows.cell' hX d1
        have d2X := Grows.cell' hX d2
        have d3X := Grows.cell' hX d3
        have d4X := Grows.cell' hX d4
        have d5X := Grows.cell' hX d5
        clear hp ho
        refine StepOk.of_run (v := ?vr24) (w' := X) ?_ ⟨rfl, Below.refl _ _⟩
        clear hX
        go_simp
        all_goals try go_bits
        all_goals try simp only [IntWalk.iteOmega]
        all_goals try go_bits
        all_goals rfl
      · refine step_intro rfl rfl fun ρ X hc hf hgl hX hp ho => ?_
        change StepOk _ { dst := _, op := Op.call { callee := Callee.value (Operand.func 38), args := #[Operand.tmp 30, Operand.tmp 32, Operand.tmp 34], argTypes := #[25, 9, 9] }, type := _, pos := _, after := _, guard := _ } _ _ _
        have k30 : ρ (.tmp 30) = ?vr20 := hp 0 (by decide)
        have k32 : ρ (.tmp 32) = ?vr22 := hp 2 (by decide)
        have k34 : ρ (.tmp 34) = ?vr24 := hp 4 (by decide)
        clear hp ho
        have HC := NRename a b X
        unfold sv at HC
        rw [Hsa.out] at HC
        rw [Hsb.out] at HC
        refine StepOk.of_call (f := 38) (args := #[.pointer none, .string sa, .string sb]) (w' := X) ?_ HC ?_
        · go_simp
          all_goals rfl
        · rintro e w' ⟨v, rfl, hF, hG⟩
          exact ⟨v, rfl, hF, hG⟩
      · refine step_intro rfl rfl fun ρ X hc hf hgl hX hp ho => ?_
        change StepOk _ { dst := _, op := Op.fieldAddr 39 (Operand.tmp 3) 1, type := _, pos := _, after := _, guard := _ } _ _ _
        have k3 : ρ (.tmp 3) = .pointer (some ⟨g, 0, none⟩) := ho 3 (by decide)
        clear hp ho
        refine StepOk.of_run (v := ?vr26) (w' := X) ?_ ⟨rfl, Below.refl _ _⟩
        clear hX
        go_simp
        all_goals try go_bits
        all_goals try simp only [IntWalk.iteOmega]
        all_goals try go_bits
        all_goals rfl
      · refine step_intro rfl rfl fun ρ X hc hf hgl hX hp ho => ?_
        change StepOk _ { dst := _, op := Op.load 9 (Operand.tmp 36), type := _, pos := _, after := _, guard := _ } _ _ _
        have k36 : ρ (.tmp 36) = ?vr26 := hp 6 (by decide)
        have d0X := Grows.cell' hX d0
        have d1X := Grows.cell' hX d1
        have d2X := Grows.cell' hX d2
        have d3X := Grows.cell' hX d3
        have d4X := Grows.cell' hX d4
        have d5X := Grows.cell' hX d5
        clear hp ho
        refine StepOk.of_run (v := ?vr27) (w' := X) ?_ ⟨rfl, Below.refl _ _⟩
        clear hX
        go_simp
        all_goals try go_bits
        all_goals try simp only [IntWalk.iteOmega]
        all_goals try go_bits
        all_goals rfl
      · refine step_intro rfl rfl fun ρ X hc hf hgl hX hp ho => ?_
        change StepOk _ { dst := _, op := Op.call { callee := Callee.value (Operand.func 12), args := #[Operand.tmp 35, Operand.const (Value.string { data := #[114, 101, 110, 97, 109, 101] }), Operand.tmp 37], argTypes := #[27, 9, 9] }, type := _, pos := _, after := _, guard := _ } _ _ _
        have k35 := hp 5 (by decide)
        have k37 : ρ (.tmp 37) = ?vr27 := hp 7 (by decide)
        clear hp ho
        have HC := pTold (ρ (.tmp 35)) opRename a 7 X (Hek.out.grows (Grows.trans' HG1.out hX)) k35 (by omega)
        unfold sv at HC
        rw [Hsa.out] at HC
        unfold opRename at HC
        refine StepOk.of_call (f := 12) (args := #[ρ (.tmp 35), .string { data := #[114, 101, 110, 97, 109, 101] }, .string sa]) (w' := X) ?_ HC ?_
        · go_simp
          all_goals rfl
        · rintro e w' ⟨rfl, hG⟩
          exact ⟨_, rfl, rfl, hG⟩
      · refine step_intro rfl rfl fun ρ X hc hf hgl hX hp ho => ?_
        change StepOk _ { dst := _, op := Op.assign (Operand.tmp 38), type := _, pos := _, after := _, guard := _ } _ _ _
        have k38 : ρ (.tmp 38) = (.int .i64 7) := hp 8 (by decide)
        clear hp ho
        refine StepOk.of_run (v := ?vr29) (w' := X) ?_ ⟨rfl, Below.refl _ _⟩
        clear hX
        go_simp
        all_goals try go_bits
        all_goals try simp only [IntWalk.iteOmega]
        all_goals try go_bits
        all_goals rfl
      · refine step_intro rfl rfl fun ρ X hc hf hgl hX hp ho => ?_
        change StepOk _ { dst := _, op := Op.assign (Operand.const (Value.string { data := #[] })), type := _, pos := _, after := _, guard := _ } _ _ _
        clear hp ho
        refine StepOk.of_run (v := ?vr210) (w' := X) ?_ ⟨rfl, Below.refl _ _⟩
        clear hX
        go_simp
        all_goals try go_bits
        all_goals try simp only [IntWalk.iteOmega]
        all_goals try go_bits
        all_goals rfl
    case grdr2 => rfl
    case rstr2 =>
      intro a0 X hb
      obtain ⟨x35, hx35⟩ : ∃ x, a0.tmps.getD 35 undef = x := ⟨_, rfl⟩
      have p35 := hb.done' 5 35 rfl rfl
      rw [hx35] at p35
      have hfr := hb.frame ((4, ?vr29) :: (5, ?vr210) :: (30, ?vr20) :: (31, ?vr21) :: (32, ?vr22) :: (33, ?vr23) :: (34, ?vr24) :: (35, x35) :: (36, ?vr26) :: (37, ?vr27) :: (38, (.int .i64 7)) :: []) rfl ⟨hb.done' 9 4 rfl rfl, hb.done' 10 5 rfl rfl, hb.done' 0 30 rfl rfl, hb.done' 1 31 rfl rfl, hb.done' 2 32 rfl rfl, hb.done' 3 33 rfl rfl, hb.done' 4 34 rfl rfl, hx35, hb.done' 6 36 rfl rfl, hb.done' 7 37 rfl rfl, hb.done' 8 38 rfl rfl, trivial⟩
      simp only [updL, ↓reduceIte, Nat.reduceEqDiff, Nat.reduceAdd, Nat.zero_add] at hfr
      have HX := Lib.hid hb.ext
      clear hb
      subst hfr
      have HGX := Lib.hid (Grows.trans' HG1.out HX.out)
      clear d0 d1 d2 d3 d4 d5 HX
      go_wp2
      go_ret2
      exact ⟨_, rfl, fun _ _ => rfl, HGX.out⟩
  have e2 : (kd == 2) = false := by simpa using h2
  by_cases h3 : kd = 3
  · subst h3
    clear h0 e0 h1 e1 h2 e2
    go_enter Tryz.func13, Tryz.ntmps13
    go_wp2_with (first | (refine wpList_boxT rfl 39 _ rfl C rfl ?_; rw [Hg.out, Hw1.out]) | fail)
    refine specs_region
      #[[], [], [1], [], [3], [0, 1, 2, 3, 4], [], [6], [0, 1, 2, 3, 4, 5, 6, 7], [0, 1, 2, 3, 4, 5, 6, 7, 8], [0, 1, 2, 3, 4, 5, 6, 7, 8, 9]] #[[0], [3], [], [3], [], [], [3], [], [], [], []] #[true, true, true, true, true, true, true, true, true, true, true]
      ((.val ?vr30) :: (.val ?vr31) :: (.val ?vr32) :: (.val ?vr33) :: (.val ?vr34) :: (.pred (fun v W => IsFault W v opGrow a 7) (fun v a b g h => IsFault.grows h g)) :: (.val ?vr36) :: (.val ?vr37) :: (.val (.int .i64 7)) :: (.val ?vr39) :: (.val ?vr310) :: []).toArray
      hmx ?chkr3 ?grdr3 ?stpr3 ?rstr3
    case chkr3 => rfl
    case stpr3 =>
      refine ⟨?_, ?_, ?_, ?_, ?_, ?_, ?_, ?_, ?_, ?_, ?_, trivial⟩
      · refine step_intro rfl rfl fun ρ X hc hf hgl hX hp ho => ?_
        change StepOk _ { dst := _, op := Op.move (Operand.tmp 0), type := _, pos := _, after := _, guard := _ } _ _ _
        have k0 : ρ (.tmp 0) = .pointer none := ho 0 (by decide)
        clear hp ho
        refine StepOk.of_run (v := ?vr30) (w' := X) ?_ ⟨rfl, Below.refl _ _⟩
        clear hX
        go_simp
        all_goals try go_bits
        all_goals try simp only [IntWalk.iteOmega]
        all_goals try go_bits
        all_goals rfl
      · refine step_intro rfl rfl fun ρ X hc hf hgl hX hp ho => ?_
        change StepOk _ { dst := _, op := Op.fieldAddr 39 (Operand.tmp 3) 1, type := _, pos := _, after := _, guard := _ } _ _ _
        have k3 : ρ (.tmp 3) = .pointer (some ⟨g, 0, none⟩) := ho 3 (by decide)
        clear hp ho
        refine StepOk.of_run (v := ?vr31) (w' := X) ?_ ⟨rfl, Below.refl _ _⟩
        clear hX
        go_simp
        all_goals try go_bits
        all_goals try simp only [IntWalk.iteOmega]
        all_goals try go_bits
        all_goals rfl
      · refine step_intro rfl rfl fun ρ X hc hf hgl hX hp ho => ?_
        change StepOk _ { dst := _, op := Op.load 9 (Operand.tmp 42), type := _, pos := _, after := _, guard := _ } _ _ _
        have k42 : ρ (.tmp 42) = ?vr31 := hp 1 (by decide)
        have d0X := Grows.cell' hX d0
        have d1X := Grows.cell' hX d1
        have d2X := Grows.cell' hX d2
        have d3X := Grows.cell' hX d3
        have d4X := Grows.cell' hX d4
        have d5X := Grows.cell' hX d5
        clear hp ho
        refine StepOk.of_run (v := ?vr32) (w' := X) ?_ ⟨rfl, Below.refl _ _⟩
        clear hX
        go_simp
        all_goals try go_bits
        all_goals try simp only [IntWalk.iteOmega]
        all_goals try go_bits
        all_goals rfl
      · refine step_intro rfl rfl fun ρ X hc hf hgl hX hp ho => ?_
        change StepOk _ { dst := _, op := Op.fieldAddr 39 (Operand.tmp 3) 3, type := _, pos := _, after := _, guard := _ } _ _ _
        have k3 : ρ (.tmp 3) = .pointer (some ⟨g, 0, none⟩) := ho 3 (by decide)
        clear hp ho
        refine StepOk.of_run (v := ?vr33) (w' := X) ?_ ⟨rfl, Below.refl _ _⟩
        clear hX
        go_simp
        all_goals try go_bits
        all_goals try simp only [IntWalk.iteOmega]
        all_goals try go_bits
        all_goals rfl
      · refine step_intro rfl rfl fun ρ X hc hf hgl hX hp ho => ?_
        change StepOk _ { dst := _, op := Op.load 3 (Operand.tmp 44), type := _, pos := _, after := _, guard := _ } _ _ _
        have k44 : ρ (.tmp 44) = ?vr33 := hp 3 (by decide)
        have d0X := Grows.cell' hX d0
        have d1X := Grows.cell' hX d1
        have d2X := Grows.cell' hX d2
        have d3X := Grows.cell' hX d3
        have d4X := Grows.cell' hX d4
        have d5X := Grows.cell' hX d5
        clear hp ho
        refine StepOk.of_run (v := ?vr34) (w' := X) ?_ ⟨rfl, Below.refl _ _⟩
        clear hX
        go_simp
        all_goals try go_bits
        all_goals try simp only [IntWalk.iteOmega]
        all_goals try go_bits
        all_goals rfl
      · refine step_intro rfl rfl fun ρ X hc hf hgl hX hp ho => ?_
        change StepOk _ { dst := _, op := Op.call { callee := Callee.value (Operand.func 29), args := #[Operand.tmp 41, Operand.tmp 43, Operand.tmp 45], argTypes := #[25, 9, 3] }, type := _, pos := _, after := _, guard := _ } _ _ _
        have k41 : ρ (.tmp 41) = ?vr30 := hp 0 (by decide)
        have k43 : ρ (.tmp 43) = ?vr32 := hp 2 (by decide)
        have k45 : ρ (.tmp 45) = ?vr34 := hp 4 (by decide)
        clear hp ho
        have HC := NGrow a n X
        unfold sv at HC
        rw [Hsa.out] at HC
        refine StepOk.of_call (f := 29) (args := #[.pointer none, .string sa, .int .i64 n]) (w' := X) ?_ HC ?_
        · go_simp
          all_goals rfl
        · rintro e w' ⟨v, rfl, hF, hG⟩
          exact ⟨v, rfl, hF, hG⟩
      · refine step_intro rfl rfl fun ρ X hc hf hgl hX hp ho => ?_
        change StepOk _ { dst := _, op := Op.fieldAddr 39 (Operand.tmp 3) 1, type := _, pos := _, after := _, guard := _ } _ _ _
        have k3 : ρ (.tmp 3) = .pointer (some ⟨g, 0, none⟩) := ho 3 (by decide)
        clear hp ho
        refine StepOk.of_run (v := ?vr36) (w' := X) ?_ ⟨rfl, Below.refl _ _⟩
        clear hX
        go_simp
        all_goals try go_bits
        all_goals try simp only [IntWalk.iteOmega]
        all_goals try go_bits
        all_goals rfl
      · refine step_intro rfl rfl fun ρ X hc hf hgl hX hp ho => ?_
        change StepOk _ { dst := _, op := Op.load 9 (Operand.tmp 47), type := _, pos := _, after := _, guard := _ } _ _ _
        have k47 : ρ (.tmp 47) = ?vr36 := hp 6 (by decide)
        have d0X := Grows.cell' hX d0
        have d1X := Grows.cell' hX d1
        have d2X := Grows.cell' hX d2
        have d3X := Grows.cell' hX d3
        have d4X := Grows.cell' hX d4
        have d5X := Grows.cell' hX d5
        clear hp ho
        refine StepOk.of_run (v := ?vr37) (w' := X) ?_ ⟨rfl, Below.refl _ _⟩
        clear hX
        go_simp
        all_goals try go_bits
        all_goals try simp only [IntWalk.iteOmega]
        all_goals try go_bits
        all_goals rfl
      · refine step_intro rfl rfl fun ρ X hc hf hgl hX hp ho => ?_
        change StepOk _ { dst := _, op := Op.call { callee := Callee.value (Operand.func 12), args := #[Operand.tmp 46, Operand.const (Value.string { data := #[103, 114, 111, 119] }), Operand.tmp 48], argTypes := #[27, 9, 9] }, type := _, pos := _, after := _, guard := _ } _ _ _
        have k46 := hp 5 (by decide)
        have k48 : ρ (.tmp 48) = ?vr37 := hp 7 (by decide)
        clear hp ho
        have HC := pTold (ρ (.tmp 46)) opGrow a 7 X (Hek.out.grows (Grows.trans' HG1.out hX)) k46 (by omega)
        unfold sv at HC
        rw [Hsa.out] at HC
        unfold opGrow at HC
        refine StepOk.of_call (f := 12) (args := #[ρ (.tmp 46), .string { data := #[103, 114, 111, 119] }, .string sa]) (w' := X) ?_ HC ?_
        · go_simp
          all_goals rfl
        · rintro e w' ⟨rfl, hG⟩
          exact ⟨_, rfl, rfl, hG⟩
      · refine step_intro rfl rfl fun ρ X hc hf hgl hX hp ho => ?_
        change StepOk _ { dst := _, op := Op.assign (Operand.tmp 49), type := _, pos := _, after := _, guard := _ } _ _ _
        have k49 : ρ (.tmp 49) = (.int .i64 7) := hp 8 (by decide)
        clear hp ho
        refine StepOk.of_run (v := ?vr39) (w' := X) ?_ ⟨rfl, Below.refl _ _⟩
        clear hX
        go_simp
        all_goals try go_bits
        all_goals try simp only [IntWalk.iteOmega]
        all_goals try go_bits
        all_goals rfl
      · refine step_intro rfl rfl fun ρ X hc hf hgl hX hp ho => ?_
        change StepOk _ { dst := _, op := Op.assign (Operand.const (Value.string { data := #[] })), type := _, pos := _, after := _, guard := _ } _ _ _
        clear hp ho
        refine StepOk.of_run (v := ?vr310) (w' := X) ?_ ⟨rfl, Below.refl _ _⟩
        clear hX
        go_simp
        all_goals try go_bits
        all_goals try simp only [IntWalk.iteOmega]
        all_goals try go_bits
        all_goals rfl
    case grdr3 => rfl
    case rstr3 =>
      intro a0 X hb
      obtain ⟨x46, hx46⟩ : ∃ x, a0.tmps.getD 46 undef = x := ⟨_, rfl⟩
      have p46 := hb.done' 5 46 rfl rfl
      rw [hx46] at p46
      have hfr := hb.frame ((4, ?vr39) :: (5, ?vr310) :: (41, ?vr30) :: (42, ?vr31) :: (43, ?vr32) :: (44, ?vr33) :: (45, ?vr34) :: (46, x46) :: (47, ?vr36) :: (48, ?vr37) :: (49, (.int .i64 7)) :: []) rfl ⟨hb.done' 9 4 rfl rfl, hb.done' 10 5 rfl rfl, hb.done' 0 41 rfl rfl, hb.done' 1 42 rfl rfl, hb.done' 2 43 rfl rfl, hb.done' 3 44 rfl rfl, hb.done' 4 45 rfl rfl, hx46, hb.done' 6 47 rfl rfl, hb.done' 7 48 rfl rfl, hb.done' 8 49 rfl rfl, trivial⟩
      simp only [updL, ↓reduceIte, Nat.reduceEqDiff, Nat.reduceAdd, Nat.zero_add] at hfr
      have HX := Lib.hid hb.ext
      clear hb
      subst hfr
      have HGX := Lib.hid (Grows.trans' HG1.out HX.out)
      clear d0 d1 d2 d3 d4 d5 HX
      go_wp2
      go_ret2
      exact ⟨_, rfl, fun _ _ => rfl, HGX.out⟩
  have e3 : (kd == 3) = false := by simpa using h3
  by_cases h4 : kd = 4
  · subst h4
    clear h0 e0 h1 e1 h2 e2 h3 e3
    go_enter Tryz.func13, Tryz.ntmps13
    go_wp2_with (first | (refine wpList_boxT rfl 39 _ rfl C rfl ?_; rw [Hg.out, Hw1.out]) | fail)
    refine specs_region
      #[[], [], [1], [], [3], [], [], [6], [5, 6, 7], [0, 1, 2, 3, 4, 5, 6, 7, 8], [], [10], [0, 1, 2, 3, 4, 5, 6, 7, 8, 9, 10, 11], [0, 1, 2, 3, 4, 5, 6, 7, 8, 9, 10, 11, 12], [0, 1, 2, 3, 4, 5, 6, 7, 8, 9, 10, 11, 12, 13]] #[[0], [3], [], [3], [], [], [3], [], [], [], [3], [], [], [], []] #[true, true, true, true, true, true, true, true, true, true, true, true, true, true, true]
      ((.val ?vr40) :: (.val ?vr41) :: (.val ?vr42) :: (.val ?vr43) :: (.val ?vr44) :: (.pred (fun v W => W.ownsRow w1.heap.size 5 1 v 0 [] ∧ ∃ g, v = .slice (some ⟨g, 0, none⟩) 0 0) (fun v a b g h => ⟨own_grows h.1 g, h.2⟩)) :: (.val ?vr46) :: (.val ?vr47) :: (.pred (fun v W => Own 5 w1.heap.size W v p) (fun v a b g h => own_grows h g)) :: (.pred (fun v W => IsFault W v opWrite a 7) (fun v a b g h => IsFault.grows h g)) :: (.val ?vr410) :: (.val ?vr411) :: (.val (.int .i64 7)) :: (.val ?vr413) :: (.val ?vr414) :: []).toArray
      hmx ?chkr4 ?grdr4 ?stpr4 ?rstr4
    case chkr4 => rfl
    case stpr4 =>
      refine ⟨?_, ?_, ?_, ?_, ?_, ?_, ?_, ?_, ?_, ?_, ?_, ?_, ?_, ?_, ?_, trivial⟩
      · refine step_intro rfl rfl fun ρ X hc hf hgl hX hp ho => ?_
        change StepOk _ { dst := _, op := Op.move (Operand.tmp 0), type := _, pos := _, after := _, guard := _ } _ _ _
        have k0 : ρ (.tmp 0) = .pointer none := ho 0 (by decide)
        clear hp ho
        refine StepOk.of_run (v := ?vr40) (w' := X) ?_ ⟨rfl, Below.refl _ _⟩
        clear hX
        go_simp
        all_goals try go_bits
        all_goals try simp only [IntWalk.iteOmega]
        all_goals try go_bits
        all_goals rfl
      · refine step_intro rfl rfl fun ρ X hc hf hgl hX hp ho => ?_
        change StepOk _ { dst := _, op := Op.fieldAddr 39 (Operand.tmp 3) 1, type := _, pos := _, after := _, guard := _ } _ _ _
        have k3 : ρ (.tmp 3) = .pointer (some ⟨g, 0, none⟩) := ho 3 (by decide)
        clear hp ho
        refine StepOk.of_run (v := ?vr41) (w' := X) ?_ ⟨rfl, Below.refl _ _⟩
        clear hX
        go_simp
        all_goals try go_bits
        all_goals try simp only [IntWalk.iteOmega]
        all_goals try go_bits
        all_goals rfl
      · refine step_intro rfl rfl fun ρ X hc hf hgl hX hp ho => ?_
        change StepOk _ { dst := _, op := Op.load 9 (Operand.tmp 53), type := _, pos := _, after := _, guard := _ } _ _ _
        have k53 : ρ (.tmp 53) = ?vr41 := hp 1 (by decide)
        have d0X := Grows.cell' hX d0
        have d1X := Grows.cell' hX d1
        have d2X := Grows.cell' hX d2
        have d3X := Grows.cell' hX d3
        have d4X := Grows.cell' hX d4
        have d5X := Grows.cell' hX d5
        clear hp ho
        refine StepOk.of_run (v := ?vr42) (w' := X) ?_ ⟨rfl, Below.refl _ _⟩
        clear hX
        go_simp
        all_goals try go_bits
        all_goals try simp only [IntWalk.iteOmega]
        all_goals try go_bits
        all_goals rfl
      · refine step_intro rfl rfl fun ρ X hc hf hgl hX hp ho => ?_
        change StepOk _ { dst := _, op := Op.fieldAddr 39 (Operand.tmp 3) 3, type := _, pos := _, after := _, guard := _ } _ _ _
        have k3 : ρ (.tmp 3) = .pointer (some ⟨g, 0, none⟩) := ho 3 (by decide)
        clear hp ho
        refine StepOk.of_run (v := ?vr43) (w' := X) ?_ ⟨rfl, Below.refl _ _⟩
        clear hX
        go_simp
        all_goals try go_bits
        all_goals try simp only [IntWalk.iteOmega]
        all_goals try go_bits
        all_goals rfl
      · refine step_intro rfl rfl fun ρ X hc hf hgl hX hp ho => ?_
        change StepOk _ { dst := _, op := Op.load 3 (Operand.tmp 55), type := _, pos := _, after := _, guard := _ } _ _ _
        have k55 : ρ (.tmp 55) = ?vr43 := hp 3 (by decide)
        have d0X := Grows.cell' hX d0
        have d1X := Grows.cell' hX d1
        have d2X := Grows.cell' hX d2
        have d3X := Grows.cell' hX d3
        have d4X := Grows.cell' hX d4
        have d5X := Grows.cell' hX d5
        clear hp ho
        refine StepOk.of_run (v := ?vr44) (w' := X) ?_ ⟨rfl, Below.refl _ _⟩
        clear hX
        go_simp
        all_goals try go_bits
        all_goals try simp only [IntWalk.iteOmega]
        all_goals try go_bits
        all_goals rfl
      · refine step_intro rfl rfl fun ρ X hc hf hgl hX hp ho => ?_
        change StepOk _ { dst := _, op := Op.buildSlice 36 0 #[], type := _, pos := _, after := _, guard := _ } _ _ _
        clear hp ho
        refine StepOk.of_run (v := .slice (some ⟨X.heap.size, 0, none⟩) 0 0) (w' := X.alloc (.cells #[] 5)) ?_ ⟨⟨⟨by simp, .inr ⟨X.heap.size, 0, #[], rfl, hX.size, heap_alloc_new X _, Nat.le_refl _, by simp [maxLen], by simp, by simp⟩⟩, _, rfl⟩, Grows.alloc' _ _⟩
        simp [go_sem, execOp, hc]
      · refine step_intro rfl rfl fun ρ X hc hf hgl hX hp ho => ?_
        change StepOk _ { dst := _, op := Op.fieldAddr 39 (Operand.tmp 3) 4, type := _, pos := _, after := _, guard := _ } _ _ _
        have k3 : ρ (.tmp 3) = .pointer (some ⟨g, 0, none⟩) := ho 3 (by decide)
        clear hp ho
        refine StepOk.of_run (v := ?vr46) (w' := X) ?_ ⟨rfl, Below.refl _ _⟩
        clear hX
        go_simp
        all_goals try go_bits
        all_goals try simp only [IntWalk.iteOmega]
        all_goals try go_bits
        all_goals rfl
      · refine step_intro rfl rfl fun ρ X hc hf hgl hX hp ho => ?_
        change StepOk _ { dst := _, op := Op.load 36 (Operand.tmp 58), type := _, pos := _, after := _, guard := _ } _ _ _
        have k58 : ρ (.tmp 58) = ?vr46 := hp 6 (by decide)
        have d0X := Grows.cell' hX d0
        have d1X := Grows.cell' hX d1
        have d2X := Grows.cell' hX d2
        have d3X := Grows.cell' hX d3
        have d4X := Grows.cell' hX d4
        have d5X := Grows.cell' hX d5
        clear hp ho
        refine StepOk.of_run (v := ?vr47) (w' := X) ?_ ⟨rfl, Below.refl _ _⟩
        clear hX
        go_simp
        all_goals try go_bits
        all_goals try simp only [IntWalk.iteOmega]
        all_goals try go_bits
        all_goals rfl
      · refine step_intro rfl rfl fun ρ X hc hf hgl hX hp ho => ?_
        change StepOk _ { dst := _, op := Op.call { callee := Callee.builtin Builtin.append, args := #[Operand.tmp 57, Operand.tmp 59], argTypes := #[36, 36] }, type := _, pos := _, after := _, guard := _ } _ _ _
        have k57 := hp 5 (by decide)
        have k59 : ρ (.tmp 59) = ?vr47 := hp 7 (by decide)
        clear hp ho
        obtain ⟨ho1, g1, e1⟩ := k57
        rw [e1] at ho1
        obtain ⟨v', W', hr, ho', hg'⟩ := run_copyB w1.heap.size X hX.size g1 ho1 _ p (HxA.out.grows hX) Hpl.out
        refine StepOk.of_run (v := v') (w' := W') ?_ ⟨ho', hg'⟩
        simp only [execOp, resolve, invoke, builtin, Sem.run_bind, Sem.run_pure, Result.andThen_ok, List.map_toArray, List.map_cons, List.map_nil, e1, k59, hr]
      · refine step_intro rfl rfl fun ρ X hc hf hgl hX hp ho => ?_
        change StepOk _ { dst := _, op := Op.call { callee := Callee.value (Operand.func 30), args := #[Operand.tmp 52, Operand.tmp 54, Operand.tmp 56, Operand.tmp 60], argTypes := #[25, 9, 3, 36] }, type := _, pos := _, after := _, guard := _ } _ _ _
        have k52 : ρ (.tmp 52) = ?vr40 := hp 0 (by decide)
        have k54 : ρ (.tmp 54) = ?vr42 := hp 2 (by decide)
        have k56 : ρ (.tmp 56) = ?vr44 := hp 4 (by decide)
        have k60 := hp 8 (by decide)
        clear hp ho
        obtain ⟨a60, c60, e60⟩ := own_form (show X.ownsRow w1.heap.size 5 1 (ρ (.tmp 60)) p.length (p.map bv) from k60)
        have HC := NWrite a n a60 p.length c60 X
        unfold sv at HC
        rw [Hsa.out] at HC
        refine StepOk.of_call (f := 30) (args := #[.pointer none, .string sa, .int .i64 n, .slice a60 p.length c60]) (w' := X) ?_ HC ?_
        · go_simp
          all_goals rfl
        · rintro e w' ⟨v, rfl, hF, hG⟩
          exact ⟨v, rfl, hF, hG⟩
      · refine step_intro rfl rfl fun ρ X hc hf hgl hX hp ho => ?_
        change StepOk _ { dst := _, op := Op.fieldAddr 39 (Operand.tmp 3) 1, type := _, pos := _, after := _, guard := _ } _ _ _
        have k3 : ρ (.tmp 3) = .pointer (some ⟨g, 0, none⟩) := ho 3 (by decide)
        clear hp ho
        refine StepOk.of_run (v := ?vr410) (w' := X) ?_ ⟨rfl, Below.refl _ _⟩
        clear hX
        go_simp
        all_goals try go_bits
        all_goals try simp only [IntWalk.iteOmega]
        all_goals try go_bits
        all_goals rfl
      · refine step_intro rfl rfl fun ρ X hc hf hgl hX hp ho => ?_
        change StepOk _ { dst := _, op := Op.load 9 (Operand.tmp 62), type := _, pos := _, after := _, guard := _ } _ _ _
        have k62 : ρ (.tmp 62) = ?vr410 := hp 10 (by decide)
        have d0X := Grows.cell' hX d0
        have d1X := Grows.cell' hX d1
        have d2X := Grows.cell' hX d2
        have d3X := Grows.cell' hX d3
        have d4X := Grows.cell' hX d4
        have d5X := Grows.cell' hX d5
        clear hp ho
        refine StepOk.of_run (v := ?vr411) (w' := X) ?_ ⟨rfl, Below.refl _ _⟩
        clear hX
        go_simp
        all_goals try go_bits
        all_goals try simp only [IntWalk.iteOmega]
        all_goals try go_bits
        all_goals rfl
      · refine step_intro rfl rfl fun ρ X hc hf hgl hX hp ho => ?_
        change StepOk _ { dst := _, op := Op.call { callee := Callee.value (Operand.func 12), args := #[Operand.tmp 61, Operand.const (Value.string { data := #[119, 114, 105, 116, 101] }), Operand.tmp 63], argTypes := #[27, 9, 9] }, type := _, pos := _, after := _, guard := _ } _ _ _
        have k61 := hp 9 (by decide)
        have k63 : ρ (.tmp 63) = ?vr411 := hp 11 (by decide)
        clear hp ho
        have HC := pTold (ρ (.tmp 61)) opWrite a 7 X (Hek.out.grows (Grows.trans' HG1.out hX)) k61 (by omega)
        unfold sv at HC
        rw [Hsa.out] at HC
        unfold opWrite at HC
        refine StepOk.of_call (f := 12) (args := #[ρ (.tmp 61), .string { data := #[119, 114, 105, 116, 101] }, .string sa]) (w' := X) ?_ HC ?_
        · go_simp
          all_goals rfl
        · rintro e w' ⟨rfl, hG⟩
          exact ⟨_, rfl, rfl, hG⟩
      · refine step_intro rfl rfl fun ρ X hc hf hgl hX hp ho => ?_
        change StepOk _ { dst := _, op := Op.assign (Operand.tmp 64), type := _, pos := _, after := _, guard := _ } _ _ _
        have k64 : ρ (.tmp 64) = (.int .i64 7) := hp 12 (by decide)
        clear hp ho
        refine StepOk.of_run (v := ?vr413) (w' := X) ?_ ⟨rfl, Below.refl _ _⟩
        clear hX
        go_simp
        all_goals try go_bits
        all_goals try simp only [IntWalk.iteOmega]
        all_goals try go_bits
        all_goals rfl
      · refine step_intro rfl rfl fun ρ X hc hf hgl hX hp ho => ?_
        change StepOk _ { dst := _, op := Op.assign (Operand.const (Value.string { data := #[] })), type := _, pos := _, after := _, guard := _ } _ _ _
        clear hp ho
        refine StepOk.of_run (v := ?vr414) (w' := X) ?_ ⟨rfl, Below.refl _ _⟩
        clear hX
        go_simp
        all_goals try go_bits
        all_goals try simp only [IntWalk.iteOmega]
        all_goals try go_bits
        all_goals rfl
    case grdr4 => rfl
    case rstr4 =>
      intro a0 X hb
      obtain ⟨x57, hx57⟩ : ∃ x, a0.tmps.getD 57 undef = x := ⟨_, rfl⟩
      have p57 := hb.done' 5 57 rfl rfl
      rw [hx57] at p57
      obtain ⟨x60, hx60⟩ : ∃ x, a0.tmps.getD 60 undef = x := ⟨_, rfl⟩
      have p60 := hb.done' 8 60 rfl rfl
      rw [hx60] at p60
      obtain ⟨x61, hx61⟩ : ∃ x, a0.tmps.getD 61 undef = x := ⟨_, rfl⟩
      have p61 := hb.done' 9 61 rfl rfl
      rw [hx61] at p61
      have hfr := hb.frame ((4, ?vr413) :: (5, ?vr414) :: (52, ?vr40) :: (53, ?vr41) :: (54, ?vr42) :: (55, ?vr43) :: (56, ?vr44) :: (57, x57) :: (58, ?vr46) :: (59, ?vr47) :: (60, x60) :: (61, x61) :: (62, ?vr410) :: (63, ?vr411) :: (64, (.int .i64 7)) :: []) rfl ⟨hb.done' 13 4 rfl rfl, hb.done' 14 5 rfl rfl, hb.done' 0 52 rfl rfl, hb.done' 1 53 rfl rfl, hb.done' 2 54 rfl rfl, hb.done' 3 55 rfl rfl, hb.done' 4 56 rfl rfl, hx57, hb.done' 6 58 rfl rfl, hb.done' 7 59 rfl rfl, hx60, hx61, hb.done' 10 62 rfl rfl, hb.done' 11 63 rfl rfl, hb.done' 12 64 rfl rfl, trivial⟩
      simp only [updL, ↓reduceIte, Nat.reduceEqDiff, Nat.reduceAdd, Nat.zero_add] at hfr
      have HX := Lib.hid hb.ext
      clear hb
      subst hfr
      have HGX := Lib.hid (Grows.trans' HG1.out HX.out)
      clear d0 d1 d2 d3 d4 d5 HX
      go_wp2
      go_ret2
      exact ⟨_, rfl, fun _ _ => rfl, HGX.out⟩
  have e4 : (kd == 4) = false := by simpa using h4
  by_cases h5 : kd = 5
  · subst h5
    clear h0 e0 h1 e1 h2 e2 h3 e3 h4 e4
    go_enter Tryz.func13, Tryz.ntmps13
    go_wp2_with (first | (refine wpList_boxT rfl 39 _ rfl C rfl ?_; rw [Hg.out, Hw1.out]) | fail)
    have HR := Lib.hid (NRead a n w1)
    unfold sv at HR
    rw [Hsa.out] at HR
    refine HR.out.mono ?_
    rintro e w2 ⟨v, rfl, hF, hG⟩
    have HF := Lib.hid hF
    have HG2 := Lib.hid hG
    have d0Y := Grows.cell' HG2.out d0
    have d1Y := Grows.cell' HG2.out d1
    clear hF hG HR d0 d1 d2 d3 d4 d5
    obtain ⟨v, rfl⟩ : ∃ y, v = y := ⟨_, rfl⟩
    go_wp2
    refine specs_region
      #[[], [], [1], [0, 1, 2], [], [4], [0, 1, 2, 3], [0, 1, 2, 3, 4, 5, 6]] #[[7], [3], [], [], [6], [], [], []] #[true, true, true, true, true, true, true, true]
      ((.val ?vr50) :: (.val ?vr51) :: (.val ?vr52) :: (.val (.int .i64 7)) :: (.val ?vr54) :: (.val ?vr55) :: (.val ?vr56) :: (.val ?vr57) :: []).toArray
      hmx ?chkr5 ?grdr5 ?stpr5 ?rstr5
    case chkr5 => rfl
    case stpr5 =>
      refine ⟨?_, ?_, ?_, ?_, ?_, ?_, ?_, ?_, trivial⟩
      · refine step_intro rfl rfl fun ρ X hc hf hgl hX hp ho => ?_
        change StepOk _ { dst := _, op := Op.move (Operand.tmp 7), type := _, pos := _, after := _, guard := _ } _ _ _
        have k7 : ρ (.tmp 7) = v := ho 7 (by decide)
        clear hp ho
        refine StepOk.of_run (v := ?vr50) (w' := X) ?_ ⟨rfl, Below.refl _ _⟩
        clear hX
        go_simp
        all_goals try go_bits
        all_goals try simp only [IntWalk.iteOmega]
        all_goals try go_bits
        all_goals rfl
      · refine step_intro rfl rfl fun ρ X hc hf hgl hX hp ho => ?_
        change StepOk _ { dst := _, op := Op.fieldAddr 39 (Operand.tmp 3) 1, type := _, pos := _, after := _, guard := _ } _ _ _
        have k3 : ρ (.tmp 3) = .pointer (some ⟨g, 0, none⟩) := ho 3 (by decide)
        clear hp ho
        refine StepOk.of_run (v := ?vr51) (w' := X) ?_ ⟨rfl, Below.refl _ _⟩
        clear hX
        go_simp
        all_goals try go_bits
        all_goals try simp only [IntWalk.iteOmega]
        all_goals try go_bits
        all_goals rfl
      · refine step_intro rfl rfl fun ρ X hc hf hgl hX hp ho => ?_
        change StepOk _ { dst := _, op := Op.load 9 (Operand.tmp 77), type := _, pos := _, after := _, guard := _ } _ _ _
        have k77 : ρ (.tmp 77) = ?vr51 := hp 1 (by decide)
        have d1YX := Grows.cell' hX d1Y
        clear hp ho
        refine StepOk.of_run (v := ?vr52) (w' := X) ?_ ⟨rfl, Below.refl _ _⟩
        clear hX
        go_simp
        all_goals try go_bits
        all_goals try simp only [IntWalk.iteOmega]
        all_goals try go_bits
        all_goals rfl
      · refine step_intro rfl rfl fun ρ X hc hf hgl hX hp ho => ?_
        change StepOk _ { dst := _, op := Op.call { callee := Callee.value (Operand.func 12), args := #[Operand.tmp 76, Operand.const (Value.string { data := #[114, 101, 97, 100] }), Operand.tmp 78], argTypes := #[27, 9, 9] }, type := _, pos := _, after := _, guard := _ } _ _ _
        have k76 : ρ (.tmp 76) = ?vr50 := hp 0 (by decide)
        have k78 : ρ (.tmp 78) = ?vr52 := hp 2 (by decide)
        clear hp ho
        have HC := pTold v opRead a 7 X (Hek.out.grows (Grows.trans' HG1.out (Grows.trans' HG2.out hX))) (HF.out.grows hX) (by omega)
        unfold sv at HC
        rw [Hsa.out] at HC
        unfold opRead at HC
        refine StepOk.of_call (f := 12) (args := #[v, .string ⟨#[114, 101, 97, 100]⟩, .string sa]) (w' := X) ?_ HC ?_
        · go_simp
          all_goals rfl
        · rintro e w' ⟨rfl, hG⟩
          exact ⟨_, rfl, rfl, hG⟩
      · refine step_intro rfl rfl fun ρ X hc hf hgl hX hp ho => ?_
        change StepOk _ { dst := _, op := Op.move (Operand.tmp 6), type := _, pos := _, after := _, guard := _ } _ _ _
        have k6 : ρ (.tmp 6) = .slice none 0 0 := ho 6 (by decide)
        clear hp ho
        refine StepOk.of_run (v := ?vr54) (w' := X) ?_ ⟨rfl, Below.refl _ _⟩
        clear hX
        go_simp
        all_goals try go_bits
        all_goals try simp only [IntWalk.iteOmega]
        all_goals try go_bits
        all_goals rfl
      · refine step_intro rfl rfl fun ρ X hc hf hgl hX hp ho => ?_
        change StepOk _ { dst := _, op := Op.convert 36 9 (Operand.tmp 80), type := _, pos := _, after := _, guard := _ } _ _ _
        have k80 : ρ (.tmp 80) = ?vr54 := hp 4 (by decide)
        clear hp ho
        refine StepOk.of_run (v := ?vr55) (w' := X) ?_ ⟨rfl, Below.refl _ _⟩
        clear hX
        go_simp
        all_goals try go_bits
        all_goals try simp only [IntWalk.iteOmega]
        all_goals try go_bits
        all_goals rfl
      · refine step_intro rfl rfl fun ρ X hc hf hgl hX hp ho => ?_
        change StepOk _ { dst := _, op := Op.assign (Operand.tmp 79), type := _, pos := _, after := _, guard := _ } _ _ _
        have k79 : ρ (.tmp 79) = (.int .i64 7) := hp 3 (by decide)
        clear hp ho
        refine StepOk.of_run (v := ?vr56) (w' := X) ?_ ⟨rfl, Below.refl _ _⟩
        clear hX
        go_simp
        all_goals try go_bits
        all_goals try simp only [IntWalk.iteOmega]
        all_goals try go_bits
        all_goals rfl
      · refine step_intro rfl rfl fun ρ X hc hf hgl hX hp ho => ?_
        change StepOk _ { dst := _, op := Op.assign (Operand.tmp 81), type := _, pos := _, after := _, guard := _ } _ _ _
        have k81 : ρ (.tmp 81) = ?vr55 := hp 5 (by decide)
        clear hp ho
        refine StepOk.of_run (v := ?vr57) (w' := X) ?_ ⟨rfl, Below.refl _ _⟩
        clear hX
        go_simp
        all_goals try go_bits
        all_goals try simp only [IntWalk.iteOmega]
        all_goals try go_bits
        all_goals rfl
    case grdr5 => rfl
    case rstr5 =>
      intro a0 X hb
      have hfr := hb.frame ((4, ?vr56) :: (5, ?vr57) :: (76, ?vr50) :: (77, ?vr51) :: (78, ?vr52) :: (79, (.int .i64 7)) :: (80, ?vr54) :: (81, ?vr55) :: []) rfl ⟨hb.done' 6 4 rfl rfl, hb.done' 7 5 rfl rfl, hb.done' 0 76 rfl rfl, hb.done' 1 77 rfl rfl, hb.done' 2 78 rfl rfl, hb.done' 3 79 rfl rfl, hb.done' 4 80 rfl rfl, hb.done' 5 81 rfl rfl, trivial⟩
      simp only [updL, ↓reduceIte, Nat.reduceEqDiff, Nat.reduceAdd, Nat.zero_add] at hfr
      have HX := Lib.hid hb.ext
      clear hb
      subst hfr
      have HGX := Lib.hid (Grows.trans' HG1.out (Grows.trans' HG2.out HX.out))
      clear d0Y d1Y HX
      go_wp2
      go_ret2
      exact ⟨_, rfl, fun _ _ => rfl, HGX.out⟩
  have e5 : (kd == 5) = false := by simpa using h5
  by_cases h6 : kd = 6
  · subst h6
    clear h0 e0 h1 e1 h2 e2 h3 e3 h4 e4 h5 e5
    go_enter Tryz.func13, Tryz.ntmps13
    go_wp2_with (first | (refine wpList_boxT rfl 39 _ rfl C rfl ?_; rw [Hg.out, Hw1.out]) | fail)
    refine specs_region
      #[[], [], [1], [0, 1, 2], [], [4], [0, 1, 2, 3, 4, 5], [0, 1, 2, 3, 4, 5, 6], [0, 1, 2, 3, 4, 5, 6, 7]] #[[0], [3], [], [], [3], [], [], [], []] #[true, true, true, true, true, true, true, true, true]
      ((.val ?vr60) :: (.val ?vr61) :: (.val ?vr62) :: (.pred (fun v W => IsFault W v opSync a 7) (fun v a b g h => IsFault.grows h g)) :: (.val ?vr64) :: (.val ?vr65) :: (.val (.int .i64 7)) :: (.val ?vr67) :: (.val ?vr68) :: []).toArray
      hmx ?chkr6 ?grdr6 ?stpr6 ?rstr6
    case chkr6 => rfl
    case stpr6 =>
      refine ⟨?_, ?_, ?_, ?_, ?_, ?_, ?_, ?_, ?_, trivial⟩
      · refine step_intro rfl rfl fun ρ X hc hf hgl hX hp ho => ?_
        change StepOk _ { dst := _, op := Op.move (Operand.tmp 0), type := _, pos := _, after := _, guard := _ } _ _ _
        have k0 : ρ (.tmp 0) = .pointer none := ho 0 (by decide)
        clear hp ho
        refine StepOk.of_run (v := ?vr60) (w' := X) ?_ ⟨rfl, Below.refl _ _⟩
        clear hX
        go_simp
        all_goals try go_bits
        all_goals try simp only [IntWalk.iteOmega]
        all_goals try go_bits
        all_goals rfl
      · refine step_intro rfl rfl fun ρ X hc hf hgl hX hp ho => ?_
        change StepOk _ { dst := _, op := Op.fieldAddr 39 (Operand.tmp 3) 1, type := _, pos := _, after := _, guard := _ } _ _ _
        have k3 : ρ (.tmp 3) = .pointer (some ⟨g, 0, none⟩) := ho 3 (by decide)
        clear hp ho
        refine StepOk.of_run (v := ?vr61) (w' := X) ?_ ⟨rfl, Below.refl _ _⟩
        clear hX
        go_simp
        all_goals try go_bits
        all_goals try simp only [IntWalk.iteOmega]
        all_goals try go_bits
        all_goals rfl
      · refine step_intro rfl rfl fun ρ X hc hf hgl hX hp ho => ?_
        change StepOk _ { dst := _, op := Op.load 9 (Operand.tmp 85), type := _, pos := _, after := _, guard := _ } _ _ _
        have k85 : ρ (.tmp 85) = ?vr61 := hp 1 (by decide)
        have d0X := Grows.cell' hX d0
        have d1X := Grows.cell' hX d1
        have d2X := Grows.cell' hX d2
        have d3X := Grows.cell' hX d3
        have d4X := Grows.cell' hX d4
        have d5X := Grows.cell' hX d5
        clear hp ho
        refine StepOk.of_run (v := ?vr62) (w' := X) ?_ ⟨rfl, Below.refl _ _⟩
        clear hX
        go_simp
        all_goals try go_bits
        all_goals try simp only [IntWalk.iteOmega]
        all_goals try go_bits
        all_goals rfl
      · refine step_intro rfl rfl fun ρ X hc hf hgl hX hp ho => ?_
        change StepOk _ { dst := _, op := Op.call { callee := Callee.value (Operand.func 39), args := #[Operand.tmp 84, Operand.tmp 86], argTypes := #[25, 9] }, type := _, pos := _, after := _, guard := _ } _ _ _
        have k84 : ρ (.tmp 84) = ?vr60 := hp 0 (by decide)
        have k86 : ρ (.tmp 86) = ?vr62 := hp 2 (by decide)
        clear hp ho
        have HC := NSync a X
        unfold sv at HC
        rw [Hsa.out] at HC
        refine StepOk.of_call (f := 39) (args := #[.pointer none, .string sa]) (w' := X) ?_ HC ?_
        · go_simp
          all_goals rfl
        · rintro e w' ⟨v, rfl, hF, hG⟩
          exact ⟨v, rfl, hF, hG⟩
      · refine step_intro rfl rfl fun ρ X hc hf hgl hX hp ho => ?_
        change StepOk _ { dst := _, op := Op.fieldAddr 39 (Operand.tmp 3) 1, type := _, pos := _, after := _, guard := _ } _ _ _
        have k3 : ρ (.tmp 3) = .pointer (some ⟨g, 0, none⟩) := ho 3 (by decide)
        clear hp ho
        refine StepOk.of_run (v := ?vr64) (w' := X) ?_ ⟨rfl, Below.refl _ _⟩
        clear hX
        go_simp
        all_goals try go_bits
        all_goals try simp only [IntWalk.iteOmega]
        all_goals try go_bits
        all_goals rfl
      · refine step_intro rfl rfl fun ρ X hc hf hgl hX hp ho => ?_
        change StepOk _ { dst := _, op := Op.load 9 (Operand.tmp 88), type := _, pos := _, after := _, guard := _ } _ _ _
        have k88 : ρ (.tmp 88) = ?vr64 := hp 4 (by decide)
        have d0X := Grows.cell' hX d0
        have d1X := Grows.cell' hX d1
        have d2X := Grows.cell' hX d2
        have d3X := Grows.cell' hX d3
        have d4X := Grows.cell' hX d4
        have d5X := Grows.cell' hX d5
        clear hp ho
        refine StepOk.of_run (v := ?vr65) (w' := X) ?_ ⟨rfl, Below.refl _ _⟩
        clear hX
        go_simp
        all_goals try go_bits
        all_goals try simp only [IntWalk.iteOmega]
        all_goals try go_bits
        all_goals rfl
      · refine step_intro rfl rfl fun ρ X hc hf hgl hX hp ho => ?_
        change StepOk _ { dst := _, op := Op.call { callee := Callee.value (Operand.func 12), args := #[Operand.tmp 87, Operand.const (Value.string { data := #[115, 121, 110, 99] }), Operand.tmp 89], argTypes := #[27, 9, 9] }, type := _, pos := _, after := _, guard := _ } _ _ _
        have k87 := hp 3 (by decide)
        have k89 : ρ (.tmp 89) = ?vr65 := hp 5 (by decide)
        clear hp ho
        have HC := pTold (ρ (.tmp 87)) opSync a 7 X (Hek.out.grows (Grows.trans' HG1.out hX)) k87 (by omega)
        unfold sv at HC
        rw [Hsa.out] at HC
        unfold opSync at HC
        refine StepOk.of_call (f := 12) (args := #[ρ (.tmp 87), .string { data := #[115, 121, 110, 99] }, .string sa]) (w' := X) ?_ HC ?_
        · go_simp
          all_goals rfl
        · rintro e w' ⟨rfl, hG⟩
          exact ⟨_, rfl, rfl, hG⟩
      · refine step_intro rfl rfl fun ρ X hc hf hgl hX hp ho => ?_
        change StepOk _ { dst := _, op := Op.assign (Operand.tmp 90), type := _, pos := _, after := _, guard := _ } _ _ _
        have k90 : ρ (.tmp 90) = (.int .i64 7) := hp 6 (by decide)
        clear hp ho
        refine StepOk.of_run (v := ?vr67) (w' := X) ?_ ⟨rfl, Below.refl _ _⟩
        clear hX
        go_simp
        all_goals try go_bits
        all_goals try simp only [IntWalk.iteOmega]
        all_goals try go_bits
        all_goals rfl
      · refine step_intro rfl rfl fun ρ X hc hf hgl hX hp ho => ?_
        change StepOk _ { dst := _, op := Op.assign (Operand.const (Value.string { data := #[] })), type := _, pos := _, after := _, guard := _ } _ _ _
        clear hp ho
        refine StepOk.of_run (v := ?vr68) (w' := X) ?_ ⟨rfl, Below.refl _ _⟩
        clear hX
        go_simp
        all_goals try go_bits
        all_goals try simp only [IntWalk.iteOmega]
        all_goals try go_bits
        all_goals rfl
    case grdr6 => rfl
    case rstr6 =>
      intro a0 X hb
      obtain ⟨x87, hx87⟩ : ∃ x, a0.tmps.getD 87 undef = x := ⟨_, rfl⟩
      have p87 := hb.done' 3 87 rfl rfl
      rw [hx87] at p87
      have hfr := hb.frame ((4, ?vr67) :: (5, ?vr68) :: (84, ?vr60) :: (85, ?vr61) :: (86, ?vr62) :: (87, x87) :: (88, ?vr64) :: (89, ?vr65) :: (90, (.int .i64 7)) :: []) rfl ⟨hb.done' 7 4 rfl rfl, hb.done' 8 5 rfl rfl, hb.done' 0 84 rfl rfl, hb.done' 1 85 rfl rfl, hb.done' 2 86 rfl rfl, hx87, hb.done' 4 88 rfl rfl, hb.done' 5 89 rfl rfl, hb.done' 6 90 rfl rfl, trivial⟩
      simp only [updL, ↓reduceIte, Nat.reduceEqDiff, Nat.reduceAdd, Nat.zero_add] at hfr
      have HX := Lib.hid hb.ext
      clear hb
      subst hfr
      have HGX := Lib.hid (Grows.trans' HG1.out HX.out)
      clear d0 d1 d2 d3 d4 d5 HX
      go_wp2
      go_ret2
      exact ⟨_, rfl, fun _ _ => rfl, HGX.out⟩
  have e6 : (kd == 6) = false := by simpa using h6
  by_cases h7 : kd = 7
  · subst h7
    clear h0 e0 h1 e1 h2 e2 h3 e3 h4 e4 h5 e5 h6 e6
    go_enter Tryz.func13, Tryz.ntmps13
    go_wp2_with (first | (refine wpList_boxT rfl 39 _ rfl C rfl ?_; rw [Hg.out, Hw1.out]) | fail)
    have HR := Lib.hid (NSyncDir w1)
    refine HR.out.mono ?_
    rintro e w2 ⟨v, rfl, hF, hG⟩
    have HG2 := Lib.hid (Grows.trans' HG1.out hG)
    have HC := Lib.hid (pTold v opSyncDir [] 7 w2 (Hek.out.grows HG2.out) hF (by omega))
    unfold sv opSyncDir at HC
    clear hF hG HR d0 d1 d2 d3 d4 d5
    go_wp2_with fail
    refine HC.out.mono ?_
    rintro e w3 ⟨rfl, hG⟩
    have HG3 := Lib.hid (Grows.trans' HG2.out hG)
    clear hG HC
    go_wp2
    go_ret2
    exact ⟨_, rfl, fun _ _ => rfl, HG3.out⟩
  have e7 : (kd == 7) = false := by simpa using h7
  by_cases h8 : kd = 8
  · subst h8
    clear h0 e0 h1 e1 h2 e2 h3 e3 h4 e4 h5 e5 h6 e6 h7 e7
    go_enter Tryz.func13, Tryz.ntmps13
    go_wp2_with (first | (refine wpList_boxT rfl 39 _ rfl C rfl ?_; rw [Hg.out, Hw1.out]) | fail)
    have HR := Lib.hid (NArm n (lp : Int) w1)
    refine HR.out.mono ?_
    rintro e w2 ⟨rfl, rfl⟩
    clear HR
    go_wp2
    go_ret2
    exact ⟨_, rfl, fun _ h => absurd h (by decide), HG1.out⟩
  have e8 : (kd == 8) = false := by simpa using h8
  by_cases h9 : kd = 9
  · subst h9
    clear h0 e0 h1 e1 h2 e2 h3 e3 h4 e4 h5 e5 h6 e6 h7 e7 h8 e8
    go_enter Tryz.func13, Tryz.ntmps13
    go_wp2_with (first | (refine wpList_boxT rfl 39 _ rfl C rfl ?_; rw [Hg.out, Hw1.out]) | fail)
    refine specs_region
      #[[], [], [1], [], [], [4], [3, 4, 5], [0, 1, 2, 3, 4, 5, 6]] #[[0], [3], [], [], [3], [], [], []] #[true, true, true, true, true, true, true, true]
      ((.val ?vr90) :: (.val ?vr91) :: (.val ?vr92) :: (.pred (fun v W => W.ownsRow w1.heap.size 3 1 v 0 [] ∧ ∃ g, v = .slice (some ⟨g, 0, none⟩) 0 0) (fun v a b g h => ⟨own_grows h.1 g, h.2⟩)) :: (.val ?vr94) :: (.val ?vr95) :: (.pred (fun v W => W.ownsRow w1.heap.size 3 1 v keep.length (keep.map fun z => .int .i64 z)) (fun v a b g h => own_grows h g)) :: (.val (.tuple #[])) :: []).toArray
      hmx ?chkr9 ?grdr9 ?stpr9 ?rstr9
    case chkr9 => rfl
    case stpr9 =>
      refine ⟨?_, ?_, ?_, ?_, ?_, ?_, ?_, ?_, trivial⟩
      · refine step_intro rfl rfl fun ρ X hc hf hgl hX hp ho => ?_
        change StepOk _ { dst := _, op := Op.move (Operand.tmp 0), type := _, pos := _, after := _, guard := _ } _ _ _
        have k0 : ρ (.tmp 0) = .pointer none := ho 0 (by decide)
        clear hp ho
        refine StepOk.of_run (v := ?vr90) (w' := X) ?_ ⟨rfl, Below.refl _ _⟩
        clear hX
        go_simp
        all_goals try go_bits
        all_goals try simp only [IntWalk.iteOmega]
        all_goals try go_bits
        all_goals rfl
      · refine step_intro rfl rfl fun ρ X hc hf hgl hX hp ho => ?_
        change StepOk _ { dst := _, op := Op.fieldAddr 39 (Operand.tmp 3) 3, type := _, pos := _, after := _, guard := _ } _ _ _
        have k3 : ρ (.tmp 3) = .pointer (some ⟨g, 0, none⟩) := ho 3 (by decide)
        clear hp ho
        refine StepOk.of_run (v := ?vr91) (w' := X) ?_ ⟨rfl, Below.refl _ _⟩
        clear hX
        go_simp
        all_goals try go_bits
        all_goals try simp only [IntWalk.iteOmega]
        all_goals try go_bits
        all_goals rfl
      · refine step_intro rfl rfl fun ρ X hc hf hgl hX hp ho => ?_
        change StepOk _ { dst := _, op := Op.load 3 (Operand.tmp 108), type := _, pos := _, after := _, guard := _ } _ _ _
        have k108 : ρ (.tmp 108) = ?vr91 := hp 1 (by decide)
        have d0X := Grows.cell' hX d0
        have d1X := Grows.cell' hX d1
        have d2X := Grows.cell' hX d2
        have d3X := Grows.cell' hX d3
        have d4X := Grows.cell' hX d4
        have d5X := Grows.cell' hX d5
        clear hp ho
        refine StepOk.of_run (v := ?vr92) (w' := X) ?_ ⟨rfl, Below.refl _ _⟩
        clear hX
        go_simp
        all_goals try go_bits
        all_goals try simp only [IntWalk.iteOmega]
        all_goals try go_bits
        all_goals rfl
      · refine step_intro rfl rfl fun ρ X hc hf hgl hX hp ho => ?_
        change StepOk _ { dst := _, op := Op.buildSlice 37 0 #[], type := _, pos := _, after := _, guard := _ } _ _ _
        clear hp ho
        refine StepOk.of_run (v := .slice (some ⟨X.heap.size, 0, none⟩) 0 0) (w' := X.alloc (.cells #[] 3)) ?_ ⟨⟨⟨by simp, .inr ⟨X.heap.size, 0, #[], rfl, hX.size, heap_alloc_new X _, Nat.le_refl _, by simp [maxLen], by simp, by simp⟩⟩, _, rfl⟩, Grows.alloc' _ _⟩
        simp [go_sem, execOp, hc]
      · refine step_intro rfl rfl fun ρ X hc hf hgl hX hp ho => ?_
        change StepOk _ { dst := _, op := Op.fieldAddr 39 (Operand.tmp 3) 5, type := _, pos := _, after := _, guard := _ } _ _ _
        have k3 : ρ (.tmp 3) = .pointer (some ⟨g, 0, none⟩) := ho 3 (by decide)
        clear hp ho
        refine StepOk.of_run (v := ?vr94) (w' := X) ?_ ⟨rfl, Below.refl _ _⟩
        clear hX
        go_simp
        all_goals try go_bits
        all_goals try simp only [IntWalk.iteOmega]
        all_goals try go_bits
        all_goals rfl
      · refine step_intro rfl rfl fun ρ X hc hf hgl hX hp ho => ?_
        change StepOk _ { dst := _, op := Op.load 37 (Operand.tmp 111), type := _, pos := _, after := _, guard := _ } _ _ _
        have k111 : ρ (.tmp 111) = ?vr94 := hp 4 (by decide)
        have d0X := Grows.cell' hX d0
        have d1X := Grows.cell' hX d1
        have d2X := Grows.cell' hX d2
        have d3X := Grows.cell' hX d3
        have d4X := Grows.cell' hX d4
        have d5X := Grows.cell' hX d5
        clear hp ho
        refine StepOk.of_run (v := ?vr95) (w' := X) ?_ ⟨rfl, Below.refl _ _⟩
        clear hX
        go_simp
        all_goals try go_bits
        all_goals try simp only [IntWalk.iteOmega]
        all_goals try go_bits
        all_goals rfl
      · refine step_intro rfl rfl fun ρ X hc hf hgl hX hp ho => ?_
        change StepOk _ { dst := _, op := Op.call { callee := Callee.builtin Builtin.append, args := #[Operand.tmp 110, Operand.tmp 112], argTypes := #[37, 37] }, type := _, pos := _, after := _, guard := _ } _ _ _
        have k110 := hp 3 (by decide)
        have k112 : ρ (.tmp 112) = ?vr95 := hp 5 (by decide)
        clear hp ho
        obtain ⟨ho1, g1, e1⟩ := k110
        rw [e1] at ho1
        obtain ⟨v', W', hr, ho', hg'⟩ := run_copyI w1.heap.size X hX.size g1 ho1 _ keep (HxK.out.grows hX) Hkl.out
        refine StepOk.of_run (v := v') (w' := W') ?_ ⟨ho', hg'⟩
        simp only [execOp, resolve, invoke, builtin, Sem.run_bind, Sem.run_pure, Result.andThen_ok, List.map_toArray, List.map_cons, List.map_nil, e1, k112, hr]
      · refine step_intro rfl rfl fun ρ X hc hf hgl hX hp ho => ?_
        change StepOk _ { dst := _, op := Op.call { callee := Callee.value (Operand.func 22), args := #[Operand.tmp 107, Operand.tmp 109, Operand.tmp 113], argTypes := #[25, 3, 37] }, type := _, pos := _, after := _, guard := _ } _ _ _
        have k107 : ρ (.tmp 107) = ?vr90 := hp 0 (by decide)
        have k109 : ρ (.tmp 109) = ?vr92 := hp 2 (by decide)
        have k113 := hp 6 (by decide)
        clear hp ho
        obtain ⟨a13, c13, e13⟩ := own_form (show X.ownsRow w1.heap.size 3 1 (ρ (.tmp 113)) keep.length (keep.map fun z => .int .i64 z) from k113)
        refine StepOk.of_call (f := 22) (args := #[.pointer none, .int .i64 n, .slice a13 keep.length c13]) (w' := X) ?_ (NCrash n a13 keep.length c13 X) ?_
        · go_simp
          all_goals rfl
        · rintro e w' ⟨rfl, rfl⟩
          exact ⟨_, rfl, rfl, Below.refl _ _⟩
    case grdr9 => rfl
    case rstr9 =>
      intro a0 X hb
      obtain ⟨x110, hx110⟩ : ∃ x, a0.tmps.getD 110 undef = x := ⟨_, rfl⟩
      have p110 := hb.done' 3 110 rfl rfl
      rw [hx110] at p110
      obtain ⟨x113, hx113⟩ : ∃ x, a0.tmps.getD 113 undef = x := ⟨_, rfl⟩
      have p113 := hb.done' 6 113 rfl rfl
      rw [hx113] at p113
      have hfr := hb.frame ((107, ?vr90) :: (108, ?vr91) :: (109, ?vr92) :: (110, x110) :: (111, ?vr94) :: (112, ?vr95) :: (113, x113) :: (114, (.tuple #[])) :: []) rfl ⟨hb.done' 0 107 rfl rfl, hb.done' 1 108 rfl rfl, hb.done' 2 109 rfl rfl, hx110, hb.done' 4 111 rfl rfl, hb.done' 5 112 rfl rfl, hx113, hb.done' 7 114 rfl rfl, trivial⟩
      simp only [updL, ↓reduceIte, Nat.reduceEqDiff, Nat.reduceAdd, Nat.zero_add] at hfr
      have HX := Lib.hid hb.ext
      clear hb
      subst hfr
      have HGX := Lib.hid (Grows.trans' HG1.out HX.out)
      clear p110 p113
      clear d0 d1 d2 d3 d4 d5 HX
      go_wp2
      go_ret2
      exact ⟨_, rfl, fun _ h => absurd h (by decide), HGX.out⟩
  have e9 : (kd == 9) = false := by simpa using h9
  go_enter Tryz.func13, Tryz.ntmps13
  go_wp2_with (first | (refine wpList_boxT rfl 39 _ rfl C rfl ?_; rw [Hg.out, Hw1.out]) | fail)
  go_ret2
  exact ⟨_, rfl, fun _ _ => by omega, HG1.out⟩
end Go.Proofs.YtoppcpiheaedlaaGreatDoor
