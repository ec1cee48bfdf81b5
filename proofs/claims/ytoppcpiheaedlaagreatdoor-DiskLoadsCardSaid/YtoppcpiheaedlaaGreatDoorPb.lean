/-
  The program's disk: the directory as it is now; a name's file; what each call asks first.
-/
import Derived.Test.YtoppcpiheaedlaaGreatDoorPa
import Derived.Test.YtoppcpiheaedlaaGreatDoorPart
namespace Go.Proofs.YtoppcpiheaedlaaGreatDoor
open Go.RowKit Go.Maps
set_option linter.unusedVariables false
set_option linter.unusedSimpArgs false
attribute [local go_sem] sv nv mv pv

def nowX (x : Px) : Nat × Dir := x.dirs.getLastD (0, [])
theorem nowX_s (x : Px) : nowP x.s = (nowX x).2 := by
  unfold nowP nowX Px.s
  show (x.dirs.map (·.2)).getLastD [] = _
  rw [List.getLastD_eq_getLast?, List.getLastD_eq_getLast?, List.getLast?_map]
  cases x.dirs.getLast? <;> rfl
theorem nowX_get (x : Px) (h : x.dirs ≠ []) : x.dirs[x.dirs.length - 1]? = some (nowX x) := by
  unfold nowX
  rw [List.getLastD_eq_getLast?, ← List.getLast?_eq_getElem?]
  cases hl : x.dirs.getLast? with
  | none => simp at hl; exact absurd hl h
  | some a => rfl
theorem nowX_mem (x : Px) (h : x.dirs ≠ []) : nowX x ∈ x.dirs := List.mem_of_getElem? (nowX_get x h)

set_option maxRecDepth 100000 in
theorem pNow {w : World} {q : Nat} {x : Px} (h : PD w q x) :
    Calls Tryz.prog 72 #[.pointer (some ⟨q, 0, none⟩)] w fun e w' => e = .returned (mv (nowX x).1) ∧ Grows w w' := by
  have hmx : Tryz.prog.follows .mixedOrders = true := by kernel_rfl
  have hpos : 0 < x.dirs.length := List.length_pos_iff.2 h.wf.ne
  obtain ⟨g, cap, e1⟩ := own_some h.dirs.row hpos
  have c1 := h.cell 1 x.vd rfl
  have hrow := h.dirs.row
  rw [e1] at c1 hrow
  have ci := own_cell hrow (x.dirs.length - 1) (mv (nowX x).1) (by rw [List.getElem?_map, nowX_get x h.wf.ne]; rfl)
  have hm := h.wf.small.1
  obtain ⟨m, Hm⟩ : ∃ m, Hid (x.dirs.length = m + 1) := ⟨x.dirs.length - 1, by show _ = _; omega⟩
  rw [Hm.out] at c1 ci hm
  simp only [Nat.add_sub_cancel] at ci
  obtain ⟨b, Hb⟩ : ∃ b, Hid ((nowX x).1 = b) := ⟨_, rfl⟩
  rw [Hb.out] at ci ⊢
  have hmI : (m : Int) ≤ 1000000 := by omega
  unfold mv at ci ⊢
  clear h hpos e1 hrow hm
  go_enter Tryz.func72, Tryz.ntmps72
  go_wp2
  refine specs_region
    #[[], [0], [0, 1], [0, 1, 2], [], [4], [4, 5], [4, 5, 6], [4, 5, 6, 7], [4, 5, 6, 7, 8], [0, 1, 2, 3, 4, 5, 6, 7, 8, 9], [0, 1, 2, 3, 4, 5, 6, 7, 8, 9, 10], [0, 1, 2, 3, 4, 5, 6, 7, 8, 9, 10, 11]] #[[0], [], [], [], [0], [], [], [], [], [], [], [], []] #[true, true, true, true, true, true, true, true, true, true, true, true, true]
    ((.val ?v0) :: (.val ?v1) :: (.val ?v2) :: (.val ?v3) :: (.val ?v4) :: (.val ?v5) :: (.val ?v6) :: (.val ?v7) :: (.val ?v8) :: (.val ?v9) :: (.val ?v10) :: (.val ?v11) :: (.val ?v12) :: []).toArray
    hmx ?chk ?grd ?stp ?rst
  case chk => rfl
  case stp =>
    refine ⟨?_, ?_, ?_, ?_, ?_, ?_, ?_, ?_, ?_, ?_, ?_, ?_, ?_, trivial⟩
    · refine step_intro rfl rfl fun ρ X hc hf hgl hX hp ho => ?_
      change StepOk _ { dst := _, op := Op.move (Operand.tmp 0), type := _, pos := _, after := _, guard := _ } _ _ _
      have k0 : ρ (.tmp 0) = .pointer (some ⟨q, 0, none⟩) := ho 0 (by decide)
      clear hp ho
      refine StepOk.of_run (v := ?v0) (w' := X) ?_ ⟨rfl, Below.refl _ _⟩
      clear hX
      go_simp
      all_goals try go_bits
      all_goals try simp only [IntWalk.iteOmega]
      all_goals try go_bits
      all_goals rfl
    · refine step_intro rfl rfl fun ρ X hc hf hgl hX hp ho => ?_
      change StepOk _ { dst := _, op := Op.nilCheck (Operand.tmp 3), type := _, pos := _, after := _, guard := _ } _ _ _
      have k3 : ρ (.tmp 3) = ?v0 := hp 0 (by decide)
      clear hp ho
      refine StepOk.of_run (v := ?v1) (w' := X) ?_ ⟨rfl, Below.refl _ _⟩
      clear hX
      go_simp
      all_goals try go_bits
      all_goals try simp only [IntWalk.iteOmega]
      all_goals try go_bits
      all_goals rfl
    · refine step_intro rfl rfl fun ρ X hc hf hgl hX hp ho => ?_
      change StepOk _ { dst := _, op := Op.fieldAddr 100 (Operand.tmp 4) 1, type := _, pos := _, after := _, guard := _ } _ _ _
      have k4 : ρ (.tmp 4) = ?v1 := hp 1 (by decide)
      clear hp ho
      refine StepOk.of_run (v := ?v2) (w' := X) ?_ ⟨rfl, Below.refl _ _⟩
      clear hX
      go_simp
      all_goals try go_bits
      all_goals try simp only [IntWalk.iteOmega]
      all_goals try go_bits
      all_goals rfl
    · refine step_intro rfl rfl fun ρ X hc hf hgl hX hp ho => ?_
      change StepOk _ { dst := _, op := Op.load 94 (Operand.tmp 5), type := _, pos := _, after := _, guard := _ } _ _ _
      have k5 : ρ (.tmp 5) = ?v2 := hp 2 (by decide)
      have c1X := Grows.cell' hX c1
      have ciX := Grows.cell' hX ci
      clear hp ho
      refine StepOk.of_run (v := ?v3) (w' := X) ?_ ⟨rfl, Below.refl _ _⟩
      clear hX
      go_simp
      all_goals try go_bits
      all_goals try simp only [IntWalk.iteOmega]
      all_goals try go_bits
      all_goals rfl
    · refine step_intro rfl rfl fun ρ X hc hf hgl hX hp ho => ?_
      change StepOk _ { dst := _, op := Op.move (Operand.tmp 0), type := _, pos := _, after := _, guard := _ } _ _ _
      have k0 : ρ (.tmp 0) = .pointer (some ⟨q, 0, none⟩) := ho 0 (by decide)
      clear hp ho
      refine StepOk.of_run (v := ?v4) (w' := X) ?_ ⟨rfl, Below.refl _ _⟩
      clear hX
      go_simp
      all_goals try go_bits
      all_goals try simp only [IntWalk.iteOmega]
      all_goals try go_bits
      all_goals rfl
    · refine step_intro rfl rfl fun ρ X hc hf hgl hX hp ho => ?_
      change StepOk _ { dst := _, op := Op.nilCheck (Operand.tmp 7), type := _, pos := _, after := _, guard := _ } _ _ _
      have k7 : ρ (.tmp 7) = ?v4 := hp 4 (by decide)
      clear hp ho
      refine StepOk.of_run (v := ?v5) (w' := X) ?_ ⟨rfl, Below.refl _ _⟩
      clear hX
      go_simp
      all_goals try go_bits
      all_goals try simp only [IntWalk.iteOmega]
      all_goals try go_bits
      all_goals rfl
    · refine step_intro rfl rfl fun ρ X hc hf hgl hX hp ho => ?_
      change StepOk _ { dst := _, op := Op.fieldAddr 100 (Operand.tmp 8) 1, type := _, pos := _, after := _, guard := _ } _ _ _
      have k8 : ρ (.tmp 8) = ?v5 := hp 5 (by decide)
      clear hp ho
      refine StepOk.of_run (v := ?v6) (w' := X) ?_ ⟨rfl, Below.refl _ _⟩
      clear hX
      go_simp
      all_goals try go_bits
      all_goals try simp only [IntWalk.iteOmega]
      all_goals try go_bits
      all_goals rfl
    · refine step_intro rfl rfl fun ρ X hc hf hgl hX hp ho => ?_
      change StepOk _ { dst := _, op := Op.load 94 (Operand.tmp 9), type := _, pos := _, after := _, guard := _ } _ _ _
      have k9 : ρ (.tmp 9) = ?v6 := hp 6 (by decide)
      have c1X := Grows.cell' hX c1
      have ciX := Grows.cell' hX ci
      clear hp ho
      refine StepOk.of_run (v := ?v7) (w' := X) ?_ ⟨rfl, Below.refl _ _⟩
      clear hX
      go_simp
      all_goals try go_bits
      all_goals try simp only [IntWalk.iteOmega]
      all_goals try go_bits
      all_goals rfl
    · refine step_intro rfl rfl fun ρ X hc hf hgl hX hp ho => ?_
      change StepOk _ { dst := _, op := Op.call { callee := Callee.builtin Builtin.len, args := #[Operand.tmp 10], argTypes := #[94] }, type := _, pos := _, after := _, guard := _ } _ _ _
      have k10 : ρ (.tmp 10) = ?v7 := hp 7 (by decide)
      clear hp ho
      refine StepOk.of_run (v := ?v8) (w' := X) ?_ ⟨rfl, Below.refl _ _⟩
      clear hX
      go_simp
      all_goals try go_bits
      all_goals try simp only [IntWalk.iteOmega]
      all_goals try go_bits
      all_goals rfl
    · refine step_intro rfl rfl fun ρ X hc hf hgl hX hp ho => ?_
      change StepOk _ { dst := _, op := Op.binOp BinOp.sub 3 (Operand.tmp 11) (Operand.const (Value.int IntKind.i64 1)) 3, type := _, pos := _, after := _, guard := _ } _ _ _
      have k11 : ρ (.tmp 11) = ?v8 := hp 8 (by decide)
      clear hp ho
      refine StepOk.of_run (v := ?v9) (w' := X) ?_ ⟨rfl, Below.refl _ _⟩
      clear hX
      go_simp
      all_goals try go_bits
      all_goals try simp only [IntWalk.iteOmega]
      all_goals try go_bits
      all_goals rfl
    · refine step_intro rfl rfl fun ρ X hc hf hgl hX hp ho => ?_
      change StepOk _ { dst := _, op := Op.indexAddr 94 (Operand.tmp 6) (Operand.tmp 12), type := _, pos := _, after := _, guard := _ } _ _ _
      have k6 : ρ (.tmp 6) = ?v3 := hp 3 (by decide)
      have k12 : ρ (.tmp 12) = ?v9 := hp 9 (by decide)
      clear hp ho
      refine StepOk.of_run (v := ?v10) (w' := X) ?_ ⟨rfl, Below.refl _ _⟩
      clear hX
      go_simp
      all_goals try go_bits
      all_goals try simp only [IntWalk.iteOmega]
      all_goals try go_bits
      all_goals rfl
    · refine step_intro rfl rfl fun ρ X hc hf hgl hX hp ho => ?_
      change StepOk _ { dst := _, op := Op.load 103 (Operand.tmp 13), type := _, pos := _, after := _, guard := _ } _ _ _
      have k13 : ρ (.tmp 13) = ?v10 := hp 10 (by decide)
      have c1X := Grows.cell' hX c1
      have ciX := Grows.cell' hX ci
      clear hp ho
      refine StepOk.of_run (v := ?v11) (w' := X) ?_ ⟨rfl, Below.refl _ _⟩
      clear hX
      go_simp
      all_goals try go_bits
      all_goals try simp only [IntWalk.iteOmega]
      all_goals try go_bits
      all_goals rfl
    · refine step_intro rfl rfl fun ρ X hc hf hgl hX hp ho => ?_
      change StepOk _ { dst := _, op := Op.assign (Operand.tmp 14), type := _, pos := _, after := _, guard := _ } _ _ _
      have k14 : ρ (.tmp 14) = ?v11 := hp 11 (by decide)
      clear hp ho
      refine StepOk.of_run (v := ?v12) (w' := X) ?_ ⟨rfl, Below.refl _ _⟩
      clear hX
      go_simp
      all_goals try go_bits
      all_goals try simp only [IntWalk.iteOmega]
      all_goals try go_bits
      all_goals rfl
  case grd => rfl
  case rst =>
    intro a0 X hb
    have hfr := hb.frame ((2, ?v12) :: (3, ?v0) :: (4, ?v1) :: (5, ?v2) :: (6, ?v3) :: (7, ?v4) :: (8, ?v5) :: (9, ?v6) :: (10, ?v7) :: (11, ?v8) :: (12, ?v9) :: (13, ?v10) :: (14, ?v11) :: []) rfl ⟨hb.done' 12 2 rfl rfl, hb.done' 0 3 rfl rfl, hb.done' 1 4 rfl rfl, hb.done' 2 5 rfl rfl, hb.done' 3 6 rfl rfl, hb.done' 4 7 rfl rfl, hb.done' 5 8 rfl rfl, hb.done' 6 9 rfl rfl, hb.done' 7 10 rfl rfl, hb.done' 8 11 rfl rfl, hb.done' 9 12 rfl rfl, hb.done' 10 13 rfl rfl, hb.done' 11 14 rfl rfl, trivial⟩
    simp only [updL, ↓reduceIte, Nat.reduceEqDiff, Nat.reduceAdd, Nat.zero_add] at hfr
    have HX := Lib.hid hb.ext
    clear hb
    subst hfr
    go_wp2
    go_ret
    exact ⟨rfl, HX.out⟩

theorem zeroInt (w : World) : (zeroValue 3).run Tryz.prog w = .ok (.int .i64 0) w := by kernel_rfl
theorem zeroFile (w : World) : (zeroValue 109).run Tryz.prog w = .ok (.pointer none) w := by kernel_rfl
theorem keyD : KeyA Tryz.prog 9 sv okS := keyS Tryz.underlying9
theorem keyF : KeyA Tryz.prog 3 nv okI := keyI Tryz.underlying3
theorem nameOK_okS {s : Nm} (h : nameOK s = true) : okS s := by
  unfold nameOK at h
  simp at h
  unfold okS maxLen
  omega
theorem PD.okD {w : World} {q : Nat} {x : Px} (h : PD w q x) {d : Nat × Dir} (hd : d ∈ x.dirs) : ∀ p ∈ d.2, okS p.1 := fun p hp => nameOK_okS ((h.wf.names d hd).2 p hp).1
theorem PD.okF {w : World} {q : Nat} {x : Px} (h : PD w q x) : ∀ p ∈ x.fs.map Fi.ent, okI p.1 := fun p hp => by
  obtain ⟨f, hf, rfl⟩ := List.mem_map.1 hp
  have := h.wf.nums f hf
  have := h.wf.small
  show f.num < _
  omega

/-- A name's file, as it is answered. -/
def findR (d : Dir) (nm : Nm) : Value := match findA d nm with | some n => .tuple #[nv n, .int .i64 0] | none => .tuple #[.int .i64 0, .int .i64 7]
set_option maxRecDepth 100000 in
theorem pFind {w : World} {q : Nat} {x : Px} (h : PD w q x) (nm : Nm) (hn : okS nm) :
    Calls Tryz.prog 71 #[.pointer (some ⟨q, 0, none⟩), sv nm] w fun e w' => e = .returned (findR (nowX x).2 nm) ∧ Grows w w' := by
  have HN := Lib.hid (pNow h)
  have HM := Lib.hid (h.dirs.map _ (nowX_mem x h.wf.ne))
  have Hok := Lib.hid (h.okD (nowX_mem x h.wf.ne))
  have Hnm := Lib.hid hn
  obtain ⟨b, hb⟩ : ∃ b, (nowX x).1 = b := ⟨_, rfl⟩
  obtain ⟨d, hd⟩ : ∃ d, (nowX x).2 = d := ⟨_, rfl⟩
  rw [hb] at HN HM
  rw [hd] at HM Hok ⊢
  unfold mv at HN
  clear h hb hd hn
  cases hf : findA d nm with
  | none =>
    have Hr : Hid (findR d nm = .tuple #[.int .i64 0, .int .i64 7]) := by show _ = _; unfold findR; rw [hf]
    have Hf := Lib.hid hf
    clear hf
    go_enter Tryz.func71, Tryz.ntmps71
    go_wp2_with fail
    refine HN.out.mono ?_
    rintro e w1 ⟨rfl, hG⟩
    have HM1 := Lib.hid (HM.out.grows hG)
    have HG := Lib.hid hG
    clear hG
    go_wp2_with (at_lookup; refine wpList_lookA rfl _ _ 103 3 true rfl HM1.out keyD Hok.out Tryz.underlying103 _ (zeroInt _) nm Hnm.out rfl rfl (.tuple #[.int .i64 0, .bool false]) (by rw [Hf.out]; rfl) ?_)
    go_ret2
    exact ⟨by rw [Hr.out]; rfl, HG.out⟩
  | some n =>
    have Hr : Hid (findR d nm = .tuple #[nv n, .int .i64 0]) := by show _ = _; unfold findR; rw [hf]
    have Hf := Lib.hid hf
    clear hf
    go_enter Tryz.func71, Tryz.ntmps71
    go_wp2_with fail
    refine HN.out.mono ?_
    rintro e w1 ⟨rfl, hG⟩
    have HM1 := Lib.hid (HM.out.grows hG)
    have HG := Lib.hid hG
    clear hG
    go_wp2_with (at_lookup; refine wpList_lookA rfl _ _ 103 3 true rfl HM1.out keyD Hok.out Tryz.underlying103 _ (zeroInt _) nm Hnm.out rfl rfl (.tuple #[nv n, .bool true]) (by rw [Hf.out]; rfl) ?_)
    go_ret2
    exact ⟨by rw [Hr.out]; rfl, HG.out⟩

/-- The armed part of its row. -/
def Px.arm (x : Px) (first code : Int) : Px := { x with first := first, code := code }
theorem WfP.arm {x : Px} (h : WfP x) (first code : Int) (hf : -9223372036854775808 ≤ first ∧ first ≤ 9223372036854775807) : WfP (x.arm first code) := ⟨h.room, h.ne, h.names, h.nums, h.pend, hf, h.small⟩
theorem PD.setArm {w w' : World} {q : Nat} {x : Px} (h : PD w q x) (first code : Int) (hf : -9223372036854775808 ≤ first ∧ first ≤ 9223372036854775807) (hr : w'.heap[q]? = some (.cells (pdRow (x.arm first code)) 100 (0, 0))) (hB : But (fun k => k = q) w w') :
    PD w' q (x.arm first code) ∧ TurnP q x (x.arm first code) w w' :=
  ⟨h.head hr hB ⟨rfl, rfl, rfl, rfl, rfl, rfl⟩ (h.wf.arm _ _ hf), TurnP.head hB (fun _ hk => hk) (fun _ hk => hk)⟩
def beginX (x : Px) : Px := x.arm (beginP x.s).2.first (beginP x.s).2.code
theorem beginX_s (x : Px) : (beginX x).s = (beginP x.s).2 := by
  unfold beginX beginP Px.arm Px.s
  split
  · rfl
  · split <;> rfl
theorem setRow_cells {w : World} {g : Nat} {cur : Array Value} {t : TypeId} (hg : w.heap[g]? = some (.cells cur t (0, 0))) (C : Array Value) : (w.setRow g C).heap[g]? = some (.cells C t (0, 0)) := setRow_heap w g cur C t _ hg

set_option maxRecDepth 100000 in
theorem pBegin {w : World} {q : Nat} {x : Px} (h : PD w q x) :
    Calls Tryz.prog 99 #[.pointer (some ⟨q, 0, none⟩)] w fun e w' => e = .returned (.int .i64 (beginP x.s).1) ∧ PD w' q (beginX x) ∧ TurnP q x (beginX x) w w' := by
  have c5 := h.cell 5 (.int .i64 x.first) rfl
  have c6 := h.cell 6 (.int .i64 x.code) rfl
  have f5 := h.frozen 5
  by_cases h0 : x.code = 0
  · have e1 : beginP x.s = (0, x.s) := if_pos h0
    have e2 : beginX x = x := by unfold beginX; rw [e1]; rfl
    rw [e1, e2]
    have H := Lib.hid h
    clear h e1 e2
    rw [h0] at c6
    clear h0
    go_enter Tryz.func99, Tryz.ntmps99
    go_wp2
    go_ret
    exact ⟨rfl, H.out, TurnP.refl _ _ _⟩
  · have hne : (x.code == 0) = false := by simpa using h0
    by_cases h1 : 0 < x.first
    · have e1 : beginP x.s = (0, (x.arm (x.first - 1) x.code).s) := by
        unfold beginP
        rw [if_neg (show ¬ x.s.code = 0 from h0), if_pos (show 0 < x.s.first from h1)]
        rfl
      have e2 : beginX x = x.arm (x.first - 1) x.code := by unfold beginX; rw [e1]; rfl
      have hw := h.wf.first
      have HA := Lib.hid (h.setArm (w' := w.setCell ⟨q, 5, none⟩ (.int .i64 (x.first - 1))) (x.first - 1) x.code (by omega) (row_setCell h.row 5 _) (But.setCell (But.refl' _ _) _ _ rfl))
      rw [e1, e2]
      clear h e1 e2 h0
      go_enter Tryz.func99, Tryz.ntmps99
      go_wp2
      go_ret
      exact ⟨rfl, HA.out.1, HA.out.2⟩
    · have e1 : beginP x.s = (x.code, (x.arm 0 0).s) := by
        unfold beginP
        rw [if_neg (show ¬ x.s.code = 0 from h0), if_neg (show ¬ 0 < x.s.first from h1)]
        rfl
      have e2 : beginX x = x.arm 0 0 := by unfold beginX; rw [e1]; rfl
      have hrow := Lib.hid h.row
      have HA := Lib.hid (h.setArm (w' := w.setRow q (ovr (pdRow x) 5 [.int .i64 0, .int .i64 0])) 0 0 (by omega) (setRow_cells h.row _) (But.setRow (But.refl' _ _) _ _ rfl))
      have hsz : (Tryz.prog.info? 98).map (·.size) = some 2 := by kernel_rfl
      rw [e1, e2]
      clear h e1 e2 h0
      go_enter Tryz.func99, Tryz.ntmps99
      go_wp2_with (refine wpList_storePart rfl 98 _ _ rfl q 5 _ _ [.int .i64 0, .int .i64 0] #[.int .i64 0, .int .i64 0] rfl rfl rfl hrow.out (by simp [pdRow]) hsz (by simp [Value.oneCell']) ?_)
      go_ret
      exact ⟨rfl, HA.out.1, HA.out.2⟩
end Go.Proofs.YtoppcpiheaedlaaGreatDoor
