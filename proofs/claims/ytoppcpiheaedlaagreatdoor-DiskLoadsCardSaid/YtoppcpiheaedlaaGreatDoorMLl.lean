import Derived.Test.YtoppcpiheaedlaaGreatDoorSd
import Derived.Sort.Walk0
import Derived.Laws.Cover1
import Derived.Test.YtoppcpiheaedlaaGreatDoorLdG
import Derived.Test.YtoppcpiheaedlaaGreatDoorDo
import Derived.ChangeSlices
import Derived.WideShapes
import Derived.ChangeArms
import Derived.Test.YtoppcpiheaedlaaGreatDoorPu
import Derived.Test.YtoppcpiheaedlaaGreatDoorAt
section
/-
  The program's disk, loaded.
-/
namespace Go.Proofs.YtoppcpiheaedlaaGreatDoor
open Go.RowKit Go.Maps Go.MapKept
set_option linter.unusedVariables false
set_option linter.unusedSimpArgs false
attribute [local go_sem] sv nv mv pv

def Px.addG (x : Px) (fb : Nat) (vn vs : Value) (ss : List Sec) : Px := { x with fs := x.fs ++ [⟨x.made + 1, fb, vn, vs, ss, ss⟩], made := x.made + 1 }
theorem PD.addG {W W' : World} {q : Nat} {x : Px} (h : PD W q x) (fb : Nat) (vn vs : Value) (ss : List Sec) (hok : ∀ num, FiOk W ⟨num, fb, vn, vs, ss, ss⟩) (hap : ∀ f ∈ x.fs, f.blk ≠ fb ∧ ∀ k, FiRows f k → ¬ (vn.ownBlock = some k ∨ vs.ownBlock = some k)) (hB : But (fun k => k = q ∨ k = x.fm) W W')
    (hq : W'.heap[q]? = some (.cells (pdRow { x with made := x.made + 1 }) 100 (0, 0))) (hm : MapA nv pv W' x.fm ((x.fs.map Fi.ent) ++ [(x.made + 1, fb)])) (hsm : x.made < 1000000 ∧ x.fs.length < 1000000) :
    PD W' q (x.addG fb vn vs ss) := by
  have hnew : ∀ k, (vn.ownBlock = some k ∨ vs.ownBlock = some k) → ¬ (k = q ∨ k = x.fm) := by
    intro k hk
    have h1 := (hok 0).kind hk
    rintro (e | e)
    · rw [e, h.kindQ] at h1; simp at h1
    · rw [e, kind_map h.files.map] at h1; simp at h1
  have hfO : ¬ (fb = q ∨ fb = x.fm) := by
    have h1 := kind_cells (hok 0).row
    rintro (e | e)
    · have e' : (⟨0, fb, vn, vs, ss, ss⟩ : Fi).blk = q := e
      rw [e', h.kindQ] at h1; simp at h1
    · have e' : (⟨0, fb, vn, vs, ss, ss⟩ : Fi).blk = x.fm := e
      rw [e', kind_map h.files.map] at h1; simp at h1
  refine ⟨hq, ?_, ⟨?_, ?_, ?_⟩, ?_, h.fnd, ⟨h.wf.room, h.wf.ne, ?_, ?_, ?_, h.wf.first, ?_⟩⟩
  · refine h.keepD hB fun k hk hd => ?_
    rcases hk with rfl | rfl
    · exact h.qD hd
    · exact h.dF hd (.inl rfl)
  · show MapA nv pv W' x.fm ((x.fs ++ [_]).map Fi.ent)
    rw [List.map_append]
    exact hm
  · intro f hf
    rcases List.mem_append.1 hf with hf | hf
    · have hk := h.files.ok f hf
      refine hk.kept (hB.block _ (Array.getElem?_eq_some_iff.1 hk.row).1 ?_) fun k hk' => hB.block _ (kind_lt (hk.kind hk')) ?_
      · rintro (e | e)
        · exact h.qF (.inr ⟨f, hf, .inl e.symm⟩)
        · have h1 := kind_cells hk.row
          rw [e, kind_map h.files.map] at h1
          simp at h1
      · rintro (e | e)
        · exact h.qF (.inr ⟨f, hf, .inr (e ▸ hk')⟩)
        · have h1 := hk.kind hk'
          rw [e, kind_map h.files.map] at h1
          simp at h1
    · rw [List.mem_singleton.1 hf]
      have hk := hok (x.made + 1)
      exact hk.kept (hB.block _ (Array.getElem?_eq_some_iff.1 hk.row).1 hfO) fun k hk' => hB.block _ (kind_lt (hk.kind hk')) (hnew k hk')
  · intro f hf g hg hne
    rcases List.mem_append.1 hf with hf | hf <;> rcases List.mem_append.1 hg with hg | hg
    · exact h.files.apart f hf g hg hne
    · rw [List.mem_singleton.1 hg]
      exact hap f hf
    · rw [List.mem_singleton.1 hf]
      exact ⟨fun e => (hap g hg).1 e.symm, fun k hk hg' => (hap g hg).2 k hg' hk⟩
    · rw [List.mem_singleton.1 hf, List.mem_singleton.1 hg] at hne
      exact absurd rfl hne
  · refine h.keepP hB fun k hk hd => ?_
    rcases hk with rfl | rfl
    · exact h.qP hd
    · exact h.fP (.inl rfl) hd
  · intro d hd
    refine ⟨(h.wf.names d hd).1, fun e he => ?_⟩
    obtain ⟨h1, f, hf, h2⟩ := (h.wf.names d hd).2 e he
    exact ⟨h1, f, List.mem_append.2 (.inl hf), h2⟩
  · intro f hf
    rcases List.mem_append.1 hf with hf | hf
    · have := h.wf.nums f hf
      show f.num ≤ x.made + 1
      omega
    · rw [List.mem_singleton.1 hf]; exact Nat.le_refl _
  · intro w hw
    obtain ⟨h1, h2, h3, h4⟩ := h.wf.pend w hw
    refine ⟨h1, by show w.id ≤ x.made + 1; omega, h3, fun f hf he => ?_⟩
    rcases List.mem_append.1 hf with hf | hf
    · exact h4 f hf he
    · rw [List.mem_singleton.1 hf] at he
      have : x.made + 1 = w.id := he
      omega
  · have := h.wf.small
    refine ⟨this.1, ?_, this.2.2.1, hsm.1⟩
    show (x.fs ++ [_]).length ≤ _
    rw [List.length_append]
    exact hsm.2
set_option maxRecDepth 100000 in
set_option maxHeartbeats 1000000 in
theorem pAddG {w : World} {q : Nat} {x : Px} (h : PD w q x) (fb : Nat) (vn vs : Value) (ss : List Sec) (hrow : ∀ num, FiOk w ⟨num, fb, vn, vs, ss, ss⟩) (hfb : ∀ f ∈ x.fs, f.blk ≠ fb ∧ ∀ k, FiRows f k → ¬ (vn.ownBlock = some k ∨ vs.ownBlock = some k)) (hsm : x.made < 1000000 ∧ x.fs.length < 1000000) :
    Calls Tryz.prog 97 #[.pointer (some ⟨q, 0, none⟩), .pointer (some ⟨fb, 0, none⟩)] w fun e w' => e = .returned (nv (x.made + 1)) ∧ PD w' q (x.addG fb vn vs ss) ∧ But (fun k => k = q ∨ k = x.fm) w w' := by
  have hmx : Tryz.prog.follows .mixedOrders = true := by kernel_rfl
  obtain ⟨m, Hm⟩ : ∃ m, Hid (x.made = m) := ⟨_, rfl⟩
  obtain ⟨m1, hm1⟩ : ∃ m1, m + 1 = m1 := ⟨_, rfl⟩
  have Hm1 : Hid (x.made + 1 = m1) := by show _ = _; rw [Hm.out, hm1]
  have em : (m : Int) + 1 = (m1 : Int) := by omega
  have hmI : (m1 : Int) ≤ 1000000 := by have := hsm.1; rw [Hm.out] at this; omega
  have d3 := h.cell 3 (nv x.made) rfl
  have d2 := h.cell 2 (mv x.fm) rfl
  have f3 := h.frozen 3
  rw [Hm.out] at d3
  obtain ⟨fm, Hfm⟩ : ∃ b, Hid (x.fm = b) := ⟨_, rfl⟩
  rw [Hfm.out] at d2
  unfold nv at d3
  unfold mv at d2
  have hr1 := row_setCell h.row 3 (.int .i64 (m1 : Int))
  have hB1 : But (fun k => k = q) w (w.setCell ⟨q, 3, none⟩ (.int .i64 (m1 : Int))) := But.setCell (But.refl' _ _) _ _ rfl
  have c3 : (w.setCell ⟨q, 3, none⟩ (.int .i64 (m1 : Int))).cell? ⟨q, 3, none⟩ = some (.int .i64 (m1 : Int)) := by rw [cell_of_row _ q 3 _ _ _ hr1]; rfl
  have c2 : (w.setCell ⟨q, 3, none⟩ (.int .i64 (m1 : Int))).cell? ⟨q, 2, none⟩ = some (.map (some fm)) := by rw [cell_of_row _ q 2 _ _ _ hr1]; show some (mv x.fm) = _; rw [Hfm.out]; rfl
  have HM := Lib.hid (h.files.map.kept (hB1.block _ h.files.map.lt fun e => h.qF (.inl e.symm)))
  have Hok := Lib.hid h.okF
  have Hlen : Hid ((x.fs.map Fi.ent).length < maxLen ∧ okI m1 ∧ ∀ p ∈ x.fs.map Fi.ent, p.1 ≠ m1) := by
    show _ ∧ _ ∧ _
    refine ⟨?_, ?_, ?_⟩
    · rw [List.length_map]; unfold maxLen; omega
    · unfold okI; omega
    · intro p hp
      obtain ⟨f, hf, rfl⟩ := List.mem_map.1 hp
      have := h.wf.nums f hf
      have := Hm1.out
      show f.num ≠ m1
      omega
  rw [Hfm.out] at HM
  have H := Lib.hid h
  have Hrow := Lib.hid hrow
  have Hfb := Lib.hid hfb
  have Hsm := Lib.hid hsm
  have Hr1 := Lib.hid hr1
  have HB1 := Lib.hid hB1
  clear h hrow hfb hsm hr1 hB1 hm1
  rw [Hm1.out]
  unfold nv
  go_enter Tryz.func97, Tryz.ntmps97
  go_wp2
  refine specs_last 9
    #[[], [0], [0, 1], [0, 1, 2], [], [4], [4, 5], [4, 5, 6], [], [0, 1, 2, 3, 4, 5, 6, 7, 8]] #[[0], [], [], [], [0], [], [], [], [1], []] #[true, true, true, true, true, true, true, true, true, true]
    ((.val ?v0) :: (.val ?v1) :: (.val ?v2) :: (.val ?v3) :: (.val ?v4) :: (.val ?v5) :: (.val ?v6) :: (.val ?v7) :: (.val ?v8) :: (.any) :: []).toArray
    hmx ?chk ?grd rfl ?stp ?rst
  case chk => rfl
  case stp =>
    refine ⟨?_, ?_, ?_, ?_, ?_, ?_, ?_, ?_, ?_, ?_, trivial⟩
    · refine step_intro rfl rfl fun ρ X hc hf hgl hX hp ho => ?_
      change StepOk _ { dst := _, op := Op.move (Operand.tmp 0), type := _, pos := _, after := _, guard := _ } _ _ _
      have k0 : ρ (.tmp 0) = .pointer (some ⟨q, 0, none⟩) := ho 0 (by decide)
      clear hp ho
      refine StepOk.of_run (v := ?v0) (w' := X) ?_ ⟨rfl, Below.refl _ _⟩
      clear hX
      go_simp
      all_goals try go_bits
      all_goals try simp only [IntWalk.iteOmega]
      all_goals try go_bits
      all_goals rfl
    · refine step_intro rfl rfl fun ρ X hc hf hgl hX hp ho => ?_
      change StepOk _ { dst := _, op := Op.nilCheck (Operand.tmp 12), type := _, pos := _, after := _, guard := _ } _ _ _
      have k12 : ρ (.tmp 12) = ?v0 := hp 0 (by decide)
      clear hp ho
      refine StepOk.of_run (v := ?v1) (w' := X) ?_ ⟨rfl, Below.refl _ _⟩
      clear hX
      go_simp
      all_goals try go_bits
      all_goals try simp only [IntWalk.iteOmega]
      all_goals try go_bits
      all_goals rfl
    · refine step_intro rfl rfl fun ρ X hc hf hgl hX hp ho => ?_
      change StepOk _ { dst := _, op := Op.fieldAddr 100 (Operand.tmp 13) 2, type := _, pos := _, after := _, guard := _ } _ _ _
      have k13 : ρ (.tmp 13) = ?v1 := hp 1 (by decide)
      clear hp ho
      refine StepOk.of_run (v := ?v2) (w' := X) ?_ ⟨rfl, Below.refl _ _⟩
      clear hX
      go_simp
      all_goals try go_bits
      all_goals try simp only [IntWalk.iteOmega]
      all_goals try go_bits
      all_goals rfl
    · refine step_intro rfl rfl fun ρ X hc hf hgl hX hp ho => ?_
      change StepOk _ { dst := _, op := Op.load 95 (Operand.tmp 14), type := _, pos := _, after := _, guard := _ } _ _ _
      have k14 : ρ (.tmp 14) = ?v2 := hp 2 (by decide)
      have c2X := Grows.cell' hX c2
      have c3X := Grows.cell' hX c3
      clear hp ho
      refine StepOk.of_run (v := ?v3) (w' := X) ?_ ⟨rfl, Below.refl _ _⟩
      clear hX
      go_simp
      all_goals try go_bits
      all_goals try simp only [IntWalk.iteOmega]
      all_goals try go_bits
      all_goals rfl
    · refine step_intro rfl rfl fun ρ X hc hf hgl hX hp ho => ?_
      change StepOk _ { dst := _, op := Op.move (Operand.tmp 0), type := _, pos := _, after := _, guard := _ } _ _ _
      have k0 : ρ (.tmp 0) = .pointer (some ⟨q, 0, none⟩) := ho 0 (by decide)
      clear hp ho
      refine StepOk.of_run (v := ?v4) (w' := X) ?_ ⟨rfl, Below.refl _ _⟩
      clear hX
      go_simp
      all_goals try go_bits
      all_goals try simp only [IntWalk.iteOmega]
      all_goals try go_bits
      all_goals rfl
    · refine step_intro rfl rfl fun ρ X hc hf hgl hX hp ho => ?_
      change StepOk _ { dst := _, op := Op.nilCheck (Operand.tmp 16), type := _, pos := _, after := _, guard := _ } _ _ _
      have k16 : ρ (.tmp 16) = ?v4 := hp 4 (by decide)
      clear hp ho
      refine StepOk.of_run (v := ?v5) (w' := X) ?_ ⟨rfl, Below.refl _ _⟩
      clear hX
      go_simp
      all_goals try go_bits
      all_goals try simp only [IntWalk.iteOmega]
      all_goals try go_bits
      all_goals rfl
    · refine step_intro rfl rfl fun ρ X hc hf hgl hX hp ho => ?_
      change StepOk _ { dst := _, op := Op.fieldAddr 100 (Operand.tmp 17) 3, type := _, pos := _, after := _, guard := _ } _ _ _
      have k17 : ρ (.tmp 17) = ?v5 := hp 5 (by decide)
      clear hp ho
      refine StepOk.of_run (v := ?v6) (w' := X) ?_ ⟨rfl, Below.refl _ _⟩
      clear hX
      go_simp
      all_goals try go_bits
      all_goals try simp only [IntWalk.iteOmega]
      all_goals try go_bits
      all_goals rfl
    · refine step_intro rfl rfl fun ρ X hc hf hgl hX hp ho => ?_
      change StepOk _ { dst := _, op := Op.load 3 (Operand.tmp 18), type := _, pos := _, after := _, guard := _ } _ _ _
      have k18 : ρ (.tmp 18) = ?v6 := hp 6 (by decide)
      have c2X := Grows.cell' hX c2
      have c3X := Grows.cell' hX c3
      clear hp ho
      refine StepOk.of_run (v := ?v7) (w' := X) ?_ ⟨rfl, Below.refl _ _⟩
      clear hX
      go_simp
      all_goals try go_bits
      all_goals try simp only [IntWalk.iteOmega]
      all_goals try go_bits
      all_goals rfl
    · refine step_intro rfl rfl fun ρ X hc hf hgl hX hp ho => ?_
      change StepOk _ { dst := _, op := Op.move (Operand.tmp 1), type := _, pos := _, after := _, guard := _ } _ _ _
      have k1 : ρ (.tmp 1) = .pointer (some ⟨fb, 0, none⟩) := ho 1 (by decide)
      clear hp ho
      refine StepOk.of_run (v := ?v8) (w' := X) ?_ ⟨rfl, Below.refl _ _⟩
      clear hX
      go_simp
      all_goals try go_bits
      all_goals try simp only [IntWalk.iteOmega]
      all_goals try go_bits
      all_goals rfl
    · exact last_intro rfl
  case grd => rfl
  case rst =>
    intro a0 X hb
    have hfr := hb.frame ((12, ?v0) :: (13, ?v1) :: (14, ?v2) :: (15, ?v3) :: (16, ?v4) :: (17, ?v5) :: (18, ?v6) :: (19, ?v7) :: (20, ?v8) :: []) rfl ⟨hb.done' 0 12 rfl rfl, hb.done' 1 13 rfl rfl, hb.done' 2 14 rfl rfl, hb.done' 3 15 rfl rfl, hb.done' 4 16 rfl rfl, hb.done' 5 17 rfl rfl, hb.done' 6 18 rfl rfl, hb.done' 7 19 rfl rfl, hb.done' 8 20 rfl rfl, trivial⟩
    simp only [updL, ↓reduceIte, Nat.reduceEqDiff, Nat.reduceAdd, Nat.zero_add] at hfr
    have HX := Lib.hid hb.ext
    clear hb
    subst hfr
    change StepOk _ { dst := _, op := Op.mapUpdate 95 (Operand.tmp 15) (Operand.tmp 19) (Operand.tmp 20), type := _, pos := _, after := _, guard := _ } _ _ _
    obtain ⟨W3, hrun, hm3, hg3, hs3⟩ := (HM.out.grows HX.out).put keyF Hok.out Tryz.underlying95 Hlen.out.1 m1 Hlen.out.2.1 fb
    unfold nv pv at hrun
    have cX : W3.cell? ⟨q, 3, none⟩ = some (.int .i64 (m1 : Int)) := (World.cell?_of_block (a := ⟨q, 3, none⟩) (hg3.block q (by have := World.block_lt_of_cell? _ _ c3; have := HX.out.size; simp at *; omega) (fun e => H.out.qF (.inl (by rw [Hfm.out]; exact Option.some.inj e))))).trans (HX.out.cell' c3)
    have hB3 : But (fun k => k = q ∨ k = x.fm) w W3 := (HB1.out.mono fun k hk => .inl hk).trans' ((But.ofGrows HX.out).trans' ((But.one hg3).mono fun k hk => .inr (by rw [Hfm.out]; exact hk)))
    have hq3 : W3.heap[q]? = some (.cells (pdRow { x with made := x.made + 1 }) 100 (0, 0)) := by
      have hr3 := HX.out.heap' Hr1.out
      rw [hg3.block q (Array.getElem?_eq_some_iff.1 hr3).1 (fun e => H.out.qF (.inl (by rw [Hfm.out]; exact Option.some.inj e))), hr3]
      show some (Obj.cells ((pdRow x).setIfInBounds 3 _) _ _) = _
      unfold pdRow
      rw [show nv ({ x with made := x.made + 1 } : Px).made = .int .i64 (m1 : Int) by show nv (x.made + 1) = _; rw [Hm1.out]; rfl]
      rfl
    have HF := Lib.hid (H.out.addG fb vn vs ss Hrow.out Hfb.out hB3 hq3 (by
      have hm4 := hm3
      unfold putA at hm4
      rw [delA_id Hlen.out.2.2] at hm4
      rw [Hm1.out, Hfm.out]
      exact hm4) Hsm.out)
    have HB3 := Lib.hid hB3
    clear hB3 hq3 hm3 hg3 hs3
    unfold StepOk
    simp [go_sem, execOp, hrun]
    clear hrun
    go_wp2
    go_ret
    exact ⟨rfl, HF.out, HB3.out⟩

/-! What comes of files that are read one behind the other. -/
def ldDir : Nat → List (Nm × List Sec) → Dir
  | _, [] => []
  | i, e :: r => (e.1, i + 1) :: ldDir (i + 1) r
def ldFiles : Nat → List (Nm × List Sec) → List (Nat × (List Sec × List Sec))
  | _, [] => []
  | i, e :: r => (i + 1, (e.2, e.2)) :: ldFiles (i + 1) r
def loadS (room : Nat) (fs : List (Nm × List Sec)) : Ps := ⟨room, [ldDir 0 fs], ldFiles 0 fs, fs.length, [], 0, 0⟩
theorem ldDir_snoc (e : Nm × List Sec) : ∀ (l : List (Nm × List Sec)) (i : Nat), ldDir i (l ++ [e]) = ldDir i l ++ [(e.1, i + l.length + 1)]
  | [], i => by simp [ldDir]
  | a :: l, i => by
    show (a.1, i + 1) :: ldDir (i + 1) (l ++ [e]) = _
    rw [ldDir_snoc e l (i + 1)]
    simp only [ldDir, List.length_cons, List.cons_append]
    rw [show i + 1 + l.length + 1 = i + (l.length + 1) + 1 by omega]
theorem ldFiles_snoc (e : Nm × List Sec) : ∀ (l : List (Nm × List Sec)) (i : Nat), ldFiles i (l ++ [e]) = ldFiles i l ++ [(i + l.length + 1, (e.2, e.2))]
  | [], i => by simp [ldFiles]
  | a :: l, i => by
    show (i + 1, (a.2, a.2)) :: ldFiles (i + 1) (l ++ [e]) = _
    rw [ldFiles_snoc e l (i + 1)]
    simp only [ldFiles, List.length_cons, List.cons_append]
    rw [show i + 1 + l.length + 1 = i + (l.length + 1) + 1 by omega]
theorem ldDir_names : ∀ (l : List (Nm × List Sec)) (i : Nat), (ldDir i l).map (·.1) = l.map (·.1)
  | [], _ => rfl
  | a :: l, i => by simp [ldDir, ldDir_names l (i + 1)]
theorem ldDir_len (l : List (Nm × List Sec)) (i : Nat) : (ldDir i l).length = l.length := by
  have := congrArg List.length (ldDir_names l i)
  simpa using this
end Go.Proofs.YtoppcpiheaedlaaGreatDoor
end

section
/-
  The program's disk, loaded: the loop.
-/
namespace Go.Proofs.YtoppcpiheaedlaaGreatDoor
open Go.RowKit Go.Maps Go.MapKept
set_option linter.unusedVariables false
set_option linter.unusedSimpArgs false
attribute [local go_sem] sv nv mv pv

theorem wpList_lenA_g {α β : Type} [DecidableEq α] {P : Program} {k : TypeId} {kv : α → Value} {vv : β → Value} {w : World} {b : Nat} {l : List (α × β)} {ops : Array Oper} {rest : List Oper} {o : Oper} {a : Act} {Q : Exit → Act → World → Prop} (hg : Region.wanted o (yielded ops a.tmps) = true) (m : Operand) (t e : TypeId) (hop : o.op = Op.call { callee := Callee.builtin Builtin.len, args := #[m], argTypes := #[t] }) (h : MapA kv vv w b l) (ht : P.underlying t = some (.map k e)) (hm : a.eval m = .map (some b))
    (hK : wpList P ops Q rest (a.put o.dst (.int .i64 (l.length : Int))) w) : wpList P ops Q (o :: rest) a w := by
  refine wpList_step fun K' hK' => ?_
  rw [if_pos hg]
  have hrun := h.len ht o.type
  unfold Oper.wp
  simp [execOp, hop, resolve, invoke, builtin, hm, hrun, Result.andThen]
  exact hK' _ _ hK
theorem wpList_from2 {P : Program} {W Wv : World} {ops : Array Oper} {rest : List Oper} {o : Oper} {a : Act} {Q : Exit → Act → World → Prop} (hgd : o.guard = none) (x lo : Operand) (T : TypeId) (i : TypeInfo)
    (ho : o.op = .slice T x (some lo) none none)
    (hT : P.underlying T = some (.slice (P.elem T))) (hi' : P.info? (P.elem T) = some i) (hs : i.size = 1)
    (ad : Option Addr) (cap : Nat) (l : List UInt8) (hx : a.eval x = .slice ad l.length cap) (hv : Byt Wv (.slice ad l.length cap) l) (L : Nat) (kl : IntKind) (hlo : a.eval lo = .int kl (L : Int)) (h2 : L ≤ l.length)
    (hK : ∀ a' c', Byt Wv (.slice a' (l.length - L) c') (l.drop L) → wpList P ops Q rest (a.put o.dst (.slice a' (l.length - L) c')) W) : wpList P ops Q (o :: rest) a W := by
  refine wpList_plain hgd fun K hK' => ?_
  obtain ⟨a', c', e1, e2⟩ := sliced_byt hv h2 (Nat.le_refl _)
  have e3 : (l.drop L).take (l.length - L) = l.drop L := List.take_of_length_le (by simp)
  rw [e3] at e2
  have hcap : l.length ≤ cap := by
    obtain ⟨a0, cap0, e, h3, _⟩ := hv
    simp only [Value.slice.injEq, true_and] at e
    omega
  have hr : (Instr.sliceAt T (.slice ad l.length cap) (some (.int kl (L : Int))) none none).run P W = .ok (.slice a' (l.length - L) c') W := by
    rw [run_sliceAt_slice W T _ _ _ _ hT, run_slice_l W T ad l.length cap hT kl L (by omega) (by omega)]
    simp [sizeOf, typeInfo, hi', hs, ← e1, Result.andThen]
  unfold Oper.wp execOp
  simp only [ho, Option.map_some, Option.map_none, hx, hlo, Sem.run_bind, Sem.run_pure, hr, Result.andThen_ok, Oper.upon]
  exact hK' _ _ (hK a' c' e2)

def lastN (fs : List (Nm × List Sec)) (k : Nat) : Nm := if k = 0 then [] else (fs.getD (k - 1) ([], [])).1
structure Rising (fs : List (Nm × List Sec)) : Prop where
  len : fs.length ≤ 8
  name : ∀ e ∈ fs, nameOK e.1 = true
  size : ∀ e ∈ fs, e.2.length ≤ 4096 ∧ ∀ p ∈ e.2, p.length = 64
  up : (fs.map (·.1)).Pairwise (fun a b => a < b)
theorem Rising.last {fs : List (Nm × List Sec)} (h : Rising fs) {k : Nat} (hk : k < fs.length) : Op.bytesLess (fs[k]).1 (lastN fs k) = false ∧ ((fs[k]).1 == lastN fs k) = false := by
  have h0 : ∀ a b : List UInt8, a < b → Op.bytesLess b a = false ∧ (b == a) = false := by
    intro a b hab
    refine ⟨?_, ?_⟩
    · rw [Go.Proofs.bytesLess_eq, decide_eq_false_iff_not]
      exact List.not_lt.2 (List.le_of_lt hab)
    · rw [beq_eq_false_iff_ne]
      intro e
      subst e
      exact List.lt_irrefl _ hab
  apply h0
  unfold lastN
  have hne : (fs[k]).1 ≠ [] := fun e => by
    have := (nameOK_len (h.name _ (List.getElem_mem hk))).2
    rw [e] at this
    simp at this
  split
  · cases hq : (fs[k]).1 with
    | nil => exact absurd hq hne
    | cons a l => exact List.nil_lt_cons a l
  · have h2 := List.pairwise_iff_getElem.1 h.up (k - 1) k (by simp; omega) (by simpa using hk) (by omega)
    rw [List.getD_eq_getElem?_getD, List.getElem?_eq_getElem (by omega)]
    simpa using h2
theorem Rising.fresh {fs : List (Nm × List Sec)} (h : Rising fs) {k : Nat} (hk : k < fs.length) : ∀ e ∈ ldDir 0 (fs.take k), e.1 ≠ (fs[k]).1 := by
  intro e he
  have h1 : e.1 ∈ (fs.take k).map (·.1) := by rw [← ldDir_names (fs.take k) 0]; exact List.mem_map.2 ⟨e, he, rfl⟩
  obtain ⟨a, ha, hq⟩ := List.mem_map.1 h1
  obtain ⟨i, hi, rfl⟩ := List.mem_take_iff_getElem.1 ha
  have h2 := List.pairwise_iff_getElem.1 h.up i k (by simp; omega) (by simpa using hk) (by omega)
  rw [← hq]
  intro e2
  simp only [List.getElem_map] at h2
  rw [e2] at h2
  exact List.lt_irrefl _ h2
def recs (fs : List (Nm × List Sec)) : List UInt8 := fs.flatMap fun e => recP e.1 e.2
theorem recs_drop (fs : List (Nm × List Sec)) (k : Nat) (hk : k < fs.length) : recs (fs.drop k) = recP (fs[k]).1 (fs[k]).2 ++ recs (fs.drop (k + 1)) := by
  rw [List.drop_eq_getElem_cons hk]
  rfl
theorem addG_s {x : Px} {nb : Nat} {room : Nat} {fs : List (Nm × List Sec)} {e : Nm × List Sec} (hs : x.s = loadS room fs) (fb : Nat) (vn vs : Value) : ({ x.addG fb vn vs e.2 with dirs := [] ++ [(nb, ldDir 0 fs ++ [(e.1, fs.length + 1)])] } : Px).s = loadS room (fs ++ [e]) := by
  have h1 := congrArg Ps.room hs
  have h2 := congrArg Ps.files hs
  have h3 := congrArg Ps.made hs
  have h4 := congrArg Ps.pend hs
  have h5 := congrArg Ps.first hs
  have h6 := congrArg Ps.code hs
  simp only [Px.s, loadS] at h1 h2 h3 h4 h5 h6
  unfold Px.s Px.addG loadS
  simp only [h1, h3, h4, h5, h6, List.map_append, h2, List.nil_append, List.map_cons, List.map_nil, List.length_append, List.length_cons, List.length_nil, ldDir_snoc, ldFiles_snoc, Nat.zero_add, Fi.pure]
set_option maxRecDepth 100000 in
set_option maxHeartbeats 4000000 in
theorem pLoadI (room : Nat) (hroom : room ≤ 4096) (vb : Value) (w : World) (fs : List (Nm × List Sec)) (hfs : Rising fs) (hb : Byt w vb (recs fs)) (htk : takenP (loadS room fs) ≤ room) :
    Calls Tryz.prog 65 #[.int .i64 (room : Int), vb] w fun e w' => ∃ q x, e = .returned (.tuple #[.pointer (some ⟨q, 0, none⟩), .int .i64 0]) ∧ PD w' q x ∧ x.s = loadS room fs ∧ Grows w w' ∧ ∀ k, useP q x k → w.heap.size ≤ k := by
  obtain ⟨i5, hi5, hz5, hs5, hb5⟩ := info_parts info5
  have HE := Lib.hid (pEmpty room hroom w)
  obtain ⟨ab, cb, rfl⟩ := hb.slice
  have Hb := Lib.hid hb
  have Hfs := Lib.hid hfs
  have Htk := Lib.hid htk
  have hrI : (room : Int) ≤ 4096 := by omega
  obtain ⟨M, HM⟩ : ∃ M, Hid (fs.length = M) := ⟨_, rfl⟩
  have HM8 : Hid (M ≤ 8) := by show _ ≤ _; rw [← HM.out]; exact hfs.len
  have Hlenb : Hid (∀ k, (recs (fs.drop k)).length ≤ 2097600) := by
    intro k
    have h1 := flatMap_len (fun e : Nm × List Sec => recP e.1 e.2) 262200 (fs.drop k) fun e he => by
      have he := List.mem_of_mem_drop he
      exact rec_len (nameOK_len (hfs.name e he)).1 (hfs.size e he).1 (hfs.size e he).2
    have h2 : (fs.drop k).length ≤ 8 := by rw [List.length_drop]; have := hfs.len; omega
    show (List.flatMap _ _).length ≤ _
    omega
  obtain ⟨m0, Hm0⟩ : ∃ y, Hid ((recs fs).length = y) := ⟨_, rfl⟩
  rw [Hm0.out]
  clear hb hfs htk
  go_enter Tryz.func65, Tryz.ntmps65
  go_wp2_with fail
  refine HE.out.mono ?_
  rintro e w1 ⟨q, x0, rfl, hP, hs, hG, hU⟩
  have HP0 := Lib.hid hP
  have Hs0 := Lib.hid hs
  have HG0 := Lib.hid hG
  have HU0 := Lib.hid hU
  obtain ⟨nb, hdirs⟩ : ∃ nb, x0.dirs = [(nb, [])] := by
    have h1 := congrArg Ps.dirs hs
    simp only [Px.s, newP] at h1
    cases hd : x0.dirs with
    | nil => rw [hd] at h1; simp at h1
    | cons a l =>
      rw [hd] at h1
      simp only [List.map_cons, List.cons.injEq, List.map_eq_nil_iff] at h1
      obtain ⟨a1, a2⟩ := a
      exact ⟨a1, by rw [h1.2]; simp at h1; rw [h1.1]⟩
  have Hd0 := Lib.hid hdirs
  have HN := Lib.hid (pNow hP)
  have hnx : (nowX x0).1 = nb := by unfold nowX; rw [hdirs]; rfl
  rw [hnx] at HN
  unfold mv at HN
  clear hP hs hG hU hdirs hnx HE
  go_wp2_with fail
  refine HN.out.mono ?_
  rintro e w2 ⟨rfl, hG⟩
  have HP2 := Lib.hid (HP0.out.grows hG)
  have HG2 := Lib.hid (Grows.trans' HG0.out hG)
  clear hG HN
  go_wp2
  go_loopw [1, 9] (fun t1 t9 wr => ∃ (k : Nat) (x : Px) (a : Option Addr) (c : Nat) (sl : ByteArray), k ≤ M ∧ t1 = .slice a (recs (fs.drop k)).length c ∧ t9 = .string sl ∧ Hid (sl = ⟨(lastN fs k).toArray⟩) ∧ Hid (Byt w (.slice a (recs (fs.drop k)).length c) (recs (fs.drop k))) ∧
      Hid (PD wr q x) ∧ Hid (x.s = loadS room (fs.take k)) ∧ Hid (x.dirs = [(nb, ldDir 0 (fs.take k))]) ∧ Hid (∀ j, useP q x j → w.heap.size ≤ j) ∧ Hid (Grows w wr))
    (fun t1 _ _ => match t1 with | .slice _ n _ => n | _ => 0)
  case atStart => exact ⟨0, x0, ab, cb, _, by omega, by rw [List.drop_zero, Hm0.out], rfl, rfl, by show Byt _ _ _; rw [List.drop_zero]; exact Hb.out, HP2.out, Hs0.out, Hd0.out, HU0.out, HG2.out⟩
  case round =>
    obtain ⟨k, x, a, c, sl, hkM, rfl, rfl, Hsl, HbK, HPk, Hsk, Hdk, HUk, HGk⟩ := hrel
    by_cases hlt : k < M
    · have hkn : k < fs.length := by rw [HM.out]; exact hlt
      obtain ⟨nm, ss, hek⟩ : ∃ nm ss, fs[k]'hkn = (nm, ss) := ⟨_, _, rfl⟩
      have hdrop := recs_drop fs k hkn
      rw [hek] at hdrop
      have hlast := Hfs.out.last hkn
      have hfresh := Hfs.out.fresh hkn
      have hname := Hfs.out.name _ (List.getElem_mem hkn)
      have hsize := Hfs.out.size _ (List.getElem_mem hkn)
      rw [hek] at hlast hfresh hname hsize
      have hll := Hlenb.out k
      have h16 := nameOK_len hname
      have hrl : (recP nm ss).length = (putB nm).length + (put ss.length).length + ss.length * 64 := (rec_get h16.1 hsize.1 hsize.2 []).2.2.2
      have hpl := putL_length 9 ss.length
      have hrl1 : 1 ≤ (recP nm ss).length := by have : 1 ≤ (put ss.length).length := hpl.1; omega
      have HSV := Lib.hid (pSaved _ _ wr (HbK.out.grows HGk.out) nm ss _ hdrop hname hsize.1 hsize.2 (by omega))
      have Hdrop := Lib.hid hdrop
      obtain ⟨n0, Hn0⟩ : ∃ y, Hid ((recs (fs.drop k)).length = y) := ⟨_, rfl⟩
      obtain ⟨rl, Hrl⟩ : ∃ y, Hid ((recP nm ss).length = y) := ⟨_, rfl⟩
      have HbK' : Hid (Byt w (.slice a (recs (fs.drop k)).length c) (recs (fs.drop k))) := HbK.out
      have hn0e : n0 = rl + (recs (fs.drop (k + 1))).length := by rw [← Hn0.out, ← Hrl.out, ← List.length_append, ← hdrop]
      have hn0rl : rl ≤ n0 ∧ (recs (fs.drop (k + 1))).length = n0 - rl := ⟨by omega, by omega⟩
      clear hn0e
      rw [Hn0.out] at HSV hll ⊢
      rw [Hrl.out] at HSV hrl1
      have hn0I : (0 : Int) < (n0 : Int) := by omega
      have hrlne : ((rl : Int) == 0) = false := by rw [beq_eq_false_iff_ne]; omega
      obtain ⟨sn, Hsn⟩ : ∃ y : ByteArray, Hid (⟨nm.toArray⟩ = y) := ⟨_, rfl⟩
      have hcmp : (Op.bytesLess sn.toList sl.toList || (sn.toList == sl.toList)) = false := by
        rw [← Hsn.out, Hsl.out, ByteArray.toList_mk, ByteArray.toList_mk, hlast.1, hlast.2]; rfl
      have Hfresh := Lib.hid hfresh
      have Hname := Lib.hid hname
      have H16 := Lib.hid h16
      have Hek := Lib.hid hek
      have Hr := Lib.hid hn0rl
      have hkI : (k : Int) < 8 := by have := HM8.out; omega
      have hdl : (ldDir 0 (fs.take k)).length = k := by rw [ldDir_len, List.length_take]; omega
      have Hdl := Lib.hid hdl
      unfold sv pv nv at HSV
      rw [Hsn.out] at HSV
      have hlt8 : ¬ (8 : Int) ≤ (k : Int) := by omega
      clear hdrop hlast hfresh hname hsize h16 hrl hpl hek hdl hn0rl
      go_wp2_with fail
      refine HSV.out.mono ?_
      rintro e w3 ⟨fb, vn, vs, rfl, hg3, hn3⟩
      have hP3 := HPk.out.grows hg3
      have HM3 := Lib.hid (hP3.dirs.map (nb, ldDir 0 (fs.take k)) (by rw [Hdk.out]; simp))
      have HP3 := Lib.hid hP3
      have HG3 := Lib.hid (Grows.trans' HGk.out hg3)
      have Hn3 := Lib.hid hn3
      have hmd : x.made = k ∧ x.fs.length = k := by
        have h1 := congrArg Ps.made Hsk.out
        have h2 := congrArg (fun s : Ps => s.files.length) Hsk.out
        simp only [Px.s, loadS] at h1 h2
        have h3 : (ldFiles 0 (fs.take k)).length = (fs.take k).length := by
          generalize fs.take k = l
          have : ∀ (l : List (Nm × List Sec)) i, (ldFiles i l).length = l.length := fun l => by
            induction l with
            | nil => intro i; rfl
            | cons a l ih => intro i; simp [ldFiles, ih (i + 1)]
          exact this l 0
        have h4 : (fs.take k).length = k := by rw [List.length_take]; omega
        rw [h3, h4, List.length_map] at h2
        rw [h4] at h1
        exact ⟨h1, h2⟩
      have HAd := Lib.hid (pAddG hP3 fb vn vs ss hn3.ok (fun f hf => by
        have hlt1 := HPk.out.ltU (.inr (.inr (.inl (.inr ⟨f, hf, .inl rfl⟩))))
        refine ⟨fun e => by have := hn3.le; rw [e] at hlt1; omega, fun j hj hj2 => ?_⟩
        have hlt2 := HPk.out.ltU (.inr (.inr (.inl (.inr ⟨f, hf, .inr hj⟩))))
        have := hn3.rows j hj2
        omega) (by have := HM8.out; omega))
      rw [hmd.1] at HAd
      have Hmd := Lib.hid hmd
      have Hgw3 : Hid (wr.heap.size ≤ w3.heap.size) := hg3.size
      clear hP3 hg3 hn3 HSV hmd
      unfold nv at HAd
      go_wp2_with (first
        | (refine wpList_lenA_g rfl _ 103 3 rfl HM3.out Tryz.underlying103 rfl ?_; rw [Hdl.out])
        | fail)
      refine HAd.out.mono ?_
      rintro e w4 ⟨rfl, hP4, hB4⟩
      have hP4' := hP4
      have HM4 : Hid (MapA sv nv w4 nb (ldDir 0 (fs.take k))) := hP4.dirs.map (nb, ldDir 0 (fs.take k)) (by show _ ∈ x.dirs; rw [Hdk.out]; simp)
      have Hok4 : Hid (∀ p ∈ ldDir 0 (fs.take k), okS p.1) := hP4.okD (d := (nb, ldDir 0 (fs.take k))) (by show _ ∈ x.dirs; rw [Hdk.out]; simp)
      have Hokn : Hid (okS nm) := by show nm.length ≤ maxLen; have := H16.out.1; unfold maxLen; omega
      have Hll4 : Hid ((ldDir 0 (fs.take k)).length < maxLen) := by show _ < _; rw [Hdl.out]; unfold maxLen; omega
      have Hsvn : Hid (Value.string sn = sv nm) := by show _ = _; unfold sv; rw [Hsn.out]
      have HP4 := Lib.hid hP4
      have HB4 := Lib.hid hB4
      have Hrle : Hid (rl ≤ (recs (fs.drop k)).length) := by show _ ≤ _; rw [Hn0.out]; exact Hr.out.1
      have Hnext : Hid ((recs (fs.drop k)).drop rl = recs (fs.drop (k + 1)) ∧ (recs (fs.drop k)).length - rl = (recs (fs.drop (k + 1))).length) := by
        show _ ∧ _
        refine ⟨?_, by rw [Hn0.out, Hr.out.2]⟩
        rw [Hdrop.out, ← Hrl.out, List.drop_left]
      clear hP4 hP4' hB4 HAd
      go_wp2_with (first
        | (at_mapUpdate; refine wpList_putA rfl _ _ _ 103 3 rfl HM4.out keyD Hok4.out Tryz.underlying103 Hll4.out nm Hokn.out (k + 1) rfl Hsvn.out rfl ?_; intro w5 hm5 hg5 hs5; have HM5 := Lib.hid hm5; have Hg5 := Lib.hid hg5; clear hm5 hg5 hs5)
        | (refine wpList_from2 rfl _ _ 36 i5 rfl Tryz.underlying36 hi5 hs5 a c (recs (fs.drop k)) (by rw [Hn0.out]; rfl) HbK'.out rl .i64 rfl Hrle.out ?_; intro a6 c6 hb6; rw [Hnext.out.1, Hnext.out.2] at hb6; rw [Hnext.out.2]; have Hb6 := Lib.hid hb6; clear hb6))
      have hm5 := HM5.out
      have hput : putA (ldDir 0 (fs.take k)) nm (k + 1) = ldDir 0 (fs.take k) ++ [(nm, (fs.take k).length + 1)] := by
        unfold putA
        rw [delA_id Hfresh.out, List.length_take, HM.out, Nat.min_eq_left (by omega)]
      rw [hput] at hm5
      have hk1 : fs.take (k + 1) = fs.take k ++ [(nm, ss)] := by rw [List.take_succ_eq_append_getElem (by rw [HM.out]; exact hlt), Hek.out]
      have hturn := HP4.out.turnDir [] nb (ldDir 0 (fs.take k)) (ldDir 0 (fs.take k) ++ [(nm, (fs.take k).length + 1)]) (by show x.dirs = _; rw [Hdk.out]; rfl) (by simp) Hg5.out hm5 (by
        refine ⟨?_, ?_⟩
        · rw [List.length_append, Hdl.out]; simp; have := HM8.out; omega
        · intro e he
          rcases List.mem_append.1 he with he | he
          · exact (HP4.out.wf.names (nb, ldDir 0 (fs.take k)) (by show _ ∈ x.dirs; rw [Hdk.out]; simp)).2 e he
          · rw [List.mem_singleton.1 he]
            refine ⟨Hname.out, ⟨x.made + 1, fb, vn, vs, ss, ss⟩, List.mem_append.2 (.inr (by simp)), ?_⟩
            show x.made + 1 = (fs.take k).length + 1
            rw [Hmd.out.1, List.length_take, HM.out, Nat.min_eq_left (by omega)])
      have hsn := addG_s (nb := nb) (e := (nm, ss)) Hsk.out fb vn vs
      have Hturn := Lib.hid hturn
      have Hsn2 := Lib.hid hsn
      have hU5 : ∀ j, useP q ({ x.addG fb vn vs ss with dirs := [] ++ [(nb, ldDir 0 (fs.take k) ++ [(nm, (fs.take k).length + 1)])] } : Px) j → w.heap.size ≤ j := by
        intro j hj
        have hw3 := Nat.le_trans HGk.out.size Hgw3.out
        rcases hj with hj | hj | hj | hj
        · exact HUk.out j (.inl hj)
        · rcases hj with hj | ⟨d, hd, rfl⟩
          · exact HUk.out j (.inr (.inl (.inl hj)))
          · refine HUk.out _ (.inr (.inl (.inr ⟨(nb, ldDir 0 (fs.take k)), by rw [Hdk.out]; simp, ?_⟩)))
            have hd : d ∈ [(nb, _)] := hd
            rw [List.mem_singleton.1 hd]
        · rcases hj with hj | ⟨f, hf, hj⟩
          · exact HUk.out j (.inr (.inr (.inl (.inl hj))))
          · rcases List.mem_append.1 hf with hf | hf
            · exact HUk.out j (.inr (.inr (.inl (.inr ⟨f, hf, hj⟩))))
            · rw [List.mem_singleton.1 hf] at hj
              rcases hj with hj | hj
              · have h1 := Hn3.out.le
                have h2 : j = fb := hj
                have h3 := HGk.out.size
                omega
              · have h1 := Hn3.out.rows j hj
                have h3 := HGk.out.size
                omega
        · exact HUk.out j (.inr (.inr (.inr hj)))
      have hG5 : Grows w w5 := by
        have h1 := But.below HB4.out HG3.out.size (fun j hj => by
          rcases hj with hj | hj
          · rw [hj]; exact HUk.out q (.inl rfl)
          · rw [hj]; exact HUk.out _ (.inr (.inr (.inl (.inl rfl)))))
        exact (HG3.out.trans h1).grown Hg5.out (HG3.out.trans h1).size (fun j hj => by
          have h2 := HUk.out nb (.inr (.inl (.inr ⟨(nb, ldDir 0 (fs.take k)), by rw [Hdk.out]; simp, rfl⟩)))
          have h3 := Option.some.inj hj
          omega)
      have HU5 := Lib.hid hU5
      have HG5 := Lib.hid hG5
      have Hdl5 : Hid (ldDir 0 (fs.take k) ++ [(nm, (fs.take k).length + 1)] = ldDir 0 (fs.take (k + 1))) := by show _ = _; rw [hk1, ldDir_snoc]; simp
      have Hk1 := Lib.hid hk1
      clear hm5 hput hk1 hturn hsn hU5 hG5
      go_wp2
      go_roundw
      case rel =>
        refine ⟨k + 1, _, a6, c6, sn, by omega, rfl, rfl, ?_, Hb6.out, Hturn.out, ?_, ?_, HU5.out, HG5.out⟩
        · show sn = _
          rw [← Hsn.out]
          unfold lastN
          rw [if_neg (by omega), Nat.add_sub_cancel, List.getD_eq_getElem?_getD, List.getElem?_eq_getElem (by rw [HM.out]; exact hlt), Hek.out]
          rfl
        · show _ = _
          rw [Hk1.out]
          exact Hsn2.out
        · show [] ++ [(nb, _)] = _
          rw [Hdl5.out]
          rfl
      case measure =>
        have := Hr.out
        first | omega | (simp; omega)
    · have hk : k = M := by omega
      subst hk
      have h0 : recs (fs.drop k) = [] := by rw [List.drop_of_length_le (by rw [HM.out]; exact Nat.le_refl _)]; rfl
      have HT := Lib.hid (pTaken HPk.out)
      have hk9 : fs.take k = fs := List.take_of_length_le (by rw [HM.out]; exact Nat.le_refl _)
      rw [Hsk.out, hk9] at HT
      have htI : ¬ (room : Int) < ((takenP (loadS room fs) : Nat) : Int) := by have := Htk.out; omega
      obtain ⟨tk, Htk2⟩ : ∃ y, Hid (takenP (loadS room fs) = y) := ⟨_, rfl⟩
      rw [Htk2.out] at HT htI
      rw [h0]
      have Hk9 := Lib.hid hk9
      clear h0 hk9
      go_wp2_with fail
      refine HT.out.mono ?_
      rintro e w9 ⟨rfl, hg9⟩
      have HP9 := Lib.hid (HPk.out.grows hg9)
      have HG9 := Lib.hid (Grows.trans' HGk.out hg9)
      clear hg9 HT
      go_wp2
      go_ret2
      exact ⟨q, x, rfl, HP9.out, by rw [Hsk.out, Hk9.out], HG9.out, HUk.out⟩
end Go.Proofs.YtoppcpiheaedlaaGreatDoor
end

section
/-
  What holds of a disk behind so many deeds, none of which grows a file beyond 100 sectors.
-/
namespace Go.Proofs.YtoppcpiheaedlaaGreatDoor
set_option linter.unusedSectionVars false
set_option linter.unusedVariables false
set_option linter.unusedSimpArgs false

abbrev FileL := List (Nat × (List Sec × List Sec))
def SizeOk (l : FileL) : Prop := ∀ e ∈ l, e.2.1.length ≤ 100 ∧ e.2.2.length = e.2.1.length
def DirOk (l : FileL) (made : Nat) (d : Dir) : Prop := (d.map (·.1)).Nodup ∧ (d.map (·.2)).Nodup ∧ ∀ e ∈ d, 1 ≤ e.2 ∧ e.2 ≤ made ∧ (findA l e.2).isSome
structure Inv (c : Nat) (s : Ps) : Prop where
  room : s.room = 4096
  code : 0 ≤ s.code ∧ s.code ≤ 100
  dirs : s.dirs.length ≤ c + 1
  made : s.made ≤ c
  files : s.files.length ≤ c
  pend : s.pend.length ≤ c
  dir : ∀ d ∈ s.dirs, DirOk s.files s.made d
  size : SizeOk s.files
  keys : ∀ e ∈ s.files, e.1 ≤ s.made
theorem Inv.mono {c c' : Nat} {s : Ps} (h : Inv c s) (hc : c ≤ c') : Inv c' s :=
  ⟨h.room, h.code, by have := h.dirs; omega, by have := h.made; omega, by have := h.files; omega, by have := h.pend; omega, h.dir, h.size, h.keys⟩
theorem inv_new : Inv 0 (newP 4096) := ⟨rfl, by decide, by simp [newP], by simp [newP], by simp [newP], by simp [newP], by
  intro d hd
  simp [newP] at hd
  subst hd
  exact ⟨by simp, by simp, by simp⟩, by intro e he; simp [newP] at he, by intro e he; simp [newP] at he⟩
section
variable {c : Nat} {s : Ps}
theorem inv_begin (h : Inv c s) : Inv c (beginP s).2 := by
  unfold beginP
  split
  · exact h
  · split
    · exact ⟨h.room, h.code, h.dirs, h.made, h.files, h.pend, h.dir, h.size, h.keys⟩
    · exact ⟨h.room, by show (0 : Int) ≤ 0 ∧ (0 : Int) ≤ 100; omega, h.dirs, h.made, h.files, h.pend, h.dir, h.size, h.keys⟩
theorem inv_guard (h : Inv c s) {k : Ps → Int × Ps} (hk : ∀ s, Inv c s → Inv (c + 1) (k s).2) : Inv (c + 1) (guardP s k).2 := by
  unfold guardP
  split
  · exact (inv_begin h).mono (by omega)
  · exact hk _ (inv_begin h)
theorem DirOk.nil {l : FileL} {m : Nat} : DirOk l m [] := ⟨by simp, by simp, by simp⟩
theorem Inv.now (h : Inv c s) : DirOk s.files s.made (nowP s) := by
  rcases last_mem' (a := ([] : Dir)) (l := s.dirs) with h' | h'
  · unfold nowP; rw [h']; exact DirOk.nil
  · exact h.dir _ h'
theorem DirOk.del {l : FileL} {m : Nat} {d : Dir} (h : DirOk l m d) (a : Nm) : DirOk l m (delA d a) :=
  ⟨del_nodup h.1 a, h.2.1.sublist (del_snd_sub a), fun e he => h.2.2 e (List.mem_filter.1 he).1⟩
theorem DirOk.put {l : FileL} {m : Nat} {d : Dir} (h : DirOk l m d) (a : Nm) (n : Nat) (hn : 1 ≤ n ∧ n ≤ m ∧ (findA l n).isSome) (hf : ∀ e ∈ d, e.2 ≠ n) : DirOk l m (putA d a n) := by
  refine ⟨put_nodup h.1 a n, ?_, ?_⟩
  · unfold putA
    rw [List.map_append, List.nodup_append]
    refine ⟨h.2.1.sublist (del_snd_sub a), by simp, ?_⟩
    intro x hx y hy e
    obtain ⟨p, hp, rfl⟩ := List.mem_map.1 hx
    simp at hy
    exact hf p (List.mem_filter.1 hp).1 (e.trans hy)
  · intro e he
    unfold putA at he
    rcases List.mem_append.1 he with he | he
    · exact h.2.2 e (List.mem_filter.1 he).1
    · simp at he; subst he; exact hn
theorem DirOk.files {l l' : FileL} {m m' : Nat} {d : Dir} (h : DirOk l m d) (hm : m ≤ m') (hl : ∀ n, (findA l n).isSome → (findA l' n).isSome) : DirOk l' m' d :=
  ⟨h.1, h.2.1, fun e he => ⟨(h.2.2 e he).1, Nat.le_trans (h.2.2 e he).2.1 hm, hl _ (h.2.2 e he).2.2⟩⟩
theorem inv_dir (h : Inv c s) (d : Dir) (hd : DirOk s.files s.made d) : Inv (c + 1) { s with dirs := s.dirs ++ [d] } := by
  refine ⟨h.room, h.code, ?_, by have := h.made; show s.made ≤ _; omega, by have := h.files; show s.files.length ≤ _; omega, by have := h.pend; show s.pend.length ≤ _; omega, ?_, h.size, h.keys⟩
  · show (s.dirs ++ [d]).length ≤ _
    rw [List.length_append]
    have := h.dirs
    simp
    omega
  · intro x hx
    rcases List.mem_append.1 hx with hx | hx
    · exact h.dir x hx
    · simp at hx; subst hx; exact hd
theorem inv_create (h : Inv c s) (nm : Nm) : Inv (c + 1) (createP s nm).2 := inv_guard h fun s h => by
  split
  · exact h.mono (by omega)
  · split
    · exact h.mono (by omega)
    · split
      · exact h.mono (by omega)
      · have happ : ∀ n, (findA s.files n).isSome → (findA (s.files ++ [(s.made + 1, (([] : List Sec), ([] : List Sec)))]) n).isSome := by
          intro n hn
          rw [findA_app]
          cases hq : findA s.files n with
          | some v => rfl
          | none => rw [hq] at hn; cases hn
        refine ⟨h.room, h.code, ?_, by have := h.made; show s.made + 1 ≤ _; omega, ?_, by have := h.pend; show s.pend.length ≤ _; omega, ?_, ?_, ?_⟩
        · show (s.dirs ++ [_]).length ≤ _
          rw [List.length_append]
          have := h.dirs
          simp
          omega
        · show (s.files ++ [_]).length ≤ _
          rw [List.length_append]
          have := h.files
          simp
          omega
        · intro x hx
          rcases List.mem_append.1 hx with hx | hx
          · exact (h.dir x hx).files (Nat.le_succ _) happ
          · simp at hx; subst hx
            refine (h.now.files (Nat.le_succ _) happ).put nm _ ⟨by omega, Nat.le_refl _, ?_⟩ ?_
            · rw [findA_app]
              have : findA s.files (s.made + 1) = none := findA_none fun p hp hq => by have := h.keys p hp; omega
              rw [this]
              simp [findA]
            · intro e he hq
              have := (h.now.2.2 e he).2.1
              omega
        · intro e he
          rcases List.mem_append.1 he with he | he
          · exact h.size e he
          · simp at he; subst he; simp
        · intro e he
          show e.1 ≤ s.made + 1
          rcases List.mem_append.1 he with he | he
          · have := h.keys e he; omega
          · simp at he; subst he; exact Nat.le_refl _
theorem inv_remove (h : Inv c s) (nm : Nm) : Inv (c + 1) (removeP s nm).2 := inv_guard h fun s h => by
  split
  · exact h.mono (by omega)
  · exact inv_dir h _ (h.now.del nm)
theorem inv_rename (h : Inv c s) (a b : Nm) : Inv (c + 1) (renameP s a b).2 := inv_guard h fun s h => by
  split
  · exact h.mono (by omega)
  · rename_i n hf
    split
    · exact h.mono (by omega)
    · have hm := findA_mem hf
      refine inv_dir h _ ((h.now.del a).put b n (h.now.2.2 _ hm) ?_)
      intro e he hq
      have h1 := List.mem_filter.1 he
      have h2 : e = (a, n) := by
        have hnd := h.now.2.1
        have := List.pairwise_map.1 hnd
        rcases List.getElem_of_mem h1.1 with ⟨i, hi, hie⟩
        rcases List.getElem_of_mem hm with ⟨j, hj, hje⟩
        rcases Nat.lt_trichotomy i j with hij | hij | hij
        · have := List.pairwise_iff_getElem.1 this i j hi hj hij
          rw [hie, hje] at this
          exact absurd hq this
        · subst hij; rw [← hie, hje]
        · have := List.pairwise_iff_getElem.1 this j i hj hi hij
          rw [hie, hje] at this
          exact absurd hq.symm this
      rw [h2] at h1
      simp at h1
theorem fileP_ok (h : Inv c s) (n : Nat) : (fileP s n).1.length ≤ 100 ∧ (fileP s n).2.length = (fileP s n).1.length := by
  unfold fileP
  cases hf : findA s.files n with
  | none => simp
  | some v => exact h.size _ (findA_mem hf)
theorem inv_set (h : Inv c s) (n : Nat) (v : List Sec × List Sec) (p : List Wr) (hv : v.1.length ≤ 100 ∧ v.2.length = v.1.length) (hp : p.length ≤ c + 1) : Inv (c + 1) { s with files := setFile s.files n v, pend := p } := by
  refine ⟨h.room, h.code, by have := h.dirs; show s.dirs.length ≤ _; omega, by have := h.made; show s.made ≤ _; omega, ?_, hp, ?_, ?_, setFile_keys h.keys⟩
  · show (setFile s.files n v).length ≤ _
    unfold setFile
    rw [List.length_map]
    have := h.files
    omega
  · intro d hd
    refine (h.dir d hd).files (Nat.le_refl _) fun m hm => ?_
    rw [findA_setFile]
    split
    · cases hq : findA s.files m with
      | none => rw [hq] at hm; cases hm
      | some x => rfl
    · exact hm
  · intro e he
    unfold setFile at he
    obtain ⟨x, hx, rfl⟩ := List.mem_map.1 he
    split
    · exact hv
    · exact h.size x hx
theorem inv_grow (h : Inv c s) (nm : Nm) (n : Int) (hn : ¬ (100 < n ∧ n ≤ 4096)) : Inv (c + 1) (growP s nm n).2 := inv_guard h fun s h => by
  split
  · exact h.mono (by omega)
  · rename_i k hf
    split
    · exact h.mono (by omega)
    · rename_i h1
      split
      · exact h.mono (by omega)
      · have h2 := fileP_ok h k
        refine inv_set h k _ _ ⟨?_, ?_⟩ (by have := h.pend; omega)
        · rw [List.length_append, List.length_replicate]; omega
        · rw [List.length_append, List.length_append, h2.2]
theorem inv_write (h : Inv c s) (nm : Nm) (n : Int) (p : Sec) : Inv (c + 1) (writeP s nm n p).2 := inv_guard h fun s h => by
  split
  · exact h.mono (by omega)
  · rename_i k hf
    split
    · exact h.mono (by omega)
    · split
      · exact h.mono (by omega)
      · have h2 := fileP_ok h k
        exact inv_set h k _ _ ⟨by rw [List.length_set]; exact h2.1, by rw [List.length_set]; exact h2.2⟩ (by rw [List.length_append]; have := h.pend; simp; omega)
theorem inv_sync (h : Inv c s) (nm : Nm) : Inv (c + 1) (syncP s nm).2 := inv_guard h fun s h => by
  split
  · exact h.mono (by omega)
  · rename_i k hf
    have h2 := fileP_ok h k
    exact inv_set h k _ _ ⟨h2.1, rfl⟩ (by have := List.length_filter_le (fun w : Wr => !(w.id == k)) s.pend; have := h.pend; omega)
theorem settle_there {l : FileL} {m : Nat} {d : Dir} (h : DirOk l m d) : DirOk (l.filter fun f => d.any fun e => e.2 == f.1) m d :=
  ⟨h.1, h.2.1, fun e he => ⟨(h.2.2 e he).1, (h.2.2 e he).2.1, by
    rw [findA_filter (fun n => d.any fun z => z.2 == n), if_pos (List.any_eq_true.2 ⟨e, he, by simp⟩)]
    exact (h.2.2 e he).2.2⟩⟩
theorem inv_settle (h : Inv c s) (d : Dir) (hd : DirOk s.files s.made d) : Inv c (settleP s d) := by
  refine ⟨h.room, h.code, by show 1 ≤ c + 1; omega, h.made, Nat.le_trans (List.length_filter_le _ _) h.files, h.pend, ?_, fun e he => h.size e (List.mem_filter.1 he).1, fun e he => h.keys e (List.mem_filter.1 he).1⟩
  intro x hx
  have hx : x ∈ [d] := hx
  simp at hx; subst hx
  exact settle_there hd
theorem inv_syncDir (h : Inv c s) : Inv (c + 1) (syncDirP s).2 := inv_guard h fun s h => (inv_settle h _ h.now).mono (by omega)
theorem inv_arm (h : Inv c s) (n k : Int) : Inv c (armP s n k) := by
  unfold armP
  split
  · rename_i hq
    exact ⟨h.room, by show 0 ≤ k ∧ k ≤ 100; omega, h.dirs, h.made, h.files, h.pend, h.dir, h.size, h.keys⟩
  · exact ⟨h.room, by show (0 : Int) ≤ 0 ∧ (0 : Int) ≤ 100; omega, h.dirs, h.made, h.files, h.pend, h.dir, h.size, h.keys⟩
theorem keep_size {l : FileL} (h : SizeOk l) (w : Wr) : SizeOk (keepP l w) := by
  intro e he
  unfold keepP at he
  obtain ⟨x, hx, rfl⟩ := List.mem_map.1 he
  split
  · have := h x hx
    exact ⟨this.1, by rw [List.length_set]; exact this.2⟩
  · exact h x hx
theorem keep_len (l : FileL) (w : Wr) : (keepP l w).length = l.length := by unfold keepP; simp
theorem keep_there (l : FileL) (w : Wr) (n : Nat) (h : (findA l n).isSome) : (findA (keepP l w) n).isSome := by
  rw [findA_keep]
  split
  · cases hq : findA l n with
    | none => rw [hq] at h; cases h
    | some x => rfl
  · exact h
theorem keeps_all : ∀ (ws : List Wr) (l : FileL), SizeOk l → SizeOk (ws.foldl keepP l) ∧ (ws.foldl keepP l).length = l.length ∧ ∀ n, (findA l n).isSome → (findA (ws.foldl keepP l) n).isSome
  | [], l, h => ⟨h, rfl, fun _ h => h⟩
  | w :: ws, l, h => by
    obtain ⟨h1, h2, h3⟩ := keeps_all ws (keepP l w) (keep_size h w)
    exact ⟨h1, h2.trans (keep_len l w), fun n hn => h3 n (keep_there l w n hn)⟩
theorem inv_crash (h : Inv c s) (n : Int) (keep : List Int) : Inv c (crashP s n keep) := by
  have hd : DirOk s.files s.made (s.dirs.getD (whichP s n) []) := by
    by_cases hl : whichP s n < s.dirs.length
    · rw [List.getD_eq_getElem?_getD, List.getElem?_eq_getElem hl]; exact h.dir _ (List.getElem_mem hl)
    · rw [List.getD_eq_getElem?_getD, List.getElem?_eq_none (by omega)]; exact DirOk.nil
  have h1 := inv_settle h _ hd
  unfold crashP
  generalize s.dirs.getD (whichP s n) [] = D at *
  obtain ⟨k1, k2, k3⟩ := keeps_all (keptF keep s.pend 0) (settleP s D).files h1.size
  refine ⟨h1.room, by show (0 : Int) ≤ 0 ∧ (0 : Int) ≤ 100; omega, h1.dirs, h1.made, ?_, by show 0 ≤ c; omega, ?_, ?_, ?_⟩
  · show (List.map _ _).length ≤ c
    rw [List.length_map, k2]
    exact h1.files
  · intro d hd'
    refine (h1.dir d hd').files (Nat.le_refl _) fun m hm => ?_
    show (findA (List.map (fun e : Nat × (List Sec × List Sec) => (e.1, (e.2.2, e.2.2))) _) m).isSome
    rw [findA_map (fun v : List Sec × List Sec => (v.2, v.2))]
    have := k3 m hm
    cases hq : findA (List.foldl keepP (settleP s D).files (keptF keep s.pend 0)) m with
    | none => rw [hq] at this; cases this
    | some x => rfl
  · intro e he
    obtain ⟨x, hx, rfl⟩ := List.mem_map.1 he
    have := k1 x hx
    exact ⟨by show x.2.2.length ≤ 100; omega, rfl⟩
  · intro e he
    obtain ⟨x, hx, rfl⟩ := List.mem_map.1 he
    exact foldl_keep_keys _ h1.keys x hx
theorem inv_do (h : Inv c s) (x : Dp) (hx : ¬ (x.kind = 3 ∧ 100 < x.n ∧ x.n ≤ 4096)) : Inv (c + 1) (doP s x).2 := by
  unfold doP
  by_cases h0 : x.kind = 0
  · simp only [if_pos h0]; exact inv_create h _
  simp only [if_neg h0]
  by_cases h1 : x.kind = 1
  · simp only [if_pos h1]; exact inv_remove h _
  simp only [if_neg h1]
  by_cases h2 : x.kind = 2
  · simp only [if_pos h2]; exact inv_rename h _ _
  simp only [if_neg h2]
  by_cases h3 : x.kind = 3
  · simp only [if_pos h3]; exact inv_grow h _ _ fun hq => hx ⟨h3, hq⟩
  simp only [if_neg h3]
  by_cases h4 : x.kind = 4
  · simp only [if_pos h4]; exact inv_write h _ _ _
  simp only [if_neg h4]
  by_cases h5 : x.kind = 5
  · simp only [if_pos h5]
    have : (readP s x.a x.n).2 = (beginP s).2 := by
      unfold readP
      split
      · rfl
      · split
        · rfl
        · split <;> rfl
    rw [this]
    exact (inv_begin h).mono (by omega)
  simp only [if_neg h5]
  by_cases h6 : x.kind = 6
  · simp only [if_pos h6]; exact inv_sync h _
  simp only [if_neg h6]
  by_cases h7 : x.kind = 7
  · simp only [if_pos h7]; exact inv_syncDir h
  simp only [if_neg h7]
  by_cases h8 : x.kind = 8
  · simp only [if_pos h8]; exact (inv_arm h _ _).mono (by omega)
  simp only [if_neg h8]
  by_cases h9 : x.kind = 9
  · simp only [if_pos h9]; exact (inv_crash h _ _).mono (by omega)
  simp only [if_neg h9]
  exact h.mono (by omega)
end
end Go.Proofs.YtoppcpiheaedlaaGreatDoor
end

section
/-
  What is saved and loaded is alike to what is left behind a crash.
-/
namespace Go.Proofs.YtoppcpiheaedlaaGreatDoor
set_option linter.unusedSectionVars false
set_option linter.unusedVariables false
set_option linter.unusedSimpArgs false

def savedFs (s : Ps) : List (Nm × List Sec) := (sortN ((safeP s).map (·.1))).map fun nm => (nm, secsP s (safeP s) nm)
theorem save_recs (s : Ps) : saveP s = recs (savedFs s) := by
  unfold saveP recs savedFs
  rw [List.flatMap_map]
theorem sortN_perm' (l : List Nm) : (sortN l).Perm l := List.mergeSort_perm _ _
theorem sortN_up {l : List Nm} (h : l.Nodup) : (sortN l).Pairwise (fun a b => a < b) := by
  have tr : ∀ a b c : List UInt8, leB a b = true → leB b c = true → leB a c = true := fun a b c h1 h2 => by simp only [leB, decide_eq_true_eq] at *; exact List.le_trans h1 h2
  have to : ∀ a b : List UInt8, (leB a b || leB b a) = true := fun a b => by simp only [leB, Bool.or_eq_true, decide_eq_true_eq]; exact List.le_total a b
  have h1 := List.pairwise_mergeSort tr to l
  have h2 : (sortN l).Nodup := (sortN_perm' l).nodup_iff.2 h
  refine (h1.and h2).imp ?_
  rintro a b ⟨h3, h4⟩
  simp only [leB, decide_eq_true_eq] at h3
  exact List.not_le.1 fun h5 => h4 (List.le_antisymm h3 h5)
theorem PD.safe {w : World} {q : Nat} {x : Px} (h : PD w q x) : ∃ d ∈ x.dirs, safeP x.s = d.2 := by
  cases hd : x.dirs with
  | nil => exact absurd hd h.wf.ne
  | cons a l => exact ⟨a, by simp, by unfold safeP Px.s; rw [hd]; rfl⟩
theorem secs_of {w : World} {q : Nat} {x : Px} (h : PD w q x) {nm : Nm} (hn : nm ∈ (safeP x.s).map (·.1)) : ∃ n f, findA (safeP x.s) nm = some n ∧ f ∈ x.fs ∧ f.num = n ∧ secsP x.s (safeP x.s) nm = f.safe ∧ nameOK nm = true := by
  obtain ⟨d, hd, e⟩ := h.safe
  rw [e] at hn ⊢
  obtain ⟨p, hp, rfl⟩ := List.mem_map.1 hn
  obtain ⟨h2, f, hf, h3⟩ := (h.wf.names d hd).2 p hp
  have h4 := findA_of_mem (l := d.2) (h.dirs.map d hd).nodup hp
  refine ⟨p.2, f, h4, hf, h3, ?_, h2⟩
  unfold secsP
  rw [h4]
  show (Go.Proofs.YtoppcpiheaedlaaGreatDoor.fileP x.s p.2).2 = f.safe
  rw [← h3, h.fileP hf]
theorem saved_rising {w : World} {q : Nat} {x : Px} (h : PD w q x) : Rising (savedFs x.s) := by
  obtain ⟨d, hd, e⟩ := h.safe
  have hnd : ((safeP x.s).map (·.1)).Nodup := by rw [e]; exact (h.dirs.map d hd).nodup
  refine ⟨?_, ?_, ?_, ?_⟩
  · unfold savedFs
    rw [List.length_map, (sortN_perm' _).length_eq, List.length_map, e]
    exact (h.wf.names d hd).1
  · intro p hp
    obtain ⟨nm, hm, rfl⟩ := List.mem_map.1 hp
    obtain ⟨n, f, _, _, _, _, h6⟩ := secs_of h ((sortN_perm' _).mem_iff.1 hm)
    exact h6
  · intro p hp
    obtain ⟨nm, hm, rfl⟩ := List.mem_map.1 hp
    obtain ⟨n, f, _, hf, _, h5, _⟩ := secs_of h ((sortN_perm' _).mem_iff.1 hm)
    have hk := h.files.ok f hf
    show (secsP _ _ nm).length ≤ 4096 ∧ ∀ p ∈ secsP _ _ nm, p.length = 64
    rw [h5]
    exact ⟨by rw [hk.len]; exact hk.le, hk.safe64⟩
  · have : (savedFs x.s).map (·.1) = sortN ((safeP x.s).map (·.1)) := by
      unfold savedFs
      rw [List.map_map]
      exact List.map_id' _
    rw [this]
    exact sortN_up hnd

/-! The files of what is loaded. -/
theorem ldFiles_find : ∀ (l : List (Nm × List Sec)) (i k : Nat) (hk : k < l.length), findA (ldFiles i l) (i + k + 1) = some ((l[k]).2, (l[k]).2)
  | [], _, _, hk => by simp at hk
  | a :: l, i, 0, _ => by simp [ldFiles, findA]
  | a :: l, i, k + 1, hk => by
    show findA ((i + 1, (a.2, a.2)) :: ldFiles (i + 1) l) (i + (k + 1) + 1) = _
    unfold findA
    rw [if_neg (by show ¬ (i + 1 = _); omega)]
    have := ldFiles_find l (i + 1) k (by simpa using hk)
    rw [show i + (k + 1) + 1 = i + 1 + k + 1 by omega, this]
    rfl
theorem ldFiles_keys : ∀ (l : List (Nm × List Sec)) (i : Nat), ∀ e ∈ ldFiles i l, i < e.1 ∧ e.1 ≤ i + l.length
  | [], _, _, h => by simp [ldFiles] at h
  | a :: l, i, e, h => by
    rcases List.mem_cons.1 h with rfl | h
    · simp
    · have := ldFiles_keys l (i + 1) e h
      simp only [List.length_cons]
      omega
theorem ldFiles_vals : ∀ (l : List (Nm × List Sec)) (i : Nat), ∀ e ∈ ldFiles i l, ∃ p ∈ l, e.2 = (p.2, p.2)
  | [], _, _, h => by simp [ldFiles] at h
  | a :: l, i, e, h => by
    rcases List.mem_cons.1 h with rfl | h
    · exact ⟨a, by simp, rfl⟩
    · obtain ⟨p, hp, e2⟩ := ldFiles_vals l (i + 1) e h
      exact ⟨p, by simp [hp], e2⟩
theorem ldDir_get : ∀ (l : List (Nm × List Sec)) (i : Nat), ∀ e ∈ ldDir i l, ∃ k, ∃ hk : k < l.length, e = ((l[k]).1, i + k + 1)
  | [], _, _, h => by simp [ldDir] at h
  | a :: l, i, e, h => by
    rcases List.mem_cons.1 h with rfl | h
    · exact ⟨0, by simp, rfl⟩
    · obtain ⟨k, hk, rfl⟩ := ldDir_get l (i + 1) e h
      exact ⟨k + 1, by simpa using hk, by simp; omega⟩
theorem ldDir_map (f : Nat → Nat) (g : Nm → Nat) : ∀ (l : List (Nm × List Sec)) (i : Nat), (∀ k (hk : k < l.length), f (i + k + 1) = g (l[k]).1) → (ldDir i l).map (fun e => (e.1, f e.2)) = l.map fun e => (e.1, g e.1)
  | [], _, _ => rfl
  | a :: l, i, h => by
    show (a.1, f (i + 1)) :: (ldDir (i + 1) l).map _ = _
    rw [ldDir_map f g l (i + 1) fun k hk => by have := h (k + 1) (by simpa using hk); rw [show i + 1 + k + 1 = i + (k + 1) + 1 by omega]; exact this]
    have := h 0 (by simp)
    simp at this
    rw [this]
    rfl
theorem ldDir_nums : ∀ (l : List (Nm × List Sec)) (i : Nat), ((ldDir i l).map (·.2)).Nodup ∧ ∀ e ∈ ldDir i l, i < e.2
  | [], _ => by simp [ldDir]
  | a :: l, i => by
    obtain ⟨h1, h2⟩ := ldDir_nums l (i + 1)
    refine ⟨?_, ?_⟩
    · show ((i + 1) :: (ldDir (i + 1) l).map (·.2)).Nodup
      rw [List.nodup_cons]
      refine ⟨fun hm => ?_, h1⟩
      obtain ⟨e, he, hq⟩ := List.mem_map.1 hm
      have := h2 e he
      omega
    · intro e he
      rcases List.mem_cons.1 he with rfl | he
      · show i < i + 1; omega
      · have := h2 e he; omega
/-- What is loaded holds no more than these sectors; how many it holds. -/
theorem inv_load {fs : List (Nm × List Sec)} (h : Rising fs) (hs : ∀ e ∈ fs, e.2.length ≤ 100) : Inv 8 (loadS 4096 fs) := by
  have hl := h.len
  have hfl : ∀ (l : List (Nm × List Sec)) i, (ldFiles i l).length = l.length := fun l => by
    induction l with
    | nil => intro i; rfl
    | cons a l ih => intro i; simp [ldFiles, ih (i + 1)]
  refine ⟨rfl, by show (0 : Int) ≤ 0 ∧ (0 : Int) ≤ 100; omega, by show 1 ≤ 9; omega, hl, by show (ldFiles 0 fs).length ≤ 8; rw [hfl]; exact hl, by show 0 ≤ 8; omega, ?_, ?_, ?_⟩
  · intro d hd
    have hd : d ∈ [ldDir 0 fs] := hd
    simp at hd; subst hd
    refine ⟨by rw [ldDir_names]; exact h.up.imp fun hab e => by subst e; exact List.lt_irrefl _ hab, (ldDir_nums fs 0).1, ?_⟩
    intro e he
    obtain ⟨k, hk, rfl⟩ := ldDir_get fs 0 e he
    refine ⟨by show 1 ≤ 0 + k + 1; omega, by show 0 + k + 1 ≤ fs.length; omega, ?_⟩
    show (findA (ldFiles 0 fs) (0 + k + 1)).isSome
    rw [ldFiles_find fs 0 k hk]
    rfl
  · intro e he
    obtain ⟨p, hp, hq⟩ := ldFiles_vals fs 0 e he
    rw [hq]
    exact ⟨hs p hp, rfl⟩
  · intro e he
    have := ldFiles_keys fs 0 e he
    show e.1 ≤ fs.length
    omega
theorem load_taken {fs : List (Nm × List Sec)} (h : Rising fs) (hs : ∀ e ∈ fs, e.2.length ≤ 100) : takenP (loadS 4096 fs) ≤ 4096 := by
  have hi := inv_load h hs
  have h1 : ∀ (d : Dir), (d.map fun e => (Go.Proofs.YtoppcpiheaedlaaGreatDoor.fileP (loadS 4096 fs) e.2).1.length).sum ≤ 100 * d.length := by
    intro d
    induction d with
    | nil => simp
    | cons e l ih =>
      have := (fileP_ok hi e.2).1
      simp only [List.map_cons, List.sum_cons, List.length_cons]
      omega
  have h2 := h1 (nowP (loadS 4096 fs))
  have h3 : (nowP (loadS 4096 fs)).length = fs.length := by
    show (ldDir 0 fs).length = _
    exact ldDir_len fs 0
  have h4 := h.len
  unfold takenP
  omega
theorem saved_small {c : Nat} {s : Ps} (h : Inv c s) : ∀ e ∈ savedFs s, e.2.length ≤ 100 := by
  intro e he
  obtain ⟨nm, hm, rfl⟩ := List.mem_map.1 he
  show (secsP s _ nm).length ≤ 100
  unfold secsP
  have := fileP_ok h ((findA (safeP s) nm).getD 0)
  omega
/-- The number of a loaded file's, on the disk that was saved. -/
def numF (s : Ps) (n : Nat) : Nat := if n = 0 then 0 else (findA (safeP s) ((savedFs s).getD (n - 1) ([], [])).1).getD 0
theorem ali_load {c : Nat} {s : Ps} (h : Inv c s) (hd : s.dirs ≠ []) : Ali (numF s) (loadS 4096 (savedFs s)) (crashP s 0 []) := by
  obtain ⟨D, hD⟩ : ∃ D, safeP s = D := ⟨_, rfl⟩
  have hDm : D ∈ s.dirs := by
    cases hq : s.dirs with
    | nil => exact absurd hq hd
    | cons a l => rw [← hD]; unfold safeP; rw [hq]; simp
  obtain ⟨hn1, hn2, hn3⟩ := h.dir D hDm
  have hw : s.dirs.getD (whichP s 0) [] = D := by
    unfold whichP
    rw [← hD]
    unfold safeP
    simp
    cases s.dirs <;> rfl
  have hk : keptF [] s.pend 0 = [] := by
    have : ∀ (l : List Wr) i, keptF [] l i = [] := fun l => by
      induction l with
      | nil => intro i; rfl
      | cons a l ih => intro i; simp [keptF, ih]
    exact this _ _
  have hcr : crashP s 0 [] = { settleP s D with files := (settleP s D).files.map fun e => (e.1, (e.2.2, e.2.2)), pend := [], first := 0, code := 0 } := by
    unfold crashP
    rw [hw, hk]
    rfl
  have hlen : (savedFs s).length = D.length := by unfold savedFs; rw [List.length_map, (sortN_perm' _).length_eq, List.length_map, hD]
  have hget : ∀ k (hk : k < (savedFs s).length), ((savedFs s)[k]).1 ∈ D.map (·.1) := by
    intro k hk
    have h1 : ((savedFs s)[k]).1 = (sortN (D.map (·.1)))[k]'(by unfold savedFs at hk; rw [hD] at hk; simpa using hk) := by unfold savedFs; simp [hD]
    rw [h1]
    exact (sortN_perm' _).mem_iff.1 (List.getElem_mem _)
  have hnum : ∀ k (hk : k < (savedFs s).length), numF s (k + 1) = (findA D ((savedFs s)[k]).1).getD 0 := by
    intro k hk
    unfold numF
    rw [if_neg (by omega), hD, Nat.add_sub_cancel, List.getD_eq_getElem?_getD, List.getElem?_eq_getElem hk]
    rfl
  have hfind : ∀ k (hk : k < (savedFs s).length), ∃ n, (((savedFs s)[k]).1, n) ∈ D ∧ findA D ((savedFs s)[k]).1 = some n ∧ numF s (k + 1) = n := by
    intro k hk
    obtain ⟨e, he, hq⟩ := List.mem_map.1 (hget k hk)
    have h1 := findA_of_mem (l := D) (a := e.1) (b := e.2) hn1 he
    rw [hq] at h1
    exact ⟨e.2, by rw [← hq]; exact he, h1, by rw [hnum k hk, h1]; rfl⟩
  have hnames : (savedFs s).map (·.1) = sortN (D.map (·.1)) := by
    unfold savedFs
    rw [List.map_map, hD]
    exact List.map_id' _
  have hnd : ((savedFs s).map (·.1)).Nodup := by rw [hnames]; exact (sortN_perm' _).nodup_iff.2 hn1
  rw [hcr]
  refine ⟨h.room, rfl, rfl, ⟨?_, trivial⟩, ?_, ?_, ?_, ?_, ?_, rfl, by simp [loadS], ?_, ?_⟩
  · show D.Perm ((ldDir 0 (savedFs s)).map fun e => (e.1, numF s e.2))
    rw [ldDir_map (numF s) (fun nm => (findA D nm).getD 0) (savedFs s) 0 fun k hk => by rw [Nat.zero_add]; exact hnum k hk]
    have e1 : (savedFs s).map (fun e => (e.1, (findA D e.1).getD 0)) = (sortN (D.map (·.1))).map fun nm => (nm, (findA D nm).getD 0) := by
      rw [← hnames, List.map_map]; rfl
    rw [e1]
    refine List.Perm.trans ?_ ((sortN_perm' _).symm.map _)
    rw [List.map_map, List.map_congr_left (g := id) fun e he => by
      show (e.1, (findA D e.1).getD 0) = e
      rw [findA_of_mem (l := D) (a := e.1) (b := e.2) hn1 he]
      rfl]
    rw [List.map_id]
  · intro d hd'
    have hd' : d ∈ [ldDir 0 (savedFs s)] := hd'
    simp at hd'; subst hd'
    rw [ldDir_names]
    exact hnd
  · intro d hd' e he
    have hd' : d ∈ [ldDir 0 (savedFs s)] := hd'
    simp at hd'; subst hd'
    obtain ⟨k, hk, rfl⟩ := ldDir_get _ 0 e he
    show 0 + k + 1 ≤ (savedFs s).length
    omega
  · intro n hn
    have hn : n ≤ (savedFs s).length := hn
    show numF s n ≤ s.made
    by_cases h0 : n = 0
    · subst h0; exact Nat.zero_le _
    · obtain ⟨m, hm, _, h2⟩ := hfind (n - 1) (by omega)
      rw [show n - 1 + 1 = n by omega] at h2
      rw [h2]
      exact (hn3 _ hm).2.1
  · intro n m hn hm e
    have hn : n ≤ (savedFs s).length := hn
    have hm : m ≤ (savedFs s).length := hm
    have key : ∀ n, n ≠ 0 → n ≤ (savedFs s).length → 1 ≤ numF s n := by
      intro n h0 hn
      obtain ⟨m, hm, _, h2⟩ := hfind (n - 1) (by omega)
      rw [show n - 1 + 1 = n by omega] at h2
      rw [h2]
      exact (hn3 _ hm).1
    by_cases h0 : n = 0
    · by_cases h1 : m = 0
      · omega
      · have := key m h1 hm
        subst h0
        rw [← e] at this
        simp [numF] at this
    · by_cases h1 : m = 0
      · have := key n h0 hn
        subst h1
        rw [e] at this
        simp [numF] at this
      · obtain ⟨a, ha, _, ha2⟩ := hfind (n - 1) (by omega)
        obtain ⟨b, hb, _, hb2⟩ := hfind (m - 1) (by omega)
        rw [show n - 1 + 1 = n by omega] at ha2
        rw [show m - 1 + 1 = m by omega] at hb2
        have hab : a = b := by rw [← ha2, ← hb2, e]
        subst hab
        have hp := List.pairwise_map.1 hn2
        have hnm : ((savedFs s)[n - 1]'(by omega)).1 = ((savedFs s)[m - 1]'(by omega)).1 := by
          rcases List.getElem_of_mem ha with ⟨i, hi, hie⟩
          rcases List.getElem_of_mem hb with ⟨j, hj, hje⟩
          rcases Nat.lt_trichotomy i j with hij | hij | hij
          · have := List.pairwise_iff_getElem.1 hp i j hi hj hij
            rw [hie, hje] at this
            exact absurd rfl this
          · subst hij
            rw [hie] at hje
            exact (Prod.mk.inj hje).1
          · have := List.pairwise_iff_getElem.1 hp j i hj hi hij
            rw [hie, hje] at this
            exact absurd rfl this
        have hp1 := List.pairwise_map.1 hnd
        rcases Nat.lt_trichotomy (n - 1) (m - 1) with hij | hij | hij
        · exact absurd hnm (List.pairwise_iff_getElem.1 hp1 _ _ (by omega) (by omega) hij)
        · omega
        · exact absurd hnm.symm (List.pairwise_iff_getElem.1 hp1 _ _ (by omega) (by omega) hij)
  · intro d hd' e he
    have hd' : d ∈ [ldDir 0 (savedFs s)] := hd'
    simp at hd'; subst hd'
    obtain ⟨k, hk, rfl⟩ := ldDir_get _ 0 e he
    obtain ⟨m, hm, h1, h2⟩ := hfind k hk
    show findA (List.map (fun e : Nat × (List Sec × List Sec) => (e.1, (e.2.2, e.2.2))) _) (numF s (0 + k + 1)) = findA (ldFiles 0 (savedFs s)) (0 + k + 1)
    rw [ldFiles_find _ 0 k hk, Nat.zero_add, h2, findA_map (fun v : List Sec × List Sec => (v.2, v.2))]
    show Option.map _ (findA (s.files.filter fun y => D.any fun z => z.2 == y.1) m) = _
    rw [findA_filter (fun n => D.any fun z => z.2 == n), if_pos (List.any_eq_true.2 ⟨_, hm, by simp⟩)]
    have h3 := (hn3 _ hm).2.2
    cases hq : findA s.files m with
    | none => rw [hq] at h3; cases h3
    | some v =>
      have h4 : ((savedFs s)[k]).2 = v.2 := by
        have h5 : ((savedFs s)[k]).2 = secsP s D ((savedFs s)[k]).1 := by unfold savedFs; simp [hD]
        rw [h5]
        unfold secsP Go.Proofs.YtoppcpiheaedlaaGreatDoor.fileP
        rw [h1]
        show ((findA s.files m).getD ([], [])).2 = v.2
        rw [hq]
        rfl
      rw [h4]
      rfl
  · intro e he
    have := ldFiles_keys (savedFs s) 0 e he
    show e.1 ≤ (savedFs s).length
    omega
  · intro e he
    obtain ⟨x, hx, rfl⟩ := List.mem_map.1 he
    exact h.keys x (List.mem_filter.1 hx).1
theorem ali_save {f : Nat → Nat} {s t : Ps} (h : Ali f s t) : saveP t = saveP s := by
  have h0 : (safeP t).Perm ((safeP s).map fun e => (e.1, f e.2)) := by
    have := forall2_getD (a := ([] : Dir)) (b := ([] : Dir)) h.dirs (by simp) 0
    unfold safeP
    rw [List.headD_eq_head?_getD, List.headD_eq_head?_getD, List.head?_eq_getElem?, List.head?_eq_getElem?, ← List.getD_eq_getElem?_getD, ← List.getD_eq_getElem?_getD]
    exact this
  have hmem : ∀ e ∈ safeP s, safeP s ∈ s.dirs := by
    intro e he
    unfold safeP at he ⊢
    cases hq : s.dirs with
    | nil => rw [hq] at he; simp at he
    | cons a l => simp
  have hnod : ((safeP s).map (·.1)).Nodup := by
    unfold safeP
    cases hq : s.dirs with
    | nil => simp
    | cons a l => exact h.nod a (by rw [hq]; simp)
  have hn : sortN ((safeP t).map (·.1)) = sortN ((safeP s).map (·.1)) := by
    refine sortN_perm ?_
    have := h0.map (·.1)
    rw [List.map_map] at this
    exact this
  have hflat : ∀ (l : List Nm) (F G : Nm → List UInt8), (∀ x ∈ l, F x = G x) → l.flatMap F = l.flatMap G := fun l F G hfg => by
    induction l with
    | nil => rfl
    | cons a l ih => rw [List.flatMap_cons, List.flatMap_cons, hfg a (by simp), ih fun x hx => hfg x (by simp [hx])]
  unfold saveP
  rw [hn]
  refine hflat _ _ _ fun nm hm => ?_
  have hm := (sortN_perm' _).mem_iff.1 hm
  obtain ⟨e, he, hq⟩ := List.mem_map.1 hm
  have h1 := findA_of_mem (l := safeP s) (a := e.1) (b := e.2) hnod he
  rw [hq] at h1
  have h2 : secsP t (safeP t) nm = secsP s (safeP s) nm := by
    unfold secsP
    rw [dir_find h0 hnod, h1]
    show (Go.Proofs.YtoppcpiheaedlaaGreatDoor.fileP t (f e.2)).2 = (Go.Proofs.YtoppcpiheaedlaaGreatDoor.fileP s e.2).2
    unfold Go.Proofs.YtoppcpiheaedlaaGreatDoor.fileP
    rw [h.files _ (hmem e he) e he]
  rw [h2]
end Go.Proofs.YtoppcpiheaedlaaGreatDoor
end

section
/-
  A deed that comes in: its parts.
-/
namespace Go.Proofs.YtoppcpiheaedlaaGreatDoor
open Go.ChangeShapes Go.WideShapes Go.ChangeAt Go.RowKit
set_option linter.unusedVariables false
set_option linter.unusedSimpArgs false

theorem i64_ranged {a : Int} (h : (Lit.int .i64 a).wf = true) : -9223372036854775808 ≤ a ∧ a ≤ 9223372036854775807 := by
  simp [Lit.wf, IntKind.min, IntKind.max, IntKind.bits, IntKind.signed] at h
  omega
theorem ints_rowed {w : World} {a : Option Addr} {len cap : Nat} {zs : List Int}
    (h : (a = none ∧ len = 0 ∧ cap = 0 ∧ zs = []) ∨
      ∃ x, a = some x ∧ len ≤ cap ∧ cap ≤ maxLen ∧ zs.length = cap ∧ (∀ i, i < zs.length → w.cell? (x.add i) = some (.int .i64 (zs.getD i 0))) ∧ ∀ n ∈ zs, (Lit.int .i64 n).wf = true) :
    ∃ l : List Int, len = l.length ∧ IntS w (.slice a len cap) l ∧ (∀ z ∈ l, -9223372036854775808 ≤ z ∧ z ≤ 9223372036854775807) ∧ l.length ≤ 9223372036854775807 := by
  rcases h with ⟨rfl, rfl, rfl, rfl⟩ | ⟨x, rfl, h1, h2, h3, h4, h5⟩
  · exact ⟨[], rfl, ⟨none, 0, rfl, .inl rfl⟩, by simp, by simp⟩
  · have hl : (zs.take len).length = len := by simp; omega
    refine ⟨zs.take len, hl.symm, ⟨some x, cap, by rw [hl], ?_⟩, fun z hz => i64_ranged (h5 z (List.mem_of_mem_take hz)), by rw [hl]; unfold maxLen at h2; omega⟩
    by_cases h0 : len = 0
    · left; subst h0; simp
    · right
      obtain ⟨b, off, spot⟩ := x
      have hc := h4 0 (by omega)
      have hspot : spot = none := by simpa [Addr.add] using World.cell?_spot hc
      subst hspot
      refine ⟨b, off, rfl, fun i hi => ?_⟩
      rw [hl] at hi
      have hci := h4 i (by omega)
      rw [Addr.add_lit] at hci
      rw [hci]
      simp [List.getD, List.getElem?_take, hi]

section
variable {H : Type} {enc : TypeId × Value → H} {w : World}
theorem c1int : Tryz.prog.cellsOf 3 = 1 := by kernel_rfl
theorem c1str : Tryz.prog.cellsOf 9 = 1 := by kernel_rfl
theorem c1row : Tryz.prog.cellsOf 36 = 1 := by kernel_rfl
theorem c1ins : Tryz.prog.cellsOf 37 = 1 := by kernel_rfl
theorem c1u8 : Tryz.prog.cellsOf 5 = 1 := by kernel_rfl
theorem c6deed : Tryz.prog.cellsOf 39 = 6 := by kernel_rfl
theorem int_cell {n : Nat} {c : Value} {y : DataW H × List MemPlace} (h : DataW.trod enc Tryz.prog w 0 (fun _ => true) true n 3 [c] = some y) : ∃ k : Int, c = .int .i64 k ∧ (-9223372036854775808 ≤ k ∧ k ≤ 9223372036854775807) := by
  obtain ⟨k, hc, _, hw⟩ := DataW.trod_int Tryz.underlying3 h
  simp only [List.cons.injEq, and_true] at hc
  exact ⟨k, hc, i64_ranged hw⟩
theorem str_cell {n : Nat} {c : Value} {y : DataW H × List MemPlace} (h : DataW.trod enc Tryz.prog w 0 (fun _ => true) true n 9 [c] = some y) : ∃ s : Nm, c = sv s ∧ okS s := by
  obtain ⟨s, hc, _, hw⟩ := DataW.trod_string Tryz.underlying9 h
  simp only [List.cons.injEq, and_true] at hc
  refine ⟨s.data.toList, by rw [hc]; rfl, ?_⟩
  show s.data.toList.length ≤ maxLen
  rw [Array.length_toList]
  exact hw
theorem row_cell {n : Nat} {c : Value} {y : DataW H × List MemPlace} (h : DataW.trod enc Tryz.prog w 0 (fun _ => true) true n 36 [c] = some y) : ∃ l : List UInt8, Byt w c l := by
  rcases open_ints Tryz.underlying36 Tryz.underlying5 c1u8 h with ⟨hc, _⟩ | ⟨x, l, cp, zs, hc, _, hl, hm, hz, _, hcell, hwz⟩
  · simp only [List.cons.injEq, and_true] at hc
    obtain ⟨l, e, hb⟩ := byt_of_row (w := w) (a := none) (len := 0) (cap := 0) (zs := []) (.inl ⟨rfl, rfl, rfl, rfl⟩)
    exact ⟨l, by rw [hc]; exact hb⟩
  · simp only [List.cons.injEq, and_true] at hc
    obtain ⟨l', e, hb⟩ := byt_of_row (w := w) (a := some x) (len := l) (cap := cp) (zs := zs) (.inr ⟨_, rfl, hl, hm, by simpa using hz, hcell, hwz⟩)
    exact ⟨l', by rw [hc]; exact hb⟩
theorem ins_cell {n : Nat} {c : Value} {y : DataW H × List MemPlace} (h : DataW.trod enc Tryz.prog w 0 (fun _ => true) true n 37 [c] = some y) : ∃ l : List Int, IntS w c l ∧ (∀ z ∈ l, -9223372036854775808 ≤ z ∧ z ≤ 9223372036854775807) ∧ l.length ≤ 9223372036854775807 := by
  rcases open_ints Tryz.underlying37 Tryz.underlying3 c1int h with ⟨hc, _⟩ | ⟨x, l, cp, zs, hc, _, hl, hm, hz, _, hcell, hwz⟩
  · simp only [List.cons.injEq, and_true] at hc
    obtain ⟨l, e, hb⟩ := ints_rowed (w := w) (a := none) (len := 0) (cap := 0) (zs := []) (.inl ⟨rfl, rfl, rfl, rfl⟩)
    exact ⟨l, by rw [hc]; exact hb⟩
  · simp only [List.cons.injEq, and_true] at hc
    obtain ⟨l', e, hb⟩ := ints_rowed (w := w) (a := some x) (len := l) (cap := cp) (zs := zs) (.inr ⟨_, rfl, hl, hm, by simpa using hz, hcell, hwz⟩)
    exact ⟨l', by rw [hc]; exact hb⟩
set_option maxRecDepth 100000 in
/-- The six cells of a deed. -/
theorem deed_cells {n : Nat} {cs : List Value} {y : DataW H × List MemPlace} (h : DataW.trod enc Tryz.prog w 0 (fun _ => true) true n 39 cs = some y) : ∃ x : Dd, cs = x.cs ∧ DdOk w x := by
  obtain ⟨xs, m, _, _, hlen, hxl, hg⟩ := DataW.trod_struct Tryz.underlying39 h
  rw [c6deed] at hlen
  have hxl : xs.length = 6 := hxl
  match cs, hlen, xs, hxl with
  | [v0, v1, v2, v3, v4, v5], _, [y0, y1, y2, y3, y4, y5], _ =>
    have t0 := hg 0 _ rfl
    have t1 := hg 1 _ rfl
    have t2 := hg 2 _ rfl
    have t3 := hg 3 _ rfl
    have t4 := hg 4 _ rfl
    have t5 := hg 5 _ rfl
    simp only [c1int, c1str, c1row, c1ins, List.drop, List.take, List.getElem?_cons_zero, List.getElem?_cons_succ] at t0 t1 t2 t3 t4 t5
    obtain ⟨kd, rfl, h0⟩ := int_cell t0
    obtain ⟨a, rfl, h1⟩ := str_cell t1
    obtain ⟨b, rfl, h2⟩ := str_cell t2
    obtain ⟨k, rfl, h3⟩ := int_cell t3
    obtain ⟨p, h4⟩ := row_cell t4
    obtain ⟨q, h5, h6, h7⟩ := ins_cell t5
    exact ⟨⟨kd, a, b, k, v4, p, v5, q⟩, rfl, h0, h1, h2, h3, h4, h5, h6, h7⟩
set_option maxRecDepth 100000 in
theorem deed_open {b0 : Nat} {v : Value} {d : DataW H} {p : List MemPlace} (hv : Value.okWide Tryz.prog w .any b0 39 v) (h : DataW.Trod enc Tryz.prog w 0 (fun _ => true) true 39 v d p) : ∃ x : Dd, v = x.v ∧ DdOk w x := by
  obtain ⟨cs, rfl, hsz⟩ := okWide_struct Tryz.underlying39 hv
  obtain ⟨fuel, hf⟩ := h
  obtain ⟨x, hx, hok⟩ := deed_cells hf
  refine ⟨x, ?_, hok⟩
  have : cs.toList = x.cs := hx
  unfold Dd.v
  congr 1
  exact Array.toList_inj.1 (by rw [this]; rfl)
theorem choose_lt' {α : Type} {n : Nat} {R : Nat → α → Prop} (d : α) (h : ∀ r, r < n → ∃ y, R r y) : ∃ f : Nat → α, ∀ r, r < n → R r (f r) := by
  induction n with
  | zero => exact ⟨fun _ => d, fun r hr => by omega⟩
  | succ n ih =>
    obtain ⟨f, hf⟩ := ih fun r hr => h r (by omega)
    obtain ⟨y, hy⟩ := h n (by omega)
    refine ⟨fun r => if r = n then y else f r, fun r hr => ?_⟩
    by_cases e : r = n
    · subst e; simpa using hy
    · simpa [e] using hf r (by omega)
set_option maxRecDepth 100000 in
theorem deeds_open {b0 : Nat} {v : Value} {d : DataW H} {p : List MemPlace} (hv : Value.okWide Tryz.prog w .any b0 22 v) (h : DataW.Trod enc Tryz.prog w 0 (fun _ => true) true 22 v d p) : ∃ l : List Dd, DdsAt w v l := by
  obtain ⟨a, ln, cp, rfl⟩ := okWide_slice Tryz.underlying22 hv
  obtain ⟨fuel, hf⟩ := h
  rcases DataW.trod_slice Tryz.underlying22 hf with ⟨hc, _⟩ | ⟨x, len, cap, elems, rest, n, _, hc, _, _, hl, hm, hlen, hel, _, _⟩
  · rw [show Value.cells (.slice a ln cp) = #[.slice a ln cp] from rfl] at hc
    simp only [List.cons.injEq, and_true, Value.slice.injEq] at hc
    obtain ⟨rfl, rfl, rfl⟩ := hc
    exact ⟨[], none, 0, rfl, by simp, by simp, .inl rfl⟩
  · rw [show Value.cells (.slice a ln cp) = #[.slice a ln cp] from rfl] at hc
    simp only [List.cons.injEq, and_true, Value.slice.injEq] at hc
    obtain ⟨rfl, rfl, rfl⟩ := hc
    rw [c6deed] at hel
    have each : ∀ k, k < ln → ∃ y : Dd, DdOk w y ∧ ∀ j, j < 6 → w.cell? ((x.add (k * 6)).add j) = y.cs[j]? := fun k hk => by
      have h1 := hel k hk
      have hk' : k < elems.length := by omega
      rw [List.getElem?_eq_getElem hk'] at h1
      obtain ⟨cs', hcs, ht⟩ := Option.bind_eq_some_iff.1 h1
      obtain ⟨y, rfl, hok⟩ := deed_cells ht
      obtain ⟨_, _, hat⟩ := World.cells?_some hcs
      exact ⟨y, hok, fun j hj => hat j hj⟩
    by_cases h0 : ln = 0
    · subst h0
      exact ⟨[], some x, cp, rfl, by simp, by simp, .inl rfl⟩
    · obtain ⟨f, hf'⟩ := choose_lt' ⟨0, [], [], 0, .slice none 0 0, [], .slice none 0 0, []⟩ each
      refine ⟨(List.range ln).map f, some x, cp, by simp, by simp; unfold maxLen at hm; omega, ?_, ?_⟩
      · intro y hy
        obtain ⟨k, hk, rfl⟩ := List.mem_map.1 hy
        exact (hf' k (List.mem_range.1 hk)).1
      · right
        obtain ⟨b, off, spot⟩ := x
        have hc := (hf' 0 (by omega)).2 0 (by omega)
        have hspot : spot = none := by
          have h2 := World.cell?_spot (v := .int .i64 (f 0).kind) hc
          simpa [Addr.add] using h2
        subst hspot
        refine ⟨b, off, rfl, fun i hi j u hu => ?_⟩
        have hi' : i < ln := by simpa using hi
        have e0 : ((List.range ln).map f)[i]'hi = f i := by simp
        rw [e0] at hu
        have hj : j < 6 := by have := (List.getElem?_eq_some_iff.1 hu).1; simpa [Dd.cs] using this
        have h3 := (hf' i hi').2 j hj
        simp only [Addr.add_lit] at h3
        rw [h3, hu]
end
end Go.Proofs.YtoppcpiheaedlaaGreatDoor
end

section
/-
  The program's disk: what every statement of it asks besides.
-/
namespace Go.Proofs.YtoppcpiheaedlaaGreatDoor
open Go.RowKit Go.Maps Go.MapKept
set_option linter.unusedVariables false
set_option linter.unusedSimpArgs false
attribute [local go_sem] sv nv mv pv

theorem IsFault.nilOf {w : World} {v : Value} {op nm : List UInt8} (h : IsFault w v op nm 0) : v = .nilIface := by
  rcases h with ⟨_, h⟩ | ⟨h, _⟩
  · exact h
  · exact absurd rfl h
theorem IsFault.form {w : World} {v : Value} {op nm : List UInt8} {code : Int} (h : IsFault w v op nm code) (hc : code ≠ 0) : ∃ b, v = .iface 77 (.pointer (some ⟨b, 0, none⟩)) ∧ w.cell? ⟨b, 2, none⟩ = some (.iface 53 (.int .i64 code)) := by
  rcases h with ⟨h, _⟩ | ⟨_, b, e, hb⟩
  · exact absurd h hc
  · exact ⟨b, e, (IsFault.cells hb).2.2⟩
/-- A disk, among what it does not touch. -/
structure LiveIn (w : World) (q : Nat) (x : Px) : Prop where
  pd : PD w q x
  ek : EK w
  n0 : ¬ mutP q x 0
theorem LiveIn.turn {w w' : World} {q : Nat} {x x' : Px} (h : LiveIn w q x) (hT : TurnP q x x' w w') (hP : PD w' q x') : LiveIn w' q x' :=
  ⟨hP, h.ek.but hT.but h.n0, (hT.keepOut h.ek.pos h.n0).1⟩
theorem LiveIn.grows {w w' : World} {q : Nat} {x : Px} (h : LiveIn w q x) (g : Grows w w') : LiveIn w' q x := ⟨h.pd.grows g, h.ek.grows g, h.n0⟩
theorem Px.sDirs (x : Px) : x.dirs.length = x.s.dirs.length := by simp [Px.s]
theorem Px.sFiles (x : Px) : x.fs.length = x.s.files.length := by simp [Px.s]
theorem out_of {O : Nat → Prop} {b off n c : Nat} (h : ¬ O b) : Outside O (.slice (some ⟨b, off, none⟩) n c) := fun b' off' sp n' c' e _ => by
  simp only [Value.slice.injEq, Option.some.injEq, Addr.mk.injEq] at e
  rw [← e.1.1]
  exact h
theorem made_u8 (n : Nat) : (madeCells (Value.cells (.int .u8 0)) (n * 1)).toList = (List.replicate n (0 : UInt8)).map bv := by
  apply List.ext_getElem
  · simp [madeCells]
  · intro i h1 h2
    simp [madeCells, Value.cells, Nat.mod_one, bv]

def lx : Nm := [120]
def p7 : Sec := zero64.set 0 7
def l0 : Ps := newP 9
def l1 : Ps := (createP l0 lx).2
def l2 : Ps := (syncDirP l1).2
def l3 : Ps := (growP l2 lx 2).2
def l4 : Ps := (writeP l3 lx 0 p7).2
def l5 : Ps := (writeP l4 lx 1 p7).2
def l6 : Ps := crashP l5 0 [1]
def l7 : Ps := (readP l6 lx 0).2
def l8 : Ps := (readP l7 lx 1).2
def l9 : Ps := (createP l8 [88]).2
def smallP (s : Ps) : Bool := decide (s.dirs.length < 1000000) && decide (s.made < 1000000) && decide (s.files.length < 1000000) && decide (s.pend.length < 1000000)
theorem liveFacts : (createP l0 lx).1 = 0 ∧ (syncDirP l1).1 = 0 ∧ (growP l2 lx 2).1 = 0 ∧ (writeP l3 lx 0 p7).1 = 0 ∧ (writeP l4 lx 1 p7).1 = 0 ∧ (readP l6 lx 0).1 = (zero64, 0) ∧ (readP l7 lx 1).1 = (p7, 0) ∧ (createP l8 [88]).1 = 2 ∧ (removeP l9 [121]).1 = 7 := by decide +kernel
theorem liveSmall : smallP l0 && smallP l1 && smallP l2 && smallP l3 && smallP l4 && smallP l5 && smallP l6 && smallP l7 && smallP l8 && smallP l9 = true := by decide +kernel
theorem small_of {s : Ps} {x : Px} (h : smallP s = true) (hs : x.s = s) : x.dirs.length < 1000000 ∧ x.made < 1000000 ∧ x.fs.length < 1000000 ∧ x.pend.length < 1000000 := by
  unfold smallP at h
  simp only [Bool.and_eq_true, decide_eq_true_eq] at h
  rw [Px.sDirs, Px.sFiles, hs, show x.made = x.s.made from rfl, show x.pend = x.s.pend from rfl, hs]
  exact ⟨h.1.1.1, h.1.1.2, h.1.2, h.2⟩
theorem liveS (k : Nat) (hk : k < 10) : smallP ([l0, l1, l2, l3, l4, l5, l6, l7, l8, l9].getD k l0) = true := by
  have h := liveSmall
  simp only [Bool.and_eq_true] at h
  obtain ⟨⟨⟨⟨⟨⟨⟨⟨⟨h0, h1⟩, h2⟩, h3⟩, h4⟩, h5⟩, h6⟩, h7⟩, h8⟩, h9⟩ := h
  match k, hk with
  | 0, _ => exact h0
  | 1, _ => exact h1
  | 2, _ => exact h2
  | 3, _ => exact h3
  | 4, _ => exact h4
  | 5, _ => exact h5
  | 6, _ => exact h6
  | 7, _ => exact h7
  | 8, _ => exact h8
  | 9, _ => exact h9
theorem ok1 (b : UInt8) : okS [b] := by unfold okS maxLen; simp

/-- The bytes that are written. -/
structure LiveB (w : World) (q : Nat) (x : Px) (pb : Nat) : Prop where
  byt : Byt w (.slice (some ⟨pb, 0, none⟩) 64 64) p7
  np : ¬ mutP q x pb
  lt : pb < w.heap.size
theorem LiveB.turn {w w' : World} {q pb : Nat} {x x' : Px} (h : LiveB w q x pb) (hT : TurnP q x x' w w') : LiveB w' q x' pb :=
  ⟨h.byt.but hT.but (out_of h.np), (hT.keepOut h.lt h.np).1, (hT.keepOut h.lt h.np).2⟩
theorem LiveB.grows {w w' : World} {q pb : Nat} {x : Px} (h : LiveB w q x pb) (g : Grows w w') : LiveB w' q x pb := ⟨h.byt.grows g, h.np, Nat.lt_of_lt_of_le h.lt g.size⟩
theorem liveMake {W : World} {g B : Nat} (h : W.ownsRow B 5 1 (.slice (some ⟨g, 0, none⟩) 64 64) 64 (madeCells (Value.cells (.int .u8 0)) (64 * 1)).toList) :
    W.cell? ⟨g, 0, none⟩ = some (.int .u8 0) ∧ W.frozen? ⟨g, 0, none⟩ = false ∧ Hid (Own 5 B (W.setCell ⟨g, 0, none⟩ (.int .u8 7)) (.slice (some ⟨g, 0, none⟩) 64 64) p7) := by
  rw [made_u8] at h
  have ho : Own 5 B W (.slice (some ⟨g, 0, none⟩) 64 64) zero64 := h
  refine ⟨?_, ho.unfrozen 0, ho.store 0 7⟩
  have := ho.cell 0 (by simp [zero64])
  exact this

set_option maxRecDepth 100000 in
set_option maxHeartbeats 16000000 in
theorem pLive (w : World) (hek : EK w) : Calls Tryz.prog 9 #[] w fun e w' => e = .returned (.bool true) ∧ Grows w w' := by
  obtain ⟨i5, hi5, hz5, hs5, hb5⟩ := info5d_parts
  have Hek := Lib.hid hek
  clear hek
  have HN := pNew 9 (by omega) w
  rw [show ((9 : Nat) : Int) = 9 from rfl] at HN
  have HN := Lib.hid HN
  go_enter Tryz.func9, Tryz.ntmps9
  go_wp2_with fail
  refine HN.out.mono ?_
  rintro e w0 ⟨q, x0, rfl, hP, hs, hG, hu⟩
  have HS0 : Hid (x0.s = l0) := hs
  have HG0 := Lib.hid hG
  have HU0 := Lib.hid hu
  have HL00 : Hid (LiveIn w0 q x0) := ⟨hP, Hek.out.grows hG, fun h => by have := hu 0 (mut_use h); have := Hek.out.pos; omega⟩
  clear hP hs hG hu HN
  go_wp2_with (first | (at_make; refine wpList_make_full _ rfl _ _ 36 rfl w0.heap.size 5 i5 _ 1 Tryz.underlying36 hi5 hz5 hs5 .i64 .i64 _ _ 64 rfl rfl rfl rfl (by rw [hb5]; omega) (by unfold maxLen; omega) (Nat.le_refl _) ?_; intro wm hom hgm; obtain ⟨hcm, hfm, HOm⟩ := liveMake hom; clear hom) | fail)
  obtain ⟨pb, Hpb⟩ : ∃ y, Hid (w0.heap.size = y) := ⟨_, rfl⟩
  rw [Hpb.out] at HOm hcm hfm ⊢
  have hGm : Grows w0 (wm.setCell ⟨pb, 0, none⟩ (.int .u8 7)) := Below.setCell (Below.grown (Below.refl _ _) hgm (Nat.le_refl _) (fun j hj => by cases hj)) (by show _ ≤ pb; rw [Hpb.out]; exact Nat.le_refl _) _
  have HL0 := Lib.hid (HL00.out.grows hGm)
  have HGm := Lib.hid (Grows.trans' HG0.out hGm)
  have HB0 : Hid (LiveB (wm.setCell ⟨pb, 0, none⟩ (.int .u8 7)) q x0 pb) := ⟨HOm.out.byt, fun hm => by have := HL00.out.pd.ltU (mut_use hm); have := Hpb.out; omega, HOm.out.form (by simp [p7, zero64]) |>.elim fun g h => by obtain ⟨c, e, _⟩ := h; exact World.block_lt_of_cell? _ _ (HOm.out.cell 0 (by simp [p7, zero64]))⟩
  clear hcm hfm hGm hgm
  have HC1 := Lib.hid (PCreate HL0.out.pd lx (ok1 120) (by simp [lx]) ⟨(small_of (liveS 0 (by omega)) HS0.out).1, (small_of (liveS 0 (by omega)) HS0.out).2.1, (small_of (liveS 0 (by omega)) HS0.out).2.2.1⟩)
  try unfold lx at HC1
  try unfold sv at HC1
  go_wp2_with fail
  refine HC1.out.mono ?_
  rintro e u1 ⟨v1, rfl, hF, x1, hP, hs, hT⟩
  rw [HS0.out] at hF hs
  have hF : IsFault u1 v1 opCreate lx 0 := by rw [← liveFacts.1]; exact hF
  have ev := hF.nilOf
  subst ev
  have HS1 : Hid (x1.s = l1) := hs
  have HL1a := Lib.hid (HL0.out.turn hT hP)
  have HT1 := Lib.hid hT
  clear hF hs hP hT HC1
  have HB1 := Lib.hid (HB0.out.turn HT1.out)
  have HC := Lib.hid (pTold0 opCreate lx u1)
  try unfold sv at HC
  go_wp2_with fail
  refine HC.out.mono ?_
  rintro e w1 ⟨rfl, hG⟩
  have HL1 := Lib.hid (HL1a.out.grows hG)
  have HG1 := Lib.hid hG
  clear hG HC
  have HB1 := Lib.hid (HB1.out.grows HG1.out)
  have HC2 := Lib.hid (PSyncDir HL1.out.pd )
  try unfold lx at HC2
  try unfold sv at HC2
  go_wp2_with fail
  refine HC2.out.mono ?_
  rintro e u2 ⟨v2, rfl, hF, x2, hP, hs, hT⟩
  rw [HS1.out] at hF hs
  have hF : IsFault u2 v2 opSyncDir [] 0 := by rw [← liveFacts.2.1]; exact hF
  have ev := hF.nilOf
  subst ev
  have HS2 : Hid (x2.s = l2) := hs
  have HL2a := Lib.hid (HL1.out.turn hT hP)
  have HT2 := Lib.hid hT
  clear hF hs hP hT HC2
  have HB2 := Lib.hid (HB1.out.turn HT2.out)
  have HC := Lib.hid (pTold0 opSyncDir [] u2)
  try unfold sv at HC
  go_wp2_with fail
  refine HC.out.mono ?_
  rintro e w2 ⟨rfl, hG⟩
  have HL2 := Lib.hid (HL2a.out.grows hG)
  have HG2 := Lib.hid hG
  clear hG HC
  have HB2 := Lib.hid (HB2.out.grows HG2.out)
  have HC3 := Lib.hid (PGrow HL2.out.pd lx (ok1 120) 2 (by omega))
  try unfold lx at HC3
  try unfold sv at HC3
  go_wp2_with fail
  refine HC3.out.mono ?_
  rintro e u3 ⟨v3, rfl, hF, x3, hP, hs, hT⟩
  rw [HS2.out] at hF hs
  have hF : IsFault u3 v3 opGrow lx 0 := by rw [← liveFacts.2.2.1]; exact hF
  have ev := hF.nilOf
  subst ev
  have HS3 : Hid (x3.s = l3) := hs
  have HL3a := Lib.hid (HL2.out.turn hT hP)
  have HT3 := Lib.hid hT
  clear hF hs hP hT HC3
  have HB3 := Lib.hid (HB2.out.turn HT3.out)
  have HC := Lib.hid (pTold0 opGrow lx u3)
  try unfold sv at HC
  go_wp2_with fail
  refine HC.out.mono ?_
  rintro e w3 ⟨rfl, hG⟩
  have HL3 := Lib.hid (HL3a.out.grows hG)
  have HG3 := Lib.hid hG
  clear hG HC
  have HB3 := Lib.hid (HB3.out.grows HG3.out)
  have HC4 := Lib.hid (PWrite HL3.out.pd lx (ok1 120) 0 (by omega) _ p7 HB3.out.byt (out_of HB3.out.np) (by simp [p7, zero64]) (small_of (liveS 3 (by omega)) HS3.out).2.2.2)
  try unfold lx at HC4
  try unfold sv at HC4
  go_wp2_with fail
  refine HC4.out.mono ?_
  rintro e u4 ⟨v4, rfl, hF, x4, hP, hs, hT⟩
  rw [HS3.out] at hF hs
  have hF : IsFault u4 v4 opWrite lx 0 := by rw [← liveFacts.2.2.2.1]; exact hF
  have ev := hF.nilOf
  subst ev
  have HS4 : Hid (x4.s = l4) := hs
  have HL4a := Lib.hid (HL3.out.turn hT hP)
  have HT4 := Lib.hid hT
  clear hF hs hP hT HC4
  have HB4 := Lib.hid (HB3.out.turn HT4.out)
  have HC := Lib.hid (pTold0 opWrite lx u4)
  try unfold sv at HC
  go_wp2_with fail
  refine HC.out.mono ?_
  rintro e w4 ⟨rfl, hG⟩
  have HL4 := Lib.hid (HL4a.out.grows hG)
  have HG4 := Lib.hid hG
  clear hG HC
  have HB4 := Lib.hid (HB4.out.grows HG4.out)
  have HC5 := Lib.hid (PWrite HL4.out.pd lx (ok1 120) 1 (by omega) _ p7 HB4.out.byt (out_of HB4.out.np) (by simp [p7, zero64]) (small_of (liveS 4 (by omega)) HS4.out).2.2.2)
  try unfold lx at HC5
  try unfold sv at HC5
  go_wp2_with fail
  refine HC5.out.mono ?_
  rintro e u5 ⟨v5, rfl, hF, x5, hP, hs, hT⟩
  rw [HS4.out] at hF hs
  have hF : IsFault u5 v5 opWrite lx 0 := by rw [← liveFacts.2.2.2.2.1]; exact hF
  have ev := hF.nilOf
  subst ev
  have HS5 : Hid (x5.s = l5) := hs
  have HL5a := Lib.hid (HL4.out.turn hT hP)
  have HT5 := Lib.hid hT
  clear hF hs hP hT HC5
  have HC := Lib.hid (pTold0 opWrite lx u5)
  try unfold sv at HC
  go_wp2_with fail
  refine HC.out.mono ?_
  rintro e w5 ⟨rfl, hG⟩
  have HL5 := Lib.hid (HL5a.out.grows hG)
  have HG5 := Lib.hid hG
  clear hG HC
  obtain ⟨kb, Hkb⟩ : ∃ y, Hid (w5.heap.size = y) := ⟨_, rfl⟩
  have hGk := Grows.alloc' w5 (.cells #[.int .i64 1] 3)
  have hkr := heap_alloc_new w5 (.cells #[.int .i64 1] 3)
  rw [Hkb.out] at hkr
  have hIk : IntS (w5.alloc (.cells #[.int .i64 1] 3)) (.slice (some ⟨kb, 0, none⟩) 1 1) [1] := ⟨_, _, rfl, .inr ⟨kb, 0, rfl, fun i hi => by
    have : i = 0 := by simp at hi; omega
    subst this
    rw [cell_of_row _ kb 0 _ _ _ hkr]; rfl⟩⟩
  have HC6 := Lib.hid (pCrash (HL5.out.pd.grows hGk) 0 (by omega) _ [1] hIk (out_of (fun hm => by have := HL5.out.pd.ltU (mut_use hm); have := Hkb.out; omega)) (by simp) (by intro z hz; simp at hz; omega))
  have HL5k := Lib.hid (HL5.out.grows hGk)
  have HG5k := Lib.hid hGk
  clear hGk hkr hIk
  go_wp2_with fail
  rw [Hkb.out]
  refine HC6.out.mono ?_
  rintro e w6 ⟨rfl, x6, hP, hs, hT⟩
  rw [HS5.out] at hs
  have HS6 : Hid (x6.s = l6) := hs
  have HL6 := Lib.hid (HL5k.out.turn hT hP)
  have HT6 := Lib.hid hT
  clear hs hP hT HC6
  have HC7 := Lib.hid (PRead HL6.out.pd lx (ok1 120) 0 (by omega))
  try unfold lx at HC7
  try unfold sv at HC7
  go_wp2_with fail
  refine HC7.out.mono ?_
  rintro e w7 ⟨r7, v7, rfl, ho, hF, hP, hs, hT⟩
  rw [HS6.out] at hF hs ho
  rw [show [(120 : UInt8)] = lx from rfl, liveFacts.2.2.2.2.2.1] at hF ho
  have ev := hF.nilOf
  subst ev
  obtain ⟨g7, k7, e7, hgb⟩ := ho.form (by simp [p7, zero64])
  rw [show zero64.length = 64 by simp [p7, zero64]] at e7
  subst e7
  have hcc := ho.cell 0 (by simp [p7, zero64])
  rw [show bv (zero64.getD 0 0) = .int .u8 0 from rfl] at hcc
  have Hcc7 := Lib.hid hcc
  have Hgb7 := Lib.hid hgb
  have HS7 : Hid ((beginX x6).s = l7) := hs
  have HL7 := Lib.hid (HL6.out.turn hT hP)
  have HT7 := Lib.hid hT
  clear hF hs hP hT HC7 ho hcc hgb
  have HC8 := Lib.hid (PRead HL7.out.pd lx (ok1 120) 1 (by omega))
  try unfold lx at HC8
  try unfold sv at HC8
  go_wp2_with fail
  refine HC8.out.mono ?_
  rintro e w8 ⟨r8, v8, rfl, ho, hF, hP, hs, hT⟩
  rw [HS7.out] at hF hs ho
  rw [show [(120 : UInt8)] = lx from rfl, liveFacts.2.2.2.2.2.2.1] at hF ho
  have ev := hF.nilOf
  subst ev
  obtain ⟨g8, k8, e8, hgb⟩ := ho.form (by simp [p7, zero64])
  rw [show p7.length = 64 by simp [p7, zero64]] at e8
  subst e8
  have hcc := ho.cell 0 (by simp [p7, zero64])
  rw [show bv (p7.getD 0 0) = .int .u8 7 from rfl] at hcc
  have Hcc8 := Lib.hid hcc
  have Hgb8 := Lib.hid hgb
  have HS8 : Hid ((beginX (beginX x6)).s = l8) := hs
  have HL8 := Lib.hid (HL7.out.turn hT hP)
  have HT8 := Lib.hid hT
  clear hF hs hP hT HC8 ho hcc hgb
  have Hn7 : Hid (¬ mutP q (beginX (beginX x6)) g7 ∧ g7 < w8.heap.size) := by
    have hlt : g7 < w7.heap.size := World.block_lt_of_cell? _ _ Hcc7.out
    have hn : ¬ mutP q (beginX x6) g7 := fun hm => by have := HL6.out.pd.ltU (k := g7) (mut_use hm); have := Hgb7.out; omega
    exact HT8.out.keepOut hlt hn
  have Hn8 : Hid (¬ mutP q (beginX (beginX x6)) g8 ∧ g8 < w8.heap.size) := by
    refine ⟨fun hm => ?_, World.block_lt_of_cell? _ _ Hcc8.out⟩
    have := HL7.out.pd.ltU (k := g8) (mut_use hm)
    have := Hgb8.out
    omega
  have hc7 := HT8.out.but.cell (p := ⟨g7, 0, none⟩) (fun hm => by have := HL6.out.pd.ltU (k := g7) (mut_use hm); have := Hgb7.out; omega) Hcc7.out
  have hc8 := Hcc8.out
  have HC9 := Lib.hid (PCreate HL8.out.pd [88] (ok1 88) (by simp) ⟨(small_of (liveS 8 (by omega)) HS8.out).1, (small_of (liveS 8 (by omega)) HS8.out).2.1, (small_of (liveS 8 (by omega)) HS8.out).2.2.1⟩)
  try unfold sv at HC9
  go_wp2_with fail
  refine HC9.out.mono ?_
  rintro e u9 ⟨v9, rfl, hF, x9, hP, hs, hT⟩
  rw [HS8.out] at hF hs
  have HF9 : Hid (IsFault u9 v9 opCreate [88] 2) := by show IsFault _ _ _ _ _; rw [← liveFacts.2.2.2.2.2.2.2.1]; exact hF
  have HS9 : Hid (x9.s = l9) := hs
  have HL9a := Lib.hid (HL8.out.turn hT hP)
  have HT9 := Lib.hid hT
  clear hF hs hP hT HC9
  have HC := Lib.hid (pTold v9 opCreate [88] 2 u9 HL9a.out.ek HF9.out (by omega))
  try unfold sv at HC
  go_wp2_with fail
  refine HC.out.mono ?_
  rintro e w9 ⟨rfl, hG⟩
  have HL9 := Lib.hid (HL9a.out.grows hG)
  have HG9 := Lib.hid hG
  clear hG HC
  have HC10 := Lib.hid (PRemove HL9.out.pd [121] (ok1 121) (small_of (liveS 9 (by omega)) HS9.out).1)
  try unfold sv at HC10
  go_wp2_with fail
  refine HC10.out.mono ?_
  rintro e u10 ⟨v10, rfl, hF, x10, hP, hs, hT⟩
  rw [HS9.out] at hF
  have hF : IsFault u10 v10 opRemove [121] 7 := by rw [← liveFacts.2.2.2.2.2.2.2.2]; exact hF
  obtain ⟨fb, rfl, hfc⟩ := hF.form (by omega)
  have HT10 := Lib.hid hT
  have HI := Lib.hid (pIs fb 7 u10 hfc)
  clear hF hs hP hT HC10 hfc
  go_wp2_with fail
  refine HI.out.mono ?_
  rintro e w11 ⟨rfl, e3⟩
  have e4 := e3.symm
  subst e4
  have Hend : Hid (Grows w u10) := by
    have h0 := HG0.out
    have sub : ∀ k, useP q x0 k → w.heap.size ≤ k := HU0.out
    have fresh : ∀ {a b c : World} {x x' : Px}, Grows a b → (∀ k, useP q x k → a.heap.size ≤ k) → TurnP q x x' b c → Grows a c ∧ ∀ k, useP q x' k → a.heap.size ≤ k := fun h hu ht =>
      ⟨⟨ht.but.os.trans h.os, ht.but.tape.trans h.tape, ht.but.output.trans h.output, Nat.le_trans h.size ht.but.size, fun k hk => (ht.but.block k (Nat.lt_of_lt_of_le hk h.size) (fun hm => by have := hu k (mut_use hm); omega)).trans (h.block k hk)⟩, fun k hk => (ht.uses k hk).elim (hu k) (fun hl => Nat.le_trans h.size hl)⟩
    obtain ⟨a1, b1⟩ := fresh HGm.out sub HT1.out
    obtain ⟨a2, b2⟩ := fresh (Grows.trans' a1 HG1.out) b1 HT2.out
    obtain ⟨a3, b3⟩ := fresh (Grows.trans' a2 HG2.out) b2 HT3.out
    obtain ⟨a4, b4⟩ := fresh (Grows.trans' a3 HG3.out) b3 HT4.out
    obtain ⟨a5, b5⟩ := fresh (Grows.trans' a4 HG4.out) b4 HT5.out
    obtain ⟨a6, b6⟩ := fresh (Grows.trans' (Grows.trans' a5 HG5.out) HG5k.out) b5 HT6.out
    obtain ⟨a7, b7⟩ := fresh a6 b6 HT7.out
    obtain ⟨a8, b8⟩ := fresh a7 b7 HT8.out
    obtain ⟨a9, b9⟩ := fresh a8 b8 HT9.out
    obtain ⟨a10, b10⟩ := fresh (Grows.trans' a9 HG9.out) b9 HT10.out
    exact a10
  clear hc7 hc8
  go_wp2
  go_ret
  exact ⟨rfl, Hend.out⟩
end Go.Proofs.YtoppcpiheaedlaaGreatDoor
end

section
/-
  DiskLoads: what is loaded of what was saved is as the disk is behind a crash that keeps nothing.
-/
namespace Go.Proofs.YtoppcpiheaedlaaGreatDoor
open Go.RowKit Go.Maps
set_option linter.unusedVariables false
set_option linter.unusedSimpArgs false
attribute [local go_sem] sv nv mv pv

set_option maxRecDepth 100000 in
theorem pLoad (room : Nat) (hroom : room ≤ 4096) (vb : Value) (w : World) (fs : List (Nm × List Sec)) (hfs : Rising fs) (hb : Byt w vb (recs fs)) (htk : takenP (loadS room fs) ≤ room) :
    Calls Tryz.prog 20 #[.int .i64 (room : Int), vb] w fun e w' => ∃ q x, e = .returned (.tuple #[.pointer (some ⟨q, 0, none⟩), .nilIface]) ∧ PD w' q x ∧ x.s = loadS room fs ∧ Grows w w' ∧ ∀ k, useP q x k → w.heap.size ≤ k := by
  have HI := Lib.hid (pLoadI room hroom vb w fs hfs hb htk)
  obtain ⟨ab, cb, rfl⟩ := hb.slice
  obtain ⟨n, Hn⟩ : ∃ n, Hid ((recs fs).length = n) := ⟨_, rfl⟩
  rw [Hn.out] at HI ⊢
  clear hb hfs htk
  go_enter Tryz.func20, Tryz.ntmps20
  go_wp2_with fail
  refine HI.out.mono ?_
  rintro e w1 ⟨q, x, rfl, hP, hs, hG, hU⟩
  have HP := Lib.hid hP
  have HS := Lib.hid hs
  have HG := Lib.hid hG
  have HU := Lib.hid hU
  have HF := Lib.hid (pFault [108, 111, 97, 100] [] 0 w1)
  unfold sv at HF
  clear hP hs hG hU HI
  go_wp2_with fail
  refine HF.out.mono ?_
  rintro e w2 ⟨v, rfl, hF, hG2⟩
  obtain rfl := hF.nilOf
  have HG2 := Lib.hid hG2
  clear hF hG2 HF
  go_wp2
  go_ret2
  exact ⟨q, x, rfl, HP.out.grows HG2.out, HS.out, Grows.trans' HG.out HG2.out, HU.out⟩

/-- Deeds one behind the other. -/
def runP (s : Ps) (l : List Dd) : Ps := l.foldl (fun s d => (doP s d.dp).2) s
theorem runP_snoc (s : Ps) (l : List Dd) (k : Nat) (hk : k < l.length) : runP s (l.take (k + 1)) = (doP (runP s (l.take k)) (l[k]).dp).2 := by
  unfold runP
  rw [List.take_succ_eq_append_getElem hk, List.foldl_append]
  rfl
theorem inv_run {c : Nat} {s : Ps} (h : Inv c s) {l : List Dd} (hl : SmallL l) : ∀ k, k ≤ l.length → Inv (c + k) (runP s (l.take k)) := by
  intro k
  induction k with
  | zero => intro _; simpa [runP] using h
  | succ k ih =>
    intro hk
    rw [runP_snoc s l k (by omega)]
    exact inv_do (ih (by omega)) _ fun hq => hl.good _ (List.getElem_mem (by omega)) (.inr (.inr hq))
theorem dd_small {l : List Dd} (hl : SmallL l) {x : Dd} (hx : x ∈ l) : x.p.length ≤ 1000000 ∧ x.keep.length ≤ 1000000 := by
  have := hl.good x hx
  unfold Dd.bad at this
  omega
theorem dds_ok {w : World} {v : Value} {l : List Dd} (h : DdsAt w v l) : ∀ x ∈ l, DdOk w x := by
  obtain ⟨a, cap, e, h1, h2, h3⟩ := h
  exact h2
theorem dds_grow {w w' : World} {v : Value} {l : List Dd} (h : DdsAt w v l) (g : Grows w w') : DdsAt w' v l := by
  obtain ⟨a, cap, e, h1, h2, h3⟩ := h
  refine ⟨a, cap, e, h1, fun x hx => (h2 x hx).grows g, h3.imp id ?_⟩
  rintro ⟨b, o, e2, hc⟩
  exact ⟨b, o, e2, fun i hi j u hu => g.cell' (hc i hi j u hu)⟩
theorem out_new {B : Nat} {O : Nat → Prop} {w : World} {v : Value} {l : List UInt8} (hB : w.heap.size = B) (h : Byt w v l) (hO : ∀ k, O k → B ≤ k) : Outside O v := by
  intro b off sp n c e hn hb
  obtain ⟨a, cap, e2, _, _, _, h5⟩ := h
  rw [e] at e2
  simp only [Value.slice.injEq] at e2
  obtain ⟨e3, e4, _⟩ := e2
  rcases h5 with h5 | ⟨b', o', e5, hc⟩
  · rw [h5] at e4; exact hn e4
  · have hl : 0 < l.length := by omega
    have h6 := World.block_lt_of_cell? w _ (hc 0 hl)
    rw [e5] at e3
    simp only [Option.some.injEq, Addr.mk.injEq] at e3
    have h7 := hO b hb
    have h8 : b = b' := e3.1
    have h9 : b' < w.heap.size := h6
    omega
theorem out_newI {B : Nat} {O : Nat → Prop} {w : World} {v : Value} {l : List Int} (hB : w.heap.size = B) (h : IntS w v l) (hO : ∀ k, O k → B ≤ k) : Outside O v := by
  intro b off sp n c e hn hb
  obtain ⟨a, cap, e2, h5⟩ := h
  rw [e] at e2
  simp only [Value.slice.injEq] at e2
  obtain ⟨e3, e4, _⟩ := e2
  rcases h5 with h5 | ⟨b', o', e5, hc⟩
  · rw [h5] at e4; exact hn e4
  · have hl : 0 < l.length := by omega
    have h6 := World.block_lt_of_cell? w _ (hc 0 hl)
    rw [e5] at e3
    simp only [Option.some.injEq, Addr.mk.injEq] at e3
    have h7 := hO b hb
    have h8 : b = b' := e3.1
    have h9 : b' < w.heap.size := h6
    omega
/-- A disk of the call's own. -/
structure Own4 (w0 : World) (w : World) (q : Nat) (x : Px) : Prop where
  pd : PD w q x
  new : ∀ k, useP q x k → w0.heap.size ≤ k
  gr : Grows w0 w
theorem Own4.grows {w0 w w' : World} {q : Nat} {x : Px} (h : Own4 w0 w q x) (g : Grows w w') : Own4 w0 w' q x := ⟨h.pd.grows g, h.new, Grows.trans' h.gr g⟩
theorem Own4.turn {w0 w w' : World} {q : Nat} {x x' : Px} (h : Own4 w0 w q x) (hP : PD w' q x') (hT : TurnP q x x' w w') : Own4 w0 w' q x' :=
  ⟨hP, fun k hk => (hT.uses k hk).elim (h.new k) (fun hl => Nat.le_trans h.gr.size hl), h.gr.trans (hT.but.below h.gr.size fun k hk => h.new k (mut_use hk))⟩
/-- Another disk that has no block in common with it. -/
theorem Own4.other {w0 w w' : World} {q q2 : Nat} {x x' x2 : Px} (h : Own4 w0 w q x) (h2 : Own4 w0 w q2 x2) (hd : ∀ k, useP q x k → ¬ useP q2 x2 k) (hP : PD w' q x') (hT : TurnP q x x' w w') : Own4 w0 w' q2 x2 ∧ ∀ k, useP q x' k → ¬ useP q2 x2 k :=
  ⟨⟨h2.pd.but hT.but fun k hk => hd k (mut_use hk), h2.new, h2.gr.trans (hT.but.below h2.gr.size fun k hk => h.new k (mut_use hk))⟩,
   fun k hk h9 => (hT.uses k hk).elim (fun hu => hd k hu h9) (fun hl => by have := h2.pd.ltU h9; omega)⟩
theorem own4_do {w0 w : World} {q : Nat} {x : Px} {c : Nat} (h : Own4 w0 w q x) (hi : Inv c x.s) (hc : c ≤ 1000) (hek : EK w0) (d : Dd) (hd : DdOk w0 d) (hs : d.p.length ≤ 1000000 ∧ d.keep.length ≤ 1000000) :
    Calls Tryz.prog 13 #[.pointer (some ⟨q, 0, none⟩), d.v] w fun e w' => e = .returned (.tuple #[.int .i64 (doP x.s d.dp).1.1, .string ⟨(doP x.s d.dp).1.2.toArray⟩]) ∧ ∃ x', PD w' q x' ∧ x'.s = (doP x.s d.dp).2 ∧ TurnP q x x' w w' := by
  refine pDo h.pd d (hd.grows h.gr) hs.1 hs.2 (out_new rfl hd.p fun k hk => h.new k (mut_use hk)) (out_newI rfl hd.keep fun k hk => h.new k (mut_use hk)) ?_ hi.code (hek.grows h.gr) (fun h0 => by have := h.new 0 (mut_use h0); have := hek.pos; omega)
  have h1 := hi.dirs
  have h2 := hi.made
  have h3 := hi.files
  have h4 := hi.pend
  rw [← x.sDirs] at h1
  rw [← x.sFiles] at h3
  refine ⟨by omega, ?_, by omega, ?_⟩
  · have : x.made ≤ c := h2
    omega
  · have : x.pend.length ≤ c := h4
    omega
theorem deedSize : (Tryz.prog.info? 39).map (·.size) = some 6 := by kernel_rfl
/-- One deed of a list, as it is loaded. -/
theorem deed_at {w0 w : World} {a : Option Addr} {c : Nat} {l : List Dd} (h : DdsAt w0 (.slice a l.length c) l) (g : Grows w0 w) (i : Nat) (hi : i < l.length) : ∃ b o, a = some ⟨b, o, none⟩ ∧ ∀ j u, (l[i]).cs[j]? = some u → w.cell? ((⟨b, o + i * 6, none⟩ : Addr).add j) = some u := by
  obtain ⟨a', c', e, _, _, h3⟩ := h
  simp only [Value.slice.injEq, true_and] at e
  obtain ⟨rfl, rfl⟩ := e
  rcases h3 with h3 | ⟨b, o, e2, hc⟩
  · rw [h3] at hi; simp at hi
  · refine ⟨b, o, e2, fun j u hu => ?_⟩
    rw [Addr.add_lit]
    exact g.cell' (hc i hi j u hu)
set_option maxRecDepth 100000 in
set_option maxHeartbeats 4000000 in
theorem walkLoads (v0 v1 : Value) (l k : List Dd) (w : World) (hek : EK w) (h0 : DdsAt w v0 l) (h1 : DdsAt w v1 k) :
    Calls Tryz.prog 6 #[v0, v1] w fun e w' => e = .returned (.bool true) ∧ Grows w w' := by
  have hmx : Tryz.prog.follows .mixedOrders = true := by kernel_rfl
  have HS0 := Lib.hid (pSmall v0 l w h0)
  have HS1 : Hid (∀ W, Grows w W → Calls Tryz.prog 8 #[v1] W (SmallPost W k)) := fun W g => pSmall v1 k W (dds_grow h1 g)
  have HLV : Hid (∀ W, Grows w W → Calls Tryz.prog 9 #[] W fun e w' => e = .returned (.bool true) ∧ Grows W w') := fun W g => pLive W (hek.grows g)
  have Hek := Lib.hid hek
  obtain ⟨a0, c0, rfl⟩ : ∃ a c, v0 = .slice a l.length c := by obtain ⟨a, c, e, _⟩ := h0; exact ⟨a, c, e⟩
  obtain ⟨a1, c1, rfl⟩ : ∃ a c, v1 = .slice a k.length c := by obtain ⟨a, c, e, _⟩ := h1; exact ⟨a, c, e⟩
  have H0 := Lib.hid h0
  have H1 := Lib.hid h1
  have HN : Hid (∀ W, Calls Tryz.prog 10 #[.int .i64 4096] W fun e w' => ∃ q x, e = .returned (.tuple #[.pointer (some ⟨q, 0, none⟩), .nilIface]) ∧ PD w' q x ∧ x.s = newP 4096 ∧ Grows W w' ∧ ∀ k, useP q x k → W.heap.size ≤ k) := fun W => pNew 4096 (by omega) W
  obtain ⟨L0, HL0⟩ : ∃ y, Hid (l.length = y) := ⟨_, rfl⟩
  obtain ⟨L1, HL1⟩ : ∃ y, Hid (k.length = y) := ⟨_, rfl⟩
  rw [HL0.out] at HS0 ⊢
  rw [HL1.out] at HS1 ⊢
  clear hek h0 h1
  go_enter Tryz.func6, Tryz.ntmps6
  go_wp2_with fail
  refine HS0.out.mono ?_
  rintro e w1 ⟨b0, rfl, hG1, hb0⟩
  have HG1 := Lib.hid hG1
  have Hb0 := Lib.hid hb0
  clear hG1 hb0 HS0
  cases b0 with
  | false =>
    go_wp2_with fail
    refine (HLV.out _ HG1.out).mono ?_
    rintro e w2 ⟨rfl, hG2⟩
    have HG2 := Lib.hid (Grows.trans' HG1.out hG2)
    clear hG2
    go_wp2
    go_ret
    exact ⟨rfl, HG2.out⟩
  | true =>
  go_wp2_with fail
  refine (HS1.out _ HG1.out).mono ?_
  rintro e w2 ⟨b1, rfl, hG2, hb1⟩
  have HG2 := Lib.hid (Grows.trans' HG1.out hG2)
  have Hb1 := Lib.hid hb1
  clear hG2 hb1 HS1
  cases b1 with
  | false =>
    go_wp2_with fail
    refine (HLV.out _ HG2.out).mono ?_
    rintro e w3 ⟨rfl, hG3⟩
    have HG3 := Lib.hid (Grows.trans' HG2.out hG3)
    clear hG3
    go_wp2
    go_ret
    exact ⟨rfl, HG3.out⟩
  | true =>
  have HSl : Hid (SmallL l) := by first | exact Hb0.out rfl | exact Hb0.out trivial
  have HSk : Hid (SmallL k) := by first | exact Hb1.out rfl | exact Hb1.out trivial
  go_wp2_with fail
  refine (HN.out w2).mono ?_
  rintro e w3 ⟨q, x0, rfl, hP, hs, hG, hU⟩
  have HO3 : Hid (Own4 w w3 q x0) := ⟨hP, fun j hj => Nat.le_trans HG2.out.size (hU j hj), Grows.trans' HG2.out hG⟩
  have Hs3 := Lib.hid hs
  clear hP hs hG hU HN
  go_wp2
  go_loopw [7] (fun t7 wr => ∃ (i : Nat) (x : Px), t7 = .int .i64 i ∧ i ≤ L0 ∧ Hid (Own4 w wr q x) ∧ Hid (x.s = runP (newP 4096) (l.take i))) (fun t7 _ => L0 - (intOf t7).toNat)
  case atStart => exact ⟨0, x0, rfl, by omega, HO3.out, by show _ = _; rw [Hs3.out]; simp [runP]⟩
  case round =>
    obtain ⟨i, x, rfl, hiL, HO, Hsx⟩ := hrel
    by_cases hlt : (i : Int) < (L0 : Int)
    · have hil : i < l.length := by rw [HL0.out]; omega
      obtain ⟨b, o, rfl, hcs⟩ := deed_at H0.out HO.out.gr i hil
      have Hcs := Lib.hid hcs
      have hinv := inv_run inv_new HSl.out i (by omega)
      rw [← Hsx.out] at hinv
      have hL80 : L0 ≤ 80 := by rw [← HL0.out]; exact HSl.out.len
      have HD := Lib.hid (own4_do HO.out hinv (by omega) Hek.out (l[i]) (dds_ok H0.out _ (List.getElem_mem hil)) (dd_small HSl.out (List.getElem_mem hil)))
      have Hnx : Hid (runP (newP 4096) (l.take (i + 1)) = (doP x.s (l[i]).dp).2) := by show _ = _; rw [runP_snoc _ _ _ hil, Hsx.out]
      obtain ⟨C, HC⟩ : ∃ C, Hid ((l[i]).cs.toArray = C) := ⟨_, Lib.hid rfl⟩
      have hcl : (l[i]).cs.length = 6 := rfl
      rw [show (l[i]).v = .agg (l[i]).cs.toArray from rfl, HC.out] at HD
      obtain ⟨r, Hr⟩ : ∃ r, Hid (doP x.s (l[i]).dp = r) := ⟨_, Lib.hid rfl⟩
      rw [Hr.out] at HD Hnx
      have Hhc : Hid ((Tryz.prog.info? 39).map (·.size) = some (l[i]).cs.length) := deedSize
      have hiI : (i : Int) ≤ 80 := by omega
      clear hcs hinv hcl
      go_wp2_with (first
        | (refine wpList_loadPart rfl 39 _ rfl ⟨b, o + i * 6, none⟩ rfl (l[i]).cs C HC.out _ Hcs.out Tryz.underlying39 rfl Hhc.out ?_)
        | fail)
      refine HD.out.mono ?_
      rintro e w4 ⟨rfl, x', hP', hs', hT'⟩
      have HO4 := Lib.hid (HO.out.turn hP' hT')
      have Hs4 : Hid (x'.s = runP (newP 4096) (l.take (i + 1))) := by show _ = _; rw [hs', Hnx.out]
      clear hP' hs' hT' HD
      go_wp2
      go_roundw
      case rel => exact ⟨i + 1, x', by simp, by omega, HO4.out, Hs4.out⟩
      case measure => first | omega | (simp [intOf]; omega)
    · have hi : i = L0 := by omega
      subst hi
      have hall : l.take i = l := List.take_of_length_le (by rw [HL0.out]; exact Nat.le_refl _)
      have hinv := inv_run inv_new HSl.out i (by have := HL0.out; omega)
      rw [← Hsx.out] at hinv
      have HInv := Lib.hid hinv
      have HSV := Lib.hid (pSave HO.out.pd)
      have Hris := Lib.hid (saved_rising HO.out.pd)
      have HLD : Hid (∀ v W, Byt W v (recs (savedFs x.s)) → Calls Tryz.prog 20 #[.int .i64 4096, v] W fun e w' => ∃ q x', e = .returned (.tuple #[.pointer (some ⟨q, 0, none⟩), .nilIface]) ∧ PD w' q x' ∧ x'.s = loadS 4096 (savedFs x.s) ∧ Grows W w' ∧ ∀ k, useP q x' k → W.heap.size ≤ k) :=
        fun v W hb => pLoad 4096 (by omega) v W _ Hris.out hb (load_taken Hris.out (saved_small HInv.out))
      rw [save_recs] at HSV
      have Hdne : Hid (x.s.dirs ≠ []) := by
        show _ ≠ _
        intro e
        have := HO.out.pd.wf.ne
        unfold Px.s at e
        simp at e
        exact this e
      clear hall hinv
      go_wp2_with fail
      refine HSV.out.mono ?_
      rintro e w5 ⟨v, rfl, hv, hG5⟩
      obtain ⟨av, cv, rfl⟩ := own_form hv
      have HLD5 := Lib.hid (HLD.out _ w5 (Own.byt hv))
      have HO5 := Lib.hid (HO.out.grows hG5)
      obtain ⟨nv5, Hnv5⟩ : ∃ y, Hid ((recs (savedFs x.s)).length = y) := ⟨_, rfl⟩
      rw [Hnv5.out] at HLD5 ⊢
      clear hv hG5 HSV HLD
      go_wp2_with fail
      refine HLD5.out.mono ?_
      rintro e w6 ⟨qc, xc, rfl, hPc, hsc, hGc, hUc⟩
      have HOc : Hid (Own4 w w6 qc xc) := ⟨hPc, fun j hj => Nat.le_trans HO5.out.gr.size (hUc j hj), Grows.trans' HO5.out.gr hGc⟩
      have HO6 := Lib.hid (HO5.out.grows hGc)
      have Hdis : Hid (∀ j, useP qc xc j → ¬ useP q x j) := fun j hj hj2 => by have := hUc j hj; have := HO5.out.pd.ltU hj2; omega
      have Hsc := Lib.hid hsc
      have HCR := Lib.hid (pCrash HO6.out.pd 0 (by omega) (.slice none 0 0) [] ⟨none, 0, rfl, .inl rfl⟩ (fun b off sp n c e hn => by cases e) (by simp) (by simp))
      clear hPc hsc hGc hUc HLD5
      go_wp2_with fail
      refine HCR.out.mono ?_
      rintro e w7 ⟨rfl, xd, hPd, hsd, hTd⟩
      have HOd := Lib.hid (HO6.out.turn hPd hTd)
      have hoth := HO6.out.other HOc.out (fun j hj hj2 => Hdis.out j hj2 hj) hPd hTd
      have HOc7 := Lib.hid hoth.1
      have Hdis7 : Hid (∀ j, useP qc xc j → ¬ useP q xd j) := fun j hj hj2 => hoth.2 j hj2 hj
      have HA7 : Hid (Ali (numF x.s) xc.s xd.s) := by show Ali _ _ _; rw [Hsc.out, hsd]; exact ali_load HInv.out Hdne.out
      have HIc : Hid (Inv 8 xc.s) := by show Inv _ _; rw [Hsc.out]; exact inv_load Hris.out (saved_small HInv.out)
      have HId : Hid (Inv 80 xd.s) := by show Inv _ _; rw [hsd]; exact (inv_crash HInv.out 0 []).mono (by have h8 := HSl.out.len; have h9 := HL0.out; omega)
      clear hPd hsd hTd hoth HCR
      go_wp2
      go_loopw [10] (fun t10 wz => ∃ (i : Nat) (xc xd : Px) (f : Nat → Nat), t10 = .int .i64 i ∧ i ≤ L1 ∧ Hid (Own4 w wz qc xc) ∧ Hid (Own4 w wz q xd) ∧ Hid (∀ j, useP qc xc j → ¬ useP q xd j) ∧ Hid (Ali f xc.s xd.s) ∧ Hid (Inv (8 + i) xc.s) ∧ Hid (Inv (80 + i) xd.s)) (fun t10 _ => L1 - (intOf t10).toNat)
      case atStart => exact ⟨0, xc, xd, _, rfl, by omega, HOc7.out, HOd.out, Hdis7.out, HA7.out, HIc.out, HId.out⟩
      case round =>
        obtain ⟨i2, xc2, xd2, f2, rfl, hiL2, HOc2, HOd2, Hdis2, HA2, HIc2, HId2⟩ := hrel
        by_cases hlt2 : (i2 : Int) < (L1 : Int)
        · have hil : i2 < k.length := by rw [HL1.out]; omega
          obtain ⟨b, o, rfl, hcs⟩ := deed_at H1.out HOc2.out.gr i2 hil
          have hL80 : L1 ≤ 80 := by rw [← HL1.out]; exact HSk.out.len
          have hdd := dds_ok H1.out _ (List.getElem_mem hil)
          have hsm := dd_small HSk.out (List.getElem_mem hil)
          have hbad := HSk.out.good _ (List.getElem_mem hil)
          have HD := Lib.hid (own4_do HOc2.out HIc2.out (by omega) Hek.out (k[i2]) hdd hsm)
          have HD2 : Hid (∀ W, Own4 w W q xd2 → _) := fun W hW => own4_do (w := W) hW HId2.out (by omega) Hek.out (k[i2]) hdd hsm
          obtain ⟨hal, f3, hal2⟩ := ali_do HA2.out (k[i2]).dp
          have HIc3 := Lib.hid (inv_do HIc2.out (k[i2]).dp fun hq => hbad (.inr (.inr hq)))
          have HId3 := Lib.hid (inv_do HId2.out (k[i2]).dp fun hq => hbad (.inr (.inr hq)))
          obtain ⟨C, HC⟩ : ∃ C, Hid ((k[i2]).cs.toArray = C) := ⟨_, Lib.hid rfl⟩
          rw [hal] at HD2
          rw [show (k[i2]).v = .agg (k[i2]).cs.toArray from rfl, HC.out] at HD HD2
          have Hcs := Lib.hid hcs
          have Hcs2 : Hid (∀ W, Grows w W → ∀ j u, (k[i2]).cs[j]? = some u → W.cell? ((⟨b, o + i2 * 6, none⟩ : Addr).add j) = some u) := fun W g => by
            obtain ⟨b', o', e, hc'⟩ := deed_at H1.out g i2 hil
            simp only [Option.some.injEq, Addr.mk.injEq, and_true] at e
            obtain ⟨rfl, rfl⟩ := e
            exact hc'
          obtain ⟨rc, Hrc⟩ : ∃ r, Hid (doP xc2.s (k[i2]).dp = r) := ⟨_, Lib.hid rfl⟩
          obtain ⟨rd, Hrd⟩ : ∃ r, Hid (doP xd2.s (k[i2]).dp = r) := ⟨_, Lib.hid rfl⟩
          rw [Hrc.out, Hrd.out] at hal2
          rw [Hrc.out] at HD HD2 HIc3
          rw [Hrd.out] at HD2 HId3
          have HA3 := Lib.hid hal2
          obtain ⟨ns, Hns⟩ : ∃ y : Int, Hid (rc.1.1 = y) := ⟨_, rfl⟩
          obtain ⟨st, Hst⟩ : ∃ y : ByteArray, Hid (⟨rc.1.2.toArray⟩ = y) := ⟨_, rfl⟩
          rw [Hns.out, Hst.out] at HD HD2
          have Hhc : Hid ((Tryz.prog.info? 39).map (·.size) = some (k[i2]).cs.length) := deedSize
          have hiI : (i2 : Int) ≤ 80 := by omega
          clear hcs hdd hsm hbad hal hal2
          go_wp2_with (first
            | (refine wpList_loadPart rfl 39 _ rfl ⟨b, o + i2 * 6, none⟩ rfl (k[i2]).cs C HC.out _ Hcs.out Tryz.underlying39 rfl Hhc.out ?_)
            | fail)
          refine HD.out.mono ?_
          rintro e w8 ⟨rfl, xc3, hPc, hsc, hTc⟩
          have HOc8 := Lib.hid (HOc2.out.turn hPc hTc)
          have hoth := HOc2.out.other HOd2.out Hdis2.out hPc hTc
          have HOd8 := Lib.hid hoth.1
          have Hdis8 := Lib.hid hoth.2
          have Hsc8 := Lib.hid hsc
          have Hcs8 := Lib.hid (Hcs2.out w8 HOc8.out.gr)
          have HD8 := Lib.hid (HD2.out w8 HOd8.out)
          clear hPc hsc hTc hoth HD HD2
          go_wp2_with (first
            | (refine wpList_loadPart rfl 39 _ rfl ⟨b, o + i2 * 6, none⟩ rfl (k[i2]).cs C HC.out _ Hcs8.out Tryz.underlying39 rfl Hhc.out ?_)
            | fail)
          refine HD8.out.mono ?_
          rintro e w9 ⟨rfl, xd3, hPd, hsd, hTd⟩
          have HOd9 := Lib.hid (HOd8.out.turn hPd hTd)
          have hoth := HOd8.out.other HOc8.out (fun j hj hj2 => Hdis8.out j hj2 hj) hPd hTd
          have HOc9 := Lib.hid hoth.1
          have Hdis9 : Hid (∀ j, useP qc xc3 j → ¬ useP q xd3 j) := fun j hj hj2 => hoth.2 j hj2 hj
          have Hsd9 := Lib.hid hsd
          clear hPd hsd hTd hoth HD8
          go_wp2
          go_roundw
          case rel =>
            refine ⟨i2 + 1, xc3, xd3, f3, by simp, by omega, HOc9.out, HOd9.out, Hdis9.out, ?_, ?_, ?_⟩
            · show Ali _ _ _
              rw [Hsc8.out, Hsd9.out]
              exact HA3.out
            · show Inv _ _
              rw [Hsc8.out]
              exact HIc3.out
            · show Inv _ _
              rw [Hsd9.out]
              exact HId3.out
          case measure => first | omega | (simp [intOf]; omega)
        · have hi : i2 = L1 := by omega
          subst hi
          have HSc := Lib.hid (fun W g => pSave (HOc2.out.grows (w' := W) g).pd)
          have HSd := Lib.hid (fun W g => pSave (HOd2.out.grows (w' := W) g).pd)
          rw [ali_save HA2.out] at HSd
          obtain ⟨sb, Hsb⟩ : ∃ y, Hid (saveP xc2.s = y) := ⟨_, rfl⟩
          rw [Hsb.out] at HSc HSd
          go_wp2
          refine specs_region
            #[[], [0], [0, 1], [], [0, 1, 3], [0, 1, 3, 4], [0, 1, 2, 3, 4, 5], [0, 1, 2, 3, 4, 5, 6], [0, 1, 2, 3, 4, 5, 6, 7], [0, 1, 2, 3, 4, 5, 6, 7, 8], [0, 1, 2, 3, 4, 5, 6, 7, 8, 9]] #[[8], [], [], [5], [], [], [], [], [], [], []] #[true, true, true, true, true, true, true, true, true, true, true]
            ((.val ?vz0) :: (.pred (fun v W => Byt W v sb) (fun v a b g h => h.grows g)) :: (.val (.string ⟨sb.toArray⟩)) :: (.val ?vz3) :: (.pred (fun v W => Byt W v sb) (fun v a b g h => h.grows g)) :: (.val (.string ⟨sb.toArray⟩)) :: (.val (.bool true)) :: (.val ?vz7) :: (.val (.bool true)) :: (.val (.bool true)) :: (.val ?vz10) :: []).toArray
            hmx ?chkz ?grdz ?stpz ?rstz
          case chkz => rfl
          case stpz =>
            refine ⟨?_, ?_, ?_, ?_, ?_, ?_, ?_, ?_, ?_, ?_, ?_, trivial⟩
            · refine step_intro rfl rfl fun ρ X hc hf hgl hX hp ho => ?_
              change StepOk _ { dst := _, op := Op.move (Operand.tmp 8), type := _, pos := _, after := _, guard := _ } _ _ _
              have k8 : ρ (.tmp 8) = .pointer (some ⟨qc, 0, none⟩) := ho 8 (by decide)
              clear hp ho
              refine StepOk.of_run (v := ?vz0) (w' := X) ?_ ⟨rfl, Below.refl _ _⟩
              clear hX
              go_simp
              all_goals try go_bits
              all_goals try simp only [IntWalk.iteOmega]
              all_goals try go_bits
              all_goals rfl
            · refine step_intro rfl rfl fun ρ X hc hf hgl hX hp ho => ?_
              change StepOk _ { dst := _, op := Op.call { callee := Callee.value (Operand.func 18), args := #[Operand.tmp 92], argTypes := #[25] }, type := _, pos := _, after := _, guard := _ } _ _ _
              have k92 : ρ (.tmp 92) = ?vz0 := hp 0 (by decide)
              clear hp ho
              refine StepOk.of_call (f := 18) (args := #[.pointer (some ⟨qc, 0, none⟩)]) (w' := X) ?_ (HSc.out X hX) ?_
              · go_simp
                all_goals rfl
              · rintro e w' ⟨v, rfl, hv, hg'⟩
                exact ⟨v, rfl, Own.byt hv, hg'⟩
            · refine step_intro rfl rfl fun ρ X hc hf hgl hX hp ho => ?_
              change StepOk _ { dst := _, op := Op.convert 36 9 (Operand.tmp 93), type := _, pos := _, after := _, guard := _ } _ _ _
              have k93 := hp 1 (by decide)
              clear hp ho
              refine StepOk.of_run (v := .string ⟨sb.toArray⟩) (w' := X) ?_ ⟨rfl, Below.refl _ _⟩
              obtain ⟨a9, c9, e9, h9⟩ := k93
              have hb9 : Byt X (.slice a9 sb.length c9) sb := ⟨a9, c9, rfl, h9⟩
              simp only [execOp, Sem.run_bind, Sem.run_pure, Result.andThen_ok, e9]
              rw [run_string Tryz.underlying36 Tryz.underlying5 Tryz.underlying9 hb9]
              rfl
            · refine step_intro rfl rfl fun ρ X hc hf hgl hX hp ho => ?_
              change StepOk _ { dst := _, op := Op.move (Operand.tmp 5), type := _, pos := _, after := _, guard := _ } _ _ _
              have k5 : ρ (.tmp 5) = .pointer (some ⟨q, 0, none⟩) := ho 5 (by decide)
              clear hp ho
              refine StepOk.of_run (v := ?vz3) (w' := X) ?_ ⟨rfl, Below.refl _ _⟩
              clear hX
              go_simp
              all_goals try go_bits
              all_goals try simp only [IntWalk.iteOmega]
              all_goals try go_bits
              all_goals rfl
            · refine step_intro rfl rfl fun ρ X hc hf hgl hX hp ho => ?_
              change StepOk _ { dst := _, op := Op.call { callee := Callee.value (Operand.func 18), args := #[Operand.tmp 95], argTypes := #[25] }, type := _, pos := _, after := _, guard := _ } _ _ _
              have k95 : ρ (.tmp 95) = ?vz3 := hp 3 (by decide)
              clear hp ho
              refine StepOk.of_call (f := 18) (args := #[.pointer (some ⟨q, 0, none⟩)]) (w' := X) ?_ (HSd.out X hX) ?_
              · go_simp
                all_goals rfl
              · rintro e w' ⟨v, rfl, hv, hg'⟩
                exact ⟨v, rfl, Own.byt hv, hg'⟩
            · refine step_intro rfl rfl fun ρ X hc hf hgl hX hp ho => ?_
              change StepOk _ { dst := _, op := Op.convert 36 9 (Operand.tmp 96), type := _, pos := _, after := _, guard := _ } _ _ _
              have k96 := hp 4 (by decide)
              clear hp ho
              refine StepOk.of_run (v := .string ⟨sb.toArray⟩) (w' := X) ?_ ⟨rfl, Below.refl _ _⟩
              obtain ⟨a9, c9, e9, h9⟩ := k96
              have hb9 : Byt X (.slice a9 sb.length c9) sb := ⟨a9, c9, rfl, h9⟩
              simp only [execOp, Sem.run_bind, Sem.run_pure, Result.andThen_ok, e9]
              rw [run_string Tryz.underlying36 Tryz.underlying5 Tryz.underlying9 hb9]
              rfl
            · refine step_intro rfl rfl fun ρ X hc hf hgl hX hp ho => ?_
              change StepOk _ { dst := _, op := Op.binOp BinOp.eql 9 (Operand.tmp 94) (Operand.tmp 97) 9, type := _, pos := _, after := _, guard := _ } _ _ _
              have k94 : ρ (.tmp 94) = (.string ⟨sb.toArray⟩) := hp 2 (by decide)
              have k97 : ρ (.tmp 97) = (.string ⟨sb.toArray⟩) := hp 5 (by decide)
              clear hp ho
              refine StepOk.of_run (v := .bool true) (w' := X) ?_ ⟨rfl, Below.refl _ _⟩
              simp [go_sem, execOp, k94, k97]
            · refine step_intro rfl rfl fun ρ X hc hf hgl hX hp ho => ?_
              change StepOk _ { dst := _, op := Op.move (Operand.tmp 98), type := _, pos := _, after := _, guard := _ } _ _ _
              have k98 : ρ (.tmp 98) = (.bool true) := hp 6 (by decide)
              clear hp ho
              refine StepOk.of_run (v := ?vz7) (w' := X) ?_ ⟨rfl, Below.refl _ _⟩
              clear hX
              go_simp
              all_goals try go_bits
              all_goals try simp only [IntWalk.iteOmega]
              all_goals try go_bits
              all_goals rfl
            · refine step_intro rfl rfl fun ρ X hc hf hgl hX hp ho => ?_
              change StepOk _ { dst := _, op := Op.call { callee := Callee.value (Operand.func 9), args := #[], argTypes := #[] }, type := _, pos := _, after := _, guard := _ } _ _ _
              clear hp ho
              refine StepOk.of_call (f := 9) (args := #[]) (w' := X) ?_ (HLV.out X (Grows.trans' HOc2.out.gr hX)) ?_
              · go_simp
                all_goals rfl
              · rintro e w' ⟨rfl, hg'⟩
                exact ⟨_, rfl, rfl, hg'⟩
            · refine step_intro rfl rfl fun ρ X hc hf hgl hX hp ho => ?_
              change StepOk _ { dst := _, op := Op.pick (Operand.tmp 99) (Operand.tmp 100) (Operand.const (Value.bool false)), type := _, pos := _, after := _, guard := _ } _ _ _
              have k99 : ρ (.tmp 99) = ?vz7 := hp 7 (by decide)
              have k100 : ρ (.tmp 100) = (.bool true) := hp 8 (by decide)
              clear hp ho
              refine StepOk.of_run (v := .bool true) (w' := X) ?_ ⟨rfl, Below.refl _ _⟩
              simp [go_sem, execOp, k99, k100]
            · refine step_intro rfl rfl fun ρ X hc hf hgl hX hp ho => ?_
              change StepOk _ { dst := _, op := Op.assign (Operand.tmp 101), type := _, pos := _, after := _, guard := _ } _ _ _
              have k101 : ρ (.tmp 101) = (.bool true) := hp 9 (by decide)
              clear hp ho
              refine StepOk.of_run (v := ?vz10) (w' := X) ?_ ⟨rfl, Below.refl _ _⟩
              clear hX
              go_simp
              all_goals try go_bits
              all_goals try simp only [IntWalk.iteOmega]
              all_goals try go_bits
              all_goals rfl
          case grdz => rfl
          case rstz =>
            intro a0 X hb
            obtain ⟨x93, hx93⟩ : ∃ x, a0.tmps.getD 93 undef = x := ⟨_, rfl⟩
            have p93 := hb.done' 1 93 rfl rfl
            rw [hx93] at p93
            obtain ⟨x96, hx96⟩ : ∃ x, a0.tmps.getD 96 undef = x := ⟨_, rfl⟩
            have p96 := hb.done' 4 96 rfl rfl
            rw [hx96] at p96
            have hfr := hb.frame ((4, ?vz10) :: (92, ?vz0) :: (93, x93) :: (94, (.string ⟨sb.toArray⟩)) :: (95, ?vz3) :: (96, x96) :: (97, (.string ⟨sb.toArray⟩)) :: (98, (.bool true)) :: (99, ?vz7) :: (100, (.bool true)) :: (101, (.bool true)) :: []) rfl ⟨hb.done' 10 4 rfl rfl, hb.done' 0 92 rfl rfl, hx93, hb.done' 2 94 rfl rfl, hb.done' 3 95 rfl rfl, hx96, hb.done' 5 97 rfl rfl, hb.done' 6 98 rfl rfl, hb.done' 7 99 rfl rfl, hb.done' 8 100 rfl rfl, hb.done' 9 101 rfl rfl, trivial⟩
            simp only [updL, ↓reduceIte, Nat.reduceEqDiff, Nat.reduceAdd, Nat.zero_add] at hfr
            have HX := Lib.hid hb.ext
            clear hb
            subst hfr
            have HGX := Lib.hid (Grows.trans' HOc2.out.gr HX.out)
            clear HX
            go_wp2
            go_ret
            exact ⟨rfl, HGX.out⟩
end Go.Proofs.YtoppcpiheaedlaaGreatDoor
end
