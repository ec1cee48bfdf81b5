import Derived.Test.YtoppcpiheaedlaaGreatDoorMB5
section
/-
  The document's own disk: arming, what is pending, how long a file is, a sector as it was written last.
-/
namespace Go.Proofs.YtoppcpiheaedlaaGreatDoor
open Go.RowKit
set_option linter.unusedVariables false
set_option linter.unusedSimpArgs false
attribute [local go_sem] sv nv
theorem RD.at {w : World} {q : Nat} {s : Ds} {x : RDv} (h : RD w q s x) (id : Nat) (hid : id < s.fls.length) :
 Calls Tryz.prog 62 #[.pointer (some ⟨q, 0, none⟩), .int .i64 (id : Int)] w fun e w' => e = .returned (.int .i64 (id : Int)) ∧ w' = w := by
 have hl : (flP x.ss).length = s.fls.length := by rw [flP_length, h.ssl]
 have hf := h.fls
 rw [← hl] at hf
 exact refAt q x.vf (flP x.ss) id w (h.cell 3 _ rfl) hf (flP_fst x.ss) (by omega) (by have := h.small; omega)
theorem RD.file {w : World} {q : Nat} {s : Ds} {x : RDv} (h : RD w q s x) (id : Nat) (hid : id < s.fls.length) :
 ∃ g cap a c, x.vf = .slice (some ⟨g, 0, none⟩) s.fls.length cap ∧ x.ss.getD id undef = .slice a (secs s id).length c ∧ w.cell? ⟨q, 3, none⟩ = some (.slice (some ⟨g, 0, none⟩) s.fls.length cap) ∧ w.cell? ⟨g, id * 2 + 1, none⟩ = some (.slice a (secs s id).length c) := by
 obtain ⟨g, cap, e1⟩ := own_some h.fls (by omega)
 obtain ⟨a, c, e2⟩ := own_form (h.sec id hid)
 refine ⟨g, cap, a, c, e1, e2, by rw [h.cell 3 x.vf rfl, e1], ?_⟩
 have hf := h.fls
 rw [e1] at hf
 have hl : id < (flP x.ss).length := by rw [flP_length, h.ssl]; exact hid
 refine own_cell hf (id * 2 + 1) _ ?_
 rw [flat_get flC 2 flC_len (flP x.ss) id 1 hl (by omega)]
 show some ((flP x.ss)[id]).2 = _
 rw [flP_snd, e2]
set_option maxRecDepth 100000 in
theorem refPending (q : Nat) (s : Ds) (x : RDv) (w : World) (h : RD w q s x) :
 Calls Tryz.prog 51 #[.pointer (some ⟨q, 0, none⟩)] w fun e w' => e = .returned (.tuple #[nv s.wrs.length, nv s.chs.length]) ∧ Grows w w' := by
 have hmx : Tryz.prog.follows .mixedOrders = true := by kernel_rfl
 obtain ⟨a4, k4, e4⟩ := own_form h.wrs
 obtain ⟨a2, k2, e2⟩ := own_form h.chs
 have c4 := h.cell 4 x.vw rfl
 have c2 := h.cell 2 x.vc rfl
 rw [e4] at c4
 rw [e2] at c2
 obtain ⟨nw, Hnw⟩ : ∃ n, Hid (s.wrs.length = n) := ⟨_, rfl⟩
 obtain ⟨nc, Hnc⟩ : ∃ n, Hid (s.chs.length = n) := ⟨_, rfl⟩
 rw [Hnw.out] at c4 ⊢
 rw [Hnc.out] at c2 ⊢
 clear h e4 e2
 go_enter Tryz.func51, Tryz.ntmps51
 go_wp2
 have cX := fun X (hX : Grows _ X) => And.intro (Grows.cell' hX c4) (Grows.cell' hX c2)
 refine specs_region
  #[[], [0], [0, 1], [0, 1, 2], [0, 1, 2, 3], [], [5], [5, 6], [5, 6, 7], [5, 6, 7, 8], [0, 1, 2, 3, 4], [0, 1, 2, 3, 4, 5, 6, 7, 8, 9, 10]] #[[0], [], [], [], [], [0], [], [], [], [], [], []] #[true, true, true, true, true, true, true, true, true, true, true, true]
  ((.val ?v0) :: (.val ?v1) :: (.val ?v2) :: (.val ?v3) :: (.val ?v4) :: (.val ?v5) :: (.val ?v6) :: (.val ?v7) :: (.val ?v8) :: (.val ?v9) :: (.val ?v10) :: (.val ?v11) :: []).toArray
  hmx ?chk ?grd ?stp ?rst
 case chk => rfl
 case stp =>
  refine ⟨?_, ?_, ?_, ?_, ?_, ?_, ?_, ?_, ?_, ?_, ?_, ?_, trivial⟩
  · refine stepO 0 ?v0 rfl (fun _ _ => rfl) rfl (fun _ => rfl) (by decide) ?_; show (.pointer (some ⟨q, 0, none⟩) : Value) = _; rfl
  · refine stepR (o := ⟨_, .nilCheck (.tmp 6), _, _, _, _⟩) ?v1 rfl rfl (fun _ => rfl) fun ρ X hc hf hgl hX hp ho => ?_; have k6 : ρ (.tmp 6) = ?v0 := hp 0 (by decide); clear hp ho hX; go_simp; (all_goals rfl)
  · refine stepR (o := ⟨_, .fieldAddr 76 (.tmp 7) 4, _, _, _, _⟩) ?v2 rfl rfl (fun _ => rfl) fun ρ X hc hf hgl hX hp ho => ?_; have k7 : ρ (.tmp 7) = ?v1 := hp 1 (by decide); clear hp ho hX; go_simp; (all_goals rfl)
  · refine stepR (o := ⟨_, .load 74 (.tmp 8), _, _, _, _⟩) ?v3 rfl rfl (fun _ => rfl) fun ρ X hc hf hgl hX hp ho => ?_; have k8 : ρ (.tmp 8) = ?v2 := hp 2 (by decide); have cX := cX X hX; clear hp ho hX; go_simp; (all_goals rfl)
  · refine stepR (o := ⟨_, .call { callee := .builtin .len, args := #[.tmp 9], argTypes := #[74] }, _, _, _, _⟩) ?v4 rfl rfl (fun _ => rfl) fun ρ X hc hf hgl hX hp ho => ?_; have k9 : ρ (.tmp 9) = ?v3 := hp 3 (by decide); clear hp ho hX; go_simp; (all_goals try go_bits); (all_goals try simp only [IntWalk.iteOmega]); (all_goals try go_bits); (all_goals rfl)
  · refine stepO 0 ?v5 rfl (fun _ _ => rfl) rfl (fun _ => rfl) (by decide) ?_; show (.pointer (some ⟨q, 0, none⟩) : Value) = _; rfl
  · refine stepR (o := ⟨_, .nilCheck (.tmp 11), _, _, _, _⟩) ?v6 rfl rfl (fun _ => rfl) fun ρ X hc hf hgl hX hp ho => ?_; have k11 : ρ (.tmp 11) = ?v5 := hp 5 (by decide); clear hp ho hX; go_simp; (all_goals rfl)
  · refine stepR (o := ⟨_, .fieldAddr 76 (.tmp 12) 2, _, _, _, _⟩) ?v7 rfl rfl (fun _ => rfl) fun ρ X hc hf hgl hX hp ho => ?_; have k12 : ρ (.tmp 12) = ?v6 := hp 6 (by decide); clear hp ho hX; go_simp; (all_goals rfl)
  · refine stepR (o := ⟨_, .load 72 (.tmp 13), _, _, _, _⟩) ?v8 rfl rfl (fun _ => rfl) fun ρ X hc hf hgl hX hp ho => ?_; have k13 : ρ (.tmp 13) = ?v7 := hp 7 (by decide); have cX := cX X hX; clear hp ho hX; go_simp; (all_goals rfl)
  · refine stepR (o := ⟨_, .call { callee := .builtin .len, args := #[.tmp 14], argTypes := #[72] }, _, _, _, _⟩) ?v9 rfl rfl (fun _ => rfl) fun ρ X hc hf hgl hX hp ho => ?_; have k14 : ρ (.tmp 14) = ?v8 := hp 8 (by decide); clear hp ho hX; go_simp; (all_goals try go_bits); (all_goals try simp only [IntWalk.iteOmega]); (all_goals try go_bits); (all_goals rfl)
  · refine stepP 10 4 (?v4) ?v10 rfl (fun _ _ => rfl) rfl (fun _ => rfl) (by decide) rfl (fun _ _ h => h) ?_; rfl
  · refine stepP 15 9 (?v9) ?v11 rfl (fun _ _ => rfl) rfl (fun _ => rfl) (by decide) rfl (fun _ _ h => h) ?_; rfl
 case grd => rfl
 case rst =>
  intro a0 X hb
  have hfr := hb.frame ((2, ?v10) :: (3, ?v11) :: (6, ?v0) :: (7, ?v1) :: (8, ?v2) :: (9, ?v3) :: (10, ?v4) :: (11, ?v5) :: (12, ?v6) :: (13, ?v7) :: (14, ?v8) :: (15, ?v9) :: []) rfl ⟨hb.done' 10 2 rfl rfl, hb.done' 11 3 rfl rfl, hb.done' 0 6 rfl rfl, hb.done' 1 7 rfl rfl, hb.done' 2 8 rfl rfl, hb.done' 3 9 rfl rfl, hb.done' 4 10 rfl rfl, hb.done' 5 11 rfl rfl, hb.done' 6 12 rfl rfl, hb.done' 7 13 rfl rfl, hb.done' 8 14 rfl rfl, hb.done' 9 15 rfl rfl, trivial⟩
  simp only [updL, ↓reduceIte, Nat.reduceEqDiff, Nat.reduceAdd, Nat.zero_add] at hfr
  have HX := Lib.hid hb.ext
  clear hb cX
  subst hfr
  go_wp2
  go_ret2
  exact ⟨rfl, HX.out⟩
set_option maxRecDepth 100000 in
set_option maxHeartbeats 1000000 in
theorem refArm (q : Nat) (s : Ds) (x : RDv) (after code : Int) (ha : -9223372036854775808 ≤ after ∧ after ≤ 9223372036854775807) (w : World) (h : RD w q s x) :
 Calls Tryz.prog 48 #[.pointer (some ⟨q, 0, none⟩), .int .i64 after, .int .i64 code] w fun e w' => e = .returned (.tuple #[]) ∧ RD w' q (armF s after code) x ∧ But (fun k => k = q) w w' := by
 obtain ⟨b, Hb⟩ : ∃ b, Hid ((decide (0 ≤ after) && (code == 41 || code == 42)) = b) := ⟨_, rfl⟩
 have h1 := h.setHead 6 (.bool b) { s with armed := b } rfl (rdRow_set6 s x b) h.aft
 have h2 := h1.1.setHead 7 (.int .i64 after) { s with armed := b, after := after } rfl (rdRow_set7 _ x after) ha
 have h3 := h2.1.setHead 8 (.int .i64 code) { s with armed := b, after := after, code := code } rfl (rdRow_set8 _ x code) ha
 have c6 := h.cell 6 (.bool s.armed) rfl
 have f6 := h.frozen 6
 have c7 := h1.1.cell 7 (.int .i64 s.after) rfl
 have f7 := h1.1.frozen 7
 have c8 := h2.1.cell 8 (.int .i64 s.code) rfl
 have f8 := h2.1.frozen 8
 have Hf : Hid (RD (((w.setCell ⟨q, 6, none⟩ (.bool b)).setCell ⟨q, 7, none⟩ (.int .i64 after)).setCell ⟨q, 8, none⟩ (.int .i64 code)) q (armF s after code) x ∧ But (fun k => k = q) w (((w.setCell ⟨q, 6, none⟩ (.bool b)).setCell ⟨q, 7, none⟩ (.int .i64 after)).setCell ⟨q, 8, none⟩ (.int .i64 code))) := by
  have e : armF s after code = { s with armed := b, after := after, code := code } := by unfold armF; rw [Hb.out]
  show _ ∧ _
  rw [e]
  exact ⟨h3.1, (h1.2.trans' h2.2).trans' h3.2⟩
 clear h h1 h2 h3 ha
 have hb := Hb.out
 by_cases ha0 : 0 ≤ after
 · by_cases h41 : code = 41
   · have hbt : b = true := by rw [← hb, h41]; simp [ha0]
     have e41 : (code == 41) = true := by simpa using h41
     subst hbt
     clear hb h41
     go_enter Tryz.func48, Tryz.ntmps48
     go_wp2
     go_end0
     exact ⟨rfl, Hf.out.1, Hf.out.2⟩
   · have e41 : (code == 41) = false := by simpa using h41
     by_cases h42 : code = 42
     · have e42 : (code == 42) = true := by simpa using h42
       have hbt : b = true := by rw [← hb, h42]; simp [ha0]
       subst hbt
       clear hb h41 h42
       go_enter Tryz.func48, Tryz.ntmps48
       go_wp2
       go_end0
       exact ⟨rfl, Hf.out.1, Hf.out.2⟩
     · have e42 : (code == 42) = false := by simpa using h42
       have hbt : b = false := by rw [← hb, e41, e42]; simp
       subst hbt
       clear hb h41 h42
       go_enter Tryz.func48, Tryz.ntmps48
       go_wp2
       go_end0
       exact ⟨rfl, Hf.out.1, Hf.out.2⟩
 · have hbt : b = false := by rw [← hb]; simp [ha0]
   subst hbt
   clear hb
   go_enter Tryz.func48, Tryz.ntmps48
   go_wp2
   go_end0
   exact ⟨rfl, Hf.out.1, Hf.out.2⟩
set_option maxRecDepth 100000 in
set_option maxHeartbeats 1000000 in
theorem refLen (q : Nat) (s : Ds) (x : RDv) (nm : Nm) (w : World) (h : RD w q s x) :
 Calls Tryz.prog 52 #[.pointer (some ⟨q, 0, none⟩), sv nm] w fun e w' => e = .returned (.tuple #[nv (lenF s nm).1, .int .i64 (lenF s nm).2]) ∧ Grows w w' := by
 have hmx : Tryz.prog.follows .mixedOrders = true := by kernel_rfl
 have HI := Lib.hid (refId q s x nm w h)
 have H := Lib.hid h
 unfold sv at HI ⊢
 cases hid : idF s nm with
 | none =>
  have Hr : Hid (lenF s nm = (0, 7)) := by show _ = _; unfold lenF; rw [hid]
  have hir : idR s nm = .tuple #[.int .i64 0, .bool false] := by unfold idR; rw [hid]; rfl
  rw [hir] at HI
  clear h hid hir
  go_enter Tryz.func52, Tryz.ntmps52
  go_wp2_with fail
  refine HI.out.mono ?_
  rintro e w1 ⟨rfl, hG⟩
  have HG := Lib.hid hG
  clear hG
  go_wp2
  go_ret2
  exact ⟨by rw [Hr.out]; rfl, HG.out⟩
 | some id =>
  have Hr : Hid (lenF s nm = ((secs s id).length, 0)) := by show _ = _; unfold lenF; rw [hid]
  have hir : idR s nm = .tuple #[.int .i64 (id : Int), .bool true] := by unfold idR; rw [hid]; rfl
  have Hlt := Lib.hid (h.wf.id hid)
  rw [hir] at HI
  obtain ⟨gf, kf, af, cf, -, -, hc3, hcf⟩ := h.file id Hlt.out
  have Hc3 := Lib.hid hc3
  have Hcf := Lib.hid hcf
  obtain ⟨n, Hn⟩ : ∃ n, Hid ((secs s id).length = n) := ⟨_, rfl⟩
  obtain ⟨nf, Hnf⟩ : ∃ n, Hid (s.fls.length = n) := ⟨_, rfl⟩
  rw [Hn.out] at Hcf Hr
  rw [Hnf.out] at Hc3
  have hbi : ¬ ((nf : Int) ≤ (id : Int)) := by have := Hlt.out; have := Hnf.out; omega
  have hidn : (id : Int) < (nf : Int) := by omega
  clear h hid hir hc3 hcf
  go_enter Tryz.func52, Tryz.ntmps52
  go_wp2_with fail
  refine HI.out.mono ?_
  rintro e w1 ⟨rfl, hG⟩
  have HG := Lib.hid hG
  have c3 := hG.cell' Hc3.out
  have c5 := hG.cell' Hcf.out
  have H1 : Hid (RD w1 q s x) := H.out.grows hG
  clear hG
  go_wp2
  have cX := fun X (hX : Grows _ X) => And.intro (Grows.cell' hX c3) (Grows.cell' hX c5)
  refine specs_region
   #[[], [0], [0, 1], [0, 1, 2], [], [], [4, 5], [0, 1, 2, 3, 4, 5, 6], [0, 1, 2, 3, 4, 5, 6, 7], [0, 1, 2, 3, 4, 5, 6, 7, 8], [0, 1, 2, 3, 4, 5, 6, 7, 8, 9], [0, 1, 2, 3, 4, 5, 6, 7, 8, 9, 10], [0, 1, 2, 3, 4, 5, 6, 7, 8, 9, 10, 11]] #[[0], [], [], [], [0], [6], [], [], [], [], [], [], []] #[true, true, true, true, true, true, true, true, true, true, true, true, true]
   ((.val ?v0) :: (.val ?v1) :: (.val ?v2) :: (.val ?v3) :: (.val ?v4) :: (.val ?v5) :: (.val ?v6) :: (.val ?v7) :: (.val ?v8) :: (.val ?v9) :: (.val ?v10) :: (.val ?v11) :: (.val ?v12) :: []).toArray
   hmx ?chk ?grd ?stp ?rst
  case chk => rfl
  case stp =>
   refine ⟨?_, ?_, ?_, ?_, ?_, ?_, ?_, ?_, ?_, ?_, ?_, ?_, ?_, trivial⟩
   · refine stepO 0 ?v0 rfl (fun _ _ => rfl) rfl (fun _ => rfl) (by decide) ?_; show (.pointer (some ⟨q, 0, none⟩) : Value) = _; rfl
   · refine stepR (o := ⟨_, .nilCheck (.tmp 18), _, _, _, _⟩) ?v1 rfl rfl (fun _ => rfl) fun ρ X hc hf hgl hX hp ho => ?_; have k18 : ρ (.tmp 18) = ?v0 := hp 0 (by decide); clear hp ho hX; go_simp; (all_goals rfl)
   · refine stepR (o := ⟨_, .fieldAddr 76 (.tmp 19) 3, _, _, _, _⟩) ?v2 rfl rfl (fun _ => rfl) fun ρ X hc hf hgl hX hp ho => ?_; have k19 : ρ (.tmp 19) = ?v1 := hp 1 (by decide); clear hp ho hX; go_simp; (all_goals rfl)
   · refine stepR (o := ⟨_, .load 73 (.tmp 20), _, _, _, _⟩) ?v3 rfl rfl (fun _ => rfl) fun ρ X hc hf hgl hX hp ho => ?_; have k20 : ρ (.tmp 20) = ?v2 := hp 2 (by decide); have cX := cX X hX; clear hp ho hX; go_simp; (all_goals rfl)
   · refine stepO 0 ?v4 rfl (fun _ _ => rfl) rfl (fun _ => rfl) (by decide) ?_; show (.pointer (some ⟨q, 0, none⟩) : Value) = _; rfl
   · refine stepO 6 ?v5 rfl (fun _ _ => rfl) rfl (fun _ => rfl) (by decide) ?_; show (.int .i64 (id : Int) : Value) = _; rfl
   · refine step_intro rfl rfl fun ρ X hc hf hgl hX hp ho => ?_
     change StepOk _ ⟨_, .call { callee := .value (.func 62), args := #[.tmp 22, .tmp 23], argTypes := #[30, 3] }, _, _, _, _⟩ _ _ _
     have k22 : ρ (.tmp 22) = ?v4 := hp 4 (by decide)
     have k23 : ρ (.tmp 23) = ?v5 := hp 5 (by decide)
     clear hp ho
     refine StepOk.of_call (f := 62) (args := #[?v4, ?v5]) (w' := X) ?_ ((H1.out.grows hX).at id Hlt.out) ?_
     · go_simp
       all_goals try go_bits
       all_goals try rfl
     · rintro e w'' ⟨rfl, rfl⟩; refine ⟨_, rfl, ?_, Below.refl _ _⟩; show _ = ?v6; rfl
   · refine stepR (o := ⟨_, .indexAddr 73 (.tmp 21) (.tmp 24), _, _, _, _⟩) ?v7 rfl rfl (fun _ => rfl) fun ρ X hc hf hgl hX hp ho => ?_; have k21 : ρ (.tmp 21) = ?v3 := hp 3 (by decide); have k24 : ρ (.tmp 24) = ?v6 := hp 6 (by decide); clear hp ho hX; go_simp; (all_goals try go_bits); (all_goals try simp only [IntWalk.iteOmega]); (all_goals try go_bits); (all_goals rfl)
   · refine stepR (o := ⟨_, .fieldAddr 116 (.tmp 25) 1, _, _, _, _⟩) ?v8 rfl rfl (fun _ => rfl) fun ρ X hc hf hgl hX hp ho => ?_; have k25 : ρ (.tmp 25) = ?v7 := hp 7 (by decide); clear hp ho hX; go_simp; (all_goals rfl)
   · refine stepR (o := ⟨_, .load 114 (.tmp 26), _, _, _, _⟩) ?v9 rfl rfl (fun _ => rfl) fun ρ X hc hf hgl hX hp ho => ?_; have k26 : ρ (.tmp 26) = ?v8 := hp 8 (by decide); have cX := cX X hX; clear hp ho hX; go_simp; (all_goals rfl)
   · refine stepR (o := ⟨_, .call { callee := .builtin .len, args := #[.tmp 27], argTypes := #[114] }, _, _, _, _⟩) ?v10 rfl rfl (fun _ => rfl) fun ρ X hc hf hgl hX hp ho => ?_; have k27 : ρ (.tmp 27) = ?v9 := hp 9 (by decide); clear hp ho hX; go_simp; (all_goals try go_bits); (all_goals try simp only [IntWalk.iteOmega]); (all_goals try go_bits); (all_goals rfl)
   · refine stepP 28 10 (?v10) ?v11 rfl (fun _ _ => rfl) rfl (fun _ => rfl) (by decide) rfl (fun _ _ h => h) ?_; rfl
   · refine stepR (o := ⟨_, .assign (.const (.int .i64 0)), _, _, _, _⟩) ?v12 rfl rfl (fun _ => rfl) fun ρ X hc hf hgl hX hp ho => ?_; clear hp ho hX; go_simp; (all_goals rfl)
  case grd => rfl
  case rst =>
   intro a0 X hb
   have hfr := hb.frame ((4, ?v11) :: (5, ?v12) :: (18, ?v0) :: (19, ?v1) :: (20, ?v2) :: (21, ?v3) :: (22, ?v4) :: (23, ?v5) :: (24, ?v6) :: (25, ?v7) :: (26, ?v8) :: (27, ?v9) :: (28, ?v10) :: []) rfl ⟨hb.done' 11 4 rfl rfl, hb.done' 12 5 rfl rfl, hb.done' 0 18 rfl rfl, hb.done' 1 19 rfl rfl, hb.done' 2 20 rfl rfl, hb.done' 3 21 rfl rfl, hb.done' 4 22 rfl rfl, hb.done' 5 23 rfl rfl, hb.done' 6 24 rfl rfl, hb.done' 7 25 rfl rfl, hb.done' 8 26 rfl rfl, hb.done' 9 27 rfl rfl, hb.done' 10 28 rfl rfl, trivial⟩
   simp only [updL, ↓reduceIte, Nat.reduceEqDiff, Nat.reduceAdd, Nat.zero_add] at hfr
   have HX := Lib.hid hb.ext
   clear hb cX
   subst hfr
   go_wp2
   go_ret2
   exact ⟨by rw [Hr.out]; rfl, Grows.trans' HG.out HX.out⟩
end Go.Proofs.YtoppcpiheaedlaaGreatDoor
end
section
/-
  The document's own disk: how many sectors its files have; a sector as it was written last.
-/
namespace Go.Proofs.YtoppcpiheaedlaaGreatDoor
open Go.RowKit
set_option linter.unusedVariables false
set_option linter.unusedSimpArgs false
attribute [local go_sem] sv nv
def useT (s : Ds) (l : List (Nm × Nat)) (i : Nat) : Nat := ((l.take i).map fun e => (secs s e.2).length).sum
theorem useT_all (s : Ds) : useT s (nowF s) (nowF s).length = usedF s := by unfold useT usedF; rw [List.take_length]
theorem useT_step (s : Ds) (l : List (Nm × Nat)) (i : Nat) (h : i < l.length) : useT s l (i + 1) = useT s l i + (secs s (l[i]).2).length := by
 unfold useT
 rw [List.take_succ_eq_append_getElem h, List.map_append, List.sum_append]
 simp
theorem secs_len {s : Ds} (h : Wf s) (id : Nat) : (secs s id).length ≤ 4096 := by
 rcases Nat.lt_or_ge id s.fls.length with hl | hl
 · unfold secs
   rw [List.getD, List.getElem?_eq_getElem hl, Option.getD_some]
   exact (h.sec _ (List.getElem_mem hl)).1
 · unfold secs
   rw [List.getD, List.getElem?_eq_none hl, Option.getD_none]
   simp
theorem useT_le {s : Ds} (h : Wf s) (l : List (Nm × Nat)) : ∀ i, i ≤ l.length → useT s l i ≤ 4096 * i
 | 0, _ => by simp [useT]
 | i + 1, hi => by
  rw [useT_step s l i (by omega)]
  have := useT_le h l i (by omega)
  have := secs_len h (l[i]'(by omega)).2
  omega
set_option maxRecDepth 100000 in
set_option maxHeartbeats 1000000 in
theorem refUsed (q : Nat) (s : Ds) (x : RDv) (w : World) (h : RD w q s x) :
 Calls Tryz.prog 89 #[.pointer (some ⟨q, 0, none⟩)] w fun e w' => e = .returned (nv (usedF s)) ∧ Grows w w' := by
 have hmx : Tryz.prog.follows .mixedOrders = true := by kernel_rfl
 have HN := Lib.hid h.now
 have Hlen := Lib.hid (nowF_len h)
 have H := Lib.hid h
 have Hal := Lib.hid (useT_all s)
 have Hnw := Lib.hid h.wf.now
 obtain ⟨l, Hl⟩ : ∃ l, Hid (nowF s = l) := ⟨_, rfl⟩
 rw [Hl.out] at HN Hlen Hal Hnw
 clear h
 go_enter Tryz.func89, Tryz.ntmps89
 go_wp2_with fail
 refine HN.out.mono ?_
 rintro e w1 ⟨v, rfl, hE, hG⟩
 obtain ⟨a, cap, rfl⟩ := own_form hE
 have HE := Lib.hid hE
 have HG := Lib.hid hG
 clear hE hG
 go_wp2
 go_loopw [3, 5] (fun t3 t5 wr => ∃ i : Nat, i ≤ l.length ∧ t5 = .int .i64 i ∧ t3 = .int .i64 (useT s l i) ∧ Grows w1 wr)
  (fun _ t5 _ => l.length - (intOf t5).toNat)
 case atStart => exact ⟨0, by omega, rfl, rfl, Below.refl _ _⟩
 case round =>
  obtain ⟨i, hin, rfl, rfl, hGr⟩ := hrel
  by_cases hlt : i < l.length
  · have hltI : (i : Int) < (l.length : Int) := by omega
    have hbi : ¬ ((l.length : Int) ≤ (i : Int)) := by omega
    obtain ⟨g, cap', e1⟩ := own_some HE.out (by omega)
    simp only [Value.slice.injEq] at e1
    obtain ⟨rfl, -, rfl⟩ := e1
    have HR : Hid (RD wr q s x) := H.out.grows (Grows.trans' HG.out hGr)
    have c1 := hGr.cell' (HE.out.num i hlt)
    have hid := Hnw.out (l[i]) (List.getElem_mem hlt)
    have Hst := Lib.hid (useT_step s l i hlt)
    have Hle := useT_le H.out.wf l i hin
    have Hsl := secs_len H.out.wf (l[i]).2
    obtain ⟨id, hidE⟩ : ∃ y, (l[i]).2 = y := ⟨_, rfl⟩
    rw [hidE] at c1 hid Hst Hsl
    have Hlt := Lib.hid hid
    obtain ⟨gf, kf, af, cf, -, -, c3, c5⟩ := HR.out.file id hid
    obtain ⟨n, Hn⟩ : ∃ n, Hid ((secs s id).length = n) := ⟨_, rfl⟩
    obtain ⟨nf, Hnf⟩ : ∃ n, Hid (s.fls.length = n) := ⟨_, rfl⟩
    rw [Hn.out] at c5 Hst Hsl
    rw [Hnf.out] at c3 hid
    have hbd : ¬ ((nf : Int) ≤ (id : Int)) := by omega
    have hidn : (id : Int) < (nf : Int) := by omega
    obtain ⟨u, Hu⟩ : ∃ u, Hid (useT s l i = u) := ⟨_, rfl⟩
    rw [Hu.out] at Hst Hle ⊢
    have hu1 : (u : Int) ≤ 10000000000 := by have := Hlen.out; omega
    have hn1 : (n : Int) ≤ 4096 := by omega
    have hib : (i : Int) ≤ 2000000 := by have := Hlen.out; omega
    have Hi := Lib.hid hlt
    have HGr := Lib.hid hGr
    clear hidE hlt hin hid Hle Hsl hGr
    go_wp2
    have cX := fun X (hX : Grows _ X) => And.intro (Grows.cell' hX c1) (And.intro (Grows.cell' hX c3) (Grows.cell' hX c5))
    refine specs_region
     #[[], [], [1], [1, 2], [1, 2, 3], [], [], [], [6, 7], [6, 7, 8], [6, 7, 8, 9], [5, 6, 7, 8, 9, 10], [1, 2, 3, 4, 5, 6, 7, 8, 9, 10, 11], [1, 2, 3, 4, 5, 6, 7, 8, 9, 10, 11, 12], [1, 2, 3, 4, 5, 6, 7, 8, 9, 10, 11, 12, 13], [1, 2, 3, 4, 5, 6, 7, 8, 9, 10, 11, 12, 13, 14], [0, 1, 2, 3, 4, 5, 6, 7, 8, 9, 10, 11, 12, 13, 14, 15], [0, 1, 2, 3, 4, 5, 6, 7, 8, 9, 10, 11, 12, 13, 14, 15, 16]] #[[3], [0], [], [], [], [0], [4], [5], [], [], [], [], [], [], [], [], [], []] #[true, true, true, true, true, true, true, true, true, true, true, true, true, true, true, true, true, true]
     ((.val ?v0) :: (.val ?v1) :: (.val ?v2) :: (.val ?v3) :: (.val ?v4) :: (.val ?v5) :: (.val ?v6) :: (.val ?v7) :: (.val ?v8) :: (.val ?v9) :: (.val ?v10) :: (.val ?v11) :: (.val ?v12) :: (.val ?v13) :: (.val ?v14) :: (.val ?v15) :: (.val ?v16) :: (.val ?v17) :: []).toArray
     hmx ?chk ?grd ?stp ?rst
    case chk => rfl
    case stp =>
     refine ⟨?_, ?_, ?_, ?_, ?_, ?_, ?_, ?_, ?_, ?_, ?_, ?_, ?_, ?_, ?_, ?_, ?_, ?_, trivial⟩
     · refine stepO 3 ?v0 rfl (fun _ _ => rfl) rfl (fun _ => rfl) (by decide) ?_; show (.int .i64 (u : Int) : Value) = _; rfl
     · refine stepO 0 ?v1 rfl (fun _ _ => rfl) rfl (fun _ => rfl) (by decide) ?_; show (.pointer (some ⟨q, 0, none⟩) : Value) = _; rfl
     · refine stepR (o := ⟨_, .nilCheck (.tmp 15), _, _, _, _⟩) ?v2 rfl rfl (fun _ => rfl) fun ρ X hc hf hgl hX hp ho => ?_; have k15 : ρ (.tmp 15) = ?v1 := hp 1 (by decide); clear hp ho hX; go_simp; (all_goals rfl)
     · refine stepR (o := ⟨_, .fieldAddr 76 (.tmp 16) 3, _, _, _, _⟩) ?v3 rfl rfl (fun _ => rfl) fun ρ X hc hf hgl hX hp ho => ?_; have k16 : ρ (.tmp 16) = ?v2 := hp 2 (by decide); clear hp ho hX; go_simp; (all_goals rfl)
     · refine stepR (o := ⟨_, .load 73 (.tmp 17), _, _, _, _⟩) ?v4 rfl rfl (fun _ => rfl) fun ρ X hc hf hgl hX hp ho => ?_; have k17 : ρ (.tmp 17) = ?v3 := hp 3 (by decide); have cX := cX X hX; clear hp ho hX; go_simp; (all_goals rfl)
     · refine stepO 0 ?v5 rfl (fun _ _ => rfl) rfl (fun _ => rfl) (by decide) ?_; show (.pointer (some ⟨q, 0, none⟩) : Value) = _; rfl
     · refine stepO 4 ?v6 rfl (fun _ _ => rfl) rfl (fun _ => rfl) (by decide) ?_; show (.slice (some ⟨g, 0, none⟩) l.length cap : Value) = _; rfl
     · refine stepO 5 ?v7 rfl (fun _ _ => rfl) rfl (fun _ => rfl) (by decide) ?_; show (.int .i64 (i : Int) : Value) = _; rfl
     · refine stepR (o := ⟨_, .indexAddr 71 (.tmp 20) (.tmp 21), _, _, _, _⟩) ?v8 rfl rfl (fun _ => rfl) fun ρ X hc hf hgl hX hp ho => ?_; have k20 : ρ (.tmp 20) = ?v6 := hp 6 (by decide); have k21 : ρ (.tmp 21) = ?v7 := hp 7 (by decide); clear hp ho hX; go_simp; (all_goals try go_bits); (all_goals try simp only [IntWalk.iteOmega]); (all_goals try go_bits); (all_goals rfl)
     · refine stepR (o := ⟨_, .fieldAddr 134 (.tmp 22) 1, _, _, _, _⟩) ?v9 rfl rfl (fun _ => rfl) fun ρ X hc hf hgl hX hp ho => ?_; have k22 : ρ (.tmp 22) = ?v8 := hp 8 (by decide); clear hp ho hX; go_simp; (all_goals rfl)
     · refine stepR (o := ⟨_, .load 3 (.tmp 23), _, _, _, _⟩) ?v10 rfl rfl (fun _ => rfl) fun ρ X hc hf hgl hX hp ho => ?_; have k23 : ρ (.tmp 23) = ?v9 := hp 9 (by decide); have cX := cX X hX; clear hp ho hX; go_simp; (all_goals rfl)
     · refine step_intro rfl rfl fun ρ X hc hf hgl hX hp ho => ?_
       change StepOk _ ⟨_, .call { callee := .value (.func 62), args := #[.tmp 19, .tmp 24], argTypes := #[30, 3] }, _, _, _, _⟩ _ _ _
       have k19 : ρ (.tmp 19) = ?v5 := hp 5 (by decide)
       have k24 : ρ (.tmp 24) = ?v10 := hp 10 (by decide)
       clear hp ho
       refine StepOk.of_call (f := 62) (args := #[?v5, ?v10]) (w' := X) ?_ ((HR.out.grows hX).at id Hlt.out) ?_
       · go_simp
         all_goals try go_bits
         all_goals try rfl
       · rintro e w'' ⟨rfl, rfl⟩; refine ⟨_, rfl, ?_, Below.refl _ _⟩; show _ = ?v11; rfl
     · refine stepR (o := ⟨_, .indexAddr 73 (.tmp 18) (.tmp 25), _, _, _, _⟩) ?v12 rfl rfl (fun _ => rfl) fun ρ X hc hf hgl hX hp ho => ?_; have k18 : ρ (.tmp 18) = ?v4 := hp 4 (by decide); have k25 : ρ (.tmp 25) = ?v11 := hp 11 (by decide); clear hp ho hX; go_simp; (all_goals try go_bits); (all_goals try simp only [IntWalk.iteOmega]); (all_goals try go_bits); (all_goals rfl)
     · refine stepR (o := ⟨_, .fieldAddr 116 (.tmp 26) 1, _, _, _, _⟩) ?v13 rfl rfl (fun _ => rfl) fun ρ X hc hf hgl hX hp ho => ?_; have k26 : ρ (.tmp 26) = ?v12 := hp 12 (by decide); clear hp ho hX; go_simp; (all_goals rfl)
     · refine stepR (o := ⟨_, .load 114 (.tmp 27), _, _, _, _⟩) ?v14 rfl rfl (fun _ => rfl) fun ρ X hc hf hgl hX hp ho => ?_; have k27 : ρ (.tmp 27) = ?v13 := hp 13 (by decide); have cX := cX X hX; clear hp ho hX; go_simp; (all_goals rfl)
     · refine stepR (o := ⟨_, .call { callee := .builtin .len, args := #[.tmp 28], argTypes := #[114] }, _, _, _, _⟩) ?v15 rfl rfl (fun _ => rfl) fun ρ X hc hf hgl hX hp ho => ?_; have k28 : ρ (.tmp 28) = ?v14 := hp 14 (by decide); clear hp ho hX; go_simp; (all_goals try go_bits); (all_goals try simp only [IntWalk.iteOmega]); (all_goals try go_bits); (all_goals rfl)
     · refine stepR (o := ⟨_, .binOp .add 3 (.tmp 14) (.tmp 29) 3, _, _, _, _⟩) ?v16 rfl rfl (fun _ => rfl) fun ρ X hc hf hgl hX hp ho => ?_; have k14 : ρ (.tmp 14) = ?v0 := hp 0 (by decide); have k29 : ρ (.tmp 29) = ?v15 := hp 15 (by decide); clear hp ho hX; go_simp; (all_goals try go_bits); (all_goals try simp only [IntWalk.iteOmega]); (all_goals try go_bits); (all_goals rfl)
     · refine stepP 30 16 (?v16) ?v17 rfl (fun _ _ => rfl) rfl (fun _ => rfl) (by decide) rfl (fun _ _ h => h) ?_; rfl
    case grd => rfl
    case rst =>
     intro a0 X hb
     have hfr := hb.frame ((3, ?v17) :: (14, ?v0) :: (15, ?v1) :: (16, ?v2) :: (17, ?v3) :: (18, ?v4) :: (19, ?v5) :: (20, ?v6) :: (21, ?v7) :: (22, ?v8) :: (23, ?v9) :: (24, ?v10) :: (25, ?v11) :: (26, ?v12) :: (27, ?v13) :: (28, ?v14) :: (29, ?v15) :: (30, ?v16) :: []) rfl ⟨hb.done' 17 3 rfl rfl, hb.done' 0 14 rfl rfl, hb.done' 1 15 rfl rfl, hb.done' 2 16 rfl rfl, hb.done' 3 17 rfl rfl, hb.done' 4 18 rfl rfl, hb.done' 5 19 rfl rfl, hb.done' 6 20 rfl rfl, hb.done' 7 21 rfl rfl, hb.done' 8 22 rfl rfl, hb.done' 9 23 rfl rfl, hb.done' 10 24 rfl rfl, hb.done' 11 25 rfl rfl, hb.done' 12 26 rfl rfl, hb.done' 13 27 rfl rfl, hb.done' 14 28 rfl rfl, hb.done' 15 29 rfl rfl, hb.done' 16 30 rfl rfl, trivial⟩
     simp only [updL, ↓reduceIte, Nat.reduceEqDiff, Nat.reduceAdd, Nat.zero_add] at hfr
     have HX := Lib.hid hb.ext
     clear hb cX
     subst hfr
     go_wp2
     go_roundw
     case rel => exact ⟨i + 1, Hi.out, by simp, by rw [Hst.out]; simp, Grows.trans' HGr.out HX.out⟩
     case measure => have := Hi.out; simp [intOf]; omega
  · have hltI : ¬ (i : Int) < (l.length : Int) := by omega
    obtain rfl : i = l.length := by omega
    rw [Hal.out]
    have HGr := Lib.hid (Grows.trans' HG.out hGr)
    clear hin hGr
    go_wp2
    go_ret
    exact ⟨rfl, HGr.out⟩
theorem lastF_snoc (ws : List Wr) (id n : Nat) (p : List UInt8) (i : Nat) (h : i < ws.length) : lastF (ws.take (i + 1)) id n p = if (ws[i]).id = id ∧ (ws[i]).n = n then (ws[i]).p else lastF (ws.take i) id n p := by
 unfold lastF
 rw [List.take_succ_eq_append_getElem h, List.foldl_append]
 rfl
theorem lastF_len (ws : List Wr) (id n : Nat) : ∀ (p : List UInt8), p.length = 64 → (∀ w ∈ ws, w.p.length = 64) → (lastF ws id n p).length = 64 := by
 unfold lastF
 induction ws with
 | nil => intro p hp _; exact hp
 | cons a r ih =>
  intro p hp hw
  rw [List.foldl_cons]
  refine ih _ ?_ (fun w hm => hw w (by simp [hm]))
  split
  · exact hw a (by simp)
  · exact hp
theorem get_getD {α : Type} (l : List α) (i : Nat) (d : α) (h : i < l.length) : l[i]? = some (l.getD i d) := by
 rw [List.getD, List.getElem?_eq_getElem h, Option.getD_some]
theorem RD.sect {w : World} {q : Nat} {s : Ds} {x : RDv} (h : RD w q s x) (id m : Nat) (hid : id < s.fls.length) (hm : m < (secs s id).length) :
 ∃ gs cs v, x.ss.getD id undef = .slice (some ⟨gs, 0, none⟩) (secs s id).length cs ∧ w.cell? ⟨gs, m, none⟩ = some v ∧ Byt w v ((secs s id).getD m []) := by
 obtain ⟨gs, cs, e⟩ := own_some (h.sec id hid) (by omega)
 have hs := h.sec id hid
 refine ⟨gs, cs, (x.sp.getD id []).getD m undef, e, ?_, h.byt id m hid hm⟩
 rw [e] at hs
 have hl := hs.1
 refine own_cell hs m _ ?_
 exact get_getD _ _ _ (by omega)
theorem RD.writ {w : World} {q : Nat} {s : Ds} {x : RDv} (h : RD w q s x) {g n cap : Nat} (hv : x.vw = .slice (some ⟨g, 0, none⟩) n cap) (j : Nat) (hj : j < s.wrs.length) :
 w.cell? ⟨g, j * 3, none⟩ = some (.int .i64 ((s.wrs[j]).id : Int)) ∧ w.cell? ⟨g, j * 3 + 1, none⟩ = some (.int .i64 ((s.wrs[j]).n : Int)) ∧ ∃ v, w.cell? ⟨g, j * 3 + 2, none⟩ = some v ∧ Byt w v (s.wrs[j]).p := by
 have hw := h.wrs
 rw [hv] at hw
 have hn : n = s.wrs.length := by
  rcases hw.2 with ⟨h0, _⟩ | ⟨_, _, _, h0, _⟩
  · cases h0
  · simp only [Value.slice.injEq] at h0; exact h0.2.1
 subst hn
 have hlz : j < (s.wrs.zip x.ps).length := by rw [List.length_zip, h.psl]; omega
 have hz : (s.wrs.zip x.ps)[j] = (s.wrs[j], x.ps.getD j undef) := by
  rw [List.getElem_zip, List.getD, List.getElem?_eq_getElem (by rw [h.psl]; exact hj), Option.getD_some]
 have g0 := flat_get wrC 3 wrC_len (s.wrs.zip x.ps) j 0 hlz (by omega)
 have g1 := flat_get wrC 3 wrC_len (s.wrs.zip x.ps) j 1 hlz (by omega)
 have g2 := flat_get wrC 3 wrC_len (s.wrs.zip x.ps) j 2 hlz (by omega)
 rw [hz] at g0 g1 g2
 exact ⟨own_cell hw _ _ g0, own_cell hw _ _ g1, _, own_cell hw _ _ g2, h.pend j hj⟩
set_option maxRecDepth 100000 in
set_option maxHeartbeats 2000000 in
theorem refLook (q : Nat) (s : Ds) (x : RDv) (nm : Nm) (n : Int) (w : World) (h : RD w q s x) :
 Calls Tryz.prog 53 #[.pointer (some ⟨q, 0, none⟩), sv nm, .int .i64 n] w fun e w' => ∃ v, e = .returned (.tuple #[v, .int .i64 (lookF s nm n).2]) ∧ Own 5 w.heap.size w' v (lookF s nm n).1 ∧ Grows w w' := by
 have hmx : Tryz.prog.follows .mixedOrders = true := by kernel_rfl
 obtain ⟨i0, hi, hz0, hz1, hz2⟩ := info_parts info5
 have HI := Lib.hid (refId q s x nm w h)
 have H := Lib.hid h
 unfold sv at HI ⊢
 cases hid : idF s nm with
 | none =>
  have Hr : Hid (lookF s nm n = ([], 7)) := by show _ = _; unfold lookF; rw [hid]
  have hir : idR s nm = .tuple #[.int .i64 0, .bool false] := by unfold idR; rw [hid]; rfl
  rw [hir] at HI
  clear h hid hir
  go_enter Tryz.func53, Tryz.ntmps53
  go_wp2_with fail
  refine HI.out.mono ?_
  rintro e w1 ⟨rfl, hG⟩
  have HG := Lib.hid hG
  clear hG
  go_wp2
  go_ret2
  exact ⟨.slice none 0 0, by rw [Hr.out]; rfl, by rw [Hr.out]; exact Own.nil _ _ _, HG.out⟩
 | some id =>
  have Hlt := Lib.hid (h.wf.id hid)
  have hir : idR s nm = .tuple #[.int .i64 (id : Int), .bool true] := by unfold idR; rw [hid]; rfl
  rw [hir] at HI
  obtain ⟨gf, kf, af, cf, -, Hss, hc3, hcf⟩ := h.file id Hlt.out
  have Hsx := Lib.hid Hss
  have Hc3 := Lib.hid hc3
  have Hcf := Lib.hid hcf
  obtain ⟨L, HL⟩ : ∃ n, Hid ((secs s id).length = n) := ⟨_, rfl⟩
  obtain ⟨nf, Hnf⟩ : ∃ n, Hid (s.fls.length = n) := ⟨_, rfl⟩
  have Hid' : Hid (idF s nm = some id) := hid
  rw [HL.out] at Hcf Hsx
  rw [Hnf.out] at Hc3
  have hbi : ¬ ((nf : Int) ≤ (id : Int)) := by have := Hlt.out; have := Hnf.out; omega
  have hidn : (id : Int) < (nf : Int) := by omega
  clear h hid hir hc3 hcf Hss
  by_cases hneg : n < 0
  · have Hr : Hid (lookF s nm n = ([], 43)) := by show _ = _; unfold lookF; rw [Hid'.out]; exact if_pos (.inl hneg)
    go_enter Tryz.func53, Tryz.ntmps53
    go_wp2_with fail
    refine HI.out.mono ?_
    rintro e w1 ⟨rfl, hG⟩
    have HG := Lib.hid hG
    have c3 := hG.cell' Hc3.out
    have c5 := hG.cell' Hcf.out
    have H1 : Hid (RD w1 q s x) := H.out.grows hG
    clear hG
    go_wp2
    have cX := fun X (hX : Grows _ X) => And.intro (Grows.cell' hX c3) (Grows.cell' hX c5)
    refine specs_region
     #[[], [0], [0, 1], [0, 1, 2], [], [], [4, 5], [0, 1, 2, 3, 4, 5, 6], [0, 1, 2, 3, 4, 5, 6, 7], [0, 1, 2, 3, 4, 5, 6, 7, 8], [0, 1, 2, 3, 4, 5, 6, 7, 8, 9]] #[[0], [], [], [], [0], [8], [], [], [], [], []] #[true, true, true, true, true, true, true, true, true, true, true]
     ((.val ?v0) :: (.val ?v1) :: (.val ?v2) :: (.val ?v3) :: (.val ?v4) :: (.val ?v5) :: (.val ?v6) :: (.val ?v7) :: (.val ?v8) :: (.val ?v9) :: (.val ?v10) :: []).toArray
     hmx ?chk ?grd ?stp ?rst
    case chk => rfl
    case stp =>
     refine ⟨?_, ?_, ?_, ?_, ?_, ?_, ?_, ?_, ?_, ?_, ?_, trivial⟩
     · refine stepO 0 ?v0 rfl (fun _ _ => rfl) rfl (fun _ => rfl) (by decide) ?_; show (.pointer (some ⟨q, 0, none⟩) : Value) = _; rfl
     · refine stepR (o := ⟨_, .nilCheck (.tmp 21), _, _, _, _⟩) ?v1 rfl rfl (fun _ => rfl) fun ρ X hc hf hgl hX hp ho => ?_; have k21 : ρ (.tmp 21) = ?v0 := hp 0 (by decide); clear hp ho hX; go_simp; (all_goals rfl)
     · refine stepR (o := ⟨_, .fieldAddr 76 (.tmp 22) 3, _, _, _, _⟩) ?v2 rfl rfl (fun _ => rfl) fun ρ X hc hf hgl hX hp ho => ?_; have k22 : ρ (.tmp 22) = ?v1 := hp 1 (by decide); clear hp ho hX; go_simp; (all_goals rfl)
     · refine stepR (o := ⟨_, .load 73 (.tmp 23), _, _, _, _⟩) ?v3 rfl rfl (fun _ => rfl) fun ρ X hc hf hgl hX hp ho => ?_; have k23 : ρ (.tmp 23) = ?v2 := hp 2 (by decide); have cX := cX X hX; clear hp ho hX; go_simp; (all_goals rfl)
     · refine stepO 0 ?v4 rfl (fun _ _ => rfl) rfl (fun _ => rfl) (by decide) ?_; show (.pointer (some ⟨q, 0, none⟩) : Value) = _; rfl
     · refine stepO 8 ?v5 rfl (fun _ _ => rfl) rfl (fun _ => rfl) (by decide) ?_; show (.int .i64 (id : Int) : Value) = _; rfl
     · refine step_intro rfl rfl fun ρ X hc hf hgl hX hp ho => ?_
       change StepOk _ ⟨_, .call { callee := .value (.func 62), args := #[.tmp 25, .tmp 26], argTypes := #[30, 3] }, _, _, _, _⟩ _ _ _
       have k25 : ρ (.tmp 25) = ?v4 := hp 4 (by decide)
       have k26 : ρ (.tmp 26) = ?v5 := hp 5 (by decide)
       clear hp ho
       refine StepOk.of_call (f := 62) (args := #[?v4, ?v5]) (w' := X) ?_ ((H1.out.grows hX).at id Hlt.out) ?_
       · go_simp
         all_goals try go_bits
         all_goals try rfl
       · rintro e w'' ⟨rfl, rfl⟩; refine ⟨_, rfl, ?_, Below.refl _ _⟩; show _ = ?v6; rfl
     · refine stepR (o := ⟨_, .indexAddr 73 (.tmp 24) (.tmp 27), _, _, _, _⟩) ?v7 rfl rfl (fun _ => rfl) fun ρ X hc hf hgl hX hp ho => ?_; have k24 : ρ (.tmp 24) = ?v3 := hp 3 (by decide); have k27 : ρ (.tmp 27) = ?v6 := hp 6 (by decide); clear hp ho hX; go_simp; (all_goals try go_bits); (all_goals try simp only [IntWalk.iteOmega]); (all_goals try go_bits); (all_goals rfl)
     · refine stepR (o := ⟨_, .fieldAddr 116 (.tmp 28) 1, _, _, _, _⟩) ?v8 rfl rfl (fun _ => rfl) fun ρ X hc hf hgl hX hp ho => ?_; have k28 : ρ (.tmp 28) = ?v7 := hp 7 (by decide); clear hp ho hX; go_simp; (all_goals rfl)
     · refine stepR (o := ⟨_, .load 114 (.tmp 29), _, _, _, _⟩) ?v9 rfl rfl (fun _ => rfl) fun ρ X hc hf hgl hX hp ho => ?_; have k29 : ρ (.tmp 29) = ?v8 := hp 8 (by decide); have cX := cX X hX; clear hp ho hX; go_simp; (all_goals rfl)
     · refine stepP 30 9 (?v9) ?v10 rfl (fun _ _ => rfl) rfl (fun _ => rfl) (by decide) rfl (fun _ _ h => h) ?_; rfl
    case grd => rfl
    case rst =>
     intro a0 X hb
     have hfr := hb.frame ((10, ?v10) :: (21, ?v0) :: (22, ?v1) :: (23, ?v2) :: (24, ?v3) :: (25, ?v4) :: (26, ?v5) :: (27, ?v6) :: (28, ?v7) :: (29, ?v8) :: (30, ?v9) :: []) rfl ⟨hb.done' 10 10 rfl rfl, hb.done' 0 21 rfl rfl, hb.done' 1 22 rfl rfl, hb.done' 2 23 rfl rfl, hb.done' 3 24 rfl rfl, hb.done' 4 25 rfl rfl, hb.done' 5 26 rfl rfl, hb.done' 6 27 rfl rfl, hb.done' 7 28 rfl rfl, hb.done' 8 29 rfl rfl, hb.done' 9 30 rfl rfl, trivial⟩
     simp only [updL, ↓reduceIte, Nat.reduceEqDiff, Nat.reduceAdd, Nat.zero_add] at hfr
     have HX := Lib.hid hb.ext
     clear hb cX
     subst hfr
     go_wp2
     go_ret2
     exact ⟨.slice none 0 0, by rw [Hr.out]; rfl, by rw [Hr.out]; exact Own.nil _ _ _, Grows.trans' HG.out HX.out⟩
  · obtain ⟨m, rfl⟩ : ∃ m : Nat, n = m := ⟨n.toNat, by omega⟩
    by_cases hbig : L ≤ m
    · have Hr : Hid (lookF s nm (m : Int) = ([], 43)) := by show _ = _; unfold lookF; rw [Hid'.out]; exact if_pos (.inr (by have := HL.out; omega))
      have hge : (L : Int) ≤ (m : Int) := by omega
      clear hbig
      go_enter Tryz.func53, Tryz.ntmps53
      go_wp2_with fail
      refine HI.out.mono ?_
      rintro e w1 ⟨rfl, hG⟩
      have HG := Lib.hid hG
      have c3 := hG.cell' Hc3.out
      have c5 := hG.cell' Hcf.out
      have H1 : Hid (RD w1 q s x) := H.out.grows hG
      clear hG
      go_wp2
      have cXb := fun X (hX : Grows _ X) => And.intro (Grows.cell' hX c3) (Grows.cell' hX c5)
      refine specs_region
       #[[], [0], [0, 1], [0, 1, 2], [], [], [4, 5], [0, 1, 2, 3, 4, 5, 6], [0, 1, 2, 3, 4, 5, 6, 7], [0, 1, 2, 3, 4, 5, 6, 7, 8], [0, 1, 2, 3, 4, 5, 6, 7, 8, 9]] #[[0], [], [], [], [0], [8], [], [], [], [], []] #[true, true, true, true, true, true, true, true, true, true, true]
       ((.val ?vb0) :: (.val ?vb1) :: (.val ?vb2) :: (.val ?vb3) :: (.val ?vb4) :: (.val ?vb5) :: (.val ?vb6) :: (.val ?vb7) :: (.val ?vb8) :: (.val ?vb9) :: (.val ?vb10) :: []).toArray
       hmx ?chkb ?grdb ?stpb ?rstb
      case chkb => rfl
      case stpb =>
       refine ⟨?_, ?_, ?_, ?_, ?_, ?_, ?_, ?_, ?_, ?_, ?_, trivial⟩
       · refine stepO 0 ?vb0 rfl (fun _ _ => rfl) rfl (fun _ => rfl) (by decide) ?_; show (.pointer (some ⟨q, 0, none⟩) : Value) = _; rfl
       · refine stepR (o := ⟨_, .nilCheck (.tmp 21), _, _, _, _⟩) ?vb1 rfl rfl (fun _ => rfl) fun ρ X hc hf hgl hX hp ho => ?_; have k21 : ρ (.tmp 21) = ?vb0 := hp 0 (by decide); clear hp ho hX; go_simp; (all_goals rfl)
       · refine stepR (o := ⟨_, .fieldAddr 76 (.tmp 22) 3, _, _, _, _⟩) ?vb2 rfl rfl (fun _ => rfl) fun ρ X hc hf hgl hX hp ho => ?_; have k22 : ρ (.tmp 22) = ?vb1 := hp 1 (by decide); clear hp ho hX; go_simp; (all_goals rfl)
       · refine stepR (o := ⟨_, .load 73 (.tmp 23), _, _, _, _⟩) ?vb3 rfl rfl (fun _ => rfl) fun ρ X hc hf hgl hX hp ho => ?_; have k23 : ρ (.tmp 23) = ?vb2 := hp 2 (by decide); have cX := cXb X hX; clear hp ho hX; go_simp; (all_goals rfl)
       · refine stepO 0 ?vb4 rfl (fun _ _ => rfl) rfl (fun _ => rfl) (by decide) ?_; show (.pointer (some ⟨q, 0, none⟩) : Value) = _; rfl
       · refine stepO 8 ?vb5 rfl (fun _ _ => rfl) rfl (fun _ => rfl) (by decide) ?_; show (.int .i64 (id : Int) : Value) = _; rfl
       · refine step_intro rfl rfl fun ρ X hc hf hgl hX hp ho => ?_
         change StepOk _ ⟨_, .call { callee := .value (.func 62), args := #[.tmp 25, .tmp 26], argTypes := #[30, 3] }, _, _, _, _⟩ _ _ _
         have k25 : ρ (.tmp 25) = ?vb4 := hp 4 (by decide)
         have k26 : ρ (.tmp 26) = ?vb5 := hp 5 (by decide)
         clear hp ho
         refine StepOk.of_call (f := 62) (args := #[?vb4, ?vb5]) (w' := X) ?_ ((H1.out.grows hX).at id Hlt.out) ?_
         · go_simp
           all_goals try go_bits
           all_goals try rfl
         · rintro e w'' ⟨rfl, rfl⟩; refine ⟨_, rfl, ?_, Below.refl _ _⟩; show _ = ?vb6; rfl
       · refine stepR (o := ⟨_, .indexAddr 73 (.tmp 24) (.tmp 27), _, _, _, _⟩) ?vb7 rfl rfl (fun _ => rfl) fun ρ X hc hf hgl hX hp ho => ?_; have k24 : ρ (.tmp 24) = ?vb3 := hp 3 (by decide); have k27 : ρ (.tmp 27) = ?vb6 := hp 6 (by decide); clear hp ho hX; go_simp; (all_goals try go_bits); (all_goals try simp only [IntWalk.iteOmega]); (all_goals try go_bits); (all_goals rfl)
       · refine stepR (o := ⟨_, .fieldAddr 116 (.tmp 28) 1, _, _, _, _⟩) ?vb8 rfl rfl (fun _ => rfl) fun ρ X hc hf hgl hX hp ho => ?_; have k28 : ρ (.tmp 28) = ?vb7 := hp 7 (by decide); clear hp ho hX; go_simp; (all_goals rfl)
       · refine stepR (o := ⟨_, .load 114 (.tmp 29), _, _, _, _⟩) ?vb9 rfl rfl (fun _ => rfl) fun ρ X hc hf hgl hX hp ho => ?_; have k29 : ρ (.tmp 29) = ?vb8 := hp 8 (by decide); have cX := cXb X hX; clear hp ho hX; go_simp; (all_goals rfl)
       · refine stepP 30 9 (?vb9) ?vb10 rfl (fun _ _ => rfl) rfl (fun _ => rfl) (by decide) rfl (fun _ _ h => h) ?_; rfl
      case grdb => rfl
      case rstb =>
       intro a0 X hb
       have hfr := hb.frame ((10, ?vb10) :: (21, ?vb0) :: (22, ?vb1) :: (23, ?vb2) :: (24, ?vb3) :: (25, ?vb4) :: (26, ?vb5) :: (27, ?vb6) :: (28, ?vb7) :: (29, ?vb8) :: (30, ?vb9) :: []) rfl ⟨hb.done' 10 10 rfl rfl, hb.done' 0 21 rfl rfl, hb.done' 1 22 rfl rfl, hb.done' 2 23 rfl rfl, hb.done' 3 24 rfl rfl, hb.done' 4 25 rfl rfl, hb.done' 5 26 rfl rfl, hb.done' 6 27 rfl rfl, hb.done' 7 28 rfl rfl, hb.done' 8 29 rfl rfl, hb.done' 9 30 rfl rfl, trivial⟩
       simp only [updL, ↓reduceIte, Nat.reduceEqDiff, Nat.reduceAdd, Nat.zero_add] at hfr
       have HX := Lib.hid hb.ext
       clear hb cXb
       subst hfr
       go_wp2
       go_ret2
       exact ⟨.slice none 0 0, by rw [Hr.out]; rfl, by rw [Hr.out]; exact Own.nil _ _ _, Grows.trans' HG.out HX.out⟩
    · obtain ⟨gs, cs, v0, es, hcs, hv0⟩ := H.out.sect id m Hlt.out (by have := HL.out; omega)
      have e2 := Hsx.out.symm.trans es
      simp only [Value.slice.injEq] at e2
      obtain ⟨rfl, -, rfl⟩ := e2
      have Hr : Hid (lookF s nm (m : Int) = (lastF s.wrs id m ((secs s id).getD m []), 0)) := by
       show _ = _; unfold lookF; rw [Hid'.out]; exact if_neg (by have := HL.out; omega)
      have Hp : Hid ((lastF s.wrs id m ((secs s id).getD m [])).length = 64) := lastF_len _ _ _ _ (by
       have h1 := (H.out.wf.sec _ (getD_mem s.fls id [] Hlt.out)).2
       exact h1 _ (getD_mem _ m [] (by have := HL.out; show m < (secs s id).length; omega))) (fun w hw => (H.out.wf.wrs w hw).2.2)
      have hge : ¬ (L : Int) ≤ (m : Int) := by omega
      have hlm : (m : Int) < (L : Int) := by omega
      obtain ⟨p0, hp0⟩ : ∃ p, (secs s id).getD m [] = p := ⟨_, rfl⟩
      rw [hp0] at Hr Hp hv0
      obtain ⟨aw, cw, ew⟩ := own_form H.out.wrs
      have hc4 := H.out.cell 4 x.vw rfl
      rw [ew] at hc4
      have Hew := Lib.hid ew
      have Hcs := Lib.hid hcs
      have Hv0 := Lib.hid hv0
      have Hc4 := Lib.hid hc4
      clear hbig hp0 hcs hv0 hc4 es ew
      go_enter Tryz.func53, Tryz.ntmps53
      go_wp2_with fail
      refine HI.out.mono ?_
      rintro e w1 ⟨rfl, hG⟩
      have HG := Lib.hid hG
      have c3 := hG.cell' Hc3.out
      have c5 := hG.cell' Hcf.out
      have H1 : Hid (RD w1 q s x) := H.out.grows hG
      clear hG
      go_wp2
      have cXc := fun X (hX : Grows _ X) => And.intro (Grows.cell' hX c3) (Grows.cell' hX c5)
      refine specs_region
       #[[], [0], [0, 1], [0, 1, 2], [], [], [4, 5], [0, 1, 2, 3, 4, 5, 6], [0, 1, 2, 3, 4, 5, 6, 7], [0, 1, 2, 3, 4, 5, 6, 7, 8], [0, 1, 2, 3, 4, 5, 6, 7, 8, 9]] #[[0], [], [], [], [0], [8], [], [], [], [], []] #[true, true, true, true, true, true, true, true, true, true, true]
       ((.val ?vc0) :: (.val ?vc1) :: (.val ?vc2) :: (.val ?vc3) :: (.val ?vc4) :: (.val ?vc5) :: (.val ?vc6) :: (.val ?vc7) :: (.val ?vc8) :: (.val ?vc9) :: (.val ?vc10) :: []).toArray
       hmx ?chkc ?grdc ?stpc ?rstc
      case chkc => rfl
      case stpc =>
       refine ⟨?_, ?_, ?_, ?_, ?_, ?_, ?_, ?_, ?_, ?_, ?_, trivial⟩
       · refine stepO 0 ?vc0 rfl (fun _ _ => rfl) rfl (fun _ => rfl) (by decide) ?_; show (.pointer (some ⟨q, 0, none⟩) : Value) = _; rfl
       · refine stepR (o := ⟨_, .nilCheck (.tmp 21), _, _, _, _⟩) ?vc1 rfl rfl (fun _ => rfl) fun ρ X hc hf hgl hX hp ho => ?_; have k21 : ρ (.tmp 21) = ?vc0 := hp 0 (by decide); clear hp ho hX; go_simp; (all_goals rfl)
       · refine stepR (o := ⟨_, .fieldAddr 76 (.tmp 22) 3, _, _, _, _⟩) ?vc2 rfl rfl (fun _ => rfl) fun ρ X hc hf hgl hX hp ho => ?_; have k22 : ρ (.tmp 22) = ?vc1 := hp 1 (by decide); clear hp ho hX; go_simp; (all_goals rfl)
       · refine stepR (o := ⟨_, .load 73 (.tmp 23), _, _, _, _⟩) ?vc3 rfl rfl (fun _ => rfl) fun ρ X hc hf hgl hX hp ho => ?_; have k23 : ρ (.tmp 23) = ?vc2 := hp 2 (by decide); have cX := cXc X hX; clear hp ho hX; go_simp; (all_goals rfl)
       · refine stepO 0 ?vc4 rfl (fun _ _ => rfl) rfl (fun _ => rfl) (by decide) ?_; show (.pointer (some ⟨q, 0, none⟩) : Value) = _; rfl
       · refine stepO 8 ?vc5 rfl (fun _ _ => rfl) rfl (fun _ => rfl) (by decide) ?_; show (.int .i64 (id : Int) : Value) = _; rfl
       · refine step_intro rfl rfl fun ρ X hc hf hgl hX hp ho => ?_
         change StepOk _ ⟨_, .call { callee := .value (.func 62), args := #[.tmp 25, .tmp 26], argTypes := #[30, 3] }, _, _, _, _⟩ _ _ _
         have k25 : ρ (.tmp 25) = ?vc4 := hp 4 (by decide)
         have k26 : ρ (.tmp 26) = ?vc5 := hp 5 (by decide)
         clear hp ho
         refine StepOk.of_call (f := 62) (args := #[?vc4, ?vc5]) (w' := X) ?_ ((H1.out.grows hX).at id Hlt.out) ?_
         · go_simp
           all_goals try go_bits
           all_goals try rfl
         · rintro e w'' ⟨rfl, rfl⟩; refine ⟨_, rfl, ?_, Below.refl _ _⟩; show _ = ?vc6; rfl
       · refine stepR (o := ⟨_, .indexAddr 73 (.tmp 24) (.tmp 27), _, _, _, _⟩) ?vc7 rfl rfl (fun _ => rfl) fun ρ X hc hf hgl hX hp ho => ?_; have k24 : ρ (.tmp 24) = ?vc3 := hp 3 (by decide); have k27 : ρ (.tmp 27) = ?vc6 := hp 6 (by decide); clear hp ho hX; go_simp; (all_goals try go_bits); (all_goals try simp only [IntWalk.iteOmega]); (all_goals try go_bits); (all_goals rfl)
       · refine stepR (o := ⟨_, .fieldAddr 116 (.tmp 28) 1, _, _, _, _⟩) ?vc8 rfl rfl (fun _ => rfl) fun ρ X hc hf hgl hX hp ho => ?_; have k28 : ρ (.tmp 28) = ?vc7 := hp 7 (by decide); clear hp ho hX; go_simp; (all_goals rfl)
       · refine stepR (o := ⟨_, .load 114 (.tmp 29), _, _, _, _⟩) ?vc9 rfl rfl (fun _ => rfl) fun ρ X hc hf hgl hX hp ho => ?_; have k29 : ρ (.tmp 29) = ?vc8 := hp 8 (by decide); have cX := cXc X hX; clear hp ho hX; go_simp; (all_goals rfl)
       · refine stepP 30 9 (?vc9) ?vc10 rfl (fun _ _ => rfl) rfl (fun _ => rfl) (by decide) rfl (fun _ _ h => h) ?_; rfl
      case grdc => rfl
      case rstc =>
       intro a0 X hb
       have hfr := hb.frame ((10, ?vc10) :: (21, ?vc0) :: (22, ?vc1) :: (23, ?vc2) :: (24, ?vc3) :: (25, ?vc4) :: (26, ?vc5) :: (27, ?vc6) :: (28, ?vc7) :: (29, ?vc8) :: (30, ?vc9) :: []) rfl ⟨hb.done' 10 10 rfl rfl, hb.done' 0 21 rfl rfl, hb.done' 1 22 rfl rfl, hb.done' 2 23 rfl rfl, hb.done' 3 24 rfl rfl, hb.done' 4 25 rfl rfl, hb.done' 5 26 rfl rfl, hb.done' 6 27 rfl rfl, hb.done' 7 28 rfl rfl, hb.done' 8 29 rfl rfl, hb.done' 9 30 rfl rfl, trivial⟩
       simp only [updL, ↓reduceIte, Nat.reduceEqDiff, Nat.reduceAdd, Nat.zero_add] at hfr
       have HX := Lib.hid hb.ext
       clear hb cXc
       subst hfr
       have HGX := Lib.hid (Grows.trans' HG.out HX.out)
       have csX := HGX.out.cell' Hcs.out
       have c4X := HGX.out.cell' Hc4.out
       have HRX : Hid (RD X q s x) := H.out.grows HGX.out
       have HvX : Hid (Byt X v0 p0) := Hv0.out.grows HGX.out
       clear c3 c5
       go_wp2
       go_loop [11, 12] (fun t11 t12 => ∃ i : Nat, i ≤ s.wrs.length ∧ t12 = .int .i64 i ∧ Byt X t11 (lastF (s.wrs.take i) id m p0))
        (fun _ t12 => s.wrs.length - (intOf t12).toNat)
       case atStart => exact ⟨0, by omega, rfl, HvX.out⟩
       case round =>
        obtain ⟨i, hin, rfl, hB⟩ := hrel
        have HB := Lib.hid hB
        by_cases hlt : i < s.wrs.length
        · have hltI : (i : Int) < (s.wrs.length : Int) := by omega
          have hbw : ¬ ((s.wrs.length : Int) ≤ (i : Int)) := by omega
          have hw' := HRX.out.wrs
          rw [Hew.out] at hw'
          obtain ⟨gw, cw', e1⟩ := own_some hw' (by omega)
          simp only [Value.slice.injEq] at e1
          obtain ⟨rfl, -, rfl⟩ := e1
          obtain ⟨d0, d1, pv, d2, hpv⟩ := HRX.out.writ Hew.out i hlt
          have hsn := lastF_snoc s.wrs id m p0 i hlt
          obtain ⟨wi, hwi⟩ : ∃ y, (s.wrs[i]).id = y := ⟨_, rfl⟩
          obtain ⟨wn, hwn⟩ : ∃ y, (s.wrs[i]).n = y := ⟨_, rfl⟩
          rw [hwi] at d0 hsn
          rw [hwn] at d1 hsn
          obtain ⟨pp, hpp⟩ : ∃ y, (s.wrs[i]).p = y := ⟨_, rfl⟩
          rw [hpp] at hpv hsn
          clear hwi hwn hpp
          have hib : (i : Int) ≤ 1000000 := by have := H.out.small; omega
          have Hpv := Lib.hid hpv
          have Hi := Lib.hid hlt
          by_cases he : wi = id
          · by_cases hn : wn = m
            · rw [if_pos ⟨he, hn⟩] at hsn
              have Hsn := Lib.hid hsn
              subst he hn
              clear hlt hin hsn hw' hpv hB
              go_wp2
              go_round
              case rel => exact ⟨i + 1, Hi.out, by simp, by rw [Hsn.out]; exact Hpv.out⟩
              case measure => have := Hi.out; simp [intOf]; omega
            · rw [if_neg (fun h => hn h.2)] at hsn
              have Hsn := Lib.hid hsn
              have hne : ¬ (wn : Int) = (m : Int) := by omega
              subst he
              clear hlt hin hsn hw' hpv hB hn
              go_wp2
              go_round
              case rel => exact ⟨i + 1, Hi.out, by simp, by rw [Hsn.out]; exact HB.out⟩
              case measure => have := Hi.out; simp [intOf]; omega
          · rw [if_neg (fun h => he h.1)] at hsn
            have Hsn := Lib.hid hsn
            have hne : ¬ (wi : Int) = (id : Int) := by omega
            clear hlt hin hsn hw' hpv hB he
            go_wp2
            go_round
            case rel => exact ⟨i + 1, Hi.out, by simp, by rw [Hsn.out]; exact HB.out⟩
            case measure => have := Hi.out; simp [intOf]; omega
        · have hltI : ¬ (i : Int) < (s.wrs.length : Int) := by omega
          rw [List.take_of_length_le (by omega)] at hB
          have HB' := Lib.hid hB
          clear hlt hin hB
          go_wp2_with (at_builtin; refine wpList_app rfl _ _ 36 5 i0 rfl Tryz.underlying36 hi hz0 hz1 hz2 w.heap.size _ _ [] _ rfl (Own.empty _ _ _ HGX.out.size) rfl (HB'.out.grows (Grows.alloc' _ _)) (by have := Hp.out; simp; omega) (by have := HGX.out.size; simp; omega) ?_; intro v1 w3 hown hgrow; have HG3 := Lib.hid (grows_app (HGX.out.alloc HGX.out.size _) (Own.empty 5 _ _ HGX.out.size) (by have := HGX.out.size; simp; omega) hgrow); have HO := Lib.hid hown; clear hown hgrow)
          go_ret2
          exact ⟨v1, by rw [Hr.out]; rfl, by rw [Hr.out]; simpa using HO.out, HG3.out⟩
end Go.Proofs.YtoppcpiheaedlaaGreatDoor
end
section
/-
  The document's own disk: a sector that is read; a name that is taken away, or that takes another's.
-/
namespace Go.Proofs.YtoppcpiheaedlaaGreatDoor
open Go.RowKit
set_option linter.unusedVariables false
set_option linter.unusedSimpArgs false
attribute [local go_sem] sv nv
theorem infoCh : (Tryz.prog.info? 165).map (fun i => (i.zero, i.size, i.bytes)) = some (some (.agg #[.int .i64 0, .string ⟨#[]⟩, .string ⟨#[]⟩, .int .i64 0]), 4, 48) := by kernel_rfl
theorem infoCh_parts : ∃ i z, Tryz.prog.info? 165 = some i ∧ i.zero = some z ∧ i.size = 4 ∧ i.bytes = 48 ∧ z.cells.size = 4 := by
 have h := infoCh
 cases hi : Tryz.prog.info? 165 with
 | none => rw [hi] at h; simp at h
 | some i =>
  rw [hi] at h
  simp only [Option.map_some, Option.some.injEq, Prod.mk.injEq] at h
  exact ⟨i, _, rfl, h.1, h.2.1, h.2.2, rfl⟩
structure Turn (q : Nat) (x x' : RDv) (w w' : World) : Prop where
 muts : ∀ k, mutB q x' k → mutB q x k ∨ w.heap.size ≤ k
 uses : ∀ k, useB q x' k → useB q x k ∨ w.heap.size ≤ k
 but : But (mutB q x) w w'
theorem Turn.refl (q : Nat) (x : RDv) (w : World) : Turn q x x w w := ⟨fun _ h => .inl h, fun _ h => .inl h, But.refl' _ _⟩
theorem Turn.trans {q : Nat} {x x' x'' : RDv} {w w' w'' : World} (h : Turn q x x' w w') (g : Turn q x' x'' w' w'') : Turn q x x'' w w'' where
 muts := fun k hk => (g.muts k hk).elim (h.muts k) (fun hl => .inr (Nat.le_trans h.but.size hl))
 uses := fun k hk => (g.uses k hk).elim (h.uses k) (fun hl => .inr (Nat.le_trans h.but.size hl))
 but := ⟨g.but.os.trans h.but.os, g.but.tape.trans h.but.tape, g.but.output.trans h.but.output, Nat.le_trans h.but.size g.but.size, fun k hk hn => (g.but.block k (Nat.lt_of_lt_of_le hk h.but.size) (fun hm => (h.muts k hm).elim hn (fun hl => by omega))).trans (h.but.block k hk hn)⟩
theorem Turn.ofGrows {q : Nat} {x : RDv} {w w' : World} (h : Grows w w') : Turn q x x w w' := ⟨fun _ h => .inl h, fun _ h => .inl h, But.ofGrows h⟩
theorem Turn.ofBut {q : Nat} {x : RDv} {w w' : World} (h : But (fun k => k = q) w w') : Turn q x x w w' := ⟨fun _ h => .inl h, fun _ h => .inl h, h.mono fun k hk => .inl hk⟩
theorem guardF_no {s : Ds} {k : Ds → Int × Ds} (h : (failsF s).1 ≠ 0) : guardF s k = failsF s := if_pos h
theorem guardF_yes {s : Ds} {k : Ds → Int × Ds} (h : (failsF s).1 = 0) : guardF s k = k (failsF s).2 := if_neg (by simpa using h)
theorem failsF_lens (s : Ds) : (failsF s).2.chs = s.chs ∧ (failsF s).2.fls = s.fls ∧ (failsF s).2.wrs = s.wrs ∧ (failsF s).2.dir = s.dir ∧ (failsF s).2.room = s.room := by
 unfold failsF
 split
 · exact ⟨rfl, rfl, rfl, rfl, rfl⟩
 · split <;> exact ⟨rfl, rfl, rfl, rfl, rfl⟩
set_option maxRecDepth 100000 in
set_option maxHeartbeats 1000000 in
theorem refRead (q : Nat) (s : Ds) (x : RDv) (nm : Nm) (n : Int) (w : World) (h : RD w q s x) :
 Calls Tryz.prog 45 #[.pointer (some ⟨q, 0, none⟩), sv nm, .int .i64 n] w fun e w' => ∃ v, e = .returned (.tuple #[v, .int .i64 (readF s nm n).1.2]) ∧ Own 5 w.heap.size w' v (readF s nm n).1.1 ∧ RD w' q (readF s nm n).2 x ∧ But (fun k => k = q) w w' := by
 have HF := Lib.hid (refFails q s x w h)
 unfold sv
 obtain ⟨fc, hfc⟩ : ∃ y, (failsF s).1 = y := ⟨_, rfl⟩
 obtain ⟨s1, hs1⟩ : ∃ y, (failsF s).2 = y := ⟨_, rfl⟩
 by_cases hf : fc = 0
 · have Hr : Hid (readF s nm n = (lookF s1 nm n, s1)) := by show _ = _; unfold readF; rw [if_neg (by rw [hfc]; simpa using hf), hs1]
   rw [hfc, hs1] at HF
   clear h hfc hs1
   subst hf
   go_enter Tryz.func45, Tryz.ntmps45
   go_wp2_with fail
   refine HF.out.mono ?_
   rintro e w1 ⟨rfl, hR, hB⟩
   have HR := Lib.hid hR
   have HB := Lib.hid hB
   have HL := Lib.hid (refLook q s1 x nm n w1 hR)
   unfold sv at HL
   clear hR hB
   go_wp2_with fail
   refine HL.out.mono ?_
   rintro e w2 ⟨v, rfl, ho, hG⟩
   have HO := Lib.hid ho
   have HG := Lib.hid hG
   clear ho hG
   go_wp2
   go_ret2
   exact ⟨v, by rw [Hr.out]; rfl, by rw [Hr.out]; exact HO.out.mono HB.out.size, by rw [Hr.out]; exact HR.out.grows HG.out, HB.out.trans' (But.ofGrows HG.out)⟩
 · have Hr : Hid (readF s nm n = (([], fc), s1)) := by show _ = _; unfold readF; rw [if_pos (by rw [hfc]; exact hf), hfc, hs1]
   rw [hfc, hs1] at HF
   clear h hfc hs1
   go_enter Tryz.func45, Tryz.ntmps45
   go_wp2_with fail
   refine HF.out.mono ?_
   rintro e w1 ⟨rfl, hR, hB⟩
   have HR := Lib.hid hR
   have HB := Lib.hid hB
   clear hR hB
   go_wp2
   go_ret2
   exact ⟨.slice none 0 0, by rw [Hr.out]; rfl, by rw [Hr.out]; exact Own.nil _ _ _, by rw [Hr.out]; exact HR.out, HB.out⟩
theorem RD.addChg {W W1 : World} {q : Nat} {s : Ds} {x : RDv} {nx : Nat} (h : RD W q s x nx) (c : Chg) (v' : Value) (hb : But (fun k => x.vc.ownBlock = some k) W W1)
 (ho : W1.ownsRow 0 165 4 v' (s.chs.length + 1) ((s.chs ++ [c]).flatMap chC)) (hat : v'.ownBlock = x.vc.ownBlock ∨ ∀ k, v'.ownBlock = some k → W.heap.size ≤ k)
 (hc : c.kind = 0 → c.id < s.fls.length) (hsm : s.chs.length < 1000000) :
 RD (W1.setCell ⟨q, 2, none⟩ v') q { s with chs := s.chs ++ [c] } { x with vc := v' } nx ∧ Turn q x { x with vc := v' } W (W1.setCell ⟨q, 2, none⟩ v') := by
 have hB : But (fun k => k = q ∨ x.vc.ownBlock = some k) W (W1.setCell ⟨q, 2, none⟩ v') := But.setCell (hb.mono fun k hk => .inr hk) _ _ (.inl rfl)
 have hqn : x.vc.ownBlock ≠ some q := own_ne h.chs h.row (by decide)
 have hrow1 := hb.blockEq hqn h.row
 have hm : ∀ k, mutB q { x with vc := v' } k → mutB q x k ∨ W.heap.size ≤ k := by
  intro k hk
  rcases hk with hk | hk | hk
  · exact .inl (.inl hk)
  · rcases hat with h' | h'
    · exact .inl (.inr (.inl (h'.symm.trans hk)))
    · exact .inr (h' k hk)
  · exact .inl (.inr (.inr hk))
 have hu : ∀ k, useB q { x with vc := v' } k → useB q x k ∨ W.heap.size ≤ k := by
  intro k hk
  rcases hk with hk | hk
  · exact (hm k hk).imp .inl id
  · exact .inl (.inr hk)
 have keep : ∀ {B e k n : Nat} {v : Value} {xs : List Value}, W.ownsRow B e k v n xs → e ≠ 76 → e ≠ 165 → (W1.setCell ⟨q, 2, none⟩ v').ownsRow B e k v n xs := fun hv h1 h2 =>
  own_but hv hB fun j hj hn => by
   rcases hn with rfl | hn
   · exact own_ne hv h.row (fun e' => h1 e'.symm) hj
   · exact own_ne2 hv h.chs h2 j hj hn
 have keepB : ∀ {v : Value} {l : List UInt8}, Byt W v l → 0 < l.length → (∀ k, v.ownBlock = some k → ¬ mutB q x k) → Byt (W1.setCell ⟨q, 2, none⟩ v') v l := fun hv h0 hn =>
  byt_own hv fun k hk => hB.block k (byt_lt hv h0 k hk) fun hx => by
    rcases hx with rfl | hx
    · exact hn _ hk (.inl rfl)
    · exact hn _ hk (.inr (.inl hx))
 refine ⟨⟨?_, keep h.dir (by decide) (by decide), ?_, h.ssl, keep h.fls (by decide) (by decide), h.psl, keep h.wrs (by decide) (by decide), h.spl, fun i hi => keep (h.sec i hi) (by decide) (by decide), ?_, ?_, ?_, h.dis, ⟨h.wf.dir, ?_, h.wf.wrs, h.wf.sec, h.wf.room⟩, h.aft, ?_⟩, hm, hu, ?_⟩
 · exact row_setCell hrow1 2 v'
 · show (W1.setCell ⟨q, 2, none⟩ v').ownsRow 0 _ 4 v' (s.chs ++ [c]).length _
   rw [List.length_append]
   exact own_but ho (But.setCell (But.refl' (fun k => k = q) _) _ _ rfl) fun j hj hn => own_ne ho hrow1 (by decide) (by rw [hj, hn])
 · intro i j hi hj
   refine keepB (h.byt i j hi hj) ?_ (h.out.2 (x.sp.getD i []) (getD_mem _ _ _ (by rw [h.spl]; exact hi)) _ (getD_mem _ _ _ (by have := (h.sec i hi).1; have : j < (secs s i).length := hj; omega)))
   have h64 : ((secs s i).getD j []).length = 64 := (h.wf.sec _ (getD_mem s.fls i [] hi)).2 _ (getD_mem _ _ _ hj)
   show 0 < ((secs s i).getD j []).length
   omega
 · intro j hj
   refine keepB (h.pend j hj) ?_ (h.out.1 _ (getD_mem x.ps j undef (by rw [h.psl]; exact hj)))
   have h64 : ((s.wrs[j]'hj).p).length = 64 := (h.wf.wrs _ (List.getElem_mem hj)).2.2
   show 0 < ((s.wrs[j]'hj).p).length
   omega
 · refine ⟨fun v hv k hk hmm => ?_, fun l hl v hv k hk hmm => ?_⟩
   · rcases hm k hmm with h' | h'
     · exact h.out.1 v hv k hk h'
     · have := h.ltU (k := k) (.inr (.inr (.inl ⟨v, hv, hk⟩))); omega
   · rcases hm k hmm with h' | h'
     · exact h.out.2 l hl v hv k hk h'
     · have := h.ltU (k := k) (.inr (.inr (.inr ⟨l, hl, v, hv, hk⟩))); omega
 · intro c' hc' h0
   rcases List.mem_append.1 hc' with h' | h'
   · exact h.wf.chs c' h' h0
   · rw [List.mem_singleton.1 h'] at h0 ⊢; exact hc h0
 · have := h.small
   refine ⟨this.1, ?_, this.2.2⟩
   show (s.chs ++ [c]).length ≤ _
   rw [List.length_append]
   exact hsm
 · refine hB.mono fun k hk => ?_
   rcases hk with hk | hk
   · exact .inl hk
   · exact .inr (.inl hk)
theorem HL_of {α : Type} (n k : Nat) (xs ys : List α) (hx : xs.length = n * k) (hy : ys.length = k) (hk : 0 < k) : ∀ p ∈ [(n, xs), (1, ys), (n + 1, xs ++ ys)], p.1 ≤ n ∨ (p.1 ≤ n + 1 ∧ p.2 = (xs ++ ys).take (p.1 * k)) := by
 intro p hp
 simp only [List.mem_cons, List.not_mem_nil, or_false] at hp
 rcases hp with rfl | rfl | rfl
 · left; exact Nat.le_refl _
 · rcases Nat.eq_zero_or_pos n with h0 | h0
   · right
     have : xs = [] := List.eq_nil_of_length_eq_zero (by rw [hx, h0, Nat.zero_mul])
     rw [this, List.nil_append]
     exact ⟨by show 1 ≤ n + 1; omega, by rw [List.take_of_length_le]; show ys.length ≤ 1 * k; omega⟩
   · left; exact h0
 · right
   refine ⟨Nat.le_refl _, ?_⟩
   rw [List.take_of_length_le]
   rw [List.length_append, hx, hy, Nat.add_mul, Nat.one_mul]
   exact Nat.le_refl _
theorem chC_flat (l : List Chg) : (l.flatMap chC).length = l.length * 4 := by
 induction l with
 | nil => rfl
 | cons a l ih => rw [List.flatMap_cons, List.length_append, ih, chC_len, List.length_cons]; omega
set_option maxRecDepth 100000 in
set_option maxHeartbeats 2000000 in
theorem refRemove (q : Nat) (s : Ds) (x : RDv) (nm : Nm) (w : World) (h : RD w q s x) (hsm : s.chs.length < 1000000) :
 Calls Tryz.prog 41 #[.pointer (some ⟨q, 0, none⟩), sv nm] w fun e w' => e = .returned (.int .i64 (removeF s nm).1) ∧ ∃ x', RD w' q (removeF s nm).2 x' ∧ Turn q x x' w w' := by
 have hmx : Tryz.prog.follows .mixedOrders = true := by kernel_rfl
 obtain ⟨i0, z0, hi, hz, hs2, hb2, hzs⟩ := infoCh_parts
 have HF := Lib.hid (refFails q s x w h)
 have Hch := Lib.hid (show (failsF s).2.chs.length < 1000000 by rw [(failsF_lens s).1]; exact hsm)
 unfold sv
 obtain ⟨fc, hfc⟩ : ∃ y, (failsF s).1 = y := ⟨_, rfl⟩
 obtain ⟨s1, hs1⟩ : ∃ y, (failsF s).2 = y := ⟨_, rfl⟩
 by_cases hf : fc = 0
 · have Hg : Hid (removeF s nm = if (idF s1 nm).isNone then (7, s1) else (0, { s1 with chs := s1.chs ++ [⟨1, nm, [], 0⟩] })) := by
    show _ = _
    unfold removeF
    rw [guardF_yes (by rw [hfc, hf]), hs1]
   rw [hfc, hs1] at HF
   rw [hs1] at Hch
   clear h hfc hs1 hsm
   subst hf
   go_enter Tryz.func41, Tryz.ntmps41
   go_wp2_with fail
   refine HF.out.mono ?_
   rintro e w1 ⟨rfl, hR, hB⟩
   have HR := Lib.hid hR
   have HT := Lib.hid (Turn.ofBut (x := x) hB)
   have HI := Lib.hid (refId q s1 x nm w1 hR)
   unfold sv at HI
   clear hR hB
   cases hid : idF s1 nm with
   | none =>
    have Hr : Hid (removeF s nm = (7, s1)) := by show _ = _; rw [Hg.out, hid]; rfl
    have hir : idR s1 nm = .tuple #[.int .i64 0, .bool false] := by unfold idR; rw [hid]; rfl
    rw [hir] at HI
    clear hid hir
    go_wp2_with fail
    refine HI.out.mono ?_
    rintro e w2 ⟨rfl, hG⟩
    have HG := Lib.hid hG
    clear hG
    go_wp2
    go_ret
    exact ⟨by rw [Hr.out]; rfl, x, by rw [Hr.out]; exact HR.out.grows HG.out, HT.out.trans (Turn.ofGrows HG.out)⟩
   | some id =>
    have Hr : Hid (removeF s nm = (0, { s1 with chs := s1.chs ++ [⟨1, nm, [], 0⟩] })) := by show _ = _; rw [Hg.out, hid]; rfl
    have hir : idR s1 nm = .tuple #[.int .i64 (id : Int), .bool true] := by unfold idR; rw [hid]; rfl
    rw [hir] at HI
    clear hid hir
    go_wp2_with fail
    refine HI.out.mono ?_
    rintro e w2 ⟨rfl, hG⟩
    have HT2 := Lib.hid (HT.out.trans (Turn.ofGrows hG))
    have hR2 := HR.out.grows hG
    clear hG
    obtain ⟨a, cap, e1⟩ := own_form hR2.chs
    have c2 := hR2.cell 2 x.vc rfl
    have hnq : ¬ (x.vc.ownBlock = some q) := own_ne hR2.chs hR2.row (by decide)
    have hown := hR2.chs
    have hn1 := Hch.out
    have HR2 := Lib.hid hR2
    obtain ⟨n, Hn⟩ : ∃ n, Hid (s1.chs.length = n) := ⟨_, rfl⟩
    obtain ⟨xs, Hxs⟩ : ∃ xs, Hid (s1.chs.flatMap chC = xs) := ⟨_, rfl⟩
    have Hvc : Hid (x.vc = .slice a n cap) := by show _ = _; rw [e1, Hn.out]
    rw [Hvc.out] at c2 hnq hown
    rw [Hn.out] at hown hn1
    rw [Hxs.out] at hown
    have Hown := Lib.hid hown
    have Hn1 := Lib.hid hn1
    clear hR2 e1 hown hn1
    go_wp2_with (at_builtin; refine wpList_appendx rfl _ _ 72 165 rfl i0 z0 4 48 Tryz.underlying72 hi hz hs2 hb2 hzs (by omega) _ n xs rfl ?q1 ⟨w2.heap.size, 0, none⟩ 1 1 (chC ⟨1, nm, [], 0⟩) ?q2 rfl ?q3 ?q7 ?q4 ?q5 ?q6)
    case q1 => exact own_grows Hown.out (Grows.alloc' _ _)
    case q2 => rfl
    case q3 =>
     intro j u hu
     rw [Addr.add_lit, Nat.zero_add, World.cell?_alloc_at _ _ _ _ rfl]
     simpa [chC, sv, nv] using hu
    case q7 => intro u hu; simp [chC, sv, nv] at hu; rcases hu with rfl | rfl | rfl | rfl <;> rfl
    case q4 => have := Hn1.out; unfold maxLen; omega
    case q5 => have := Hn1.out; omega
    intro v6 w6 hown6 hgrow6 hat6
    obtain ⟨a6, c6, rfl⟩ := own_form hown6
    have hbut : But (fun k => Value.ownBlock (.slice a n cap) = some k) w2 w6 := (But.ofGrows (Grows.alloc' _ _)).trans' (But.grown hgrow6 (fun j hj => hj))
    have cX := hbut.cell (p := ⟨q, 2, none⟩) hnq c2
    have fX : w6.frozen? ⟨q, 2, none⟩ = false := frozen_of_row w6 q 2 _ _ (hbut.blockEq hnq HR2.out.row)
    have hadd := HR2.out.addChg ⟨1, nm, [], 0⟩ (.slice a6 (n + 1) c6) (by rw [Hvc.out]; exact hbut) (by rw [Hn.out, List.flatMap_append, Hxs.out]; simpa using hown6) (by rw [Hvc.out]; rcases hat6 with h | h; exact .inl h; right; intro j hj; rw [h] at hj; have := Option.some.inj hj; first | omega | (simp at this; omega)) (fun h => by cases h) Hch.out
    have HA := Lib.hid hadd
    clear hadd hown6 hgrow6 hat6 hbut
    go_wp2
    go_ret
    exact ⟨by rw [Hr.out]; rfl, { x with vc := .slice a6 (n + 1) c6 }, by rw [Hr.out]; exact HA.out.1, HT2.out.trans HA.out.2⟩
 · have Hr : Hid (removeF s nm = (fc, s1)) := by show _ = _; unfold removeF; rw [guardF_no (by rw [hfc]; exact hf), ← hfc, ← hs1]
   rw [hfc, hs1] at HF
   clear h hfc hs1 hsm
   go_enter Tryz.func41, Tryz.ntmps41
   go_wp2_with fail
   refine HF.out.mono ?_
   rintro e w1 ⟨rfl, hR, hB⟩
   have HR := Lib.hid hR
   have HB := Lib.hid hB
   clear hR hB
   go_wp2
   go_ret
   exact ⟨by rw [Hr.out]; rfl, x, by rw [Hr.out]; exact HR.out, Turn.ofBut HB.out⟩
set_option maxRecDepth 100000 in
set_option maxHeartbeats 2000000 in
theorem refRename (q : Nat) (s : Ds) (x : RDv) (nm nb : Nm) (w : World) (h : RD w q s x) (hsm : s.chs.length < 1000000) (hbl : True) :
 Calls Tryz.prog 42 #[.pointer (some ⟨q, 0, none⟩), sv nm, sv nb] w fun e w' => e = .returned (.int .i64 (renameF s nm nb).1) ∧ ∃ x', RD w' q (renameF s nm nb).2 x' ∧ Turn q x x' w w' := by
 have hmx : Tryz.prog.follows .mixedOrders = true := by kernel_rfl
 obtain ⟨i0, z0, hi, hz, hs2, hb2, hzs⟩ := infoCh_parts
 have HF := Lib.hid (refFails q s x w h)
 have HN := Lib.hid (refName nb hbl)
 have Hch := Lib.hid (show (failsF s).2.chs.length < 1000000 by rw [(failsF_lens s).1]; exact hsm)
 unfold sv at HN ⊢
 obtain ⟨fc, hfc⟩ : ∃ y, (failsF s).1 = y := ⟨_, rfl⟩
 obtain ⟨s1, hs1⟩ : ∃ y, (failsF s).2 = y := ⟨_, rfl⟩
 by_cases hf : fc = 0
 · have Hg : Hid (renameF s nm nb = if (idF s1 nm).isNone then (7, s1) else if nameOK nb = false then (2, s1) else (0, { s1 with chs := s1.chs ++ [⟨2, nm, nb, 0⟩] })) := by
    show _ = _
    unfold renameF
    rw [guardF_yes (by rw [hfc, hf]), hs1]
   rw [hfc, hs1] at HF
   rw [hs1] at Hch
   clear h hfc hs1 hsm
   subst hf
   go_enter Tryz.func42, Tryz.ntmps42
   go_wp2_with fail
   refine HF.out.mono ?_
   rintro e w1 ⟨rfl, hR, hB⟩
   have HR := Lib.hid hR
   have HT := Lib.hid (Turn.ofBut (x := x) hB)
   have HI := Lib.hid (refId q s1 x nm w1 hR)
   unfold sv at HI
   clear hR hB
   cases hid : idF s1 nm with
   | none =>
    have Hr : Hid (renameF s nm nb = (7, s1)) := by show _ = _; rw [Hg.out, hid]; rfl
    have hir : idR s1 nm = .tuple #[.int .i64 0, .bool false] := by unfold idR; rw [hid]; rfl
    rw [hir] at HI
    clear hid hir
    go_wp2_with fail
    refine HI.out.mono ?_
    rintro e w2 ⟨rfl, hG⟩
    have HG := Lib.hid hG
    clear hG
    go_wp2
    go_ret
    exact ⟨by rw [Hr.out]; rfl, x, by rw [Hr.out]; exact HR.out.grows HG.out, HT.out.trans (Turn.ofGrows HG.out)⟩
   | some id =>
    have hir : idR s1 nm = .tuple #[.int .i64 (id : Int), .bool true] := by unfold idR; rw [hid]; rfl
    rw [hir] at HI
    by_cases hok : nameOK nb = false
    · have Hr : Hid (renameF s nm nb = (2, s1)) := by show _ = _; rw [Hg.out, hid, hok]; rfl
      rw [hok] at HN
      clear hid hir
      go_wp2_with fail
      refine HI.out.mono ?_
      rintro e w2 ⟨rfl, hG⟩
      have HG := Lib.hid hG
      clear hG
      go_wp2_with fail
      refine (HN.out w2).mono ?_
      rintro e _ ⟨rfl, rfl⟩
      go_wp2
      go_ret
      exact ⟨by rw [Hr.out]; rfl, x, by rw [Hr.out]; exact HR.out.grows HG.out, HT.out.trans (Turn.ofGrows HG.out)⟩
    · have hok' : nameOK nb = true := by simpa using hok
      have Hr : Hid (renameF s nm nb = (0, { s1 with chs := s1.chs ++ [⟨2, nm, nb, 0⟩] })) := by show _ = _; rw [Hg.out, hid, hok']; rfl
      rw [hok'] at HN
      clear hid hir hok hok'
      go_wp2_with fail
      refine HI.out.mono ?_
      rintro e w2 ⟨rfl, hG⟩
      have HT2 := Lib.hid (HT.out.trans (Turn.ofGrows hG))
      have hR2 := HR.out.grows hG
      clear hG
      go_wp2_with fail
      refine (HN.out w2).mono ?_
      rintro e w3 ⟨rfl, e3⟩
      have e4 := e3.symm
      subst e4
      obtain ⟨a, cap, e1⟩ := own_form hR2.chs
      have c2 := hR2.cell 2 x.vc rfl
      have hnq : ¬ (x.vc.ownBlock = some q) := own_ne hR2.chs hR2.row (by decide)
      have hown := hR2.chs
      have hn1 := Hch.out
      have HR2 := Lib.hid hR2
      obtain ⟨n, Hn⟩ : ∃ n, Hid (s1.chs.length = n) := ⟨_, rfl⟩
      obtain ⟨xs, Hxs⟩ : ∃ xs, Hid (s1.chs.flatMap chC = xs) := ⟨_, rfl⟩
      have Hvc : Hid (x.vc = .slice a n cap) := by show _ = _; rw [e1, Hn.out]
      rw [Hvc.out] at c2 hnq hown
      rw [Hn.out] at hown hn1
      rw [Hxs.out] at hown
      have Hown := Lib.hid hown
      have Hn1 := Lib.hid hn1
      clear hR2 e1 hown hn1
      go_wp2_with (at_builtin; refine wpList_appendx rfl _ _ 72 165 rfl i0 z0 4 48 Tryz.underlying72 hi hz hs2 hb2 hzs (by omega) _ n xs rfl ?q1 ⟨w2.heap.size, 0, none⟩ 1 1 (chC ⟨2, nm, nb, 0⟩) ?q2 rfl ?q3 ?q7 ?q4 ?q5 ?q6)
      case q1 => exact own_grows Hown.out (Grows.alloc' _ _)
      case q2 => rfl
      case q3 =>
       intro j u hu
       rw [Addr.add_lit, Nat.zero_add, World.cell?_alloc_at _ _ _ _ rfl]
       simpa [chC, sv, nv] using hu
      case q7 => intro u hu; simp [chC, sv, nv] at hu; rcases hu with rfl | rfl | rfl | rfl <;> rfl
      case q4 => have := Hn1.out; unfold maxLen; omega
      case q5 => have := Hn1.out; omega
      intro v6 w6 hown6 hgrow6 hat6
      obtain ⟨a6, c6, rfl⟩ := own_form hown6
      have hbut : But (fun k => Value.ownBlock (.slice a n cap) = some k) w2 w6 := (But.ofGrows (Grows.alloc' _ _)).trans' (But.grown hgrow6 (fun j hj => hj))
      have cX := hbut.cell (p := ⟨q, 2, none⟩) hnq c2
      have fX : w6.frozen? ⟨q, 2, none⟩ = false := frozen_of_row w6 q 2 _ _ (hbut.blockEq hnq HR2.out.row)
      have hadd := HR2.out.addChg ⟨2, nm, nb, 0⟩ (.slice a6 (n + 1) c6) (by rw [Hvc.out]; exact hbut) (by rw [Hn.out, List.flatMap_append, Hxs.out]; simpa using hown6) (by rw [Hvc.out]; rcases hat6 with h | h; exact .inl h; right; intro j hj; rw [h] at hj; have := Option.some.inj hj; first | omega | (simp at this; omega)) (fun h => by cases h) Hch.out
      have HA := Lib.hid hadd
      clear hadd hown6 hgrow6 hat6 hbut
      go_wp2
      go_ret
      exact ⟨by rw [Hr.out]; rfl, { x with vc := .slice a6 (n + 1) c6 }, by rw [Hr.out]; exact HA.out.1, HT2.out.trans HA.out.2⟩
 · have Hr : Hid (renameF s nm nb = (fc, s1)) := by show _ = _; unfold renameF; rw [guardF_no (by rw [hfc]; exact hf), ← hfc, ← hs1]
   rw [hfc, hs1] at HF
   clear h hfc hs1 hsm
   go_enter Tryz.func42, Tryz.ntmps42
   go_wp2_with fail
   refine HF.out.mono ?_
   rintro e w1 ⟨rfl, hR, hB⟩
   have HR := Lib.hid hR
   have HB := Lib.hid hB
   clear hR hB
   go_wp2
   go_ret
   exact ⟨by rw [Hr.out]; rfl, x, by rw [Hr.out]; exact HR.out, Turn.ofBut HB.out⟩
end Go.Proofs.YtoppcpiheaedlaaGreatDoor
end
section
/-
  The document's own disk: a file that is made.
-/
namespace Go.Proofs.YtoppcpiheaedlaaGreatDoor
open Go.RowKit
set_option linter.unusedVariables false
set_option linter.unusedSimpArgs false
attribute [local go_sem] sv nv
theorem infoFi : (Tryz.prog.info? 116).map (fun i => (i.zero, i.size, i.bytes)) = some (some (.agg #[.int .i64 0, .slice none 0 0]), 2, 32) := by kernel_rfl
theorem infoFi_parts : ∃ i z, Tryz.prog.info? 116 = some i ∧ i.zero = some z ∧ i.size = 2 ∧ i.bytes = 32 ∧ z.cells.size = 2 := by
 have h := infoFi
 cases hi : Tryz.prog.info? 116 with
 | none => rw [hi] at h; simp at h
 | some i =>
  rw [hi] at h
  simp only [Option.map_some, Option.some.injEq, Prod.mk.injEq] at h
  exact ⟨i, _, rfl, h.1, h.2.1, h.2.2, rfl⟩
theorem getD_left {α : Type} (l m : List α) (i : Nat) (d : α) (h : i < l.length) : (l ++ m).getD i d = l.getD i d := by
 rw [List.getD, List.getD, List.getElem?_append_left h]
theorem getD_last {α : Type} (l : List α) (a d : α) : (l ++ [a]).getD l.length d = a := by
 rw [List.getD, List.getElem?_append_right (Nat.le_refl _), Nat.sub_self]; rfl
theorem flP_snoc (ss : List Value) (v : Value) : flP (ss ++ [v]) = flP ss ++ [(ss.length, v)] := by
 unfold flP
 rw [List.length_append, List.length_singleton, List.range_succ, List.map_append, List.map_singleton, getD_last]
 congr 1
 refine List.map_congr_left fun i hi => ?_
 rw [getD_left _ _ _ _ (List.mem_range.1 hi)]
theorem flC_flat (l : List (Nat × Value)) : (l.flatMap flC).length = l.length * 2 := by
 induction l with
 | nil => rfl
 | cons a l ih => rw [List.flatMap_cons, List.length_append, ih, flC_len, List.length_cons]; omega
theorem RD.addFile {W W1 : World} {q : Nat} {s : Ds} {x : RDv} (h : RD W q s x) (v' : Value) (hb : But (fun k => x.vf.ownBlock = some k) W W1)
 (ho : W1.ownsRow 0 116 2 v' (s.fls.length + 1) ((flP x.ss).flatMap flC ++ flC (s.fls.length, .slice none 0 0))) (hat : v'.ownBlock = x.vf.ownBlock ∨ ∀ k, v'.ownBlock = some k → W.heap.size ≤ k)
 (hsm : s.fls.length < 1000000) :
 RD (W1.setCell ⟨q, 3, none⟩ v') q { s with fls := s.fls ++ [[]] } { x with vf := v', ss := x.ss ++ [.slice none 0 0], sp := x.sp ++ [[]] } s.fls.length ∧ Turn q x { x with vf := v', ss := x.ss ++ [.slice none 0 0], sp := x.sp ++ [[]] } W (W1.setCell ⟨q, 3, none⟩ v') := by
 have hB : But (fun k => k = q ∨ x.vf.ownBlock = some k) W (W1.setCell ⟨q, 3, none⟩ v') := But.setCell (hb.mono fun k hk => .inr hk) _ _ (.inl rfl)
 have hqn : x.vf.ownBlock ≠ some q := own_ne h.fls h.row (by decide)
 have hrow1 := hb.blockEq hqn h.row
 have hm : ∀ k, mutB q { x with vf := v', ss := x.ss ++ [.slice none 0 0], sp := x.sp ++ [[]] } k → mutB q x k ∨ W.heap.size ≤ k := by
  intro k hk
  rcases hk with hk | hk | hk | hk | ⟨v, hv, hk⟩
  · exact .inl (.inl hk)
  · exact .inl (.inr (.inl hk))
  · rcases hat with h' | h'
    · exact .inl (.inr (.inr (.inl (h'.symm.trans hk))))
    · exact .inr (h' k hk)
  · exact .inl (.inr (.inr (.inr (.inl hk))))
  · rcases List.mem_append.1 hv with h' | h'
    · exact .inl (.inr (.inr (.inr (.inr ⟨v, h', hk⟩))))
    · rw [List.mem_singleton.1 h'] at hk; simp [Value.ownBlock] at hk
 have hu : ∀ k, useB q { x with vf := v', ss := x.ss ++ [.slice none 0 0], sp := x.sp ++ [[]] } k → useB q x k ∨ W.heap.size ≤ k := by
  intro k hk
  rcases hk with hk | hk | hk | ⟨l, hl, v, hv, hk⟩
  · exact (hm k hk).imp .inl id
  · exact .inl (.inr (.inl hk))
  · exact .inl (.inr (.inr (.inl hk)))
  · rcases List.mem_append.1 hl with h' | h'
    · exact .inl (.inr (.inr (.inr ⟨l, h', v, hv, hk⟩)))
    · rw [List.mem_singleton.1 h'] at hv; simp at hv
 have keep : ∀ {B e k n : Nat} {v : Value} {xs : List Value}, W.ownsRow B e k v n xs → e ≠ 76 → e ≠ 116 → (W1.setCell ⟨q, 3, none⟩ v').ownsRow B e k v n xs := fun hv h1 h2 =>
  own_but hv hB fun j hj hn => by
   rcases hn with rfl | hn
   · exact own_ne hv h.row (fun e' => h1 e'.symm) hj
   · exact own_ne2 hv h.fls h2 j hj hn
 have keepB : ∀ {v : Value} {l : List UInt8}, Byt W v l → 0 < l.length → (∀ k, v.ownBlock = some k → ¬ mutB q x k) → Byt (W1.setCell ⟨q, 3, none⟩ v') v l := fun hv h0 hn =>
  byt_own hv fun k hk => hB.block k (byt_lt hv h0 k hk) fun hx => by
    rcases hx with rfl | hx
    · exact hn _ hk (.inl rfl)
    · exact hn _ hk (.inr (.inr (.inl hx)))
 have hsec : ∀ i, i < s.fls.length → secs { s with fls := s.fls ++ [[]] } i = secs s i := fun i hi => getD_left _ _ _ _ hi
 have hsecl : secs { s with fls := s.fls ++ [[]] } s.fls.length = [] := getD_last _ _ _
 have hssl : (x.ss ++ [Value.slice none 0 0]).getD s.fls.length undef = .slice none 0 0 := by rw [← h.ssl]; exact getD_last _ _ _
 have hspl : (x.sp ++ [[]]).getD s.fls.length [] = [] := by rw [← h.spl]; exact getD_last _ _ _
 have hss : ∀ i, i < s.fls.length → (x.ss ++ [Value.slice none 0 0]).getD i undef = x.ss.getD i undef := fun i hi => getD_left _ _ _ _ (by rw [h.ssl]; exact hi)
 have hsp : ∀ i, i < s.fls.length → (x.sp ++ [[]]).getD i [] = x.sp.getD i [] := fun i hi => getD_left _ _ _ _ (by rw [h.spl]; exact hi)
 have hlen : ∀ i, i < (s.fls ++ [([] : List (List UInt8))]).length → i < s.fls.length ∨ i = s.fls.length := fun i hi => by rw [List.length_append, List.length_singleton] at hi; omega
 refine ⟨⟨?_, keep h.dir (by decide) (by decide), keep h.chs (by decide) (by decide), ?_, ?_, h.psl, keep h.wrs (by decide) (by decide), ?_, ?_, ?_, ?_, ?_, ?_, ⟨?_, ?_, ?_, ?_, h.wf.room⟩, h.aft, ?_⟩, hm, hu, ?_⟩
 · exact row_setCell hrow1 3 v'
 · show (x.ss ++ [_]).length = (s.fls ++ [_]).length
   rw [List.length_append, List.length_append, h.ssl]; rfl
 · show (W1.setCell ⟨q, 3, none⟩ v').ownsRow 0 _ 2 v' (s.fls ++ [[]]).length ((flP (x.ss ++ [_])).flatMap flC)
   rw [List.length_append, flP_snoc, List.flatMap_append, h.ssl]
   have := own_but ho (But.setCell (But.refl' (fun k => k = q) _) ⟨q, 3, none⟩ v' rfl) fun j hj hn => own_ne ho hrow1 (by decide) (by rw [hj, hn])
   simpa using this
 · show (x.sp ++ [_]).length = (s.fls ++ [_]).length
   rw [List.length_append, List.length_append, h.spl]; rfl
 · intro i hi
   show World.ownsRow _ _ _ _ ((x.ss ++ [_]).getD i undef) _ ((x.sp ++ [[]]).getD i [])
   rcases hlen i hi with h' | rfl
   · rw [hsec i h', hss i h', hsp i h']
     exact keep (h.sec i h') (by decide) (by decide)
   · rw [hsecl, hssl, hspl]
     exact World.ownsRow_nil _ _ _ _
 · intro i j hi hj
   show Byt _ (((x.sp ++ [[]]).getD i []).getD j undef) _
   rcases hlen i hi with h' | rfl
   · rw [hsec i h'] at hj ⊢
     rw [hsp i h']
     refine keepB (h.byt i j h' hj) ?_ (h.out.2 (x.sp.getD i []) (getD_mem _ _ _ (by rw [h.spl]; exact h')) _ (getD_mem _ _ _ (by have := (h.sec i h').1; omega)))
     have h64 : ((secs s i).getD j []).length = 64 := (h.wf.sec _ (getD_mem s.fls i [] h')).2 _ (getD_mem _ _ _ hj)
     omega
   · rw [hsecl] at hj; simp at hj
 · intro j hj
   refine keepB (h.pend j hj) ?_ (h.out.1 _ (getD_mem x.ps j undef (by rw [h.psl]; exact hj)))
   have h64 : ((s.wrs[j]'hj).p).length = 64 := (h.wf.wrs _ (List.getElem_mem hj)).2.2
   show 0 < ((s.wrs[j]'hj).p).length
   omega
 · refine ⟨fun v hv k hk hmm => ?_, fun l hl v hv k hk hmm => ?_⟩
   · rcases hm k hmm with h' | h'
     · exact h.out.1 v hv k hk h'
     · have := h.ltU (k := k) (.inr (.inr (.inl ⟨v, hv, hk⟩))); omega
   · rcases List.mem_append.1 hl with hl | hl
     · rcases hm k hmm with h' | h'
       · exact h.out.2 l hl v hv k hk h'
       · have := h.ltU (k := k) (.inr (.inr (.inr ⟨l, hl, v, hv, hk⟩))); omega
     · rw [List.mem_singleton.1 hl] at hv; simp at hv
 · intro i j hij hj k
   show ((x.ss ++ [_]).getD i undef).ownBlock = some k → ((x.ss ++ [_]).getD j undef).ownBlock ≠ some k
   rcases hlen j hj with h' | rfl
   · rw [hss i (by omega), hss j h']
     exact h.dis i j hij h' k
   · rw [hssl]
     intro _ hk
     simp [Value.ownBlock] at hk
 · intro e he
   show e.2 < (s.fls ++ [[]]).length
   rw [List.length_append]
   have := h.wf.dir e he
   omega
 · intro c hc h0
   show c.id < (s.fls ++ [[]]).length
   rw [List.length_append]
   have := h.wf.chs c hc h0
   omega
 · intro w hw
   have := h.wf.wrs w hw
   rw [hsec _ this.1]
   refine ⟨?_, this.2⟩
   show w.id < (s.fls ++ [[]]).length
   rw [List.length_append]
   omega
 · intro f hf
   rcases List.mem_append.1 hf with h' | h'
   · exact h.wf.sec f h'
   · rw [List.mem_singleton.1 h']; simp
 · have := h.small
   refine ⟨this.1, this.2.1, ?_, this.2.2.2⟩
   show (s.fls ++ [[]]).length ≤ _
   rw [List.length_append]
   exact hsm
 · refine hB.mono fun k hk => ?_
   rcases hk with hk | hk
   · exact .inl hk
   · exact .inr (.inr (.inl hk))
theorem RD.setNext {W : World} {q : Nat} {s : Ds} {x : RDv} {nx : Nat} (h : RD W q s x nx) : RD (W.setCell ⟨q, 5, none⟩ (.int .i64 (s.fls.length : Int))) q s x ∧ Turn q x x W (W.setCell ⟨q, 5, none⟩ (.int .i64 (s.fls.length : Int))) := by
 refine ⟨?_, Turn.ofBut (But.setCell (But.refl' _ _) _ _ rfl)⟩
 exact h.head _ s.armed s.after s.code h.aft (row_setCell h.row 5 _) (fun k hk hne => Below.heap_setCell _ _ _ _ (fun e => hne (by first | exact e | exact e.symm)))
theorem idR_form (s : Ds) (nm : Nm) : ∃ (i : Nat), idR s nm = .tuple #[.int .i64 (i : Int), .bool (idF s nm).isSome] := by
 unfold idR
 cases idF s nm with
 | none => exact ⟨0, rfl⟩
 | some i => exact ⟨i, rfl⟩
set_option maxRecDepth 100000 in
set_option maxHeartbeats 4000000 in
theorem refCreate (q : Nat) (s : Ds) (x : RDv) (nm : Nm) (w : World) (h : RD w q s x) (hsm : s.chs.length < 1000000) (hsf : s.fls.length < 1000000) (hbl : True) :
 Calls Tryz.prog 40 #[.pointer (some ⟨q, 0, none⟩), sv nm] w fun e w' => e = .returned (.int .i64 (createF s nm).1) ∧ ∃ x', RD w' q (createF s nm).2 x' ∧ Turn q x x' w w' := by
 have hmx : Tryz.prog.follows .mixedOrders = true := by kernel_rfl
 obtain ⟨i0, z0, hi, hz, hs2, hb2, hzs⟩ := infoCh_parts
 obtain ⟨i1, z1, hi1, hz1, hs21, hb21, hzs1⟩ := infoFi_parts
 have HF := Lib.hid (refFails q s x w h)
 have HN := Lib.hid (refName nm hbl)
 have Hch := Lib.hid (show (failsF s).2.chs.length < 1000000 by rw [(failsF_lens s).1]; exact hsm)
 have Hfl := Lib.hid (show (failsF s).2.fls.length < 1000000 by rw [(failsF_lens s).2.1]; exact hsf)
 unfold sv at HN ⊢
 obtain ⟨fc, hfc⟩ : ∃ y, (failsF s).1 = y := ⟨_, rfl⟩
 obtain ⟨s1, hs1⟩ : ∃ y, (failsF s).2 = y := ⟨_, rfl⟩
 by_cases hf : fc = 0
 · have Hg : Hid (createF s nm = if nameOK nm = false then (2, s1) else if (idF s1 nm).isSome then (40, s1) else if 8 ≤ (nowF s1).length then (6, s1)
    else (0, { s1 with fls := s1.fls ++ [[]], chs := s1.chs ++ [⟨0, nm, [], s1.fls.length⟩] })) := by
    show _ = _
    unfold createF
    rw [guardF_yes (by rw [hfc, hf]), hs1]
   rw [hfc, hs1] at HF
   rw [hs1] at Hch Hfl
   clear h hfc hs1 hsm hsf
   subst hf
   obtain ⟨ii, hir⟩ := idR_form s1 nm
   go_enter Tryz.func40, Tryz.ntmps40
   go_wp2_with fail
   refine HF.out.mono ?_
   rintro e w1 ⟨rfl, hR, hB⟩
   have HR := Lib.hid hR
   have HT := Lib.hid (Turn.ofBut (x := x) hB)
   have HI := Lib.hid (refId q s1 x nm w1 hR)
   unfold sv at HI
   rw [hir] at HI
   obtain ⟨bb, hbb⟩ : ∃ y, (idF s1 nm).isSome = y := ⟨_, rfl⟩
   obtain ⟨ok, hok⟩ : ∃ y, nameOK nm = y := ⟨_, rfl⟩
   have Hbb : Hid ((idF s1 nm).isSome = bb) := hbb
   have Hok : Hid (nameOK nm = ok) := hok
   rw [hbb] at HI
   rw [hok] at HN
   clear hR hB hir hbb hok
   go_wp2_with fail
   refine HI.out.mono ?_
   rintro e w2 ⟨rfl, hG⟩
   have HT2 := Lib.hid (HT.out.trans (Turn.ofGrows hG))
   have HR2 := Lib.hid (HR.out.grows hG)
   clear hG HI HF
   go_wp2_with fail
   refine (HN.out w2).mono ?_
   rintro e w3 ⟨rfl, e3⟩
   have e4 := e3.symm
   subst e4
   clear e3 HN
   cases ok with
   | false =>
    have Hr : Hid (createF s nm = (2, s1)) := by show _ = _; rw [Hg.out, if_pos Hok.out]
    go_wp2
    go_ret
    exact ⟨by rw [Hr.out]; rfl, x, by rw [Hr.out]; exact HR2.out, HT2.out⟩
   | true =>
    cases bb with
    | true =>
     have Hr : Hid (createF s nm = (40, s1)) := by show _ = _; rw [Hg.out, if_neg (by rw [Hok.out]; decide), if_pos Hbb.out]
     go_wp2
     go_ret
     exact ⟨by rw [Hr.out]; rfl, x, by rw [Hr.out]; exact HR2.out, HT2.out⟩
    | false =>
     have HW := Lib.hid HR2.out.now
     obtain ⟨ln, Hln⟩ : ∃ y, Hid ((nowF s1).length = y) := ⟨_, rfl⟩
     have Hnl := Lib.hid (nowF_len HR2.out)
     rw [Hln.out] at Hnl
     go_wp2_with fail
     refine HW.out.mono ?_
     rintro e w4 ⟨v, rfl, hE, hG⟩
     obtain ⟨av, cv, rfl⟩ := own_form hE
     rw [Hln.out]
     have HT4 := Lib.hid (HT2.out.trans (Turn.ofGrows hG))
     have HR4 := Lib.hid (HR2.out.grows hG)
     clear hG hE HW
     by_cases h8 : 8 ≤ ln
     · have Hr : Hid (createF s nm = (6, s1)) := by show _ = _; rw [Hg.out, if_neg (by rw [Hok.out]; decide), if_neg (by rw [Hbb.out]; decide), if_pos (by rw [Hln.out]; exact h8)]
       have h8' : (8 : Int) ≤ (ln : Int) := by omega
       clear h8
       go_wp2
       go_ret
       exact ⟨by rw [Hr.out]; rfl, x, by rw [Hr.out]; exact HR4.out, HT4.out⟩
     · have Hr : Hid (createF s nm = (0, { s1 with fls := s1.fls ++ [[]], chs := s1.chs ++ [⟨0, nm, [], s1.fls.length⟩] })) := by
        show _ = _; rw [Hg.out, if_neg (by rw [Hok.out]; decide), if_neg (by rw [Hbb.out]; decide), if_neg (by rw [Hln.out]; exact h8)]
       have h8' : ¬ (8 : Int) ≤ (ln : Int) := by omega
       obtain ⟨a3, k3, e3⟩ := own_form HR4.out.fls
       have c3 := HR4.out.cell 3 x.vf rfl
       have c5 := HR4.out.cell 5 (.int .i64 (s1.fls.length : Int)) rfl
       have hnq : ¬ (x.vf.ownBlock = some q) := own_ne HR4.out.fls HR4.out.row (by decide)
       have hown := HR4.out.fls
       have hxl := flC_flat (flP x.ss)
       rw [flP_length, HR4.out.ssl] at hxl
       have hn1 := Hfl.out
       obtain ⟨nf, Hnf⟩ : ∃ n, Hid (s1.fls.length = n) := ⟨_, rfl⟩
       obtain ⟨xs3, Hxs3⟩ : ∃ xs, Hid ((flP x.ss).flatMap flC = xs) := ⟨_, rfl⟩
       have Hvf : Hid (x.vf = .slice a3 nf k3) := by show _ = _; rw [e3, Hnf.out]
       rw [Hvf.out] at c3 hnq hown
       rw [Hnf.out] at hown hxl hn1 c5
       rw [Hxs3.out] at hown hxl
       have Hown := Lib.hid hown
       have HL := Lib.hid (HL_of nf 2 xs3 (flC (nf, .slice none 0 0)) hxl rfl (by decide))
       obtain ⟨w4s, Hws⟩ : ∃ y, Hid (w4.heap.size = y) := ⟨_, rfl⟩
       clear e3 hown hxl h8
       go_wp2
       have cX := fun X (hX : (EApp (fun k => Value.ownBlock (.slice a3 nf k3) = some k) 116 2 [(nf, xs3), (1, flC (nf, .slice none 0 0)), (nf + 1, xs3 ++ flC (nf, .slice none 0 0))]) _ X) => And.intro (hX.but.cell (p := ⟨q, _, none⟩) hnq c3) (hX.but.cell (p := ⟨q, _, none⟩) hnq c5)
       refine region_K_last (E := (EApp (fun k => Value.ownBlock (.slice a3 nf k3) = some k) 116 2 [(nf, xs3), (1, flC (nf, .slice none 0 0)), (nf + 1, xs3 ++ flC (nf, .slice none 0 0))])) (EApp.ok (fun k => Value.ownBlock (.slice a3 nf k3) = some k) 116 2 [(nf, xs3), (1, flC (nf, .slice none 0 0)), (nf + 1, xs3 ++ flC (nf, .slice none 0 0))]) EApp.ofGrows 14
        #[[], [], [1], [1, 2], [1, 2, 3], [], [5], [5, 6], [5, 6, 7], [5, 6, 7, 8], [5, 6, 7, 8, 9], [1, 2, 3, 4, 5, 6, 7, 8, 9, 10], [0, 1, 2, 3, 4, 5, 6, 7, 8, 9, 10, 11], [0, 1, 2, 3, 4, 5, 6, 7, 8, 9, 10, 11, 12], [0, 1, 2, 3, 4, 5, 6, 7, 8, 9, 10, 11, 12, 13]] #[[0], [0], [], [], [], [0], [], [], [], [], [], [], [], [], []] #[true, true, true, true, true, true, true, true, true, true, true, true, true, true, true]
        ((.val ?v0) :: (.val ?v1) :: (.val ?v2) :: (.val ?v3) :: (.val ?v4) :: (.val ?v5) :: (.val ?v6) :: (.val ?v7) :: (.val ?v8) :: (.val ?v9) :: (.pred (fun v W => W.ownsRow 0 116 2 v 1 (flC (nf, .slice none 0 0)) ∧ ∃ g, v = .slice (some ⟨g, 0, none⟩) 1 1) (fun v a b h ho => ⟨EApp.own (by simp) v a b h ho.1, ho.2⟩)) :: (.pred (fun v W => W.ownsRow 0 116 2 v (nf + 1) (xs3 ++ flC (nf, .slice none 0 0)) ∧ (v.ownBlock = Value.ownBlock (.slice a3 nf k3) ∨ ∀ j, v.ownBlock = some j → w4s ≤ j)) (fun v a b h ho => ⟨EApp.own (by simp) v a b h ho.1, ho.2⟩)) :: (.val ?v12) :: (.val ?v13) :: (.any) :: []).toArray
        (noState [11])
        (fun _ _ _ _ _ _ _ _ => trivial)
        (fun _ _ => trivial)
        hmx ?chk rfl ?grd rfl ?stp ?rst
       case chk => rfl
       case stp =>
        refine ⟨?_, ?_, ?_, ?_, ?_, ?_, ?_, ?_, ?_, ?_, ?_, ?_, ?_, ?_, ?_, trivial⟩
        · refine stepOK 0 ?v0 rfl (fun _ _ => rfl) rfl rfl (fun _ => rfl) (by decide) ?_; show (.pointer (some ⟨q, 0, none⟩) : Value) = _; rfl
        · refine stepOK 0 ?v1 rfl (fun _ _ => rfl) rfl rfl (fun _ => rfl) (by decide) ?_; show (.pointer (some ⟨q, 0, none⟩) : Value) = _; rfl
        · refine stepRK (o := ⟨_, .nilCheck (.tmp 33), _, _, _, _⟩) ?v2 rfl rfl rfl (fun _ => rfl) fun ρ X hc hf hgl hX hp ho => ?_; have k33 : ρ (.tmp 33) = ?v1 := hp 1 (by decide); clear hp ho hX; go_simp; (all_goals rfl)
        · refine stepRK (o := ⟨_, .fieldAddr 76 (.tmp 34) 3, _, _, _, _⟩) ?v3 rfl rfl rfl (fun _ => rfl) fun ρ X hc hf hgl hX hp ho => ?_; have k34 : ρ (.tmp 34) = ?v2 := hp 2 (by decide); clear hp ho hX; go_simp; (all_goals rfl)
        · refine stepRK (o := ⟨_, .load 73 (.tmp 35), _, _, _, _⟩) ?v4 rfl rfl rfl (fun _ => rfl) fun ρ X hc hf hgl hX hp ho => ?_; have k35 : ρ (.tmp 35) = ?v3 := hp 3 (by decide); have cX := cX X hX; clear hp ho hX; go_simp; (all_goals rfl)
        · refine stepOK 0 ?v5 rfl (fun _ _ => rfl) rfl rfl (fun _ => rfl) (by decide) ?_; show (.pointer (some ⟨q, 0, none⟩) : Value) = _; rfl
        · refine stepRK (o := ⟨_, .nilCheck (.tmp 37), _, _, _, _⟩) ?v6 rfl rfl rfl (fun _ => rfl) fun ρ X hc hf hgl hX hp ho => ?_; have k37 : ρ (.tmp 37) = ?v5 := hp 5 (by decide); clear hp ho hX; go_simp; (all_goals rfl)
        · refine stepRK (o := ⟨_, .fieldAddr 76 (.tmp 38) 5, _, _, _, _⟩) ?v7 rfl rfl rfl (fun _ => rfl) fun ρ X hc hf hgl hX hp ho => ?_; have k38 : ρ (.tmp 38) = ?v6 := hp 6 (by decide); clear hp ho hX; go_simp; (all_goals rfl)
        · refine stepRK (o := ⟨_, .load 3 (.tmp 39), _, _, _, _⟩) ?v8 rfl rfl rfl (fun _ => rfl) fun ρ X hc hf hgl hX hp ho => ?_; have k39 : ρ (.tmp 39) = ?v7 := hp 7 (by decide); have cX := cX X hX; clear hp ho hX; go_simp; (all_goals rfl)
        · refine stepRK (o := ⟨_, .build 116 #[(0, .tmp 40)], _, _, _, _⟩) ?v9 rfl rfl rfl (fun _ => rfl) fun ρ X hc hf hgl hX hp ho => ?_; have k40 : ρ (.tmp 40) = ?v8 := hp 8 (by decide); clear hp ho hX; go_simp; (all_goals try go_bits); (all_goals try simp only [IntWalk.iteOmega]); (all_goals try go_bits); (all_goals rfl)
        · refine step_introK rfl rfl fun ρ X hc hf hgl hX hp ho hu => ?_
          change StepOk _ ⟨_, .buildSlice 73 1 #[(0, .tmp 41)], _, _, _, _⟩ _ _ _
          have k41 : ρ (.tmp 41) = ?v9 := hp 9 (by decide)
          refine stepK_plain (i := 10) rfl ?_
          clear hu
          clear hp ho
          refine StepOk.of_run (v := .slice (some ⟨X.heap.size, 0, none⟩) 1 1) (w' := X.alloc (.cells (flC (nf, .slice none 0 0)).toArray 116)) ?_ ⟨⟨⟨rfl, .inr ⟨X.heap.size, 1, _, rfl, Nat.zero_le _, heap_alloc_new X _, Nat.le_refl _, by simp [maxLen], rfl, rfl⟩⟩, _, rfl⟩, Grows.alloc' _ _⟩
          simp [go_sem, execOp, hc, k41, flC]
        · refine step_introK rfl rfl fun ρ X hc hf hgl hX hp ho hu => ?_
          change StepOk _ ⟨_, .call { callee := .builtin .append, args := #[.tmp 36, .tmp 42], argTypes := #[73, 73] }, _, _, _, _⟩ _ _ _
          have k36 : ρ (.tmp 36) = ?v4 := hp 4 (by decide)
          have k42 := hp 10 (by decide)
          clear hu
          clear hp ho
          refine stepK_made rfl ?_
          obtain ⟨ho18, g18, e18⟩ := k42
          rw [e18] at ho18
          have hoX := hX.spared (nf, xs3) (by simp) _ Hown.out
          obtain ⟨v', W', hr, ho', hgb', hat, hsp⟩ := run_append_x (P := Tryz.prog) X 73 73 116 i1 z1 2 32 Tryz.underlying73 hi1 hz1 hs21 hb21 hzs1 (by omega) _ nf xs3 hoX ⟨g18, 0, none⟩ 1 1 (flC (nf, .slice none 0 0)) rfl (ho18.cells (g := g18) rfl) (by intro u hu; simp [flC, sv, nv] at hu; rcases hu with rfl | rfl <;> rfl) (by have := hn1; unfold maxLen; omega) (by have := hn1; omega) [(nf, xs3), (1, flC (nf, .slice none 0 0)), (nf + 1, xs3 ++ flC (nf, .slice none 0 0))] HL.out
          refine StepOk.of_run (v := v') (w' := W') ?_ ⟨⟨ho', ?_⟩, ⟨But.grown hgb' (fun j hj => hj), hsp⟩, fun s hs => by simp [noState] at hs⟩
          · simp only [execOp, resolve, invoke, builtin, Sem.run_bind, Sem.run_pure, Result.andThen_ok, List.map_toArray, List.map_cons, List.map_nil, k36, e18, hr]
          · rcases hat with h | h
            · exact .inl h
            · right; intro j hj; rw [h] at hj; have := Option.some.inj hj; have := hX.but.size; have := Hws.out; omega
        · refine stepRK (o := ⟨_, .nilCheck (.tmp 32), _, _, _, _⟩) ?v12 rfl rfl rfl (fun _ => rfl) fun ρ X hc hf hgl hX hp ho => ?_; have k32 : ρ (.tmp 32) = ?v0 := hp 0 (by decide); clear hp ho hX; go_simp; (all_goals rfl)
        · refine stepRK (o := ⟨_, .fieldAddr 76 (.tmp 44) 3, _, _, _, _⟩) ?v13 rfl rfl rfl (fun _ => rfl) fun ρ X hc hf hgl hX hp ho => ?_; have k44 : ρ (.tmp 44) = ?v12 := hp 12 (by decide); clear hp ho hX; go_simp; (all_goals rfl)
        · exact last_intro rfl
       case grd => rfl
       case rst =>
        intro a0 X hb
        obtain ⟨x42, hx42⟩ : ∃ x, a0.tmps.getD 42 undef = x := ⟨_, rfl⟩
        have p42 := hb.done' 10 42 rfl rfl
        rw [hx42] at p42
        obtain ⟨x43, hx43⟩ : ∃ x, a0.tmps.getD 43 undef = x := ⟨_, rfl⟩
        have p43 := hb.done' 11 43 rfl rfl
        rw [hx43] at p43
        have hfr := hb.frame ((32, ?v0) :: (33, ?v1) :: (34, ?v2) :: (35, ?v3) :: (36, ?v4) :: (37, ?v5) :: (38, ?v6) :: (39, ?v7) :: (40, ?v8) :: (41, ?v9) :: (42, x42) :: (43, x43) :: (44, ?v12) :: (45, ?v13) :: []) rfl ⟨hb.done' 0 32 rfl rfl, hb.done' 1 33 rfl rfl, hb.done' 2 34 rfl rfl, hb.done' 3 35 rfl rfl, hb.done' 4 36 rfl rfl, hb.done' 5 37 rfl rfl, hb.done' 6 38 rfl rfl, hb.done' 7 39 rfl rfl, hb.done' 8 40 rfl rfl, hb.done' 9 41 rfl rfl, hx42, hx43, hb.done' 12 44 rfl rfl, hb.done' 13 45 rfl rfl, trivial⟩
        simp only [updL, ↓reduceIte, Nat.reduceEqDiff, Nat.reduceAdd, Nat.zero_add] at hfr
        have HX := Lib.hid hb.ext
        clear hb cX
        subst hfr
        change StepOk _ { dst := _, op := Op.store 73 (Operand.tmp 45) (Operand.tmp 43), type := _, pos := _, after := _, guard := _ } _ _ _
        have hrX := HX.out.but.blockEq hnq HR4.out.row
        have cX := HX.out.but.cell (p := ⟨q, 3, none⟩) hnq c3
        have fX : X.frozen? ⟨q, 3, none⟩ = false := frozen_of_row X q 3 _ _ hrX
        obtain ⟨po, pa⟩ := (show X.ownsRow 0 116 2 x43 (nf + 1) (xs3 ++ flC (nf, .slice none 0 0)) ∧ (x43.ownBlock = Value.ownBlock (.slice a3 nf k3) ∨ ∀ j, x43.ownBlock = some j → w4s ≤ j) from p43)
        obtain ⟨a5, c5', rfl⟩ := own_form po
        have hadd := HR4.out.addFile (.slice a5 (nf + 1) c5') (by rw [Hvf.out]; exact HX.out.but) (by rw [Hnf.out, Hxs3.out]; exact po) (by rw [Hvf.out, Hws.out]; exact pa) Hfl.out
        rw [Hnf.out] at hadd
        have HRA := Lib.hid hadd.1
        have HTA := Lib.hid hadd.2
        clear hadd po pa p43 c5
        unfold StepOk
        simp [go_sem, execOp, cX, fX]
        obtain ⟨wA, hwA⟩ : ∃ y, X.setCell ⟨q, 3, none⟩ (.slice a5 (nf + 1) c5') = y := ⟨_, rfl⟩
        rw [hwA] at HRA HTA ⊢
        clear cX fX hwA hrX c3 hnq HX
        obtain ⟨a, cap, e1⟩ := own_form HRA.out.chs
        have c2 := HRA.out.cell 2 x.vc rfl
        have c5 := HRA.out.cell 5 (.int .i64 (nf : Int)) rfl
        have hnq : ¬ (x.vc.ownBlock = some q) := own_ne HRA.out.chs HRA.out.row (by decide)
        have hown := HRA.out.chs
        have hxl := chC_flat s1.chs
        have hnc := Hch.out
        obtain ⟨n, Hn⟩ : ∃ n, Hid (s1.chs.length = n) := ⟨_, rfl⟩
        obtain ⟨xs, Hxs⟩ : ∃ xs, Hid (s1.chs.flatMap chC = xs) := ⟨_, rfl⟩
        have Hvc : Hid (x.vc = .slice a n cap) := by show _ = _; rw [← Hn.out]; exact e1
        rw [Hvc.out] at c2 hnq
        replace hown : wA.ownsRow 0 165 4 (.slice a n cap) n xs := by rw [← Hvc.out, ← Hn.out, ← Hxs.out]; exact hown
        rw [Hn.out] at hxl hnc
        rw [Hxs.out] at hxl
        have HownC := Lib.hid hown
        have HnC := Lib.hid hnc
        have HL2 := Lib.hid (HL_of n 4 xs (chC ⟨0, nm, [], nf⟩) hxl rfl (by decide))
        obtain ⟨wAs, Hws2⟩ : ∃ y, Hid (wA.heap.size = y) := ⟨_, rfl⟩
        clear e1 hown hxl hnc
        go_wp2
        have cXb := fun X (hX : (EApp (fun k => Value.ownBlock (.slice a n cap) = some k) 165 4 [(n, xs), (1, chC ⟨0, nm, [], nf⟩), (n + 1, xs ++ chC ⟨0, nm, [], nf⟩)]) _ X) => And.intro (hX.but.cell (p := ⟨q, _, none⟩) hnq c2) (hX.but.cell (p := ⟨q, _, none⟩) hnq c5)
        refine region_K_last (E := (EApp (fun k => Value.ownBlock (.slice a n cap) = some k) 165 4 [(n, xs), (1, chC ⟨0, nm, [], nf⟩), (n + 1, xs ++ chC ⟨0, nm, [], nf⟩)])) (EApp.ok (fun k => Value.ownBlock (.slice a n cap) = some k) 165 4 [(n, xs), (1, chC ⟨0, nm, [], nf⟩), (n + 1, xs ++ chC ⟨0, nm, [], nf⟩)]) EApp.ofGrows 15
         #[[], [], [1], [1, 2], [1, 2, 3], [], [], [6], [6, 7], [6, 7, 8], [5, 6, 7, 8, 9], [5, 6, 7, 8, 9, 10], [1, 2, 3, 4, 5, 6, 7, 8, 9, 10, 11], [0, 1, 2, 3, 4, 5, 6, 7, 8, 9, 10, 11, 12], [0, 1, 2, 3, 4, 5, 6, 7, 8, 9, 10, 11, 12, 13], [0, 1, 2, 3, 4, 5, 6, 7, 8, 9, 10, 11, 12, 13, 14]] #[[0], [0], [], [], [], [1], [0], [], [], [], [], [], [], [], [], []] #[true, true, true, true, true, true, true, true, true, true, true, true, true, true, true, true]
         ((.val ?vb0) :: (.val ?vb1) :: (.val ?vb2) :: (.val ?vb3) :: (.val ?vb4) :: (.val ?vb5) :: (.val ?vb6) :: (.val ?vb7) :: (.val ?vb8) :: (.val ?vb9) :: (.val ?vb10) :: (.pred (fun v W => W.ownsRow 0 165 4 v 1 (chC ⟨0, nm, [], nf⟩) ∧ ∃ g, v = .slice (some ⟨g, 0, none⟩) 1 1) (fun v a b h ho => ⟨EApp.own (by simp) v a b h ho.1, ho.2⟩)) :: (.pred (fun v W => W.ownsRow 0 165 4 v (n + 1) (xs ++ chC ⟨0, nm, [], nf⟩) ∧ (v.ownBlock = Value.ownBlock (.slice a n cap) ∨ ∀ j, v.ownBlock = some j → wAs ≤ j)) (fun v a b h ho => ⟨EApp.own (by simp) v a b h ho.1, ho.2⟩)) :: (.val ?vb13) :: (.val ?vb14) :: (.any) :: []).toArray
         (noState [12])
         (fun _ _ _ _ _ _ _ _ => trivial)
         (fun _ _ => trivial)
         hmx ?chkb rfl ?grdb rfl ?stpb ?rstb
        case chkb => rfl
        case stpb =>
         refine ⟨?_, ?_, ?_, ?_, ?_, ?_, ?_, ?_, ?_, ?_, ?_, ?_, ?_, ?_, ?_, ?_, trivial⟩
         · refine stepOK 0 ?vb0 rfl (fun _ _ => rfl) rfl rfl (fun _ => rfl) (by decide) ?_; show (.pointer (some ⟨q, 0, none⟩) : Value) = _; rfl
         · refine stepOK 0 ?vb1 rfl (fun _ _ => rfl) rfl rfl (fun _ => rfl) (by decide) ?_; show (.pointer (some ⟨q, 0, none⟩) : Value) = _; rfl
         · refine stepRK (o := ⟨_, .nilCheck (.tmp 47), _, _, _, _⟩) ?vb2 rfl rfl rfl (fun _ => rfl) fun ρ X hc hf hgl hX hp ho => ?_; have k47 : ρ (.tmp 47) = ?vb1 := hp 1 (by decide); clear hp ho hX; go_simp; (all_goals rfl)
         · refine stepRK (o := ⟨_, .fieldAddr 76 (.tmp 48) 2, _, _, _, _⟩) ?vb3 rfl rfl rfl (fun _ => rfl) fun ρ X hc hf hgl hX hp ho => ?_; have k48 : ρ (.tmp 48) = ?vb2 := hp 2 (by decide); clear hp ho hX; go_simp; (all_goals rfl)
         · refine stepRK (o := ⟨_, .load 72 (.tmp 49), _, _, _, _⟩) ?vb4 rfl rfl rfl (fun _ => rfl) fun ρ X hc hf hgl hX hp ho => ?_; have k49 : ρ (.tmp 49) = ?vb3 := hp 3 (by decide); have cX := cXb X hX; clear hp ho hX; go_simp; (all_goals rfl)
         · refine stepOK 1 ?vb5 rfl (fun _ _ => rfl) rfl rfl (fun _ => rfl) (by decide) ?_; show (.string ⟨nm.toArray⟩ : Value) = _; rfl
         · refine stepOK 0 ?vb6 rfl (fun _ _ => rfl) rfl rfl (fun _ => rfl) (by decide) ?_; show (.pointer (some ⟨q, 0, none⟩) : Value) = _; rfl
         · refine stepRK (o := ⟨_, .nilCheck (.tmp 52), _, _, _, _⟩) ?vb7 rfl rfl rfl (fun _ => rfl) fun ρ X hc hf hgl hX hp ho => ?_; have k52 : ρ (.tmp 52) = ?vb6 := hp 6 (by decide); clear hp ho hX; go_simp; (all_goals rfl)
         · refine stepRK (o := ⟨_, .fieldAddr 76 (.tmp 53) 5, _, _, _, _⟩) ?vb8 rfl rfl rfl (fun _ => rfl) fun ρ X hc hf hgl hX hp ho => ?_; have k53 : ρ (.tmp 53) = ?vb7 := hp 7 (by decide); clear hp ho hX; go_simp; (all_goals rfl)
         · refine stepRK (o := ⟨_, .load 3 (.tmp 54), _, _, _, _⟩) ?vb9 rfl rfl rfl (fun _ => rfl) fun ρ X hc hf hgl hX hp ho => ?_; have k54 : ρ (.tmp 54) = ?vb8 := hp 8 (by decide); have cX := cXb X hX; clear hp ho hX; go_simp; (all_goals rfl)
         · refine stepRK (o := ⟨_, .build 165 #[(1, .tmp 51), (3, .tmp 55)], _, _, _, _⟩) ?vb10 rfl rfl rfl (fun _ => rfl) fun ρ X hc hf hgl hX hp ho => ?_; have k51 : ρ (.tmp 51) = ?vb5 := hp 5 (by decide); have k55 : ρ (.tmp 55) = ?vb9 := hp 9 (by decide); clear hp ho hX; go_simp; (all_goals try go_bits); (all_goals try simp only [IntWalk.iteOmega]); (all_goals try go_bits); (all_goals rfl)
         · refine step_introK rfl rfl fun ρ X hc hf hgl hX hp ho hu => ?_
           change StepOk _ ⟨_, .buildSlice 72 1 #[(0, .tmp 56)], _, _, _, _⟩ _ _ _
           have k56 : ρ (.tmp 56) = ?vb10 := hp 10 (by decide)
           refine stepK_plain (i := 11) rfl ?_
           clear hu
           clear hp ho
           refine StepOk.of_run (v := .slice (some ⟨X.heap.size, 0, none⟩) 1 1) (w' := X.alloc (.cells (chC ⟨0, nm, [], nf⟩).toArray 165)) ?_ ⟨⟨⟨rfl, .inr ⟨X.heap.size, 1, _, rfl, Nat.zero_le _, heap_alloc_new X _, Nat.le_refl _, by simp [maxLen], rfl, rfl⟩⟩, _, rfl⟩, Grows.alloc' _ _⟩
           simp [go_sem, execOp, hc, k56, chC]
         · refine step_introK rfl rfl fun ρ X hc hf hgl hX hp ho hu => ?_
           change StepOk _ ⟨_, .call { callee := .builtin .append, args := #[.tmp 50, .tmp 57], argTypes := #[72, 72] }, _, _, _, _⟩ _ _ _
           have k50 : ρ (.tmp 50) = ?vb4 := hp 4 (by decide)
           have k57 := hp 11 (by decide)
           clear hu
           clear hp ho
           refine stepK_made rfl ?_
           obtain ⟨ho18, g18, e18⟩ := k57
           rw [e18] at ho18
           have hoX := hX.spared (n, xs) (by simp) _ HownC.out
           obtain ⟨v', W', hr, ho', hgb', hat, hsp⟩ := run_append_x (P := Tryz.prog) X 72 72 165 i0 z0 4 48 Tryz.underlying72 hi hz hs2 hb2 hzs (by omega) _ n xs hoX ⟨g18, 0, none⟩ 1 1 (chC ⟨0, nm, [], nf⟩) rfl (ho18.cells (g := g18) rfl) (by intro u hu; simp [chC, sv, nv] at hu; rcases hu with rfl | rfl | rfl | rfl <;> rfl) (by have := HnC.out; unfold maxLen; omega) (by have := HnC.out; omega) [(n, xs), (1, chC ⟨0, nm, [], nf⟩), (n + 1, xs ++ chC ⟨0, nm, [], nf⟩)] HL2.out
           refine StepOk.of_run (v := v') (w' := W') ?_ ⟨⟨ho', ?_⟩, ⟨But.grown hgb' (fun j hj => hj), hsp⟩, fun s hs => by simp [noState] at hs⟩
           · simp only [execOp, resolve, invoke, builtin, Sem.run_bind, Sem.run_pure, Result.andThen_ok, List.map_toArray, List.map_cons, List.map_nil, k50, e18, hr]
           · rcases hat with h | h
             · exact .inl h
             · right; intro j hj; rw [h] at hj; have := Option.some.inj hj; have := hX.but.size; have := Hws2.out; omega
         · refine stepRK (o := ⟨_, .nilCheck (.tmp 46), _, _, _, _⟩) ?vb13 rfl rfl rfl (fun _ => rfl) fun ρ X hc hf hgl hX hp ho => ?_; have k46 : ρ (.tmp 46) = ?vb0 := hp 0 (by decide); clear hp ho hX; go_simp; (all_goals rfl)
         · refine stepRK (o := ⟨_, .fieldAddr 76 (.tmp 59) 2, _, _, _, _⟩) ?vb14 rfl rfl rfl (fun _ => rfl) fun ρ X hc hf hgl hX hp ho => ?_; have k59 : ρ (.tmp 59) = ?vb13 := hp 13 (by decide); clear hp ho hX; go_simp; (all_goals rfl)
         · exact last_intro rfl
        case grdb => rfl
        case rstb =>
         intro a0 X hb
         obtain ⟨x57, hx57⟩ : ∃ x, a0.tmps.getD 57 undef = x := ⟨_, rfl⟩
         have p57 := hb.done' 11 57 rfl rfl
         rw [hx57] at p57
         obtain ⟨x58, hx58⟩ : ∃ x, a0.tmps.getD 58 undef = x := ⟨_, rfl⟩
         have p58 := hb.done' 12 58 rfl rfl
         rw [hx58] at p58
         have hfr := hb.frame ((46, ?vb0) :: (47, ?vb1) :: (48, ?vb2) :: (49, ?vb3) :: (50, ?vb4) :: (51, ?vb5) :: (52, ?vb6) :: (53, ?vb7) :: (54, ?vb8) :: (55, ?vb9) :: (56, ?vb10) :: (57, x57) :: (58, x58) :: (59, ?vb13) :: (60, ?vb14) :: []) rfl ⟨hb.done' 0 46 rfl rfl, hb.done' 1 47 rfl rfl, hb.done' 2 48 rfl rfl, hb.done' 3 49 rfl rfl, hb.done' 4 50 rfl rfl, hb.done' 5 51 rfl rfl, hb.done' 6 52 rfl rfl, hb.done' 7 53 rfl rfl, hb.done' 8 54 rfl rfl, hb.done' 9 55 rfl rfl, hb.done' 10 56 rfl rfl, hx57, hx58, hb.done' 13 59 rfl rfl, hb.done' 14 60 rfl rfl, trivial⟩
         simp only [updL, ↓reduceIte, Nat.reduceEqDiff, Nat.reduceAdd, Nat.zero_add] at hfr
         have HX := Lib.hid hb.ext
         clear hb cXb
         subst hfr
         change StepOk _ { dst := _, op := Op.store 72 (Operand.tmp 60) (Operand.tmp 58), type := _, pos := _, after := _, guard := _ } _ _ _
         have hrX := HX.out.but.blockEq hnq HRA.out.row
         have cX := HX.out.but.cell (p := ⟨q, 2, none⟩) hnq c2
         have fX : X.frozen? ⟨q, 2, none⟩ = false := frozen_of_row X q 2 _ _ hrX
         obtain ⟨po, pa⟩ := (show X.ownsRow 0 165 4 x58 (n + 1) (xs ++ chC ⟨0, nm, [], nf⟩) ∧ (x58.ownBlock = Value.ownBlock (.slice a n cap) ∨ ∀ j, x58.ownBlock = some j → wAs ≤ j) from p58)
         obtain ⟨a6, c6, rfl⟩ := own_form po
         have hadd := HRA.out.addChg ⟨0, nm, [], nf⟩ (.slice a6 (n + 1) c6) (by rw [Hvc.out]; exact HX.out.but) (by rw [Hn.out, List.flatMap_append, Hxs.out]; simpa using po) (by rw [Hvc.out, Hws2.out]; exact pa) (fun _ => by show nf < (s1.fls ++ [[]]).length; rw [List.length_append, Hnf.out]; exact Nat.lt_succ_self nf) Hch.out
         have hnx := hadd.1.setNext
         have c5b := hadd.1.cell 5 (.int .i64 (nf : Int)) rfl
         have f5b := hadd.1.frozen 5
         have HA := Lib.hid hadd
         have Hnx := Lib.hid hnx
         clear hadd hnx po pa p58
         unfold StepOk
         simp [go_sem, execOp, cX, fX]
         obtain ⟨wB, hwB⟩ : ∃ y, X.setCell ⟨q, 2, none⟩ (.slice a6 (n + 1) c6) = y := ⟨_, rfl⟩
         rw [hwB] at c5b f5b HA Hnx ⊢
         clear cX fX hwB hrX c2
         have Hfn : Hid ((((s1.fls ++ [[]]).length : Nat) : Int) = (nf : Int) + 1) := by show _ = _; rw [List.length_append, Hnf.out]; rfl
         have hnfb : (nf : Int) < 1000000 := by omega
         go_wp2
         go_ret
         refine ⟨by rw [Hr.out]; rfl, { x with vf := .slice a5 (nf + 1) c5', ss := x.ss ++ [.slice none 0 0], sp := x.sp ++ [[]], vc := .slice a6 (n + 1) c6 }, ?_, (HT4.out.trans HTA.out).trans (HA.out.2.trans ?_)⟩
         · rw [Hr.out, Hnf.out]; have := Hnx.out.1; rw [show (({ s1 with fls := s1.fls ++ [[]], chs := s1.chs ++ [⟨0, nm, [], nf⟩] } : Ds).fls.length : Int) = (nf : Int) + 1 from Hfn.out] at this; exact this
         · have := Hnx.out.2; rw [show (({ s1 with fls := s1.fls ++ [[]], chs := s1.chs ++ [⟨0, nm, [], nf⟩] } : Ds).fls.length : Int) = (nf : Int) + 1 from Hfn.out] at this; exact this
 · have Hr : Hid (createF s nm = (fc, s1)) := by show _ = _; unfold createF; rw [guardF_no (by rw [hfc]; exact hf), ← hfc, ← hs1]
   rw [hfc, hs1] at HF
   clear h hfc hs1 hsm
   go_enter Tryz.func40, Tryz.ntmps40
   go_wp2_with fail
   refine HF.out.mono ?_
   rintro e w1 ⟨rfl, hR, hB⟩
   have HR := Lib.hid hR
   have HB := Lib.hid hB
   clear hR hB
   go_wp2
   go_ret
   exact ⟨by rw [Hr.out]; rfl, x, by rw [Hr.out]; exact HR.out, Turn.ofBut HB.out⟩
end Go.Proofs.YtoppcpiheaedlaaGreatDoor
end
section
/-
  An append of a record that holds a fresh row, in a drawn region: what it spares, what is owned behind it.
-/
namespace Go.Proofs.YtoppcpiheaedlaaGreatDoor
open Go.RowKit
set_option linter.unusedVariables false
set_option linter.unusedSimpArgs false
theorem run_append_y {P : Program} (w : World) (t ty e : TypeId) (i : TypeInfo) (z : Value) (size bytes : Nat) (ht : P.underlying t = some (.slice e)) (hi : P.info? e = some i) (hz : i.zero = some z)
 (hsize : i.size = size) (hby : i.bytes = bytes) (hzs : z.cells.size = size) (hsz : 0 < size)
 (v : Value) (n : Nat) (xs : List Value) (hown : w.ownsRow 0 e size v n xs)
 (a : Addr) (m c : Nat) (news : List Value) (hl : news.length = m * size) (hnews : ∀ j u, news[j]? = some u → w.cell? (a.add j) = some u) (h1 : ∀ u ∈ news, u.oneCell' = true)
 (h63 : n + m ≤ maxLen) (hbytes : (n + m) * bytes ≤ 140737488355328) (hm0 : 0 < m) :
 ∃ v' w', (Builtin.append_ #[t, t] ty #[v, .slice (some a) m c]).run P w = .ok v' w' ∧ w'.ownsRow 0 e size v' (n + m) (xs ++ news) ∧ w.grownBy w' v.ownBlock ∧
  (v'.ownBlock = v.ownBlock ∨ v'.ownBlock = some w.heap.size) ∧ (Grows w w' ∨ ∃ g cap cur cur', v = .slice (some ⟨g, 0, none⟩) n cap ∧ w.heap[g]? = some (.cells cur e) ∧ w'.heap[g]? = some (.cells cur' e) ∧ cur'.size = cur.size ∧ cur'.toList.take (n * size) = xs ∧ cur'.toList.take ((n + m) * size) = xs ++ news) := by
 subst hsize
 subst hby
 have hsmall : n + m ≤ 9223372036854775807 := by simp only [maxLen] at h63; omega
 have hlen : (xs ++ news).length = (n + m) * i.size := by rw [List.length_append, hown.1, hl, Nat.add_mul]
 have grown : ∀ (old : Nat), old < n + m → ∀ (row : Option Nat),
  (w.drew.alloc (.cells (xs.toArray ++ news.toArray ++ Builtin.zeroCells z.cells (grownCap w (n + m) old e - (n + m))) e)).ownsRow 0 e i.size
   (.slice (some ⟨w.heap.size, 0, none⟩) (n + m) (grownCap w (n + m) old e)) (n + m) (xs ++ news) ∧
  w.grownBy (w.drew.alloc (.cells (xs.toArray ++ news.toArray ++ Builtin.zeroCells z.cells (grownCap w (n + m) old e - (n + m))) e)) row ∧
  Grows w (w.drew.alloc (.cells (xs.toArray ++ news.toArray ++ Builtin.zeroCells z.cells (grownCap w (n + m) old e - (n + m))) e)) := by
  intro old ho row
  have hge := grownCap_ge w (n + m) old e
  have hcm : grownCap w (n + m) old e ≤ maxLen := grownCap_le_maxLen w (n + m) old e h63
  refine ⟨⟨hlen, .inr ⟨w.heap.size, _, _, rfl, Nat.zero_le _, heap_alloc_new w.drew _, hge, hcm, ?_, ?_⟩⟩, ⟨rfl, rfl, rfl, by simp, fun k hk _ => heap_alloc_old w.drew _ hk⟩, ?_⟩
  · simp only [Array.size_append, List.size_toArray, size_zeroCells, hzs, hown.1, hl, ← Nat.add_mul]
    congr 1
    omega
  · simp only [Array.toList_append, List.append_assoc]
    rw [← List.append_assoc, ← hlen]
    exact List.take_left
  · exact (Below.refl _ _).drew.alloc (Nat.le_refl _) _
 rcases hown.2 with ⟨rfl, rfl⟩ | ⟨g, cap, cur, rfl, hbg, hg, hnc, hcm, hcs, htake⟩
 · have hx : xs = [] := List.eq_nil_of_length_eq_zero (by simpa using hown.1)
   subst hx
   · have hm : ¬ m = 0 := by omega
     have hr := run_append_nil (P := P) w t ty e i z ht hi hz a m c news hl hnews (by omega) (by omega) (by have hb := hbytes; simp only [Nat.zero_add] at hb; omega)
     have hgr := grown 0 (by omega) (Value.ownBlock (.slice none 0 0))
     simp only [Nat.zero_add, List.nil_append, Array.empty_append] at hgr ⊢
     exact ⟨_, _, hr, hgr.1, hgr.2.1, .inr rfl, .inl hgr.2.2⟩
 · by_cases hroom : n + m ≤ cap
   · have hfit : n * i.size + news.length ≤ cur.size := by rw [hl, hcs, ← Nat.add_mul]; exact Nat.mul_le_mul_right _ hroom
     have hr := run_append_room (P := P) w t ty e i ht hi g n cap cur hg a m c news hl hnews h1 hroom hfit
     have hsame : (cur.toList.take (n * i.size) ++ news ++ cur.toList.drop (n * i.size + news.length)).toArray.size = cap * i.size := by
      simp only [List.size_toArray, List.length_append, List.length_take, List.length_drop, Array.length_toList]
      omega
     have hfull : ((cur.toList.take (n * i.size) ++ news ++ cur.toList.drop (n * i.size + news.length)).toArray.toList.take ((n + m) * i.size)) = xs ++ news := by
      rw [htake, ← hlen]
      exact List.take_left
     refine ⟨_, _, hr, ⟨hlen, .inr ⟨g, cap, _, rfl, hbg, setRow_heap w g cur _ e _ hg, hroom, hcm, hsame, hfull⟩⟩, ⟨rfl, rfl, rfl, by simp, fun k _ hk => setRow_other w g k _ (fun e => hk (by simp [Value.ownBlock, e]))⟩, .inl rfl, .inr ⟨g, cap, cur, _, rfl, hg, setRow_heap w g cur _ e _ hg, by rw [hsame, hcs], ?_, hfull⟩⟩
     have h2 := congrArg (List.take (n * i.size)) hfull
     rw [List.take_take, Nat.min_eq_left (Nat.mul_le_mul_right _ (by omega)), ← hown.1, List.take_left] at h2
     rw [← hown.1]
     exact h2
   · have holds : ∀ j u, xs[j]? = some u → w.cell? ((⟨g, 0, none⟩ : Addr).add j) = some u := hown.cells (g := g) rfl
     have hr := run_append_grow (P := P) w t ty e i z ht hi hz ⟨g, 0, none⟩ n cap xs hown.1 holds a m c news hl hnews (by omega) (by omega) (growslice_fits (by omega) hbytes)
     have hgr := grown cap (by omega) (Value.ownBlock (.slice (some ⟨g, 0, none⟩) n cap))
     exact ⟨_, _, hr, hgr.1, hgr.2.1, .inr rfl, .inl hgr.2.2⟩
def OwnR (e k n : Nat) (xs : List Value) (rc : Value → List Value) (R : Value → World → Prop) (v : Value) (W : World) : Prop := ∃ u, W.ownsRow 0 e k v (n + 1) (xs ++ rc u) ∧ R u W
structure EAppR (O : Nat → Prop) (e k n : Nat) (xs : List Value) (rc : Value → List Value) (R : Value → World → Prop) (a b : World) : Prop where
 but : But O a b
 old : ∀ v, a.ownsRow 0 e k v n xs → b.ownsRow 0 e k v n xs
 new : ∀ v, OwnR e k n xs rc R v a → OwnR e k n xs rc R v b
section
variable {O : Nat → Prop} {e k n : Nat} {xs : List Value} {rc : Value → List Value} {R : Value → World → Prop}
theorem EAppR.ok (O : Nat → Prop) (e k n : Nat) (xs : List Value) (rc : Value → List Value) (R : Value → World → Prop) (hd : ∀ u w, R u w → R u w.drew) : ExtOk (EAppR O e k n xs rc R) where
 refl := fun w => ⟨But.refl' O w, fun _ h => h, fun _ h => h⟩
 trans := fun h1 h2 => ⟨h1.but.trans' h2.but, fun v h => h2.old v (h1.old v h), fun v h => h2.new v (h1.new v h)⟩
 drew := fun w => ⟨⟨rfl, rfl, rfl, Nat.le_refl _, fun _ _ _ => rfl⟩, fun _ h => h, fun v h => by obtain ⟨u, h1, h2⟩ := h; exact ⟨u, h1, hd u w h2⟩⟩
theorem EAppR.ofGrows (hR : ∀ u a b, Grows a b → R u a → R u b) {a b : World} (h : Grows a b) : EAppR O e k n xs rc R a b :=
 ⟨But.ofGrows h, fun _ ho => own_grows ho h, fun v ho => by obtain ⟨u, h1, h2⟩ := ho; exact ⟨u, own_grows h1 h, hR u a b h h2⟩⟩
theorem run_append_r {P : Program} (hR : ∀ u a b, But O a b → R u a → R u b) (w : World) (t ty : TypeId) (i : TypeInfo) (z : Value) (bytes : Nat) (ht : P.underlying t = some (.slice e)) (hi : P.info? e = some i) (hz : i.zero = some z)
 (hsize : i.size = k) (hby : i.bytes = bytes) (hzs : z.cells.size = k) (hsz : 0 < k)
 (v : Value) (hown : w.ownsRow 0 e k v n xs) (hO : ∀ j, v.ownBlock = some j → O j)
 (a : Addr) (c : Nat) (u0 : Value) (hl : (rc u0).length = k) (hnews : ∀ j u, (rc u0)[j]? = some u → w.cell? (a.add j) = some u) (h1 : ∀ u ∈ rc u0, u.oneCell' = true) (hu0 : R u0 w)
 (h63 : n + 1 ≤ maxLen) (hbytes : (n + 1) * bytes ≤ 140737488355328) :
 ∃ v' w', (Builtin.append_ #[t, t] ty #[v, .slice (some a) 1 c]).run P w = .ok v' w' ∧ OwnR e k n xs rc R v' w' ∧ (v'.ownBlock = v.ownBlock ∨ v'.ownBlock = some w.heap.size) ∧ EAppR O e k n xs rc R w w' := by
 obtain ⟨v', w', hr, ho, hg, hat, hcase⟩ := run_append_y (P := P) w t ty e i z k bytes ht hi hz hsize hby hzs hsz v n xs hown a 1 c (rc u0) (by rw [hl, Nat.one_mul]) hnews h1 h63 hbytes (by decide)
 have hb : But O w w' := But.grown hg hO
 refine ⟨v', w', hr, ⟨u0, ho, hR u0 w w' hb hu0⟩, hat, hb, ?_, ?_⟩
 · intro y hy
   rcases hcase with hG | ⟨g, cap, cur, cur', rfl, h0, h2, h3, h4, h5⟩
   · exact own_grows hy hG
   · by_cases hyb : y.ownBlock = some g
     · rcases hy.2 with ⟨rfl, _⟩ | ⟨g', cap', cur2, rfl, hb', hg', hn', hc', hs', ht'⟩
       · simp [Value.ownBlock] at hyb
       · simp [Value.ownBlock] at hyb
         subst hyb
         rw [h0] at hg'
         simp only [Option.some.injEq, Obj.cells.injEq] at hg'
         obtain ⟨rfl, -⟩ := hg'
         exact ⟨hy.1, .inr ⟨g', cap', cur', rfl, hb', h2, hn', hc', by rw [h3, hs'], h4⟩⟩
     · exact own_but hy (But.grown (O := fun j => j = g) hg (fun j hj => by simp [Value.ownBlock] at hj; exact hj.symm)) (fun j hj e' => hyb (by rw [hj, e']))
 · intro y hy
   obtain ⟨u, hy, hu⟩ := hy
   rcases hcase with hG | ⟨g, cap, cur, cur', rfl, h0, h2, h3, h4, h5⟩
   · exact ⟨u, own_grows hy hG, hR u w w' hb hu⟩
   · by_cases hyb : y.ownBlock = some g
     · rcases hy.2 with ⟨rfl, h⟩ | ⟨g', cap', cur2, rfl, hb', hg', hn', hc', hs', ht'⟩
       · simp [Value.ownBlock] at hyb
       · simp [Value.ownBlock] at hyb
         subst hyb
         rw [h0] at hg'
         simp only [Option.some.injEq, Obj.cells.injEq] at hg'
         obtain ⟨rfl, -⟩ := hg'
         exact ⟨u0, ⟨ho.1, .inr ⟨g', cap', cur', rfl, hb', h2, hn', hc', by rw [h3, hs'], h5⟩⟩, hR u0 w w' hb hu0⟩
     · exact ⟨u, own_but hy (But.grown (O := fun j => j = g) hg (fun j hj => by simp [Value.ownBlock] at hj; exact hj.symm)) (fun j hj e' => hyb (by rw [hj, e'])), hR u w w' hb hu⟩
end
end Go.Proofs.YtoppcpiheaedlaaGreatDoor
end
