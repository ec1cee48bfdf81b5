/-
  The contract of Delete.
-/
import Derived.Test.YtpodbhimkbadhaaSlI
namespace Go.Proofs.Ytpodbhimkbadhaa
open Go.RowKit
set_option linter.unusedVariables false
set_option linter.unusedSimpArgs false

set_option maxRecDepth 100000 in
set_option maxHeartbeats 1000000 in
theorem hDelYes {w : World} {g : Nat} {f : Raw} {A : Bo} (h : Has w g f A) (i : Nat) (hi : i < A.l.length) : Calls Try.prog 15 #[pb g, .int .i64 (i : Int)] w fun e w' => e = .returned (.int .i64 0) ∧ (∃ f', Has w' g f' (delA A i)) ∧ But (At g) w w' := by
  have hmx : Try.prog.follows .mixedOrders = true := by kernel_rfl
  obtain ⟨n, Hn⟩ : ∃ n, Hid (A.l.length = n) := ⟨_, rfl⟩
  obtain ⟨t, Ht⟩ : ∃ t, Hid (A.top = t) := ⟨_, rfl⟩
  obtain ⟨p, Hp⟩ : ∃ p, Hid ((cl A.l i).pl = p) := ⟨_, rfl⟩
  obtain ⟨s, Hs⟩ : ∃ s, Hid ((cl A.l i).p.length = s) := ⟨_, rfl⟩
  have Hh := Lib.hid h
  have HH := Lib.hid (hHasYes h i hi)
  have HEn := Lib.hid (hEntry h i hi)
  have HTp := Lib.hid (fun (w : World) (h : Has w g f A) => hTop h)
  have HE := Lib.hid (fun w => vEntryAt w i (by have := h.wf.ntop; omega))
  have HDa := Lib.hid (enc_del h.enc h.wf i hi)
  have HWd := Lib.hid (wf_del h.wf i hi)
  have hen := h.wf.end_ i hi
  have hln := h.wf.len i hi
  have hdir := h.wf.dir
  have hnt := h.wf.ntop
  obtain ⟨e, He⟩ : ∃ e, Hid (2 + 2 * i = e) := ⟨_, rfl⟩
  obtain ⟨d, Hd⟩ : ∃ d, Hid (2 + 2 * n = d) := ⟨_, rfl⟩
  have htop : (delA A i).top = if p = t then t + s else t := by show (if (cl A.l i).pl = A.top then A.top + (cl A.l i).p.length else A.top) = _; rw [Hp.out, Ht.out, Hs.out]
  rw [Hn.out] at hi hdir hnt HDa
  rw [Ht.out] at HTp hdir
  rw [Hp.out, Hs.out] at HEn hen
  rw [Hs.out] at hln
  rw [He.out] at HE
  have hed : e + 2 ≤ d := by have := He.out; have := Hd.out; omega
  have hd : d ≤ 243 := by have := Hd.out; omega
  have he2 : 2 ≤ e := by have := He.out; omega
  have hp243 : p ≤ 243 := by omega
  have ht243 : t ≤ 243 := by rw [← Ht.out]; exact h.wf.ntop.2.1
  have hs78 : s ≤ 78 := hln
  have hn1 : n < 256 := by omega
  have hn0 : 1 ≤ n := by omega
  have hlow : p = t → t + s ≤ 243 := fun hh => by omega
  clear h hen hln hdir hnt hi
  unfold pb at *
  by_cases hpt : p = t
  · subst hpt
    rw [if_pos rfl] at htop
    have hts : p + s ≤ 243 := hlow rfl
    rw [htop] at HDa
    clear hlow htop
    go_enter Try.func15, Try.ntmps15
    go_wp2_with (first
      | (go_at_call 33; refine HH.out.mono ?_; rintro e w1 ⟨rfl, rfl⟩)
      | (go_at_call 34; refine HEn.out.mono ?_; rintro e w1 ⟨rfl, hg⟩; have Hh1 := Lib.hid (Hh.out.grows hg); have Hg1 := Lib.hid hg; clear hg)
      | (go_at_call 30; refine (HTp.out _ Hh1.out).mono ?_; rintro e w1 ⟨rfl, rfl⟩))
    have ct := Hh1.out.at_.cell 1 (by omega)
    rw [Hh1.out.enc.top, Ht.out] at ct
    refine specs_last 11
      #[[], [0], [0, 1], [0, 1, 2], [0, 1, 2, 3], [], [5], [0, 1, 2, 3, 4, 5, 6], [0], [0, 8], [0, 1, 2, 3, 4, 5, 6, 7, 8, 9], [0, 1, 2, 3, 4, 5, 6, 7, 8, 9, 10]] #[[0], [], [], [], [], [6], [], [], [], [], [], []] #[true, true, true, true, true, true, true, true, true, true, true, true]
      ((.val ?vr0) :: (.val ?vr1) :: (.val ?vr2) :: (.val ?vr3) :: (.val ?vr4) :: (.val ?vr5) :: (.val ?vr6) :: (.val ?vr7) :: (.val ?vr8) :: (.val ?vr9) :: (.val ?vr10) :: (.any) :: []).toArray
      hmx ?chkr ?grdr rfl ?stpr ?rstr
    case chkr => rfl
    case stpr =>
      refine ⟨?_, ?_, ?_, ?_, ?_, ?_, ?_, ?_, ?_, ?_, ?_, ?_, trivial⟩
      · refine step_intro rfl rfl fun ρ X hc hf hgl hX hp ho => ?_
        change StepOk _ { dst := _, op := Op.move (Operand.tmp 0), type := _, pos := _, after := _, guard := _ } _ _ _
        have k0 : ρ (.tmp 0) = .pointer (some ⟨g, 0, none⟩) := ho 0 (by decide)
        clear hp ho
        refine StepOk.of_run (v := ?vr0) (w' := X) ?_ ⟨rfl, Below.refl _ _⟩
        clear hX
        go_simp
        all_goals try go_bits
        all_goals try simp only [IntWalk.iteOmega]
        all_goals try go_bits
        all_goals rfl
      · refine step_intro rfl rfl fun ρ X hc hf hgl hX hp ho => ?_
        change StepOk _ { dst := _, op := Op.nilCheck (Operand.tmp 23), type := _, pos := _, after := _, guard := _ } _ _ _
        have k23 : ρ (.tmp 23) = ?vr0 := hp 0 (by decide)
        clear hp ho
        refine StepOk.of_run (v := ?vr1) (w' := X) ?_ ⟨rfl, Below.refl _ _⟩
        clear hX
        go_simp
        all_goals try go_bits
        all_goals try simp only [IntWalk.iteOmega]
        all_goals try go_bits
        all_goals rfl
      · refine step_intro rfl rfl fun ρ X hc hf hgl hX hp ho => ?_
        change StepOk _ { dst := _, op := Op.fieldAddr 47 (Operand.tmp 24) 0, type := _, pos := _, after := _, guard := _ } _ _ _
        have k24 : ρ (.tmp 24) = ?vr1 := hp 1 (by decide)
        clear hp ho
        refine StepOk.of_run (v := ?vr2) (w' := X) ?_ ⟨rfl, Below.refl _ _⟩
        clear hX
        go_simp
        all_goals try go_bits
        all_goals try simp only [IntWalk.iteOmega]
        all_goals try go_bits
        all_goals rfl
      · refine step_intro rfl rfl fun ρ X hc hf hgl hX hp ho => ?_
        change StepOk _ { dst := _, op := Op.indexAddr 45 (Operand.tmp 25) (Operand.const (Value.int IntKind.i64 1)), type := _, pos := _, after := _, guard := _ } _ _ _
        have k25 : ρ (.tmp 25) = ?vr2 := hp 2 (by decide)
        clear hp ho
        refine StepOk.of_run (v := ?vr3) (w' := X) ?_ ⟨rfl, Below.refl _ _⟩
        clear hX
        go_simp
        all_goals try go_bits
        all_goals try simp only [IntWalk.iteOmega]
        all_goals try go_bits
        all_goals rfl
      · refine step_intro rfl rfl fun ρ X hc hf hgl hX hp ho => ?_
        change StepOk _ { dst := _, op := Op.load 5 (Operand.tmp 26), type := _, pos := _, after := _, guard := _ } _ _ _
        have k26 : ρ (.tmp 26) = ?vr3 := hp 3 (by decide)
        have ctX := Grows.cell' hX ct
        clear hp ho
        refine StepOk.of_run (v := ?vr4) (w' := X) ?_ ⟨rfl, Below.refl _ _⟩
        clear hX
        go_simp
        all_goals try go_bits
        all_goals try simp only [IntWalk.iteOmega]
        all_goals try go_bits
        all_goals rfl
      · refine step_intro rfl rfl fun ρ X hc hf hgl hX hp ho => ?_
        change StepOk _ { dst := _, op := Op.move (Operand.tmp 6), type := _, pos := _, after := _, guard := _ } _ _ _
        have k6 : ρ (.tmp 6) = .int .i64 (s : Int) := ho 6 (by decide)
        clear hp ho
        refine StepOk.of_run (v := ?vr5) (w' := X) ?_ ⟨rfl, Below.refl _ _⟩
        clear hX
        go_simp
        all_goals try go_bits
        all_goals try simp only [IntWalk.iteOmega]
        all_goals try go_bits
        all_goals rfl
      · refine step_intro rfl rfl fun ρ X hc hf hgl hX hp ho => ?_
        change StepOk _ { dst := _, op := Op.convert 3 5 (Operand.tmp 28), type := _, pos := _, after := _, guard := _ } _ _ _
        have k28 : ρ (.tmp 28) = ?vr5 := hp 5 (by decide)
        clear hp ho
        refine StepOk.of_run (v := ?vr6) (w' := X) ?_ ⟨rfl, Below.refl _ _⟩
        clear hX
        go_simp
        all_goals try go_bits
        all_goals try simp only [IntWalk.iteOmega]
        all_goals try go_bits
        all_goals rfl
      · refine step_intro rfl rfl fun ρ X hc hf hgl hX hp ho => ?_
        change StepOk _ { dst := _, op := Op.binOp BinOp.add 5 (Operand.tmp 27) (Operand.tmp 29) 5, type := _, pos := _, after := _, guard := _ } _ _ _
        have k27 : ρ (.tmp 27) = ?vr4 := hp 4 (by decide)
        have k29 : ρ (.tmp 29) = ?vr6 := hp 6 (by decide)
        clear hp ho
        refine StepOk.of_run (v := ?vr7) (w' := X) ?_ ⟨rfl, Below.refl _ _⟩
        clear hX
        go_simp
        all_goals try go_bits
        all_goals try simp only [IntWalk.iteOmega]
        all_goals try go_bits
        all_goals rfl
      · refine step_intro rfl rfl fun ρ X hc hf hgl hX hp ho => ?_
        change StepOk _ { dst := _, op := Op.nilCheck (Operand.tmp 23), type := _, pos := _, after := _, guard := _ } _ _ _
        have k23 : ρ (.tmp 23) = ?vr0 := hp 0 (by decide)
        clear hp ho
        refine StepOk.of_run (v := ?vr8) (w' := X) ?_ ⟨rfl, Below.refl _ _⟩
        clear hX
        go_simp
        all_goals try go_bits
        all_goals try simp only [IntWalk.iteOmega]
        all_goals try go_bits
        all_goals rfl
      · refine step_intro rfl rfl fun ρ X hc hf hgl hX hp ho => ?_
        change StepOk _ { dst := _, op := Op.fieldAddr 47 (Operand.tmp 31) 0, type := _, pos := _, after := _, guard := _ } _ _ _
        have k31 : ρ (.tmp 31) = ?vr8 := hp 8 (by decide)
        clear hp ho
        refine StepOk.of_run (v := ?vr9) (w' := X) ?_ ⟨rfl, Below.refl _ _⟩
        clear hX
        go_simp
        all_goals try go_bits
        all_goals try simp only [IntWalk.iteOmega]
        all_goals try go_bits
        all_goals rfl
      · refine step_intro rfl rfl fun ρ X hc hf hgl hX hp ho => ?_
        change StepOk _ { dst := _, op := Op.indexAddr 45 (Operand.tmp 32) (Operand.const (Value.int IntKind.i64 1)), type := _, pos := _, after := _, guard := _ } _ _ _
        have k32 : ρ (.tmp 32) = ?vr9 := hp 9 (by decide)
        clear hp ho
        refine StepOk.of_run (v := ?vr10) (w' := X) ?_ ⟨rfl, Below.refl _ _⟩
        clear hX
        go_simp
        all_goals try go_bits
        all_goals try simp only [IntWalk.iteOmega]
        all_goals try go_bits
        all_goals rfl
      · exact last_intro rfl
    case grdr => rfl
    case rstr =>
      intro a0 X hb
      have hfr := hb.frame ((23, ?vr0) :: (24, ?vr1) :: (25, ?vr2) :: (26, ?vr3) :: (27, ?vr4) :: (28, ?vr5) :: (29, ?vr6) :: (30, ?vr7) :: (31, ?vr8) :: (32, ?vr9) :: (33, ?vr10) :: []) rfl ⟨hb.done' 0 23 rfl rfl, hb.done' 1 24 rfl rfl, hb.done' 2 25 rfl rfl, hb.done' 3 26 rfl rfl, hb.done' 4 27 rfl rfl, hb.done' 5 28 rfl rfl, hb.done' 6 29 rfl rfl, hb.done' 7 30 rfl rfl, hb.done' 8 31 rfl rfl, hb.done' 9 32 rfl rfl, hb.done' 10 33 rfl rfl, trivial⟩
      simp only [updL, ↓reduceIte, Nat.reduceEqDiff, Nat.reduceAdd, Nat.zero_add] at hfr
      have HX := Lib.hid hb.ext
      clear hb
      subst hfr
      change StepOk _ { dst := _, op := Op.store 5 (Operand.tmp 33) (Operand.tmp 30), type := _, pos := _, after := _, guard := _ } _ _ _
      have h0X := Hh1.out.at_.grows HX.out
      have fX := h0X.frozen 1
      have cX := h0X.cell 1 (by omega)
      unfold StepOk
      simp [go_sem, execOp, cX, fX]
      have HR1 := Lib.hid (h0X.set 1 (by omega) (UInt8.ofNat (p + s)) ((p : Int) + (s : Int)) (by rw [ofNat_toNat _ (by omega)]; omega))
      have HU1 := Lib.hid (But.setCell ((But.ofGrows (O := At g) Hg1.out).trans' (But.ofGrows HX.out)) ⟨g, 1, none⟩ (.int .u8 ((p : Int) + (s : Int))) rfl)
      clear cX fX h0X ct HX
      obtain ⟨w1b, hw3⟩ : ∃ w3, X.setCell ⟨g, 1, none⟩ (.int .u8 ((p : Int) + (s : Int))) = w3 := ⟨_, rfl⟩
      rw [hw3] at HR1 HU1 ⊢
      clear hw3 X
      have HDE := Lib.hid (vDirEnd w1b g _ HR1.out n (by unfold upd; rw [if_neg (by omega), Hh.out.enc.n, Hn.out]))
      rw [Hd.out] at HDE
      unfold pb at HDE
      go_wp2_with (first | (go_at_call 31; refine (HE.out _).mono ?_; rintro e w1 ⟨rfl, rfl⟩) | (go_at_call 29; refine HDE.out.mono ?_; rintro e w1 ⟨rfl, rfl⟩))
      have hsp1 : IntKind.i64.wrap ((e : Int) + 2) = (e : Int) + 2 := IntWalk.i64_in _ (by omega)
      have hsp2 : (0 : Int) ≤ (e : Int) + 2 := by omega
      have hsp3 : ((e : Int) + 2).toNat = e + 2 := by omega
      refine specs_last 13
        #[[], [0], [0, 1], [], [], [0, 1, 2, 3, 4], [], [6], [6, 7], [], [9], [], [6, 7, 8, 9, 10, 11], [0, 1, 2, 3, 4, 5, 6, 7, 8, 9, 10, 11, 12]] #[[0], [], [], [7], [8], [], [0], [], [], [7], [], [8], [], []] #[true, true, true, true, true, true, true, true, true, true, true, true, true, true]
        ((.val ?vpa0) :: (.val ?vpa1) :: (.val ?vpa2) :: (.val ?vpa3) :: (.val ?vpa4) :: (.val (slv g (e) (d))) :: (.val ?vpa6) :: (.val ?vpa7) :: (.val ?vpa8) :: (.val ?vpa9) :: (.val ?vpa10) :: (.val ?vpa11) :: (.val (slv g (e + 2) (d))) :: (.any) :: []).toArray
        hmx ?chkpa ?grdpa rfl ?stppa ?rstpa
      case chkpa => rfl
      case stppa =>
        refine ⟨?_, ?_, ?_, ?_, ?_, ?_, ?_, ?_, ?_, ?_, ?_, ?_, ?_, ?_, trivial⟩
        · refine step_intro rfl rfl fun ρ X hc hf hgl hX hp ho => ?_
          change StepOk _ { dst := _, op := Op.move (Operand.tmp 0), type := _, pos := _, after := _, guard := _ } _ _ _
          have k0 : ρ (.tmp 0) = .pointer (some ⟨g, 0, none⟩) := ho 0 (by decide)
          clear hp ho
          refine StepOk.of_run (v := ?vpa0) (w' := X) ?_ ⟨rfl, Below.refl _ _⟩
          clear hX
          go_simp
          all_goals try go_bits
          all_goals try simp only [IntWalk.iteOmega]
          all_goals try go_bits
          all_goals rfl
        · refine step_intro rfl rfl fun ρ X hc hf hgl hX hp ho => ?_
          change StepOk _ { dst := _, op := Op.nilCheck (Operand.tmp 38), type := _, pos := _, after := _, guard := _ } _ _ _
          have k38 : ρ (.tmp 38) = ?vpa0 := hp 0 (by decide)
          clear hp ho
          refine StepOk.of_run (v := ?vpa1) (w' := X) ?_ ⟨rfl, Below.refl _ _⟩
          clear hX
          go_simp
          all_goals try go_bits
          all_goals try simp only [IntWalk.iteOmega]
          all_goals try go_bits
          all_goals rfl
        · refine step_intro rfl rfl fun ρ X hc hf hgl hX hp ho => ?_
          change StepOk _ { dst := _, op := Op.fieldAddr 47 (Operand.tmp 39) 0, type := _, pos := _, after := _, guard := _ } _ _ _
          have k39 : ρ (.tmp 39) = ?vpa1 := hp 1 (by decide)
          clear hp ho
          refine StepOk.of_run (v := ?vpa2) (w' := X) ?_ ⟨rfl, Below.refl _ _⟩
          clear hX
          go_simp
          all_goals try go_bits
          all_goals try simp only [IntWalk.iteOmega]
          all_goals try go_bits
          all_goals rfl
        · refine step_intro rfl rfl fun ρ X hc hf hgl hX hp ho => ?_
          change StepOk _ { dst := _, op := Op.move (Operand.tmp 7), type := _, pos := _, after := _, guard := _ } _ _ _
          have k7 : ρ (.tmp 7) = .int .i64 (e : Int) := ho 7 (by decide)
          clear hp ho
          refine StepOk.of_run (v := ?vpa3) (w' := X) ?_ ⟨rfl, Below.refl _ _⟩
          clear hX
          go_simp
          all_goals try go_bits
          all_goals try simp only [IntWalk.iteOmega]
          all_goals try go_bits
          all_goals rfl
        · refine step_intro rfl rfl fun ρ X hc hf hgl hX hp ho => ?_
          change StepOk _ { dst := _, op := Op.move (Operand.tmp 8), type := _, pos := _, after := _, guard := _ } _ _ _
          have k8 : ρ (.tmp 8) = .int .i64 (d : Int) := ho 8 (by decide)
          clear hp ho
          refine StepOk.of_run (v := ?vpa4) (w' := X) ?_ ⟨rfl, Below.refl _ _⟩
          clear hX
          go_simp
          all_goals try go_bits
          all_goals try simp only [IntWalk.iteOmega]
          all_goals try go_bits
          all_goals rfl
        · refine step_intro rfl rfl fun ρ X hc hf hgl hX hp ho => ?_
          change StepOk _ { dst := _, op := Op.slice 45 (Operand.tmp 40) (some (Operand.tmp 41)) (some (Operand.tmp 42)) none, type := _, pos := _, after := _, guard := _ } _ _ _
          have k40 : ρ (.tmp 40) = ?vpa2 := hp 2 (by decide)
          have k41 : ρ (.tmp 41) = ?vpa3 := hp 3 (by decide)
          have k42 : ρ (.tmp 42) = ?vpa4 := hp 4 (by decide)
          have hsl := run_slI X g (e) (d) ((e : Int)) ((d : Int)) (by omega) (by omega) (by omega) (by omega)
          refine StepOk.of_run (v := slv g (e) (d)) (w' := X) ?_ ⟨rfl, Below.refl _ _⟩
          simp [go_sem, execOp, k40, k41, k42, hsl]
        · refine step_intro rfl rfl fun ρ X hc hf hgl hX hp ho => ?_
          change StepOk _ { dst := _, op := Op.move (Operand.tmp 0), type := _, pos := _, after := _, guard := _ } _ _ _
          have k0 : ρ (.tmp 0) = .pointer (some ⟨g, 0, none⟩) := ho 0 (by decide)
          clear hp ho
          refine StepOk.of_run (v := ?vpa6) (w' := X) ?_ ⟨rfl, Below.refl _ _⟩
          clear hX
          go_simp
          all_goals try go_bits
          all_goals try simp only [IntWalk.iteOmega]
          all_goals try go_bits
          all_goals rfl
        · refine step_intro rfl rfl fun ρ X hc hf hgl hX hp ho => ?_
          change StepOk _ { dst := _, op := Op.nilCheck (Operand.tmp 44), type := _, pos := _, after := _, guard := _ } _ _ _
          have k44 : ρ (.tmp 44) = ?vpa6 := hp 6 (by decide)
          clear hp ho
          refine StepOk.of_run (v := ?vpa7) (w' := X) ?_ ⟨rfl, Below.refl _ _⟩
          clear hX
          go_simp
          all_goals try go_bits
          all_goals try simp only [IntWalk.iteOmega]
          all_goals try go_bits
          all_goals rfl
        · refine step_intro rfl rfl fun ρ X hc hf hgl hX hp ho => ?_
          change StepOk _ { dst := _, op := Op.fieldAddr 47 (Operand.tmp 45) 0, type := _, pos := _, after := _, guard := _ } _ _ _
          have k45 : ρ (.tmp 45) = ?vpa7 := hp 7 (by decide)
          clear hp ho
          refine StepOk.of_run (v := ?vpa8) (w' := X) ?_ ⟨rfl, Below.refl _ _⟩
          clear hX
          go_simp
          all_goals try go_bits
          all_goals try simp only [IntWalk.iteOmega]
          all_goals try go_bits
          all_goals rfl
        · refine step_intro rfl rfl fun ρ X hc hf hgl hX hp ho => ?_
          change StepOk _ { dst := _, op := Op.move (Operand.tmp 7), type := _, pos := _, after := _, guard := _ } _ _ _
          have k7 : ρ (.tmp 7) = .int .i64 (e : Int) := ho 7 (by decide)
          clear hp ho
          refine StepOk.of_run (v := ?vpa9) (w' := X) ?_ ⟨rfl, Below.refl _ _⟩
          clear hX
          go_simp
          all_goals try go_bits
          all_goals try simp only [IntWalk.iteOmega]
          all_goals try go_bits
          all_goals rfl
        · refine step_intro rfl rfl fun ρ X hc hf hgl hX hp ho => ?_
          change StepOk _ { dst := _, op := Op.binOp BinOp.add 3 (Operand.tmp 47) (Operand.const (Value.int IntKind.i64 2)) 3, type := _, pos := _, after := _, guard := _ } _ _ _
          have k47 : ρ (.tmp 47) = ?vpa9 := hp 9 (by decide)
          clear hp ho
          refine StepOk.of_run (v := ?vpa10) (w' := X) ?_ ⟨rfl, Below.refl _ _⟩
          clear hX
          go_simp
          all_goals try go_bits
          all_goals try simp only [IntWalk.iteOmega]
          all_goals try go_bits
          all_goals rfl
        · refine step_intro rfl rfl fun ρ X hc hf hgl hX hp ho => ?_
          change StepOk _ { dst := _, op := Op.move (Operand.tmp 8), type := _, pos := _, after := _, guard := _ } _ _ _
          have k8 : ρ (.tmp 8) = .int .i64 (d : Int) := ho 8 (by decide)
          clear hp ho
          refine StepOk.of_run (v := ?vpa11) (w' := X) ?_ ⟨rfl, Below.refl _ _⟩
          clear hX
          go_simp
          all_goals try go_bits
          all_goals try simp only [IntWalk.iteOmega]
          all_goals try go_bits
          all_goals rfl
        · refine step_intro rfl rfl fun ρ X hc hf hgl hX hp ho => ?_
          change StepOk _ { dst := _, op := Op.slice 45 (Operand.tmp 46) (some (Operand.tmp 48)) (some (Operand.tmp 49)) none, type := _, pos := _, after := _, guard := _ } _ _ _
          have k46 : ρ (.tmp 46) = ?vpa8 := hp 8 (by decide)
          have k48 : ρ (.tmp 48) = ?vpa10 := hp 10 (by decide)
          have k49 : ρ (.tmp 49) = ?vpa11 := hp 11 (by decide)
          have hsl := run_slI X g (e + 2) (d) ((e : Int) + 2) ((d : Int)) (by omega) (by omega) (by omega) (by omega)
          refine StepOk.of_run (v := slv g (e + 2) (d)) (w' := X) ?_ ⟨rfl, Below.refl _ _⟩
          simp [go_sem, execOp, k46, k48, k49, hsl]
        · exact last_intro rfl
      case grdpa => rfl
      case rstpa =>
        intro a0 X hb
        obtain ⟨x51, hx51⟩ : ∃ x, a0.tmps.getD 51 undef = x := ⟨_, rfl⟩
        have hfr := hb.frame ((38, ?vpa0) :: (39, ?vpa1) :: (40, ?vpa2) :: (41, ?vpa3) :: (42, ?vpa4) :: (43, (slv g (e) (d))) :: (44, ?vpa6) :: (45, ?vpa7) :: (46, ?vpa8) :: (47, ?vpa9) :: (48, ?vpa10) :: (49, ?vpa11) :: (50, (slv g (e + 2) (d))) :: (51, x51) :: []) rfl ⟨hb.done' 0 38 rfl rfl, hb.done' 1 39 rfl rfl, hb.done' 2 40 rfl rfl, hb.done' 3 41 rfl rfl, hb.done' 4 42 rfl rfl, hb.done' 5 43 rfl rfl, hb.done' 6 44 rfl rfl, hb.done' 7 45 rfl rfl, hb.done' 8 46 rfl rfl, hb.done' 9 47 rfl rfl, hb.done' 10 48 rfl rfl, hb.done' 11 49 rfl rfl, hb.done' 12 50 rfl rfl, hx51, trivial⟩
        simp only [updL, ↓reduceIte, Nat.reduceEqDiff, Nat.reduceAdd, Nat.zero_add] at hfr
        have HX := Lib.hid hb.ext
        clear hb
        subst hfr
        change StepOk _ { dst := _, op := Op.call { callee := Callee.builtin Builtin.copy, args := #[Operand.tmp 43, Operand.tmp 50], argTypes := #[30, 30] }, type := _, pos := _, after := _, guard := _ } _ _ _
        obtain ⟨w2, hr, hb2, hu2⟩ := run_copyBody (HR1.out.grows HX.out) e d (by omega) (by omega) (slv g (e + 2) d) _ ((HR1.out.grows HX.out).slv (e + 2) d (by omega) (by omega)) 3
        obtain ⟨f1, Hf1⟩ : ∃ f1, Hid (upd f 1 (UInt8.ofNat (p + s)) = f1) := ⟨_, rfl⟩
        rw [Hf1.out] at hb2
        refine StepOk.of_run (v := goInt ((min (rowOf (fun j => upd f 1 (UInt8.ofNat (p + s)) (e + 2 + j)) (d - (e + 2))).length (d - e) : Nat) : Int)) (w' := w2) ?_ ?_
        · simp only [execOp, resolve, invoke, builtin, Sem.run_bind, Sem.run_pure, Result.andThen_ok, List.map_toArray, List.map_cons, List.map_nil]
          show (Result.andThen ((Builtin.copy_ #[30, 30] _ #[slv g e d, slv g (e + 2) d]).run Try.prog X) _) = _
          rw [hr]
          rfl
        · rw [ovr_dn2 f1 e d hed] at hb2
          have HR2 := Lib.hid hb2
          have HU2 := Lib.hid ((But.ofGrows (O := At g) HX.out).trans' hu2)
          clear hr hb2 hu2 HX hsp1 hsp2 hsp3
          have cn := HR2.out.cell 0 (by omega)
          rw [show dn2 f1 e d 0 = f1 0 by unfold dn2; rw [if_neg (by omega)], ← Hf1.out, show upd f 1 (UInt8.ofNat (p + s)) 0 = f 0 by unfold upd; rw [if_neg (by omega)], Hh.out.enc.n, Hn.out] at cn
          go_wp2
          refine specs_last 9
            #[[], [0], [0, 1], [0, 1, 2], [0, 1, 2, 3], [0, 1, 2, 3, 4], [0], [0, 6], [0, 1, 2, 3, 4, 5, 6, 7], [0, 1, 2, 3, 4, 5, 6, 7, 8]] #[[0], [], [], [], [], [], [], [], [], []] #[true, true, true, true, true, true, true, true, true, true]
            ((.val ?vpb0) :: (.val ?vpb1) :: (.val ?vpb2) :: (.val ?vpb3) :: (.val ?vpb4) :: (.val ?vpb5) :: (.val ?vpb6) :: (.val ?vpb7) :: (.val ?vpb8) :: (.any) :: []).toArray
            hmx ?chkpb ?grdpb rfl ?stppb ?rstpb
          case chkpb => rfl
          case stppb =>
            refine ⟨?_, ?_, ?_, ?_, ?_, ?_, ?_, ?_, ?_, ?_, trivial⟩
            · refine step_intro rfl rfl fun ρ X hc hf hgl hX hp ho => ?_
              change StepOk _ { dst := _, op := Op.move (Operand.tmp 0), type := _, pos := _, after := _, guard := _ } _ _ _
              have k0 : ρ (.tmp 0) = .pointer (some ⟨g, 0, none⟩) := ho 0 (by decide)
              clear hp ho
              refine StepOk.of_run (v := ?vpb0) (w' := X) ?_ ⟨rfl, Below.refl _ _⟩
              clear hX
              go_simp
              all_goals try go_bits
              all_goals try simp only [IntWalk.iteOmega]
              all_goals try go_bits
              all_goals rfl
            · refine step_intro rfl rfl fun ρ X hc hf hgl hX hp ho => ?_
              change StepOk _ { dst := _, op := Op.nilCheck (Operand.tmp 52), type := _, pos := _, after := _, guard := _ } _ _ _
              have k52 : ρ (.tmp 52) = ?vpb0 := hp 0 (by decide)
              clear hp ho
              refine StepOk.of_run (v := ?vpb1) (w' := X) ?_ ⟨rfl, Below.refl _ _⟩
              clear hX
              go_simp
              all_goals try go_bits
              all_goals try simp only [IntWalk.iteOmega]
              all_goals try go_bits
              all_goals rfl
            · refine step_intro rfl rfl fun ρ X hc hf hgl hX hp ho => ?_
              change StepOk _ { dst := _, op := Op.fieldAddr 47 (Operand.tmp 53) 0, type := _, pos := _, after := _, guard := _ } _ _ _
              have k53 : ρ (.tmp 53) = ?vpb1 := hp 1 (by decide)
              clear hp ho
              refine StepOk.of_run (v := ?vpb2) (w' := X) ?_ ⟨rfl, Below.refl _ _⟩
              clear hX
              go_simp
              all_goals try go_bits
              all_goals try simp only [IntWalk.iteOmega]
              all_goals try go_bits
              all_goals rfl
            · refine step_intro rfl rfl fun ρ X hc hf hgl hX hp ho => ?_
              change StepOk _ { dst := _, op := Op.indexAddr 45 (Operand.tmp 54) (Operand.const (Value.int IntKind.i64 0)), type := _, pos := _, after := _, guard := _ } _ _ _
              have k54 : ρ (.tmp 54) = ?vpb2 := hp 2 (by decide)
              clear hp ho
              refine StepOk.of_run (v := ?vpb3) (w' := X) ?_ ⟨rfl, Below.refl _ _⟩
              clear hX
              go_simp
              all_goals try go_bits
              all_goals try simp only [IntWalk.iteOmega]
              all_goals try go_bits
              all_goals rfl
            · refine step_intro rfl rfl fun ρ X hc hf hgl hX hp ho => ?_
              change StepOk _ { dst := _, op := Op.load 5 (Operand.tmp 55), type := _, pos := _, after := _, guard := _ } _ _ _
              have k55 : ρ (.tmp 55) = ?vpb3 := hp 3 (by decide)
              have cnX := Grows.cell' hX cn
              clear hp ho
              refine StepOk.of_run (v := ?vpb4) (w' := X) ?_ ⟨rfl, Below.refl _ _⟩
              clear hX
              go_simp
              all_goals try go_bits
              all_goals try simp only [IntWalk.iteOmega]
              all_goals try go_bits
              all_goals rfl
            · refine step_intro rfl rfl fun ρ X hc hf hgl hX hp ho => ?_
              change StepOk _ { dst := _, op := Op.binOp BinOp.sub 5 (Operand.tmp 56) (Operand.const (Value.int IntKind.u8 1)) 5, type := _, pos := _, after := _, guard := _ } _ _ _
              have k56 : ρ (.tmp 56) = ?vpb4 := hp 4 (by decide)
              clear hp ho
              refine StepOk.of_run (v := ?vpb5) (w' := X) ?_ ⟨rfl, Below.refl _ _⟩
              clear hX
              go_simp
              all_goals try go_bits
              all_goals try simp only [IntWalk.iteOmega]
              all_goals try go_bits
              all_goals rfl
            · refine step_intro rfl rfl fun ρ X hc hf hgl hX hp ho => ?_
              change StepOk _ { dst := _, op := Op.nilCheck (Operand.tmp 52), type := _, pos := _, after := _, guard := _ } _ _ _
              have k52 : ρ (.tmp 52) = ?vpb0 := hp 0 (by decide)
              clear hp ho
              refine StepOk.of_run (v := ?vpb6) (w' := X) ?_ ⟨rfl, Below.refl _ _⟩
              clear hX
              go_simp
              all_goals try go_bits
              all_goals try simp only [IntWalk.iteOmega]
              all_goals try go_bits
              all_goals rfl
            · refine step_intro rfl rfl fun ρ X hc hf hgl hX hp ho => ?_
              change StepOk _ { dst := _, op := Op.fieldAddr 47 (Operand.tmp 58) 0, type := _, pos := _, after := _, guard := _ } _ _ _
              have k58 : ρ (.tmp 58) = ?vpb6 := hp 6 (by decide)
              clear hp ho
              refine StepOk.of_run (v := ?vpb7) (w' := X) ?_ ⟨rfl, Below.refl _ _⟩
              clear hX
              go_simp
              all_goals try go_bits
              all_goals try simp only [IntWalk.iteOmega]
              all_goals try go_bits
              all_goals rfl
            · refine step_intro rfl rfl fun ρ X hc hf hgl hX hp ho => ?_
              change StepOk _ { dst := _, op := Op.indexAddr 45 (Operand.tmp 59) (Operand.const (Value.int IntKind.i64 0)), type := _, pos := _, after := _, guard := _ } _ _ _
              have k59 : ρ (.tmp 59) = ?vpb7 := hp 7 (by decide)
              clear hp ho
              refine StepOk.of_run (v := ?vpb8) (w' := X) ?_ ⟨rfl, Below.refl _ _⟩
              clear hX
              go_simp
              all_goals try go_bits
              all_goals try simp only [IntWalk.iteOmega]
              all_goals try go_bits
              all_goals rfl
            · exact last_intro rfl
          case grdpb => rfl
          case rstpb =>
            intro a0 X hb
            have hfr := hb.frame ((52, ?vpb0) :: (53, ?vpb1) :: (54, ?vpb2) :: (55, ?vpb3) :: (56, ?vpb4) :: (57, ?vpb5) :: (58, ?vpb6) :: (59, ?vpb7) :: (60, ?vpb8) :: []) rfl ⟨hb.done' 0 52 rfl rfl, hb.done' 1 53 rfl rfl, hb.done' 2 54 rfl rfl, hb.done' 3 55 rfl rfl, hb.done' 4 56 rfl rfl, hb.done' 5 57 rfl rfl, hb.done' 6 58 rfl rfl, hb.done' 7 59 rfl rfl, hb.done' 8 60 rfl rfl, trivial⟩
            simp only [updL, ↓reduceIte, Nat.reduceEqDiff, Nat.reduceAdd, Nat.zero_add] at hfr
            have HX := Lib.hid hb.ext
            clear hb
            subst hfr
            change StepOk _ { dst := _, op := Op.store 5 (Operand.tmp 60) (Operand.tmp 57), type := _, pos := _, after := _, guard := _ } _ _ _
            have h0X := HR2.out.grows HX.out
            have fX := h0X.frozen 0
            have cX := h0X.cell 0 (by omega)
            unfold StepOk
            simp [go_sem, execOp, cX, fX]
            have HR3 := Lib.hid (h0X.set 0 (by omega) (UInt8.ofNat (n - 1)) ((n : Int) - 1) (by rw [ofNat_toNat _ (by omega)]; omega))
            have HU3 := Lib.hid (But.setCell ((HU2.out).trans' (But.ofGrows HX.out)) ⟨g, 0, none⟩ (.int .u8 ((n : Int) - 1)) rfl)
            clear cX fX h0X cn HX HR2 HU2
            obtain ⟨w3, hw3⟩ : ∃ w3, X.setCell ⟨g, 0, none⟩ (.int .u8 ((n : Int) - 1)) = w3 := ⟨_, rfl⟩
            rw [hw3] at HR3 HU3 ⊢
            clear hw3 X
            go_wp2
            go_ret
            refine ⟨rfl, ⟨_, ⟨HR3.out, ?_, HWd.out⟩⟩, HU1.out.trans' HU3.out⟩
            rw [← Hf1.out, ← He.out, ← Hd.out]
            exact HDa.out
  · have hpt' : ¬ (p : Int) = (t : Int) := by omega
    rw [if_neg hpt] at htop
    rw [htop] at HDa
    clear hlow htop hpt
    have Hsame : Hid (upd f 1 (UInt8.ofNat t) = f) := by
      show _ = _
      funext j
      unfold upd
      split
      · rename_i hj; rw [hj]; exact (u8_eq (by rw [Hh.out.enc.top, Ht.out])).symm
      · rfl
    go_enter Try.func15, Try.ntmps15
    go_wp2_with (first
      | (go_at_call 33; refine HH.out.mono ?_; rintro e w1 ⟨rfl, rfl⟩)
      | (go_at_call 34; refine HEn.out.mono ?_; rintro e w1 ⟨rfl, hg⟩; have Hh1 := Lib.hid (Hh.out.grows hg); have Hg1 := Lib.hid hg; clear hg)
      | (go_at_call 30; refine (HTp.out _ Hh1.out).mono ?_; rintro e w1 ⟨rfl, rfl⟩)
      | (go_at_call 31; refine (HE.out _).mono ?_; rintro e w1 ⟨rfl, rfl⟩; have HR1 := Lib.hid Hh1.out.at_; rw [← Hsame.out] at HR1; have HU1 := Lib.hid (But.ofGrows (O := At g) Hg1.out); have HDE := Lib.hid (vDirEnd _ g _ HR1.out n (by rw [Hsame.out, Hh.out.enc.n, Hn.out])); rw [Hd.out] at HDE; unfold pb at HDE)
      | (go_at_call 29; refine HDE.out.mono ?_; rintro e w1 ⟨rfl, rfl⟩))
    have hsp1 : IntKind.i64.wrap ((e : Int) + 2) = (e : Int) + 2 := IntWalk.i64_in _ (by omega)
    have hsp2 : (0 : Int) ≤ (e : Int) + 2 := by omega
    have hsp3 : ((e : Int) + 2).toNat = e + 2 := by omega
    refine specs_last 13
      #[[], [0], [0, 1], [], [], [0, 1, 2, 3, 4], [], [6], [6, 7], [], [9], [], [6, 7, 8, 9, 10, 11], [0, 1, 2, 3, 4, 5, 6, 7, 8, 9, 10, 11, 12]] #[[0], [], [], [7], [8], [], [0], [], [], [7], [], [8], [], []] #[true, true, true, true, true, true, true, true, true, true, true, true, true, true]
      ((.val ?vqa0) :: (.val ?vqa1) :: (.val ?vqa2) :: (.val ?vqa3) :: (.val ?vqa4) :: (.val (slv g (e) (d))) :: (.val ?vqa6) :: (.val ?vqa7) :: (.val ?vqa8) :: (.val ?vqa9) :: (.val ?vqa10) :: (.val ?vqa11) :: (.val (slv g (e + 2) (d))) :: (.any) :: []).toArray
      hmx ?chkqa ?grdqa rfl ?stpqa ?rstqa
    case chkqa => rfl
    case stpqa =>
      refine ⟨?_, ?_, ?_, ?_, ?_, ?_, ?_, ?_, ?_, ?_, ?_, ?_, ?_, ?_, trivial⟩
      · refine step_intro rfl rfl fun ρ X hc hf hgl hX hp ho => ?_
        change StepOk _ { dst := _, op := Op.move (Operand.tmp 0), type := _, pos := _, after := _, guard := _ } _ _ _
        have k0 : ρ (.tmp 0) = .pointer (some ⟨g, 0, none⟩) := ho 0 (by decide)
        clear hp ho
        refine StepOk.of_run (v := ?vqa0) (w' := X) ?_ ⟨rfl, Below.refl _ _⟩
        clear hX
        go_simp
        all_goals try go_bits
        all_goals try simp only [IntWalk.iteOmega]
        all_goals try go_bits
        all_goals rfl
      · refine step_intro rfl rfl fun ρ X hc hf hgl hX hp ho => ?_
        change StepOk _ { dst := _, op := Op.nilCheck (Operand.tmp 38), type := _, pos := _, after := _, guard := _ } _ _ _
        have k38 : ρ (.tmp 38) = ?vqa0 := hp 0 (by decide)
        clear hp ho
        refine StepOk.of_run (v := ?vqa1) (w' := X) ?_ ⟨rfl, Below.refl _ _⟩
        clear hX
        go_simp
        all_goals try go_bits
        all_goals try simp only [IntWalk.iteOmega]
        all_goals try go_bits
        all_goals rfl
      · refine step_intro rfl rfl fun ρ X hc hf hgl hX hp ho => ?_
        change StepOk _ { dst := _, op := Op.fieldAddr 47 (Operand.tmp 39) 0, type := _, pos := _, after := _, guard := _ } _ _ _
        have k39 : ρ (.tmp 39) = ?vqa1 := hp 1 (by decide)
        clear hp ho
        refine StepOk.of_run (v := ?vqa2) (w' := X) ?_ ⟨rfl, Below.refl _ _⟩
        clear hX
        go_simp
        all_goals try go_bits
        all_goals try simp only [IntWalk.iteOmega]
        all_goals try go_bits
        all_goals rfl
      · refine step_intro rfl rfl fun ρ X hc hf hgl hX hp ho => ?_
        change StepOk _ { dst := _, op := Op.move (Operand.tmp 7), type := _, pos := _, after := _, guard := _ } _ _ _
        have k7 : ρ (.tmp 7) = .int .i64 (e : Int) := ho 7 (by decide)
        clear hp ho
        refine StepOk.of_run (v := ?vqa3) (w' := X) ?_ ⟨rfl, Below.refl _ _⟩
        clear hX
        go_simp
        all_goals try go_bits
        all_goals try simp only [IntWalk.iteOmega]
        all_goals try go_bits
        all_goals rfl
      · refine step_intro rfl rfl fun ρ X hc hf hgl hX hp ho => ?_
        change StepOk _ { dst := _, op := Op.move (Operand.tmp 8), type := _, pos := _, after := _, guard := _ } _ _ _
        have k8 : ρ (.tmp 8) = .int .i64 (d : Int) := ho 8 (by decide)
        clear hp ho
        refine StepOk.of_run (v := ?vqa4) (w' := X) ?_ ⟨rfl, Below.refl _ _⟩
        clear hX
        go_simp
        all_goals try go_bits
        all_goals try simp only [IntWalk.iteOmega]
        all_goals try go_bits
        all_goals rfl
      · refine step_intro rfl rfl fun ρ X hc hf hgl hX hp ho => ?_
        change StepOk _ { dst := _, op := Op.slice 45 (Operand.tmp 40) (some (Operand.tmp 41)) (some (Operand.tmp 42)) none, type := _, pos := _, after := _, guard := _ } _ _ _
        have k40 : ρ (.tmp 40) = ?vqa2 := hp 2 (by decide)
        have k41 : ρ (.tmp 41) = ?vqa3 := hp 3 (by decide)
        have k42 : ρ (.tmp 42) = ?vqa4 := hp 4 (by decide)
        have hsl := run_slI X g (e) (d) ((e : Int)) ((d : Int)) (by omega) (by omega) (by omega) (by omega)
        refine StepOk.of_run (v := slv g (e) (d)) (w' := X) ?_ ⟨rfl, Below.refl _ _⟩
        simp [go_sem, execOp, k40, k41, k42, hsl]
      · refine step_intro rfl rfl fun ρ X hc hf hgl hX hp ho => ?_
        change StepOk _ { dst := _, op := Op.move (Operand.tmp 0), type := _, pos := _, after := _, guard := _ } _ _ _
        have k0 : ρ (.tmp 0) = .pointer (some ⟨g, 0, none⟩) := ho 0 (by decide)
        clear hp ho
        refine StepOk.of_run (v := ?vqa6) (w' := X) ?_ ⟨rfl, Below.refl _ _⟩
        clear hX
        go_simp
        all_goals try go_bits
        all_goals try simp only [IntWalk.iteOmega]
        all_goals try go_bits
        all_goals rfl
      · refine step_intro rfl rfl fun ρ X hc hf hgl hX hp ho => ?_
        change StepOk _ { dst := _, op := Op.nilCheck (Operand.tmp 44), type := _, pos := _, after := _, guard := _ } _ _ _
        have k44 : ρ (.tmp 44) = ?vqa6 := hp 6 (by decide)
        clear hp ho
        refine StepOk.of_run (v := ?vqa7) (w' := X) ?_ ⟨rfl, Below.refl _ _⟩
        clear hX
        go_simp
        all_goals try go_bits
        all_goals try simp only [IntWalk.iteOmega]
        all_goals try go_bits
        all_goals rfl
      · refine step_intro rfl rfl fun ρ X hc hf hgl hX hp ho => ?_
        change StepOk _ { dst := _, op := Op.fieldAddr 47 (Operand.tmp 45) 0, type := _, pos := _, after := _, guard := _ } _ _ _
        have k45 : ρ (.tmp 45) = ?vqa7 := hp 7 (by decide)
        clear hp ho
        refine StepOk.of_run (v := ?vqa8) (w' := X) ?_ ⟨rfl, Below.refl _ _⟩
        clear hX
        go_simp
        all_goals try go_bits
        all_goals try simp only [IntWalk.iteOmega]
        all_goals try go_bits
        all_goals rfl
      · refine step_intro rfl rfl fun ρ X hc hf hgl hX hp ho => ?_
        change StepOk _ { dst := _, op := Op.move (Operand.tmp 7), type := _, pos := _, after := _, guard := _ } _ _ _
        have k7 : ρ (.tmp 7) = .int .i64 (e : Int) := ho 7 (by decide)
        clear hp ho
        refine StepOk.of_run (v := ?vqa9) (w' := X) ?_ ⟨rfl, Below.refl _ _⟩
        clear hX
        go_simp
        all_goals try go_bits
        all_goals try simp only [IntWalk.iteOmega]
        all_goals try go_bits
        all_goals rfl
      · refine step_intro rfl rfl fun ρ X hc hf hgl hX hp ho => ?_
        change StepOk _ { dst := _, op := Op.binOp BinOp.add 3 (Operand.tmp 47) (Operand.const (Value.int IntKind.i64 2)) 3, type := _, pos := _, after := _, guard := _ } _ _ _
        have k47 : ρ (.tmp 47) = ?vqa9 := hp 9 (by decide)
        clear hp ho
        refine StepOk.of_run (v := ?vqa10) (w' := X) ?_ ⟨rfl, Below.refl _ _⟩
        clear hX
        go_simp
        all_goals try go_bits
        all_goals try simp only [IntWalk.iteOmega]
        all_goals try go_bits
        all_goals rfl
      · refine step_intro rfl rfl fun ρ X hc hf hgl hX hp ho => ?_
        change StepOk _ { dst := _, op := Op.move (Operand.tmp 8), type := _, pos := _, after := _, guard := _ } _ _ _
        have k8 : ρ (.tmp 8) = .int .i64 (d : Int) := ho 8 (by decide)
        clear hp ho
        refine StepOk.of_run (v := ?vqa11) (w' := X) ?_ ⟨rfl, Below.refl _ _⟩
        clear hX
        go_simp
        all_goals try go_bits
        all_goals try simp only [IntWalk.iteOmega]
        all_goals try go_bits
        all_goals rfl
      · refine step_intro rfl rfl fun ρ X hc hf hgl hX hp ho => ?_
        change StepOk _ { dst := _, op := Op.slice 45 (Operand.tmp 46) (some (Operand.tmp 48)) (some (Operand.tmp 49)) none, type := _, pos := _, after := _, guard := _ } _ _ _
        have k46 : ρ (.tmp 46) = ?vqa8 := hp 8 (by decide)
        have k48 : ρ (.tmp 48) = ?vqa10 := hp 10 (by decide)
        have k49 : ρ (.tmp 49) = ?vqa11 := hp 11 (by decide)
        have hsl := run_slI X g (e + 2) (d) ((e : Int) + 2) ((d : Int)) (by omega) (by omega) (by omega) (by omega)
        refine StepOk.of_run (v := slv g (e + 2) (d)) (w' := X) ?_ ⟨rfl, Below.refl _ _⟩
        simp [go_sem, execOp, k46, k48, k49, hsl]
      · exact last_intro rfl
    case grdqa => rfl
    case rstqa =>
      intro a0 X hb
      obtain ⟨x51, hx51⟩ : ∃ x, a0.tmps.getD 51 undef = x := ⟨_, rfl⟩
      have hfr := hb.frame ((38, ?vqa0) :: (39, ?vqa1) :: (40, ?vqa2) :: (41, ?vqa3) :: (42, ?vqa4) :: (43, (slv g (e) (d))) :: (44, ?vqa6) :: (45, ?vqa7) :: (46, ?vqa8) :: (47, ?vqa9) :: (48, ?vqa10) :: (49, ?vqa11) :: (50, (slv g (e + 2) (d))) :: (51, x51) :: []) rfl ⟨hb.done' 0 38 rfl rfl, hb.done' 1 39 rfl rfl, hb.done' 2 40 rfl rfl, hb.done' 3 41 rfl rfl, hb.done' 4 42 rfl rfl, hb.done' 5 43 rfl rfl, hb.done' 6 44 rfl rfl, hb.done' 7 45 rfl rfl, hb.done' 8 46 rfl rfl, hb.done' 9 47 rfl rfl, hb.done' 10 48 rfl rfl, hb.done' 11 49 rfl rfl, hb.done' 12 50 rfl rfl, hx51, trivial⟩
      simp only [updL, ↓reduceIte, Nat.reduceEqDiff, Nat.reduceAdd, Nat.zero_add] at hfr
      have HX := Lib.hid hb.ext
      clear hb
      subst hfr
      change StepOk _ { dst := _, op := Op.call { callee := Callee.builtin Builtin.copy, args := #[Operand.tmp 43, Operand.tmp 50], argTypes := #[30, 30] }, type := _, pos := _, after := _, guard := _ } _ _ _
      obtain ⟨w2, hr, hb2, hu2⟩ := run_copyBody (HR1.out.grows HX.out) e d (by omega) (by omega) (slv g (e + 2) d) _ ((HR1.out.grows HX.out).slv (e + 2) d (by omega) (by omega)) 3
      obtain ⟨f1, Hf1⟩ : ∃ f1, Hid (upd f 1 (UInt8.ofNat (t)) = f1) := ⟨_, rfl⟩
      rw [Hf1.out] at hb2
      refine StepOk.of_run (v := goInt ((min (rowOf (fun j => upd f 1 (UInt8.ofNat (t)) (e + 2 + j)) (d - (e + 2))).length (d - e) : Nat) : Int)) (w' := w2) ?_ ?_
      · simp only [execOp, resolve, invoke, builtin, Sem.run_bind, Sem.run_pure, Result.andThen_ok, List.map_toArray, List.map_cons, List.map_nil]
        show (Result.andThen ((Builtin.copy_ #[30, 30] _ #[slv g e d, slv g (e + 2) d]).run Try.prog X) _) = _
        rw [hr]
        rfl
      · rw [ovr_dn2 f1 e d hed] at hb2
        have HR2 := Lib.hid hb2
        have HU2 := Lib.hid ((But.ofGrows (O := At g) HX.out).trans' hu2)
        clear hr hb2 hu2 HX hsp1 hsp2 hsp3
        have cn := HR2.out.cell 0 (by omega)
        rw [show dn2 f1 e d 0 = f1 0 by unfold dn2; rw [if_neg (by omega)], ← Hf1.out, show upd f 1 (UInt8.ofNat (t)) 0 = f 0 by unfold upd; rw [if_neg (by omega)], Hh.out.enc.n, Hn.out] at cn
        go_wp2
        refine specs_last 9
          #[[], [0], [0, 1], [0, 1, 2], [0, 1, 2, 3], [0, 1, 2, 3, 4], [0], [0, 6], [0, 1, 2, 3, 4, 5, 6, 7], [0, 1, 2, 3, 4, 5, 6, 7, 8]] #[[0], [], [], [], [], [], [], [], [], []] #[true, true, true, true, true, true, true, true, true, true]
          ((.val ?vqb0) :: (.val ?vqb1) :: (.val ?vqb2) :: (.val ?vqb3) :: (.val ?vqb4) :: (.val ?vqb5) :: (.val ?vqb6) :: (.val ?vqb7) :: (.val ?vqb8) :: (.any) :: []).toArray
          hmx ?chkqb ?grdqb rfl ?stpqb ?rstqb
        case chkqb => rfl
        case stpqb =>
          refine ⟨?_, ?_, ?_, ?_, ?_, ?_, ?_, ?_, ?_, ?_, trivial⟩
          · refine step_intro rfl rfl fun ρ X hc hf hgl hX hp ho => ?_
            change StepOk _ { dst := _, op := Op.move (Operand.tmp 0), type := _, pos := _, after := _, guard := _ } _ _ _
            have k0 : ρ (.tmp 0) = .pointer (some ⟨g, 0, none⟩) := ho 0 (by decide)
            clear hp ho
            refine StepOk.of_run (v := ?vqb0) (w' := X) ?_ ⟨rfl, Below.refl _ _⟩
            clear hX
            go_simp
            all_goals try go_bits
            all_goals try simp only [IntWalk.iteOmega]
            all_goals try go_bits
            all_goals rfl
          · refine step_intro rfl rfl fun ρ X hc hf hgl hX hp ho => ?_
            change StepOk _ { dst := _, op := Op.nilCheck (Operand.tmp 52), type := _, pos := _, after := _, guard := _ } _ _ _
            have k52 : ρ (.tmp 52) = ?vqb0 := hp 0 (by decide)
            clear hp ho
            refine StepOk.of_run (v := ?vqb1) (w' := X) ?_ ⟨rfl, Below.refl _ _⟩
            clear hX
            go_simp
            all_goals try go_bits
            all_goals try simp only [IntWalk.iteOmega]
            all_goals try go_bits
            all_goals rfl
          · refine step_intro rfl rfl fun ρ X hc hf hgl hX hp ho => ?_
            change StepOk _ { dst := _, op := Op.fieldAddr 47 (Operand.tmp 53) 0, type := _, pos := _, after := _, guard := _ } _ _ _
            have k53 : ρ (.tmp 53) = ?vqb1 := hp 1 (by decide)
            clear hp ho
            refine StepOk.of_run (v := ?vqb2) (w' := X) ?_ ⟨rfl, Below.refl _ _⟩
            clear hX
            go_simp
            all_goals try go_bits
            all_goals try simp only [IntWalk.iteOmega]
            all_goals try go_bits
            all_goals rfl
          · refine step_intro rfl rfl fun ρ X hc hf hgl hX hp ho => ?_
            change StepOk _ { dst := _, op := Op.indexAddr 45 (Operand.tmp 54) (Operand.const (Value.int IntKind.i64 0)), type := _, pos := _, after := _, guard := _ } _ _ _
            have k54 : ρ (.tmp 54) = ?vqb2 := hp 2 (by decide)
            clear hp ho
            refine StepOk.of_run (v := ?vqb3) (w' := X) ?_ ⟨rfl, Below.refl _ _⟩
            clear hX
            go_simp
            all_goals try go_bits
            all_goals try simp only [IntWalk.iteOmega]
            all_goals try go_bits
            all_goals rfl
          · refine step_intro rfl rfl fun ρ X hc hf hgl hX hp ho => ?_
            change StepOk _ { dst := _, op := Op.load 5 (Operand.tmp 55), type := _, pos := _, after := _, guard := _ } _ _ _
            have k55 : ρ (.tmp 55) = ?vqb3 := hp 3 (by decide)
            have cnX := Grows.cell' hX cn
            clear hp ho
            refine StepOk.of_run (v := ?vqb4) (w' := X) ?_ ⟨rfl, Below.refl _ _⟩
            clear hX
            go_simp
            all_goals try go_bits
            all_goals try simp only [IntWalk.iteOmega]
            all_goals try go_bits
            all_goals rfl
          · refine step_intro rfl rfl fun ρ X hc hf hgl hX hp ho => ?_
            change StepOk _ { dst := _, op := Op.binOp BinOp.sub 5 (Operand.tmp 56) (Operand.const (Value.int IntKind.u8 1)) 5, type := _, pos := _, after := _, guard := _ } _ _ _
            have k56 : ρ (.tmp 56) = ?vqb4 := hp 4 (by decide)
            clear hp ho
            refine StepOk.of_run (v := ?vqb5) (w' := X) ?_ ⟨rfl, Below.refl _ _⟩
            clear hX
            go_simp
            all_goals try go_bits
            all_goals try simp only [IntWalk.iteOmega]
            all_goals try go_bits
            all_goals rfl
          · refine step_intro rfl rfl fun ρ X hc hf hgl hX hp ho => ?_
            change StepOk _ { dst := _, op := Op.nilCheck (Operand.tmp 52), type := _, pos := _, after := _, guard := _ } _ _ _
            have k52 : ρ (.tmp 52) = ?vqb0 := hp 0 (by decide)
            clear hp ho
            refine StepOk.of_run (v := ?vqb6) (w' := X) ?_ ⟨rfl, Below.refl _ _⟩
            clear hX
            go_simp
            all_goals try go_bits
            all_goals try simp only [IntWalk.iteOmega]
            all_goals try go_bits
            all_goals rfl
          · refine step_intro rfl rfl fun ρ X hc hf hgl hX hp ho => ?_
            change StepOk _ { dst := _, op := Op.fieldAddr 47 (Operand.tmp 58) 0, type := _, pos := _, after := _, guard := _ } _ _ _
            have k58 : ρ (.tmp 58) = ?vqb6 := hp 6 (by decide)
            clear hp ho
            refine StepOk.of_run (v := ?vqb7) (w' := X) ?_ ⟨rfl, Below.refl _ _⟩
            clear hX
            go_simp
            all_goals try go_bits
            all_goals try simp only [IntWalk.iteOmega]
            all_goals try go_bits
            all_goals rfl
          · refine step_intro rfl rfl fun ρ X hc hf hgl hX hp ho => ?_
            change StepOk _ { dst := _, op := Op.indexAddr 45 (Operand.tmp 59) (Operand.const (Value.int IntKind.i64 0)), type := _, pos := _, after := _, guard := _ } _ _ _
            have k59 : ρ (.tmp 59) = ?vqb7 := hp 7 (by decide)
            clear hp ho
            refine StepOk.of_run (v := ?vqb8) (w' := X) ?_ ⟨rfl, Below.refl _ _⟩
            clear hX
            go_simp
            all_goals try go_bits
            all_goals try simp only [IntWalk.iteOmega]
            all_goals try go_bits
            all_goals rfl
          · exact last_intro rfl
        case grdqb => rfl
        case rstqb =>
          intro a0 X hb
          have hfr := hb.frame ((52, ?vqb0) :: (53, ?vqb1) :: (54, ?vqb2) :: (55, ?vqb3) :: (56, ?vqb4) :: (57, ?vqb5) :: (58, ?vqb6) :: (59, ?vqb7) :: (60, ?vqb8) :: []) rfl ⟨hb.done' 0 52 rfl rfl, hb.done' 1 53 rfl rfl, hb.done' 2 54 rfl rfl, hb.done' 3 55 rfl rfl, hb.done' 4 56 rfl rfl, hb.done' 5 57 rfl rfl, hb.done' 6 58 rfl rfl, hb.done' 7 59 rfl rfl, hb.done' 8 60 rfl rfl, trivial⟩
          simp only [updL, ↓reduceIte, Nat.reduceEqDiff, Nat.reduceAdd, Nat.zero_add] at hfr
          have HX := Lib.hid hb.ext
          clear hb
          subst hfr
          change StepOk _ { dst := _, op := Op.store 5 (Operand.tmp 60) (Operand.tmp 57), type := _, pos := _, after := _, guard := _ } _ _ _
          have h0X := HR2.out.grows HX.out
          have fX := h0X.frozen 0
          have cX := h0X.cell 0 (by omega)
          unfold StepOk
          simp [go_sem, execOp, cX, fX]
          have HR3 := Lib.hid (h0X.set 0 (by omega) (UInt8.ofNat (n - 1)) ((n : Int) - 1) (by rw [ofNat_toNat _ (by omega)]; omega))
          have HU3 := Lib.hid (But.setCell ((HU2.out).trans' (But.ofGrows HX.out)) ⟨g, 0, none⟩ (.int .u8 ((n : Int) - 1)) rfl)
          clear cX fX h0X cn HX HR2 HU2
          obtain ⟨w3, hw3⟩ : ∃ w3, X.setCell ⟨g, 0, none⟩ (.int .u8 ((n : Int) - 1)) = w3 := ⟨_, rfl⟩
          rw [hw3] at HR3 HU3 ⊢
          clear hw3 X
          go_wp2
          go_ret
          refine ⟨rfl, ⟨_, ⟨HR3.out, ?_, HWd.out⟩⟩, HU1.out.trans' HU3.out⟩
          rw [← Hf1.out, ← He.out, ← Hd.out]
          exact HDa.out
end Go.Proofs.Ytpodbhimkbadhaa
