/-
  Contracts: Insert, Delete.
-/
import Derived.Test.YtpodbhimkbadhaaSlE
namespace Go.Proofs.Ytpodbhimkbadhaa
open Go.RowKit
set_option linter.unusedVariables false
set_option linter.unusedSimpArgs false

theorem run_slI (w : World) (g L H : Nat) (lo hi : Int) (hlo : lo = (L : Int)) (hhi : hi = (H : Int)) (h1 : L ≤ H) (h2 : H ≤ 243) : (Instr.sliceAt 45 (.pointer (some ⟨g, 0, none⟩)) (some (.int .i64 lo)) (some (.int .i64 hi)) none).run Try.prog w = .ok (slv g L H) w := by
  subst hlo; subst hhi
  exact run_slB w g L H .i64 .i64 h1 h2
theorem ovr_up2 (f : Raw) (e d : Nat) (h : e ≤ d) : ovr f (e + 2) ((rowOf (fun j => f (e + j)) (d - e)).take (d + 2 - (e + 2))) = up2 f e d := by
  funext j
  rw [List.take_of_length_le (by rw [rowOf_length]; omega)]
  unfold ovr up2
  rw [rowOf_length]
  by_cases a : e + 2 ≤ j ∧ j < d + 2
  · rw [if_pos (by omega), if_pos a, rowOf_getD _ _ _ (by omega)]
    congr 1
    omega
  · rw [if_neg (by omega), if_neg a]
theorem ovr_dn2 (f : Raw) (e d : Nat) (h : e + 2 ≤ d) : ovr f e ((rowOf (fun j => f (e + 2 + j)) (d - (e + 2))).take (d - e)) = dn2 f e d := by
  funext j
  rw [List.take_of_length_le (by rw [rowOf_length]; omega)]
  unfold ovr dn2
  rw [rowOf_length]
  by_cases a : e ≤ j ∧ j + 2 < d
  · rw [if_pos (by omega), if_pos a, rowOf_getD _ _ _ (by omega)]
    congr 1
    omega
  · rw [if_neg (by omega), if_neg a]
theorem hInsNone {w : World} {g : Nat} {f : Raw} {A : Bo} (h : Has w g f A) (i : Int) (hi : i < 0 ∨ (A.l.length : Int) < i) (v : Value) : Calls Try.prog 14 #[pb g, .int .i64 i, v] w fun e w' => e = .returned (.int .i64 7) ∧ w = w' := by
  have H1 := Lib.hid (hLen h)
  clear h
  obtain ⟨n, hn⟩ : ∃ n, A.l.length = n := ⟨_, rfl⟩
  rw [hn] at H1 hi
  clear hn
  unfold pb at *
  by_cases h0 : i < 0
  · clear hi
    go_enter Try.func14, Try.ntmps14
    go_wp2
    go_ret
    exact ⟨rfl, rfl⟩
  · have h1 : (n : Int) < i := by omega
    clear hi
    go_enter Try.func14, Try.ntmps14
    go_wp2_with (go_at_call 18; refine H1.out.mono ?_; rintro e w1 ⟨rfl, rfl⟩)
    go_ret
    exact ⟨rfl, rfl⟩
theorem hInsLong {w : World} {g : Nat} {f : Raw} {A : Bo} (h : Has w g f A) (i : Nat) (hi : i ≤ A.l.length) (a : Option Addr) (m cap : Nat) (hm : 78 < m) : Calls Try.prog 14 #[pb g, .int .i64 (i : Int), .slice a m cap] w fun e w' => e = .returned (.int .i64 1) ∧ w = w' := by
  have H1 := Lib.hid (hLen h)
  clear h
  obtain ⟨n, hn⟩ : ∃ n, A.l.length = n := ⟨_, rfl⟩
  rw [hn] at H1 hi
  clear hn
  unfold pb at *
  have h1 : ¬ (n : Int) < (i : Int) := by omega
  have h2 : (78 : Int) < (m : Int) := by omega
  clear hi hm
  go_enter Try.func14, Try.ntmps14
  go_wp2_with (go_at_call 18; refine H1.out.mono ?_; rintro e w1 ⟨rfl, rfl⟩)
  go_ret
  exact ⟨rfl, rfl⟩
theorem hInsRoom {w : World} {g : Nat} {f : Raw} {A : Bo} (h : Has w g f A) (i : Nat) (hi : i ≤ A.l.length) (a : Option Addr) (m cap : Nat) (hm : m ≤ 78) (hr : freeA A < 2 + m) : Calls Try.prog 14 #[pb g, .int .i64 (i : Int), .slice a m cap] w fun e w' => e = .returned (.int .i64 60) ∧ Grows w w' := by
  have H1 := Lib.hid (hLen h)
  have H2 := Lib.hid (hFree h)
  clear h
  obtain ⟨n, hn⟩ : ∃ n, A.l.length = n := ⟨_, rfl⟩
  obtain ⟨r, hr'⟩ : ∃ r, freeA A = r := ⟨_, rfl⟩
  rw [hn] at H1 hi
  rw [hr'] at H2 hr
  clear hn hr'
  unfold pb at *
  have h1 : ¬ (n : Int) < (i : Int) := by omega
  have h2 : ¬ (78 : Int) < (m : Int) := by omega
  have h3 : (r : Int) < 2 + (m : Int) := by omega
  clear hi hr
  go_enter Try.func14, Try.ntmps14
  go_wp2_with (first
    | (go_at_call 18; refine H1.out.mono ?_; rintro e w1 ⟨rfl, rfl⟩)
    | (go_at_call 19; refine H2.out.mono ?_; rintro e w1 ⟨rfl, hg⟩))
  go_ret
  exact ⟨rfl, hg⟩
set_option maxRecDepth 100000 in
set_option maxHeartbeats 1000000 in
theorem hInsOk {w : World} {g : Nat} {f : Raw} {A : Bo} (h : Has w g f A) (i : Nat) (hi : i ≤ A.l.length) (v : Value) (c : List UInt8) (hv : Byt w v c) (ho : Outside (At g) v) (hc : c.length ≤ 78) (hr : 2 + c.length ≤ freeA A) :
    Calls Try.prog 14 #[pb g, .int .i64 (i : Int), v] w fun e w' => e = .returned (.int .i64 0) ∧ (∃ f', Has w' g f' (insA A i c)) ∧ But (At g) w w' := by
  have hmx : Try.prog.follows .mixedOrders = true := by kernel_rfl
  obtain ⟨a, cap, rfl⟩ := hv.slice
  obtain ⟨hB1, hB2, hB3⟩ := pre_room h.wf c hr
  have Hins : Hid (insA A i c = addA (preA A c) i c) := rfl
  obtain ⟨B, hB⟩ : ∃ B, preA A c = B := ⟨_, rfl⟩
  rw [hB] at hB1 hB2 hB3 Hins
  obtain ⟨m, Hm⟩ : ∃ m, Hid (c.length = m) := ⟨_, rfl⟩
  obtain ⟨n, Hn⟩ : ∃ n, Hid (A.l.length = n) := ⟨_, rfl⟩
  obtain ⟨t, Ht⟩ : ∃ t, Hid (A.top = t) := ⟨_, rfl⟩
  obtain ⟨r, Hr⟩ : ∃ r, Hid (freeA A = r) := ⟨_, rfl⟩
  have Hh := Lib.hid h
  have Hv := Lib.hid hv
  have Ho := Lib.hid ho
  have HL := Lib.hid (hLen h)
  have HF := Lib.hid (hFree h)
  have hn120 := h.wf.ntop
  have HP := Lib.hid (fun (w : World) (h : Has w g f A) => hPack h)
  have HD := Lib.hid (fun (w : World) (h : Has w g f A) => hDirEnd h)
  have HTp := Lib.hid (fun (w : World) (h : Has w g f A) => hTop h)
  have HE := Lib.hid (fun w => vEntryAt w i (by omega))
  obtain ⟨e, He⟩ : ∃ e, Hid (2 + 2 * i = e) := ⟨_, rfl⟩
  obtain ⟨d, Hd⟩ : ∃ d, Hid (2 + 2 * n = d) := ⟨_, rfl⟩
  rw [Hn.out] at HL HD hi hB2
  rw [Hr.out] at HF hr
  rw [Hd.out] at HD
  rw [He.out] at HE
  rw [Ht.out] at HTp
  rw [Hm.out] at hc hr
  have HB1 := Lib.hid hB1
  have HB2 : Hid (B.l.length = n) := hB2
  have HB3 : Hid (4 + 2 * n + m ≤ B.top) := by show _ ≤ _; rw [hB2, Hm.out] at hB3; omega
  have Hbt : Hid (B.top ≤ 243) := hB1.ntop.2.1
  have hed : e ≤ d := by have := He.out; have := Hd.out; omega
  have hd : d + 2 ≤ 243 := by have := HB3.out; have := Hbt.out; have := Hd.out; omega
  have hn1 : n + 1 < 256 := by have := HB3.out; have := Hbt.out; omega
  have Hi : Hid (i ≤ n) := hi
  have Hc := Lib.hid hc
  have h1 : ¬ (n : Int) < (i : Int) := by omega
  have h2 : ¬ (78 : Int) < (m : Int) := by omega
  have h3 : ¬ (r : Int) < 2 + (m : Int) := by omega
  have hm' : m ≤ 78 := hc
  have ht243 : t ≤ 243 := by rw [← Ht.out]; exact hn120.2.1
  have HBA : Hid (B = if t < d + 2 + m then packA A else A) := by
    show _ = _
    rw [← hB]
    unfold preA
    rw [Ht.out, Hn.out, Hm.out]
    have := Hd.out
    by_cases hp : t < 2 + 2 * (n + 1) + m
    · rw [if_pos hp, if_pos (by omega)]
    · rw [if_neg hp, if_neg (by omega)]
  rw [Hm.out] at Hv Ho ⊢
  clear h hv ho hB hB1 hB2 hB3 hi hc hr hn120
  unfold pb at *
  by_cases hp : t < d + 2 + m
  · have hp' : (t : Int) < (d : Int) + 2 + (m : Int) := by omega
    rw [if_pos hp] at HBA
    clear hp
    go_enter Try.func14, Try.ntmps14
    go_wp2_with (first
      | (go_at_call 18; refine HL.out.mono ?_; rintro e w1 ⟨rfl, rfl⟩)
      | (go_at_call 19; refine HF.out.mono ?_; rintro e w1 ⟨rfl, hg⟩; have Hg1 := Lib.hid hg; clear hg)
      | (go_at_call 29; refine (HD.out _ (Hh.out.grows Hg1.out)).mono ?_; rintro e w1 ⟨rfl, rfl⟩)
      | (go_at_call 30; refine (HTp.out _ (Hh.out.grows Hg1.out)).mono ?_; rintro e w1 ⟨rfl, rfl⟩)
      | (go_at_call 16; refine (HP.out _ (Hh.out.grows Hg1.out)).mono ?_; rintro e w1 ⟨rfl, ⟨f1, hh1⟩, hu1⟩; rw [← HBA.out] at hh1; have Hh1 := Lib.hid hh1; have Hu1 := Lib.hid ((But.ofGrows (O := At g) Hg1.out).trans' hu1); have HDE := Lib.hid (hDirEnd hh1); rw [HB2.out, Hd.out] at HDE; unfold pb at HDE; clear hh1 hu1 Hg1)
      | (go_at_call 31; refine (HE.out _).mono ?_; rintro e w1 ⟨rfl, rfl⟩)
      | (go_at_call 29; refine HDE.out.mono ?_; rintro e w1 ⟨rfl, rfl⟩))
    have hsp1 : IntKind.i64.wrap ((e : Int) + 2) = (e : Int) + 2 := IntWalk.i64_in _ (by omega)
    have hsp2 : (0 : Int) ≤ (e : Int) + 2 := by omega
    have hsp3 : ((e : Int) + 2).toNat = e + 2 := by omega
    have hsp4 : IntKind.i64.wrap ((d : Int) + 2) = (d : Int) + 2 := IntWalk.i64_in _ (by omega)
    have hsp5 : (0 : Int) ≤ (d : Int) + 2 := by omega
    have hsp6 : ((d : Int) + 2).toNat = d + 2 := by omega
    refine specs_last 14
      #[[], [0], [0, 1], [], [3], [], [5], [0, 1, 2, 3, 4, 5, 6], [], [8], [8, 9], [], [], [8, 9, 10, 11, 12], [0, 1, 2, 3, 4, 5, 6, 7, 8, 9, 10, 11, 12, 13]] #[[0], [], [], [7], [], [8], [], [], [0], [], [], [7], [8], [], []] #[true, true, true, true, true, true, true, true, true, true, true, true, true, true, true]
      ((.val ?vpa0) :: (.val ?vpa1) :: (.val ?vpa2) :: (.val ?vpa3) :: (.val ?vpa4) :: (.val ?vpa5) :: (.val ?vpa6) :: (.val (slv g (e + 2) (d + 2))) :: (.val ?vpa8) :: (.val ?vpa9) :: (.val ?vpa10) :: (.val ?vpa11) :: (.val ?vpa12) :: (.val (slv g (e) (d))) :: (.any) :: []).toArray
      hmx ?chkpa ?grdpa rfl ?stppa ?rstpa
    case chkpa => rfl
    case stppa =>
      refine ⟨?_, ?_, ?_, ?_, ?_, ?_, ?_, ?_, ?_, ?_, ?_, ?_, ?_, ?_, ?_, trivial⟩
      · refine step_intro rfl rfl fun ρ X hc hf hgl hX hp ho => ?_
        change StepOk _ { dst := _, op := Op.move (Operand.tmp 0), type := _, pos := _, after := _, guard := _ } _ _ _
        have k0 : ρ (.tmp 0) = .pointer (some ⟨g, 0, none⟩) := ho 0 (by decide)
        clear hp ho
        refine StepOk.of_run (v := ?vpa0) (w' := X) ?_ ⟨rfl, Below.refl _ _⟩
        clear hX
        go_simp
        all_goals try go_bits
        all_goals try simp only [IntWalk.iteOmega]
        all_goals try go_bits
        all_goals rfl
      · refine step_intro rfl rfl fun ρ X hc hf hgl hX hp ho => ?_
        change StepOk _ { dst := _, op := Op.nilCheck (Operand.tmp 48), type := _, pos := _, after := _, guard := _ } _ _ _
        have k48 : ρ (.tmp 48) = ?vpa0 := hp 0 (by decide)
        clear hp ho
        refine StepOk.of_run (v := ?vpa1) (w' := X) ?_ ⟨rfl, Below.refl _ _⟩
        clear hX
        go_simp
        all_goals try go_bits
        all_goals try simp only [IntWalk.iteOmega]
        all_goals try go_bits
        all_goals rfl
      · refine step_intro rfl rfl fun ρ X hc hf hgl hX hp ho => ?_
        change StepOk _ { dst := _, op := Op.fieldAddr 47 (Operand.tmp 49) 0, type := _, pos := _, after := _, guard := _ } _ _ _
        have k49 : ρ (.tmp 49) = ?vpa1 := hp 1 (by decide)
        clear hp ho
        refine StepOk.of_run (v := ?vpa2) (w' := X) ?_ ⟨rfl, Below.refl _ _⟩
        clear hX
        go_simp
        all_goals try go_bits
        all_goals try simp only [IntWalk.iteOmega]
        all_goals try go_bits
        all_goals rfl
      · refine step_intro rfl rfl fun ρ X hc hf hgl hX hp ho => ?_
        change StepOk _ { dst := _, op := Op.move (Operand.tmp 7), type := _, pos := _, after := _, guard := _ } _ _ _
        have k7 : ρ (.tmp 7) = .int .i64 (e : Int) := ho 7 (by decide)
        clear hp ho
        refine StepOk.of_run (v := ?vpa3) (w' := X) ?_ ⟨rfl, Below.refl _ _⟩
        clear hX
        go_simp
        all_goals try go_bits
        all_goals try simp only [IntWalk.iteOmega]
        all_goals try go_bits
        all_goals rfl
      · refine step_intro rfl rfl fun ρ X hc hf hgl hX hp ho => ?_
        change StepOk _ { dst := _, op := Op.binOp BinOp.add 3 (Operand.tmp 51) (Operand.const (Value.int IntKind.i64 2)) 3, type := _, pos := _, after := _, guard := _ } _ _ _
        have k51 : ρ (.tmp 51) = ?vpa3 := hp 3 (by decide)
        clear hp ho
        refine StepOk.of_run (v := ?vpa4) (w' := X) ?_ ⟨rfl, Below.refl _ _⟩
        clear hX
        go_simp
        all_goals try go_bits
        all_goals try simp only [IntWalk.iteOmega]
        all_goals try go_bits
        all_goals rfl
      · refine step_intro rfl rfl fun ρ X hc hf hgl hX hp ho => ?_
        change StepOk _ { dst := _, op := Op.move (Operand.tmp 8), type := _, pos := _, after := _, guard := _ } _ _ _
        have k8 : ρ (.tmp 8) = .int .i64 (d : Int) := ho 8 (by decide)
        clear hp ho
        refine StepOk.of_run (v := ?vpa5) (w' := X) ?_ ⟨rfl, Below.refl _ _⟩
        clear hX
        go_simp
        all_goals try go_bits
        all_goals try simp only [IntWalk.iteOmega]
        all_goals try go_bits
        all_goals rfl
      · refine step_intro rfl rfl fun ρ X hc hf hgl hX hp ho => ?_
        change StepOk _ { dst := _, op := Op.binOp BinOp.add 3 (Operand.tmp 53) (Operand.const (Value.int IntKind.i64 2)) 3, type := _, pos := _, after := _, guard := _ } _ _ _
        have k53 : ρ (.tmp 53) = ?vpa5 := hp 5 (by decide)
        clear hp ho
        refine StepOk.of_run (v := ?vpa6) (w' := X) ?_ ⟨rfl, Below.refl _ _⟩
        clear hX
        go_simp
        all_goals try go_bits
        all_goals try simp only [IntWalk.iteOmega]
        all_goals try go_bits
        all_goals rfl
      · refine step_intro rfl rfl fun ρ X hc hf hgl hX hp ho => ?_
        change StepOk _ { dst := _, op := Op.slice 45 (Operand.tmp 50) (some (Operand.tmp 52)) (some (Operand.tmp 54)) none, type := _, pos := _, after := _, guard := _ } _ _ _
        have k50 : ρ (.tmp 50) = ?vpa2 := hp 2 (by decide)
        have k52 : ρ (.tmp 52) = ?vpa4 := hp 4 (by decide)
        have k54 : ρ (.tmp 54) = ?vpa6 := hp 6 (by decide)
        have hsl := run_slI X g (e + 2) (d + 2) ((e : Int) + 2) ((d : Int) + 2) (by omega) (by omega) (by omega) (by omega)
        refine StepOk.of_run (v := slv g (e + 2) (d + 2)) (w' := X) ?_ ⟨rfl, Below.refl _ _⟩
        simp [go_sem, execOp, k50, k52, k54, hsl]
      · refine step_intro rfl rfl fun ρ X hc hf hgl hX hp ho => ?_
        change StepOk _ { dst := _, op := Op.move (Operand.tmp 0), type := _, pos := _, after := _, guard := _ } _ _ _
        have k0 : ρ (.tmp 0) = .pointer (some ⟨g, 0, none⟩) := ho 0 (by decide)
        clear hp ho
        refine StepOk.of_run (v := ?vpa8) (w' := X) ?_ ⟨rfl, Below.refl _ _⟩
        clear hX
        go_simp
        all_goals try go_bits
        all_goals try simp only [IntWalk.iteOmega]
        all_goals try go_bits
        all_goals rfl
      · refine step_intro rfl rfl fun ρ X hc hf hgl hX hp ho => ?_
        change StepOk _ { dst := _, op := Op.nilCheck (Operand.tmp 56), type := _, pos := _, after := _, guard := _ } _ _ _
        have k56 : ρ (.tmp 56) = ?vpa8 := hp 8 (by decide)
        clear hp ho
        refine StepOk.of_run (v := ?vpa9) (w' := X) ?_ ⟨rfl, Below.refl _ _⟩
        clear hX
        go_simp
        all_goals try go_bits
        all_goals try simp only [IntWalk.iteOmega]
        all_goals try go_bits
        all_goals rfl
      · refine step_intro rfl rfl fun ρ X hc hf hgl hX hp ho => ?_
        change StepOk _ { dst := _, op := Op.fieldAddr 47 (Operand.tmp 57) 0, type := _, pos := _, after := _, guard := _ } _ _ _
        have k57 : ρ (.tmp 57) = ?vpa9 := hp 9 (by decide)
        clear hp ho
        refine StepOk.of_run (v := ?vpa10) (w' := X) ?_ ⟨rfl, Below.refl _ _⟩
        clear hX
        go_simp
        all_goals try go_bits
        all_goals try simp only [IntWalk.iteOmega]
        all_goals try go_bits
        all_goals rfl
      · refine step_intro rfl rfl fun ρ X hc hf hgl hX hp ho => ?_
        change StepOk _ { dst := _, op := Op.move (Operand.tmp 7), type := _, pos := _, after := _, guard := _ } _ _ _
        have k7 : ρ (.tmp 7) = .int .i64 (e : Int) := ho 7 (by decide)
        clear hp ho
        refine StepOk.of_run (v := ?vpa11) (w' := X) ?_ ⟨rfl, Below.refl _ _⟩
        clear hX
        go_simp
        all_goals try go_bits
        all_goals try simp only [IntWalk.iteOmega]
        all_goals try go_bits
        all_goals rfl
      · refine step_intro rfl rfl fun ρ X hc hf hgl hX hp ho => ?_
        change StepOk _ { dst := _, op := Op.move (Operand.tmp 8), type := _, pos := _, after := _, guard := _ } _ _ _
        have k8 : ρ (.tmp 8) = .int .i64 (d : Int) := ho 8 (by decide)
        clear hp ho
        refine StepOk.of_run (v := ?vpa12) (w' := X) ?_ ⟨rfl, Below.refl _ _⟩
        clear hX
        go_simp
        all_goals try go_bits
        all_goals try simp only [IntWalk.iteOmega]
        all_goals try go_bits
        all_goals rfl
      · refine step_intro rfl rfl fun ρ X hc hf hgl hX hp ho => ?_
        change StepOk _ { dst := _, op := Op.slice 45 (Operand.tmp 58) (some (Operand.tmp 59)) (some (Operand.tmp 60)) none, type := _, pos := _, after := _, guard := _ } _ _ _
        have k58 : ρ (.tmp 58) = ?vpa10 := hp 10 (by decide)
        have k59 : ρ (.tmp 59) = ?vpa11 := hp 11 (by decide)
        have k60 : ρ (.tmp 60) = ?vpa12 := hp 12 (by decide)
        have hsl := run_slI X g (e) (d) ((e : Int)) ((d : Int)) (by omega) (by omega) (by omega) (by omega)
        refine StepOk.of_run (v := slv g (e) (d)) (w' := X) ?_ ⟨rfl, Below.refl _ _⟩
        simp [go_sem, execOp, k58, k59, k60, hsl]
      · exact last_intro rfl
    case grdpa => rfl
    case rstpa =>
      intro a0 X hb
      obtain ⟨x62, hx62⟩ : ∃ x, a0.tmps.getD 62 undef = x := ⟨_, rfl⟩
      have hfr := hb.frame ((48, ?vpa0) :: (49, ?vpa1) :: (50, ?vpa2) :: (51, ?vpa3) :: (52, ?vpa4) :: (53, ?vpa5) :: (54, ?vpa6) :: (55, (slv g (e + 2) (d + 2))) :: (56, ?vpa8) :: (57, ?vpa9) :: (58, ?vpa10) :: (59, ?vpa11) :: (60, ?vpa12) :: (61, (slv g (e) (d))) :: (62, x62) :: []) rfl ⟨hb.done' 0 48 rfl rfl, hb.done' 1 49 rfl rfl, hb.done' 2 50 rfl rfl, hb.done' 3 51 rfl rfl, hb.done' 4 52 rfl rfl, hb.done' 5 53 rfl rfl, hb.done' 6 54 rfl rfl, hb.done' 7 55 rfl rfl, hb.done' 8 56 rfl rfl, hb.done' 9 57 rfl rfl, hb.done' 10 58 rfl rfl, hb.done' 11 59 rfl rfl, hb.done' 12 60 rfl rfl, hb.done' 13 61 rfl rfl, hx62, trivial⟩
      simp only [updL, ↓reduceIte, Nat.reduceEqDiff, Nat.reduceAdd, Nat.zero_add] at hfr
      have HX := Lib.hid hb.ext
      clear hb
      subst hfr
      change StepOk _ { dst := _, op := Op.call { callee := Callee.builtin Builtin.copy, args := #[Operand.tmp 55, Operand.tmp 61], argTypes := #[30, 30] }, type := _, pos := _, after := _, guard := _ } _ _ _
      obtain ⟨w2, hr, hb2, hu2⟩ := run_copyBody (Hh1.out.at_.grows HX.out) (e + 2) (d + 2) (by omega) (by omega) (slv g e d) _ ((Hh1.out.at_.grows HX.out).slv e d (by omega) (by omega)) 3
      refine StepOk.of_run (v := goInt ((min (rowOf (fun j => f1 (e + j)) (d - e)).length (d + 2 - (e + 2)) : Nat) : Int)) (w' := w2) ?_ ?_
      · simp only [execOp, resolve, invoke, builtin, Sem.run_bind, Sem.run_pure, Result.andThen_ok, List.map_toArray, List.map_cons, List.map_nil]
        show (Result.andThen ((Builtin.copy_ #[30, 30] _ #[slv g (e + 2) (d + 2), slv g e d]).run Try.prog X) _) = _
        rw [hr]
        rfl
      · rw [ovr_up2 f1 e d hed] at hb2
        have HR2 := Lib.hid hb2
        have HU2 := Lib.hid ((But.ofGrows (O := At g) HX.out).trans' hu2)
        clear hr hb2 hu2 HX hsp1 hsp2 hsp3 hsp4 hsp5 hsp6
        have cn := HR2.out.cell 0 (by omega)
        rw [show up2 f1 e d 0 = f1 0 by unfold up2; rw [if_neg (by omega)], Hh1.out.enc.n, HB2.out] at cn
        go_wp2
        refine specs_last 9
          #[[], [0], [0, 1], [0, 1, 2], [0, 1, 2, 3], [0, 1, 2, 3, 4], [0], [0, 6], [0, 1, 2, 3, 4, 5, 6, 7], [0, 1, 2, 3, 4, 5, 6, 7, 8]] #[[0], [], [], [], [], [], [], [], [], []] #[true, true, true, true, true, true, true, true, true, true]
          ((.val ?vpb0) :: (.val ?vpb1) :: (.val ?vpb2) :: (.val ?vpb3) :: (.val ?vpb4) :: (.val ?vpb5) :: (.val ?vpb6) :: (.val ?vpb7) :: (.val ?vpb8) :: (.any) :: []).toArray
          hmx ?chkpb ?grdpb rfl ?stppb ?rstpb
        case chkpb => rfl
        case stppb =>
          refine ⟨?_, ?_, ?_, ?_, ?_, ?_, ?_, ?_, ?_, ?_, trivial⟩
          · refine step_intro rfl rfl fun ρ X hc hf hgl hX hp ho => ?_
            change StepOk _ { dst := _, op := Op.move (Operand.tmp 0), type := _, pos := _, after := _, guard := _ } _ _ _
            have k0 : ρ (.tmp 0) = .pointer (some ⟨g, 0, none⟩) := ho 0 (by decide)
            clear hp ho
            refine StepOk.of_run (v := ?vpb0) (w' := X) ?_ ⟨rfl, Below.refl _ _⟩
            clear hX
            go_simp
            all_goals try go_bits
            all_goals try simp only [IntWalk.iteOmega]
            all_goals try go_bits
            all_goals rfl
          · refine step_intro rfl rfl fun ρ X hc hf hgl hX hp ho => ?_
            change StepOk _ { dst := _, op := Op.nilCheck (Operand.tmp 63), type := _, pos := _, after := _, guard := _ } _ _ _
            have k63 : ρ (.tmp 63) = ?vpb0 := hp 0 (by decide)
            clear hp ho
            refine StepOk.of_run (v := ?vpb1) (w' := X) ?_ ⟨rfl, Below.refl _ _⟩
            clear hX
            go_simp
            all_goals try go_bits
            all_goals try simp only [IntWalk.iteOmega]
            all_goals try go_bits
            all_goals rfl
          · refine step_intro rfl rfl fun ρ X hc hf hgl hX hp ho => ?_
            change StepOk _ { dst := _, op := Op.fieldAddr 47 (Operand.tmp 64) 0, type := _, pos := _, after := _, guard := _ } _ _ _
            have k64 : ρ (.tmp 64) = ?vpb1 := hp 1 (by decide)
            clear hp ho
            refine StepOk.of_run (v := ?vpb2) (w' := X) ?_ ⟨rfl, Below.refl _ _⟩
            clear hX
            go_simp
            all_goals try go_bits
            all_goals try simp only [IntWalk.iteOmega]
            all_goals try go_bits
            all_goals rfl
          · refine step_intro rfl rfl fun ρ X hc hf hgl hX hp ho => ?_
            change StepOk _ { dst := _, op := Op.indexAddr 45 (Operand.tmp 65) (Operand.const (Value.int IntKind.i64 0)), type := _, pos := _, after := _, guard := _ } _ _ _
            have k65 : ρ (.tmp 65) = ?vpb2 := hp 2 (by decide)
            clear hp ho
            refine StepOk.of_run (v := ?vpb3) (w' := X) ?_ ⟨rfl, Below.refl _ _⟩
            clear hX
            go_simp
            all_goals try go_bits
            all_goals try simp only [IntWalk.iteOmega]
            all_goals try go_bits
            all_goals rfl
          · refine step_intro rfl rfl fun ρ X hc hf hgl hX hp ho => ?_
            change StepOk _ { dst := _, op := Op.load 5 (Operand.tmp 66), type := _, pos := _, after := _, guard := _ } _ _ _
            have k66 : ρ (.tmp 66) = ?vpb3 := hp 3 (by decide)
            have cnX := Grows.cell' hX cn
            clear hp ho
            refine StepOk.of_run (v := ?vpb4) (w' := X) ?_ ⟨rfl, Below.refl _ _⟩
            clear hX
            go_simp
            all_goals try go_bits
            all_goals try simp only [IntWalk.iteOmega]
            all_goals try go_bits
            all_goals rfl
          · refine step_intro rfl rfl fun ρ X hc hf hgl hX hp ho => ?_
            change StepOk _ { dst := _, op := Op.binOp BinOp.add 5 (Operand.tmp 67) (Operand.const (Value.int IntKind.u8 1)) 5, type := _, pos := _, after := _, guard := _ } _ _ _
            have k67 : ρ (.tmp 67) = ?vpb4 := hp 4 (by decide)
            clear hp ho
            refine StepOk.of_run (v := ?vpb5) (w' := X) ?_ ⟨rfl, Below.refl _ _⟩
            clear hX
            go_simp
            all_goals try go_bits
            all_goals try simp only [IntWalk.iteOmega]
            all_goals try go_bits
            all_goals rfl
          · refine step_intro rfl rfl fun ρ X hc hf hgl hX hp ho => ?_
            change StepOk _ { dst := _, op := Op.nilCheck (Operand.tmp 63), type := _, pos := _, after := _, guard := _ } _ _ _
            have k63 : ρ (.tmp 63) = ?vpb0 := hp 0 (by decide)
            clear hp ho
            refine StepOk.of_run (v := ?vpb6) (w' := X) ?_ ⟨rfl, Below.refl _ _⟩
            clear hX
            go_simp
            all_goals try go_bits
            all_goals try simp only [IntWalk.iteOmega]
            all_goals try go_bits
            all_goals rfl
          · refine step_intro rfl rfl fun ρ X hc hf hgl hX hp ho => ?_
            change StepOk _ { dst := _, op := Op.fieldAddr 47 (Operand.tmp 69) 0, type := _, pos := _, after := _, guard := _ } _ _ _
            have k69 : ρ (.tmp 69) = ?vpb6 := hp 6 (by decide)
            clear hp ho
            refine StepOk.of_run (v := ?vpb7) (w' := X) ?_ ⟨rfl, Below.refl _ _⟩
            clear hX
            go_simp
            all_goals try go_bits
            all_goals try simp only [IntWalk.iteOmega]
            all_goals try go_bits
            all_goals rfl
          · refine step_intro rfl rfl fun ρ X hc hf hgl hX hp ho => ?_
            change StepOk _ { dst := _, op := Op.indexAddr 45 (Operand.tmp 70) (Operand.const (Value.int IntKind.i64 0)), type := _, pos := _, after := _, guard := _ } _ _ _
            have k70 : ρ (.tmp 70) = ?vpb7 := hp 7 (by decide)
            clear hp ho
            refine StepOk.of_run (v := ?vpb8) (w' := X) ?_ ⟨rfl, Below.refl _ _⟩
            clear hX
            go_simp
            all_goals try go_bits
            all_goals try simp only [IntWalk.iteOmega]
            all_goals try go_bits
            all_goals rfl
          · exact last_intro rfl
        case grdpb => rfl
        case rstpb =>
          intro a0 X hb
          have hfr := hb.frame ((63, ?vpb0) :: (64, ?vpb1) :: (65, ?vpb2) :: (66, ?vpb3) :: (67, ?vpb4) :: (68, ?vpb5) :: (69, ?vpb6) :: (70, ?vpb7) :: (71, ?vpb8) :: []) rfl ⟨hb.done' 0 63 rfl rfl, hb.done' 1 64 rfl rfl, hb.done' 2 65 rfl rfl, hb.done' 3 66 rfl rfl, hb.done' 4 67 rfl rfl, hb.done' 5 68 rfl rfl, hb.done' 6 69 rfl rfl, hb.done' 7 70 rfl rfl, hb.done' 8 71 rfl rfl, trivial⟩
          simp only [updL, ↓reduceIte, Nat.reduceEqDiff, Nat.reduceAdd, Nat.zero_add] at hfr
          have HX := Lib.hid hb.ext
          clear hb
          subst hfr
          change StepOk _ { dst := _, op := Op.store 5 (Operand.tmp 71) (Operand.tmp 68), type := _, pos := _, after := _, guard := _ } _ _ _
          have h0X := HR2.out.grows HX.out
          have fX := h0X.frozen 0
          have cX := h0X.cell 0 (by omega)
          unfold StepOk
          simp [go_sem, execOp, cX, fX]
          have HR3 := Lib.hid (h0X.set 0 (by omega) (UInt8.ofNat (n + 1)) ((n : Int) + 1) (by rw [ofNat_toNat _ hn1]; omega))
          have HU3 := Lib.hid (But.setCell ((HU2.out).trans' (But.ofGrows HX.out)) ⟨g, 0, none⟩ (.int .u8 ((n : Int) + 1)) rfl)
          clear cX fX h0X cn HX HR2 HU2
          obtain ⟨w3, hw3⟩ : ∃ w3, X.setCell ⟨g, 0, none⟩ (.int .u8 ((n : Int) + 1)) = w3 := ⟨_, rfl⟩
          rw [hw3] at HR3 HU3 ⊢
          clear hw3 X
          obtain ⟨f3, Hf3⟩ : ∃ f3, Hid (upd (up2 f1 e d) 0 (UInt8.ofNat (n + 1)) = f3) := ⟨_, rfl⟩
          rw [Hf3.out] at HR3
          have Htop : Hid ((f3 1).toNat = B.top) := by
            show _ = _
            rw [← Hf3.out, ← Hh1.out.enc.top]
            unfold upd up2
            rw [if_neg (by omega), if_neg (by have := He.out; omega)]
          have HY := Lib.hid (vLay w3 g f3 HR3.out i (by have := He.out; omega) (.slice a m cap) c (Hv.out.but (Hu1.out.trans' HU3.out) Ho.out) Ho.out (by rw [Htop.out]; exact Hbt.out) (by rw [Htop.out, Hm.out]; have := HB3.out; omega) (by rw [Hm.out]; exact Hc.out))
          unfold pb at HY
          go_wp2_with (go_at_call 32; refine HY.out.mono ?_; rintro e w4 ⟨rfl, hb4, hu4⟩; have Hb4 := Lib.hid hb4; have Hu4 := Lib.hid hu4; clear hb4 hu4)
          go_ret
          refine ⟨rfl, ⟨_, ⟨Hb4.out, ?_, ?_⟩⟩, (Hu1.out.trans' HU3.out).trans' Hu4.out⟩
          · rw [Hins.out, ← Hf3.out, ← He.out, ← Hd.out, ← HB2.out]
            exact enc_add Hh1.out.enc HB1.out i c (by rw [HB2.out]; exact Hi.out) (by rw [Hm.out]; exact Hc.out) (by rw [HB2.out, Hm.out]; have := HB3.out; omega)
          · rw [Hins.out]
            exact wf_add HB1.out i c (by rw [HB2.out]; exact Hi.out) (by rw [Hm.out]; exact Hc.out) (by rw [HB2.out, Hm.out]; have := HB3.out; omega)
  · have hp' : ¬ (t : Int) < (d : Int) + 2 + (m : Int) := by omega
    rw [if_neg hp] at HBA
    clear hp
    go_enter Try.func14, Try.ntmps14
    go_wp2_with (first
      | (go_at_call 18; refine HL.out.mono ?_; rintro e w1 ⟨rfl, rfl⟩)
      | (go_at_call 19; refine HF.out.mono ?_; rintro e w1 ⟨rfl, hg⟩; have Hh1 := Lib.hid (Hh.out.grows hg); rw [← HBA.out] at Hh1; have Hu1 := Lib.hid (But.ofGrows (O := At g) hg); have HTD := Lib.hid (HD.out _ (Hh.out.grows hg)); have HTT := Lib.hid (HTp.out _ (Hh.out.grows hg)); clear hg)
      | (go_at_call 29; refine HTD.out.mono ?_; rintro e w1 ⟨rfl, rfl⟩)
      | (go_at_call 30; refine HTT.out.mono ?_; rintro e w1 ⟨rfl, rfl⟩)
      | (go_at_call 31; refine (HE.out _).mono ?_; rintro e w1 ⟨rfl, rfl⟩))
    obtain ⟨f1, Hf1⟩ : ∃ f1, Hid (f = f1) := ⟨_, rfl⟩
    rw [Hf1.out] at Hh1
    have hsp1 : IntKind.i64.wrap ((e : Int) + 2) = (e : Int) + 2 := IntWalk.i64_in _ (by omega)
    have hsp2 : (0 : Int) ≤ (e : Int) + 2 := by omega
    have hsp3 : ((e : Int) + 2).toNat = e + 2 := by omega
    have hsp4 : IntKind.i64.wrap ((d : Int) + 2) = (d : Int) + 2 := IntWalk.i64_in _ (by omega)
    have hsp5 : (0 : Int) ≤ (d : Int) + 2 := by omega
    have hsp6 : ((d : Int) + 2).toNat = d + 2 := by omega
    refine specs_last 14
      #[[], [0], [0, 1], [], [3], [], [5], [0, 1, 2, 3, 4, 5, 6], [], [8], [8, 9], [], [], [8, 9, 10, 11, 12], [0, 1, 2, 3, 4, 5, 6, 7, 8, 9, 10, 11, 12, 13]] #[[0], [], [], [7], [], [8], [], [], [0], [], [], [7], [8], [], []] #[true, true, true, true, true, true, true, true, true, true, true, true, true, true, true]
      ((.val ?vqa0) :: (.val ?vqa1) :: (.val ?vqa2) :: (.val ?vqa3) :: (.val ?vqa4) :: (.val ?vqa5) :: (.val ?vqa6) :: (.val (slv g (e + 2) (d + 2))) :: (.val ?vqa8) :: (.val ?vqa9) :: (.val ?vqa10) :: (.val ?vqa11) :: (.val ?vqa12) :: (.val (slv g (e) (d))) :: (.any) :: []).toArray
      hmx ?chkqa ?grdqa rfl ?stpqa ?rstqa
    case chkqa => rfl
    case stpqa =>
      refine ⟨?_, ?_, ?_, ?_, ?_, ?_, ?_, ?_, ?_, ?_, ?_, ?_, ?_, ?_, ?_, trivial⟩
      · refine step_intro rfl rfl fun ρ X hc hf hgl hX hp ho => ?_
        change StepOk _ { dst := _, op := Op.move (Operand.tmp 0), type := _, pos := _, after := _, guard := _ } _ _ _
        have k0 : ρ (.tmp 0) = .pointer (some ⟨g, 0, none⟩) := ho 0 (by decide)
        clear hp ho
        refine StepOk.of_run (v := ?vqa0) (w' := X) ?_ ⟨rfl, Below.refl _ _⟩
        clear hX
        go_simp
        all_goals try go_bits
        all_goals try simp only [IntWalk.iteOmega]
        all_goals try go_bits
        all_goals rfl
      · refine step_intro rfl rfl fun ρ X hc hf hgl hX hp ho => ?_
        change StepOk _ { dst := _, op := Op.nilCheck (Operand.tmp 48), type := _, pos := _, after := _, guard := _ } _ _ _
        have k48 : ρ (.tmp 48) = ?vqa0 := hp 0 (by decide)
        clear hp ho
        refine StepOk.of_run (v := ?vqa1) (w' := X) ?_ ⟨rfl, Below.refl _ _⟩
        clear hX
        go_simp
        all_goals try go_bits
        all_goals try simp only [IntWalk.iteOmega]
        all_goals try go_bits
        all_goals rfl
      · refine step_intro rfl rfl fun ρ X hc hf hgl hX hp ho => ?_
        change StepOk _ { dst := _, op := Op.fieldAddr 47 (Operand.tmp 49) 0, type := _, pos := _, after := _, guard := _ } _ _ _
        have k49 : ρ (.tmp 49) = ?vqa1 := hp 1 (by decide)
        clear hp ho
        refine StepOk.of_run (v := ?vqa2) (w' := X) ?_ ⟨rfl, Below.refl _ _⟩
        clear hX
        go_simp
        all_goals try go_bits
        all_goals try simp only [IntWalk.iteOmega]
        all_goals try go_bits
        all_goals rfl
      · refine step_intro rfl rfl fun ρ X hc hf hgl hX hp ho => ?_
        change StepOk _ { dst := _, op := Op.move (Operand.tmp 7), type := _, pos := _, after := _, guard := _ } _ _ _
        have k7 : ρ (.tmp 7) = .int .i64 (e : Int) := ho 7 (by decide)
        clear hp ho
        refine StepOk.of_run (v := ?vqa3) (w' := X) ?_ ⟨rfl, Below.refl _ _⟩
        clear hX
        go_simp
        all_goals try go_bits
        all_goals try simp only [IntWalk.iteOmega]
        all_goals try go_bits
        all_goals rfl
      · refine step_intro rfl rfl fun ρ X hc hf hgl hX hp ho => ?_
        change StepOk _ { dst := _, op := Op.binOp BinOp.add 3 (Operand.tmp 51) (Operand.const (Value.int IntKind.i64 2)) 3, type := _, pos := _, after := _, guard := _ } _ _ _
        have k51 : ρ (.tmp 51) = ?vqa3 := hp 3 (by decide)
        clear hp ho
        refine StepOk.of_run (v := ?vqa4) (w' := X) ?_ ⟨rfl, Below.refl _ _⟩
        clear hX
        go_simp
        all_goals try go_bits
        all_goals try simp only [IntWalk.iteOmega]
        all_goals try go_bits
        all_goals rfl
      · refine step_intro rfl rfl fun ρ X hc hf hgl hX hp ho => ?_
        change StepOk _ { dst := _, op := Op.move (Operand.tmp 8), type := _, pos := _, after := _, guard := _ } _ _ _
        have k8 : ρ (.tmp 8) = .int .i64 (d : Int) := ho 8 (by decide)
        clear hp ho
        refine StepOk.of_run (v := ?vqa5) (w' := X) ?_ ⟨rfl, Below.refl _ _⟩
        clear hX
        go_simp
        all_goals try go_bits
        all_goals try simp only [IntWalk.iteOmega]
        all_goals try go_bits
        all_goals rfl
      · refine step_intro rfl rfl fun ρ X hc hf hgl hX hp ho => ?_
        change StepOk _ { dst := _, op := Op.binOp BinOp.add 3 (Operand.tmp 53) (Operand.const (Value.int IntKind.i64 2)) 3, type := _, pos := _, after := _, guard := _ } _ _ _
        have k53 : ρ (.tmp 53) = ?vqa5 := hp 5 (by decide)
        clear hp ho
        refine StepOk.of_run (v := ?vqa6) (w' := X) ?_ ⟨rfl, Below.refl _ _⟩
        clear hX
        go_simp
        all_goals try go_bits
        all_goals try simp only [IntWalk.iteOmega]
        all_goals try go_bits
        all_goals rfl
      · refine step_intro rfl rfl fun ρ X hc hf hgl hX hp ho => ?_
        change StepOk _ { dst := _, op := Op.slice 45 (Operand.tmp 50) (some (Operand.tmp 52)) (some (Operand.tmp 54)) none, type := _, pos := _, after := _, guard := _ } _ _ _
        have k50 : ρ (.tmp 50) = ?vqa2 := hp 2 (by decide)
        have k52 : ρ (.tmp 52) = ?vqa4 := hp 4 (by decide)
        have k54 : ρ (.tmp 54) = ?vqa6 := hp 6 (by decide)
        have hsl := run_slI X g (e + 2) (d + 2) ((e : Int) + 2) ((d : Int) + 2) (by omega) (by omega) (by omega) (by omega)
        refine StepOk.of_run (v := slv g (e + 2) (d + 2)) (w' := X) ?_ ⟨rfl, Below.refl _ _⟩
        simp [go_sem, execOp, k50, k52, k54, hsl]
      · refine step_intro rfl rfl fun ρ X hc hf hgl hX hp ho => ?_
        change StepOk _ { dst := _, op := Op.move (Operand.tmp 0), type := _, pos := _, after := _, guard := _ } _ _ _
        have k0 : ρ (.tmp 0) = .pointer (some ⟨g, 0, none⟩) := ho 0 (by decide)
        clear hp ho
        refine StepOk.of_run (v := ?vqa8) (w' := X) ?_ ⟨rfl, Below.refl _ _⟩
        clear hX
        go_simp
        all_goals try go_bits
        all_goals try simp only [IntWalk.iteOmega]
        all_goals try go_bits
        all_goals rfl
      · refine step_intro rfl rfl fun ρ X hc hf hgl hX hp ho => ?_
        change StepOk _ { dst := _, op := Op.nilCheck (Operand.tmp 56), type := _, pos := _, after := _, guard := _ } _ _ _
        have k56 : ρ (.tmp 56) = ?vqa8 := hp 8 (by decide)
        clear hp ho
        refine StepOk.of_run (v := ?vqa9) (w' := X) ?_ ⟨rfl, Below.refl _ _⟩
        clear hX
        go_simp
        all_goals try go_bits
        all_goals try simp only [IntWalk.iteOmega]
        all_goals try go_bits
        all_goals rfl
      · refine step_intro rfl rfl fun ρ X hc hf hgl hX hp ho => ?_
        change StepOk _ { dst := _, op := Op.fieldAddr 47 (Operand.tmp 57) 0, type := _, pos := _, after := _, guard := _ } _ _ _
        have k57 : ρ (.tmp 57) = ?vqa9 := hp 9 (by decide)
        clear hp ho
        refine StepOk.of_run (v := ?vqa10) (w' := X) ?_ ⟨rfl, Below.refl _ _⟩
        clear hX
        go_simp
        all_goals try go_bits
        all_goals try simp only [IntWalk.iteOmega]
        all_goals try go_bits
        all_goals rfl
      · refine step_intro rfl rfl fun ρ X hc hf hgl hX hp ho => ?_
        change StepOk _ { dst := _, op := Op.move (Operand.tmp 7), type := _, pos := _, after := _, guard := _ } _ _ _
        have k7 : ρ (.tmp 7) = .int .i64 (e : Int) := ho 7 (by decide)
        clear hp ho
        refine StepOk.of_run (v := ?vqa11) (w' := X) ?_ ⟨rfl, Below.refl _ _⟩
        clear hX
        go_simp
        all_goals try go_bits
        all_goals try simp only [IntWalk.iteOmega]
        all_goals try go_bits
        all_goals rfl
      · refine step_intro rfl rfl fun ρ X hc hf hgl hX hp ho => ?_
        change StepOk _ { dst := _, op := Op.move (Operand.tmp 8), type := _, pos := _, after := _, guard := _ } _ _ _
        have k8 : ρ (.tmp 8) = .int .i64 (d : Int) := ho 8 (by decide)
        clear hp ho
        refine StepOk.of_run (v := ?vqa12) (w' := X) ?_ ⟨rfl, Below.refl _ _⟩
        clear hX
        go_simp
        all_goals try go_bits
        all_goals try simp only [IntWalk.iteOmega]
        all_goals try go_bits
        all_goals rfl
      · refine step_intro rfl rfl fun ρ X hc hf hgl hX hp ho => ?_
        change StepOk _ { dst := _, op := Op.slice 45 (Operand.tmp 58) (some (Operand.tmp 59)) (some (Operand.tmp 60)) none, type := _, pos := _, after := _, guard := _ } _ _ _
        have k58 : ρ (.tmp 58) = ?vqa10 := hp 10 (by decide)
        have k59 : ρ (.tmp 59) = ?vqa11 := hp 11 (by decide)
        have k60 : ρ (.tmp 60) = ?vqa12 := hp 12 (by decide)
        have hsl := run_slI X g (e) (d) ((e : Int)) ((d : Int)) (by omega) (by omega) (by omega) (by omega)
        refine StepOk.of_run (v := slv g (e) (d)) (w' := X) ?_ ⟨rfl, Below.refl _ _⟩
        simp [go_sem, execOp, k58, k59, k60, hsl]
      · exact last_intro rfl
    case grdqa => rfl
    case rstqa =>
      intro a0 X hb
      obtain ⟨x62, hx62⟩ : ∃ x, a0.tmps.getD 62 undef = x := ⟨_, rfl⟩
      have hfr := hb.frame ((48, ?vqa0) :: (49, ?vqa1) :: (50, ?vqa2) :: (51, ?vqa3) :: (52, ?vqa4) :: (53, ?vqa5) :: (54, ?vqa6) :: (55, (slv g (e + 2) (d + 2))) :: (56, ?vqa8) :: (57, ?vqa9) :: (58, ?vqa10) :: (59, ?vqa11) :: (60, ?vqa12) :: (61, (slv g (e) (d))) :: (62, x62) :: []) rfl ⟨hb.done' 0 48 rfl rfl, hb.done' 1 49 rfl rfl, hb.done' 2 50 rfl rfl, hb.done' 3 51 rfl rfl, hb.done' 4 52 rfl rfl, hb.done' 5 53 rfl rfl, hb.done' 6 54 rfl rfl, hb.done' 7 55 rfl rfl, hb.done' 8 56 rfl rfl, hb.done' 9 57 rfl rfl, hb.done' 10 58 rfl rfl, hb.done' 11 59 rfl rfl, hb.done' 12 60 rfl rfl, hb.done' 13 61 rfl rfl, hx62, trivial⟩
      simp only [updL, ↓reduceIte, Nat.reduceEqDiff, Nat.reduceAdd, Nat.zero_add] at hfr
      have HX := Lib.hid hb.ext
      clear hb
      subst hfr
      change StepOk _ { dst := _, op := Op.call { callee := Callee.builtin Builtin.copy, args := #[Operand.tmp 55, Operand.tmp 61], argTypes := #[30, 30] }, type := _, pos := _, after := _, guard := _ } _ _ _
      obtain ⟨w2, hr, hb2, hu2⟩ := run_copyBody (Hh1.out.at_.grows HX.out) (e + 2) (d + 2) (by omega) (by omega) (slv g e d) _ ((Hh1.out.at_.grows HX.out).slv e d (by omega) (by omega)) 3
      refine StepOk.of_run (v := goInt ((min (rowOf (fun j => f1 (e + j)) (d - e)).length (d + 2 - (e + 2)) : Nat) : Int)) (w' := w2) ?_ ?_
      · simp only [execOp, resolve, invoke, builtin, Sem.run_bind, Sem.run_pure, Result.andThen_ok, List.map_toArray, List.map_cons, List.map_nil]
        show (Result.andThen ((Builtin.copy_ #[30, 30] _ #[slv g (e + 2) (d + 2), slv g e d]).run Try.prog X) _) = _
        rw [hr]
        rfl
      · rw [ovr_up2 f1 e d hed] at hb2
        have HR2 := Lib.hid hb2
        have HU2 := Lib.hid ((But.ofGrows (O := At g) HX.out).trans' hu2)
        clear hr hb2 hu2 HX hsp1 hsp2 hsp3 hsp4 hsp5 hsp6
        have cn := HR2.out.cell 0 (by omega)
        rw [show up2 f1 e d 0 = f1 0 by unfold up2; rw [if_neg (by omega)], Hh1.out.enc.n, HB2.out] at cn
        go_wp2
        refine specs_last 9
          #[[], [0], [0, 1], [0, 1, 2], [0, 1, 2, 3], [0, 1, 2, 3, 4], [0], [0, 6], [0, 1, 2, 3, 4, 5, 6, 7], [0, 1, 2, 3, 4, 5, 6, 7, 8]] #[[0], [], [], [], [], [], [], [], [], []] #[true, true, true, true, true, true, true, true, true, true]
          ((.val ?vqb0) :: (.val ?vqb1) :: (.val ?vqb2) :: (.val ?vqb3) :: (.val ?vqb4) :: (.val ?vqb5) :: (.val ?vqb6) :: (.val ?vqb7) :: (.val ?vqb8) :: (.any) :: []).toArray
          hmx ?chkqb ?grdqb rfl ?stpqb ?rstqb
        case chkqb => rfl
        case stpqb =>
          refine ⟨?_, ?_, ?_, ?_, ?_, ?_, ?_, ?_, ?_, ?_, trivial⟩
          · refine step_intro rfl rfl fun ρ X hc hf hgl hX hp ho => ?_
            change StepOk _ { dst := _, op := Op.move (Operand.tmp 0), type := _, pos := _, after := _, guard := _ } _ _ _
            have k0 : ρ (.tmp 0) = .pointer (some ⟨g, 0, none⟩) := ho 0 (by decide)
            clear hp ho
            refine StepOk.of_run (v := ?vqb0) (w' := X) ?_ ⟨rfl, Below.refl _ _⟩
            clear hX
            go_simp
            all_goals try go_bits
            all_goals try simp only [IntWalk.iteOmega]
            all_goals try go_bits
            all_goals rfl
          · refine step_intro rfl rfl fun ρ X hc hf hgl hX hp ho => ?_
            change StepOk _ { dst := _, op := Op.nilCheck (Operand.tmp 63), type := _, pos := _, after := _, guard := _ } _ _ _
            have k63 : ρ (.tmp 63) = ?vqb0 := hp 0 (by decide)
            clear hp ho
            refine StepOk.of_run (v := ?vqb1) (w' := X) ?_ ⟨rfl, Below.refl _ _⟩
            clear hX
            go_simp
            all_goals try go_bits
            all_goals try simp only [IntWalk.iteOmega]
            all_goals try go_bits
            all_goals rfl
          · refine step_intro rfl rfl fun ρ X hc hf hgl hX hp ho => ?_
            change StepOk _ { dst := _, op := Op.fieldAddr 47 (Operand.tmp 64) 0, type := _, pos := _, after := _, guard := _ } _ _ _
            have k64 : ρ (.tmp 64) = ?vqb1 := hp 1 (by decide)
            clear hp ho
            refine StepOk.of_run (v := ?vqb2) (w' := X) ?_ ⟨rfl, Below.refl _ _⟩
            clear hX
            go_simp
            all_goals try go_bits
            all_goals try simp only [IntWalk.iteOmega]
            all_goals try go_bits
            all_goals rfl
          · refine step_intro rfl rfl fun ρ X hc hf hgl hX hp ho => ?_
            change StepOk _ { dst := _, op := Op.indexAddr 45 (Operand.tmp 65) (Operand.const (Value.int IntKind.i64 0)), type := _, pos := _, after := _, guard := _ } _ _ _
            have k65 : ρ (.tmp 65) = ?vqb2 := hp 2 (by decide)
            clear hp ho
            refine StepOk.of_run (v := ?vqb3) (w' := X) ?_ ⟨rfl, Below.refl _ _⟩
            clear hX
            go_simp
            all_goals try go_bits
            all_goals try simp only [IntWalk.iteOmega]
            all_goals try go_bits
            all_goals rfl
          · refine step_intro rfl rfl fun ρ X hc hf hgl hX hp ho => ?_
            change StepOk _ { dst := _, op := Op.load 5 (Operand.tmp 66), type := _, pos := _, after := _, guard := _ } _ _ _
            have k66 : ρ (.tmp 66) = ?vqb3 := hp 3 (by decide)
            have cnX := Grows.cell' hX cn
            clear hp ho
            refine StepOk.of_run (v := ?vqb4) (w' := X) ?_ ⟨rfl, Below.refl _ _⟩
            clear hX
            go_simp
            all_goals try go_bits
            all_goals try simp only [IntWalk.iteOmega]
            all_goals try go_bits
            all_goals rfl
          · refine step_intro rfl rfl fun ρ X hc hf hgl hX hp ho => ?_
            change StepOk _ { dst := _, op := Op.binOp BinOp.add 5 (Operand.tmp 67) (Operand.const (Value.int IntKind.u8 1)) 5, type := _, pos := _, after := _, guard := _ } _ _ _
            have k67 : ρ (.tmp 67) = ?vqb4 := hp 4 (by decide)
            clear hp ho
            refine StepOk.of_run (v := ?vqb5) (w' := X) ?_ ⟨rfl, Below.refl _ _⟩
            clear hX
            go_simp
            all_goals try go_bits
            all_goals try simp only [IntWalk.iteOmega]
            all_goals try go_bits
            all_goals rfl
          · refine step_intro rfl rfl fun ρ X hc hf hgl hX hp ho => ?_
            change StepOk _ { dst := _, op := Op.nilCheck (Operand.tmp 63), type := _, pos := _, after := _, guard := _ } _ _ _
            have k63 : ρ (.tmp 63) = ?vqb0 := hp 0 (by decide)
            clear hp ho
            refine StepOk.of_run (v := ?vqb6) (w' := X) ?_ ⟨rfl, Below.refl _ _⟩
            clear hX
            go_simp
            all_goals try go_bits
            all_goals try simp only [IntWalk.iteOmega]
            all_goals try go_bits
            all_goals rfl
          · refine step_intro rfl rfl fun ρ X hc hf hgl hX hp ho => ?_
            change StepOk _ { dst := _, op := Op.fieldAddr 47 (Operand.tmp 69) 0, type := _, pos := _, after := _, guard := _ } _ _ _
            have k69 : ρ (.tmp 69) = ?vqb6 := hp 6 (by decide)
            clear hp ho
            refine StepOk.of_run (v := ?vqb7) (w' := X) ?_ ⟨rfl, Below.refl _ _⟩
            clear hX
            go_simp
            all_goals try go_bits
            all_goals try simp only [IntWalk.iteOmega]
            all_goals try go_bits
            all_goals rfl
          · refine step_intro rfl rfl fun ρ X hc hf hgl hX hp ho => ?_
            change StepOk _ { dst := _, op := Op.indexAddr 45 (Operand.tmp 70) (Operand.const (Value.int IntKind.i64 0)), type := _, pos := _, after := _, guard := _ } _ _ _
            have k70 : ρ (.tmp 70) = ?vqb7 := hp 7 (by decide)
            clear hp ho
            refine StepOk.of_run (v := ?vqb8) (w' := X) ?_ ⟨rfl, Below.refl _ _⟩
            clear hX
            go_simp
            all_goals try go_bits
            all_goals try simp only [IntWalk.iteOmega]
            all_goals try go_bits
            all_goals rfl
          · exact last_intro rfl
        case grdqb => rfl
        case rstqb =>
          intro a0 X hb
          have hfr := hb.frame ((63, ?vqb0) :: (64, ?vqb1) :: (65, ?vqb2) :: (66, ?vqb3) :: (67, ?vqb4) :: (68, ?vqb5) :: (69, ?vqb6) :: (70, ?vqb7) :: (71, ?vqb8) :: []) rfl ⟨hb.done' 0 63 rfl rfl, hb.done' 1 64 rfl rfl, hb.done' 2 65 rfl rfl, hb.done' 3 66 rfl rfl, hb.done' 4 67 rfl rfl, hb.done' 5 68 rfl rfl, hb.done' 6 69 rfl rfl, hb.done' 7 70 rfl rfl, hb.done' 8 71 rfl rfl, trivial⟩
          simp only [updL, ↓reduceIte, Nat.reduceEqDiff, Nat.reduceAdd, Nat.zero_add] at hfr
          have HX := Lib.hid hb.ext
          clear hb
          subst hfr
          change StepOk _ { dst := _, op := Op.store 5 (Operand.tmp 71) (Operand.tmp 68), type := _, pos := _, after := _, guard := _ } _ _ _
          have h0X := HR2.out.grows HX.out
          have fX := h0X.frozen 0
          have cX := h0X.cell 0 (by omega)
          unfold StepOk
          simp [go_sem, execOp, cX, fX]
          have HR3 := Lib.hid (h0X.set 0 (by omega) (UInt8.ofNat (n + 1)) ((n : Int) + 1) (by rw [ofNat_toNat _ hn1]; omega))
          have HU3 := Lib.hid (But.setCell ((HU2.out).trans' (But.ofGrows HX.out)) ⟨g, 0, none⟩ (.int .u8 ((n : Int) + 1)) rfl)
          clear cX fX h0X cn HX HR2 HU2
          obtain ⟨w3, hw3⟩ : ∃ w3, X.setCell ⟨g, 0, none⟩ (.int .u8 ((n : Int) + 1)) = w3 := ⟨_, rfl⟩
          rw [hw3] at HR3 HU3 ⊢
          clear hw3 X
          obtain ⟨f3, Hf3⟩ : ∃ f3, Hid (upd (up2 f1 e d) 0 (UInt8.ofNat (n + 1)) = f3) := ⟨_, rfl⟩
          rw [Hf3.out] at HR3
          have Htop : Hid ((f3 1).toNat = B.top) := by
            show _ = _
            rw [← Hf3.out, ← Hh1.out.enc.top]
            unfold upd up2
            rw [if_neg (by omega), if_neg (by have := He.out; omega)]
          have HY := Lib.hid (vLay w3 g f3 HR3.out i (by have := He.out; omega) (.slice a m cap) c (Hv.out.but (Hu1.out.trans' HU3.out) Ho.out) Ho.out (by rw [Htop.out]; exact Hbt.out) (by rw [Htop.out, Hm.out]; have := HB3.out; omega) (by rw [Hm.out]; exact Hc.out))
          unfold pb at HY
          go_wp2_with (go_at_call 32; refine HY.out.mono ?_; rintro e w4 ⟨rfl, hb4, hu4⟩; have Hb4 := Lib.hid hb4; have Hu4 := Lib.hid hu4; clear hb4 hu4)
          go_ret
          refine ⟨rfl, ⟨_, ⟨Hb4.out, ?_, ?_⟩⟩, (Hu1.out.trans' HU3.out).trans' Hu4.out⟩
          · rw [Hins.out, ← Hf3.out, ← He.out, ← Hd.out, ← HB2.out]
            exact enc_add Hh1.out.enc HB1.out i c (by rw [HB2.out]; exact Hi.out) (by rw [Hm.out]; exact Hc.out) (by rw [HB2.out, Hm.out]; have := HB3.out; omega)
          · rw [Hins.out]
            exact wf_add HB1.out i c (by rw [HB2.out]; exact Hi.out) (by rw [Hm.out]; exact Hc.out) (by rw [HB2.out, Hm.out]; have := HB3.out; omega)
set_option maxRecDepth 100000 in
theorem hDelNo {w : World} {g : Nat} {f : Raw} {A : Bo} (h : Has w g f A) (i : Int) (hi : i < 0 ∨ (A.l.length : Int) ≤ i) : Calls Try.prog 15 #[pb g, .int .i64 i] w fun e w' => e = .returned (.int .i64 7) ∧ w = w' := by
  have H1 := Lib.hid (hHasNo h i hi)
  clear h hi
  unfold pb at *
  go_enter Try.func15, Try.ntmps15
  go_wp2_with (go_at_call 33; refine H1.out.mono ?_; rintro e w1 ⟨rfl, rfl⟩)
  go_ret
  exact ⟨rfl, rfl⟩
end Go.Proofs.Ytpodbhimkbadhaa
