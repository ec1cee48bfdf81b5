/-
  The contract of the document's own Open.
-/
import Derived.Test.YtfgnniajancpcaaPgE
import Derived.Test.YtfgnniajancpcaaPgR
import Derived.Test.YtfgnniajancpcaaBut
namespace Go.Proofs.Ytfgnniajancpcaa
open Go.RowKit
set_option linter.unusedVariables false
set_option linter.unusedSimpArgs false

set_option maxRecDepth 100000 in
theorem rOpen_len (v : Value) (l : List UInt8) (w : World) (h : Byt w v l) (hl : ¬ l.length = 256) :
    Calls Try.prog 10 #[v] w fun e w' => e = .returned (.tuple #[pgv 0 0 (.slice none 0 0), .int .i64 50]) ∧ Grows w w' := by
  obtain ⟨a, cap, rfl⟩ := h.slice
  clear h
  have hl' : ¬ (l.length : Int) = 256 := by omega
  clear hl
  go_enter Try.func10, Try.ntmps10
  go_wp2
  exact ret_cell_tmp rfl w.heap.size 25 #[.int .i64 0, .int .u64 0, .slice none 0 0] _ rfl (heap_alloc_new _ _) Try.underlying25 rfl sizePg rfl ⟨rfl, Grows.alloc' _ _⟩

set_option maxRecDepth 100000 in
theorem rOpen_check (v : Value) (l : List UInt8) (w : World) (h : Byt w v l) (hl : l.length = 256) (hc : (checkC l).2 = false) :
    Calls Try.prog 10 #[v] w fun e w' => e = .returned (.tuple #[pgv 0 0 (.slice none 0 0), .int .i64 51]) ∧ Grows w w' := by
  have HC := Lib.hid (refCheckC v l (w.alloc (.cells #[.int .i64 0, .int .u64 0, .slice none 0 0] 25)) (h.grows (Grows.alloc' _ _)) (by omega))
  rw [hc] at HC
  obtain ⟨a, cap, rfl⟩ := h.slice
  clear h hc
  have hl' : (l.length : Int) = 256 := by omega
  clear hl
  go_enter Try.func10, Try.ntmps10
  go_wp2_with fail
  refine HC.out.mono ?_
  rintro e w1 ⟨v1, rfl, hb1, hg1⟩
  have HG1 := Lib.hid (Grows.trans' (Grows.alloc' _ _) hg1)
  have HR1 := Lib.hid (hg1.heap' (heap_alloc_new w (.cells #[.int .i64 0, .int .u64 0, .slice none 0 0] 25)))
  clear hb1 hg1
  go_wp2_with (refine wpList_storeT rfl 25 (.tmp 2) (.tmp 17) rfl w.heap.size 25 _ #[.int .i64 0, .int .u64 0, .slice none 0 0] rfl rfl HR1.out sizePg rfl (pgOne 0 0 _ _ _) ?_)
  exact ret_cell_tmp rfl w.heap.size 25 #[.int .i64 0, .int .u64 0, .slice none 0 0] _ rfl (setRow_heap _ _ _ _ _ _ HR1.out) Try.underlying25 rfl sizePg rfl ⟨rfl, below_setRow HG1.out (Nat.le_refl _) _⟩

theorem byt_outside {W : World} {g : Nat} {b o n c : Nat} (h : b ≠ g) : Outside (fun k => k = g) (.slice (some ⟨b, o, none⟩) n c) := by
  intro b' o' sp n' c' e _ hb
  simp only [Value.slice.injEq, Option.some.injEq, Addr.mk.injEq] at e
  exact h (e.1.1.trans hb)
/-- Bytes that do not lie in block g. -/
def outS (g : Nat) (l : List UInt8) : SpecK (But fun k => k = g) := .pred (fun v W => Byt W v l ∧ Outside (fun k => k = g) v ∧ v.oneCell' = true) (fun _ _ _ h ⟨hb, ho, h1⟩ => ⟨hb.but h ho, ho, h1⟩)
/-- What stands for a page, outside of block g. -/
def outP (g : Nat) (c n : Int) (l : List UInt8) : SpecK (But fun k => k = g) := .pred (fun v W => ∃ u, v = .agg #[.int .i64 c, .int .u64 n, u] ∧ Byt W u l ∧ Outside (fun k => k = g) u ∧ u.oneCell' = true) (fun _ _ _ h ⟨u, e, hb, ho, h1⟩ => ⟨u, e, hb.but h ho, ho, h1⟩)
theorem own_out {e g : Nat} {W0 W : World} {v : Value} {l : List UInt8} (h : Own e W0.heap.size W v l) (hl : 0 < l.length) (hg : g < W0.heap.size) : Byt W v l ∧ Outside (fun k => k = g) v ∧ v.oneCell' = true := by
  refine ⟨h.byt, ?_, own_oneCell h⟩
  obtain ⟨q, cap, rfl, hq⟩ := h.form hl
  exact byt_outside (W := W) (by omega)
def zrow (W : World) (g : Nat) : Prop := W.heap[g]? = some (.cells #[.int .i64 0, .int .u64 0, .slice none 0 0] 25 (0, 0))
/-- The result's row: as it was until operation 12 stores. -/
def pgT (g : Nat) (c n : Int) (l : List UInt8) : StateK :=
  { Ψ := fun s W => match s with
      | 0 => zrow W g
      | 1 => ∃ u, W.heap[g]? = some (.cells #[.int .i64 c, .int .u64 n, u] 25 (0, 0)) ∧ Byt W u l ∧ Outside (fun k => k = g) u
      | _ => True
    made := #[none, some 12], kl := #[[12], []], use := #[[], [], [], [], [], [], [], [], [], [], [], [], [0]], muts := [12] }
theorem pgT_ks (g : Nat) (c n : Int) (l : List UInt8) : ∀ i s W W', i ∉ (pgT g c n l).kl.getD s [] → (pgT g c n l).made.getD s none ≠ some i → (pgT g c n l).rel (But fun k => k = g) i W W' → (pgT g c n l).Ψ s W → (pgT g c n l).Ψ s W' := by
  intro i s W W' h1 h2 h3 h4
  match s with
  | 0 =>
    have hi : i ≠ 12 := by simpa [pgT] using h1
    have h5 : Grows W W' := by simpa [StateK.rel, pgT, hi] using h3
    exact h5.heap' h4
  | 1 =>
    have hi : i ≠ 12 := by intro e; exact h2 (by rw [e]; rfl)
    have h5 : Grows W W' := by simpa [StateK.rel, pgT, hi] using h3
    obtain ⟨u, a1, a2, a3⟩ := h4
    exact ⟨u, h5.heap' a1, a2.grows h5, a3⟩
  | _ + 2 => trivial

set_option maxRecDepth 100000 in
set_option maxHeartbeats 1000000 in
theorem rOpen_bad (v : Value) (l : List UInt8) (w : World) (h : Byt w v l) (hl : l.length = 256) (hc : (checkC l).2 = true) (hk : isK (ofC (checkC l).1).kind = false) :
    Calls Try.prog 10 #[v] w fun e w' => ∃ u, e = .returned (.tuple #[pgv (openP l).1.kind (openP l).1.lsn u, .int .i64 ((openP l).2 : Nat)]) ∧ Byt w' u (openP l).1.body ∧ Grows w w' := by
  have hcl := check_len l hc
  have hk0 : isK (ofC (checkC l).1).kind = false := hk
  have hop := check_no l hl hc hk
  rw [hop]
  have HC := Lib.hid (refCheckC v l (w.alloc (.cells #[.int .i64 0, .int .u64 0, .slice none 0 0] 25)) (h.grows (Grows.alloc' _ _)) (by omega))
  rw [hc] at HC
  obtain ⟨m, Hm⟩ : ∃ m, Hid ((checkC l).1 = m) := ⟨_, Lib.hid rfl⟩
  have hml : m.length = 252 := by rw [← Hm.out]; omega
  rw [Hm.out] at HC hk0
  obtain ⟨p1, p2, p3, p4⟩ := ofC_parts m hml
  obtain ⟨a, cap, rfl⟩ := h.slice
  clear h hc hop hcl hk
  have hl' : (l.length : Int) = 256 := by omega
  have Hml := Lib.hid hml
  obtain ⟨c, Hc⟩ : ∃ c, Hid ((m.getD 0 0).toNat = c) := ⟨_, Lib.hid rfl⟩
  obtain ⟨n, Hn⟩ : ∃ n, Hid (numG ((m.drop 1).take 8) = n) := ⟨_, Lib.hid rfl⟩
  have hc256 : c < 256 := by rw [← Hc.out]; exact (m.getD 0 0).toNat_lt
  rw [Hc.out] at p1
  rw [Hn.out] at p2 p4
  have Hof : Hid (ofC m = ⟨(c : Int), n, m.drop 9⟩) := by show _ = _; unfold ofC; rw [Hc.out, Hn.out]
  rw [Hof.out] at hk0
  have HK := Lib.hid (fun w => rKindIs (c : Int) false hk0 w)
  have HN8 := Lib.hid (fun (v : Value) (w : World) (h : Byt w v ((m.drop 1).take 8)) => (by have := refNumber v _ w h; rw [p2] at this; exact this : Calls Try.prog 24 #[v] w fun e w' => e = .returned (.int .u64 n) ∧ w = w'))
  have H3 := Lib.hid p3
  clear hml hl p1 p2 p3 hk0
  go_enter Try.func10, Try.ntmps10
  go_wp2_with fail
  refine HC.out.mono ?_
  rintro e w1 ⟨v1, rfl, hb1, hg1⟩
  have HG1 := Lib.hid (Grows.trans' (Grows.alloc' _ _) hg1)
  have HR1 := Lib.hid (hg1.heap' (heap_alloc_new w (.cells #[.int .i64 0, .int .u64 0, .slice none 0 0] 25)))
  obtain ⟨b, off, k, rfl, hk1, hk2, hcl⟩ := byt_form hb1 (by rw [Hml.out]; omega)
  have Hcl := Lib.hid hcl
  have hcb := hcl 0 (by rw [Hml.out]; omega)
  rw [Nat.add_zero, show bv (m.getD 0 0) = .int .u8 (c : Int) by unfold bv; rw [Hc.out]] at hcb
  have Hbg : Hid (b ≠ w.heap.size) := by
    show b ≠ _
    intro eb
    have h1 := hcl 242 (by rw [Hml.out]; omega)
    rw [cell_of_row w1 b _ _ _ (0, 0) (by rw [eb]; exact HR1.out), Array.getElem?_eq_none (by simp <;> omega)] at h1
    cases h1
  rw [Hml.out] at hk1 ⊢
  clear hg1 hb1 hcl
  go_wp2_with (first
    | (go_at_call 18; refine (HK.out _).mono ?_; rintro e w4 ⟨rfl, rfl⟩)
    | (refine wpList_storeT rfl 25 (.tmp 2) (.tmp 24) rfl w.heap.size 25 _ #[.int .i64 0, .int .u64 0, .slice none 0 0] rfl rfl HR1.out sizePg rfl (pgOne 0 0 _ _ _) ?_))
  refine ret_cell_tmp rfl w.heap.size 25 #[.int .i64 0, .int .u64 0, .slice none 0 0] _ rfl (setRow_heap _ _ _ _ _ _ HR1.out) Try.underlying25 rfl sizePg rfl ?_
  have hgz := below_setRow HG1.out (Nat.le_refl _) #[.int .i64 0, .int .u64 0, .slice none 0 0]
  exact ⟨_, rfl, Byt.nil _, hgz⟩

set_option maxRecDepth 100000 in
set_option maxHeartbeats 1000000 in
theorem rOpen_ok (v : Value) (l : List UInt8) (w : World) (h : Byt w v l) (hl : l.length = 256) (hc : (checkC l).2 = true) (hk : isK (ofC (checkC l).1).kind = true) :
    Calls Try.prog 10 #[v] w fun e w' => ∃ u, e = .returned (.tuple #[pgv (openP l).1.kind (openP l).1.lsn u, .int .i64 ((openP l).2 : Nat)]) ∧ Byt w' u (openP l).1.body ∧ Grows w w' := by
  obtain ⟨i0, hi, hz0, hz1, hz2⟩ := info_parts info5
  have hmx : Try.prog.follows .mixedOrders = true := by kernel_rfl
  have hcl := check_len l hc
  have hk0 : isK (ofC (checkC l).1).kind = true := hk
  have hop := check_yes l hl hc hk
  rw [hop]
  have HC := Lib.hid (refCheckC v l (w.alloc (.cells #[.int .i64 0, .int .u64 0, .slice none 0 0] 25)) (h.grows (Grows.alloc' _ _)) (by omega))
  rw [hc] at HC
  obtain ⟨m, Hm⟩ : ∃ m, Hid ((checkC l).1 = m) := ⟨_, Lib.hid rfl⟩
  have hml : m.length = 252 := by rw [← Hm.out]; omega
  rw [Hm.out] at HC hk0 ⊢
  obtain ⟨p1, p2, p3, p4⟩ := ofC_parts m hml
  obtain ⟨a, cap, rfl⟩ := h.slice
  clear h hc hop hcl hk
  have hl' : (l.length : Int) = 256 := by omega
  have Hml := Lib.hid hml
  obtain ⟨c, Hc⟩ : ∃ c, Hid ((m.getD 0 0).toNat = c) := ⟨_, Lib.hid rfl⟩
  obtain ⟨n, Hn⟩ : ∃ n, Hid (numG ((m.drop 1).take 8) = n) := ⟨_, Lib.hid rfl⟩
  have hc256 : c < 256 := by rw [← Hc.out]; exact (m.getD 0 0).toNat_lt
  rw [Hc.out] at p1
  rw [Hn.out] at p2 p4
  have Hof : Hid (ofC m = ⟨(c : Int), n, m.drop 9⟩) := by show _ = _; unfold ofC; rw [Hc.out, Hn.out]
  rw [Hof.out] at hk0 ⊢
  have HK := Lib.hid (fun w => rKindIs (c : Int) true hk0 w)
  have HN8 := Lib.hid (fun (v : Value) (w : World) (h : Byt w v ((m.drop 1).take 8)) => (by have := refNumber v _ w h; rw [p2] at this; exact this : Calls Try.prog 24 #[v] w fun e w' => e = .returned (.int .u64 n) ∧ w = w'))
  have H3 := Lib.hid p3
  clear hml hl p1 p2 p3 hk0
  go_enter Try.func10, Try.ntmps10
  go_wp2_with fail
  refine HC.out.mono ?_
  rintro e w1 ⟨v1, rfl, hb1, hg1⟩
  have HG1 := Lib.hid (Grows.trans' (Grows.alloc' _ _) hg1)
  have HR1 := Lib.hid (hg1.heap' (heap_alloc_new w (.cells #[.int .i64 0, .int .u64 0, .slice none 0 0] 25)))
  obtain ⟨b, off, k, rfl, hk1, hk2, hcl⟩ := byt_form hb1 (by rw [Hml.out]; omega)
  have Hcl := Lib.hid hcl
  have hcb := hcl 0 (by rw [Hml.out]; omega)
  rw [Nat.add_zero, show bv (m.getD 0 0) = .int .u8 (c : Int) by unfold bv; rw [Hc.out]] at hcb
  have Hbg : Hid (b ≠ w.heap.size) := by
    show b ≠ _
    intro eb
    have h1 := hcl 242 (by rw [Hml.out]; omega)
    rw [cell_of_row w1 b _ _ _ (0, 0) (by rw [eb]; exact HR1.out), Array.getElem?_eq_none (by simp <;> omega)] at h1
    cases h1
  rw [Hml.out] at hk1 ⊢
  clear hg1 hb1 hcl
  obtain ⟨g, Hg⟩ : ∃ g, Hid (w.heap.size = g) := ⟨_, Lib.hid rfl⟩
  rw [Hg.out] at HR1 Hbg ⊢
  have hk9 : ¬ k = 9 := by omega
  have hk19 : ¬ k = 1 := by omega
  have hki : (252 : Int) ≤ (k : Int) := by omega
  go_wp2_with (first
    | (go_at_call 18; refine (HK.out _).mono ?_; rintro e w4 ⟨rfl, rfl⟩))
  refine region_K (E := (But fun k => k = g)) (But.ok _) But.ofGrows
    #[[], [0], [0, 1], [0, 1, 2], [], [4], [4, 5], [], [], [8], [4, 5, 6, 7, 8, 9], [0, 1, 2, 3, 4, 5, 6, 7, 8, 9, 10], [0, 1, 2, 3, 4, 5, 6, 7, 8, 9, 10, 11], [0, 1, 2, 3, 4, 5, 6, 7, 8, 9, 10, 11, 12]] #[[4], [], [], [], [4], [], [], [], [4], [], [], [], [2], []] #[true, true, true, true, true, true, true, true, true, true, true, true, true, true]
    ((.val ?v0) :: (.val ?v1) :: (.val ?v2) :: (.val ?v3) :: (.val ?v4) :: (.val ?v5) :: (.val (.int .u64 (n : Int))) :: (.pred (fun v _ => ∃ a, v = .slice (some a) 0 0) (fun _ _ _ _ h => h)) :: (.val ?v8) :: (.val ?v9) :: (outS g (m.drop 9)) :: (outP g (c : Int) (n : Int) (m.drop 9)) :: (.any) :: (.val ?v13) :: []).toArray
    (pgT g (c : Int) (n : Int) (m.drop 9))
    (pgT_ks _ _ _ _)
    (fun s hs => match s, hs with | 0, _ => HR1.out | 1, h => by simp [pgT] at h | _ + 2, _ => trivial)
    hmx ?chk rfl ?grd ?stp ?rst
  case chk => rfl
  case stp =>
    refine ⟨?_, ?_, ?_, ?_, ?_, ?_, ?_, ?_, ?_, ?_, ?_, ?_, ?_, ?_, trivial⟩
    · refine step_introK rfl rfl fun ρ X hc hf hgl hX hp ho hu => ?_
      change StepOk _ { dst := _, op := Op.move (Operand.tmp 4), type := _, pos := _, after := _, guard := _ } _ _ _
      have k4 : ρ (.tmp 4) = .slice (some ⟨b, off, none⟩) 252 k := ho 4 (by decide)
      refine stepK_plain (i := 0) rfl ?_
      clear hu
      clear hp ho
      refine StepOk.of_run (v := ?v0) (w' := X) ?_ ⟨rfl, Below.refl _ _⟩
      clear hX
      go_simp
      all_goals try go_bits
      all_goals try simp only [IntWalk.iteOmega]
      all_goals try go_bits
      all_goals rfl
    · refine step_introK rfl rfl fun ρ X hc hf hgl hX hp ho hu => ?_
      change StepOk _ { dst := _, op := Op.indexAddr 23 (Operand.tmp 25) (Operand.const (Value.int IntKind.i64 0)), type := _, pos := _, after := _, guard := _ } _ _ _
      have k25 : ρ (.tmp 25) = ?v0 := hp 0 (by decide)
      refine stepK_plain (i := 1) rfl ?_
      clear hu
      clear hp ho
      refine StepOk.of_run (v := ?v1) (w' := X) ?_ ⟨rfl, Below.refl _ _⟩
      clear hX
      go_simp
      all_goals try go_bits
      all_goals try simp only [IntWalk.iteOmega]
      all_goals try go_bits
      all_goals rfl
    · refine step_introK rfl rfl fun ρ X hc hf hgl hX hp ho hu => ?_
      change StepOk _ { dst := _, op := Op.load 5 (Operand.tmp 26), type := _, pos := _, after := _, guard := _ } _ _ _
      have k26 : ρ (.tmp 26) = ?v1 := hp 1 (by decide)
      refine stepK_plain (i := 2) rfl ?_
      clear hu
      have hcbX := But.cell hX Hbg.out hcb
      clear hp ho
      refine StepOk.of_run (v := ?v2) (w' := X) ?_ ⟨rfl, Below.refl _ _⟩
      clear hX
      go_simp
      all_goals try go_bits
      all_goals try simp only [IntWalk.iteOmega]
      all_goals try go_bits
      all_goals rfl
    · refine step_introK rfl rfl fun ρ X hc hf hgl hX hp ho hu => ?_
      change StepOk _ { dst := _, op := Op.convert 5 3 (Operand.tmp 27), type := _, pos := _, after := _, guard := _ } _ _ _
      have k27 : ρ (.tmp 27) = ?v2 := hp 2 (by decide)
      refine stepK_plain (i := 3) rfl ?_
      clear hu
      clear hp ho
      refine StepOk.of_run (v := ?v3) (w' := X) ?_ ⟨rfl, Below.refl _ _⟩
      clear hX
      go_simp
      all_goals try go_bits
      all_goals try simp only [IntWalk.iteOmega]
      all_goals try go_bits
      all_goals rfl
    · refine step_introK rfl rfl fun ρ X hc hf hgl hX hp ho hu => ?_
      change StepOk _ { dst := _, op := Op.move (Operand.tmp 4), type := _, pos := _, after := _, guard := _ } _ _ _
      have k4 : ρ (.tmp 4) = .slice (some ⟨b, off, none⟩) 252 k := ho 4 (by decide)
      refine stepK_plain (i := 4) rfl ?_
      clear hu
      clear hp ho
      refine StepOk.of_run (v := ?v4) (w' := X) ?_ ⟨rfl, Below.refl _ _⟩
      clear hX
      go_simp
      all_goals try go_bits
      all_goals try simp only [IntWalk.iteOmega]
      all_goals try go_bits
      all_goals rfl
    · refine step_introK rfl rfl fun ρ X hc hf hgl hX hp ho hu => ?_
      change StepOk _ { dst := _, op := Op.slice 23 (Operand.tmp 29) (some (Operand.const (Value.int IntKind.i64 1))) (some (Operand.const (Value.int IntKind.i64 9))) none, type := _, pos := _, after := _, guard := _ } _ _ _
      have k29 : ρ (.tmp 29) = ?v4 := hp 4 (by decide)
      refine stepK_plain (i := 5) rfl ?_
      clear hu
      clear hp ho
      refine StepOk.of_run (v := ?v5) (w' := X) ?_ ⟨rfl, Below.refl _ _⟩
      clear hX
      go_simp
      all_goals try go_bits
      all_goals try simp only [IntWalk.iteOmega]
      all_goals try go_bits
      all_goals rfl
    · refine step_introK rfl rfl fun ρ X hc hf hgl hX hp ho hu => ?_
      change StepOk _ { dst := _, op := Op.call { callee := Callee.value (Operand.func 24), args := #[Operand.tmp 30], argTypes := #[23] }, type := _, pos := _, after := _, guard := _ } _ _ _
      have k30 : ρ (.tmp 30) = ?v5 := hp 5 (by decide)
      refine stepK_plain (i := 6) rfl ?_
      clear hu
      clear hp ho
      have hbX := byt_sub (fun i hi => hX.cell Hbg.out (Hcl.out i hi)) 1 8 (k - 1) (by rw [Hml.out]; omega) (by omega) (by omega)
      refine StepOk.of_call (f := 24) (args := #[.slice (some ⟨b, off + 1, none⟩) 8 (k - 1)]) (w' := X) ?_ (HN8.out _ X hbX) ?_
      · clear hbX
        go_simp
        all_goals try rfl
      · rintro e w'' ⟨rfl, rfl⟩; exact ⟨_, rfl, rfl, Below.refl _ _⟩
    · refine step_introK rfl rfl fun ρ X hc hf hgl hX hp ho hu => ?_
      change StepOk _ { dst := _, op := Op.buildSlice 23 0 #[], type := _, pos := _, after := _, guard := _ } _ _ _
      refine stepK_plain (i := 7) rfl ?_
      clear hu
      clear hp ho
      refine StepOk.of_run (v := .slice (some ⟨X.heap.size, 0, none⟩) 0 0) (w' := X.alloc (.cells #[] 5)) ?_ ⟨⟨_, rfl⟩, Grows.alloc' _ _⟩
      clear hX
      simp [go_sem, execOp, hc]
    · refine step_introK rfl rfl fun ρ X hc hf hgl hX hp ho hu => ?_
      change StepOk _ { dst := _, op := Op.move (Operand.tmp 4), type := _, pos := _, after := _, guard := _ } _ _ _
      have k4 : ρ (.tmp 4) = .slice (some ⟨b, off, none⟩) 252 k := ho 4 (by decide)
      refine stepK_plain (i := 8) rfl ?_
      clear hu
      clear hp ho
      refine StepOk.of_run (v := ?v8) (w' := X) ?_ ⟨rfl, Below.refl _ _⟩
      clear hX
      go_simp
      all_goals try go_bits
      all_goals try simp only [IntWalk.iteOmega]
      all_goals try go_bits
      all_goals rfl
    · refine step_introK rfl rfl fun ρ X hc hf hgl hX hp ho hu => ?_
      change StepOk _ { dst := _, op := Op.slice 23 (Operand.tmp 33) (some (Operand.const (Value.int IntKind.i64 9))) none none, type := _, pos := _, after := _, guard := _ } _ _ _
      have k33 : ρ (.tmp 33) = ?v8 := hp 8 (by decide)
      refine stepK_plain (i := 9) rfl ?_
      clear hu
      clear hp ho
      refine StepOk.of_run (v := ?v9) (w' := X) ?_ ⟨rfl, Below.refl _ _⟩
      clear hX
      go_simp
      all_goals try go_bits
      all_goals try simp only [IntWalk.iteOmega]
      all_goals try go_bits
      all_goals rfl
    · refine step_introK rfl rfl fun ρ X hc hf hgl hX hp ho hu => ?_
      change StepOk _ { dst := _, op := Op.call { callee := Callee.builtin Builtin.append, args := #[Operand.tmp 32, Operand.tmp 34], argTypes := #[23, 23] }, type := _, pos := _, after := _, guard := _ } _ _ _
      have k32 := hp 7 (by decide)
      have k34 : ρ (.tmp 34) = ?v9 := hp 9 (by decide)
      refine stepK_plain (i := 10) rfl ?_
      clear hu
      obtain ⟨a32, e32⟩ := k32
      have hbX := byt_sub (fun i hi => hX.cell Hbg.out (Hcl.out i hi)) 9 243 (k - 9) (by rw [Hml.out]; omega) (by omega) (by omega)
      rw [H3.out] at hbX
      have hnil : Byt X (.slice (some a32) ([] : List UInt8).length 0) [] := ⟨_, _, rfl, Nat.le_refl _, by simp [maxLen], (fun h => by cases h), Or.inl rfl⟩
      obtain ⟨v', W', hr, ho', hg'⟩ := run_app_full (P := Try.prog) (T := 23) (e := 5) (ty := 23) rfl hi hz0 hz1 hz2 hnil hbX (by rw [List.length_drop, Hml.out]; simp) (by rw [List.length_drop, Hml.out]; simp)
      refine StepOk.of_run (v := v') (w' := W') ?_ ⟨own_out ho' (by rw [List.length_drop, Hml.out]; simp) (Nat.lt_of_lt_of_le (Array.getElem?_eq_some_iff.1 HR1.out).1 hX.size), hg'⟩
      simp only [List.length_nil] at hr
      simp only [execOp, resolve, invoke, builtin, Sem.run_bind, Sem.run_pure, Result.andThen_ok, List.map_toArray, List.map_cons, List.map_nil, e32, k34, hr]
    · refine step_introK rfl rfl fun ρ X hc hf hgl hX hp ho hu => ?_
      change StepOk _ { dst := _, op := Op.build 25 #[(0, Operand.tmp 28), (1, Operand.tmp 31), (2, Operand.tmp 35)], type := _, pos := _, after := _, guard := _ } _ _ _
      have k28 : ρ (.tmp 28) = ?v3 := hp 3 (by decide)
      have k31 : ρ (.tmp 31) = (.int .u64 (n : Int)) := hp 6 (by decide)
      have k35 := hp 10 (by decide)
      refine stepK_plain (i := 11) rfl ?_
      clear hu
      obtain ⟨hb35, ho35, h135⟩ := k35
      obtain ⟨a35, c35, e35⟩ := hb35.slice
      refine StepOk.of_run (v := .agg #[.int .i64 (c : Int), .int .u64 (n : Int), ρ (.tmp 35)]) (w' := X) ?_ ⟨⟨_, rfl, hb35, ho35, h135⟩, Below.refl _ _⟩
      clear hX hb35 ho35 h135
      rw [e35]
      go_simp
      all_goals rfl
    · refine step_introK rfl rfl fun ρ X hc hf hgl hX hp ho hu => ?_
      change StepOk _ { dst := _, op := Op.store 25 (Operand.tmp 2) (Operand.tmp 36), type := _, pos := _, after := _, guard := _ } _ _ _
      have k2 : ρ (.tmp 2) = .pointer (some ⟨g, 0, none⟩) := ho 2 (by decide)
      have k36 := hp 11 (by decide)
      have hu0 := hu
      have hz : zrow X g := hu 0 (by simp [pgT])
      refine stepK_made rfl ?_
      obtain ⟨u, e36, hbu, hou, h1u⟩ := k36
      have hone : (#[Value.int .i64 (c : Int), Value.int .u64 (n : Int), u].all (·.oneCell')) = true := by simp [Value.oneCell'] at h1u ⊢; exact h1u
      refine StepOk.of_skip (w' := X.setRow g #[.int .i64 (c : Int), .int .u64 (n : Int), u]) ?_ ⟨trivial, But.setRow (But.refl' _ _) _ _ rfl, fun s hs => ?_⟩
      · simp only [execOp, k2, e36, Instr.storeAt, Instr.sureAddr, Sem.run_bind, Sem.run_pure, Result.andThen_ok, run_storeVar_row X g 25 25 _ #[.int .i64 (c : Int), .int .u64 (n : Int), u] hz sizePg rfl hone]
      · match s, hs with
        | 0, h => simp [pgT] at h
        | 1, _ => exact ⟨u, setRow_heap _ _ _ _ _ _ hz, hbu.but (But.setRow (But.refl' (fun k => k = g) X) g _ rfl) hou, hou⟩
        | _ + 2, h => simp [pgT] at h
    · refine step_introK rfl rfl fun ρ X hc hf hgl hX hp ho hu => ?_
      change StepOk _ { dst := _, op := Op.assign (Operand.const (Value.int IntKind.i64 0)), type := _, pos := _, after := _, guard := _ } _ _ _
      refine stepK_plain (i := 13) rfl ?_
      clear hu
      clear hp ho
      refine StepOk.of_run (v := ?v13) (w' := X) ?_ ⟨rfl, Below.refl _ _⟩
      clear hX
      go_simp
      all_goals try go_bits
      all_goals try simp only [IntWalk.iteOmega]
      all_goals try go_bits
      all_goals rfl
  case grd => rfl
  case rst =>
    intro a0 X hb
    obtain ⟨x32, hx32⟩ : ∃ x, a0.tmps.getD 32 undef = x := ⟨_, rfl⟩
    have p32 := hb.done' 7 32 rfl rfl
    rw [hx32] at p32
    obtain ⟨x35, hx35⟩ : ∃ x, a0.tmps.getD 35 undef = x := ⟨_, rfl⟩
    have p35 := hb.done' 10 35 rfl rfl
    rw [hx35] at p35
    obtain ⟨x36, hx36⟩ : ∃ x, a0.tmps.getD 36 undef = x := ⟨_, rfl⟩
    have p36 := hb.done' 11 36 rfl rfl
    rw [hx36] at p36
    have hfr := hb.frame ((3, ?v13) :: (25, ?v0) :: (26, ?v1) :: (27, ?v2) :: (28, ?v3) :: (29, ?v4) :: (30, ?v5) :: (31, (.int .u64 (n : Int))) :: (32, x32) :: (33, ?v8) :: (34, ?v9) :: (35, x35) :: (36, x36) :: []) rfl ⟨hb.done' 13 3 rfl rfl, hb.done' 0 25 rfl rfl, hb.done' 1 26 rfl rfl, hb.done' 2 27 rfl rfl, hb.done' 3 28 rfl rfl, hb.done' 4 29 rfl rfl, hb.done' 5 30 rfl rfl, hb.done' 6 31 rfl rfl, hx32, hb.done' 8 33 rfl rfl, hb.done' 9 34 rfl rfl, hx35, hx36, trivial⟩
    simp only [updL, ↓reduceIte, Nat.reduceEqDiff, Nat.reduceAdd, Nat.zero_add] at hfr
    have HX := Lib.hid hb.ext
    have HS1 := Lib.hid (hb.stat 1 (fun j hj => by obtain rfl : 12 = j := (by simpa [pgT] using hj); exact ⟨by decide, by decide⟩) rfl)
    clear hb
    subst hfr
    obtain ⟨u, hru, hbu, hou⟩ := (show ∃ u, X.heap[g]? = some (.cells #[.int .i64 (c : Int), .int .u64 (n : Int), u] 25 (0, 0)) ∧ Byt X u (m.drop 9) ∧ Outside (fun k => k = g) u from HS1.out)
    have Hru := Lib.hid hru
    have Hbu := Lib.hid hbu
    clear hru hbu hou hcb
    go_wp2
    refine ret_cell_tmp rfl g 25 _ _ rfl Hru.out Try.underlying25 rfl sizePg rfl ?_
    exact ⟨_, rfl, Hbu.out, Below.trans HG1.out (HX.out.below (Nat.le_trans (by rw [← Hg.out]; exact Nat.le_refl _) (Nat.le_of_lt (Array.getElem?_eq_some_iff.1 HR1.out).1)) (fun k hk => by rw [← Hg.out] at hk; omega))⟩

theorem rOpen (v : Value) (l : List UInt8) (w : World) (h : Byt w v l) :
    Calls Try.prog 10 #[v] w fun e w' => ∃ u, e = .returned (.tuple #[pgv (openP l).1.kind (openP l).1.lsn u, .int .i64 ((openP l).2 : Nat)]) ∧ Byt w' u (openP l).1.body ∧ Grows w w' := by
  by_cases hl : l.length = 256
  · cases hc : (checkC l).2 with
    | false =>
      rw [check_off l hl hc]
      exact (rOpen_check v l w h hl hc).mono fun e w' ⟨he, hg⟩ => ⟨_, he, Byt.nil _, hg⟩
    | true =>
      cases hk : isK (ofC (checkC l).1).kind with
      | false => exact rOpen_bad v l w h hl hc hk
      | true => exact rOpen_ok v l w h hl hc hk
  · have : openP l = (zeroP, 50) := by unfold openP; rw [if_neg hl]
    rw [this]
    exact (rOpen_len v l w h hl).mono fun e w' ⟨he, hg⟩ => ⟨_, he, Byt.nil _, hg⟩
end Go.Proofs.Ytfgnniajancpcaa
