/-
  The document's own Insert.
-/
import Derived.Test.YtpodbhimkbadhaaSlW
namespace Go.Proofs.Ytpodbhimkbadhaa
open Go.RowKit
set_option linter.unusedVariables false
set_option linter.unusedSimpArgs false

theorem run_app_lit {P : Program} (B : Nat) (w : World) (t ty e : TypeId) (i : TypeInfo) (z : Value) (ht : P.underlying t = some (.slice e)) (hi : P.info? e = some i) (hz : i.zero = some z)
    (hs : i.size = 1) (hzs : z.cells.size = 1) (hb : i.bytes ≤ 8) (hB : B ≤ w.heap.size) (g : Nat) (hown : w.ownsRow B e 1 (.slice (some ⟨g, 0, none⟩) 0 0) 0 [])
    (a : Option Addr) (c : Nat) (news : List Value) (hn : ∀ x, a = some x → ∀ j u, news[j]? = some u → w.cell? (x.add j) = some u) (h0 : a = none → news = []) (hm : news.length ≤ 1000000) :
    ∃ v' w', (Builtin.append_ #[t, t] ty #[.slice (some ⟨g, 0, none⟩) 0 0, .slice a news.length c]).run P w = .ok v' w' ∧ w'.ownsRow B e 1 v' news.length news ∧ Grows w w' := by
  by_cases hm0 : news = []
  · subst hm0
    refine ⟨.slice (some ⟨g, 0, none⟩) 0 0, w, ?_, hown, Below.refl _ _⟩
    have hf : ∀ w : World, (Builtin.firstCells i.size 0 (Value.slice a 0 c)).run P w = .ok #[] w := fun w => by
      cases a with
      | none => exact run_firstCells_none w i.size 0 0 c
      | some x => exact run_firstCells_some w i.size 0 x 0 c [] (by simp) (by simp)
    simp [Builtin.append_, run_underlying ht, sizeOf, typeInfo, hi, Builtin.lenOf, hf, storeCells]
  · cases a with
    | none => exact absurd (h0 rfl) hm0
    | some x =>
      have hpos : 0 < news.length := List.length_pos_iff.2 hm0
      have hr := run_append_grow (P := P) w t ty e i z ht hi hz ⟨g, 0, none⟩ 0 0 [] (by simp) (by simp) x news.length c news (by rw [hs, Nat.mul_one]) (hn x rfl) (by omega) (by omega)
        (growslice_fits (by omega) (by have : (0 + news.length) * i.bytes ≤ 1000000 * 8 := Nat.mul_le_mul (by omega) hb; omega))
      simp only [Nat.zero_add] at hr
      have hge := grownCap_ge w news.length 0 e
      have hle := grownCap_le_maxLen w news.length 0 e (by unfold maxLen; omega)
      refine ⟨_, _, hr, ⟨by simp, .inr ⟨w.heap.size, _, _, rfl, hB, heap_alloc_new w.drew _, hge, hle, ?_, ?_⟩⟩, (Below.refl _ _).drew.alloc (Nat.le_refl _) _⟩
      · simp only [Array.size_append, List.size_toArray, size_zeroCells, hzs, List.length_nil, Nat.zero_add]
        omega
      · simp only [Array.toList_append, List.nil_append]
        rw [Nat.mul_one]
        exact List.take_left
theorem infoU8 : (Try.prog.info? 5).map (fun i => (i.zero, i.size, i.bytes)) = some (some (.int .u8 0), 1, 1) := by kernel_rfl
/-- Bytes that came in, copied. -/
theorem run_copyB (B : Nat) (w : World) (hB : B ≤ w.heap.size) (g : Nat) (hown : w.ownsRow B 5 1 (.slice (some ⟨g, 0, none⟩) 0 0) 0 []) (v : Value) (l : List UInt8) (h : Byt w v l) (hl : l.length ≤ 1000000) :
    ∃ v' w', (Builtin.append_ #[30, 30] 30 #[.slice (some ⟨g, 0, none⟩) 0 0, v]).run Try.prog w = .ok v' w' ∧ Own 5 B w' v' l ∧ Grows w w' := by
  obtain ⟨i, h1, h2⟩ := Option.map_eq_some_iff.1 infoU8
  simp only [Prod.mk.injEq] at h2
  obtain ⟨a, cap, rfl, h3, h4, h5, h6⟩ := h
  obtain ⟨v', w', hr, ho, hg⟩ := run_app_lit (P := Try.prog) B w 30 30 5 i (.int .u8 0) Try.underlying30 h1 h2.1 h2.2.1 rfl (by omega) hB g hown a cap (l.map bv)
    (fun x hx j u hj => by
      rcases h6 with h6 | ⟨b, off, e, hc⟩
      · rw [h6] at hj; simp at hj
      · rw [e] at hx
        obtain rfl := Option.some.inj hx
        have hjl : j < l.length := by have := (List.getElem?_eq_some_iff.1 hj).1; simpa using this
        rw [Addr.add_lit, hc j hjl, ← hj, List.getElem?_map, List.getD, List.getElem?_eq_getElem hjl]
        rfl)
    (fun hn => by
      rcases h6 with h6 | ⟨b, off, e, hc⟩
      · rw [h6]; rfl
      · rw [hn] at e; cases e) (by simpa using hl)
  rw [List.length_map] at hr ho
  exact ⟨v', w', hr, ho, hg⟩

theorem rInsNone {w : World} {B q : Nat} {vL : Value} {t : Nat} {L : List Ce} (h : RB w B q vL t L) (i : Int) (hi : i < 0 ∨ (L.length : Int) < i) (v : Value) : Calls Try.prog 23 #[.pointer (some ⟨q, 0, none⟩), .int .i64 i, v] w fun e w' => e = .returned (.int .i64 7) ∧ w = w' := by
  obtain ⟨n, Hn⟩ : ∃ n, Hid (L.length = n) := ⟨_, rfl⟩
  obtain ⟨la, lc, rfl⟩ := h.form
  rw [Hn.out] at h hi
  obtain ⟨c0, c1⟩ := h.cells
  clear h
  by_cases h0 : i < 0
  · clear hi
    go_enter Try.func23, Try.ntmps23
    go_wp2
    go_ret
    exact ⟨rfl, rfl⟩
  · have h1 : (n : Int) < i := by omega
    clear hi
    go_enter Try.func23, Try.ntmps23
    go_wp2
    go_ret
    exact ⟨rfl, rfl⟩
theorem rInsLong {w : World} {B q : Nat} {vL : Value} {t : Nat} {L : List Ce} (h : RB w B q vL t L) (i : Nat) (hi : i ≤ L.length) (a : Option Addr) (m cap : Nat) (hm : 78 < m) : Calls Try.prog 23 #[.pointer (some ⟨q, 0, none⟩), .int .i64 (i : Int), .slice a m cap] w fun e w' => e = .returned (.int .i64 1) ∧ w = w' := by
  obtain ⟨n, Hn⟩ : ∃ n, Hid (L.length = n) := ⟨_, rfl⟩
  obtain ⟨la, lc, rfl⟩ := h.form
  rw [Hn.out] at h hi
  obtain ⟨c0, c1⟩ := h.cells
  have h1 : ¬ (n : Int) < (i : Int) := by omega
  have h2 : (78 : Int) < (m : Int) := by omega
  clear h hi hm
  go_enter Try.func23, Try.ntmps23
  go_wp2
  go_ret
  exact ⟨rfl, rfl⟩
theorem rInsRoom {w : World} {B q : Nat} {vL : Value} {t : Nat} {L : List Ce} (h : RB w B q vL t L) (hw : Wf (abs_ t L)) (i : Nat) (hi : i ≤ L.length) (a : Option Addr) (m cap : Nat) (hm : m ≤ 78) (hr : freeA (abs_ t L) < 2 + m) : Calls Try.prog 23 #[.pointer (some ⟨q, 0, none⟩), .int .i64 (i : Int), .slice a m cap] w fun e w' => e = .returned (.int .i64 60) ∧ Grows w w' := by
  have HF := Lib.hid (rFree h hw)
  obtain ⟨n, Hn⟩ : ∃ n, Hid (L.length = n) := ⟨_, rfl⟩
  obtain ⟨r, hr'⟩ : ∃ r, freeA (abs_ t L) = r := ⟨_, rfl⟩
  rw [hr'] at HF hr
  obtain ⟨la, lc, rfl⟩ := h.form
  rw [Hn.out] at h hi
  obtain ⟨c0, c1⟩ := h.cells
  have h1 : ¬ (n : Int) < (i : Int) := by omega
  have h2 : ¬ (78 : Int) < (m : Int) := by omega
  have h3 : (r : Int) < 2 + (m : Int) := by omega
  clear h hi hr hr'
  go_enter Try.func23, Try.ntmps23
  go_wp2_with (go_at_call 26; refine HF.out.mono ?_; rintro e w1 ⟨rfl, hg⟩)
  go_ret
  exact ⟨rfl, hg⟩
/-- A row of which it is known what it is until operation i. -/
def ownT (v : Value) (n : Nat) (xs : List Value) (i : Nat) (use : Array (List Nat)) : StateK :=
  { Ψ := fun s W => match s with
      | 0 => W.ownsRow 0 54 2 v n xs
      | _ => True
    made := #[none], kl := #[[i]], use := use, muts := [i] }
theorem ownT_ks (O : Nat → Prop) (v : Value) (n : Nat) (xs : List Value) (k : Nat) (use : Array (List Nat)) : ∀ i s W W', i ∉ (ownT v n xs k use).kl.getD s [] → (ownT v n xs k use).made.getD s none ≠ some i → (ownT v n xs k use).rel (But O) i W W' → (ownT v n xs k use).Ψ s W → (ownT v n xs k use).Ψ s W' := by
  intro i s W W' h1 h2 h3 h4
  match s with
  | 0 =>
    have hi : i ≠ k := by simpa [ownT] using h1
    have h5 : Grows W W' := by simpa [StateK.rel, ownT, hi] using h3
    exact own_grows h4 h5
  | _ + 1 => trivial
theorem own_base {e B k n : Nat} {W : World} {v : Value} {xs : List Value} (h : W.ownsRow B e k v n xs) : ∀ j, v.ownBlock = some j → B ≤ j := by
  intro j hj
  rcases h.2 with ⟨rfl, _⟩ | ⟨g, cap, cur, rfl, hb, _⟩
  · cases hj
  · have : g = j := Option.some.inj hj
    omega
theorem byt_outY {w : World} {v : Value} {l : List UInt8} (h : Byt w v l) : Outside (fun b => w.heap.size ≤ b) v := by
  intro b o sp n c e hn hb
  obtain ⟨a, cap, rfl, _, _, _, h4⟩ := h
  simp only [Value.slice.injEq] at e
  obtain ⟨rfl, rfl, rfl⟩ := e
  rcases h4 with h4 | ⟨b', off, e, hc⟩
  · rw [h4] at hn; exact hn rfl
  · simp only [Option.some.injEq, Addr.mk.injEq] at e
    have := World.block_lt_of_cell? _ _ (hc 0 (by omega))
    simp at this
    omega
theorem pair_one {B : Nat} {w : World} {u : Value} {c : List UInt8} (h : Own 5 B w u c) (z : Int) : ∀ y ∈ [Value.int .i64 z, u], y.oneCell' = true := by
  intro y hy
  simp only [List.mem_cons, List.not_mem_nil, or_false] at hy
  rcases hy with rfl | rfl
  · rfl
  · obtain ⟨a, cc, e⟩ := own_form h
    rw [e]; rfl
theorem three_all {α : Type} {L : List α} {i : Nat} {e : α} {P : α → Prop} (h1 : ∀ x ∈ L, P x) (h2 : P e) : ∀ x ∈ L.take i ++ [e] ++ L.drop i, P x := by
  intro x hx
  rcases List.mem_append.1 hx with h | h
  · rcases List.mem_append.1 h with h | h
    · exact h1 x (List.mem_of_mem_take h)
    · rw [List.mem_singleton.1 h]; exact h2
  · exact h1 x (List.mem_of_mem_drop h)
theorem out_of {w : World} {v : Value} {l : List UInt8} {v7 : Value} (h : Byt w v l) (hat : ∀ j, v7.ownBlock = some j → w.heap.size ≤ j) : Outside (fun b => v7.ownBlock = some b) v := by
  intro b o sp n c e hn hb
  have h1 := byt_outY h b o sp n c e hn
  exact h1 (hat b hb)
theorem own_zero {e B k n : Nat} {W : World} {v : Value} {xs : List Value} (h : W.ownsRow B e k v n xs) : W.ownsRow 0 e k v n xs := by
  refine ⟨h.1, ?_⟩
  rcases h.2 with h' | ⟨g, cap, cur, e1, hb, rest⟩
  · exact .inl h'
  · exact .inr ⟨g, cap, cur, e1, Nat.zero_le _, rest⟩
set_option maxRecDepth 100000 in
set_option maxHeartbeats 1000000 in
theorem rInsOk {w : World} {B q : Nat} {vL : Value} {t : Nat} {L : List Ce} (h : RB w B q vL t L) (hw : Wf (abs_ t L)) (i : Nat) (hi : i ≤ L.length) (v : Value) (c : List UInt8) (hv : Byt w v c) (ho : Outside (OR q vL) v) (hc : c.length ≤ 78) (hr : 2 + c.length ≤ freeA (abs_ t L)) :
    Calls Try.prog 23 #[.pointer (some ⟨q, 0, none⟩), .int .i64 (i : Int), v] w fun e w' => e = .returned (.int .i64 0) ∧ RBIn w' B q (insA (abs_ t L) i c) ∧ But (OR q vL) w w' := by
  have hmx : Try.prog.follows .mixedOrders = true := by kernel_rfl
  obtain ⟨hB1, hB2, hB3⟩ := pre_room hw c hr
  have Hins : Hid (insA (abs_ t L) i c = addA (preA (abs_ t L) c) i c) := rfl
  have HPre : Hid (preA (abs_ t L) c = if t < 2 + 2 * (L.length + 1) + c.length then packA (abs_ t L) else abs_ t L) := by
    show _ = _
    unfold preA
    rw [abs_len]
    rfl
  obtain ⟨n, Hn⟩ : ∃ n, Hid (L.length = n) := ⟨_, rfl⟩
  obtain ⟨m, Hm⟩ : ∃ m, Hid (c.length = m) := ⟨_, rfl⟩
  obtain ⟨r, Hr⟩ : ∃ r, Hid (freeA (abs_ t L) = r) := ⟨_, rfl⟩
  have ht243 : t ≤ 243 := hw.ntop.2.1
  have hn120 : n ≤ 120 := by have := hw.ntop.1; rw [abs_len, Hn.out] at this; exact this
  have HF := Lib.hid (rFree h hw)
  have HPk := Lib.hid (fun (X : World) (hX : RB X B q vL t L) => rPack hX hw)
  obtain ⟨la, lc, rfl⟩ := h.form
  obtain ⟨ca, cc, rfl⟩ := hv.slice
  rw [abs_len, Hn.out] at hB2
  rw [hB2, Hm.out] at hB3
  rw [Hm.out] at hc hr hv ho
  rw [Hr.out] at hr HF
  rw [Hn.out, Hm.out] at HPre
  rw [Hn.out] at h hi HPk ho
  rw [Hm.out, Hn.out]
  have Hh := Lib.hid h
  have Hv := Lib.hid hv
  have Ho := Lib.hid ho
  obtain ⟨c0, c1⟩ := h.cells
  have h1 : ¬ (n : Int) < (i : Int) := by omega
  have h2 : ¬ (78 : Int) < (m : Int) := by omega
  have h3 : ¬ (r : Int) < 2 + (m : Int) := by omega
  have Hi : Hid (i ≤ n) := hi
  have HB3 : Hid (2 + 2 * (n + 1) + m ≤ (preA (abs_ t L) c).top) := hB3
  have Hbt : Hid ((preA (abs_ t L) c).top ≤ 243) := hB1.ntop.2.1
  have hm78 : m ≤ 78 := hc
  clear h hv ho hw hB1 hB2 hB3 hi hr hc
  go_enter Try.func23, Try.ntmps23
  go_wp2_with (go_at_call 26; refine HF.out.mono ?_; rintro e w1 ⟨rfl, hg⟩; have Hg1 := Lib.hid hg; clear hg)
  have c0 := Grows.cell' Hg1.out c0
  have c1 := Grows.cell' Hg1.out c1
  by_cases hp : t < 2 + 2 * (n + 1) + m
  · rw [if_pos hp] at HPre
    have hp' : (t : Int) - 2 - 2 * ((n : Int) + 1) < (m : Int) := by omega
    refine specs_region
      #[[], [0], [0, 1], [0, 1, 2], [0, 1, 2, 3], [], [5], [5, 6], [5, 6, 7], [5, 6, 7, 8], [5, 6, 7, 8, 9], [5, 6, 7, 8, 9, 10], [0, 1, 2, 3, 4, 5, 6, 7, 8, 9, 10, 11], [], [13], [0, 1, 2, 3, 4, 5, 6, 7, 8, 9, 10, 11, 12, 13, 14]] #[[0], [], [], [], [], [0], [], [], [], [], [], [], [], [2], [], []] #[true, true, true, true, true, true, true, true, true, true, true, true, true, true, true, true]
      ((.val ?va0) :: (.val ?va1) :: (.val ?va2) :: (.val ?va3) :: (.val ?va4) :: (.val ?va5) :: (.val ?va6) :: (.val ?va7) :: (.val ?va8) :: (.val ?va9) :: (.val ?va10) :: (.val ?va11) :: (.val ?va12) :: (.val ?va13) :: (.val ?va14) :: (.val ?va15) :: []).toArray
      hmx ?chka ?grda ?stpa ?rsta
    case chka => rfl
    case stpa =>
      refine ⟨?_, ?_, ?_, ?_, ?_, ?_, ?_, ?_, ?_, ?_, ?_, ?_, ?_, ?_, ?_, ?_, trivial⟩
      · refine step_intro rfl rfl fun ρ X hc hf hgl hX hp ho => ?_
        change StepOk _ { dst := _, op := Op.move (Operand.tmp 0), type := _, pos := _, after := _, guard := _ } _ _ _
        have k0 : ρ (.tmp 0) = .pointer (some ⟨q, 0, none⟩) := ho 0 (by decide)
        clear hp ho
        refine StepOk.of_run (v := ?va0) (w' := X) ?_ ⟨rfl, Below.refl _ _⟩
        clear hX
        go_simp
        all_goals try go_bits
        all_goals try simp only [IntWalk.iteOmega]
        all_goals try go_bits
        all_goals rfl
      · refine step_intro rfl rfl fun ρ X hc hf hgl hX hp ho => ?_
        change StepOk _ { dst := _, op := Op.nilCheck (Operand.tmp 31), type := _, pos := _, after := _, guard := _ } _ _ _
        have k31 : ρ (.tmp 31) = ?va0 := hp 0 (by decide)
        clear hp ho
        refine StepOk.of_run (v := ?va1) (w' := X) ?_ ⟨rfl, Below.refl _ _⟩
        clear hX
        go_simp
        all_goals try go_bits
        all_goals try simp only [IntWalk.iteOmega]
        all_goals try go_bits
        all_goals rfl
      · refine step_intro rfl rfl fun ρ X hc hf hgl hX hp ho => ?_
        change StepOk _ { dst := _, op := Op.fieldAddr 50 (Operand.tmp 32) 0, type := _, pos := _, after := _, guard := _ } _ _ _
        have k32 : ρ (.tmp 32) = ?va1 := hp 1 (by decide)
        clear hp ho
        refine StepOk.of_run (v := ?va2) (w' := X) ?_ ⟨rfl, Below.refl _ _⟩
        clear hX
        go_simp
        all_goals try go_bits
        all_goals try simp only [IntWalk.iteOmega]
        all_goals try go_bits
        all_goals rfl
      · refine step_intro rfl rfl fun ρ X hc hf hgl hX hp ho => ?_
        change StepOk _ { dst := _, op := Op.load 3 (Operand.tmp 33), type := _, pos := _, after := _, guard := _ } _ _ _
        have k33 : ρ (.tmp 33) = ?va2 := hp 2 (by decide)
        have c0X := Grows.cell' hX c0
        have c1X := Grows.cell' hX c1
        clear hp ho
        refine StepOk.of_run (v := ?va3) (w' := X) ?_ ⟨rfl, Below.refl _ _⟩
        clear hX
        go_simp
        all_goals try go_bits
        all_goals try simp only [IntWalk.iteOmega]
        all_goals try go_bits
        all_goals rfl
      · refine step_intro rfl rfl fun ρ X hc hf hgl hX hp ho => ?_
        change StepOk _ { dst := _, op := Op.binOp BinOp.sub 3 (Operand.tmp 34) (Operand.const (Value.int IntKind.i64 2)) 3, type := _, pos := _, after := _, guard := _ } _ _ _
        have k34 : ρ (.tmp 34) = ?va3 := hp 3 (by decide)
        clear hp ho
        refine StepOk.of_run (v := ?va4) (w' := X) ?_ ⟨rfl, Below.refl _ _⟩
        clear hX
        go_simp
        all_goals try go_bits
        all_goals try simp only [IntWalk.iteOmega]
        all_goals try go_bits
        all_goals rfl
      · refine step_intro rfl rfl fun ρ X hc hf hgl hX hp ho => ?_
        change StepOk _ { dst := _, op := Op.move (Operand.tmp 0), type := _, pos := _, after := _, guard := _ } _ _ _
        have k0 : ρ (.tmp 0) = .pointer (some ⟨q, 0, none⟩) := ho 0 (by decide)
        clear hp ho
        refine StepOk.of_run (v := ?va5) (w' := X) ?_ ⟨rfl, Below.refl _ _⟩
        clear hX
        go_simp
        all_goals try go_bits
        all_goals try simp only [IntWalk.iteOmega]
        all_goals try go_bits
        all_goals rfl
      · refine step_intro rfl rfl fun ρ X hc hf hgl hX hp ho => ?_
        change StepOk _ { dst := _, op := Op.nilCheck (Operand.tmp 36), type := _, pos := _, after := _, guard := _ } _ _ _
        have k36 : ρ (.tmp 36) = ?va5 := hp 5 (by decide)
        clear hp ho
        refine StepOk.of_run (v := ?va6) (w' := X) ?_ ⟨rfl, Below.refl _ _⟩
        clear hX
        go_simp
        all_goals try go_bits
        all_goals try simp only [IntWalk.iteOmega]
        all_goals try go_bits
        all_goals rfl
      · refine step_intro rfl rfl fun ρ X hc hf hgl hX hp ho => ?_
        change StepOk _ { dst := _, op := Op.fieldAddr 50 (Operand.tmp 37) 1, type := _, pos := _, after := _, guard := _ } _ _ _
        have k37 : ρ (.tmp 37) = ?va6 := hp 6 (by decide)
        clear hp ho
        refine StepOk.of_run (v := ?va7) (w' := X) ?_ ⟨rfl, Below.refl _ _⟩
        clear hX
        go_simp
        all_goals try go_bits
        all_goals try simp only [IntWalk.iteOmega]
        all_goals try go_bits
        all_goals rfl
      · refine step_intro rfl rfl fun ρ X hc hf hgl hX hp ho => ?_
        change StepOk _ { dst := _, op := Op.load 48 (Operand.tmp 38), type := _, pos := _, after := _, guard := _ } _ _ _
        have k38 : ρ (.tmp 38) = ?va7 := hp 7 (by decide)
        have c0X := Grows.cell' hX c0
        have c1X := Grows.cell' hX c1
        clear hp ho
        refine StepOk.of_run (v := ?va8) (w' := X) ?_ ⟨rfl, Below.refl _ _⟩
        clear hX
        go_simp
        all_goals try go_bits
        all_goals try simp only [IntWalk.iteOmega]
        all_goals try go_bits
        all_goals rfl
      · refine step_intro rfl rfl fun ρ X hc hf hgl hX hp ho => ?_
        change StepOk _ { dst := _, op := Op.call { callee := Callee.builtin Builtin.len, args := #[Operand.tmp 39], argTypes := #[48] }, type := _, pos := _, after := _, guard := _ } _ _ _
        have k39 : ρ (.tmp 39) = ?va8 := hp 8 (by decide)
        clear hp ho
        refine StepOk.of_run (v := ?va9) (w' := X) ?_ ⟨rfl, Below.refl _ _⟩
        clear hX
        go_simp
        all_goals try go_bits
        all_goals try simp only [IntWalk.iteOmega]
        all_goals try go_bits
        all_goals rfl
      · refine step_intro rfl rfl fun ρ X hc hf hgl hX hp ho => ?_
        change StepOk _ { dst := _, op := Op.binOp BinOp.add 3 (Operand.tmp 40) (Operand.const (Value.int IntKind.i64 1)) 3, type := _, pos := _, after := _, guard := _ } _ _ _
        have k40 : ρ (.tmp 40) = ?va9 := hp 9 (by decide)
        clear hp ho
        refine StepOk.of_run (v := ?va10) (w' := X) ?_ ⟨rfl, Below.refl _ _⟩
        clear hX
        go_simp
        all_goals try go_bits
        all_goals try simp only [IntWalk.iteOmega]
        all_goals try go_bits
        all_goals rfl
      · refine step_intro rfl rfl fun ρ X hc hf hgl hX hp ho => ?_
        change StepOk _ { dst := _, op := Op.binOp BinOp.mul 3 (Operand.const (Value.int IntKind.i64 2)) (Operand.tmp 41) 3, type := _, pos := _, after := _, guard := _ } _ _ _
        have k41 : ρ (.tmp 41) = ?va10 := hp 10 (by decide)
        clear hp ho
        refine StepOk.of_run (v := ?va11) (w' := X) ?_ ⟨rfl, Below.refl _ _⟩
        clear hX
        go_simp
        all_goals try go_bits
        all_goals try simp only [IntWalk.iteOmega]
        all_goals try go_bits
        all_goals rfl
      · refine step_intro rfl rfl fun ρ X hc hf hgl hX hp ho => ?_
        change StepOk _ { dst := _, op := Op.binOp BinOp.sub 3 (Operand.tmp 35) (Operand.tmp 42) 3, type := _, pos := _, after := _, guard := _ } _ _ _
        have k35 : ρ (.tmp 35) = ?va4 := hp 4 (by decide)
        have k42 : ρ (.tmp 42) = ?va11 := hp 11 (by decide)
        clear hp ho
        refine StepOk.of_run (v := ?va12) (w' := X) ?_ ⟨rfl, Below.refl _ _⟩
        clear hX
        go_simp
        all_goals try go_bits
        all_goals try simp only [IntWalk.iteOmega]
        all_goals try go_bits
        all_goals rfl
      · refine step_intro rfl rfl fun ρ X hc hf hgl hX hp ho => ?_
        change StepOk _ { dst := _, op := Op.move (Operand.tmp 2), type := _, pos := _, after := _, guard := _ } _ _ _
        have k2 : ρ (.tmp 2) = .slice ca m cc := ho 2 (by decide)
        clear hp ho
        refine StepOk.of_run (v := ?va13) (w' := X) ?_ ⟨rfl, Below.refl _ _⟩
        clear hX
        go_simp
        all_goals try go_bits
        all_goals try simp only [IntWalk.iteOmega]
        all_goals try go_bits
        all_goals rfl
      · refine step_intro rfl rfl fun ρ X hc hf hgl hX hp ho => ?_
        change StepOk _ { dst := _, op := Op.call { callee := Callee.builtin Builtin.len, args := #[Operand.tmp 44], argTypes := #[30] }, type := _, pos := _, after := _, guard := _ } _ _ _
        have k44 : ρ (.tmp 44) = ?va13 := hp 13 (by decide)
        clear hp ho
        refine StepOk.of_run (v := ?va14) (w' := X) ?_ ⟨rfl, Below.refl _ _⟩
        clear hX
        go_simp
        all_goals try go_bits
        all_goals try simp only [IntWalk.iteOmega]
        all_goals try go_bits
        all_goals rfl
      · refine step_intro rfl rfl fun ρ X hc hf hgl hX hp ho => ?_
        change StepOk _ { dst := _, op := Op.binOp BinOp.lss 3 (Operand.tmp 43) (Operand.tmp 45) 3, type := _, pos := _, after := _, guard := _ } _ _ _
        have k43 : ρ (.tmp 43) = ?va12 := hp 12 (by decide)
        have k45 : ρ (.tmp 45) = ?va14 := hp 14 (by decide)
        clear hp ho
        refine StepOk.of_run (v := ?va15) (w' := X) ?_ ⟨rfl, Below.refl _ _⟩
        clear hX
        go_simp
        all_goals try go_bits
        all_goals try simp only [IntWalk.iteOmega]
        all_goals try go_bits
        all_goals rfl
    case grda => rfl
    case rsta =>
      intro a0 X hb
      have hfr := hb.frame ((31, ?va0) :: (32, ?va1) :: (33, ?va2) :: (34, ?va3) :: (35, ?va4) :: (36, ?va5) :: (37, ?va6) :: (38, ?va7) :: (39, ?va8) :: (40, ?va9) :: (41, ?va10) :: (42, ?va11) :: (43, ?va12) :: (44, ?va13) :: (45, ?va14) :: (46, ?va15) :: []) rfl ⟨hb.done' 0 31 rfl rfl, hb.done' 1 32 rfl rfl, hb.done' 2 33 rfl rfl, hb.done' 3 34 rfl rfl, hb.done' 4 35 rfl rfl, hb.done' 5 36 rfl rfl, hb.done' 6 37 rfl rfl, hb.done' 7 38 rfl rfl, hb.done' 8 39 rfl rfl, hb.done' 9 40 rfl rfl, hb.done' 10 41 rfl rfl, hb.done' 11 42 rfl rfl, hb.done' 12 43 rfl rfl, hb.done' 13 44 rfl rfl, hb.done' 14 45 rfl rfl, hb.done' 15 46 rfl rfl, trivial⟩
      simp only [updL, ↓reduceIte, Nat.reduceEqDiff, Nat.reduceAdd, Nat.zero_add] at hfr
      have HX := Lib.hid hb.ext
      clear hb
      subst hfr
      have HG7 := HX
      clear c0 c1
      go_wp2_with fail
      refine (HPk.out _ (Hh.out.grows (Grows.trans' Hg1.out HG7.out))).mono ?_
      rintro e w5 ⟨rfl, hb5, hu5⟩
      have Hb5 := Lib.hid hb5
      have Hu5 := Lib.hid ((But.ofGrows (O := OR q (.slice la n lc)) (Grows.trans' Hg1.out HG7.out)).trans' hu5)
      clear hb5 hu5
      obtain ⟨tB, HtB⟩ : ∃ y, Hid ((packA (abs_ t L)).top = y) := ⟨_, rfl⟩
      obtain ⟨LB, HLB⟩ : ∃ y, Hid (packE n L = y) := ⟨_, rfl⟩
      have HlB : Hid (LB.length = n) := by show _ = _; rw [← HLB.out, packE_len, Hn.out]
      have HA5 : Hid (abs_ tB LB = preA (abs_ t L) c) := by show _ = _; rw [HPre.out, ← abs_pack, Hn.out, HLB.out, ← HtB.out]; rfl
      rw [HtB.out, HLB.out] at Hb5
      obtain ⟨c0, c1⟩ := Hb5.out.cells
      obtain ⟨tN, HtN⟩ : ∃ tN, Hid (tB - m = tN) := ⟨_, rfl⟩
      have htB : 2 + 2 * (n + 1) + m ≤ tB := by have := HB3.out; rw [← HA5.out] at this; exact this
      have htB2 : tB ≤ 243 := by have := Hbt.out; rw [← HA5.out] at this; exact this
      go_wp2_with (first
        | (refine wpList_storeTop rfl (.tmp 58) (.tmp 56) rfl Hb5.out tN _ rfl rfl (by have := HtN.out; omega) ?_; intro w6 hb6 hu6; have Hb6 := Lib.hid hb6; have Hu56 := Lib.hid hu6; have hown6 := hb6.own; rw [HlB.out] at hown6; have Hown6 := Lib.hid hown6; clear hb6 hu6 hown6 c0 c1; obtain ⟨c0, c1⟩ := Hb6.out.cells)
        | (refine wpList_slCh rfl (.tmp 63) (.tmp 64) rfl la n lc i rfl rfl LB Hown6.out Hi.out ?_; intro sx1 hsx1; have Hsx1 := Lib.hid hsx1; clear hsx1)
        | (refine wpList_appC rfl (.tmp 59) (.tmp 65) rfl (.slice none 0 0) 0 [] rfl (World.ownsRow_nil _ _ _ _) sx1 i (LB.take i) rfl Hsx1.out (by rw [List.length_take, HlB.out]; have := Hi.out; omega) (ccs_one (fun e he => Hb6.out.ps e (List.mem_of_mem_take he))) (by have := Hi.out; omega) ?_; intro v7 w7 ho7 hg7 hat7; rw [Nat.zero_add, List.nil_append] at ho7; have Hg67 : Hid (Grows w6 w7) := Below.grown (Below.refl _ _) hg7 (Nat.le_refl _) (fun k hk => by cases hk); have Ho7 := Lib.hid ho7; have Hat7 : Hid (∀ j, v7.ownBlock = some j → w6.heap.size ≤ j) := at_or hat7 (fun j hj => by cases hj) (Nat.le_refl _); clear ho7 hg7 hat7 c0 c1; obtain ⟨c0, c1⟩ := (Hb6.out.grows Hg67.out).cells))
      have Hv7 := Lib.hid ((Hv.out.but (Hu5.out.trans' Hu56.out) Ho.out).grows Hg67.out)
      have Hov7 : Hid (Outside (fun b => v7.ownBlock = some b) (.slice ca m cc)) := Lib.hid (out_of (Hv.out.but (Hu5.out.trans' Hu56.out) Ho.out) Hat7.out)
      have Hnq : Hid (¬ (v7.ownBlock = some q)) := by show ¬ _; intro h; have := Hat7.out q h; have := (Array.getElem?_eq_some_iff.1 Hb6.out.row).1; omega
      refine region_L (E := (But (fun b => v7.ownBlock = some b))) (But.ok _) But.ofGrows
        #[[], [], [1], [1, 2], [1, 2, 3], [], [], [5, 6], [1, 2, 3, 4, 5, 6, 7], [1, 2, 3, 4, 5, 6, 7, 8], [0, 1, 2, 3, 4, 5, 6, 7, 8, 9], [0, 1, 2, 3, 4, 5, 6, 7, 8, 9, 10]] #[[7], [0], [], [], [], [], [2], [], [], [], [], []] #[true, true, true, true, true, true, true, true, true, true, true, true]
        ((.val ?vb0) :: (.val ?vb1) :: (.val ?vb2) :: (.val ?vb3) :: (.val ?vb4) :: (.pred (fun v W => W.ownsRow w7.heap.size 5 1 v 0 [] ∧ ∃ g, v = .slice (some ⟨g, 0, none⟩) 0 0) (fun v a b h ho => ⟨own_but ho.1 h (fun j hj hO => by have h1 := own_base ho.1 j hj; have h2 := own_lt Ho7.out j hO; omega), ho.2⟩)) :: (.val ?vb6) :: (.pred (fun v W => Own 5 w7.heap.size W v c) (fun v a b h ho => own_but ho h (fun j hj hO => by have h1 := own_base ho j hj; have h2 := own_lt Ho7.out j hO; omega))) :: (.pred (fun v W => ∃ u, v = .agg #[.int .i64 (tN : Int), u] ∧ Own 5 w7.heap.size W u c) (fun v a b h ⟨u, e, ho⟩ => ⟨u, e, own_but ho h (fun j hj hO => by have h1 := own_base ho j hj; have h2 := own_lt Ho7.out j hO; omega)⟩)) :: (.pred (fun v W => ∃ u, W.ownsRow w7.heap.size 54 2 v 1 [.int .i64 (tN : Int), u] ∧ Own 5 w7.heap.size W u c ∧ ∃ g, v = .slice (some ⟨g, 0, none⟩) 1 1) (fun v a b h ⟨u, ho, hu, e⟩ => ⟨u, own_but ho h (fun j hj hO => by have h1 := own_base ho j hj; have h2 := own_lt Ho7.out j hO; omega), own_but hu h (fun j hj hO => by have h1 := own_base hu j hj; have h2 := own_lt Ho7.out j hO; omega), e⟩)) :: (.frag (fun v W => ∃ u, W.ownsRow 0 54 2 v (i + 1) (ccs (LB.take i) ++ [.int .i64 (tN : Int), u]) ∧ Own 5 w7.heap.size W u c ∧ ∀ j, v.ownBlock = some j → w6.heap.size ≤ j) (fun v a b h ⟨u, ho, hu, e⟩ => ⟨u, own_grows ho h, hu.grows h, e⟩)) :: (.frag (fun v W => ∃ u, W.ownsRow 0 54 2 v (i + 1) (ccs (LB.take i) ++ [.int .i64 (tN : Int), u]) ∧ Own 5 w7.heap.size W u c ∧ ∀ j, v.ownBlock = some j → w6.heap.size ≤ j) (fun v a b h ⟨u, ho, hu, e⟩ => ⟨u, own_grows ho h, hu.grows h, e⟩)) :: []).toArray
        (ownT v7 i (ccs (LB.take i)) 10 #[[], [], [], [], [], [], [], [], [], [], [0]])
        (ownT_ks _ _ _ _ _ _)
        (fun s hs => match s, hs with | 0, _ => Ho7.out | _ + 1, _ => trivial)
        hmx ?chkb rfl rfl ?grdb ?stpb ?rstb
      case chkb => rfl
      case stpb =>
        refine ⟨?_, ?_, ?_, ?_, ?_, ?_, ?_, ?_, ?_, ?_, ?_, ?_, trivial⟩
        · refine step_introK rfl rfl fun ρ X hc hf hgl hX hp ho hu => ?_
          change StepOk _ { dst := _, op := Op.move (Operand.tmp 7), type := _, pos := _, after := _, guard := _ } _ _ _
          have k7 : ρ (.tmp 7) = v7 := ho 7 (by decide)
          refine stepK_plain (i := 0) rfl ?_
          clear hu
          clear hp ho
          refine StepOk.of_run (v := ?vb0) (w' := X) ?_ ⟨rfl, Below.refl _ _⟩
          clear hX
          go_simp
          all_goals try go_bits
          all_goals try simp only [IntWalk.iteOmega]
          all_goals try go_bits
          all_goals rfl
        · refine step_introK rfl rfl fun ρ X hc hf hgl hX hp ho hu => ?_
          change StepOk _ { dst := _, op := Op.move (Operand.tmp 0), type := _, pos := _, after := _, guard := _ } _ _ _
          have k0 : ρ (.tmp 0) = .pointer (some ⟨q, 0, none⟩) := ho 0 (by decide)
          refine stepK_plain (i := 1) rfl ?_
          clear hu
          clear hp ho
          refine StepOk.of_run (v := ?vb1) (w' := X) ?_ ⟨rfl, Below.refl _ _⟩
          clear hX
          go_simp
          all_goals try go_bits
          all_goals try simp only [IntWalk.iteOmega]
          all_goals try go_bits
          all_goals rfl
        · refine step_introK rfl rfl fun ρ X hc hf hgl hX hp ho hu => ?_
          change StepOk _ { dst := _, op := Op.nilCheck (Operand.tmp 68), type := _, pos := _, after := _, guard := _ } _ _ _
          have k68 : ρ (.tmp 68) = ?vb1 := hp 1 (by decide)
          refine stepK_plain (i := 2) rfl ?_
          clear hu
          clear hp ho
          refine StepOk.of_run (v := ?vb2) (w' := X) ?_ ⟨rfl, Below.refl _ _⟩
          clear hX
          go_simp
          all_goals try go_bits
          all_goals try simp only [IntWalk.iteOmega]
          all_goals try go_bits
          all_goals rfl
        · refine step_introK rfl rfl fun ρ X hc hf hgl hX hp ho hu => ?_
          change StepOk _ { dst := _, op := Op.fieldAddr 50 (Operand.tmp 69) 0, type := _, pos := _, after := _, guard := _ } _ _ _
          have k69 : ρ (.tmp 69) = ?vb2 := hp 2 (by decide)
          refine stepK_plain (i := 3) rfl ?_
          clear hu
          clear hp ho
          refine StepOk.of_run (v := ?vb3) (w' := X) ?_ ⟨rfl, Below.refl _ _⟩
          clear hX
          go_simp
          all_goals try go_bits
          all_goals try simp only [IntWalk.iteOmega]
          all_goals try go_bits
          all_goals rfl
        · refine step_introK rfl rfl fun ρ X hc hf hgl hX hp ho hu => ?_
          change StepOk _ { dst := _, op := Op.load 3 (Operand.tmp 70), type := _, pos := _, after := _, guard := _ } _ _ _
          have k70 : ρ (.tmp 70) = ?vb3 := hp 3 (by decide)
          refine stepK_plain (i := 4) rfl ?_
          clear hu
          have c0X := But.cell hX Hnq.out c0
          clear hp ho
          refine StepOk.of_run (v := ?vb4) (w' := X) ?_ ⟨rfl, Below.refl _ _⟩
          clear hX
          go_simp
          all_goals try go_bits
          all_goals try simp only [IntWalk.iteOmega]
          all_goals try go_bits
          all_goals rfl
        · refine step_introK rfl rfl fun ρ X hc hf hgl hX hp ho hu => ?_
          change StepOk _ { dst := _, op := Op.buildSlice 30 0 #[], type := _, pos := _, after := _, guard := _ } _ _ _
          refine stepK_plain (i := 5) rfl ?_
          clear hu
          clear hp ho
          refine StepOk.of_run (v := .slice (some ⟨X.heap.size, 0, none⟩) 0 0) (w' := X.alloc (.cells #[] 5)) ?_ ⟨⟨⟨by simp, .inr ⟨X.heap.size, 0, #[], rfl, hX.size, heap_alloc_new X _, Nat.le_refl _, by simp [maxLen], by simp, by simp⟩⟩, _, rfl⟩, Grows.alloc' _ _⟩
          simp [go_sem, execOp, hc]
        · refine step_introK rfl rfl fun ρ X hc hf hgl hX hp ho hu => ?_
          change StepOk _ { dst := _, op := Op.move (Operand.tmp 2), type := _, pos := _, after := _, guard := _ } _ _ _
          have k2 : ρ (.tmp 2) = .slice ca m cc := ho 2 (by decide)
          refine stepK_plain (i := 6) rfl ?_
          clear hu
          clear hp ho
          refine StepOk.of_run (v := ?vb6) (w' := X) ?_ ⟨rfl, Below.refl _ _⟩
          clear hX
          go_simp
          all_goals try go_bits
          all_goals try simp only [IntWalk.iteOmega]
          all_goals try go_bits
          all_goals rfl
        · refine step_introK rfl rfl fun ρ X hc hf hgl hX hp ho hu => ?_
          change StepOk _ { dst := _, op := Op.call { callee := Callee.builtin Builtin.append, args := #[Operand.tmp 72, Operand.tmp 73], argTypes := #[30, 30] }, type := _, pos := _, after := _, guard := _ } _ _ _
          have k72 := hp 5 (by decide)
          have k73 : ρ (.tmp 73) = ?vb6 := hp 6 (by decide)
          refine stepK_plain (i := 7) rfl ?_
          clear hu
          clear hp ho
          obtain ⟨ho0, g0, e0⟩ := k72
          rw [e0] at ho0
          obtain ⟨v', W', hr, ho', hg'⟩ := run_copyB w7.heap.size X hX.size g0 ho0 (.slice ca m cc) c (Hv7.out.but hX Hov7.out) (by rw [Hm.out]; omega)
          refine StepOk.of_run (v := v') (w' := W') ?_ ⟨ho', hg'⟩
          simp only [execOp, resolve, invoke, builtin, Sem.run_bind, Sem.run_pure, Result.andThen_ok, List.map_toArray, List.map_cons, List.map_nil, e0, k73, hr]
        · refine step_introK rfl rfl fun ρ X hc hf hgl hX hp ho hu => ?_
          change StepOk _ { dst := _, op := Op.build 54 #[(0, Operand.tmp 71), (1, Operand.tmp 74)], type := _, pos := _, after := _, guard := _ } _ _ _
          have k71 : ρ (.tmp 71) = ?vb4 := hp 4 (by decide)
          have k74 := hp 7 (by decide)
          refine stepK_plain (i := 8) rfl ?_
          clear hu
          clear hp ho
          obtain ⟨a74, c74, e74⟩ := own_form k74
          refine StepOk.of_run (v := .agg #[.int .i64 (tN : Int), ρ (.tmp 74)]) (w' := X) ?_ ⟨⟨_, rfl, k74⟩, Below.refl _ _⟩
          clear hX k74
          rw [e74]
          go_simp
          all_goals rfl
        · refine step_introK rfl rfl fun ρ X hc hf hgl hX hp ho hu => ?_
          change StepOk _ { dst := _, op := Op.buildSlice 48 1 #[(0, Operand.tmp 75)], type := _, pos := _, after := _, guard := _ } _ _ _
          have k75 := hp 8 (by decide)
          refine stepK_plain (i := 9) rfl ?_
          clear hu
          clear hp ho
          obtain ⟨u, e75, hu75⟩ := k75
          obtain ⟨a74, c74, e74⟩ := own_form hu75
          refine StepOk.of_run (v := .slice (some ⟨X.heap.size, 0, none⟩) 1 1) (w' := X.alloc (.cells #[.int .i64 (tN : Int), u] 54)) ?_ ⟨⟨u, ⟨rfl, .inr ⟨X.heap.size, 1, _, rfl, hX.size, heap_alloc_new X _, Nat.le_refl _, by simp [maxLen], rfl, rfl⟩⟩, hu75.grows (Grows.alloc' _ _), _, rfl⟩, Grows.alloc' _ _⟩
          clear hX hu75
          rw [e74] at e75 ⊢
          simp [go_sem, execOp, hc, e75]
        · refine step_introK rfl rfl fun ρ X hc hf hgl hX hp ho hu => ?_
          change StepOk _ { dst := _, op := Op.call { callee := Callee.builtin Builtin.append, args := #[Operand.tmp 67, Operand.tmp 76], argTypes := #[48, 48] }, type := _, pos := _, after := _, guard := _ } _ _ _
          have k67 : ρ (.tmp 67) = ?vb0 := hp 0 (by decide)
          have k76 := hp 9 (by decide)
          have hu0 := hu
          have hown0 : X.ownsRow 0 54 2 v7 i (ccs (LB.take i)) := hu 0 (by simp [ownT])
          clear hp ho
          refine stepK_made rfl ?_
          obtain ⟨u, ho76, hu76, g76, e76⟩ := k76
          rw [e76] at ho76
          obtain ⟨ic, hic, hzc, hsc1, hsc2⟩ := info_parts infoCell
          have hrd : RdN X (.slice (some ⟨g76, 0, none⟩) 1 1) 1 [.int .i64 (tN : Int), u] := ⟨_, _, rfl, (fun h => by cases h), fun ad had j y hy => by obtain rfl := Option.some.inj had; exact ho76.cells (g := g76) rfl j y hy⟩
          obtain ⟨v', W', hr, ho', hgb', hat, _⟩ := run_appendR (P := Try.prog) X 48 48 54 ic _ 2 32 Try.underlying48 hic hzc hsc1 hsc2 rfl (by omega) v7 i _ hown0 _ 1 _ hrd rfl (pair_one hu76 _) (by unfold maxLen; omega) (by omega) [] (by simp)
          have hB' : But (fun b => v7.ownBlock = some b) X W' := But.grown hgb' (fun j hj => hj)
          refine StepOk.of_run (v := v') (w' := W') ?_ ⟨⟨u, ho', own_but hu76 hB' (fun j hj hO => by have h1 := own_base hu76 j hj; have h2 := own_lt Ho7.out j hO; omega), at_or hat Hat7.out (by have := hX.size; have := Hg67.out.size; omega)⟩, hB', fun s hs => ?_⟩
          · simp only [execOp, resolve, invoke, builtin, Sem.run_bind, Sem.run_pure, Result.andThen_ok, List.map_toArray, List.map_cons, List.map_nil, k67, e76, hr]
          · match s, hs with
            | 0, h => simp [ownT] at h
            | _ + 1, h => simp [ownT] at h
        · refine step_introK rfl rfl fun ρ X hc hf hgl hX hp ho hu => ?_
          change StepOk _ { dst := _, op := Op.assign (Operand.tmp 77), type := _, pos := _, after := _, guard := _ } _ _ _
          have k77 := hp 10 (by decide)
          refine stepK_plain (i := 11) rfl ?_
          clear hu
          clear hp ho
          refine StepOk.of_run (v := ρ (.tmp 77)) (w' := X) ?_ ⟨k77, Below.refl _ _⟩
          simp [go_sem, execOp]
      case grdb => rfl
      case rstb =>
        intro a0 X hb
        obtain ⟨x7, hx7⟩ : ∃ x, a0.tmps.getD 7 undef = x := ⟨_, rfl⟩
        have p7 := hb.done' 11 7 rfl rfl
        rw [hx7] at p7
        obtain ⟨x72, hx72⟩ : ∃ x, a0.tmps.getD 72 undef = x := ⟨_, rfl⟩
        have p72 := hb.done' 5 72 rfl rfl
        rw [hx72] at p72
        obtain ⟨x74, hx74⟩ : ∃ x, a0.tmps.getD 74 undef = x := ⟨_, rfl⟩
        have p74 := hb.done' 7 74 rfl rfl
        rw [hx74] at p74
        obtain ⟨x75, hx75⟩ : ∃ x, a0.tmps.getD 75 undef = x := ⟨_, rfl⟩
        have p75 := hb.done' 8 75 rfl rfl
        rw [hx75] at p75
        obtain ⟨x76, hx76⟩ : ∃ x, a0.tmps.getD 76 undef = x := ⟨_, rfl⟩
        have p76 := hb.done' 9 76 rfl rfl
        rw [hx76] at p76
        obtain ⟨x77, hx77⟩ : ∃ x, a0.tmps.getD 77 undef = x := ⟨_, rfl⟩
        have p77 := hb.done' 10 77 rfl rfl
        rw [hx77] at p77
        have hfr := hb.frame ((7, x7) :: (67, ?vb0) :: (68, ?vb1) :: (69, ?vb2) :: (70, ?vb3) :: (71, ?vb4) :: (72, x72) :: (73, ?vb6) :: (74, x74) :: (75, x75) :: (76, x76) :: (77, x77) :: []) rfl ⟨hx7, hb.done' 0 67 rfl rfl, hb.done' 1 68 rfl rfl, hb.done' 2 69 rfl rfl, hb.done' 3 70 rfl rfl, hb.done' 4 71 rfl rfl, hx72, hb.done' 6 73 rfl rfl, hx74, hx75, hx76, hx77, trivial⟩
        simp only [updL, ↓reduceIte, Nat.reduceEqDiff, Nat.reduceAdd, Nat.zero_add] at hfr
        have HX := Lib.hid hb.ext
        clear hb
        subst hfr
        obtain ⟨u, ho12, hu12, hat12⟩ := (show ∃ u, X.ownsRow 0 54 2 x7 (i + 1) (ccs (LB.take i) ++ [.int .i64 (tN : Int), u]) ∧ Own 5 w7.heap.size X u c ∧ ∀ j, x7.ownBlock = some j → w6.heap.size ≤ j from p7)
        have Hg6X : Hid (Grows w6 X) := Below.trans Hg67.out (HX.out.below Hg67.out.size (fun k hk => Hat7.out k hk))
        have Hb12 := Lib.hid (Hb6.out.grows Hg6X.out)
        obtain ⟨e, He⟩ : ∃ e : Ce, Hid ((⟨⟨tN, c⟩, u⟩ : Ce) = e) := ⟨_, rfl⟩
        have Ho12 : Hid (X.ownsRow 0 54 2 x7 (i + 1) (ccs (LB.take i ++ [e]))) := by show World.ownsRow _ _ _ _ _ _ _; rw [ccs_app, ← He.out]; exact ho12
        have Hu12 := Lib.hid hu12
        have Hat12 := Lib.hid hat12
        have Hown12 := Lib.hid (own_grows Hown6.out Hg6X.out)
        clear ho12 hu12 hat12 c0 c1 HX p7
        have Hlen : Hid ((LB.take i ++ [e] ++ LB.drop i).length = i + 1 + (n - i)) := by
          show _ = _
          rw [List.length_append, List.length_append, List.length_take, List.length_drop, HlB.out, List.length_singleton, Nat.min_eq_left Hi.out]
        have Hthr : Hid (∀ W : World, (∀ e' ∈ LB, Own 5 0 W e'.v e'.c.p) → Own 5 0 W u c → ∀ e' ∈ LB.take i ++ [e] ++ LB.drop i, Own 5 0 W e'.v e'.c.p) := by
          show ∀ _, _
          intro W h1 h2
          refine three_all h1 ?_
          rw [← He.out]
          exact h2
        obtain ⟨c0, c1⟩ := Hb12.out.cells
        go_wp2_with (first
          | (refine wpList_slCl rfl (.tmp 83) (.tmp 84) rfl la n lc i rfl _ rfl rfl LB Hown12.out Hi.out ?_; intro sx2 hsx2; have Hsx2 := Lib.hid hsx2; clear hsx2)
          | (refine wpList_appC rfl (.tmp 79) (.tmp 85) rfl x7 (i + 1) (LB.take i ++ [e]) rfl Ho12.out sx2 (n - i) (LB.drop i) rfl Hsx2.out (by rw [List.length_drop, HlB.out]) (ccs_one (fun e' he' => Hb12.out.ps e' (List.mem_of_mem_drop he'))) (by have := Hi.out; omega) ?_; intro v8 w8 ho8 hg8 hat8; have Hg8 : Hid (Grows w6 w8) := Below.grown Hg6X.out hg8 Hg6X.out.size (fun k hk => Hat12.out k hk); have Hu8 : Hid (Own 5 w7.heap.size w8 u c) := own_but Hu12.out (But.grown hg8 (fun j hj => hj)) (fun j hj hO => own_ne2 Hu12.out Ho12.out (by decide) j hj hO); have Ho8 := Lib.hid ho8; have Hat8 := Lib.hid (at_or hat8 Hat12.out Hg6X.out.size); have Hb8 := Lib.hid (Hb6.out.grows Hg8.out); clear ho8 hg8 hat8 c0 c1; obtain ⟨c0, c1⟩ := Hb8.out.cells)
          | (refine wpList_storeL rfl (.tmp 88) (.tmp 86) rfl Hb8.out v8 (LB.take i ++ [e] ++ LB.drop i) rfl rfl (by have := Ho8.out; rw [Hlen.out]; exact this) (fun j hj => by have := Hat8.out j hj; have := (Array.getElem?_eq_some_iff.1 Hb6.out.row).1; have := Hb6.out.qB; omega) (Hthr.out w8 Hb8.out.ps (own_zero Hu8.out)) ?_; intro w9 hb9 hu9; have Hb9 := Lib.hid hb9; have Hu9 := Lib.hid hu9; clear hb9 hu9 c0 c1))
        go_ret
        refine ⟨rfl, ⟨_, _, _, Hb9.out, ?_⟩, ((Hu5.out.trans' Hu56.out).trans' (But.ofGrows Hg8.out)).trans' (Hu9.out.mono (fun k hk => .inl hk))⟩
        rw [Hins.out, ← HA5.out]
        unfold addA abs_ insL
        rw [Hm.out, HtN.out, ← He.out]
        simp [HtN.out]
  · rw [if_neg hp] at HPre
    have hp' : ¬ (t : Int) - 2 - 2 * ((n : Int) + 1) < (m : Int) := by omega
    refine specs_region
      #[[], [0], [0, 1], [0, 1, 2], [0, 1, 2, 3], [], [5], [5, 6], [5, 6, 7], [5, 6, 7, 8], [5, 6, 7, 8, 9], [5, 6, 7, 8, 9, 10], [0, 1, 2, 3, 4, 5, 6, 7, 8, 9, 10, 11], [], [13], [0, 1, 2, 3, 4, 5, 6, 7, 8, 9, 10, 11, 12, 13, 14]] #[[0], [], [], [], [], [0], [], [], [], [], [], [], [], [2], [], []] #[true, true, true, true, true, true, true, true, true, true, true, true, true, true, true, true]
      ((.val ?vc0) :: (.val ?vc1) :: (.val ?vc2) :: (.val ?vc3) :: (.val ?vc4) :: (.val ?vc5) :: (.val ?vc6) :: (.val ?vc7) :: (.val ?vc8) :: (.val ?vc9) :: (.val ?vc10) :: (.val ?vc11) :: (.val ?vc12) :: (.val ?vc13) :: (.val ?vc14) :: (.val ?vc15) :: []).toArray
      hmx ?chkc ?grdc ?stpc ?rstc
    case chkc => rfl
    case stpc =>
      refine ⟨?_, ?_, ?_, ?_, ?_, ?_, ?_, ?_, ?_, ?_, ?_, ?_, ?_, ?_, ?_, ?_, trivial⟩
      · refine step_intro rfl rfl fun ρ X hc hf hgl hX hp ho => ?_
        change StepOk _ { dst := _, op := Op.move (Operand.tmp 0), type := _, pos := _, after := _, guard := _ } _ _ _
        have k0 : ρ (.tmp 0) = .pointer (some ⟨q, 0, none⟩) := ho 0 (by decide)
        clear hp ho
        refine StepOk.of_run (v := ?vc0) (w' := X) ?_ ⟨rfl, Below.refl _ _⟩
        clear hX
        go_simp
        all_goals try go_bits
        all_goals try simp only [IntWalk.iteOmega]
        all_goals try go_bits
        all_goals rfl
      · refine step_intro rfl rfl fun ρ X hc hf hgl hX hp ho => ?_
        change StepOk _ { dst := _, op := Op.nilCheck (Operand.tmp 31), type := _, pos := _, after := _, guard := _ } _ _ _
        have k31 : ρ (.tmp 31) = ?vc0 := hp 0 (by decide)
        clear hp ho
        refine StepOk.of_run (v := ?vc1) (w' := X) ?_ ⟨rfl, Below.refl _ _⟩
        clear hX
        go_simp
        all_goals try go_bits
        all_goals try simp only [IntWalk.iteOmega]
        all_goals try go_bits
        all_goals rfl
      · refine step_intro rfl rfl fun ρ X hc hf hgl hX hp ho => ?_
        change StepOk _ { dst := _, op := Op.fieldAddr 50 (Operand.tmp 32) 0, type := _, pos := _, after := _, guard := _ } _ _ _
        have k32 : ρ (.tmp 32) = ?vc1 := hp 1 (by decide)
        clear hp ho
        refine StepOk.of_run (v := ?vc2) (w' := X) ?_ ⟨rfl, Below.refl _ _⟩
        clear hX
        go_simp
        all_goals try go_bits
        all_goals try simp only [IntWalk.iteOmega]
        all_goals try go_bits
        all_goals rfl
      · refine step_intro rfl rfl fun ρ X hc hf hgl hX hp ho => ?_
        change StepOk _ { dst := _, op := Op.load 3 (Operand.tmp 33), type := _, pos := _, after := _, guard := _ } _ _ _
        have k33 : ρ (.tmp 33) = ?vc2 := hp 2 (by decide)
        have c0X := Grows.cell' hX c0
        have c1X := Grows.cell' hX c1
        clear hp ho
        refine StepOk.of_run (v := ?vc3) (w' := X) ?_ ⟨rfl, Below.refl _ _⟩
        clear hX
        go_simp
        all_goals try go_bits
        all_goals try simp only [IntWalk.iteOmega]
        all_goals try go_bits
        all_goals rfl
      · refine step_intro rfl rfl fun ρ X hc hf hgl hX hp ho => ?_
        change StepOk _ { dst := _, op := Op.binOp BinOp.sub 3 (Operand.tmp 34) (Operand.const (Value.int IntKind.i64 2)) 3, type := _, pos := _, after := _, guard := _ } _ _ _
        have k34 : ρ (.tmp 34) = ?vc3 := hp 3 (by decide)
        clear hp ho
        refine StepOk.of_run (v := ?vc4) (w' := X) ?_ ⟨rfl, Below.refl _ _⟩
        clear hX
        go_simp
        all_goals try go_bits
        all_goals try simp only [IntWalk.iteOmega]
        all_goals try go_bits
        all_goals rfl
      · refine step_intro rfl rfl fun ρ X hc hf hgl hX hp ho => ?_
        change StepOk _ { dst := _, op := Op.move (Operand.tmp 0), type := _, pos := _, after := _, guard := _ } _ _ _
        have k0 : ρ (.tmp 0) = .pointer (some ⟨q, 0, none⟩) := ho 0 (by decide)
        clear hp ho
        refine StepOk.of_run (v := ?vc5) (w' := X) ?_ ⟨rfl, Below.refl _ _⟩
        clear hX
        go_simp
        all_goals try go_bits
        all_goals try simp only [IntWalk.iteOmega]
        all_goals try go_bits
        all_goals rfl
      · refine step_intro rfl rfl fun ρ X hc hf hgl hX hp ho => ?_
        change StepOk _ { dst := _, op := Op.nilCheck (Operand.tmp 36), type := _, pos := _, after := _, guard := _ } _ _ _
        have k36 : ρ (.tmp 36) = ?vc5 := hp 5 (by decide)
        clear hp ho
        refine StepOk.of_run (v := ?vc6) (w' := X) ?_ ⟨rfl, Below.refl _ _⟩
        clear hX
        go_simp
        all_goals try go_bits
        all_goals try simp only [IntWalk.iteOmega]
        all_goals try go_bits
        all_goals rfl
      · refine step_intro rfl rfl fun ρ X hc hf hgl hX hp ho => ?_
        change StepOk _ { dst := _, op := Op.fieldAddr 50 (Operand.tmp 37) 1, type := _, pos := _, after := _, guard := _ } _ _ _
        have k37 : ρ (.tmp 37) = ?vc6 := hp 6 (by decide)
        clear hp ho
        refine StepOk.of_run (v := ?vc7) (w' := X) ?_ ⟨rfl, Below.refl _ _⟩
        clear hX
        go_simp
        all_goals try go_bits
        all_goals try simp only [IntWalk.iteOmega]
        all_goals try go_bits
        all_goals rfl
      · refine step_intro rfl rfl fun ρ X hc hf hgl hX hp ho => ?_
        change StepOk _ { dst := _, op := Op.load 48 (Operand.tmp 38), type := _, pos := _, after := _, guard := _ } _ _ _
        have k38 : ρ (.tmp 38) = ?vc7 := hp 7 (by decide)
        have c0X := Grows.cell' hX c0
        have c1X := Grows.cell' hX c1
        clear hp ho
        refine StepOk.of_run (v := ?vc8) (w' := X) ?_ ⟨rfl, Below.refl _ _⟩
        clear hX
        go_simp
        all_goals try go_bits
        all_goals try simp only [IntWalk.iteOmega]
        all_goals try go_bits
        all_goals rfl
      · refine step_intro rfl rfl fun ρ X hc hf hgl hX hp ho => ?_
        change StepOk _ { dst := _, op := Op.call { callee := Callee.builtin Builtin.len, args := #[Operand.tmp 39], argTypes := #[48] }, type := _, pos := _, after := _, guard := _ } _ _ _
        have k39 : ρ (.tmp 39) = ?vc8 := hp 8 (by decide)
        clear hp ho
        refine StepOk.of_run (v := ?vc9) (w' := X) ?_ ⟨rfl, Below.refl _ _⟩
        clear hX
        go_simp
        all_goals try go_bits
        all_goals try simp only [IntWalk.iteOmega]
        all_goals try go_bits
        all_goals rfl
      · refine step_intro rfl rfl fun ρ X hc hf hgl hX hp ho => ?_
        change StepOk _ { dst := _, op := Op.binOp BinOp.add 3 (Operand.tmp 40) (Operand.const (Value.int IntKind.i64 1)) 3, type := _, pos := _, after := _, guard := _ } _ _ _
        have k40 : ρ (.tmp 40) = ?vc9 := hp 9 (by decide)
        clear hp ho
        refine StepOk.of_run (v := ?vc10) (w' := X) ?_ ⟨rfl, Below.refl _ _⟩
        clear hX
        go_simp
        all_goals try go_bits
        all_goals try simp only [IntWalk.iteOmega]
        all_goals try go_bits
        all_goals rfl
      · refine step_intro rfl rfl fun ρ X hc hf hgl hX hp ho => ?_
        change StepOk _ { dst := _, op := Op.binOp BinOp.mul 3 (Operand.const (Value.int IntKind.i64 2)) (Operand.tmp 41) 3, type := _, pos := _, after := _, guard := _ } _ _ _
        have k41 : ρ (.tmp 41) = ?vc10 := hp 10 (by decide)
        clear hp ho
        refine StepOk.of_run (v := ?vc11) (w' := X) ?_ ⟨rfl, Below.refl _ _⟩
        clear hX
        go_simp
        all_goals try go_bits
        all_goals try simp only [IntWalk.iteOmega]
        all_goals try go_bits
        all_goals rfl
      · refine step_intro rfl rfl fun ρ X hc hf hgl hX hp ho => ?_
        change StepOk _ { dst := _, op := Op.binOp BinOp.sub 3 (Operand.tmp 35) (Operand.tmp 42) 3, type := _, pos := _, after := _, guard := _ } _ _ _
        have k35 : ρ (.tmp 35) = ?vc4 := hp 4 (by decide)
        have k42 : ρ (.tmp 42) = ?vc11 := hp 11 (by decide)
        clear hp ho
        refine StepOk.of_run (v := ?vc12) (w' := X) ?_ ⟨rfl, Below.refl _ _⟩
        clear hX
        go_simp
        all_goals try go_bits
        all_goals try simp only [IntWalk.iteOmega]
        all_goals try go_bits
        all_goals rfl
      · refine step_intro rfl rfl fun ρ X hc hf hgl hX hp ho => ?_
        change StepOk _ { dst := _, op := Op.move (Operand.tmp 2), type := _, pos := _, after := _, guard := _ } _ _ _
        have k2 : ρ (.tmp 2) = .slice ca m cc := ho 2 (by decide)
        clear hp ho
        refine StepOk.of_run (v := ?vc13) (w' := X) ?_ ⟨rfl, Below.refl _ _⟩
        clear hX
        go_simp
        all_goals try go_bits
        all_goals try simp only [IntWalk.iteOmega]
        all_goals try go_bits
        all_goals rfl
      · refine step_intro rfl rfl fun ρ X hc hf hgl hX hp ho => ?_
        change StepOk _ { dst := _, op := Op.call { callee := Callee.builtin Builtin.len, args := #[Operand.tmp 44], argTypes := #[30] }, type := _, pos := _, after := _, guard := _ } _ _ _
        have k44 : ρ (.tmp 44) = ?vc13 := hp 13 (by decide)
        clear hp ho
        refine StepOk.of_run (v := ?vc14) (w' := X) ?_ ⟨rfl, Below.refl _ _⟩
        clear hX
        go_simp
        all_goals try go_bits
        all_goals try simp only [IntWalk.iteOmega]
        all_goals try go_bits
        all_goals rfl
      · refine step_intro rfl rfl fun ρ X hc hf hgl hX hp ho => ?_
        change StepOk _ { dst := _, op := Op.binOp BinOp.lss 3 (Operand.tmp 43) (Operand.tmp 45) 3, type := _, pos := _, after := _, guard := _ } _ _ _
        have k43 : ρ (.tmp 43) = ?vc12 := hp 12 (by decide)
        have k45 : ρ (.tmp 45) = ?vc14 := hp 14 (by decide)
        clear hp ho
        refine StepOk.of_run (v := ?vc15) (w' := X) ?_ ⟨rfl, Below.refl _ _⟩
        clear hX
        go_simp
        all_goals try go_bits
        all_goals try simp only [IntWalk.iteOmega]
        all_goals try go_bits
        all_goals rfl
    case grdc => rfl
    case rstc =>
      intro a0 X hb
      have hfr := hb.frame ((31, ?vc0) :: (32, ?vc1) :: (33, ?vc2) :: (34, ?vc3) :: (35, ?vc4) :: (36, ?vc5) :: (37, ?vc6) :: (38, ?vc7) :: (39, ?vc8) :: (40, ?vc9) :: (41, ?vc10) :: (42, ?vc11) :: (43, ?vc12) :: (44, ?vc13) :: (45, ?vc14) :: (46, ?vc15) :: []) rfl ⟨hb.done' 0 31 rfl rfl, hb.done' 1 32 rfl rfl, hb.done' 2 33 rfl rfl, hb.done' 3 34 rfl rfl, hb.done' 4 35 rfl rfl, hb.done' 5 36 rfl rfl, hb.done' 6 37 rfl rfl, hb.done' 7 38 rfl rfl, hb.done' 8 39 rfl rfl, hb.done' 9 40 rfl rfl, hb.done' 10 41 rfl rfl, hb.done' 11 42 rfl rfl, hb.done' 12 43 rfl rfl, hb.done' 13 44 rfl rfl, hb.done' 14 45 rfl rfl, hb.done' 15 46 rfl rfl, trivial⟩
      simp only [updL, ↓reduceIte, Nat.reduceEqDiff, Nat.reduceAdd, Nat.zero_add] at hfr
      have HX := Lib.hid hb.ext
      clear hb
      subst hfr
      have HG7 := HX
      obtain ⟨w5, hw5⟩ : ∃ w5, X = w5 := ⟨_, rfl⟩
      have Hb5 := Lib.hid (Hh.out.grows (Grows.trans' Hg1.out HG7.out))
      have Hu5 := Lib.hid (But.ofGrows (O := OR q (.slice la n lc)) (Grows.trans' Hg1.out HG7.out))
      clear c0 c1 HX HG7
      rw [hw5] at Hb5 Hu5 ⊢
      clear hw5 X
      obtain ⟨tB, HtB⟩ : ∃ y, Hid (t = y) := ⟨_, rfl⟩
      obtain ⟨LB, HLB⟩ : ∃ y, Hid (L = y) := ⟨_, rfl⟩
      have HlB : Hid (LB.length = n) := by show _ = _; rw [← HLB.out, Hn.out]
      have HA5 : Hid (abs_ tB LB = preA (abs_ t L) c) := by show _ = _; rw [HPre.out, HLB.out, HtB.out]
      rw [HtB.out, HLB.out] at Hb5
      obtain ⟨c0, c1⟩ := Hb5.out.cells
      obtain ⟨tN, HtN⟩ : ∃ tN, Hid (tB - m = tN) := ⟨_, rfl⟩
      have htB : 2 + 2 * (n + 1) + m ≤ tB := by have := HB3.out; rw [← HA5.out] at this; exact this
      have htB2 : tB ≤ 243 := by have := Hbt.out; rw [← HA5.out] at this; exact this
      go_wp2_with (first
        | (refine wpList_storeTop rfl (.tmp 58) (.tmp 56) rfl Hb5.out tN _ rfl rfl (by have := HtN.out; omega) ?_; intro w6 hb6 hu6; have Hb6 := Lib.hid hb6; have Hu56 := Lib.hid hu6; have hown6 := hb6.own; rw [HlB.out] at hown6; have Hown6 := Lib.hid hown6; clear hb6 hu6 hown6 c0 c1; obtain ⟨c0, c1⟩ := Hb6.out.cells)
        | (refine wpList_slCh rfl (.tmp 63) (.tmp 64) rfl la n lc i rfl rfl LB Hown6.out Hi.out ?_; intro sx1 hsx1; have Hsx1 := Lib.hid hsx1; clear hsx1)
        | (refine wpList_appC rfl (.tmp 59) (.tmp 65) rfl (.slice none 0 0) 0 [] rfl (World.ownsRow_nil _ _ _ _) sx1 i (LB.take i) rfl Hsx1.out (by rw [List.length_take, HlB.out]; have := Hi.out; omega) (ccs_one (fun e he => Hb6.out.ps e (List.mem_of_mem_take he))) (by have := Hi.out; omega) ?_; intro v7 w7 ho7 hg7 hat7; rw [Nat.zero_add, List.nil_append] at ho7; have Hg67 : Hid (Grows w6 w7) := Below.grown (Below.refl _ _) hg7 (Nat.le_refl _) (fun k hk => by cases hk); have Ho7 := Lib.hid ho7; have Hat7 : Hid (∀ j, v7.ownBlock = some j → w6.heap.size ≤ j) := at_or hat7 (fun j hj => by cases hj) (Nat.le_refl _); clear ho7 hg7 hat7 c0 c1; obtain ⟨c0, c1⟩ := (Hb6.out.grows Hg67.out).cells))
      have Hv7 := Lib.hid ((Hv.out.but (Hu5.out.trans' Hu56.out) Ho.out).grows Hg67.out)
      have Hov7 : Hid (Outside (fun b => v7.ownBlock = some b) (.slice ca m cc)) := Lib.hid (out_of (Hv.out.but (Hu5.out.trans' Hu56.out) Ho.out) Hat7.out)
      have Hnq : Hid (¬ (v7.ownBlock = some q)) := by show ¬ _; intro h; have := Hat7.out q h; have := (Array.getElem?_eq_some_iff.1 Hb6.out.row).1; omega
      refine region_L (E := (But (fun b => v7.ownBlock = some b))) (But.ok _) But.ofGrows
        #[[], [], [1], [1, 2], [1, 2, 3], [], [], [5, 6], [1, 2, 3, 4, 5, 6, 7], [1, 2, 3, 4, 5, 6, 7, 8], [0, 1, 2, 3, 4, 5, 6, 7, 8, 9], [0, 1, 2, 3, 4, 5, 6, 7, 8, 9, 10]] #[[7], [0], [], [], [], [], [2], [], [], [], [], []] #[true, true, true, true, true, true, true, true, true, true, true, true]
        ((.val ?vd0) :: (.val ?vd1) :: (.val ?vd2) :: (.val ?vd3) :: (.val ?vd4) :: (.pred (fun v W => W.ownsRow w7.heap.size 5 1 v 0 [] ∧ ∃ g, v = .slice (some ⟨g, 0, none⟩) 0 0) (fun v a b h ho => ⟨own_but ho.1 h (fun j hj hO => by have h1 := own_base ho.1 j hj; have h2 := own_lt Ho7.out j hO; omega), ho.2⟩)) :: (.val ?vd6) :: (.pred (fun v W => Own 5 w7.heap.size W v c) (fun v a b h ho => own_but ho h (fun j hj hO => by have h1 := own_base ho j hj; have h2 := own_lt Ho7.out j hO; omega))) :: (.pred (fun v W => ∃ u, v = .agg #[.int .i64 (tN : Int), u] ∧ Own 5 w7.heap.size W u c) (fun v a b h ⟨u, e, ho⟩ => ⟨u, e, own_but ho h (fun j hj hO => by have h1 := own_base ho j hj; have h2 := own_lt Ho7.out j hO; omega)⟩)) :: (.pred (fun v W => ∃ u, W.ownsRow w7.heap.size 54 2 v 1 [.int .i64 (tN : Int), u] ∧ Own 5 w7.heap.size W u c ∧ ∃ g, v = .slice (some ⟨g, 0, none⟩) 1 1) (fun v a b h ⟨u, ho, hu, e⟩ => ⟨u, own_but ho h (fun j hj hO => by have h1 := own_base ho j hj; have h2 := own_lt Ho7.out j hO; omega), own_but hu h (fun j hj hO => by have h1 := own_base hu j hj; have h2 := own_lt Ho7.out j hO; omega), e⟩)) :: (.frag (fun v W => ∃ u, W.ownsRow 0 54 2 v (i + 1) (ccs (LB.take i) ++ [.int .i64 (tN : Int), u]) ∧ Own 5 w7.heap.size W u c ∧ ∀ j, v.ownBlock = some j → w6.heap.size ≤ j) (fun v a b h ⟨u, ho, hu, e⟩ => ⟨u, own_grows ho h, hu.grows h, e⟩)) :: (.frag (fun v W => ∃ u, W.ownsRow 0 54 2 v (i + 1) (ccs (LB.take i) ++ [.int .i64 (tN : Int), u]) ∧ Own 5 w7.heap.size W u c ∧ ∀ j, v.ownBlock = some j → w6.heap.size ≤ j) (fun v a b h ⟨u, ho, hu, e⟩ => ⟨u, own_grows ho h, hu.grows h, e⟩)) :: []).toArray
        (ownT v7 i (ccs (LB.take i)) 10 #[[], [], [], [], [], [], [], [], [], [], [0]])
        (ownT_ks _ _ _ _ _ _)
        (fun s hs => match s, hs with | 0, _ => Ho7.out | _ + 1, _ => trivial)
        hmx ?chkd rfl rfl ?grdd ?stpd ?rstd
      case chkd => rfl
      case stpd =>
        refine ⟨?_, ?_, ?_, ?_, ?_, ?_, ?_, ?_, ?_, ?_, ?_, ?_, trivial⟩
        · refine step_introK rfl rfl fun ρ X hc hf hgl hX hp ho hu => ?_
          change StepOk _ { dst := _, op := Op.move (Operand.tmp 7), type := _, pos := _, after := _, guard := _ } _ _ _
          have k7 : ρ (.tmp 7) = v7 := ho 7 (by decide)
          refine stepK_plain (i := 0) rfl ?_
          clear hu
          clear hp ho
          refine StepOk.of_run (v := ?vd0) (w' := X) ?_ ⟨rfl, Below.refl _ _⟩
          clear hX
          go_simp
          all_goals try go_bits
          all_goals try simp only [IntWalk.iteOmega]
          all_goals try go_bits
          all_goals rfl
        · refine step_introK rfl rfl fun ρ X hc hf hgl hX hp ho hu => ?_
          change StepOk _ { dst := _, op := Op.move (Operand.tmp 0), type := _, pos := _, after := _, guard := _ } _ _ _
          have k0 : ρ (.tmp 0) = .pointer (some ⟨q, 0, none⟩) := ho 0 (by decide)
          refine stepK_plain (i := 1) rfl ?_
          clear hu
          clear hp ho
          refine StepOk.of_run (v := ?vd1) (w' := X) ?_ ⟨rfl, Below.refl _ _⟩
          clear hX
          go_simp
          all_goals try go_bits
          all_goals try simp only [IntWalk.iteOmega]
          all_goals try go_bits
          all_goals rfl
        · refine step_introK rfl rfl fun ρ X hc hf hgl hX hp ho hu => ?_
          change StepOk _ { dst := _, op := Op.nilCheck (Operand.tmp 68), type := _, pos := _, after := _, guard := _ } _ _ _
          have k68 : ρ (.tmp 68) = ?vd1 := hp 1 (by decide)
          refine stepK_plain (i := 2) rfl ?_
          clear hu
          clear hp ho
          refine StepOk.of_run (v := ?vd2) (w' := X) ?_ ⟨rfl, Below.refl _ _⟩
          clear hX
          go_simp
          all_goals try go_bits
          all_goals try simp only [IntWalk.iteOmega]
          all_goals try go_bits
          all_goals rfl
        · refine step_introK rfl rfl fun ρ X hc hf hgl hX hp ho hu => ?_
          change StepOk _ { dst := _, op := Op.fieldAddr 50 (Operand.tmp 69) 0, type := _, pos := _, after := _, guard := _ } _ _ _
          have k69 : ρ (.tmp 69) = ?vd2 := hp 2 (by decide)
          refine stepK_plain (i := 3) rfl ?_
          clear hu
          clear hp ho
          refine StepOk.of_run (v := ?vd3) (w' := X) ?_ ⟨rfl, Below.refl _ _⟩
          clear hX
          go_simp
          all_goals try go_bits
          all_goals try simp only [IntWalk.iteOmega]
          all_goals try go_bits
          all_goals rfl
        · refine step_introK rfl rfl fun ρ X hc hf hgl hX hp ho hu => ?_
          change StepOk _ { dst := _, op := Op.load 3 (Operand.tmp 70), type := _, pos := _, after := _, guard := _ } _ _ _
          have k70 : ρ (.tmp 70) = ?vd3 := hp 3 (by decide)
          refine stepK_plain (i := 4) rfl ?_
          clear hu
          have c0X := But.cell hX Hnq.out c0
          clear hp ho
          refine StepOk.of_run (v := ?vd4) (w' := X) ?_ ⟨rfl, Below.refl _ _⟩
          clear hX
          go_simp
          all_goals try go_bits
          all_goals try simp only [IntWalk.iteOmega]
          all_goals try go_bits
          all_goals rfl
        · refine step_introK rfl rfl fun ρ X hc hf hgl hX hp ho hu => ?_
          change StepOk _ { dst := _, op := Op.buildSlice 30 0 #[], type := _, pos := _, after := _, guard := _ } _ _ _
          refine stepK_plain (i := 5) rfl ?_
          clear hu
          clear hp ho
          refine StepOk.of_run (v := .slice (some ⟨X.heap.size, 0, none⟩) 0 0) (w' := X.alloc (.cells #[] 5)) ?_ ⟨⟨⟨by simp, .inr ⟨X.heap.size, 0, #[], rfl, hX.size, heap_alloc_new X _, Nat.le_refl _, by simp [maxLen], by simp, by simp⟩⟩, _, rfl⟩, Grows.alloc' _ _⟩
          simp [go_sem, execOp, hc]
        · refine step_introK rfl rfl fun ρ X hc hf hgl hX hp ho hu => ?_
          change StepOk _ { dst := _, op := Op.move (Operand.tmp 2), type := _, pos := _, after := _, guard := _ } _ _ _
          have k2 : ρ (.tmp 2) = .slice ca m cc := ho 2 (by decide)
          refine stepK_plain (i := 6) rfl ?_
          clear hu
          clear hp ho
          refine StepOk.of_run (v := ?vd6) (w' := X) ?_ ⟨rfl, Below.refl _ _⟩
          clear hX
          go_simp
          all_goals try go_bits
          all_goals try simp only [IntWalk.iteOmega]
          all_goals try go_bits
          all_goals rfl
        · refine step_introK rfl rfl fun ρ X hc hf hgl hX hp ho hu => ?_
          change StepOk _ { dst := _, op := Op.call { callee := Callee.builtin Builtin.append, args := #[Operand.tmp 72, Operand.tmp 73], argTypes := #[30, 30] }, type := _, pos := _, after := _, guard := _ } _ _ _
          have k72 := hp 5 (by decide)
          have k73 : ρ (.tmp 73) = ?vd6 := hp 6 (by decide)
          refine stepK_plain (i := 7) rfl ?_
          clear hu
          clear hp ho
          obtain ⟨ho0, g0, e0⟩ := k72
          rw [e0] at ho0
          obtain ⟨v', W', hr, ho', hg'⟩ := run_copyB w7.heap.size X hX.size g0 ho0 (.slice ca m cc) c (Hv7.out.but hX Hov7.out) (by rw [Hm.out]; omega)
          refine StepOk.of_run (v := v') (w' := W') ?_ ⟨ho', hg'⟩
          simp only [execOp, resolve, invoke, builtin, Sem.run_bind, Sem.run_pure, Result.andThen_ok, List.map_toArray, List.map_cons, List.map_nil, e0, k73, hr]
        · refine step_introK rfl rfl fun ρ X hc hf hgl hX hp ho hu => ?_
          change StepOk _ { dst := _, op := Op.build 54 #[(0, Operand.tmp 71), (1, Operand.tmp 74)], type := _, pos := _, after := _, guard := _ } _ _ _
          have k71 : ρ (.tmp 71) = ?vd4 := hp 4 (by decide)
          have k74 := hp 7 (by decide)
          refine stepK_plain (i := 8) rfl ?_
          clear hu
          clear hp ho
          obtain ⟨a74, c74, e74⟩ := own_form k74
          refine StepOk.of_run (v := .agg #[.int .i64 (tN : Int), ρ (.tmp 74)]) (w' := X) ?_ ⟨⟨_, rfl, k74⟩, Below.refl _ _⟩
          clear hX k74
          rw [e74]
          go_simp
          all_goals rfl
        · refine step_introK rfl rfl fun ρ X hc hf hgl hX hp ho hu => ?_
          change StepOk _ { dst := _, op := Op.buildSlice 48 1 #[(0, Operand.tmp 75)], type := _, pos := _, after := _, guard := _ } _ _ _
          have k75 := hp 8 (by decide)
          refine stepK_plain (i := 9) rfl ?_
          clear hu
          clear hp ho
          obtain ⟨u, e75, hu75⟩ := k75
          obtain ⟨a74, c74, e74⟩ := own_form hu75
          refine StepOk.of_run (v := .slice (some ⟨X.heap.size, 0, none⟩) 1 1) (w' := X.alloc (.cells #[.int .i64 (tN : Int), u] 54)) ?_ ⟨⟨u, ⟨rfl, .inr ⟨X.heap.size, 1, _, rfl, hX.size, heap_alloc_new X _, Nat.le_refl _, by simp [maxLen], rfl, rfl⟩⟩, hu75.grows (Grows.alloc' _ _), _, rfl⟩, Grows.alloc' _ _⟩
          clear hX hu75
          rw [e74] at e75 ⊢
          simp [go_sem, execOp, hc, e75]
        · refine step_introK rfl rfl fun ρ X hc hf hgl hX hp ho hu => ?_
          change StepOk _ { dst := _, op := Op.call { callee := Callee.builtin Builtin.append, args := #[Operand.tmp 67, Operand.tmp 76], argTypes := #[48, 48] }, type := _, pos := _, after := _, guard := _ } _ _ _
          have k67 : ρ (.tmp 67) = ?vd0 := hp 0 (by decide)
          have k76 := hp 9 (by decide)
          have hu0 := hu
          have hown0 : X.ownsRow 0 54 2 v7 i (ccs (LB.take i)) := hu 0 (by simp [ownT])
          clear hp ho
          refine stepK_made rfl ?_
          obtain ⟨u, ho76, hu76, g76, e76⟩ := k76
          rw [e76] at ho76
          obtain ⟨ic, hic, hzc, hsc1, hsc2⟩ := info_parts infoCell
          have hrd : RdN X (.slice (some ⟨g76, 0, none⟩) 1 1) 1 [.int .i64 (tN : Int), u] := ⟨_, _, rfl, (fun h => by cases h), fun ad had j y hy => by obtain rfl := Option.some.inj had; exact ho76.cells (g := g76) rfl j y hy⟩
          obtain ⟨v', W', hr, ho', hgb', hat, _⟩ := run_appendR (P := Try.prog) X 48 48 54 ic _ 2 32 Try.underlying48 hic hzc hsc1 hsc2 rfl (by omega) v7 i _ hown0 _ 1 _ hrd rfl (pair_one hu76 _) (by unfold maxLen; omega) (by omega) [] (by simp)
          have hB' : But (fun b => v7.ownBlock = some b) X W' := But.grown hgb' (fun j hj => hj)
          refine StepOk.of_run (v := v') (w' := W') ?_ ⟨⟨u, ho', own_but hu76 hB' (fun j hj hO => by have h1 := own_base hu76 j hj; have h2 := own_lt Ho7.out j hO; omega), at_or hat Hat7.out (by have := hX.size; have := Hg67.out.size; omega)⟩, hB', fun s hs => ?_⟩
          · simp only [execOp, resolve, invoke, builtin, Sem.run_bind, Sem.run_pure, Result.andThen_ok, List.map_toArray, List.map_cons, List.map_nil, k67, e76, hr]
          · match s, hs with
            | 0, h => simp [ownT] at h
            | _ + 1, h => simp [ownT] at h
        · refine step_introK rfl rfl fun ρ X hc hf hgl hX hp ho hu => ?_
          change StepOk _ { dst := _, op := Op.assign (Operand.tmp 77), type := _, pos := _, after := _, guard := _ } _ _ _
          have k77 := hp 10 (by decide)
          refine stepK_plain (i := 11) rfl ?_
          clear hu
          clear hp ho
          refine StepOk.of_run (v := ρ (.tmp 77)) (w' := X) ?_ ⟨k77, Below.refl _ _⟩
          simp [go_sem, execOp]
      case grdd => rfl
      case rstd =>
        intro a0 X hb
        obtain ⟨x7, hx7⟩ : ∃ x, a0.tmps.getD 7 undef = x := ⟨_, rfl⟩
        have p7 := hb.done' 11 7 rfl rfl
        rw [hx7] at p7
        obtain ⟨x72, hx72⟩ : ∃ x, a0.tmps.getD 72 undef = x := ⟨_, rfl⟩
        have p72 := hb.done' 5 72 rfl rfl
        rw [hx72] at p72
        obtain ⟨x74, hx74⟩ : ∃ x, a0.tmps.getD 74 undef = x := ⟨_, rfl⟩
        have p74 := hb.done' 7 74 rfl rfl
        rw [hx74] at p74
        obtain ⟨x75, hx75⟩ : ∃ x, a0.tmps.getD 75 undef = x := ⟨_, rfl⟩
        have p75 := hb.done' 8 75 rfl rfl
        rw [hx75] at p75
        obtain ⟨x76, hx76⟩ : ∃ x, a0.tmps.getD 76 undef = x := ⟨_, rfl⟩
        have p76 := hb.done' 9 76 rfl rfl
        rw [hx76] at p76
        obtain ⟨x77, hx77⟩ : ∃ x, a0.tmps.getD 77 undef = x := ⟨_, rfl⟩
        have p77 := hb.done' 10 77 rfl rfl
        rw [hx77] at p77
        have hfr := hb.frame ((7, x7) :: (67, ?vd0) :: (68, ?vd1) :: (69, ?vd2) :: (70, ?vd3) :: (71, ?vd4) :: (72, x72) :: (73, ?vd6) :: (74, x74) :: (75, x75) :: (76, x76) :: (77, x77) :: []) rfl ⟨hx7, hb.done' 0 67 rfl rfl, hb.done' 1 68 rfl rfl, hb.done' 2 69 rfl rfl, hb.done' 3 70 rfl rfl, hb.done' 4 71 rfl rfl, hx72, hb.done' 6 73 rfl rfl, hx74, hx75, hx76, hx77, trivial⟩
        simp only [updL, ↓reduceIte, Nat.reduceEqDiff, Nat.reduceAdd, Nat.zero_add] at hfr
        have HX := Lib.hid hb.ext
        clear hb
        subst hfr
        obtain ⟨u, ho12, hu12, hat12⟩ := (show ∃ u, X.ownsRow 0 54 2 x7 (i + 1) (ccs (LB.take i) ++ [.int .i64 (tN : Int), u]) ∧ Own 5 w7.heap.size X u c ∧ ∀ j, x7.ownBlock = some j → w6.heap.size ≤ j from p7)
        have Hg6X : Hid (Grows w6 X) := Below.trans Hg67.out (HX.out.below Hg67.out.size (fun k hk => Hat7.out k hk))
        have Hb12 := Lib.hid (Hb6.out.grows Hg6X.out)
        obtain ⟨e, He⟩ : ∃ e : Ce, Hid ((⟨⟨tN, c⟩, u⟩ : Ce) = e) := ⟨_, rfl⟩
        have Ho12 : Hid (X.ownsRow 0 54 2 x7 (i + 1) (ccs (LB.take i ++ [e]))) := by show World.ownsRow _ _ _ _ _ _ _; rw [ccs_app, ← He.out]; exact ho12
        have Hu12 := Lib.hid hu12
        have Hat12 := Lib.hid hat12
        have Hown12 := Lib.hid (own_grows Hown6.out Hg6X.out)
        clear ho12 hu12 hat12 c0 c1 HX p7
        have Hlen : Hid ((LB.take i ++ [e] ++ LB.drop i).length = i + 1 + (n - i)) := by
          show _ = _
          rw [List.length_append, List.length_append, List.length_take, List.length_drop, HlB.out, List.length_singleton, Nat.min_eq_left Hi.out]
        have Hthr : Hid (∀ W : World, (∀ e' ∈ LB, Own 5 0 W e'.v e'.c.p) → Own 5 0 W u c → ∀ e' ∈ LB.take i ++ [e] ++ LB.drop i, Own 5 0 W e'.v e'.c.p) := by
          show ∀ _, _
          intro W h1 h2
          refine three_all h1 ?_
          rw [← He.out]
          exact h2
        obtain ⟨c0, c1⟩ := Hb12.out.cells
        go_wp2_with (first
          | (refine wpList_slCl rfl (.tmp 83) (.tmp 84) rfl la n lc i rfl _ rfl rfl LB Hown12.out Hi.out ?_; intro sx2 hsx2; have Hsx2 := Lib.hid hsx2; clear hsx2)
          | (refine wpList_appC rfl (.tmp 79) (.tmp 85) rfl x7 (i + 1) (LB.take i ++ [e]) rfl Ho12.out sx2 (n - i) (LB.drop i) rfl Hsx2.out (by rw [List.length_drop, HlB.out]) (ccs_one (fun e' he' => Hb12.out.ps e' (List.mem_of_mem_drop he'))) (by have := Hi.out; omega) ?_; intro v8 w8 ho8 hg8 hat8; have Hg8 : Hid (Grows w6 w8) := Below.grown Hg6X.out hg8 Hg6X.out.size (fun k hk => Hat12.out k hk); have Hu8 : Hid (Own 5 w7.heap.size w8 u c) := own_but Hu12.out (But.grown hg8 (fun j hj => hj)) (fun j hj hO => own_ne2 Hu12.out Ho12.out (by decide) j hj hO); have Ho8 := Lib.hid ho8; have Hat8 := Lib.hid (at_or hat8 Hat12.out Hg6X.out.size); have Hb8 := Lib.hid (Hb6.out.grows Hg8.out); clear ho8 hg8 hat8 c0 c1; obtain ⟨c0, c1⟩ := Hb8.out.cells)
          | (refine wpList_storeL rfl (.tmp 88) (.tmp 86) rfl Hb8.out v8 (LB.take i ++ [e] ++ LB.drop i) rfl rfl (by have := Ho8.out; rw [Hlen.out]; exact this) (fun j hj => by have := Hat8.out j hj; have := (Array.getElem?_eq_some_iff.1 Hb6.out.row).1; have := Hb6.out.qB; omega) (Hthr.out w8 Hb8.out.ps (own_zero Hu8.out)) ?_; intro w9 hb9 hu9; have Hb9 := Lib.hid hb9; have Hu9 := Lib.hid hu9; clear hb9 hu9 c0 c1))
        go_ret
        refine ⟨rfl, ⟨_, _, _, Hb9.out, ?_⟩, ((Hu5.out.trans' Hu56.out).trans' (But.ofGrows Hg8.out)).trans' (Hu9.out.mono (fun k hk => .inl hk))⟩
        rw [Hins.out, ← HA5.out]
        unfold addA abs_ insL
        rw [Hm.out, HtN.out, ← He.out]
        simp [HtN.out]
end Go.Proofs.Ytpodbhimkbadhaa
