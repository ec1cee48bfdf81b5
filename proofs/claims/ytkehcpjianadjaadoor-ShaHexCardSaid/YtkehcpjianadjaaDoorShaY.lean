/-
  The walk of the law ShaParts, over whatever meets the contracts.
-/
import Derived.Test.YtkehcpjianadjaaDoorShaX
import Derived.Test.YtkehcpjianadjaaDoorKitK
import Derived.Deep.AppendSrc
namespace Go.Proofs.YtkehcpjianadjaaDoor
open Go.RowKit
set_option linter.unusedVariables false
set_option linter.unusedSimpArgs false

/-- Bytes that lie in blocks from B on. -/
def BytFrom (B : Nat) (m : List UInt8) (v : Value) (W : World) : Prop := Byt W v m ∧ ∀ b off sp n c, v = .slice (some ⟨b, off, sp⟩) n c → n ≠ 0 → B ≤ b
theorem run_app0 {P : Program} {T e : TypeId} {W : World} {ty : TypeId} {i : TypeInfo} {g : Nat} {x : Value} {m : List UInt8} (hT : P.underlying T = some (.slice e)) (hi : P.info? e = some i) (hz : i.zero = some (.int .u8 0)) (hs : i.size = 1) (hb : i.bytes = 1)
    (hx : Byt W x m) (hlen : m.length ≤ 140737488355328) :
    ∃ v' W', (Builtin.append_ #[T, T] ty #[.slice (some ⟨g, 0, none⟩) 0 0, x]).run P W = .ok v' W' ∧ BytFrom W.heap.size m v' W' ∧ Grows W W' := by
  obtain ⟨a, cap, rfl, h1, h2, h3, h4⟩ := hx
  have hown : Own e 0 (W.alloc (.cells #[] e)) (.slice (some ⟨W.heap.size, 0, none⟩) 0 0) [] := Own.empty e 0 W (Nat.zero_le _)
  by_cases h0 : m = []
  · subst h0
    refine ⟨.slice (some ⟨g, 0, none⟩) 0 0, W, ?_, ⟨⟨some ⟨g, 0, none⟩, 0, rfl, Nat.le_refl _, by simp [maxLen], (fun h => by cases h), Or.inl rfl⟩, fun b off sp n c e hn => ?_⟩, Below.refl _ _⟩
    · have hf : ∀ w : World, (Builtin.firstCells i.size 0 (Value.slice a 0 cap)).run P w = .ok #[] w := fun w => by
        cases a with
        | none => exact run_firstCells_none w i.size 0 0 cap
        | some y => exact run_firstCells_some w i.size 0 y 0 cap [] (by simp) (by simp)
      simp [Builtin.append_, run_underlying hT, sizeOf, typeInfo, hi, Builtin.lenOf, hf, storeCells]
    · simp only [Value.slice.injEq] at e
      exact absurd e.2.1.symm hn
  · obtain ⟨b, off, rfl, hc⟩ := h4.resolve_left h0
    have hm : 0 < m.length := List.length_pos_iff.2 h0
    have hr := run_append_grow (P := P) W T ty e i (.int .u8 0) hT hi hz ⟨g, 0, none⟩ 0 0 [] (by simp) (by simp) ⟨b, off, none⟩ m.length cap (m.map bv) (by simp [hs])
      (fun j u hu => by
        have hj : j < m.length := by simpa using (List.getElem?_eq_some_iff.1 hu).1
        rw [Addr.add_lit, hc j hj]
        simpa [hj, List.getD] using hu) (by omega) (by omega) (by rw [hb]; exact growslice_fits (by omega) (by omega))
    simp only [Nat.zero_add] at hr
    have hge := grownCap_ge W m.length 0 e
    have hle := grownCap_le_maxLen W m.length 0 e (by unfold maxLen; omega)
    refine ⟨_, _, hr, ⟨⟨_, _, rfl, hge, hle, (fun h => by cases h), Or.inr ⟨_, 0, rfl, fun j hj => ?_⟩⟩, fun b' off' sp n c e' _ => ?_⟩, (Below.refl _ _).drew.alloc (Nat.le_refl _) _⟩
    · rw [World.cell?_alloc_at (w := W.drew) _ _ W.heap.size _ rfl]
      simp [hj, List.getD]
      rw [Array.getElem?_append_left (by simpa using hj)]
      simp [hj]
    · simp only [Value.slice.injEq, Option.some.injEq, Addr.mk.injEq] at e'
      omega

theorem But.refl' (O : Nat → Prop) (w : World) : But O w w := ⟨rfl, rfl, rfl, Nat.le_refl _, fun _ _ _ => rfl⟩
theorem But.ok (O : Nat → Prop) : ExtOk (But O) where
  refl := fun w => But.refl' O w
  trans := fun {a b c} h k => ⟨k.os.trans h.os, k.tape.trans h.tape, k.output.trans h.output, Nat.le_trans h.size k.size, fun n hn ho => (k.block n (Nat.lt_of_lt_of_le hn h.size) ho).trans (h.block n hn ho)⟩
  drew := fun w => ⟨rfl, rfl, rfl, Nat.le_refl _, fun _ _ _ => rfl⟩
theorem But.ofGrows {O : Nat → Prop} {a b : World} (h : Grows a b) : But O a b := ⟨h.os, h.tape, h.output, h.size, fun k hk _ => h.block k hk⟩
theorem But.cell {O : Nat → Prop} {a b : World} (h : But O a b) {p : Addr} {v : Value} (hn : ¬ O p.block) (hc : a.cell? p = some v) : b.cell? p = some v :=
  (World.cell?_of_block (h.block p.block (World.block_lt_of_cell? a p hc) hn)).trans hc
theorem Byt.but {O : Nat → Prop} {a b : World} {v : Value} {l : List UInt8} (h : Byt a v l) (g : But O a b) (ho : Outside O v) : Byt b v l := by
  obtain ⟨ad, cap, rfl, h1, h2, h3, h4⟩ := h
  refine ⟨ad, cap, rfl, h1, h2, h3, h4.imp id ?_⟩
  rintro ⟨bb, off, rfl, hc⟩
  by_cases h0 : l.length = 0
  · exact ⟨bb, off, rfl, fun i hi => by omega⟩
  · exact ⟨bb, off, rfl, fun i hi => g.cell (ho bb off none _ _ rfl h0) (hc i hi)⟩
theorem BytFrom.but {O : Nat → Prop} {B : Nat} {m : List UInt8} (hO : ∀ k, O k → k < B) (v : Value) (W W' : World) (g : But O W W') (h : BytFrom B m v W) : BytFrom B m v W' :=
  ⟨h.1.but g (fun b off sp n c e hn hb => by have := h.2 b off sp n c e hn; have := hO b hb; omega), h.2⟩
theorem BytFrom.mono {B B' : Nat} {m : List UInt8} {v : Value} {W : World} (h : BytFrom B m v W) (hb : B' ≤ B) : BytFrom B' m v W := ⟨h.1, fun b off sp n c e hn => Nat.le_trans hb (h.2 b off sp n c e hn)⟩
theorem BytL.but {O : Nat → Prop} {w0 a b : World} {v : Value} {ls : List (List UInt8)} (h : BytL w0 v ls) (g0 : Below w0.heap.size w0 b) : BytL b v ls := h.grows g0

theorem flat_snocS (ls : List (List UInt8)) (k : Nat) (hk : k < ls.length) : (ls.take (k + 1)).flatten = (ls.take k).flatten ++ ls.getD k [] := by
  rw [List.take_succ_eq_append_getElem hk, List.flatten_append]
  simp [List.getD, hk]

theorem neqAgg (l : List UInt8) (hl : l.length = 32) (A : Array Value) (hA : arr l = .agg A) (X : World) : (binOp .neq 25 (.agg A) (.agg A)).run Tryd.prog X = .ok (.bool false) X := by
  rw [← hA]
  have h := run_equalIn_bytes (P := Tryd.prog) X 9998 25 5 32 Tryd.underlying25 Tryd.underlying5 (fun w => by obtain ⟨i0, hi, hz0, hz1, hz2⟩ := info_parts info5; simp [sizeOf, typeInfo, hi, hz1]) l l hl hl
  have h2 : (Op.equalIn 10000 25 (arr l) (arr l)).run Tryd.prog X = .ok true X := by
    rw [show true = (l == l) by simp]
    exact h
  unfold arr at h2 ⊢
  rw [run_neq_struct, h2]
  rfl
theorem Own.but {e : TypeId} {B : Nat} {O : Nat → Prop} {W W' : World} {v : Value} {l : List UInt8} (h : Own e B W v l) (ho : ∀ k, v.ownBlock = some k → ¬ O k) (g : But O W W') : Own e B W' v l := by
  refine ⟨h.1, ?_⟩
  rcases h.2 with h' | ⟨b, cap, cur, rfl, hb, hg, rest⟩
  · exact .inl h'
  · exact .inr ⟨b, cap, cur, rfl, hb, (g.block b (Array.getElem?_eq_some_iff.1 hg).1 (ho b (by simp [Value.ownBlock]))).trans hg, rest⟩
theorem Own.outside {e : TypeId} {B : Nat} {O : Nat → Prop} {W : World} {v : Value} {l : List UInt8} (h : Own e B W v l) (ho : ∀ k, v.ownBlock = some k → ¬ O k) : Outside O v := by
  intro b off sp n c e' hn
  rcases h.2 with ⟨h', _⟩ | ⟨g, cap, cur, h', _⟩
  · rw [h'] at e'; cases e'
  · rw [h'] at e'
    simp only [Value.slice.injEq, Option.some.injEq, Addr.mk.injEq] at e'
    have := ho g (by rw [h']; simp [Value.ownBlock])
    rw [← e'.1.1]
    exact this
def partsT (H : World → Nat → List UInt8 → (Nat → Prop) → Prop) (B p : Nat) (L m : List UInt8) (O : Nat → Prop) : StateK where
  Ψ := fun s W => match s with
    | 0 => H W p L O
    | 1 => ∃ O', H W p (L ++ m) O' ∧ ∀ k, O' k → O k ∨ B ≤ k
    | _ => True
  made := #[none, some 7]
  kl := #[[7], []]
  use := #[[], [], [], [], [], [], [], [0], [], [], [], [], [], [], [], [], [1], [], [], [], []]
  muts := [7]
theorem partsT_ks {H : World → Nat → List UInt8 → (Nat → Prop) → Prop} (S : HashOK H) (B p : Nat) (L m : List UInt8) (O : Nat → Prop) (E : World → World → Prop) (i s : Nat) (W W' : World) (hk : i ∉ (partsT H B p L m O).kl.getD s []) (hm : (partsT H B p L m O).made.getD s none ≠ some i)
    (hr : (partsT H B p L m O).rel E i W W') (hp : (partsT H B p L m O).Ψ s W) : (partsT H B p L m O).Ψ s W' := by
  have hg : i ≠ 7 → Grows W W' := fun h7 => by
    unfold StateK.rel at hr
    rw [if_neg (by simpa [partsT] using h7)] at hr
    exact hr
  match s, hk, hm, hp with
  | 0, hk, _, hp => exact S.grows (show H W p L O from hp) (hg (by simpa [partsT] using hk))
  | 1, _, hm, hp =>
    obtain ⟨O', h1, h2⟩ := (show ∃ O', H W p (L ++ m) O' ∧ ∀ k, O' k → O k ∨ B ≤ k from hp)
    exact ⟨O', S.grows h1 (hg (fun h => hm (by rw [h]; rfl))), h2⟩
  | _ + 2, _, _, _ => exact trivial

set_option maxRecDepth 100000 in
set_option maxHeartbeats 4000000 in
theorem walkParts_some {H : World → Nat → List UInt8 → (Nat → Prop) → Prop} (S : HashOK H) (LV : LiveOK) (b off cap : Nat) (ls : List (List UInt8)) (w : World) (hK : KW w) (hL : BytL w (.slice (some ⟨b, off, none⟩) ls.length cap) ls)
    (hc : ∀ i, i < ls.length → ∃ u, w.cell? ⟨b, off + i, none⟩ = some u ∧ Byt w u (ls.getD i [])) (hl30 : ls.length ≤ 30) :
    Calls Tryd.prog 4 #[.slice (some ⟨b, off, none⟩) ls.length cap] w fun e w' => e = .returned (.bool true) ∧ Grows w w' := by
  obtain ⟨i0, hi, hz0, hz1, hz2⟩ := info_parts info5
  have hmx : Tryd.prog.follows .mixedOrders = true := by kernel_rfl
  have HL := Lib.hid hL
  have HC := Lib.hid hc
  have hg := guardOff
  clear hL hc
  go_enter Tryd.func4, Tryd.ntmps4
  go_wp2_with fail
  refine (S.new _).mono ?_
  rintro e w1 ⟨p, O0, rfl, hH1, hO1, hG1⟩
  have HH1 := Lib.hid hH1
  have HO1 := Lib.hid hO1
  have HG1 := Lib.hid hG1
  clear hH1 hO1 hG1
  go_wp2_with fail
  go_loopw [3, 5] (fun t3 t5 wr => ∃ (i : Nat) (O : Nat → Prop) (L : List UInt8), i ≤ ls.length ∧ t5 = .int .i64 i ∧ L = (ls.take i).flatten ∧ L.length ≤ 4000 ∧ Own 5 w.heap.size wr t3 L ∧ H wr p L O ∧ (∀ k, O k → w.heap.size ≤ k) ∧ (∀ k, t3.ownBlock = some k → ¬ O k) ∧ Below w.heap.size w wr)
    (fun _ t5 _ => ls.length - (intOf t5).toNat)
  case atStart => exact ⟨0, O0, [], Nat.zero_le _, rfl, rfl, by simp, Own.nil _ _ _, HH1.out, HO1.out, fun k hk => by simp [Value.ownBlock] at hk, HG1.out⟩
  case round =>
    obtain ⟨i, O, L, hi', rfl, hLe, hL4, hown, hH, hO, hOo, hG⟩ := hrel
    obtain ⟨a3, c3, rfl⟩ := hown.slice
    have HLe := Lib.hid hLe
    have HH := Lib.hid hH
    have HO := Lib.hid hO
    have HOo := Lib.hid hOo
    have HG := Lib.hid hG
    have HW := Lib.hid hown
    clear hLe hH hO hOo hG hown
    by_cases hlt : i < ls.length
    · obtain ⟨u, hu, hby⟩ := HC.out i hlt
      obtain ⟨m, Hm⟩ : ∃ m, Hid (ls.getD i [] = m) := ⟨_, rfl⟩
      rw [Hm.out] at hby
      obtain ⟨am, cm, rfl⟩ := hby.slice
      have hbw : b < w.heap.size := World.block_lt_of_cell? w _ hu
      have hcu := (HG.out.cell (p := ⟨b, off + i, none⟩) hbw).trans hu
      have Hby := Lib.hid hby
      have Hbw := Lib.hid hbw
      have Hcu := Lib.hid hcu
      have hi30 : (i : Int) < 30 := by omega
      clear hu hby hbw
      by_cases hm2 : 2000 < m.length
      · have hm2' : (2000 : Int) < (m.length : Int) := by omega
        go_wp2_with fail
        refine (LV _ (hK.up HG.out)).mono ?_
        rintro e w2 ⟨rfl, hg2⟩
        go_wp2
        go_ret
        exact ⟨rfl, Grows.trans' HG.out hg2⟩
      · have hm2' : ¬ (2000 : Int) < (m.length : Int) := by omega
        by_cases hL2 : 2000 < L.length
        · have hL2' : (2000 : Int) < (L.length : Int) := by omega
          go_wp2_with fail
          refine (LV _ (hK.up HG.out)).mono ?_
          rintro e w2 ⟨rfl, hg2⟩
          go_wp2
          go_ret
          exact ⟨rfl, Grows.trans' HG.out hg2⟩
        · have hL2' : ¬ (2000 : Int) < (L.length : Int) := by omega
          have Hlen := Lib.hid (show L.length ≤ 2000 ∧ m.length ≤ 2000 by omega)
          clear hm2 hL2
          go_wp2_with (at_builtin; refine wpList_app_at rfl _ _ 22 5 i0 rfl Tryd.underlying22 hi hz0 hz1 hz2 w.heap.size _ _ L m rfl HW.out rfl (Hby.out.grows HG.out) (by have := Hlen.out; omega) HG.out.size ?_; intro v2 w2 hown2 hgrow2 hat2)
          have HG2 : Hid (Below w.heap.size w w2) := grows_app HG.out HW.out HG.out.size hgrow2
          have HH2 : Hid (H w2 p L O) := S.kept HH.out fun k hk => hgrow2.block k (S.lt HH.out hk) (fun e => HOo.out k (by first | exact e | exact e.symm) hk)
          have HOo2 : Hid (∀ k, v2.ownBlock = some k → ¬ O k) := fun k hk hOk => by
            rcases hat2 with h1 | h1
            · exact HOo.out k (h1.symm.trans hk) hOk
            · rw [h1] at hk
              have := S.lt HH.out hOk
              have := Option.some.inj hk
              omega
          have HOlt : Hid (∀ k, O k → k < w2.heap.size) := fun k hk => S.lt HH2.out hk
          obtain ⟨a4, c4, rfl⟩ := hown2.slice
          have Hw2 := Lib.hid hown2
          have Hout2 := Lib.hid (hown2.outside HOo2.out)
          have Hby2 := Lib.hid (Hby.out.grows HG2.out)
          have Houtm := Lib.hid (Hby.out.outside HO.out)
          have hcu2 := (HG2.out.cell (p := ⟨b, off + i, none⟩) Hbw.out).trans ((HG.out.cell (p := ⟨b, off + i, none⟩) Hbw.out).symm.trans Hcu.out)
          have hnb : ¬ O b := fun h => by have := HO.out b h; have := Hbw.out; omega
          obtain ⟨A, HA⟩ : ∃ A, Shut (arr (shaF (L ++ m)) = .agg A) := ⟨_, ⟨rfl⟩⟩
          have hEn := neqAgg (shaF (L ++ m)) (shaF_length _) A HA.out
          have Hi := Lib.hid hlt
          have hil : (i : Int) < (ls.length : Int) := by omega
          clear hgrow2 hat2 hown2 hcu hlt
          refine region_K (E := But O) (But.ok O) But.ofGrows
            #[[], [], [], [], [2, 3], [2, 3, 4], [1, 2, 3, 4, 5], [0, 1, 2, 3, 4, 5, 6], [], [], [8, 9], [8, 9, 10], [8, 9, 10, 11], [0, 1, 2, 3, 4, 5, 6, 7, 8, 9, 10, 11, 12], [0, 1, 2, 3, 4, 5, 6, 7, 8, 9, 10, 11, 12, 13], [0, 1, 2, 3, 4, 5, 6, 7, 8, 9, 10, 11, 12, 13, 14], [0, 1, 2, 3, 4, 5, 6, 7, 8, 9, 10, 11, 12, 13, 14, 15], [0, 1, 2, 3, 4, 5, 6, 7, 8, 9, 10, 11, 12, 13, 14], [0, 1, 2, 3, 4, 5, 6, 7, 8, 9, 10, 11, 12, 13, 14, 15, 16, 17], [0, 1, 2, 3, 4, 5, 6, 7, 8, 9, 10, 11, 12, 13, 14, 15, 16, 17, 18], [0, 1, 2, 3, 4, 5, 6, 7, 8, 9, 10, 11, 12, 13, 14, 15, 16, 17, 18, 19]] #[[4], [], [0], [5], [], [], [], [], [0], [5], [], [], [], [], [], [4], [], [3], [], [], []] #[true, true, true, true, true, true, true, true, true, true, true, true, true, true, true, true, true, true, true, true, true]
            ((.val ?v0) :: (.pred (fun v W => ∃ g, v = .slice (some ⟨g, 0, none⟩) 0 0) (fun _ _ _ _ h => h)) :: (.val ?v2) :: (.val ?v3) :: (.val ?v4) :: (.val ?v5) :: (.pred (BytFrom w2.heap.size m) (BytFrom.but HOlt.out)) :: (.val (.int .i64 (m.length : Int))) :: (.val ?v8) :: (.val ?v9) :: (.val ?v10) :: (.val ?v11) :: (.val ?v12) :: (.val ?v13) :: (.val ?v14) :: (.val ?v15) :: (.val (.agg A)) :: (.val ?v17) :: (.val (.agg A)) :: (.val ?v19) :: (.val ?v20) :: []).toArray
            (partsT H w2.heap.size p L m O)
            (partsT_ks S _ _ _ _ _ _)
            (fun s hs => match s, hs with | 0, _ => S.kept HH2.out (fun _ _ => rfl) | 1, h => by cases h | _ + 2, _ => trivial)
            hmx ?chk rfl ?grd ?stp ?rst
          case chk => rfl
          case stp =>
            refine ⟨?_, ?_, ?_, ?_, ?_, ?_, ?_, ?_, ?_, ?_, ?_, ?_, ?_, ?_, ?_, ?_, ?_, ?_, ?_, ?_, ?_, trivial⟩
            · refine step_introK rfl rfl fun ρ X hc hf hgl hX hp ho hu => ?_
              change StepOk _ { dst := _, op := Op.move (Operand.tmp 4), type := _, pos := _, after := _, guard := _ } _ _ _
              have k4 : ρ (.tmp 4) = .pointer (some ⟨p, 0, none⟩) := ho 4 (by decide)
              refine stepK_plain (i := 0) rfl ?_
              clear hu
              clear hp ho
              refine StepOk.of_run (v := ?v0) (w' := X) ?_ ⟨rfl, Below.refl _ _⟩
              clear hX
              go_simp
              all_goals try go_bits
              all_goals try simp only [IntWalk.iteOmega]
              all_goals try go_bits
              all_goals rfl
            · refine step_introK rfl rfl fun ρ X hc hf hgl hX hp ho hu => ?_
              change StepOk _ { dst := _, op := Op.buildSlice 22 0 #[], type := _, pos := _, after := _, guard := _ } _ _ _
              refine stepK_plain (i := 1) rfl ?_
              clear hu
              clear hp ho
              refine StepOk.of_run (v := .slice (some ⟨X.heap.size, 0, none⟩) 0 0) (w' := X.alloc (.cells #[] 5)) ?_ ⟨⟨_, rfl⟩, Grows.alloc' _ _⟩
              simp [go_sem, execOp, hc]
            · refine step_introK rfl rfl fun ρ X hc hf hgl hX hp ho hu => ?_
              change StepOk _ { dst := _, op := Op.move (Operand.tmp 0), type := _, pos := _, after := _, guard := _ } _ _ _
              have k0 : ρ (.tmp 0) = .slice (some ⟨b, off, none⟩) ls.length cap := ho 0 (by decide)
              refine stepK_plain (i := 2) rfl ?_
              clear hu
              clear hp ho
              refine StepOk.of_run (v := ?v2) (w' := X) ?_ ⟨rfl, Below.refl _ _⟩
              clear hX
              go_simp
              all_goals try go_bits
              all_goals try simp only [IntWalk.iteOmega]
              all_goals try go_bits
              all_goals rfl
            · refine step_introK rfl rfl fun ρ X hc hf hgl hX hp ho hu => ?_
              change StepOk _ { dst := _, op := Op.move (Operand.tmp 5), type := _, pos := _, after := _, guard := _ } _ _ _
              have k5 : ρ (.tmp 5) = .int .i64 (i : Int) := ho 5 (by decide)
              refine stepK_plain (i := 3) rfl ?_
              clear hu
              clear hp ho
              refine StepOk.of_run (v := ?v3) (w' := X) ?_ ⟨rfl, Below.refl _ _⟩
              clear hX
              go_simp
              all_goals try go_bits
              all_goals try simp only [IntWalk.iteOmega]
              all_goals try go_bits
              all_goals rfl
            · refine step_introK rfl rfl fun ρ X hc hf hgl hX hp ho hu => ?_
              change StepOk _ { dst := _, op := Op.indexAddr 29 (Operand.tmp 39) (Operand.tmp 40), type := _, pos := _, after := _, guard := _ } _ _ _
              have k39 : ρ (.tmp 39) = ?v2 := hp 2 (by decide)
              have k40 : ρ (.tmp 40) = ?v3 := hp 3 (by decide)
              refine stepK_plain (i := 4) rfl ?_
              clear hu
              clear hp ho
              refine StepOk.of_run (v := ?v4) (w' := X) ?_ ⟨rfl, Below.refl _ _⟩
              clear hX
              go_simp
              all_goals try go_bits
              all_goals try simp only [IntWalk.iteOmega]
              all_goals try go_bits
              all_goals rfl
            · refine step_introK rfl rfl fun ρ X hc hf hgl hX hp ho hu => ?_
              change StepOk _ { dst := _, op := Op.load 22 (Operand.tmp 41), type := _, pos := _, after := _, guard := _ } _ _ _
              have k41 : ρ (.tmp 41) = ?v4 := hp 4 (by decide)
              refine stepK_plain (i := 5) rfl ?_
              clear hu
              have hcu2X := But.cell hX hnb hcu2
              clear hp ho
              refine StepOk.of_run (v := ?v5) (w' := X) ?_ ⟨rfl, Below.refl _ _⟩
              clear hX
              go_simp
              all_goals try go_bits
              all_goals try simp only [IntWalk.iteOmega]
              all_goals try go_bits
              all_goals rfl
            · refine step_introK rfl rfl fun ρ X hc hf hgl hX hp ho hu => ?_
              change StepOk _ { dst := _, op := Op.call { callee := Callee.builtin Builtin.append, args := #[Operand.tmp 38, Operand.tmp 42], argTypes := #[22, 22] }, type := _, pos := _, after := _, guard := _ } _ _ _
              have k38 := hp 1 (by decide)
              have k42 : ρ (.tmp 42) = ?v5 := hp 5 (by decide)
              refine stepK_plain (i := 6) rfl ?_
              clear hu
              clear hp ho
              obtain ⟨g, k38e⟩ := k38
              obtain ⟨v', W', hr, hbf, hgr⟩ := run_app0 (P := Tryd.prog) (T := 22) (e := 5) (ty := 22) (g := g) Tryd.underlying22 hi hz0 hz1 hz2 (Hby2.out.but hX Houtm.out) (by have := Hlen.out; omega)
              refine StepOk.of_run (v := v') (w' := W') ?_ ⟨hbf.mono hX.size, hgr⟩
              simp only [execOp, resolve, invoke, builtin, Sem.run_bind, Sem.run_pure, Result.andThen_ok, List.map_toArray, List.map_cons, List.map_nil, k38e, k42, hr]
            · refine step_introK rfl rfl fun ρ X hc hf hgl hX hp ho hu => ?_
              change StepOk _ { dst := _, op := Op.call { callee := Callee.value (Operand.func 12), args := #[Operand.tmp 37, Operand.tmp 43], argTypes := #[30, 22] }, type := _, pos := _, after := _, guard := _ } _ _ _
              have k37 : ρ (.tmp 37) = ?v0 := hp 0 (by decide)
              have k43 := hp 6 (by decide)
              have hu0 := hu
              clear hp ho
              have hH0 : H X p L O := hu 0 (by simp [partsT])
              refine stepK_made rfl ?_
              obtain ⟨hb43, ho43⟩ := k43
              refine StepOk.of_call (f := 12) (args := #[.pointer (some ⟨p, 0, none⟩), ρ (.tmp 43)]) (w' := X) ?_ (S.write X p L O _ m (hK.up (Below.trans HG2.out (hX.below HG2.out.size HO.out))) hH0 hb43 (fun b' off' sp n c e hn hb => by have := ho43 b' off' sp n c e hn; have := HOlt.out b' hb; omega) (by have := Hlen.out; omega)) ?_
              · simp [go_sem, execOp, hc, hf, k37]
              · rintro e w'' ⟨O', rfl, hH', hO', hBt⟩
                exact ⟨_, rfl, rfl, hBt, fun s hs => match s, hs with | 0, h => by cases h | 1, _ => ⟨O', hH', fun k hk => (hO' k hk).imp id (fun h => Nat.le_trans hX.size h)⟩ | _ + 2, h => by simp [partsT] at h⟩
            · refine step_introK rfl rfl fun ρ X hc hf hgl hX hp ho hu => ?_
              change StepOk _ { dst := _, op := Op.move (Operand.tmp 0), type := _, pos := _, after := _, guard := _ } _ _ _
              have k0 : ρ (.tmp 0) = .slice (some ⟨b, off, none⟩) ls.length cap := ho 0 (by decide)
              refine stepK_plain (i := 8) rfl ?_
              clear hu
              clear hp ho
              refine StepOk.of_run (v := ?v8) (w' := X) ?_ ⟨rfl, Below.refl _ _⟩
              clear hX
              go_simp
              all_goals try go_bits
              all_goals try simp only [IntWalk.iteOmega]
              all_goals try go_bits
              all_goals rfl
            · refine step_introK rfl rfl fun ρ X hc hf hgl hX hp ho hu => ?_
              change StepOk _ { dst := _, op := Op.move (Operand.tmp 5), type := _, pos := _, after := _, guard := _ } _ _ _
              have k5 : ρ (.tmp 5) = .int .i64 (i : Int) := ho 5 (by decide)
              refine stepK_plain (i := 9) rfl ?_
              clear hu
              clear hp ho
              refine StepOk.of_run (v := ?v9) (w' := X) ?_ ⟨rfl, Below.refl _ _⟩
              clear hX
              go_simp
              all_goals try go_bits
              all_goals try simp only [IntWalk.iteOmega]
              all_goals try go_bits
              all_goals rfl
            · refine step_introK rfl rfl fun ρ X hc hf hgl hX hp ho hu => ?_
              change StepOk _ { dst := _, op := Op.indexAddr 29 (Operand.tmp 45) (Operand.tmp 46), type := _, pos := _, after := _, guard := _ } _ _ _
              have k45 : ρ (.tmp 45) = ?v8 := hp 8 (by decide)
              have k46 : ρ (.tmp 46) = ?v9 := hp 9 (by decide)
              refine stepK_plain (i := 10) rfl ?_
              clear hu
              clear hp ho
              refine StepOk.of_run (v := ?v10) (w' := X) ?_ ⟨rfl, Below.refl _ _⟩
              clear hX
              go_simp
              all_goals try go_bits
              all_goals try simp only [IntWalk.iteOmega]
              all_goals try go_bits
              all_goals rfl
            · refine step_introK rfl rfl fun ρ X hc hf hgl hX hp ho hu => ?_
              change StepOk _ { dst := _, op := Op.load 22 (Operand.tmp 47), type := _, pos := _, after := _, guard := _ } _ _ _
              have k47 : ρ (.tmp 47) = ?v10 := hp 10 (by decide)
              refine stepK_plain (i := 11) rfl ?_
              clear hu
              have hcu2X := But.cell hX hnb hcu2
              clear hp ho
              refine StepOk.of_run (v := ?v11) (w' := X) ?_ ⟨rfl, Below.refl _ _⟩
              clear hX
              go_simp
              all_goals try go_bits
              all_goals try simp only [IntWalk.iteOmega]
              all_goals try go_bits
              all_goals rfl
            · refine step_introK rfl rfl fun ρ X hc hf hgl hX hp ho hu => ?_
              change StepOk _ { dst := _, op := Op.call { callee := Callee.builtin Builtin.len, args := #[Operand.tmp 48], argTypes := #[22] }, type := _, pos := _, after := _, guard := _ } _ _ _
              have k48 : ρ (.tmp 48) = ?v11 := hp 11 (by decide)
              refine stepK_plain (i := 12) rfl ?_
              clear hu
              clear hp ho
              refine StepOk.of_run (v := ?v12) (w' := X) ?_ ⟨rfl, Below.refl _ _⟩
              clear hX
              go_simp
              all_goals try go_bits
              all_goals try simp only [IntWalk.iteOmega]
              all_goals try go_bits
              all_goals rfl
            · refine step_introK rfl rfl fun ρ X hc hf hgl hX hp ho hu => ?_
              change StepOk _ { dst := _, op := Op.binOp BinOp.neq 3 (Operand.tmp 44) (Operand.tmp 49) 3, type := _, pos := _, after := _, guard := _ } _ _ _
              have k44 : ρ (.tmp 44) = (.int .i64 (m.length : Int)) := hp 7 (by decide)
              have k49 : ρ (.tmp 49) = ?v12 := hp 12 (by decide)
              refine stepK_plain (i := 13) rfl ?_
              clear hu
              clear hp ho
              refine StepOk.of_run (v := ?v13) (w' := X) ?_ ⟨rfl, Below.refl _ _⟩
              clear hX
              go_simp
              all_goals try go_bits
              all_goals try simp only [IntWalk.iteOmega]
              all_goals try go_bits
              all_goals rfl
            · refine step_introK rfl rfl fun ρ X hc hf hgl hX hp ho hu => ?_
              change StepOk _ { dst := _, op := Op.move (Operand.tmp 50), type := _, pos := _, after := _, guard := _ } _ _ _
              have k50 : ρ (.tmp 50) = ?v13 := hp 13 (by decide)
              refine stepK_plain (i := 14) rfl ?_
              clear hu
              clear hp ho
              refine StepOk.of_run (v := ?v14) (w' := X) ?_ ⟨rfl, Below.refl _ _⟩
              clear hX
              go_simp
              all_goals try go_bits
              all_goals try simp only [IntWalk.iteOmega]
              all_goals try go_bits
              all_goals rfl
            · refine step_introK rfl rfl fun ρ X hc hf hgl hX hp ho hu => ?_
              change StepOk _ { dst := _, op := Op.move (Operand.tmp 4), type := _, pos := _, after := _, guard := _ } _ _ _
              have k4 : ρ (.tmp 4) = .pointer (some ⟨p, 0, none⟩) := ho 4 (by decide)
              refine stepK_plain (i := 15) rfl ?_
              clear hu
              clear hp ho
              refine StepOk.of_run (v := ?v15) (w' := X) ?_ ⟨rfl, Below.refl _ _⟩
              clear hX
              go_simp
              all_goals try go_bits
              all_goals try simp only [IntWalk.iteOmega]
              all_goals try go_bits
              all_goals rfl
            · refine step_introK rfl rfl fun ρ X hc hf hgl hX hp ho hu => ?_
              change StepOk _ { dst := _, op := Op.call { callee := Callee.value (Operand.func 13), args := #[Operand.tmp 52], argTypes := #[30] }, type := _, pos := _, after := _, guard := _ } _ _ _
              have k52 : ρ (.tmp 52) = ?v15 := hp 15 (by decide)
              refine stepK_plain (i := 16) rfl ?_
              have hu0 := hu
              clear hp ho
              obtain ⟨O', hH', _⟩ := (show ∃ O', H X p (L ++ m) O' ∧ ∀ k, O' k → O k ∨ w2.heap.size ≤ k from hu 1 (by simp [partsT]))
              have hs := S.sum X p (L ++ m) O' (hK.up (Below.trans HG2.out (hX.below HG2.out.size HO.out))) hH' (by have := Hlen.out; simp; omega)
              rw [HA.out] at hs
              refine StepOk.of_call (f := 13) (args := #[.pointer (some ⟨p, 0, none⟩)]) (w' := X) ?_ hs ?_
              · simp [go_sem, execOp, hc, hf, k52]
              · rintro e w'' ⟨rfl, hg'⟩; exact ⟨_, rfl, rfl, hg'⟩
            · refine step_introK rfl rfl fun ρ X hc hf hgl hX hp ho hu => ?_
              change StepOk _ { dst := _, op := Op.move (Operand.tmp 3), type := _, pos := _, after := _, guard := _ } _ _ _
              have k3 : ρ (.tmp 3) = .slice a4 (L ++ m).length c4 := ho 3 (by decide)
              refine stepK_plain (i := 17) rfl ?_
              clear hu
              clear hp ho
              refine StepOk.of_run (v := ?v17) (w' := X) ?_ ⟨rfl, Below.refl _ _⟩
              clear hX
              go_simp
              all_goals try go_bits
              all_goals try simp only [IntWalk.iteOmega]
              all_goals try go_bits
              all_goals rfl
            · refine step_introK rfl rfl fun ρ X hc hf hgl hX hp ho hu => ?_
              change StepOk _ { dst := _, op := Op.call { callee := Callee.value (Operand.func 10), args := #[Operand.tmp 54], argTypes := #[22] }, type := _, pos := _, after := _, guard := _ } _ _ _
              have k54 : ρ (.tmp 54) = ?v17 := hp 17 (by decide)
              refine stepK_plain (i := 18) rfl ?_
              clear hu
              clear hp ho
              have hs := refSha _ (L ++ m) X (Hw2.out.byt.but hX Hout2.out) (by have := Hlen.out; simp; omega)
              rw [show Value.agg (List.map bv (shaF (L ++ m))).toArray = .agg A from HA.out] at hs
              refine StepOk.of_call (f := 10) (args := #[.slice a4 (L ++ m).length c4]) (w' := X) ?_ hs ?_
              · simp only [execOp, Sem.run_bind, Sem.run_pure, Result.andThen_ok, k54]; simp [go_sem, hc, hf, k54]
              · rintro e w'' ⟨rfl, hg'⟩; exact ⟨_, rfl, rfl, hg'⟩
            · refine step_introK rfl rfl fun ρ X hc hf hgl hX hp ho hu => ?_
              change StepOk _ { dst := _, op := Op.binOp BinOp.neq 25 (Operand.tmp 53) (Operand.tmp 55) 25, type := _, pos := _, after := _, guard := _ } _ _ _
              have k53 : ρ (.tmp 53) = (.agg A) := hp 16 (by decide)
              have k55 : ρ (.tmp 55) = (.agg A) := hp 18 (by decide)
              refine stepK_plain (i := 19) rfl ?_
              clear hu
              clear hp ho
              refine StepOk.of_run (v := ?v19) (w' := X) ?_ ⟨rfl, Below.refl _ _⟩
              clear hX
              go_simp
              all_goals try go_bits
              all_goals try simp only [IntWalk.iteOmega]
              all_goals try go_bits
              all_goals rfl
            · refine step_introK rfl rfl fun ρ X hc hf hgl hX hp ho hu => ?_
              change StepOk _ { dst := _, op := Op.pick (Operand.tmp 51) (Operand.const (Value.bool true)) (Operand.tmp 56), type := _, pos := _, after := _, guard := _ } _ _ _
              have k51 : ρ (.tmp 51) = ?v14 := hp 14 (by decide)
              have k56 : ρ (.tmp 56) = ?v19 := hp 19 (by decide)
              refine stepK_plain (i := 20) rfl ?_
              clear hu
              clear hp ho
              refine StepOk.of_run (v := ?v20) (w' := X) ?_ ⟨rfl, Below.refl _ _⟩
              clear hX
              go_simp
              all_goals try go_bits
              all_goals try simp only [IntWalk.iteOmega]
              all_goals try go_bits
              all_goals rfl
          case grd => rfl
          case rst =>
            intro a0 X hb
            obtain ⟨x38, hx38⟩ : ∃ x, a0.tmps.getD 38 undef = x := ⟨_, rfl⟩
            have p38 := hb.done' 1 38 rfl rfl
            rw [hx38] at p38
            obtain ⟨x43, hx43⟩ : ∃ x, a0.tmps.getD 43 undef = x := ⟨_, rfl⟩
            have p43 := hb.done' 6 43 rfl rfl
            rw [hx43] at p43
            have hfr := hb.frame ((37, ?v0) :: (38, x38) :: (39, ?v2) :: (40, ?v3) :: (41, ?v4) :: (42, ?v5) :: (43, x43) :: (44, (.int .i64 (m.length : Int))) :: (45, ?v8) :: (46, ?v9) :: (47, ?v10) :: (48, ?v11) :: (49, ?v12) :: (50, ?v13) :: (51, ?v14) :: (52, ?v15) :: (53, (.agg A)) :: (54, ?v17) :: (55, (.agg A)) :: (56, ?v19) :: (57, ?v20) :: []) rfl ⟨hb.done' 0 37 rfl rfl, hx38, hb.done' 2 39 rfl rfl, hb.done' 3 40 rfl rfl, hb.done' 4 41 rfl rfl, hb.done' 5 42 rfl rfl, hx43, hb.done' 7 44 rfl rfl, hb.done' 8 45 rfl rfl, hb.done' 9 46 rfl rfl, hb.done' 10 47 rfl rfl, hb.done' 11 48 rfl rfl, hb.done' 12 49 rfl rfl, hb.done' 13 50 rfl rfl, hb.done' 14 51 rfl rfl, hb.done' 15 52 rfl rfl, hb.done' 16 53 rfl rfl, hb.done' 17 54 rfl rfl, hb.done' 18 55 rfl rfl, hb.done' 19 56 rfl rfl, hb.done' 20 57 rfl rfl, trivial⟩
            simp only [updL, ↓reduceIte, Nat.reduceEqDiff, Nat.reduceAdd, Nat.zero_add] at hfr
            have HX := Lib.hid hb.ext
            have HS1 := Lib.hid (hb.stat 1 (fun j hj => by obtain rfl : 7 = j := (by simpa [partsT] using hj); exact ⟨by decide, by decide⟩) rfl)
            clear hb
            subst hfr
            clear hcu2
            go_wp2
            go_roundw
            case rel =>
              obtain ⟨O', hH', hO'⟩ := (show ∃ O', H X p (L ++ m) O' ∧ ∀ k, O' k → O k ∨ w2.heap.size ≤ k from HS1.out)
              refine ⟨i + 1, O', L ++ m, by have := Hi.out; omega, by simp, by rw [flat_snocS ls i Hi.out, ← HLe.out, Hm.out], by have := Hlen.out; simp; omega, Hw2.out.but HOo2.out HX.out, hH', fun k hk => ?_, fun k hk hk' => ?_, Below.trans HG2.out (HX.out.below HG2.out.size HO.out)⟩
              · rcases hO' k hk with h1 | h1
                · exact HO.out k h1
                · have := HG2.out.size; omega
              · rcases hO' k hk' with h1 | h1
                · exact HOo2.out k hk h1
                · have := (World.ownsRow.lt Hw2.out k hk).2; omega
            case measure => have := Hi.out; simp [intOf]; omega
    · have hil : ¬ (i : Int) < (ls.length : Int) := by omega
      have hLf : L = ls.flatten := by rw [HLe.out, List.take_of_length_le (by omega)]
      obtain ⟨A, HA⟩ : ∃ A, Shut (arr (shaF L) = .agg A) := ⟨_, ⟨rfl⟩⟩
      have hE := eqAgg (shaF L) (shaF_length _) A HA.out
      have HLf := Lib.hid hLf
      have hsa : ∀ X, Below w.heap.size w X → Calls Tryd.prog 9 #[.slice (some ⟨b, off, none⟩) ls.length cap] X fun e W' => e = .returned (.agg A) ∧ Grows X W' := fun X hX => by
        have := S.sumAll X _ ls (hK.up hX) (HL.out.grows hX) (by rw [← HLf.out]; omega)
        rw [← HLf.out, HA.out] at this
        exact this
      have HSA := Lib.hid hsa
      clear hLf hsa
      go_wp2_with fail
      have hs := S.sum _ p L O (hK.up HG.out) HH.out (by omega)
      rw [HA.out] at hs
      refine hs.mono ?_
      rintro e w2 ⟨rfl, hg2⟩
      clear hs
      have HG2 := Lib.hid (Grows.trans' HG.out hg2)
      have HW2 := Lib.hid (HW.out.grows hg2)
      clear hg2
      go_wp2_with fail
      refine (HSA.out _ HG2.out).mono ?_
      rintro e w3 ⟨rfl, hg3⟩
      have HG3 := Lib.hid (Grows.trans' HG2.out hg3)
      have HW3 := Lib.hid (HW2.out.grows hg3)
      clear hg3
      go_wp2_with fail
      refine (HSA.out _ HG3.out).mono ?_
      rintro e w4 ⟨rfl, hg4⟩
      have HG4 := Lib.hid (Grows.trans' HG3.out hg4)
      have HW4 := Lib.hid (HW3.out.grows hg4)
      clear hg4
      go_wp2_with fail
      have hr := refSha _ L _ HW4.out.byt (by omega)
      rw [show Value.agg (List.map bv (shaF L)).toArray = .agg A from HA.out] at hr
      refine hr.mono ?_
      rintro e w5 ⟨rfl, hg5⟩
      clear hr
      have HG5 := Lib.hid (Grows.trans' HG4.out hg5)
      clear hg5
      go_wp2_with fail
      refine (LV _ (hK.up HG5.out)).mono ?_
      rintro e w6 ⟨rfl, hg6⟩
      go_wp2
      go_ret
      exact ⟨rfl, Grows.trans' HG5.out hg6⟩

set_option maxRecDepth 100000 in
set_option maxHeartbeats 4000000 in
theorem walkParts_nil {H : World → Nat → List UInt8 → (Nat → Prop) → Prop} (S : HashOK H) (LV : LiveOK) (a : Option Addr) (cap : Nat) (w : World) (hK : KW w) (hL : BytL w (.slice a 0 cap) []) :
    Calls Tryd.prog 4 #[.slice a 0 cap] w fun e w' => e = .returned (.bool true) ∧ Grows w w' := by
  have HL := Lib.hid hL
  have hg := guardOff
  obtain ⟨A, HA⟩ : ∃ A, Shut (arr (shaF []) = .agg A) := ⟨_, ⟨rfl⟩⟩
  have hE := eqAgg (shaF []) (shaF_length _) A HA.out
  have hsa : ∀ X, Below w.heap.size w X → Calls Tryd.prog 9 #[.slice a 0 cap] X fun e W' => e = .returned (.agg A) ∧ Grows X W' := fun X hX => by
    have := S.sumAll X _ [] (hK.up hX) (HL.out.grows hX) (by simp)
    rw [show ([] : List (List UInt8)).flatten = [] from rfl, HA.out] at this
    exact this
  have HSA := Lib.hid hsa
  clear hL hsa
  go_enter Tryd.func4, Tryd.ntmps4
  go_wp2_with fail
  refine (S.new _).mono ?_
  rintro e w1 ⟨p, O0, rfl, hH1, hO1, hG1⟩
  have HH := Lib.hid hH1
  have HG := Lib.hid hG1
  clear hH1 hO1 hG1
  go_wp2_with fail
  refine wp_loop_rounds 1 ?_
  rw [rounds_succ]
  go_wp2_with fail
  have hs := S.sum _ p [] O0 (hK.up HG.out) HH.out (by simp)
  rw [HA.out] at hs
  refine hs.mono ?_
  rintro e w2 ⟨rfl, hg2⟩
  clear hs
  have HG2 := Lib.hid (Grows.trans' HG.out hg2)
  clear hg2
  go_wp2_with fail
  refine (HSA.out _ HG2.out).mono ?_
  rintro e w3 ⟨rfl, hg3⟩
  have HG3 := Lib.hid (Grows.trans' HG2.out hg3)
  clear hg3
  go_wp2_with fail
  refine (HSA.out _ HG3.out).mono ?_
  rintro e w4 ⟨rfl, hg4⟩
  have HG4 := Lib.hid (Grows.trans' HG3.out hg4)
  clear hg4
  go_wp2_with fail
  have hr := refSha _ [] _ (Byt.nil w4) (by simp)
  rw [show Value.agg (List.map bv (shaF [])).toArray = .agg A from HA.out] at hr
  refine hr.mono ?_
  rintro e w5 ⟨rfl, hg5⟩
  clear hr
  have HG5 := Lib.hid (Grows.trans' HG4.out hg5)
  clear hg5
  go_wp2_with fail
  refine (LV _ (hK.up HG5.out)).mono ?_
  rintro e w6 ⟨rfl, hg6⟩
  go_wp2
  go_ret
  exact ⟨rfl, Grows.trans' HG5.out hg6⟩

theorem walkParts {H : World → Nat → List UInt8 → (Nat → Prop) → Prop} (S : HashOK H) (LV : LiveOK) (u : Value) (ls : List (List UInt8)) (w : World) (hK : KW w) (hL : BytL w u ls) :
    Calls Tryd.prog 4 #[u] w fun e w' => e = .returned (.bool true) ∧ Grows w w' := by
  have hL' := hL
  obtain ⟨a, cap, rfl, h1, h2, h3, h4⟩ := hL
  by_cases hl : 30 < ls.length
  · have hl' : (30 : Int) < (ls.length : Int) := by omega
    clear h1 h2 h3 h4 hL'
    go_enter Tryd.func4, Tryd.ntmps4
    go_wp2_with fail
    refine (LV _ hK).mono ?_
    rintro e w1 ⟨rfl, hg⟩
    go_wp2
    go_ret
    exact ⟨rfl, hg⟩
  · rcases h4 with rfl | ⟨b, off, rfl, h4⟩
    · exact walkParts_nil S LV a cap w hK hL'
    · exact walkParts_some S LV b off cap ls w hK hL' h4 (by omega)
end Go.Proofs.YtkehcpjianadjaaDoor
