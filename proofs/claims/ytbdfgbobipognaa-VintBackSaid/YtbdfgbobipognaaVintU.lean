/-
  The contract of vint.Get.
-/
import Derived.Test.YtbdfgbobipognaaVintT
import Derived.Shelf.RegionOpen
import Derived.RangeFuncNested
namespace Go.Proofs.Ytbdfgbobipognaa
open Go.RowKit Go.Shelf
set_option linter.unusedVariables false
set_option linter.unusedSimpArgs false

theorem accG_lt (s : Nat) (x : Fin 10 × UInt8) (h : s < 18446744073709551616) : accG s x < 18446744073709551616 := by
  unfold accG
  exact Nat.or_lt_two_pow (n := 64) h (Nat.mod_lt _ (by decide))
theorem foldG_lt (l : List (Fin 10 × UInt8)) : ∀ s, s < 18446744073709551616 → l.foldl accG s < 18446744073709551616 := by
  induction l with
  | nil => intro s h; exact h
  | cons x l ih => intro s h; exact ih _ (accG_lt s x h)
theorem sizeG_snoc (l : List (Fin 10 × UInt8)) (x : Fin 10 × UInt8) : ∀ i, sizeG i (l ++ [x]) = x.1.val + 1 := by
  induction l with
  | nil => intro i; rfl
  | cons y l ih => intro i; exact ih _
theorem lastG_snoc (l : List (Fin 10 × UInt8)) (x : Fin 10 × UInt8) : ∀ i, lastG i (l ++ [x]) = x.2 := by
  induction l with
  | nil => intro i; rfl
  | cons y l ih => intro i; exact ih _
theorem sizeG_le (l : List (Fin 10 × UInt8)) : ∀ i, i ≤ 10 → sizeG i l ≤ 10 := by
  induction l with
  | nil => intro i h; exact h
  | cons x l ih => intro i h; exact ih _ (by have := x.1.isLt; omega)

theorem boxed_grows {W X : World} {B : Nat} {t : TypeId} {v : Value} (h : Boxed W B t v) (g : Grows W X) : Boxed X B t v := (g.block B h.lt).trans h
theorem keeps_grows {W X : World} (g : Grows W X) : KeepsOthers W X := ⟨g.size, fun k o hk _ => (g.block k (Array.getElem?_eq_some_iff.1 hk).1).trans hk⟩

section
attribute [local go_sem] Oper.semAt_some

set_option maxRecDepth 100000 in
set_option maxHeartbeats 4000000 in
theorem get_in (F : Fence) (HF : Hid (F = Fence.wide)) (n : Nat) (h3 : F.fn 13) (h4 : F.fn 25) (h5 : F.fn 29) (h6 : F.fn 26) (hro : F.round = none) (hn : 3 ≤ n) (v : Value) (L : List UInt8) (w : World) (hv : Byt w v L) :
    CallsIn F n Try.prog 13 #[v] w fun e w' => e = .returned (got (get L)) ∧ Below w.heap.size w w' := by
  have h1 : 1 ≤ n := by omega
  have hsl : ∃ a l c, v = .slice a l c := by obtain ⟨a, c, e, _⟩ := hv; exact ⟨a, _, c, e⟩
  have hvB := BytB.of_byt hv
  refine callsIn_of_wp_marks Try.func13 rfl h3 ?_ hro
  simp only [Try.ntmps13, List.size_toArray, List.length_cons, List.length_nil, Nat.reduceAdd, Nat.reduceSub, Array.replicate_succ, Array.replicate_zero, List.push_toArray, List.append_toArray, List.nil_append, List.cons_append]
  gi_wp2_with (gi_at_call 25; refine (leading_in F (n - 1) h4 hro _ hsl _).mono ?_; rintro e w' ⟨rfl, rfl⟩)
  have bN0 := Boxed.new w 22 (.int .u64 0)
  have bS0 := Boxed.new (w.alloc (.cells #[.int .u64 0] 22)) 3 (.int .i64 0)
  have bL0 := Boxed.new ((w.alloc (.cells #[.int .u64 0] 22)).alloc (.cells #[.int .i64 0] 3)) 5 (.int .u8 128)
  have bV0 := Boxed.new (((w.alloc (.cells #[.int .u64 0] 22)).alloc (.cells #[.int .i64 0] 3)).alloc (.cells #[.int .u8 128] 5)) 23 v
  have hB0 : Below w.heap.size w ((((w.alloc (.cells #[.int .u64 0] 22)).alloc (.cells #[.int .i64 0] 3)).alloc (.cells #[.int .u8 128] 5)).alloc (.cells #[v] 23)) :=
    ((((Below.refl _ w).alloc (Nat.le_refl _) _).alloc (by simp) _).alloc (by simp; omega) _).alloc (by simp; omega) _
  have bN1 := ((bN0.alloc (.cells #[.int .i64 0] 3)).alloc (.cells #[.int .u8 128] 5)).alloc (.cells #[v] 23)
  have bS1 := (bS0.alloc (.cells #[.int .u8 128] 5)).alloc (.cells #[v] 23)
  have bL1 := bL0.alloc (.cells #[v] 23)
  simp only [World.size_alloc] at bS1 bL1 bV0
  obtain ⟨W0, hW0⟩ : ∃ W0, ((((w.alloc (.cells #[.int .u64 0] 22)).alloc (.cells #[.int .i64 0] 3)).alloc (.cells #[.int .u8 128] 5)).alloc (.cells #[v] 23)) = W0 := ⟨_, rfl⟩
  have hsz : W0.heap.size = w.heap.size + 4 := by rw [← hW0]; simp
  rw [hW0] at bN1 bS1 bL1 bV0 hB0 ⊢
  clear hW0 bN0 bS0 bL0
  refine wpIn_rangeFunc_ownG hro h1 (gf := 29) (lb := #[.pointer (some ⟨w.heap.size + 1 + 1 + 1, 0, none⟩)]) rfl h5 (enters_of Try.func29 (by kernel_rfl) rfl)
    (leading_stops F (n - 1) h5 hro (by omega) (w.heap.size + 1 + 1 + 1) w.heap.size v L W0 (by omega) (by omega) bV0.cell (hvB.below hB0)) belowK_t (belowK_b (by omega)) (Below.refl _ _) (fun _ => rfl)
    (fun pre W => (Boxed W w.heap.size 22 (.int .u64 ((pre.foldl accG 0 : Nat) : Int)) ∧ Boxed W (w.heap.size + 1) 3 (.int .i64 ((sizeG 0 pre : Nat) : Int)) ∧ Boxed W (w.heap.size + 1 + 1) 5 (.int .u8 ((lastG 128 pre).toNat : Int))) ∧ Below w.heap.size w W)
    (fun _ _ _ => False)
    (OwnFrom.and (OwnFrom.and (Own.from (boxed_own _ _ (fun pre => .int .u64 ((List.foldl accG 0 pre : Nat) : Int))) _) (OwnFrom.and (Own.from (boxed_own _ _ (fun pre => .int .i64 ((sizeG 0 pre : Nat) : Int))) _) (Own.from (boxed_own _ _ (fun pre => .int .u8 ((lastG 128 pre).toNat : Int))) _))) (ownFrom_below (Nat.le_refl _) (by omega)))
    (fun _ _ _ _ _ hs _ _ => hs)
    ⟨⟨bN1, bS1, bL1⟩, hB0⟩
    (fun x => { tmps := #[v, undef, .int .u64 0, .int .i64 0, .int .i64 0, .pointer (some ⟨w.heap.size, 0, none⟩), .pointer (some ⟨w.heap.size + 1, 0, none⟩), .pointer (some ⟨w.heap.size + 1 + 1, 0, none⟩), .int .i64 (x.1.val : Int), .int .u8 (x.2.toNat : Int), undef, v, .func (.func 29) #[] #[.pointer (some ⟨w.heap.size + 1 + 1 + 1, 0, none⟩)], .int .i64 (x.1.val : Int), .int .u8 (x.2.toNat : Int), undef, undef, undef, undef, undef, undef, undef, undef, undef, undef, undef, undef, undef, undef, undef, undef, undef, undef, undef], defers := [] }) ?assign ?body ?done ?stop
  case assign =>
    intro l x W K hK
    unfold encP
    gi_wp2
    exact hK
  case body =>
    rintro l pre ⟨x, c⟩ W ⟨⟨bN, bS, bL⟩, hB⟩ hlt
    have hd : 1 ≤ n - 1 - 1 := by omega
    have hmx : Try.prog.follows .mixedOrders = true := by kernel_rfl
    have hcN := bN.cell
    have hfN := bN.frozen
    have hx := x.isLt
    have hc256 := c.toNat_lt
    have hNb : pre.foldl accG 0 < 18446744073709551616 := foldG_lt pre 0 (by omega)
    have Hacc : Hid (accG (pre.foldl accG 0) (x, c) = pre.foldl accG 0 ||| (c.toNat % 128 * 2 ^ (7 * x.val) % 18446744073709551616)) := rfl
    generalize hi : x.val = i at *
    generalize hNv : pre.foldl accG 0 = N at *
    obtain ⟨p, hp⟩ : ∃ p, c.toNat % 128 * 2 ^ (7 * i) % 18446744073709551616 = p := ⟨_, rfl⟩
    have hpb : p < 18446744073709551616 := by rw [← hp]; exact Nat.mod_lt _ (by omega)
    obtain ⟨r, hr⟩ : ∃ r, c.toNat % 128 = r := ⟨_, rfl⟩
    obtain ⟨s, hs⟩ : ∃ s, 7 * i = s := ⟨_, rfl⟩
    have hs0 : (0 : Int) ≤ (s : Int) := by omega
    have hs1 : (s : Int) ≤ 64 := by omega
    have ht : (c.toNat : Int).tmod 128 = (r : Int) := by rw [Int.tmod_eq_emod_of_nonneg (by omega)]; omega
    have hwr : IntKind.u64.wrap (r : Int) = (r : Int) := wrap_u64 _ (by omega) (by omega)
    have h7 : IntKind.i64.wrap (7 * (i : Int)) = (s : Int) := by rw [IntWalk.i64_in _ (by omega)]; omega
    have hw1 : IntKind.u64.wrap ((r : Int) * 2 ^ s) = (p : Int) := by
      rw [IntKind.wrap_u64, ← hp, hr, hs]
      simp
    obtain ⟨q, hq⟩ : ∃ q, N ||| p = q := ⟨_, rfl⟩
    have hw2 : bits BinOp.or IntKind.u64 (N : Int) (p : Int) = (q : Int) := by rw [← hq]; exact u64_or_nat N p hNb hpb
    have Hi := Lib.hid hi
    have HN := Lib.hid hNv
    have Hp := Lib.hid hp
    have Hq := Lib.hid hq
    have HB := Lib.hid (And.intro hB (And.intro bN (And.intro bS bL)))
    have hcS := bS.cell
    have hfS := bS.frozen
    have hcL := bL.cell
    have hfL := bL.frozen
    clear hi hNv hp hq hNb hpb hr hs bN bS bL hB bV0 bL1 bS1 bN1 hB0 hv hvB hsl
    gi_wp2
    rw [show F.inRound l = Fence.wide.inRound l from by rw [HF.out]]
    refine specs_round 8
      #[[], [], [1], [1, 2], [], [4], [1, 2, 3, 4, 5], [0, 1, 2, 3, 4, 5, 6], [0, 1, 2, 3, 4, 5, 6, 7]] #[[5], [9], [], [], [8], [], [], [], [5]] #[true, true, true, true, true, true, true, true, true] #[.val (.int .u64 (N : Int)), .val (.int .u8 (c.toNat : Int)), .val (.int .u8 (r : Int)), .val (.int .u64 (r : Int)), .val (.int .i64 (i : Int)), .val (.int .i64 (s : Int)), .val (.int .u64 (p : Int)), .val (.int .u64 (q : Int)), .any] hmx ?_ ?_ ?_ rfl ?_ ?_
    · rfl
    · rfl
    · rfl
    · refine ⟨?_, ?_, ?_, ?_, ?_, ?_, ?_, ?_, ?_, trivial⟩
      · refine step_intro rfl rfl fun ρ X hc hf hgl hX hp ho => ?_
        have k5 : ρ (.tmp 5) = .pointer (some ⟨w.heap.size, 0, none⟩) := ho 5 (by decide)
        have hcW := Grows.cell' hX hcN
        refine StepOk.of_run (v := .int .u64 (N : Int)) (w' := X) ?_ ⟨rfl, Below.refl _ _⟩
        simp [go_sem, execOp, k5, hcW]
      · refine step_intro rfl rfl fun ρ X hc hf hgl hX hp ho => ?_
        have k9 : ρ (.tmp 9) = .int .u8 (c.toNat : Int) := ho 9 (by decide)
        refine StepOk.of_run (v := .int .u8 (c.toNat : Int)) (w' := X) ?_ ⟨rfl, Below.refl _ _⟩
        simp [go_sem, execOp, hc, k9]
      · refine step_intro rfl rfl fun ρ X hc hf hgl hX hp ho => ?_
        have k16 : ρ (.tmp 16) = .int .u8 (c.toNat : Int) := hp 1 (by decide)
        refine StepOk.of_run (v := .int .u8 (r : Int)) (w' := X) ?_ ⟨rfl, Below.refl _ _⟩
        simp [go_sem, execOp, hc, k16, ht]
      · refine step_intro rfl rfl fun ρ X hc hf hgl hX hp ho => ?_
        have k17 : ρ (.tmp 17) = .int .u8 (r : Int) := hp 2 (by decide)
        refine StepOk.of_run (v := .int .u64 (r : Int)) (w' := X) ?_ ⟨rfl, Below.refl _ _⟩
        simp [go_sem, execOp, hc, k17, hwr]
      · refine step_intro rfl rfl fun ρ X hc hf hgl hX hp ho => ?_
        have k8 : ρ (.tmp 8) = .int .i64 (i : Int) := ho 8 (by decide)
        refine StepOk.of_run (v := .int .i64 (i : Int)) (w' := X) ?_ ⟨rfl, Below.refl _ _⟩
        simp [go_sem, execOp, hc, k8]
      · refine step_intro rfl rfl fun ρ X hc hf hgl hX hp ho => ?_
        have k19 : ρ (.tmp 19) = .int .i64 (i : Int) := hp 4 (by decide)
        refine StepOk.of_run (v := .int .i64 (s : Int)) (w' := X) ?_ ⟨rfl, Below.refl _ _⟩
        simp [go_sem, execOp, hc, k19, h7]
      · refine step_intro rfl rfl fun ρ X hc hf hgl hX hp ho => ?_
        have k18 : ρ (.tmp 18) = .int .u64 (r : Int) := hp 3 (by decide)
        have k20 : ρ (.tmp 20) = .int .i64 (s : Int) := hp 5 (by decide)
        refine StepOk.of_run (v := .int .u64 (p : Int)) (w' := X) ?_ ⟨rfl, Below.refl _ _⟩
        simp [go_sem, execOp, hc, k18, k20, hw1, hs0, hs1]
      · refine step_intro rfl rfl fun ρ X hc hf hgl hX hp ho => ?_
        have k15 : ρ (.tmp 15) = .int .u64 (N : Int) := hp 0 (by decide)
        have k21 : ρ (.tmp 21) = .int .u64 (p : Int) := hp 6 (by decide)
        refine StepOk.of_run (v := .int .u64 (q : Int)) (w' := X) ?_ ⟨rfl, Below.refl _ _⟩
        simp [go_sem, execOp, hc, k15, k21, hw2]
      · exact last_intro rfl
    · intro a X hb
      have k5 : a.eval (.tmp 5) = .pointer (some ⟨w.heap.size, 0, none⟩) := hb.orig' 5 rfl
      have k22 : a.eval (.tmp 22) = .int .u64 (q : Int) := hb.done' 7 22 rfl rfl
      have hsl : Slots a.tmps 0 ((v) :: (undef) :: (.int .u64 0) :: (.int .i64 0) :: (.int .i64 0) :: (.pointer (some ⟨w.heap.size, 0, none⟩)) :: (.pointer (some ⟨w.heap.size + 1, 0, none⟩)) :: (.pointer (some ⟨w.heap.size + 1 + 1, 0, none⟩)) :: (.int .i64 (i : Int)) :: (.int .u8 (c.toNat : Int)) :: (undef) :: (v) :: (.func (.func 29) #[] #[.pointer (some ⟨w.heap.size + 1 + 1 + 1, 0, none⟩)]) :: (.int .i64 (i : Int)) :: (.int .u8 (c.toNat : Int)) :: (.int .u64 (N : Int)) :: (.int .u8 (c.toNat : Int)) :: (.int .u8 (r : Int)) :: (.int .u64 (r : Int)) :: (.int .i64 (i : Int)) :: (.int .i64 (s : Int)) :: (.int .u64 (p : Int)) :: (.int .u64 (q : Int)) :: (undef) :: (undef) :: (undef) :: (undef) :: (undef) :: (undef) :: (undef) :: (undef) :: (undef) :: (undef) :: (undef) :: []) := ⟨hb.orig' 0 rfl, hb.orig' 1 rfl, hb.orig' 2 rfl, hb.orig' 3 rfl, hb.orig' 4 rfl, hb.orig' 5 rfl, hb.orig' 6 rfl, hb.orig' 7 rfl, hb.orig' 8 rfl, hb.orig' 9 rfl, hb.orig' 10 rfl, hb.orig' 11 rfl, hb.orig' 12 rfl, hb.orig' 13 rfl, hb.orig' 14 rfl, hb.done' 0 15 rfl rfl, hb.done' 1 16 rfl rfl, hb.done' 2 17 rfl rfl, hb.done' 3 18 rfl rfl, hb.done' 4 19 rfl rfl, hb.done' 5 20 rfl rfl, hb.done' 6 21 rfl rfl, hb.done' 7 22 rfl rfl, hb.orig' 23 rfl, hb.orig' 24 rfl, hb.orig' 25 rfl, hb.orig' 26 rfl, hb.orig' 27 rfl, hb.orig' 28 rfl, hb.orig' 29 rfl, hb.orig' 30 rfl, hb.orig' 31 rfl, hb.orig' 32 rfl, hb.orig' 33 rfl, trivial⟩
      have hfr := frame_eq hsl (hb.size.trans rfl) hb.defers
      have hcX := Grows.cell' hb.ext hcN
      have hcSX := Grows.cell' hb.ext hcS
      have hcLX := Grows.cell' hb.ext hcL
      have hfX : X.frozen? ⟨w.heap.size, 0, none⟩ = false := (hb.ext.frozen (p := ⟨w.heap.size, 0, none⟩) (World.block_lt_of_cell? _ _ hcN)).trans hfN
      have hfSX : X.frozen? ⟨w.heap.size + 1, 0, none⟩ = false := (hb.ext.frozen (p := ⟨w.heap.size + 1, 0, none⟩) (World.block_lt_of_cell? _ _ hcS)).trans hfS
      have hfLX : X.frozen? ⟨w.heap.size + 1 + 1, 0, none⟩ = false := (hb.ext.frozen (p := ⟨w.heap.size + 1 + 1, 0, none⟩) (World.block_lt_of_cell? _ _ hcL)).trans hfL
      have hext := Lib.hid hb.ext
      clear hb hsl
      subst hfr
      change StepOk _ { dst := none, op := Op.store 22 (Operand.tmp 5) (Operand.tmp 22), type := _, pos := _, after := _, guard := _ } _ _ _
      unfold StepOk
      clear k5 k22
      simp [go_sem, execOp, hcX, hfX]
      gi_wp2
      obtain ⟨hB, bN, bS, bL⟩ := HB.out
      have hg := hext.out
      have bN2 := Boxed.set (.int .u64 (q : Int)) (boxed_grows bN hg)
      have bS2 := (boxed_grows bS hg).other (B' := w.heap.size) (by omega) (.int .u64 (q : Int))
      have bL2 := (boxed_grows bL hg).other (B' := w.heap.size) (by omega) (.int .u64 (q : Int))
      refine ⟨(((keeps_grows hg).trans (KeepsOthers.setCell _ _ _)).trans ((KeepsOthers.setCell _ _ _).trans (KeepsOthers.setCell _ _ _))).from _, ?_, ⟨?_, ?_, ?_⟩, ?_⟩
      · exact (((Below.mono hg hB.size).setCell (p := ⟨w.heap.size, 0, none⟩) (Nat.le_refl _) _).setCell (p := ⟨w.heap.size + 1, 0, none⟩) (by simp) _).setCell (p := ⟨w.heap.size + 1 + 1, 0, none⟩) (by simp; omega) _
      · rw [List.foldl_append, List.foldl_cons, List.foldl_nil, HN.out, Hacc.out, Hp.out, Hq.out]
        exact (bN2.other (by omega) _).other (by omega) _
      · rw [sizeG_snoc]
        simp only [Hi.out]
        exact (bS2.set _).other (by omega) _
      · rw [lastG_snoc]
        exact (bL2.other (by omega) _).set _
      · exact hB.trans ((((Below.mono hg hB.size).setCell (p := ⟨w.heap.size, 0, none⟩) (Nat.le_refl _) _).setCell (p := ⟨w.heap.size + 1, 0, none⟩) (by simp) _).setCell (p := ⟨w.heap.size + 1 + 1, 0, none⟩) (by simp; omega) _)
  case done =>
    rintro D ys W hD rfl ⟨⟨bN, bS, bL⟩, hB⟩ hK
    have hcN := bN.cell
    have hcS := bS.cell
    have hcL := bL.cell
    have hsz10 := sizeG_le (leadF 10 L 0) 0 (by omega)
    have hgl := get_lead 10 L 0 0 128 rfl (by omega) (by decide)
    generalize sizeG 0 (leadF 10 L 0) = sz at *
    generalize lastG 128 (leadF 10 L 0) = lc at *
    generalize List.foldl accG 0 (leadF 10 L 0) = N at *
    obtain ⟨E, hE⟩ : ∃ E, refus sz lc.toNat = E := ⟨_, rfl⟩
    have href : CallsIn F (n - 1) Try.prog 26 #[.int .i64 (sz : Int), .int .u8 (lc.toNat : Int)] W fun e w' => e = .returned (.int .i64 (E : Int)) ∧ W = w' := by
      rw [HF.out]
      refine callsIn_wide.2 ?_
      rw [← hE]
      exact refusal_any sz hsz10 lc W
    have Href := Lib.hid href
    rw [hE] at hgl
    have HE := Lib.hid hE
    have HB := Lib.hid hB
    have HKb : Hid (Below w.heap.size w (W.putObj D (.deferred none))) := hB.trans (belowK_b (w := w) (Nat.le_refl _) W D _ _ (by omega) hK rfl rfl)
    clear href hE hB bN bS bL bV0 bL1 bS1 bN1 hB0 hv hvB hsl hsz10
    rcases hgl with ⟨hne, hg⟩ | ⟨h0, hg⟩
    · have e1 : ((E : Int) != 0) = true := by rw [bne_iff_ne]; omega
      have Hg := Lib.hid hg
      clear hg hne
      gi_wp2_with (gi_at_call 26; refine Href.out.mono ?_; rintro e w' ⟨rfl, rfl⟩)
      refine ⟨by simp, .inl ⟨_, _, rfl, run_takeDeferred hK, ?_⟩⟩
      exact ⟨_, results_tmp3 rfl _ _ _, by unfold get; rw [Hg.out]; rfl, HKb.out⟩
    · have e1 : ((E : Int) != 0) = false := by rw [h0]; rfl
      have Hg := Lib.hid hg
      have H0 := Lib.hid h0
      clear hg h0
      gi_wp2_with (gi_at_call 26; refine Href.out.mono ?_; rintro e w' ⟨rfl, rfl⟩)
      gi_region
      all_goals gi_wp2
      all_goals refine ⟨by simp, .inl ⟨_, _, rfl, run_takeDeferred hK, ?_⟩⟩
      all_goals exact ⟨_, results_tmp3 rfl _ _ _, by unfold get; rw [Hg.out]; rfl, Below.drew HKb.out⟩
  case stop =>
    rintro D c pre W _ _ h _
    exact h.elim
end

/-- **vint.Get.** -/
theorem vGet (v : Value) (l : List UInt8) (w : World) (h : Byt w v l) :
    Calls Try.prog 13 #[v] w fun e w' => e = .returned (got (get l)) ∧ Grows w w' :=
  (callsIn_wide (n := 3)).1 (get_in Fence.wide rfl 3 trivial trivial trivial trivial rfl (Nat.le_refl _) v l w h)
end Go.Proofs.Ytbdfgbobipognaa
