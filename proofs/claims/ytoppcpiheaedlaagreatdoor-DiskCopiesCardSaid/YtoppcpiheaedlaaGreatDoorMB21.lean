/-
  A deed on a disk that is there.
-/
import Derived.Test.YtoppcpiheaedlaaGreatDoorMB9
import Derived.Test.YtoppcpiheaedlaaGreatDoorMB8
import Derived.Test.YtoppcpiheaedlaaGreatDoorMB20
namespace Go.Proofs.YtoppcpiheaedlaaGreatDoor
open Go.RowKit Go.Maps
set_option linter.unusedVariables false
set_option linter.unusedSimpArgs false
attribute [local go_sem] sv nv mv pv
def CodeOK (s : Ps) : Prop := 0 ≤ s.code ∧ s.code ≤ 100
def Small (r : Int) : Prop := -9223372036854775808 ≤ r ∧ r ≤ 9223372036854775807
theorem s0 : Small 0 := by unfold Small; decide
theorem s2 : Small 2 := by unfold Small; decide
theorem s6 : Small 6 := by unfold Small; decide
theorem s7 : Small 7 := by unfold Small; decide
theorem s40 : Small 40 := by unfold Small; decide
theorem s42 : Small 42 := by unfold Small; decide
theorem s43 : Small 43 := by unfold Small; decide
theorem code_begin {s : Ps} (h : CodeOK s) : Small (beginP s).1 := by
 unfold CodeOK at h; unfold beginP
 split
 · exact s0
 · split
   · exact s0
   · show _ ≤ s.code ∧ s.code ≤ _; omega
theorem code_guard {s : Ps} (h : CodeOK s) {k : Ps → Int × Ps} (hk : ∀ s, Small (k s).1) : Small (guardP s k).1 := by
 unfold guardP
 split
 · exact code_begin h
 · exact hk _
theorem code_create {s : Ps} (h : CodeOK s) (a : Nm) : Small (createP s a).1 := code_guard h fun s => by
 split
 · exact s2
 · split
   · exact s40
   · split
     · exact s6
     · exact s0
theorem code_remove {s : Ps} (h : CodeOK s) (a : Nm) : Small (removeP s a).1 := code_guard h fun s => by
 split
 · exact s7
 · exact s0
theorem code_rename {s : Ps} (h : CodeOK s) (a b : Nm) : Small (renameP s a b).1 := code_guard h fun s => by
 split
 · exact s7
 · split
   · exact s2
   · exact s0
theorem code_grow {s : Ps} (h : CodeOK s) (a : Nm) (n : Int) : Small (growP s a n).1 := code_guard h fun s => by
 split
 · exact s7
 · split
   · exact s2
   · split
     · exact s42
     · exact s0
theorem code_write {s : Ps} (h : CodeOK s) (a : Nm) (n : Int) (p : Sec) : Small (writeP s a n p).1 := code_guard h fun s => by
 split
 · exact s7
 · split
   · exact s43
   · split
     · exact s2
     · exact s0
theorem code_sync {s : Ps} (h : CodeOK s) (a : Nm) : Small (syncP s a).1 := code_guard h fun s => by
 split
 · exact s7
 · exact s0
theorem code_syncDir {s : Ps} (h : CodeOK s) : Small (syncDirP s).1 := code_guard h fun s => s0
theorem code_read {s : Ps} (h : CodeOK s) (a : Nm) (n : Int) : Small (readP s a n).1.2 := by
 unfold readP
 split
 · exact code_begin h
 · split
   · exact s7
   · split
     · exact s43
     · exact s0
theorem own_bas {e B k n : Nat} {W : World} {v : Value} {xs : List Value} (h : W.ownsRow B e k v n xs) : ∀ j, v.ownBlock = some j → B ≤ j := by
 intro j hj
 rcases h.2 with ⟨rfl, h0⟩ | ⟨g, cap, cur, rfl, hb, _⟩
 · simp [Value.ownBlock] at hj
 · simp [Value.ownBlock] at hj
   omega
theorem TurnP.pre {q : Nat} {x x' : Px} {w X W : World} (g : But (mutP q x) w X) (h : TurnP q x x' X W) : TurnP q x x' w W :=
 ⟨fun k hk => (h.muts k hk).imp id fun hl => Nat.le_trans g.size hl, fun k hk => (h.uses k hk).imp id fun hl => Nat.le_trans g.size hl, g.trans' h.but⟩
def DoneX (q : Nat) (x : Px) (w1 : World) (s : Ps) (W : World) : Prop := ∃ x', PD W q x' ∧ x'.s = s ∧ TurnP q x x' w1 W
theorem DoneX.grows {q : Nat} {x : Px} {w1 : World} {s : Ps} {W W' : World} (h : DoneX q x w1 s W) (g : Grows W W') : DoneX q x w1 s W' := by
 obtain ⟨x', hP, hs, hT⟩ := h
 exact ⟨x', hP.grows g, hs, hT.trans (TurnP.ofGrows g)⟩
def DidP (q : Nat) (x : Px) (w1 : World) (op nm : List UInt8) (r : Int × Ps) (v : Value) (W : World) : Prop := IsFault W v op nm r.1 ∧ DoneX q x w1 r.2 W
theorem DidP.grows {q : Nat} {x : Px} {w1 : World} {op nm : List UInt8} {r : Int × Ps} {v : Value} {W W' : World} (h : DidP q x w1 op nm r v W) (g : Grows W W') : DidP q x w1 op nm r v W' := ⟨h.1.grows g, h.2.grows g⟩
def DoneP (q : Nat) (x : Px) (w : World) (s : Ps) (w' : World) : Prop := ∃ x', PD w' q x' ∧ x'.s = s ∧ TurnP q x x' w w'
theorem DoneP.grows {q : Nat} {x : Px} {w1 : World} {s : Ps} {W W' : World} (h : DoneP q x w1 s W) (g : Grows W W') : DoneP q x w1 s W' := DoneX.grows h g
theorem DoneP.ofT {q g : Nat} {x x' : Px} {w w1 W : World} {C : Array Value} {T : TypeId} (hw : w.alloc (.cells C T) = w1) (hg : w.heap.size = g) (hP : PD W q x') {s : Ps} (hs : x'.s = s) (hT : TurnP q x x' w1 W) (hm : True) : DoneP q x w s W :=
 ⟨x', hP, hs, hT.pre (But.ofGrows (by rw [← hw]; exact Grows.alloc' _ _))⟩
def dzT (q : Nat) (x : Px) (i1 : Nat) (use : Array (List Nat)) : StateK :=
 { Ψ := fun s W => match s with
    | 0 => PD W q x
    | _ => True
   made := #[none], kl := #[[i1]], use := use, muts := [i1] }
theorem dzT_ks {O : Nat → Prop} (q : Nat) (x : Px) (i1 : Nat) (use : Array (List Nat)) : ∀ i s W W', i ∉ (dzT q x i1 use).kl.getD s [] → (dzT q x i1 use).made.getD s none ≠ some i → (dzT q x i1 use).rel (But O) i W W' → (dzT q x i1 use).Ψ s W → (dzT q x i1 use).Ψ s W' := by
 intro i s W W' h1 h2 h3 h4
 match s with
 | 0 =>
  have hi : i ≠ i1 := by simpa [dzT] using h1
  have h5 : Grows W W' := by simpa [StateK.rel, dzT, hi] using h3
  exact PD.grows h4 h5
 | _ + 1 => trivial
def Dd.dp (x : Dd) : Dp := ⟨x.kind, x.a, x.b, x.n, x.p, x.keep⟩
set_option maxRecDepth 100000 in
set_option maxHeartbeats 16000000 in
theorem pDo {w : World} {q : Nat} {x : Px} (hP : PD w q x) (d : Dd) (hd : DdOk w d) (hpl : d.p.length ≤ 1000000) (hkl : d.keep.length ≤ 1000000)
 (hoA : Outside (mutP q x) d.vp) (hoK : Outside (mutP q x) d.vk) (hsm : x.dirs.length < 1000000 ∧ x.made < 1000000 ∧ x.fs.length < 1000000 ∧ x.pend.length < 1000000) (hcode : CodeOK x.s) (hek : EK w) (hn0 : ¬ mutP q x 0) :
 Calls Tryz.prog 13 #[.pointer (some ⟨q, 0, none⟩), d.v] w fun e w' => e = .returned (.tuple #[.int .i64 (doP x.s d.dp).1.1, .string ⟨(doP x.s d.dp).1.2.toArray⟩]) ∧ DoneP q x w (doP x.s d.dp).2 w' := by
 have hmx : Tryz.prog.follows .mixedOrders = true := by kernel_rfl
 obtain ⟨kd, a, b, n, vp, p, vk, keep⟩ := d
 have hqlt : q < w.heap.size := hP.ltU (.inl rfl)
 have Hmlt : Hid (∀ k, mutP q x k → k < w.heap.size) := fun k hk => hP.ltU (mut_use hk)
 obtain ⟨ap, cp, ep⟩ : ∃ ap cp, vp = .slice ap p.length cp := hd.p.slice
 obtain ⟨ak, ck, ek⟩ : ∃ ak ck, vk = .slice ak keep.length ck := by obtain ⟨ak, ck, e, _⟩ := hd.keep; exact ⟨ak, ck, e⟩
 subst ep
 subst ek
 have Hok : Hid (okS a ∧ True ∧ okS b ∧ True) := ⟨hd.a, trivial, hd.b, trivial⟩
 have Hn : Hid (-9223372036854775808 ≤ n ∧ n ≤ 9223372036854775807) := hd.n
 have Hkeeps : Hid (∀ z ∈ keep, -9223372036854775808 ≤ z ∧ z ≤ 9223372036854775807) := hd.keeps
 have Hpl := Lib.hid hpl
 have Hkl := Lib.hid hkl
 have Hsm := Lib.hid hsm
 have HcodeS := Lib.hid hcode
 have Hn0 := Lib.hid hn0
 show Calls _ _ #[_, .agg #[.int .i64 kd, .string ⟨a.toArray⟩, .string ⟨b.toArray⟩, .int .i64 n, .slice ap p.length cp, .slice ak keep.length ck]] _ _
 show Calls _ _ _ _ (fun e w' => e = .returned (.tuple #[.int .i64 (doP x.s ⟨kd, a, b, n, p, keep⟩).1.1, .string ⟨(doP x.s ⟨kd, a, b, n, p, keep⟩).1.2.toArray⟩]) ∧ DoneP q x w (doP x.s ⟨kd, a, b, n, p, keep⟩).2 w')
 obtain ⟨C, hC⟩ : ∃ C : Array Value, C = #[.int .i64 kd, .string ⟨a.toArray⟩, .string ⟨b.toArray⟩, .int .i64 n, .slice ap p.length cp, .slice ak keep.length ck] := ⟨_, rfl⟩
 rw [← hC]
 obtain ⟨g, Hg⟩ : ∃ g, Hid (w.heap.size = g) := ⟨_, rfl⟩
 obtain ⟨w1, Hw1⟩ : ∃ w1, Hid (w.alloc (.cells C 39) = w1) := ⟨_, rfl⟩
 have HG1 : Hid (Grows w w1) := by show Grows _ _; rw [← Hw1.out]; exact Grows.alloc' _ _
 have hrow : w1.heap[g]? = some (.cells C 39 (0, 0)) := by rw [← Hw1.out, ← Hg.out]; exact heap_alloc_new _ _
 have d0 : w1.cell? ⟨g, 0, none⟩ = some (.int .i64 kd) := by rw [cell_of_row _ g 0 _ _ _ hrow, hC]; rfl
 have d1 : w1.cell? ⟨g, 1, none⟩ = some (.string ⟨a.toArray⟩) := by rw [cell_of_row _ g 1 _ _ _ hrow, hC]; rfl
 have d2 : w1.cell? ⟨g, 2, none⟩ = some (.string ⟨b.toArray⟩) := by rw [cell_of_row _ g 2 _ _ _ hrow, hC]; rfl
 have d3 : w1.cell? ⟨g, 3, none⟩ = some (.int .i64 n) := by rw [cell_of_row _ g 3 _ _ _ hrow, hC]; rfl
 have d4 : w1.cell? ⟨g, 4, none⟩ = some (.slice ap p.length cp) := by rw [cell_of_row _ g 4 _ _ _ hrow, hC]; rfl
 have d5 : w1.cell? ⟨g, 5, none⟩ = some (.slice ak keep.length ck) := by rw [cell_of_row _ g 5 _ _ _ hrow, hC]; rfl
 have HxA : Hid (Byt w1 (.slice ap p.length cp) p) := hd.p.grows HG1.out
 have HxK : Hid (IntS w1 (.slice ak keep.length ck) keep) := hd.keep.grows HG1.out
 have HoA : Hid (Outside (mutP q x) (.slice ap p.length cp)) := hoA
 have HoK : Hid (Outside (mutP q x) (.slice ak keep.length ck)) := hoK
 have Hek : Hid (EK w1) := EK.grows hek HG1.out
 have HP : Hid (PD w1 q x) := hP.grows HG1.out
 have Hgo : Hid (¬ mutP q x g) := by show ¬ _; intro hm; have := Hmlt.out g hm; have := Hg.out; omega
 have Hlt : Hid (∀ k, mutP q x k → k < w1.heap.size) := by show ∀ _, _; intro k hk; have := Hmlt.out k hk; have := HG1.out.size; omega
 have Hsm3 : Hid (x.dirs.length < 1000000 ∧ x.made < 1000000 ∧ x.fs.length < 1000000 ∧ x.pend.length < 1000000) := hsm
 have Hmg : Hid True := trivial
 clear hrow hd hpl hkl hoA hoK hsm hcode hek hn0 hP hC hqlt
 obtain ⟨lp, Hlp⟩ : ∃ y, Hid (p.length = y) := ⟨_, rfl⟩
 obtain ⟨lk, Hlk⟩ : ∃ y, Hid (keep.length = y) := ⟨_, rfl⟩
 rw [Hlp.out] at d4 HxA HoA
 rw [Hlk.out] at d5 HxK HoK
 obtain ⟨sa, Hsa⟩ : ∃ y : ByteArray, Hid (⟨a.toArray⟩ = y) := ⟨_, rfl⟩
 obtain ⟨sb, Hsb⟩ : ∃ y : ByteArray, Hid (⟨b.toArray⟩ = y) := ⟨_, rfl⟩
 rw [Hsa.out] at d1
 rw [Hsb.out] at d2
 by_cases h0 : kd = 0
 · subst h0
   have Hr : Hid (doP x.s ⟨0, a, b, n, p, keep⟩ = (((createP x.s a).1, []), (createP x.s a).2)) := by show _ = _; unfold doP; rfl
   have Hcode := Lib.hid (code_create HcodeS.out a)
   go_enter Tryz.func13, Tryz.ntmps13
   go_wp2_with (first | (refine wpList_boxT rfl 39 _ rfl C rfl ?_; rw [Hg.out, Hw1.out]) | fail)
   have cXr0 := fun X (hX : (But (mutP q x)) _ X) => And.intro (But.cell hX Hgo.out d0) (And.intro (But.cell hX Hgo.out d1) (And.intro (But.cell hX Hgo.out d2) (And.intro (But.cell hX Hgo.out d3) (And.intro (But.cell hX Hgo.out d4) (But.cell hX Hgo.out d5)))))
   refine region_L (E := (But (mutP q x))) (But.ok _) But.ofGrows
    #[[], [], [1], [0, 1, 2], [], [4], [0, 1, 2, 3, 4, 5], [0, 1, 2, 3, 4, 5, 6], [0, 1, 2, 3, 4, 5, 6, 7]] #[[0], [3], [], [], [3], [], [], [], []] #[true, true, true, true, true, true, true, true, true]
    ((.val ?vr00) :: (.val ?vr01) :: (.val ?vr02) :: (.frag (fun v W => DidP q x w1 opCreate a (createP x.s a) v W) (fun v a b g h => DidP.grows h g)) :: (.val ?vr04) :: (.val ?vr05) :: (.val (.int .i64 ((createP x.s a)).1)) :: (.val ?vr07) :: (.val ?vr08) :: []).toArray
    (dzT q x 3 #[[], [], [], [0], [], [], [], [], []])
    (dzT_ks _ _ _ _)
    (fun s hs => match s, hs with | 0, _ => HP.out.grows (Grows.drew' _) | _ + 1, _ => trivial)
    hmx ?chkr0 rfl rfl ?grdr0 ?stpr0 ?rstr0
   case chkr0 => rfl
   case stpr0 =>
    refine ⟨?_, ?_, ?_, ?_, ?_, ?_, ?_, ?_, ?_, trivial⟩
    · refine stepOK 0 ?vr00 rfl (fun _ _ => rfl) rfl rfl (fun _ => rfl) (by decide) ?_; show (.pointer (some ⟨q, 0, none⟩) : Value) = _; rfl
    · refine stepRK (o := ⟨_, .fieldAddr 39 (.tmp 3) 1, _, _, _, _⟩) ?vr01 rfl rfl rfl (fun _ => rfl) fun ρ X hc hf hgl hX hp ho => ?_; have k3 : ρ (.tmp 3) = .pointer (some ⟨g, 0, none⟩) := ho 3 (by decide); clear hp ho hX; go_simp; (all_goals rfl)
    · refine stepRK (o := ⟨_, .load 9 (.tmp 13), _, _, _, _⟩) ?vr02 rfl rfl rfl (fun _ => rfl) fun ρ X hc hf hgl hX hp ho => ?_; have k13 : ρ (.tmp 13) = ?vr01 := hp 1 (by decide); have cX := cXr0 X hX; clear hp ho hX; go_simp; (all_goals rfl)
    · refine step_introK rfl rfl fun ρ X hc hf hgl hX hp ho hu => ?_
      change StepOk _ ⟨_, .call { callee := .value (.func 27), args := #[.tmp 12, .tmp 14], argTypes := #[25, 9] }, _, _, _, _⟩ _ _ _
      have k12 : ρ (.tmp 12) = ?vr00 := hp 0 (by decide)
      have k14 : ρ (.tmp 14) = ?vr02 := hp 2 (by decide)
      have hu0 := hu
      have hst : PD X q x := hu 0 (by simp [dzT])
      clear hp ho
      have HC := PCreate hst a Hok.out.1 Hok.out.2.1 ⟨Hsm3.out.1, Hsm3.out.2.1, Hsm3.out.2.2.1⟩
      unfold sv at HC
      rw [Hsa.out] at HC
      refine stepK_made rfl ?_
      refine StepOk.of_call (f := 27) (args := #[.pointer (some ⟨q, 0, none⟩), .string sa]) (w' := X) ?_ HC ?_
      · go_simp
        all_goals rfl
      · rintro e w' ⟨v, rfl, hF, x', hP', hs', hT'⟩
        refine ⟨v, rfl, ⟨hF, x', hP', hs', TurnP.pre hX hT'⟩, hT'.but, fun s hs => ?_⟩
        match s, hs with
        | 0, h => simp [dzT] at h
        | _ + 1, h => trivial
    · refine stepRK (o := ⟨_, .fieldAddr 39 (.tmp 3) 1, _, _, _, _⟩) ?vr04 rfl rfl rfl (fun _ => rfl) fun ρ X hc hf hgl hX hp ho => ?_; have k3 : ρ (.tmp 3) = .pointer (some ⟨g, 0, none⟩) := ho 3 (by decide); clear hp ho hX; go_simp; (all_goals rfl)
    · refine stepRK (o := ⟨_, .load 9 (.tmp 16), _, _, _, _⟩) ?vr05 rfl rfl rfl (fun _ => rfl) fun ρ X hc hf hgl hX hp ho => ?_; have k16 : ρ (.tmp 16) = ?vr04 := hp 4 (by decide); have cX := cXr0 X hX; clear hp ho hX; go_simp; (all_goals rfl)
    · refine step_introK rfl rfl fun ρ X hc hf hgl hX hp ho hu => ?_
      change StepOk _ ⟨_, .call { callee := .value (.func 12), args := #[.tmp 15, .const (.string { data := #[99, 114, 101, 97, 116, 101] }), .tmp 17], argTypes := #[27, 9, 9] }, _, _, _, _⟩ _ _ _
      have k15 := hp 3 (by decide)
      have k17 : ρ (.tmp 17) = ?vr05 := hp 5 (by decide)
      refine stepK_plain (i := 6) rfl ?_
      clear hu
      clear hp ho
      have HC := pTold (ρ (.tmp 15)) opCreate a ((createP x.s a).1) X (Hek.out.but hX Hn0.out) k15.1 Hcode.out
      unfold sv at HC
      rw [Hsa.out] at HC
      unfold opCreate at HC
      refine StepOk.of_call (f := 12) (args := #[ρ (.tmp 15), .string { data := #[99, 114, 101, 97, 116, 101] }, .string sa]) (w' := X) ?_ HC ?_
      · go_simp
        all_goals rfl
      · rintro e w' ⟨rfl, hG⟩
        exact ⟨_, rfl, rfl, hG⟩
    · refine stepPK 18 6 ((.int .i64 ((createP x.s a)).1)) ?vr07 rfl (fun _ _ => rfl) rfl rfl (fun _ => rfl) (by decide) rfl (fun _ _ h => h) ?_; rfl
    · refine stepRK (o := ⟨_, .assign (.const (.string { data := #[] })), _, _, _, _⟩) ?vr08 rfl rfl rfl (fun _ => rfl) fun ρ X hc hf hgl hX hp ho => ?_; clear hp ho hX; go_simp; (all_goals rfl)
   case grdr0 => rfl
   case rstr0 =>
    intro a0 X hb
    obtain ⟨x15, hx15⟩ : ∃ x, a0.tmps.getD 15 undef = x := ⟨_, rfl⟩
    have p15 := hb.done' 3 15 rfl rfl
    rw [hx15] at p15
    have hfr := hb.frame ((4, ?vr07) :: (5, ?vr08) :: (12, ?vr00) :: (13, ?vr01) :: (14, ?vr02) :: (15, x15) :: (16, ?vr04) :: (17, ?vr05) :: (18, (.int .i64 ((createP x.s a)).1)) :: []) rfl ⟨hb.done' 7 4 rfl rfl, hb.done' 8 5 rfl rfl, hb.done' 0 12 rfl rfl, hb.done' 1 13 rfl rfl, hb.done' 2 14 rfl rfl, hx15, hb.done' 4 16 rfl rfl, hb.done' 5 17 rfl rfl, hb.done' 6 18 rfl rfl, trivial⟩
    simp only [updL, ↓reduceIte, Nat.reduceEqDiff, Nat.reduceAdd, Nat.zero_add] at hfr
    have HX := Lib.hid hb.ext
    clear hb cXr0
    subst hfr
    obtain ⟨x', hP', hs', hT'⟩ := (show DidP q x w1 opCreate a (createP x.s a) x15 X from p15).2
    have HR := Lib.hid (DoneP.ofT Hw1.out Hg.out hP' hs' hT' Hmg.out)
    clear p15 hP' hs' hT'
    clear d0 d1 d2 d3 d4 d5 HX
    go_wp2
    go_ret2
    exact ⟨by rw [Hr.out]; rfl, by rw [Hr.out]; exact HR.out⟩
 have e0 : (kd == 0) = false := by simpa using h0
 by_cases h1 : kd = 1
 · subst h1
   have Hr : Hid (doP x.s ⟨1, a, b, n, p, keep⟩ = (((removeP x.s a).1, []), (removeP x.s a).2)) := by show _ = _; unfold doP; rfl
   have Hcode := Lib.hid (code_remove HcodeS.out a)
   clear h0 e0
   go_enter Tryz.func13, Tryz.ntmps13
   go_wp2_with (first | (refine wpList_boxT rfl 39 _ rfl C rfl ?_; rw [Hg.out, Hw1.out]) | fail)
   have cXr1 := fun X (hX : (But (mutP q x)) _ X) => And.intro (But.cell hX Hgo.out d0) (And.intro (But.cell hX Hgo.out d1) (And.intro (But.cell hX Hgo.out d2) (And.intro (But.cell hX Hgo.out d3) (And.intro (But.cell hX Hgo.out d4) (But.cell hX Hgo.out d5)))))
   refine region_L (E := (But (mutP q x))) (But.ok _) But.ofGrows
    #[[], [], [1], [0, 1, 2], [], [4], [0, 1, 2, 3, 4, 5], [0, 1, 2, 3, 4, 5, 6], [0, 1, 2, 3, 4, 5, 6, 7]] #[[0], [3], [], [], [3], [], [], [], []] #[true, true, true, true, true, true, true, true, true]
    ((.val ?vr10) :: (.val ?vr11) :: (.val ?vr12) :: (.frag (fun v W => DidP q x w1 opRemove a (removeP x.s a) v W) (fun v a b g h => DidP.grows h g)) :: (.val ?vr14) :: (.val ?vr15) :: (.val (.int .i64 ((removeP x.s a)).1)) :: (.val ?vr17) :: (.val ?vr18) :: []).toArray
    (dzT q x 3 #[[], [], [], [0], [], [], [], [], []])
    (dzT_ks _ _ _ _)
    (fun s hs => match s, hs with | 0, _ => HP.out.grows (Grows.drew' _) | _ + 1, _ => trivial)
    hmx ?chkr1 rfl rfl ?grdr1 ?stpr1 ?rstr1
   case chkr1 => rfl
   case stpr1 =>
    refine ⟨?_, ?_, ?_, ?_, ?_, ?_, ?_, ?_, ?_, trivial⟩
    · refine stepOK 0 ?vr10 rfl (fun _ _ => rfl) rfl rfl (fun _ => rfl) (by decide) ?_; show (.pointer (some ⟨q, 0, none⟩) : Value) = _; rfl
    · refine stepRK (o := ⟨_, .fieldAddr 39 (.tmp 3) 1, _, _, _, _⟩) ?vr11 rfl rfl rfl (fun _ => rfl) fun ρ X hc hf hgl hX hp ho => ?_; have k3 : ρ (.tmp 3) = .pointer (some ⟨g, 0, none⟩) := ho 3 (by decide); clear hp ho hX; go_simp; (all_goals rfl)
    · refine stepRK (o := ⟨_, .load 9 (.tmp 22), _, _, _, _⟩) ?vr12 rfl rfl rfl (fun _ => rfl) fun ρ X hc hf hgl hX hp ho => ?_; have k22 : ρ (.tmp 22) = ?vr11 := hp 1 (by decide); have cX := cXr1 X hX; clear hp ho hX; go_simp; (all_goals rfl)
    · refine step_introK rfl rfl fun ρ X hc hf hgl hX hp ho hu => ?_
      change StepOk _ ⟨_, .call { callee := .value (.func 33), args := #[.tmp 21, .tmp 23], argTypes := #[25, 9] }, _, _, _, _⟩ _ _ _
      have k21 : ρ (.tmp 21) = ?vr10 := hp 0 (by decide)
      have k23 : ρ (.tmp 23) = ?vr12 := hp 2 (by decide)
      have hu0 := hu
      have hst : PD X q x := hu 0 (by simp [dzT])
      clear hp ho
      have HC := PRemove hst a Hok.out.1 Hsm3.out.1
      unfold sv at HC
      rw [Hsa.out] at HC
      refine stepK_made rfl ?_
      refine StepOk.of_call (f := 33) (args := #[.pointer (some ⟨q, 0, none⟩), .string sa]) (w' := X) ?_ HC ?_
      · go_simp
        all_goals rfl
      · rintro e w' ⟨v, rfl, hF, x', hP', hs', hT'⟩
        refine ⟨v, rfl, ⟨hF, x', hP', hs', TurnP.pre hX hT'⟩, hT'.but, fun s hs => ?_⟩
        match s, hs with
        | 0, h => simp [dzT] at h
        | _ + 1, h => trivial
    · refine stepRK (o := ⟨_, .fieldAddr 39 (.tmp 3) 1, _, _, _, _⟩) ?vr14 rfl rfl rfl (fun _ => rfl) fun ρ X hc hf hgl hX hp ho => ?_; have k3 : ρ (.tmp 3) = .pointer (some ⟨g, 0, none⟩) := ho 3 (by decide); clear hp ho hX; go_simp; (all_goals rfl)
    · refine stepRK (o := ⟨_, .load 9 (.tmp 25), _, _, _, _⟩) ?vr15 rfl rfl rfl (fun _ => rfl) fun ρ X hc hf hgl hX hp ho => ?_; have k25 : ρ (.tmp 25) = ?vr14 := hp 4 (by decide); have cX := cXr1 X hX; clear hp ho hX; go_simp; (all_goals rfl)
    · refine step_introK rfl rfl fun ρ X hc hf hgl hX hp ho hu => ?_
      change StepOk _ ⟨_, .call { callee := .value (.func 12), args := #[.tmp 24, .const (.string { data := #[114, 101, 109, 111, 118, 101] }), .tmp 26], argTypes := #[27, 9, 9] }, _, _, _, _⟩ _ _ _
      have k24 := hp 3 (by decide)
      have k26 : ρ (.tmp 26) = ?vr15 := hp 5 (by decide)
      refine stepK_plain (i := 6) rfl ?_
      clear hu
      clear hp ho
      have HC := pTold (ρ (.tmp 24)) opRemove a ((removeP x.s a).1) X (Hek.out.but hX Hn0.out) k24.1 Hcode.out
      unfold sv at HC
      rw [Hsa.out] at HC
      unfold opRemove at HC
      refine StepOk.of_call (f := 12) (args := #[ρ (.tmp 24), .string { data := #[114, 101, 109, 111, 118, 101] }, .string sa]) (w' := X) ?_ HC ?_
      · go_simp
        all_goals rfl
      · rintro e w' ⟨rfl, hG⟩
        exact ⟨_, rfl, rfl, hG⟩
    · refine stepPK 27 6 ((.int .i64 ((removeP x.s a)).1)) ?vr17 rfl (fun _ _ => rfl) rfl rfl (fun _ => rfl) (by decide) rfl (fun _ _ h => h) ?_; rfl
    · refine stepRK (o := ⟨_, .assign (.const (.string { data := #[] })), _, _, _, _⟩) ?vr18 rfl rfl rfl (fun _ => rfl) fun ρ X hc hf hgl hX hp ho => ?_; clear hp ho hX; go_simp; (all_goals rfl)
   case grdr1 => rfl
   case rstr1 =>
    intro a0 X hb
    obtain ⟨x24, hx24⟩ : ∃ x, a0.tmps.getD 24 undef = x := ⟨_, rfl⟩
    have p24 := hb.done' 3 24 rfl rfl
    rw [hx24] at p24
    have hfr := hb.frame ((4, ?vr17) :: (5, ?vr18) :: (21, ?vr10) :: (22, ?vr11) :: (23, ?vr12) :: (24, x24) :: (25, ?vr14) :: (26, ?vr15) :: (27, (.int .i64 ((removeP x.s a)).1)) :: []) rfl ⟨hb.done' 7 4 rfl rfl, hb.done' 8 5 rfl rfl, hb.done' 0 21 rfl rfl, hb.done' 1 22 rfl rfl, hb.done' 2 23 rfl rfl, hx24, hb.done' 4 25 rfl rfl, hb.done' 5 26 rfl rfl, hb.done' 6 27 rfl rfl, trivial⟩
    simp only [updL, ↓reduceIte, Nat.reduceEqDiff, Nat.reduceAdd, Nat.zero_add] at hfr
    have HX := Lib.hid hb.ext
    clear hb cXr1
    subst hfr
    obtain ⟨x', hP', hs', hT'⟩ := (show DidP q x w1 opRemove a (removeP x.s a) x24 X from p24).2
    have HR := Lib.hid (DoneP.ofT Hw1.out Hg.out hP' hs' hT' Hmg.out)
    clear p24 hP' hs' hT'
    clear d0 d1 d2 d3 d4 d5 HX
    go_wp2
    go_ret2
    exact ⟨by rw [Hr.out]; rfl, by rw [Hr.out]; exact HR.out⟩
 have e1 : (kd == 1) = false := by simpa using h1
 by_cases h2 : kd = 2
 · subst h2
   have Hr : Hid (doP x.s ⟨2, a, b, n, p, keep⟩ = (((renameP x.s a b).1, []), (renameP x.s a b).2)) := by show _ = _; unfold doP; rfl
   have Hcode := Lib.hid (code_rename HcodeS.out a b)
   clear h0 e0 h1 e1
   go_enter Tryz.func13, Tryz.ntmps13
   go_wp2_with (first | (refine wpList_boxT rfl 39 _ rfl C rfl ?_; rw [Hg.out, Hw1.out]) | fail)
   have cXr2 := fun X (hX : (But (mutP q x)) _ X) => And.intro (But.cell hX Hgo.out d0) (And.intro (But.cell hX Hgo.out d1) (And.intro (But.cell hX Hgo.out d2) (And.intro (But.cell hX Hgo.out d3) (And.intro (But.cell hX Hgo.out d4) (But.cell hX Hgo.out d5)))))
   refine region_L (E := (But (mutP q x))) (But.ok _) But.ofGrows
    #[[], [], [1], [], [3], [0, 1, 2, 3, 4], [], [6], [0, 1, 2, 3, 4, 5, 6, 7], [0, 1, 2, 3, 4, 5, 6, 7, 8], [0, 1, 2, 3, 4, 5, 6, 7, 8, 9]] #[[0], [3], [], [3], [], [], [3], [], [], [], []] #[true, true, true, true, true, true, true, true, true, true, true]
    ((.val ?vr20) :: (.val ?vr21) :: (.val ?vr22) :: (.val ?vr23) :: (.val ?vr24) :: (.frag (fun v W => DidP q x w1 opRename a (renameP x.s a b) v W) (fun v a b g h => DidP.grows h g)) :: (.val ?vr26) :: (.val ?vr27) :: (.val (.int .i64 ((renameP x.s a b)).1)) :: (.val ?vr29) :: (.val ?vr210) :: []).toArray
    (dzT q x 5 #[[], [], [], [], [], [0], [], [], [], [], []])
    (dzT_ks _ _ _ _)
    (fun s hs => match s, hs with | 0, _ => HP.out.grows (Grows.drew' _) | _ + 1, _ => trivial)
    hmx ?chkr2 rfl rfl ?grdr2 ?stpr2 ?rstr2
   case chkr2 => rfl
   case stpr2 =>
    refine ⟨?_, ?_, ?_, ?_, ?_, ?_, ?_, ?_, ?_, ?_, ?_, trivial⟩
    · refine stepOK 0 ?vr20 rfl (fun _ _ => rfl) rfl rfl (fun _ => rfl) (by decide) ?_; show (.pointer (some ⟨q, 0, none⟩) : Value) = _; rfl
    · refine stepRK (o := ⟨_, .fieldAddr 39 (.tmp 3) 1, _, _, _, _⟩) ?vr21 rfl rfl rfl (fun _ => rfl) fun ρ X hc hf hgl hX hp ho => ?_; have k3 : ρ (.tmp 3) = .pointer (some ⟨g, 0, none⟩) := ho 3 (by decide); clear hp ho hX; go_simp; (all_goals rfl)
    · refine stepRK (o := ⟨_, .load 9 (.tmp 31), _, _, _, _⟩) ?vr22 rfl rfl rfl (fun _ => rfl) fun ρ X hc hf hgl hX hp ho => ?_; have k31 : ρ (.tmp 31) = ?vr21 := hp 1 (by decide); have cX := cXr2 X hX; clear hp ho hX; go_simp; (all_goals rfl)
    · refine stepRK (o := ⟨_, .fieldAddr 39 (.tmp 3) 2, _, _, _, _⟩) ?vr23 rfl rfl rfl (fun _ => rfl) fun ρ X hc hf hgl hX hp ho => ?_; have k3 : ρ (.tmp 3) = .pointer (some ⟨g, 0, none⟩) := ho 3 (by decide); clear hp ho hX; go_simp; (all_goals rfl)
    · refine stepRK (o := ⟨_, .load 9 (.tmp 33), _, _, _, _⟩) ?vr24 rfl rfl rfl (fun _ => rfl) fun ρ X hc hf hgl hX hp ho => ?_; have k33 : ρ (.tmp 33) = ?vr23 := hp 3 (by decide); have cX := cXr2 X hX; clear hp ho hX; go_simp; (all_goals rfl)
    · refine step_introK rfl rfl fun ρ X hc hf hgl hX hp ho hu => ?_
      change StepOk _ ⟨_, .call { callee := .value (.func 38), args := #[.tmp 30, .tmp 32, .tmp 34], argTypes := #[25, 9, 9] }, _, _, _, _⟩ _ _ _
      have k30 : ρ (.tmp 30) = ?vr20 := hp 0 (by decide)
      have k32 : ρ (.tmp 32) = ?vr22 := hp 2 (by decide)
      have k34 : ρ (.tmp 34) = ?vr24 := hp 4 (by decide)
      have hu0 := hu
      have hst : PD X q x := hu 0 (by simp [dzT])
      clear hp ho
      have HC := PRename hst a b Hok.out.1 Hok.out.2.2.1 Hok.out.2.2.2 Hsm3.out.1
      unfold sv at HC
      rw [Hsa.out] at HC
      rw [Hsb.out] at HC
      refine stepK_made rfl ?_
      refine StepOk.of_call (f := 38) (args := #[.pointer (some ⟨q, 0, none⟩), .string sa, .string sb]) (w' := X) ?_ HC ?_
      · go_simp
        all_goals rfl
      · rintro e w' ⟨v, rfl, hF, x', hP', hs', hT'⟩
        refine ⟨v, rfl, ⟨hF, x', hP', hs', TurnP.pre hX hT'⟩, hT'.but, fun s hs => ?_⟩
        match s, hs with
        | 0, h => simp [dzT] at h
        | _ + 1, h => trivial
    · refine stepRK (o := ⟨_, .fieldAddr 39 (.tmp 3) 1, _, _, _, _⟩) ?vr26 rfl rfl rfl (fun _ => rfl) fun ρ X hc hf hgl hX hp ho => ?_; have k3 : ρ (.tmp 3) = .pointer (some ⟨g, 0, none⟩) := ho 3 (by decide); clear hp ho hX; go_simp; (all_goals rfl)
    · refine stepRK (o := ⟨_, .load 9 (.tmp 36), _, _, _, _⟩) ?vr27 rfl rfl rfl (fun _ => rfl) fun ρ X hc hf hgl hX hp ho => ?_; have k36 : ρ (.tmp 36) = ?vr26 := hp 6 (by decide); have cX := cXr2 X hX; clear hp ho hX; go_simp; (all_goals rfl)
    · refine step_introK rfl rfl fun ρ X hc hf hgl hX hp ho hu => ?_
      change StepOk _ ⟨_, .call { callee := .value (.func 12), args := #[.tmp 35, .const (.string { data := #[114, 101, 110, 97, 109, 101] }), .tmp 37], argTypes := #[27, 9, 9] }, _, _, _, _⟩ _ _ _
      have k35 := hp 5 (by decide)
      have k37 : ρ (.tmp 37) = ?vr27 := hp 7 (by decide)
      refine stepK_plain (i := 8) rfl ?_
      clear hu
      clear hp ho
      have HC := pTold (ρ (.tmp 35)) opRename a ((renameP x.s a b).1) X (Hek.out.but hX Hn0.out) k35.1 Hcode.out
      unfold sv at HC
      rw [Hsa.out] at HC
      unfold opRename at HC
      refine StepOk.of_call (f := 12) (args := #[ρ (.tmp 35), .string { data := #[114, 101, 110, 97, 109, 101] }, .string sa]) (w' := X) ?_ HC ?_
      · go_simp
        all_goals rfl
      · rintro e w' ⟨rfl, hG⟩
        exact ⟨_, rfl, rfl, hG⟩
    · refine stepPK 38 8 ((.int .i64 ((renameP x.s a b)).1)) ?vr29 rfl (fun _ _ => rfl) rfl rfl (fun _ => rfl) (by decide) rfl (fun _ _ h => h) ?_; rfl
    · refine stepRK (o := ⟨_, .assign (.const (.string { data := #[] })), _, _, _, _⟩) ?vr210 rfl rfl rfl (fun _ => rfl) fun ρ X hc hf hgl hX hp ho => ?_; clear hp ho hX; go_simp; (all_goals rfl)
   case grdr2 => rfl
   case rstr2 =>
    intro a0 X hb
    obtain ⟨x35, hx35⟩ : ∃ x, a0.tmps.getD 35 undef = x := ⟨_, rfl⟩
    have p35 := hb.done' 5 35 rfl rfl
    rw [hx35] at p35
    have hfr := hb.frame ((4, ?vr29) :: (5, ?vr210) :: (30, ?vr20) :: (31, ?vr21) :: (32, ?vr22) :: (33, ?vr23) :: (34, ?vr24) :: (35, x35) :: (36, ?vr26) :: (37, ?vr27) :: (38, (.int .i64 ((renameP x.s a b)).1)) :: []) rfl ⟨hb.done' 9 4 rfl rfl, hb.done' 10 5 rfl rfl, hb.done' 0 30 rfl rfl, hb.done' 1 31 rfl rfl, hb.done' 2 32 rfl rfl, hb.done' 3 33 rfl rfl, hb.done' 4 34 rfl rfl, hx35, hb.done' 6 36 rfl rfl, hb.done' 7 37 rfl rfl, hb.done' 8 38 rfl rfl, trivial⟩
    simp only [updL, ↓reduceIte, Nat.reduceEqDiff, Nat.reduceAdd, Nat.zero_add] at hfr
    have HX := Lib.hid hb.ext
    clear hb cXr2
    subst hfr
    obtain ⟨x', hP', hs', hT'⟩ := (show DidP q x w1 opRename a (renameP x.s a b) x35 X from p35).2
    have HR := Lib.hid (DoneP.ofT Hw1.out Hg.out hP' hs' hT' Hmg.out)
    clear p35 hP' hs' hT'
    clear d0 d1 d2 d3 d4 d5 HX
    go_wp2
    go_ret2
    exact ⟨by rw [Hr.out]; rfl, by rw [Hr.out]; exact HR.out⟩
 have e2 : (kd == 2) = false := by simpa using h2
 by_cases h3 : kd = 3
 · subst h3
   have Hr : Hid (doP x.s ⟨3, a, b, n, p, keep⟩ = (((growP x.s a n).1, []), (growP x.s a n).2)) := by show _ = _; unfold doP; rfl
   have Hcode := Lib.hid (code_grow HcodeS.out a n)
   clear h0 e0 h1 e1 h2 e2
   go_enter Tryz.func13, Tryz.ntmps13
   go_wp2_with (first | (refine wpList_boxT rfl 39 _ rfl C rfl ?_; rw [Hg.out, Hw1.out]) | fail)
   have cXr3 := fun X (hX : (But (mutP q x)) _ X) => And.intro (But.cell hX Hgo.out d0) (And.intro (But.cell hX Hgo.out d1) (And.intro (But.cell hX Hgo.out d2) (And.intro (But.cell hX Hgo.out d3) (And.intro (But.cell hX Hgo.out d4) (But.cell hX Hgo.out d5)))))
   refine region_L (E := (But (mutP q x))) (But.ok _) But.ofGrows
    #[[], [], [1], [], [3], [0, 1, 2, 3, 4], [], [6], [0, 1, 2, 3, 4, 5, 6, 7], [0, 1, 2, 3, 4, 5, 6, 7, 8], [0, 1, 2, 3, 4, 5, 6, 7, 8, 9]] #[[0], [3], [], [3], [], [], [3], [], [], [], []] #[true, true, true, true, true, true, true, true, true, true, true]
    ((.val ?vr30) :: (.val ?vr31) :: (.val ?vr32) :: (.val ?vr33) :: (.val ?vr34) :: (.frag (fun v W => DidP q x w1 opGrow a (growP x.s a n) v W) (fun v a b g h => DidP.grows h g)) :: (.val ?vr36) :: (.val ?vr37) :: (.val (.int .i64 ((growP x.s a n)).1)) :: (.val ?vr39) :: (.val ?vr310) :: []).toArray
    (dzT q x 5 #[[], [], [], [], [], [0], [], [], [], [], []])
    (dzT_ks _ _ _ _)
    (fun s hs => match s, hs with | 0, _ => HP.out.grows (Grows.drew' _) | _ + 1, _ => trivial)
    hmx ?chkr3 rfl rfl ?grdr3 ?stpr3 ?rstr3
   case chkr3 => rfl
   case stpr3 =>
    refine ⟨?_, ?_, ?_, ?_, ?_, ?_, ?_, ?_, ?_, ?_, ?_, trivial⟩
    · refine stepOK 0 ?vr30 rfl (fun _ _ => rfl) rfl rfl (fun _ => rfl) (by decide) ?_; show (.pointer (some ⟨q, 0, none⟩) : Value) = _; rfl
    · refine stepRK (o := ⟨_, .fieldAddr 39 (.tmp 3) 1, _, _, _, _⟩) ?vr31 rfl rfl rfl (fun _ => rfl) fun ρ X hc hf hgl hX hp ho => ?_; have k3 : ρ (.tmp 3) = .pointer (some ⟨g, 0, none⟩) := ho 3 (by decide); clear hp ho hX; go_simp; (all_goals rfl)
    · refine stepRK (o := ⟨_, .load 9 (.tmp 42), _, _, _, _⟩) ?vr32 rfl rfl rfl (fun _ => rfl) fun ρ X hc hf hgl hX hp ho => ?_; have k42 : ρ (.tmp 42) = ?vr31 := hp 1 (by decide); have cX := cXr3 X hX; clear hp ho hX; go_simp; (all_goals rfl)
    · refine stepRK (o := ⟨_, .fieldAddr 39 (.tmp 3) 3, _, _, _, _⟩) ?vr33 rfl rfl rfl (fun _ => rfl) fun ρ X hc hf hgl hX hp ho => ?_; have k3 : ρ (.tmp 3) = .pointer (some ⟨g, 0, none⟩) := ho 3 (by decide); clear hp ho hX; go_simp; (all_goals rfl)
    · refine stepRK (o := ⟨_, .load 3 (.tmp 44), _, _, _, _⟩) ?vr34 rfl rfl rfl (fun _ => rfl) fun ρ X hc hf hgl hX hp ho => ?_; have k44 : ρ (.tmp 44) = ?vr33 := hp 3 (by decide); have cX := cXr3 X hX; clear hp ho hX; go_simp; (all_goals rfl)
    · refine step_introK rfl rfl fun ρ X hc hf hgl hX hp ho hu => ?_
      change StepOk _ ⟨_, .call { callee := .value (.func 29), args := #[.tmp 41, .tmp 43, .tmp 45], argTypes := #[25, 9, 3] }, _, _, _, _⟩ _ _ _
      have k41 : ρ (.tmp 41) = ?vr30 := hp 0 (by decide)
      have k43 : ρ (.tmp 43) = ?vr32 := hp 2 (by decide)
      have k45 : ρ (.tmp 45) = ?vr34 := hp 4 (by decide)
      have hu0 := hu
      have hst : PD X q x := hu 0 (by simp [dzT])
      clear hp ho
      have HC := PGrow hst a Hok.out.1 n Hn.out
      unfold sv at HC
      rw [Hsa.out] at HC
      refine stepK_made rfl ?_
      refine StepOk.of_call (f := 29) (args := #[.pointer (some ⟨q, 0, none⟩), .string sa, .int .i64 n]) (w' := X) ?_ HC ?_
      · go_simp
        all_goals rfl
      · rintro e w' ⟨v, rfl, hF, x', hP', hs', hT'⟩
        refine ⟨v, rfl, ⟨hF, x', hP', hs', TurnP.pre hX hT'⟩, hT'.but, fun s hs => ?_⟩
        match s, hs with
        | 0, h => simp [dzT] at h
        | _ + 1, h => trivial
    · refine stepRK (o := ⟨_, .fieldAddr 39 (.tmp 3) 1, _, _, _, _⟩) ?vr36 rfl rfl rfl (fun _ => rfl) fun ρ X hc hf hgl hX hp ho => ?_; have k3 : ρ (.tmp 3) = .pointer (some ⟨g, 0, none⟩) := ho 3 (by decide); clear hp ho hX; go_simp; (all_goals rfl)
    · refine stepRK (o := ⟨_, .load 9 (.tmp 47), _, _, _, _⟩) ?vr37 rfl rfl rfl (fun _ => rfl) fun ρ X hc hf hgl hX hp ho => ?_; have k47 : ρ (.tmp 47) = ?vr36 := hp 6 (by decide); have cX := cXr3 X hX; clear hp ho hX; go_simp; (all_goals rfl)
    · refine step_introK rfl rfl fun ρ X hc hf hgl hX hp ho hu => ?_
      change StepOk _ ⟨_, .call { callee := .value (.func 12), args := #[.tmp 46, .const (.string { data := #[103, 114, 111, 119] }), .tmp 48], argTypes := #[27, 9, 9] }, _, _, _, _⟩ _ _ _
      have k46 := hp 5 (by decide)
      have k48 : ρ (.tmp 48) = ?vr37 := hp 7 (by decide)
      refine stepK_plain (i := 8) rfl ?_
      clear hu
      clear hp ho
      have HC := pTold (ρ (.tmp 46)) opGrow a ((growP x.s a n).1) X (Hek.out.but hX Hn0.out) k46.1 Hcode.out
      unfold sv at HC
      rw [Hsa.out] at HC
      unfold opGrow at HC
      refine StepOk.of_call (f := 12) (args := #[ρ (.tmp 46), .string { data := #[103, 114, 111, 119] }, .string sa]) (w' := X) ?_ HC ?_
      · go_simp
        all_goals rfl
      · rintro e w' ⟨rfl, hG⟩
        exact ⟨_, rfl, rfl, hG⟩
    · refine stepPK 49 8 ((.int .i64 ((growP x.s a n)).1)) ?vr39 rfl (fun _ _ => rfl) rfl rfl (fun _ => rfl) (by decide) rfl (fun _ _ h => h) ?_; rfl
    · refine stepRK (o := ⟨_, .assign (.const (.string { data := #[] })), _, _, _, _⟩) ?vr310 rfl rfl rfl (fun _ => rfl) fun ρ X hc hf hgl hX hp ho => ?_; clear hp ho hX; go_simp; (all_goals rfl)
   case grdr3 => rfl
   case rstr3 =>
    intro a0 X hb
    obtain ⟨x46, hx46⟩ : ∃ x, a0.tmps.getD 46 undef = x := ⟨_, rfl⟩
    have p46 := hb.done' 5 46 rfl rfl
    rw [hx46] at p46
    have hfr := hb.frame ((4, ?vr39) :: (5, ?vr310) :: (41, ?vr30) :: (42, ?vr31) :: (43, ?vr32) :: (44, ?vr33) :: (45, ?vr34) :: (46, x46) :: (47, ?vr36) :: (48, ?vr37) :: (49, (.int .i64 ((growP x.s a n)).1)) :: []) rfl ⟨hb.done' 9 4 rfl rfl, hb.done' 10 5 rfl rfl, hb.done' 0 41 rfl rfl, hb.done' 1 42 rfl rfl, hb.done' 2 43 rfl rfl, hb.done' 3 44 rfl rfl, hb.done' 4 45 rfl rfl, hx46, hb.done' 6 47 rfl rfl, hb.done' 7 48 rfl rfl, hb.done' 8 49 rfl rfl, trivial⟩
    simp only [updL, ↓reduceIte, Nat.reduceEqDiff, Nat.reduceAdd, Nat.zero_add] at hfr
    have HX := Lib.hid hb.ext
    clear hb cXr3
    subst hfr
    obtain ⟨x', hP', hs', hT'⟩ := (show DidP q x w1 opGrow a (growP x.s a n) x46 X from p46).2
    have HR := Lib.hid (DoneP.ofT Hw1.out Hg.out hP' hs' hT' Hmg.out)
    clear p46 hP' hs' hT'
    clear d0 d1 d2 d3 d4 d5 HX
    go_wp2
    go_ret2
    exact ⟨by rw [Hr.out]; rfl, by rw [Hr.out]; exact HR.out⟩
 have e3 : (kd == 3) = false := by simpa using h3
 by_cases h4 : kd = 4
 · subst h4
   have Hr : Hid (doP x.s ⟨4, a, b, n, p, keep⟩ = (((writeP x.s a n p).1, []), (writeP x.s a n p).2)) := by show _ = _; unfold doP; rfl
   have Hcode := Lib.hid (code_write HcodeS.out a n p)
   clear h0 e0 h1 e1 h2 e2 h3 e3
   go_enter Tryz.func13, Tryz.ntmps13
   go_wp2_with (first | (refine wpList_boxT rfl 39 _ rfl C rfl ?_; rw [Hg.out, Hw1.out]) | fail)
   have cXr4 := fun X (hX : (But (mutP q x)) _ X) => And.intro (But.cell hX Hgo.out d0) (And.intro (But.cell hX Hgo.out d1) (And.intro (But.cell hX Hgo.out d2) (And.intro (But.cell hX Hgo.out d3) (And.intro (But.cell hX Hgo.out d4) (But.cell hX Hgo.out d5)))))
   refine region_L (E := (But (mutP q x))) (But.ok _) But.ofGrows
    #[[], [], [1], [], [3], [], [], [6], [5, 6, 7], [0, 1, 2, 3, 4, 5, 6, 7, 8], [], [10], [0, 1, 2, 3, 4, 5, 6, 7, 8, 9, 10, 11], [0, 1, 2, 3, 4, 5, 6, 7, 8, 9, 10, 11, 12], [0, 1, 2, 3, 4, 5, 6, 7, 8, 9, 10, 11, 12, 13]] #[[0], [3], [], [3], [], [], [3], [], [], [], [3], [], [], [], []] #[true, true, true, true, true, true, true, true, true, true, true, true, true, true, true]
    ((.val ?vr40) :: (.val ?vr41) :: (.val ?vr42) :: (.val ?vr43) :: (.val ?vr44) :: (.pred (fun v W => W.ownsRow w1.heap.size 5 1 v 0 [] ∧ ∃ g, v = .slice (some ⟨g, 0, none⟩) 0 0) (fun v a b h ho => ⟨own_but ho.1 h (fun j hj hO => by have h1 := own_bas ho.1 j hj; have h2 := Hlt.out j hO; omega), ho.2⟩)) :: (.val ?vr46) :: (.val ?vr47) :: (.pred (fun v W => Own 5 w1.heap.size W v p) (fun v a b h ho => own_but ho h (fun j hj hO => by have h1 := own_bas ho j hj; have h2 := Hlt.out j hO; omega))) :: (.frag (fun v W => DidP q x w1 opWrite a (writeP x.s a n p) v W) (fun v a b g h => DidP.grows h g)) :: (.val ?vr410) :: (.val ?vr411) :: (.val (.int .i64 ((writeP x.s a n p)).1)) :: (.val ?vr413) :: (.val ?vr414) :: []).toArray
    (dzT q x 9 #[[], [], [], [], [], [], [], [], [], [0], [], [], [], [], []])
    (dzT_ks _ _ _ _)
    (fun s hs => match s, hs with | 0, _ => HP.out.grows (Grows.drew' _) | _ + 1, _ => trivial)
    hmx ?chkr4 rfl rfl ?grdr4 ?stpr4 ?rstr4
   case chkr4 => rfl
   case stpr4 =>
    refine ⟨?_, ?_, ?_, ?_, ?_, ?_, ?_, ?_, ?_, ?_, ?_, ?_, ?_, ?_, ?_, trivial⟩
    · refine stepOK 0 ?vr40 rfl (fun _ _ => rfl) rfl rfl (fun _ => rfl) (by decide) ?_; show (.pointer (some ⟨q, 0, none⟩) : Value) = _; rfl
    · refine stepRK (o := ⟨_, .fieldAddr 39 (.tmp 3) 1, _, _, _, _⟩) ?vr41 rfl rfl rfl (fun _ => rfl) fun ρ X hc hf hgl hX hp ho => ?_; have k3 : ρ (.tmp 3) = .pointer (some ⟨g, 0, none⟩) := ho 3 (by decide); clear hp ho hX; go_simp; (all_goals rfl)
    · refine stepRK (o := ⟨_, .load 9 (.tmp 53), _, _, _, _⟩) ?vr42 rfl rfl rfl (fun _ => rfl) fun ρ X hc hf hgl hX hp ho => ?_; have k53 : ρ (.tmp 53) = ?vr41 := hp 1 (by decide); have cX := cXr4 X hX; clear hp ho hX; go_simp; (all_goals rfl)
    · refine stepRK (o := ⟨_, .fieldAddr 39 (.tmp 3) 3, _, _, _, _⟩) ?vr43 rfl rfl rfl (fun _ => rfl) fun ρ X hc hf hgl hX hp ho => ?_; have k3 : ρ (.tmp 3) = .pointer (some ⟨g, 0, none⟩) := ho 3 (by decide); clear hp ho hX; go_simp; (all_goals rfl)
    · refine stepRK (o := ⟨_, .load 3 (.tmp 55), _, _, _, _⟩) ?vr44 rfl rfl rfl (fun _ => rfl) fun ρ X hc hf hgl hX hp ho => ?_; have k55 : ρ (.tmp 55) = ?vr43 := hp 3 (by decide); have cX := cXr4 X hX; clear hp ho hX; go_simp; (all_goals rfl)
    · refine step_introK rfl rfl fun ρ X hc hf hgl hX hp ho hu => ?_
      change StepOk _ ⟨_, .buildSlice 36 0 #[], _, _, _, _⟩ _ _ _
      refine stepK_plain (i := 5) rfl ?_
      clear hu
      clear hp ho
      refine StepOk.of_run (v := .slice (some ⟨X.heap.size, 0, none⟩) 0 0) (w' := X.alloc (.cells #[] 5)) ?_ ⟨⟨⟨by simp, .inr ⟨X.heap.size, 0, #[], rfl, hX.size, heap_alloc_new X _, Nat.le_refl _, by simp [maxLen], by simp, by simp⟩⟩, _, rfl⟩, Grows.alloc' _ _⟩
      simp [go_sem, execOp, hc]
    · refine stepRK (o := ⟨_, .fieldAddr 39 (.tmp 3) 4, _, _, _, _⟩) ?vr46 rfl rfl rfl (fun _ => rfl) fun ρ X hc hf hgl hX hp ho => ?_; have k3 : ρ (.tmp 3) = .pointer (some ⟨g, 0, none⟩) := ho 3 (by decide); clear hp ho hX; go_simp; (all_goals rfl)
    · refine stepRK (o := ⟨_, .load 36 (.tmp 58), _, _, _, _⟩) ?vr47 rfl rfl rfl (fun _ => rfl) fun ρ X hc hf hgl hX hp ho => ?_; have k58 : ρ (.tmp 58) = ?vr46 := hp 6 (by decide); have cX := cXr4 X hX; clear hp ho hX; go_simp; (all_goals rfl)
    · refine step_introK rfl rfl fun ρ X hc hf hgl hX hp ho hu => ?_
      change StepOk _ ⟨_, .call { callee := .builtin .append, args := #[.tmp 57, .tmp 59], argTypes := #[36, 36] }, _, _, _, _⟩ _ _ _
      have k57 := hp 5 (by decide)
      have k59 : ρ (.tmp 59) = ?vr47 := hp 7 (by decide)
      refine stepK_plain (i := 8) rfl ?_
      clear hu
      clear hp ho
      obtain ⟨ho1, g1, e1⟩ := k57
      rw [e1] at ho1
      obtain ⟨v', W', hr, ho', hg'⟩ := run_copyB w1.heap.size X hX.size g1 ho1 _ p (HxA.out.but hX HoA.out) Hpl.out
      refine StepOk.of_run (v := v') (w' := W') ?_ ⟨ho', hg'⟩
      simp only [execOp, resolve, invoke, builtin, Sem.run_bind, Sem.run_pure, Result.andThen_ok, List.map_toArray, List.map_cons, List.map_nil, e1, k59, hr]
    · refine step_introK rfl rfl fun ρ X hc hf hgl hX hp ho hu => ?_
      change StepOk _ ⟨_, .call { callee := .value (.func 30), args := #[.tmp 52, .tmp 54, .tmp 56, .tmp 60], argTypes := #[25, 9, 3, 36] }, _, _, _, _⟩ _ _ _
      have k52 : ρ (.tmp 52) = ?vr40 := hp 0 (by decide)
      have k54 : ρ (.tmp 54) = ?vr42 := hp 2 (by decide)
      have k56 : ρ (.tmp 56) = ?vr44 := hp 4 (by decide)
      have k60 := hp 8 (by decide)
      have hu0 := hu
      have hst : PD X q x := hu 0 (by simp [dzT])
      have ho60 : X.ownsRow w1.heap.size 5 1 (ρ (.tmp 60)) p.length (p.map bv) := k60
      obtain ⟨a60, c60, e60⟩ := own_form ho60
      rw [e60] at ho60
      clear hp ho
      have HC := PWrite hst a Hok.out.1 n Hn.out (.slice a60 p.length c60) p (Own.byt ho60) (fun b o sp k c e hk hO => by have h1 := own_bas ho60 b (by simp only [Value.slice.injEq] at e; rw [e.1]; rfl); have h2 := Hlt.out b hO; omega) (by have := Hpl.out; omega) Hsm3.out.2.2.2
      unfold sv at HC
      rw [Hsa.out] at HC
      refine stepK_made rfl ?_
      refine StepOk.of_call (f := 30) (args := #[.pointer (some ⟨q, 0, none⟩), .string sa, .int .i64 n, .slice a60 p.length c60]) (w' := X) ?_ HC ?_
      · go_simp
        all_goals rfl
      · rintro e w' ⟨v, rfl, hF, x', hP', hs', hT'⟩
        refine ⟨v, rfl, ⟨hF, x', hP', hs', TurnP.pre hX hT'⟩, hT'.but, fun s hs => ?_⟩
        match s, hs with
        | 0, h => simp [dzT] at h
        | _ + 1, h => trivial
    · refine stepRK (o := ⟨_, .fieldAddr 39 (.tmp 3) 1, _, _, _, _⟩) ?vr410 rfl rfl rfl (fun _ => rfl) fun ρ X hc hf hgl hX hp ho => ?_; have k3 : ρ (.tmp 3) = .pointer (some ⟨g, 0, none⟩) := ho 3 (by decide); clear hp ho hX; go_simp; (all_goals rfl)
    · refine stepRK (o := ⟨_, .load 9 (.tmp 62), _, _, _, _⟩) ?vr411 rfl rfl rfl (fun _ => rfl) fun ρ X hc hf hgl hX hp ho => ?_; have k62 : ρ (.tmp 62) = ?vr410 := hp 10 (by decide); have cX := cXr4 X hX; clear hp ho hX; go_simp; (all_goals rfl)
    · refine step_introK rfl rfl fun ρ X hc hf hgl hX hp ho hu => ?_
      change StepOk _ ⟨_, .call { callee := .value (.func 12), args := #[.tmp 61, .const (.string { data := #[119, 114, 105, 116, 101] }), .tmp 63], argTypes := #[27, 9, 9] }, _, _, _, _⟩ _ _ _
      have k61 := hp 9 (by decide)
      have k63 : ρ (.tmp 63) = ?vr411 := hp 11 (by decide)
      refine stepK_plain (i := 12) rfl ?_
      clear hu
      clear hp ho
      have HC := pTold (ρ (.tmp 61)) opWrite a ((writeP x.s a n p).1) X (Hek.out.but hX Hn0.out) k61.1 Hcode.out
      unfold sv at HC
      rw [Hsa.out] at HC
      unfold opWrite at HC
      refine StepOk.of_call (f := 12) (args := #[ρ (.tmp 61), .string { data := #[119, 114, 105, 116, 101] }, .string sa]) (w' := X) ?_ HC ?_
      · go_simp
        all_goals rfl
      · rintro e w' ⟨rfl, hG⟩
        exact ⟨_, rfl, rfl, hG⟩
    · refine stepPK 64 12 ((.int .i64 ((writeP x.s a n p)).1)) ?vr413 rfl (fun _ _ => rfl) rfl rfl (fun _ => rfl) (by decide) rfl (fun _ _ h => h) ?_; rfl
    · refine stepRK (o := ⟨_, .assign (.const (.string { data := #[] })), _, _, _, _⟩) ?vr414 rfl rfl rfl (fun _ => rfl) fun ρ X hc hf hgl hX hp ho => ?_; clear hp ho hX; go_simp; (all_goals rfl)
   case grdr4 => rfl
   case rstr4 =>
    intro a0 X hb
    obtain ⟨x57, hx57⟩ : ∃ x, a0.tmps.getD 57 undef = x := ⟨_, rfl⟩
    have p57 := hb.done' 5 57 rfl rfl
    rw [hx57] at p57
    obtain ⟨x60, hx60⟩ : ∃ x, a0.tmps.getD 60 undef = x := ⟨_, rfl⟩
    have p60 := hb.done' 8 60 rfl rfl
    rw [hx60] at p60
    obtain ⟨x61, hx61⟩ : ∃ x, a0.tmps.getD 61 undef = x := ⟨_, rfl⟩
    have p61 := hb.done' 9 61 rfl rfl
    rw [hx61] at p61
    have hfr := hb.frame ((4, ?vr413) :: (5, ?vr414) :: (52, ?vr40) :: (53, ?vr41) :: (54, ?vr42) :: (55, ?vr43) :: (56, ?vr44) :: (57, x57) :: (58, ?vr46) :: (59, ?vr47) :: (60, x60) :: (61, x61) :: (62, ?vr410) :: (63, ?vr411) :: (64, (.int .i64 ((writeP x.s a n p)).1)) :: []) rfl ⟨hb.done' 13 4 rfl rfl, hb.done' 14 5 rfl rfl, hb.done' 0 52 rfl rfl, hb.done' 1 53 rfl rfl, hb.done' 2 54 rfl rfl, hb.done' 3 55 rfl rfl, hb.done' 4 56 rfl rfl, hx57, hb.done' 6 58 rfl rfl, hb.done' 7 59 rfl rfl, hx60, hx61, hb.done' 10 62 rfl rfl, hb.done' 11 63 rfl rfl, hb.done' 12 64 rfl rfl, trivial⟩
    simp only [updL, ↓reduceIte, Nat.reduceEqDiff, Nat.reduceAdd, Nat.zero_add] at hfr
    have HX := Lib.hid hb.ext
    clear hb cXr4
    subst hfr
    obtain ⟨x', hP', hs', hT'⟩ := (show DidP q x w1 opWrite a (writeP x.s a n p) x61 X from p61).2
    have HR := Lib.hid (DoneP.ofT Hw1.out Hg.out hP' hs' hT' Hmg.out)
    clear p61 hP' hs' hT'
    clear d0 d1 d2 d3 d4 d5 HX
    go_wp2
    go_ret2
    exact ⟨by rw [Hr.out]; rfl, by rw [Hr.out]; exact HR.out⟩
 have e4 : (kd == 4) = false := by simpa using h4
 by_cases h5 : kd = 5
 · subst h5
   have Hr : Hid (doP x.s ⟨5, a, b, n, p, keep⟩ = (((readP x.s a n).1.2, (readP x.s a n).1.1), (readP x.s a n).2)) := by show _ = _; unfold doP; rfl
   have Hcode := Lib.hid (code_read HcodeS.out a n)
   clear h0 e0 h1 e1 h2 e2 h3 e3 h4 e4
   go_enter Tryz.func13, Tryz.ntmps13
   go_wp2_with (first | (refine wpList_boxT rfl 39 _ rfl C rfl ?_; rw [Hg.out, Hw1.out]) | fail)
   have HR := Lib.hid (PRead HP.out a Hok.out.1 n Hn.out)
   unfold sv at HR
   rw [Hsa.out] at HR
   obtain ⟨R, HRr⟩ : ∃ R, Hid (readP x.s a n = R) := ⟨_, rfl⟩
   rw [HRr.out] at HR Hr Hcode
   refine HR.out.mono ?_
   rintro e w2 ⟨v, u, rfl, ho, hF, hP2, hs2, hT2⟩
   obtain ⟨av, cv, rfl⟩ := own_form ho
   have HO := Lib.hid ho
   have HF := Lib.hid hF
   have HB2 := Lib.hid hT2.but
   have HRR := Lib.hid (DoneP.ofT Hw1.out Hg.out hP2 hs2 hT2 Hmg.out)
   obtain ⟨rl, Hrl⟩ : ∃ y, Hid (R.1.1.length = y) := ⟨_, rfl⟩
   rw [Hrl.out] at HO ⊢
   have d0Y := But.cell HB2.out Hgo.out d0
   have d1Y := But.cell HB2.out Hgo.out d1
   clear hF hP2 hs2 hT2 ho HR d0 d1 d2 d3 d4 d5
   go_wp2
   have cXr5 := fun X (hX : Grows _ X) => Grows.cell' hX d1Y
   refine specs_region
    #[[], [], [1], [0, 1, 2], [], [4], [0, 1, 2, 3], [0, 1, 2, 3, 4, 5, 6]] #[[7], [3], [], [], [6], [], [], []] #[true, true, true, true, true, true, true, true]
    ((.val ?vr50) :: (.val ?vr51) :: (.val ?vr52) :: (.val (.int .i64 R.1.2)) :: (.val ?vr54) :: (.val (.string ⟨R.1.1.toArray⟩)) :: (.val ?vr56) :: (.val ?vr57) :: []).toArray
    hmx ?chkr5 ?grdr5 ?stpr5 ?rstr5
   case chkr5 => rfl
   case stpr5 =>
    refine ⟨?_, ?_, ?_, ?_, ?_, ?_, ?_, ?_, trivial⟩
    · refine stepO 7 ?vr50 rfl (fun _ _ => rfl) rfl (fun _ => rfl) (by decide) ?_; show (u : Value) = _; rfl
    · refine stepR (o := ⟨_, .fieldAddr 39 (.tmp 3) 1, _, _, _, _⟩) ?vr51 rfl rfl (fun _ => rfl) fun ρ X hc hf hgl hX hp ho => ?_; have k3 : ρ (.tmp 3) = .pointer (some ⟨g, 0, none⟩) := ho 3 (by decide); clear hp ho hX; go_simp; (all_goals rfl)
    · refine stepR (o := ⟨_, .load 9 (.tmp 77), _, _, _, _⟩) ?vr52 rfl rfl (fun _ => rfl) fun ρ X hc hf hgl hX hp ho => ?_; have k77 : ρ (.tmp 77) = ?vr51 := hp 1 (by decide); have cX := cXr5 X hX; clear hp ho hX; go_simp; (all_goals rfl)
    · refine step_intro rfl rfl fun ρ X hc hf hgl hX hp ho => ?_
      change StepOk _ ⟨_, .call { callee := .value (.func 12), args := #[.tmp 76, .const (.string { data := #[114, 101, 97, 100] }), .tmp 78], argTypes := #[27, 9, 9] }, _, _, _, _⟩ _ _ _
      have k76 : ρ (.tmp 76) = ?vr50 := hp 0 (by decide)
      have k78 : ρ (.tmp 78) = ?vr52 := hp 2 (by decide)
      clear hp ho
      have HC := pTold u opRead a R.1.2 X (EK.grows (Hek.out.but HB2.out Hn0.out) hX) (HF.out.grows hX) Hcode.out
      unfold sv at HC
      rw [Hsa.out] at HC
      unfold opRead at HC
      refine StepOk.of_call (f := 12) (args := #[u, .string ⟨#[114, 101, 97, 100]⟩, .string sa]) (w' := X) ?_ HC ?_
      · go_simp
        all_goals rfl
      · rintro e w' ⟨rfl, hG⟩
        exact ⟨_, rfl, rfl, hG⟩
    · refine stepO 6 ?vr54 rfl (fun _ _ => rfl) rfl (fun _ => rfl) (by decide) ?_; show (.slice av rl cv : Value) = _; rfl
    · refine step_intro rfl rfl fun ρ X hc hf hgl hX hp ho => ?_
      change StepOk _ ⟨_, .convert 36 9 (.tmp 80), _, _, _, _⟩ _ _ _
      have k80 : ρ (.tmp 80) = ?vr54 := hp 4 (by decide)
      have hbb : Byt X (.slice av rl cv) R.1.1 := Byt.grows (by have ho1 := HO.out; rw [← Hrl.out] at ho1 ⊢; exact Own.byt ho1) hX
      clear hp ho
      refine StepOk.of_run (v := .string ⟨R.1.1.toArray⟩) (w' := X) ?_ ⟨rfl, Below.refl _ _⟩
      simp only [execOp, Sem.run_bind, Sem.run_pure, Result.andThen_ok, k80]
      rw [run_string Tryz.underlying36 Tryz.underlying5 Tryz.underlying9 hbb]
      rfl
    · refine stepP 79 3 ((.int .i64 R.1.2)) ?vr56 rfl (fun _ _ => rfl) rfl (fun _ => rfl) (by decide) rfl (fun _ _ h => h) ?_; rfl
    · refine stepP 81 5 ((.string ⟨R.1.1.toArray⟩)) ?vr57 rfl (fun _ _ => rfl) rfl (fun _ => rfl) (by decide) rfl (fun _ _ h => h) ?_; rfl
   case grdr5 => rfl
   case rstr5 =>
    intro a0 X hb
    have hfr := hb.frame ((4, ?vr56) :: (5, ?vr57) :: (76, ?vr50) :: (77, ?vr51) :: (78, ?vr52) :: (79, (.int .i64 R.1.2)) :: (80, ?vr54) :: (81, (.string ⟨R.1.1.toArray⟩)) :: []) rfl ⟨hb.done' 6 4 rfl rfl, hb.done' 7 5 rfl rfl, hb.done' 0 76 rfl rfl, hb.done' 1 77 rfl rfl, hb.done' 2 78 rfl rfl, hb.done' 3 79 rfl rfl, hb.done' 4 80 rfl rfl, hb.done' 5 81 rfl rfl, trivial⟩
    simp only [updL, ↓reduceIte, Nat.reduceEqDiff, Nat.reduceAdd, Nat.zero_add] at hfr
    have HX := Lib.hid hb.ext
    clear hb cXr5
    subst hfr
    have HGX := Lib.hid (DoneP.grows HRR.out HX.out)
    clear d0Y d1Y HX
    go_wp2
    go_ret2
    exact ⟨by rw [Hr.out]; rfl, by rw [Hr.out]; exact HGX.out⟩
 have e5 : (kd == 5) = false := by simpa using h5
 by_cases h6 : kd = 6
 · subst h6
   have Hr : Hid (doP x.s ⟨6, a, b, n, p, keep⟩ = (((syncP x.s a).1, []), (syncP x.s a).2)) := by show _ = _; unfold doP; rfl
   have Hcode := Lib.hid (code_sync HcodeS.out a)
   clear h0 e0 h1 e1 h2 e2 h3 e3 h4 e4 h5 e5
   go_enter Tryz.func13, Tryz.ntmps13
   go_wp2_with (first | (refine wpList_boxT rfl 39 _ rfl C rfl ?_; rw [Hg.out, Hw1.out]) | fail)
   have cXr6 := fun X (hX : (But (mutP q x)) _ X) => And.intro (But.cell hX Hgo.out d0) (And.intro (But.cell hX Hgo.out d1) (And.intro (But.cell hX Hgo.out d2) (And.intro (But.cell hX Hgo.out d3) (And.intro (But.cell hX Hgo.out d4) (But.cell hX Hgo.out d5)))))
   refine region_L (E := (But (mutP q x))) (But.ok _) But.ofGrows
    #[[], [], [1], [0, 1, 2], [], [4], [0, 1, 2, 3, 4, 5], [0, 1, 2, 3, 4, 5, 6], [0, 1, 2, 3, 4, 5, 6, 7]] #[[0], [3], [], [], [3], [], [], [], []] #[true, true, true, true, true, true, true, true, true]
    ((.val ?vr60) :: (.val ?vr61) :: (.val ?vr62) :: (.frag (fun v W => DidP q x w1 opSync a (syncP x.s a) v W) (fun v a b g h => DidP.grows h g)) :: (.val ?vr64) :: (.val ?vr65) :: (.val (.int .i64 ((syncP x.s a)).1)) :: (.val ?vr67) :: (.val ?vr68) :: []).toArray
    (dzT q x 3 #[[], [], [], [0], [], [], [], [], []])
    (dzT_ks _ _ _ _)
    (fun s hs => match s, hs with | 0, _ => HP.out.grows (Grows.drew' _) | _ + 1, _ => trivial)
    hmx ?chkr6 rfl rfl ?grdr6 ?stpr6 ?rstr6
   case chkr6 => rfl
   case stpr6 =>
    refine ⟨?_, ?_, ?_, ?_, ?_, ?_, ?_, ?_, ?_, trivial⟩
    · refine stepOK 0 ?vr60 rfl (fun _ _ => rfl) rfl rfl (fun _ => rfl) (by decide) ?_; show (.pointer (some ⟨q, 0, none⟩) : Value) = _; rfl
    · refine stepRK (o := ⟨_, .fieldAddr 39 (.tmp 3) 1, _, _, _, _⟩) ?vr61 rfl rfl rfl (fun _ => rfl) fun ρ X hc hf hgl hX hp ho => ?_; have k3 : ρ (.tmp 3) = .pointer (some ⟨g, 0, none⟩) := ho 3 (by decide); clear hp ho hX; go_simp; (all_goals rfl)
    · refine stepRK (o := ⟨_, .load 9 (.tmp 85), _, _, _, _⟩) ?vr62 rfl rfl rfl (fun _ => rfl) fun ρ X hc hf hgl hX hp ho => ?_; have k85 : ρ (.tmp 85) = ?vr61 := hp 1 (by decide); have cX := cXr6 X hX; clear hp ho hX; go_simp; (all_goals rfl)
    · refine step_introK rfl rfl fun ρ X hc hf hgl hX hp ho hu => ?_
      change StepOk _ ⟨_, .call { callee := .value (.func 39), args := #[.tmp 84, .tmp 86], argTypes := #[25, 9] }, _, _, _, _⟩ _ _ _
      have k84 : ρ (.tmp 84) = ?vr60 := hp 0 (by decide)
      have k86 : ρ (.tmp 86) = ?vr62 := hp 2 (by decide)
      have hu0 := hu
      have hst : PD X q x := hu 0 (by simp [dzT])
      clear hp ho
      have HC := PSync hst a Hok.out.1
      unfold sv at HC
      rw [Hsa.out] at HC
      refine stepK_made rfl ?_
      refine StepOk.of_call (f := 39) (args := #[.pointer (some ⟨q, 0, none⟩), .string sa]) (w' := X) ?_ HC ?_
      · go_simp
        all_goals rfl
      · rintro e w' ⟨v, rfl, hF, x', hP', hs', hT'⟩
        refine ⟨v, rfl, ⟨hF, x', hP', hs', TurnP.pre hX hT'⟩, hT'.but, fun s hs => ?_⟩
        match s, hs with
        | 0, h => simp [dzT] at h
        | _ + 1, h => trivial
    · refine stepRK (o := ⟨_, .fieldAddr 39 (.tmp 3) 1, _, _, _, _⟩) ?vr64 rfl rfl rfl (fun _ => rfl) fun ρ X hc hf hgl hX hp ho => ?_; have k3 : ρ (.tmp 3) = .pointer (some ⟨g, 0, none⟩) := ho 3 (by decide); clear hp ho hX; go_simp; (all_goals rfl)
    · refine stepRK (o := ⟨_, .load 9 (.tmp 88), _, _, _, _⟩) ?vr65 rfl rfl rfl (fun _ => rfl) fun ρ X hc hf hgl hX hp ho => ?_; have k88 : ρ (.tmp 88) = ?vr64 := hp 4 (by decide); have cX := cXr6 X hX; clear hp ho hX; go_simp; (all_goals rfl)
    · refine step_introK rfl rfl fun ρ X hc hf hgl hX hp ho hu => ?_
      change StepOk _ ⟨_, .call { callee := .value (.func 12), args := #[.tmp 87, .const (.string { data := #[115, 121, 110, 99] }), .tmp 89], argTypes := #[27, 9, 9] }, _, _, _, _⟩ _ _ _
      have k87 := hp 3 (by decide)
      have k89 : ρ (.tmp 89) = ?vr65 := hp 5 (by decide)
      refine stepK_plain (i := 6) rfl ?_
      clear hu
      clear hp ho
      have HC := pTold (ρ (.tmp 87)) opSync a ((syncP x.s a).1) X (Hek.out.but hX Hn0.out) k87.1 Hcode.out
      unfold sv at HC
      rw [Hsa.out] at HC
      unfold opSync at HC
      refine StepOk.of_call (f := 12) (args := #[ρ (.tmp 87), .string { data := #[115, 121, 110, 99] }, .string sa]) (w' := X) ?_ HC ?_
      · go_simp
        all_goals rfl
      · rintro e w' ⟨rfl, hG⟩
        exact ⟨_, rfl, rfl, hG⟩
    · refine stepPK 90 6 ((.int .i64 ((syncP x.s a)).1)) ?vr67 rfl (fun _ _ => rfl) rfl rfl (fun _ => rfl) (by decide) rfl (fun _ _ h => h) ?_; rfl
    · refine stepRK (o := ⟨_, .assign (.const (.string { data := #[] })), _, _, _, _⟩) ?vr68 rfl rfl rfl (fun _ => rfl) fun ρ X hc hf hgl hX hp ho => ?_; clear hp ho hX; go_simp; (all_goals rfl)
   case grdr6 => rfl
   case rstr6 =>
    intro a0 X hb
    obtain ⟨x87, hx87⟩ : ∃ x, a0.tmps.getD 87 undef = x := ⟨_, rfl⟩
    have p87 := hb.done' 3 87 rfl rfl
    rw [hx87] at p87
    have hfr := hb.frame ((4, ?vr67) :: (5, ?vr68) :: (84, ?vr60) :: (85, ?vr61) :: (86, ?vr62) :: (87, x87) :: (88, ?vr64) :: (89, ?vr65) :: (90, (.int .i64 ((syncP x.s a)).1)) :: []) rfl ⟨hb.done' 7 4 rfl rfl, hb.done' 8 5 rfl rfl, hb.done' 0 84 rfl rfl, hb.done' 1 85 rfl rfl, hb.done' 2 86 rfl rfl, hx87, hb.done' 4 88 rfl rfl, hb.done' 5 89 rfl rfl, hb.done' 6 90 rfl rfl, trivial⟩
    simp only [updL, ↓reduceIte, Nat.reduceEqDiff, Nat.reduceAdd, Nat.zero_add] at hfr
    have HX := Lib.hid hb.ext
    clear hb cXr6
    subst hfr
    obtain ⟨x', hP', hs', hT'⟩ := (show DidP q x w1 opSync a (syncP x.s a) x87 X from p87).2
    have HR := Lib.hid (DoneP.ofT Hw1.out Hg.out hP' hs' hT' Hmg.out)
    clear p87 hP' hs' hT'
    clear d0 d1 d2 d3 d4 d5 HX
    go_wp2
    go_ret2
    exact ⟨by rw [Hr.out]; rfl, by rw [Hr.out]; exact HR.out⟩
 have e6 : (kd == 6) = false := by simpa using h6
 by_cases h7 : kd = 7
 · subst h7
   have Hr : Hid (doP x.s ⟨7, a, b, n, p, keep⟩ = (((syncDirP x.s).1, []), (syncDirP x.s).2)) := by show _ = _; unfold doP; rfl
   have Hcode := Lib.hid (code_syncDir HcodeS.out)
   clear h0 e0 h1 e1 h2 e2 h3 e3 h4 e4 h5 e5 h6 e6
   go_enter Tryz.func13, Tryz.ntmps13
   go_wp2_with (first | (refine wpList_boxT rfl 39 _ rfl C rfl ?_; rw [Hg.out, Hw1.out]) | fail)
   have HR := Lib.hid (PSyncDir HP.out)
   obtain ⟨R, HRr⟩ : ∃ R, Hid (syncDirP x.s = R) := ⟨_, rfl⟩
   rw [HRr.out] at HR Hr Hcode
   refine HR.out.mono ?_
   rintro e w2 ⟨v, rfl, hF, x', hP', hs', hT'⟩
   have HRR := Lib.hid (DoneP.ofT Hw1.out Hg.out hP' hs' hT' Hmg.out)
   have HC := Lib.hid (pTold v opSyncDir [] R.1 w2 (Hek.out.but hT'.but Hn0.out) hF Hcode.out)
   unfold sv opSyncDir at HC
   clear hF hP' hs' hT' HR d0 d1 d2 d3 d4 d5
   go_wp2_with fail
   refine HC.out.mono ?_
   rintro e w3 ⟨rfl, hG⟩
   have HGX := Lib.hid (DoneP.grows HRR.out hG)
   clear hG HC
   go_wp2
   go_ret2
   exact ⟨by rw [Hr.out]; rfl, by rw [Hr.out]; exact HGX.out⟩
 have e7 : (kd == 7) = false := by simpa using h7
 by_cases h8 : kd = 8
 · subst h8
   have Hr : Hid (doP x.s ⟨8, a, b, n, p, keep⟩ = ((0, []), armP x.s n p.length)) := by show _ = _; unfold doP; rfl
   clear h0 e0 h1 e1 h2 e2 h3 e3 h4 e4 h5 e5 h6 e6 h7 e7
   go_enter Tryz.func13, Tryz.ntmps13
   go_wp2_with (first | (refine wpList_boxT rfl 39 _ rfl C rfl ?_; rw [Hg.out, Hw1.out]) | fail)
   have HR := Lib.hid (pArm HP.out n (lp : Int) Hn.out)
   refine HR.out.mono ?_
   rintro e w2 ⟨rfl, hP', hT'⟩
   have hs' := armX_s x n (lp : Int)
   have HRR := Lib.hid (DoneP.ofT Hw1.out Hg.out hP' hs' hT' Hmg.out)
   clear HR hP' hs' hT'
   go_wp2
   go_ret2
   exact ⟨by rw [Hr.out]; rfl, by rw [Hr.out, Hlp.out]; exact HRR.out⟩
 have e8 : (kd == 8) = false := by simpa using h8
 by_cases h9 : kd = 9
 · subst h9
   have Hr : Hid (doP x.s ⟨9, a, b, n, p, keep⟩ = ((0, []), crashP x.s n keep)) := by show _ = _; unfold doP; rfl
   clear h0 e0 h1 e1 h2 e2 h3 e3 h4 e4 h5 e5 h6 e6 h7 e7 h8 e8
   go_enter Tryz.func13, Tryz.ntmps13
   go_wp2_with (first | (refine wpList_boxT rfl 39 _ rfl C rfl ?_; rw [Hg.out, Hw1.out]) | fail)
   have cXr9 := fun X (hX : (But (mutP q x)) _ X) => And.intro (But.cell hX Hgo.out d0) (And.intro (But.cell hX Hgo.out d1) (And.intro (But.cell hX Hgo.out d2) (And.intro (But.cell hX Hgo.out d3) (And.intro (But.cell hX Hgo.out d4) (But.cell hX Hgo.out d5)))))
   refine region_L (E := (But (mutP q x))) (But.ok _) But.ofGrows
    #[[], [], [1], [], [], [4], [3, 4, 5], [0, 1, 2, 3, 4, 5, 6]] #[[0], [3], [], [], [3], [], [], []] #[true, true, true, true, true, true, true, true]
    ((.val ?vr90) :: (.val ?vr91) :: (.val ?vr92) :: (.pred (fun v W => W.ownsRow w1.heap.size 3 1 v 0 [] ∧ ∃ g, v = .slice (some ⟨g, 0, none⟩) 0 0) (fun v a b h ho => ⟨own_but ho.1 h (fun j hj hO => by have h1 := own_bas ho.1 j hj; have h2 := Hlt.out j hO; omega), ho.2⟩)) :: (.val ?vr94) :: (.val ?vr95) :: (.pred (fun v W => W.ownsRow w1.heap.size 3 1 v keep.length (keep.map fun z => .int .i64 z)) (fun v a b h ho => own_but ho h (fun j hj hO => by have h1 := own_bas ho j hj; have h2 := Hlt.out j hO; omega))) :: (.frag (fun v W => v = .tuple #[] ∧ DoneX q x w1 (crashP x.s n keep) W) (fun v a b g h => ⟨h.1, DoneX.grows h.2 g⟩)) :: []).toArray
    (dzT q x 7 #[[], [], [], [], [], [], [], [0]])
    (dzT_ks _ _ _ _)
    (fun s hs => match s, hs with | 0, _ => HP.out.grows (Grows.drew' _) | _ + 1, _ => trivial)
    hmx ?chkr9 rfl rfl ?grdr9 ?stpr9 ?rstr9
   case chkr9 => rfl
   case stpr9 =>
    refine ⟨?_, ?_, ?_, ?_, ?_, ?_, ?_, ?_, trivial⟩
    · refine stepOK 0 ?vr90 rfl (fun _ _ => rfl) rfl rfl (fun _ => rfl) (by decide) ?_; show (.pointer (some ⟨q, 0, none⟩) : Value) = _; rfl
    · refine stepRK (o := ⟨_, .fieldAddr 39 (.tmp 3) 3, _, _, _, _⟩) ?vr91 rfl rfl rfl (fun _ => rfl) fun ρ X hc hf hgl hX hp ho => ?_; have k3 : ρ (.tmp 3) = .pointer (some ⟨g, 0, none⟩) := ho 3 (by decide); clear hp ho hX; go_simp; (all_goals rfl)
    · refine stepRK (o := ⟨_, .load 3 (.tmp 108), _, _, _, _⟩) ?vr92 rfl rfl rfl (fun _ => rfl) fun ρ X hc hf hgl hX hp ho => ?_; have k108 : ρ (.tmp 108) = ?vr91 := hp 1 (by decide); have cX := cXr9 X hX; clear hp ho hX; go_simp; (all_goals rfl)
    · refine step_introK rfl rfl fun ρ X hc hf hgl hX hp ho hu => ?_
      change StepOk _ ⟨_, .buildSlice 37 0 #[], _, _, _, _⟩ _ _ _
      refine stepK_plain (i := 3) rfl ?_
      clear hu
      clear hp ho
      refine StepOk.of_run (v := .slice (some ⟨X.heap.size, 0, none⟩) 0 0) (w' := X.alloc (.cells #[] 3)) ?_ ⟨⟨⟨by simp, .inr ⟨X.heap.size, 0, #[], rfl, hX.size, heap_alloc_new X _, Nat.le_refl _, by simp [maxLen], by simp, by simp⟩⟩, _, rfl⟩, Grows.alloc' _ _⟩
      simp [go_sem, execOp, hc]
    · refine stepRK (o := ⟨_, .fieldAddr 39 (.tmp 3) 5, _, _, _, _⟩) ?vr94 rfl rfl rfl (fun _ => rfl) fun ρ X hc hf hgl hX hp ho => ?_; have k3 : ρ (.tmp 3) = .pointer (some ⟨g, 0, none⟩) := ho 3 (by decide); clear hp ho hX; go_simp; (all_goals rfl)
    · refine stepRK (o := ⟨_, .load 37 (.tmp 111), _, _, _, _⟩) ?vr95 rfl rfl rfl (fun _ => rfl) fun ρ X hc hf hgl hX hp ho => ?_; have k111 : ρ (.tmp 111) = ?vr94 := hp 4 (by decide); have cX := cXr9 X hX; clear hp ho hX; go_simp; (all_goals rfl)
    · refine step_introK rfl rfl fun ρ X hc hf hgl hX hp ho hu => ?_
      change StepOk _ ⟨_, .call { callee := .builtin .append, args := #[.tmp 110, .tmp 112], argTypes := #[37, 37] }, _, _, _, _⟩ _ _ _
      have k110 := hp 3 (by decide)
      have k112 : ρ (.tmp 112) = ?vr95 := hp 5 (by decide)
      refine stepK_plain (i := 6) rfl ?_
      clear hu
      clear hp ho
      obtain ⟨ho1, g1, e1⟩ := k110
      rw [e1] at ho1
      obtain ⟨v', W', hr, ho', hg'⟩ := run_copyI w1.heap.size X hX.size g1 ho1 _ keep (HxK.out.but hX HoK.out) Hkl.out
      refine StepOk.of_run (v := v') (w' := W') ?_ ⟨ho', hg'⟩
      simp only [execOp, resolve, invoke, builtin, Sem.run_bind, Sem.run_pure, Result.andThen_ok, List.map_toArray, List.map_cons, List.map_nil, e1, k112, hr]
    · refine step_introK rfl rfl fun ρ X hc hf hgl hX hp ho hu => ?_
      change StepOk _ ⟨_, .call { callee := .value (.func 22), args := #[.tmp 107, .tmp 109, .tmp 113], argTypes := #[25, 3, 37] }, _, _, _, _⟩ _ _ _
      have k107 : ρ (.tmp 107) = ?vr90 := hp 0 (by decide)
      have k109 : ρ (.tmp 109) = ?vr92 := hp 2 (by decide)
      have k113 := hp 6 (by decide)
      have hu0 := hu
      have hst : PD X q x := hu 0 (by simp [dzT])
      have ho13 : X.ownsRow w1.heap.size 3 1 (ρ (.tmp 113)) keep.length (keep.map fun z => .int .i64 z) := k113
      clear hp ho
      obtain ⟨a13, c13, e13⟩ := own_form ho13
      rw [e13] at ho13
      refine stepK_made rfl ?_
      refine StepOk.of_call (f := 22) (args := #[.pointer (some ⟨q, 0, none⟩), .int .i64 n, .slice a13 keep.length c13]) (w' := X) ?_ (pCrash hst n Hn.out (.slice a13 keep.length c13) keep (ints_of_own ho13) (fun b o sp k c e hk hO => by have h1 := own_bas ho13 b (by simp only [Value.slice.injEq] at e; rw [e.1]; rfl); have h2 := Hlt.out b hO; omega) (by have := Hkl.out; omega) Hkeeps.out) ?_
      · go_simp
        all_goals rfl
      · rintro e w' ⟨rfl, x', hP', hs', hT'⟩
        refine ⟨_, rfl, ⟨rfl, x', hP', hs', TurnP.pre hX hT'⟩, hT'.but, fun s hs => ?_⟩
        match s, hs with
        | 0, h => simp [dzT] at h
        | _ + 1, h => trivial
   case grdr9 => rfl
   case rstr9 =>
    intro a0 X hb
    obtain ⟨x110, hx110⟩ : ∃ x, a0.tmps.getD 110 undef = x := ⟨_, rfl⟩
    have p110 := hb.done' 3 110 rfl rfl
    rw [hx110] at p110
    obtain ⟨x113, hx113⟩ : ∃ x, a0.tmps.getD 113 undef = x := ⟨_, rfl⟩
    have p113 := hb.done' 6 113 rfl rfl
    rw [hx113] at p113
    obtain ⟨x114, hx114⟩ : ∃ x, a0.tmps.getD 114 undef = x := ⟨_, rfl⟩
    have p114 := hb.done' 7 114 rfl rfl
    rw [hx114] at p114
    have hfr := hb.frame ((107, ?vr90) :: (108, ?vr91) :: (109, ?vr92) :: (110, x110) :: (111, ?vr94) :: (112, ?vr95) :: (113, x113) :: (114, x114) :: []) rfl ⟨hb.done' 0 107 rfl rfl, hb.done' 1 108 rfl rfl, hb.done' 2 109 rfl rfl, hx110, hb.done' 4 111 rfl rfl, hb.done' 5 112 rfl rfl, hx113, hx114, trivial⟩
    simp only [updL, ↓reduceIte, Nat.reduceEqDiff, Nat.reduceAdd, Nat.zero_add] at hfr
    have HX := Lib.hid hb.ext
    clear hb cXr9
    subst hfr
    obtain ⟨x', hP', hs', hT'⟩ := (show _ ∧ DoneX q x w1 (crashP x.s n keep) X from p114).2
    have HR := Lib.hid (DoneP.ofT Hw1.out Hg.out hP' hs' hT' Hmg.out)
    clear d0 d1 d2 d3 d4 d5 HX
    go_wp2
    go_ret2
    exact ⟨by rw [Hr.out]; rfl, by rw [Hr.out]; exact HR.out⟩
 have e9 : (kd == 9) = false := by simpa using h9
 have Hr : Hid (doP x.s ⟨kd, a, b, n, p, keep⟩ = ((0, []), x.s)) := by show _ = _; unfold doP; simp only [if_neg h0, if_neg h1, if_neg h2, if_neg h3, if_neg h4, if_neg h5, if_neg h6, if_neg h7, if_neg h8, if_neg h9, if_false]
 go_enter Tryz.func13, Tryz.ntmps13
 go_wp2_with (first | (refine wpList_boxT rfl 39 _ rfl C rfl ?_; rw [Hg.out, Hw1.out]) | fail)
 go_ret2
 exact ⟨by rw [Hr.out]; rfl, by rw [Hr.out]; exact DoneP.ofT Hw1.out Hg.out HP.out rfl (TurnP.refl _ _ _) Hmg.out⟩
end Go.Proofs.YtoppcpiheaedlaaGreatDoor
