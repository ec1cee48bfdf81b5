/-
  DiskSafe: the walk.
-/
import Derived.Test.YtoppcpiheaedlaaDoorSb
import Derived.Laws.MakeOwn
namespace Go.Proofs.YtoppcpiheaedlaaDoor
open Go.RowKit Go.Maps Go.MapKept
set_option linter.unusedVariables false
set_option linter.unusedSimpArgs false
attribute [local go_sem] sv nv mv pv

theorem infoStrs : (Tryd.prog.info? 36).map (fun i => (i.zero, i.size, i.bytes)) = some (some (.slice none 0 0), 1, 24) := by kernel_rfl
theorem infoStrs_parts : ∃ i, Tryd.prog.info? 36 = some i ∧ i.zero = some (.slice none 0 0) ∧ i.size = 1 ∧ i.bytes = 24 := by
  obtain ⟨i, h1, h2⟩ := Option.map_eq_some_iff.1 infoStrs
  simp only [Prod.mk.injEq] at h2
  exact ⟨i, h1, h2.1, h2.2.1, h2.2.2⟩
theorem infoStr : (Tryd.prog.info? 9).map (fun i => (i.zero, i.size, i.bytes)) = some (some (.string ⟨#[]⟩), 1, 16) := by kernel_rfl
theorem infoStr_parts : ∃ i z, Tryd.prog.info? 9 = some i ∧ i.zero = some z ∧ i.size = 1 ∧ i.bytes = 16 ∧ z.cells.size = 1 := by
  obtain ⟨i, h1, h2⟩ := Option.map_eq_some_iff.1 infoStr
  simp only [Prod.mk.injEq] at h2
  exact ⟨i, _, h1, h2.1, h2.2.1, h2.2.2, rfl⟩
theorem made_strs : (madeCells (Value.cells (.slice none 0 0)) (8 * 1)).toList = List.replicate 8 (.slice none 0 0) := by
  apply List.ext_getElem
  · simp [madeCells]
  · intro i h1 h2
    rw [List.getElem_replicate]
    simp [madeCells, Value.cells, Nat.mod_one]
theorem made64 {W : World} {g B : Nat} (h : W.ownsRow B 5 1 (.slice (some ⟨g, 0, none⟩) 64 64) 64 (madeCells (Value.cells (.int .u8 0)) (64 * 1)).toList) : Byt W (.slice (some ⟨g, 0, none⟩) 64 64) zero64 := by
  rw [made_u8] at h
  exact Own.byt (e := 5) (B := B) (show Own 5 B W _ zero64 from h)
theorem okA : okS nA := ok1 97
theorem x_small {x : Px} {now safe : List Sec} {pend : List Wr} (h : x.s = sF now safe pend) : x.dirs.length = 1 ∧ x.made = 1 ∧ x.fs.length = 1 ∧ x.pend = pend := by
  rw [Px.sDirs, Px.sFiles, show x.made = x.s.made from rfl, show x.pend = x.s.pend from rfl, h]
  exact ⟨rfl, rfl, rfl, rfl⟩
theorem strs_app (l : List Sec) (p : Sec) : strs (l ++ [p]) = strs l ++ [sv p] := by simp [strs]
theorem Sf2.push {w wr X : World} {q : Nat} {x : Px} {A now : List Sec} {pend : List Wr} {g : Nat} {vs : List Value} {M : List (List Sec)} {k : Nat} (h : Sf2 w q x A now pend g vs M k wr) (hw : 0 < w.heap.size) (j : Nat) (hj : j < 8) (p : Sec) (v : Value)
    (hB : But (fun k => (vs.getD j undef).ownBlock = some k) wr X) (ho : X.ownsRow 0 9 1 v ((M.getD j []).length + 1) (strs (M.getD j []) ++ [sv p])) (hat : v.ownBlock = (vs.getD j undef).ownBlock ∨ ∀ k, v.ownBlock = some k → wr.heap.size ≤ k) :
    Mine w q x (sF now A pend) (X.setCell ⟨g, j, none⟩ v) ∧ Might w.heap.size (X.setCell ⟨g, j, none⟩ v) (mutP q x) g (vs.set j v) (M.set j (M.getD j [] ++ [p])) := by
  refine ⟨(h.mine.but hw hB fun b hb => ?_).but hw (But.setCell (But.refl' (fun k => k = g) _) _ _ rfl) fun b hb => ?_, h.might.put j hj v _ hB (by rw [List.length_append, strs_app]; exact ho) hat (fun k hk => h.mine.li.pd.ltU (mut_use hk)) h.mine.gr.size⟩
  · exact ⟨h.mine.li.pd.notUse (kind_own (h.might.own j hj) hb) (by decide) (by decide) (by decide) (by decide) (by decide), (h.might.out j hj b hb).2⟩
  · rw [hb]
    exact ⟨h.mine.li.pd.notUse (kind_cells h.might.row) (by decide) (by decide) (by decide) (by decide) (by decide), h.might.gout.2⟩
theorem Sf2.next {w wr W : World} {q : Nat} {x x' : Px} {A now : List Sec} {pend : List Wr} {g : Nat} {vs vs' : List Value} {M : List (List Sec)} {k : Nat} (h : Sf2 w q x A now pend g vs M k wr) (j : Nat) (hj : j < 8) (p : Sec)
    (hm : Mine w q x' (sF (now.set j p) A (pend ++ [⟨1, j, p⟩])) W) (hq : Might w.heap.size W (mutP q x') g vs' (M.set j (M.getD j [] ++ [p]))) : Sf2 w q x' A (now.set j p) (pend ++ [⟨1, j, p⟩]) g vs' (M.set j (M.getD j [] ++ [p])) (k + 1) W where
  mine := hm
  might := hq
  may := h.may.add j hj p
  few := by have := h.few; simp; omega
  short := fun i hi => by
    have hl := h.might.lm
    rw [set_getD _ _ _ _ _ (by omega)]
    by_cases e : j = i
    · rw [if_pos e, List.length_append, List.length_singleton]
      have := h.short j hj
      omega
    · rw [if_neg e]
      have := h.short i hi
      omega
theorem Sf2.skip {w wr : World} {q : Nat} {x : Px} {A now : List Sec} {pend : List Wr} {g : Nat} {vs : List Value} {M : List (List Sec)} {k : Nat} (h : Sf2 w q x A now pend g vs M k wr) : Sf2 w q x A now pend g vs M (k + 1) wr where
  mine := h.mine
  might := h.might
  may := h.may
  few := by have := h.few; omega
  short := fun i hi => by have := h.short i hi; omega
/-- A write amid a region: what is known ahead of it and behind it. -/
def wrT (w : World) (q : Nat) (x : Px) (s s' : Ps) (g : Nat) (vs : List Value) (M : List (List Sec)) : StateK where
  Ψ := fun i W => match i with
    | 0 => Mine w q x s W ∧ Might w.heap.size W (mutP q x) g vs M
    | 1 => ∃ x', Mine w q x' s' W ∧ Might w.heap.size W (mutP q x') g vs M
    | _ => True
  made := #[none, some 9]
  kl := #[[9], []]
  use := #[[], [], [], [], [], [], [], [], [], [0], []]
  muts := [9]
theorem wrT_ks (w : World) (q : Nat) (x : Px) (s s' : Ps) (g : Nat) (vs : List Value) (M : List (List Sec)) (E : World → World → Prop) (i n : Nat) (W W' : World) (hk : i ∉ (wrT w q x s s' g vs M).kl.getD n []) (hm : (wrT w q x s s' g vs M).made.getD n none ≠ some i)
    (hr : (wrT w q x s s' g vs M).rel E i W W') (hp : (wrT w q x s s' g vs M).Ψ n W) : (wrT w q x s s' g vs M).Ψ n W' := by
  have hg : i ≠ 9 → Grows W W' := fun h7 => by
    unfold StateK.rel at hr
    rw [if_neg (by simpa [wrT] using h7)] at hr
    exact hr
  match n, hk, hm, hp with
  | 0, hk, _, hp =>
    have h : Mine w q x s W ∧ Might w.heap.size W (mutP q x) g vs M := hp
    have g' := hg (by simpa [wrT] using hk)
    exact ⟨h.1.grows g', h.2.grows g'⟩
  | 1, _, hm, hp =>
    obtain ⟨x', h1, h2⟩ := (show ∃ x', Mine w q x' s' W ∧ Might w.heap.size W (mutP q x') g vs M from hp)
    have g' := hg (fun h => hm (by rw [h]; rfl))
    exact ⟨x', h1.grows g', h2.grows g'⟩
  | _ + 2, _, _, _ => exact trivial
/-- What came in. -/
structure SfIn (w : World) (a0 a1 a2 a4 : Option Addr) (c0 c1 c2 c4 : Nat) (F G : List (List UInt8)) (Wh Kp : List Int) : Prop where
  ek : EK w
  f : BytL w (.slice a0 F.length c0) F
  g : BytL w (.slice a1 G.length c1) G
  wh : IntS w (.slice a2 Wh.length c2) Wh
  kp : IntS w (.slice a4 Kp.length c4) Kp
  lf : F.length ≤ 8
  lg : G.length ≤ 8
  lw : G.length ≤ Wh.length
  lk : Kp.length ≤ 80
  rw : ∀ z ∈ Wh, -9223372036854775808 ≤ z ∧ z ≤ 9223372036854775807
  rk : ∀ z ∈ Kp, -9223372036854775808 ≤ z ∧ z ≤ 9223372036854775807
  lw2 : Wh.length ≤ 9223372036854775807

set_option maxRecDepth 100000 in
set_option maxHeartbeats 64000000 in
theorem kSafeIn (w : World) (a0 a1 a2 a4 : Option Addr) (c0 c1 c2 c4 nF nG nW nK : Nat) (F G : List (List UInt8)) (Wh Kp : List Int) (changes : Int) (hch : -9223372036854775808 ≤ changes ∧ changes ≤ 9223372036854775807)
    (hin : SfIn w a0 a1 a2 a4 c0 c1 c2 c4 F G Wh Kp) (hF : F.length = nF) (hG : G.length = nG) (hW : Wh.length = nW) (hK : Kp.length = nK) :
    Calls Tryd.prog 3 #[.slice a0 nF c0, .slice a1 nG c1, .slice a2 nW c2, .int .i64 changes, .slice a4 nK c4] w fun e w' => e = .returned (.bool true) ∧ Grows w w' := by
  obtain ⟨i5, hi5, hz5, hs5, hb5⟩ := info5d_parts
  obtain ⟨i36, hi36, hz36, hs36, hb36⟩ := infoStrs_parts
  have HI := Lib.hid hin
  have HhF := Lib.hid hF
  have HhG := Lib.hid hG
  have HhW := Lib.hid hW
  have HhK := Lib.hid hK
  have Hch := Lib.hid hch
  have Hpos : Hid (0 < w.heap.size) := hin.ek.pos
  have g1 : ¬ (8 : Int) < (nF : Int) := by have := hin.lf; omega
  have g2 : ¬ (8 : Int) < (nG : Int) := by have := hin.lg; omega
  have g3 : ¬ (nW : Int) < (nG : Int) := by have := hin.lw; omega
  have g4 : ¬ (80 : Int) < (nK : Int) := by have := hin.lk; omega
  have HN := pNew 16 (by omega) w
  rw [show ((16 : Nat) : Int) = 16 from rfl] at HN
  have HN := Lib.hid HN
  clear hin hF hG hW hK hch
  go_enter Tryd.func3, Tryd.ntmps3
  go_wp2_with fail
  refine HN.out.mono ?_
  rintro e w0 ⟨q, x0, rfl, hP, hs, hG, hu⟩
  have HM0 : Hid (Mine w q x0 (newP 16) w0) := Mine.new HI.out.ek hP hs hG hu
  have HC1 := Lib.hid (PCreate hP nA okA (by simp [nA]) (by rw [Px.sDirs, Px.sFiles, show x0.made = x0.s.made from rfl, hs]; decide))
  clear hP hs hG hu HN
  unfold sv nA at HC1
  clear g1 g2 g3 g4
  go_wp2_with fail
  refine HC1.out.mono ?_
  rintro e u1 ⟨v1, rfl, hF, x1, hP, hs, hT⟩
  rw [HM0.out.s] at hF hs
  have hF : IsFault u1 v1 opCreate nA 0 := by have e := sf_1; unfold nA at e; rw [e] at hF; exact hF
  have ev := hF.nilOf
  subst ev
  have HM1 : Hid (Mine w q x1 (createP (newP 16) nA).2 u1) := HM0.out.turn hT hP hs
  have HC2 := Lib.hid (PSyncDir hP)
  clear hF hs hP hT HC1
  go_wp2_with fail
  refine HC2.out.mono ?_
  rintro e u2 ⟨v2, rfl, hF, x2, hP, hs, hT⟩
  rw [HM1.out.s, sf_2] at hF hs
  have ev := IsFault.nilOf (show IsFault u2 v2 opSyncDir [] 0 from hF)
  subst ev
  have HM2 : Hid (Mine w q x2 (sF [] [] []) u2) := HM1.out.turn hT hP hs
  have HC3 := Lib.hid (PGrow hP nA okA 8 (by omega))
  unfold sv nA at HC3
  clear hF hs hP hT HC2
  go_wp2_with fail
  refine HC3.out.mono ?_
  rintro e u3 ⟨v3, rfl, hF, x3, hP, hs, hT⟩
  rw [HM2.out.s] at hF hs
  have e3 := sf_3
  unfold nA at e3
  rw [e3] at hF hs
  have ev := IsFault.nilOf (show IsFault u3 v3 opGrow [97] 0 from hF)
  subst ev
  have HM3 : Hid (Mine w q x3 (sF z8 z8 []) u3) := HM2.out.turn hT hP hs
  clear hF hs hP hT HC3 e3
  obtain ⟨g, Hg⟩ : ∃ y, Hid (u3.heap.size = y) := ⟨_, rfl⟩
  go_wp2_with (first | (at_make; refine wpList_make_full _ rfl _ _ 33 rfl u3.heap.size 36 i36 _ 1 Tryd.underlying33 hi36 hz36 hs36 .i64 .i64 _ _ 8 rfl rfl rfl rfl (by rw [hb36]; omega) (by unfold maxLen; omega) (Nat.le_refl _) ?_; intro wm hom hgm; rw [Hg.out] at hom ⊢) | fail)
  have HS1 : Hid (Sf1 w q x3 z8 [] g (List.replicate 8 (.slice none 0 0)) (List.replicate 8 []) 0 wm) := by
    have hG : Grows u3 wm := Below.grown (Below.refl _ _) hgm (Nat.le_refl _) (fun j hj => by cases hj)
    rw [made_strs] at hom
    obtain ⟨hr, hB⟩ := row_of_own hom
    have hgu : w.heap.size ≤ g := by rw [← Hg.out]; exact HM3.out.gr.size
    exact ⟨HM3.out.grows hG, Might.new hr (fun hm => by have := HM3.out.li.pd.ltU (mut_use hm); have := Hg.out; omega) hgu, rfl, fun i hi => by omega, fun i _ hi => by unfold z8; rw [List.getD, List.getElem?_replicate, if_pos hi]; rfl, by simp, by simp⟩
  clear hom hgm
  go_wp2
  go_loopw [14] (fun t14 wr => ∃ (k : Nat) (x : Px) (now : List Sec) (pend : List Wr) (vs : List Value) (M : List (List Sec)), k ≤ 8 ∧ t14 = .int .i64 k ∧ Hid (Sf1 w q x now pend g vs M k wr)) (fun t14 _ => 8 - (intOf t14).toNat)
  case atStart => exact ⟨0, _, _, _, _, _, by omega, rfl, HS1.out⟩
  case round =>
    obtain ⟨k, x, now, pend, vs, M, hk, rfl, HS⟩ := hrel
    clear HS1 HM0 HM1 HM2 HM3
    by_cases hlt : k < 8
    · have hlt' : (k : Int) < 8 := by omega
      have Hlt := Lib.hid hlt
      have hcg := (HS.out.might).cell k hlt
      have hcf := (HS.out.might).frozen k
      by_cases hlf : k < nF
      · have hlf' : (k : Int) < (nF : Int) := by omega
        obtain ⟨fb, fo, ea, ec, e0, hfc, hfb⟩ := HI.out.f.at k (by rw [HhF.out]; exact hlf)
        subst e0
        obtain ⟨p, Hp⟩ : ∃ p, Hid (F.getD k [] = p) := ⟨_, rfl⟩
        obtain ⟨pn, Hpn⟩ : ∃ n, Hid ((F.getD k []).length = n) := ⟨_, rfl⟩
        rw [Hpn.out] at hfc hfb
        have hfw := HS.out.mine.gr.cell' hfc
        by_cases h64 : pn = 64
        · subst h64
          have Hfb := Lib.hid hfb
          clear hfc hfb hlt hlf
          rw [Hp.out] at Hfb
          have HGm0 := HS.out.mine.gr
          go_wp2_with (first | (at_make; refine wpList_make_full _ rfl _ _ 34 rfl wr.heap.size 5 i5 _ 1 Tryd.underlying34 hi5 hz5 hs5 .i64 .i64 _ _ 64 rfl rfl rfl rfl (by rw [hb5]; omega) (by unfold maxLen; omega) (Nat.le_refl _) ?_; intro wm1 hom hgm; have hmb := made64 hom; have HGm : Hid (Grows wr wm1) := Below.grown (Below.refl _ _) hgm (Nat.le_refl _) (fun j hj => by cases hj); clear hom hgm; (try have hfw1 := HGm.out.cell' hfw); have hcg2 := (Grows.trans' HGm.out (Grows.alloc' wm1 (.cells #[.string ⟨zero64.toArray⟩] 9))).cell' hcg; have hcf2 := ((HS.out.might.grows HGm.out).grows (Grows.alloc' wm1 (.cells #[.string ⟨zero64.toArray⟩] 9))).frozen k) | (refine wpList_conv rfl _ 34 5 9 rfl Tryd.underlying34 Tryd.underlying5 Tryd.underlying9 _ zero64 rfl hmb ?_; clear hmb) | (refine wpList_conv rfl _ 34 5 9 rfl Tryd.underlying34 Tryd.underlying5 Tryd.underlying9 _ p rfl ((Hfb.out.grows HS.out.mine.gr).grows HGm.out) ?_) | fail)
          have Hp64 : Hid (p.length = 64) := by show _ = _; rw [← Hp.out]; exact Hpn.out
          have HMm := Lib.hid (HS.out.mine.grows HGm.out)
          have HXm := Lib.hid (HS.out.might.grows HGm.out)
          have HCw := Lib.hid (PWrite HMm.out.li.pd nA okA (k : Int) (by have := Hlt.out; omega) _ p (Hfb.out.grows HMm.out.gr) (HMm.out.outside Hfb.out) (by rw [Hp64.out]; omega) (by rw [(x_small HMm.out.s).2.2.2]; have := HS.out.few; have := Hlt.out; omega))
          unfold sv nA at HCw
          clear hcg2 hcf2 hcg hcf hfw hfw1 HGm0
          refine HCw.out.mono ?_
          rintro e w2 ⟨v, rfl, hF, x', hP, hs, hT⟩
          have e3 := sf_write now z8 pend k p (by rw [HS.out.ln]; exact Hlt.out) Hp64.out
          unfold nA at e3
          rw [HMm.out.s, e3] at hF hs
          have ev := IsFault.nilOf (show IsFault w2 v opWrite [97] 0 from hF)
          subst ev
          have HM2 : Hid (Mine w q x' (sF (now.set k p) z8 (pend ++ [⟨1, k, p⟩])) w2) := HMm.out.turn hT hP hs
          have HX2 := Lib.hid (HXm.out.turn hT)
          have hcg2 := (Grows.alloc' w2 (.cells #[.string ⟨p.toArray⟩] 9)).cell' (HX2.out.cell k Hlt.out)
          have hcf2 := (HX2.out.grows (Grows.alloc' w2 (.cells #[.string ⟨p.toArray⟩] 9))).frozen k
          clear hF hs hP hT HCw e3
          go_wp2
          go_roundw
          case rel =>
            have h1 := Might.one HM2.out HX2.out Hpos.out k Hlt.out p
            have h2 := Sf1.next (w := w) (x' := x') (pend' := pend ++ [⟨1, k, p⟩]) HS.out Hlt.out p h1.1 h1.2 (fun z hz => (List.mem_append.1 hz).elim (HS.out.ids z) (fun hz => by rw [List.mem_singleton.1 hz])) (by have := HS.out.few; simp; omega)
            exact ⟨k + 1, x', _, _, _, _, by have := Hlt.out; omega, by go_num, h2⟩
          case measure => have := Hlt.out; simp [intOf]; omega
        · have h64' : ((pn : Int) == 64) = false := by simp; omega
          clear hfc hfb hlt hlf
          go_wp2_with (first | (at_make; refine wpList_make_full _ rfl _ _ 34 rfl wr.heap.size 5 i5 _ 1 Tryd.underlying34 hi5 hz5 hs5 .i64 .i64 _ _ 64 rfl rfl rfl rfl (by rw [hb5]; omega) (by unfold maxLen; omega) (Nat.le_refl _) ?_; intro wm1 hom hgm; have hmb := made64 hom; have HGm : Hid (Grows wr wm1) := Below.grown (Below.refl _ _) hgm (Nat.le_refl _) (fun j hj => by cases hj); clear hom hgm; (try have hfw1 := HGm.out.cell' hfw); have hcg2 := (Grows.trans' HGm.out (Grows.alloc' wm1 (.cells #[.string ⟨zero64.toArray⟩] 9))).cell' hcg; have hcf2 := ((HS.out.might.grows HGm.out).grows (Grows.alloc' wm1 (.cells #[.string ⟨zero64.toArray⟩] 9))).frozen k) | (refine wpList_conv rfl _ 34 5 9 rfl Tryd.underlying34 Tryd.underlying5 Tryd.underlying9 _ zero64 rfl hmb ?_; clear hmb) | go_in)
          go_roundw
          case rel =>
            have h1 := Might.one (HS.out.mine.grows HGm.out) (HS.out.might.grows HGm.out) Hpos.out k Hlt.out zero64
            have hself : now.set k zero64 = now := set_self (HS.out.new k (Nat.le_refl _) Hlt.out) (by rw [HS.out.ln]; exact Hlt.out)
            have h2 := Sf1.next (w := w) (x' := x) (pend' := pend) HS.out Hlt.out zero64 (by rw [hself]; exact h1.1) h1.2 HS.out.ids (by have := HS.out.few; omega)
            exact ⟨k + 1, x, _, pend, _, _, by have := Hlt.out; omega, by go_num, h2⟩
          case measure => have := Hlt.out; simp [intOf]; omega
      · have hlf' : ¬ (k : Int) < (nF : Int) := by omega
        clear hlt hlf
        go_wp2_with (first | (at_make; refine wpList_make_full _ rfl _ _ 34 rfl wr.heap.size 5 i5 _ 1 Tryd.underlying34 hi5 hz5 hs5 .i64 .i64 _ _ 64 rfl rfl rfl rfl (by rw [hb5]; omega) (by unfold maxLen; omega) (Nat.le_refl _) ?_; intro wm1 hom hgm; have hmb := made64 hom; have HGm : Hid (Grows wr wm1) := Below.grown (Below.refl _ _) hgm (Nat.le_refl _) (fun j hj => by cases hj); clear hom hgm; (try have hfw1 := HGm.out.cell' hfw); have hcg2 := (Grows.trans' HGm.out (Grows.alloc' wm1 (.cells #[.string ⟨zero64.toArray⟩] 9))).cell' hcg; have hcf2 := ((HS.out.might.grows HGm.out).grows (Grows.alloc' wm1 (.cells #[.string ⟨zero64.toArray⟩] 9))).frozen k) | (refine wpList_conv rfl _ 34 5 9 rfl Tryd.underlying34 Tryd.underlying5 Tryd.underlying9 _ zero64 rfl hmb ?_; clear hmb) | go_in)
        go_roundw
        case rel =>
          have h1 := Might.one (HS.out.mine.grows HGm.out) (HS.out.might.grows HGm.out) Hpos.out k Hlt.out zero64
          have hself : now.set k zero64 = now := set_self (HS.out.new k (Nat.le_refl _) Hlt.out) (by rw [HS.out.ln]; exact Hlt.out)
          have h2 := Sf1.next (w := w) (x' := x) (pend' := pend) HS.out Hlt.out zero64 (by rw [hself]; exact h1.1) h1.2 HS.out.ids (by have := HS.out.few; omega)
          exact ⟨k + 1, x, _, pend, _, _, by have := Hlt.out; omega, by go_num, h2⟩
        case measure => have := Hlt.out; simp [intOf]; omega
    · have hlt' : ¬ (k : Int) < 8 := by omega
      have hk8 : k = 8 := by omega
      subst hk8
      obtain ⟨hmay, hsh⟩ := HS.out.may
      have HCs := Lib.hid (PSync HS.out.mine.li.pd nA okA)
      have HMay := Lib.hid hmay
      have Hsh := Lib.hid hsh
      unfold sv nA at HCs
      clear hmay hsh hk hlt
      go_wp2_with fail
      refine HCs.out.mono ?_
      rintro e w4 ⟨v, rfl, hF, x4, hP, hs, hT⟩
      have e4 := sf_sync now z8 pend HS.out.ids
      unfold nA at e4
      rw [HS.out.mine.s, e4] at hF hs
      have ev := IsFault.nilOf (show IsFault w4 v opSync [97] 0 from hF)
      subst ev
      have HS2 : Hid (Sf2 w q x4 now now [] g vs M 0 w4) := ⟨HS.out.mine.turn hT hP hs, HS.out.might.turn hT, HMay.out, by simp, fun i hi => Hsh.out i hi⟩
      clear hF hs hP hT HCs e4 HS Hsh HMay
      obtain ⟨A, HA⟩ : ∃ y, y = now := ⟨_, rfl⟩
      rw [← HA] at HS2
      clear HA
      have wrx := wr
      go_wp2
      go_loopw [16] (fun t16 wn => ∃ (k2 : Nat) (x : Px) (now : List Sec) (pend : List Wr) (vs : List Value) (M : List (List Sec)), k2 ≤ nG ∧ t16 = .int .i64 k2 ∧ Hid (Sf2 w q x A now pend g vs M k2 wn)) (fun t16 _ => nG - (intOf t16).toNat)
      case atStart => exact ⟨0, _, _, _, _, _, by omega, rfl, HS2.out⟩
      case round =>
        clear HS2
        obtain ⟨k, x, now, pend, vs, M, hk, rfl, HS⟩ := hrel
        obtain ⟨wn, Hwn⟩ : ∃ y, y = wr := ⟨_, rfl⟩
        rw [← Hwn] at HS ⊢
        clear Hwn
        by_cases hlt : k < nG
        · have hlt' : (k : Int) < (nG : Int) := by omega
          have hkw : k < nW := by have := HI.out.lw; have := HhG.out; have := HhW.out; omega
          have hkw' : (k : Int) < (nW : Int) := by omega
          have Hlt := Lib.hid hlt
          have hkb : (k : Int) < 8 := by have := HI.out.lg; have := HhG.out; omega
          obtain ⟨z, Hz⟩ : ∃ z, Hid (Wh.getD k 0 = z) := ⟨_, rfl⟩
          obtain ⟨wb, wo, e2, cw⟩ := HI.out.wh.at k (by rw [HhW.out]; exact hkw)
          subst e2
          rw [Hz.out] at cw
          have Hwlt : Hid (wb < w.heap.size) := World.block_lt_of_cell? w _ cw
          have cw := HS.out.mine.gr.cell' cw
          obtain ⟨gb, go, ea, ec, e1, cs, hgb⟩ := HI.out.g.at k (by rw [HhG.out]; exact hlt)
          subst e1
          obtain ⟨p, Hp⟩ : ∃ p, Hid (G.getD k [] = p) := ⟨_, rfl⟩
          obtain ⟨pn, Hpn⟩ : ∃ n, Hid ((G.getD k []).length = n) := ⟨_, rfl⟩
          rw [Hpn.out] at cs hgb
          rw [Hp.out] at hgb
          have HcsW := Lib.hid cs
          have Hglt : Hid (gb < w.heap.size) := World.block_lt_of_cell? w _ cs
          have cs := HS.out.mine.gr.cell' cs
          have Hgb := Lib.hid hgb
          clear hgb hlt hkw hk
          by_cases hz0 : 0 ≤ z
          · by_cases hz8 : z < 8
            · by_cases h64 : pn = 64
              · subst h64
                have Hgb64 : Hid (p.length = 64) := by show _ = _; rw [← Hp.out]; exact Hpn.out
                obtain ⟨j, rfl⟩ : ∃ j : Nat, z = (j : Int) := ⟨z.toNat, by omega⟩
                have hj : j < 8 := by omega
                have Hj := Lib.hid hj
                obtain ⟨i9, z9, hi9, hz9, hs9, hb9, hzs9⟩ := infoStr_parts
                have hmx : Tryd.prog.follows .mixedOrders = true := by kernel_rfl
                obtain ⟨av, cv, ev⟩ := own_form (HS.out.might.own j hj)
                have cg := HS.out.might.cell j hj
                have hng : ¬ ((vs.getD j undef).ownBlock = some g) := own_ne (HS.out.might.own j hj) HS.out.might.row (by decide)
                have hnw : ¬ ((vs.getD j undef).ownBlock = some wb) := fun e => by have := (HS.out.might.out j hj wb e).2; have := Hwlt.out; omega
                have hns : ¬ ((vs.getD j undef).ownBlock = some gb) := fun e => by have := (HS.out.might.out j hj gb e).2; have := Hglt.out; omega
                have hown := HS.out.might.own j hj
                obtain ⟨nm, Hnm⟩ : ∃ n, Hid ((M.getD j []).length = n) := ⟨_, rfl⟩
                obtain ⟨xs, Hxs⟩ : ∃ n, Hid (strs (M.getD j []) = n) := ⟨_, rfl⟩
                obtain ⟨ws, Hws⟩ : ∃ n, Hid (wn.heap.size = n) := ⟨_, rfl⟩
                rw [Hnm.out] at ev hown
                rw [Hxs.out] at hown
                have Hv : Hid (vs.getD j undef = .slice av nm cv) := ev
                rw [Hv.out] at cg hng hnw hns hown
                have HnW : Hid (nm ≤ 9) := by show _ ≤ _; rw [← Hnm.out]; have := HS.out.short j hj; have := HI.out.lg; have := HhG.out; have := Hlt.out; omega
                have HLL : Hid (∀ p' ∈ [(nm, xs), (1, [sv p]), (nm + 1, xs ++ [sv p])], p'.1 ≤ nm ∨ (p'.1 ≤ nm + 1 ∧ p'.2 = (xs ++ [sv p]).take (p'.1 * 1))) := HL_ofK nm 1 xs [sv p] hown.1 rfl (by omega)
                have Hown := Lib.hid hown
                have Hby : Hid (Byt wn (.slice ea 64 ec) p) := Hgb.out.grows HS.out.mine.gr
                have Hbo : Hid (Outside (fun b => Value.ownBlock (.slice av nm cv) = some b) (.slice ea 64 ec)) := fun b off sp n c e hn hb => by
                  have hsp : Byt w (.slice ea 64 ec) p := Hgb.out
                  obtain ⟨a', cap', e', _, _, _, h4⟩ := hsp
                  simp only [Value.slice.injEq] at e e'
                  obtain ⟨rfl, -, -⟩ := e
                  rcases h4 with h4 | ⟨b', off', h4, hc⟩
                  · have := Hgb64.out; rw [h4] at this; simp at this
                  · have e1 := e'.1
                    rw [h4] at e1
                    simp only [Option.some.injEq, Addr.mk.injEq] at e1
                    have h6 := World.block_lt_of_cell? w _ (hc 0 (by rw [Hgb64.out]; omega))
                    have h7 := (HS.out.might.out j Hj.out b (by rw [Hv.out]; exact hb)).2
                    rw [e1.1] at h7
                    exact absurd h6 (by simpa using h7)
                clear ev hown hj
                go_wp2
                refine region_K_last (E := (EApp (fun k => Value.ownBlock (.slice av nm cv) = some k) 9 1 [(nm, xs), (1, [sv p]), (nm + 1, xs ++ [sv p])])) (EApp.ok (fun k => Value.ownBlock (.slice av nm cv) = some k) 9 1 [(nm, xs), (1, [sv p]), (nm + 1, xs ++ [sv p])]) EApp.ofGrows 20
                  #[[], [], [], [1, 2], [1, 2, 3], [], [], [], [6, 7], [6, 7, 8], [5, 6, 7, 8, 9], [5, 6, 7, 8, 9, 10], [], [], [12, 13], [12, 13, 14], [12, 13, 14, 15], [12, 13, 14, 15, 16], [5, 6, 7, 8, 9, 10, 11, 12, 13, 14, 15, 16, 17], [0, 1, 2, 3, 4, 5, 6, 7, 8, 9, 10, 11, 12, 13, 14, 15, 16, 17, 18], [0, 1, 2, 3, 4, 5, 6, 7, 8, 9, 10, 11, 12, 13, 14, 15, 16, 17, 18, 19]] #[[13], [2], [16], [], [], [13], [2], [16], [], [], [], [], [1], [16], [], [], [], [], [], [], []] #[true, true, true, true, true, true, true, true, true, true, true, true, true, true, true, true, true, true, true, true, true]
                  ((.val ?ve0) :: (.val ?ve1) :: (.val ?ve2) :: (.val ?ve3) :: (.val ?ve4) :: (.val ?ve5) :: (.val ?ve6) :: (.val ?ve7) :: (.val ?ve8) :: (.val ?ve9) :: (.val ?ve10) :: (.val ?ve11) :: (.val ?ve12) :: (.val ?ve13) :: (.val ?ve14) :: (.val ?ve15) :: (.val (.string ⟨p.toArray⟩)) :: (.pred (fun v W => W.ownsRow 0 9 1 v 1 [sv p] ∧ ∃ g, v = .slice (some ⟨g, 0, none⟩) 1 1) (fun v a b h ho => ⟨EApp.own (by simp) v a b h ho.1, ho.2⟩)) :: (.pred (fun v W => W.ownsRow 0 9 1 v (nm + 1) (xs ++ [sv p]) ∧ (v.ownBlock = Value.ownBlock (.slice av nm cv) ∨ ∀ j, v.ownBlock = some j → ws ≤ j)) (fun v a b h ho => ⟨EApp.own (by simp) v a b h ho.1, ho.2⟩)) :: (.val ?ve19) :: (.any) :: []).toArray
                  (noState [18])
                  (fun _ _ _ _ _ _ _ _ => trivial)
                  (fun _ _ => trivial)
                  hmx ?chke rfl ?grde rfl ?stpe ?rste
                case chke => rfl
                case stpe =>
                  refine ⟨?_, ?_, ?_, ?_, ?_, ?_, ?_, ?_, ?_, ?_, ?_, ?_, ?_, ?_, ?_, ?_, ?_, ?_, ?_, ?_, ?_, trivial⟩
                  · refine step_introK rfl rfl fun ρ X hc hf hgl hX hp ho hu => ?_
                    change StepOk _ { dst := _, op := Op.move (Operand.tmp 13), type := _, pos := _, after := _, guard := _ } _ _ _
                    have k13 : ρ (.tmp 13) = .slice (some ⟨g, 0, none⟩) 8 8 := ho 13 (by decide)
                    refine stepK_plain (i := 0) rfl ?_
                    clear hu
                    clear hp ho
                    refine StepOk.of_run (v := ?ve0) (w' := X) ?_ ⟨rfl, Below.refl _ _⟩
                    clear hX
                    go_simp
                    all_goals try go_bits
                    all_goals try simp only [IntWalk.iteOmega]
                    all_goals try go_bits
                    all_goals rfl
                  · refine step_introK rfl rfl fun ρ X hc hf hgl hX hp ho hu => ?_
                    change StepOk _ { dst := _, op := Op.move (Operand.tmp 2), type := _, pos := _, after := _, guard := _ } _ _ _
                    have k2 : ρ (.tmp 2) = .slice (some ⟨wb, wo, none⟩) nW c2 := ho 2 (by decide)
                    refine stepK_plain (i := 1) rfl ?_
                    clear hu
                    clear hp ho
                    refine StepOk.of_run (v := ?ve1) (w' := X) ?_ ⟨rfl, Below.refl _ _⟩
                    clear hX
                    go_simp
                    all_goals try go_bits
                    all_goals try simp only [IntWalk.iteOmega]
                    all_goals try go_bits
                    all_goals rfl
                  · refine step_introK rfl rfl fun ρ X hc hf hgl hX hp ho hu => ?_
                    change StepOk _ { dst := _, op := Op.move (Operand.tmp 16), type := _, pos := _, after := _, guard := _ } _ _ _
                    have k16 : ρ (.tmp 16) = .int .i64 (k : Int) := ho 16 (by decide)
                    refine stepK_plain (i := 2) rfl ?_
                    clear hu
                    clear hp ho
                    refine StepOk.of_run (v := ?ve2) (w' := X) ?_ ⟨rfl, Below.refl _ _⟩
                    clear hX
                    go_simp
                    all_goals try go_bits
                    all_goals try simp only [IntWalk.iteOmega]
                    all_goals try go_bits
                    all_goals rfl
                  · refine step_introK rfl rfl fun ρ X hc hf hgl hX hp ho hu => ?_
                    change StepOk _ { dst := _, op := Op.indexAddr 23 (Operand.tmp 133) (Operand.tmp 134), type := _, pos := _, after := _, guard := _ } _ _ _
                    have k133 : ρ (.tmp 133) = ?ve1 := hp 1 (by decide)
                    have k134 : ρ (.tmp 134) = ?ve2 := hp 2 (by decide)
                    refine stepK_plain (i := 3) rfl ?_
                    clear hu
                    clear hp ho
                    refine StepOk.of_run (v := ?ve3) (w' := X) ?_ ⟨rfl, Below.refl _ _⟩
                    clear hX
                    go_simp
                    all_goals try go_bits
                    all_goals try simp only [IntWalk.iteOmega]
                    all_goals try go_bits
                    all_goals rfl
                  · refine step_introK rfl rfl fun ρ X hc hf hgl hX hp ho hu => ?_
                    change StepOk _ { dst := _, op := Op.load 3 (Operand.tmp 135), type := _, pos := _, after := _, guard := _ } _ _ _
                    have k135 : ρ (.tmp 135) = ?ve3 := hp 3 (by decide)
                    refine stepK_plain (i := 4) rfl ?_
                    clear hu
                    have cwX := hX.but.cell (p := ⟨wb, _, none⟩) hnw cw
                    have cgX := hX.but.cell (p := ⟨g, _, none⟩) hng cg
                    have csX := hX.but.cell (p := ⟨gb, _, none⟩) hns cs
                    clear hp ho
                    refine StepOk.of_run (v := ?ve4) (w' := X) ?_ ⟨rfl, Below.refl _ _⟩
                    clear hX
                    go_simp
                    all_goals try go_bits
                    all_goals try simp only [IntWalk.iteOmega]
                    all_goals try go_bits
                    all_goals rfl
                  · refine step_introK rfl rfl fun ρ X hc hf hgl hX hp ho hu => ?_
                    change StepOk _ { dst := _, op := Op.move (Operand.tmp 13), type := _, pos := _, after := _, guard := _ } _ _ _
                    have k13 : ρ (.tmp 13) = .slice (some ⟨g, 0, none⟩) 8 8 := ho 13 (by decide)
                    refine stepK_plain (i := 5) rfl ?_
                    clear hu
                    clear hp ho
                    refine StepOk.of_run (v := ?ve5) (w' := X) ?_ ⟨rfl, Below.refl _ _⟩
                    clear hX
                    go_simp
                    all_goals try go_bits
                    all_goals try simp only [IntWalk.iteOmega]
                    all_goals try go_bits
                    all_goals rfl
                  · refine step_introK rfl rfl fun ρ X hc hf hgl hX hp ho hu => ?_
                    change StepOk _ { dst := _, op := Op.move (Operand.tmp 2), type := _, pos := _, after := _, guard := _ } _ _ _
                    have k2 : ρ (.tmp 2) = .slice (some ⟨wb, wo, none⟩) nW c2 := ho 2 (by decide)
                    refine stepK_plain (i := 6) rfl ?_
                    clear hu
                    clear hp ho
                    refine StepOk.of_run (v := ?ve6) (w' := X) ?_ ⟨rfl, Below.refl _ _⟩
                    clear hX
                    go_simp
                    all_goals try go_bits
                    all_goals try simp only [IntWalk.iteOmega]
                    all_goals try go_bits
                    all_goals rfl
                  · refine step_introK rfl rfl fun ρ X hc hf hgl hX hp ho hu => ?_
                    change StepOk _ { dst := _, op := Op.move (Operand.tmp 16), type := _, pos := _, after := _, guard := _ } _ _ _
                    have k16 : ρ (.tmp 16) = .int .i64 (k : Int) := ho 16 (by decide)
                    refine stepK_plain (i := 7) rfl ?_
                    clear hu
                    clear hp ho
                    refine StepOk.of_run (v := ?ve7) (w' := X) ?_ ⟨rfl, Below.refl _ _⟩
                    clear hX
                    go_simp
                    all_goals try go_bits
                    all_goals try simp only [IntWalk.iteOmega]
                    all_goals try go_bits
                    all_goals rfl
                  · refine step_introK rfl rfl fun ρ X hc hf hgl hX hp ho hu => ?_
                    change StepOk _ { dst := _, op := Op.indexAddr 23 (Operand.tmp 138) (Operand.tmp 139), type := _, pos := _, after := _, guard := _ } _ _ _
                    have k138 : ρ (.tmp 138) = ?ve6 := hp 6 (by decide)
                    have k139 : ρ (.tmp 139) = ?ve7 := hp 7 (by decide)
                    refine stepK_plain (i := 8) rfl ?_
                    clear hu
                    clear hp ho
                    refine StepOk.of_run (v := ?ve8) (w' := X) ?_ ⟨rfl, Below.refl _ _⟩
                    clear hX
                    go_simp
                    all_goals try go_bits
                    all_goals try simp only [IntWalk.iteOmega]
                    all_goals try go_bits
                    all_goals rfl
                  · refine step_introK rfl rfl fun ρ X hc hf hgl hX hp ho hu => ?_
                    change StepOk _ { dst := _, op := Op.load 3 (Operand.tmp 140), type := _, pos := _, after := _, guard := _ } _ _ _
                    have k140 : ρ (.tmp 140) = ?ve8 := hp 8 (by decide)
                    refine stepK_plain (i := 9) rfl ?_
                    clear hu
                    have cwX := hX.but.cell (p := ⟨wb, _, none⟩) hnw cw
                    have cgX := hX.but.cell (p := ⟨g, _, none⟩) hng cg
                    have csX := hX.but.cell (p := ⟨gb, _, none⟩) hns cs
                    clear hp ho
                    refine StepOk.of_run (v := ?ve9) (w' := X) ?_ ⟨rfl, Below.refl _ _⟩
                    clear hX
                    go_simp
                    all_goals try go_bits
                    all_goals try simp only [IntWalk.iteOmega]
                    all_goals try go_bits
                    all_goals rfl
                  · refine step_introK rfl rfl fun ρ X hc hf hgl hX hp ho hu => ?_
                    change StepOk _ { dst := _, op := Op.indexAddr 33 (Operand.tmp 137) (Operand.tmp 141), type := _, pos := _, after := _, guard := _ } _ _ _
                    have k137 : ρ (.tmp 137) = ?ve5 := hp 5 (by decide)
                    have k141 : ρ (.tmp 141) = ?ve9 := hp 9 (by decide)
                    refine stepK_plain (i := 10) rfl ?_
                    clear hu
                    clear hp ho
                    refine StepOk.of_run (v := ?ve10) (w' := X) ?_ ⟨rfl, Below.refl _ _⟩
                    clear hX
                    go_simp
                    all_goals try go_bits
                    all_goals try simp only [IntWalk.iteOmega]
                    all_goals try go_bits
                    all_goals rfl
                  · refine step_introK rfl rfl fun ρ X hc hf hgl hX hp ho hu => ?_
                    change StepOk _ { dst := _, op := Op.load 36 (Operand.tmp 142), type := _, pos := _, after := _, guard := _ } _ _ _
                    have k142 : ρ (.tmp 142) = ?ve10 := hp 10 (by decide)
                    refine stepK_plain (i := 11) rfl ?_
                    clear hu
                    have cwX := hX.but.cell (p := ⟨wb, _, none⟩) hnw cw
                    have cgX := hX.but.cell (p := ⟨g, _, none⟩) hng cg
                    have csX := hX.but.cell (p := ⟨gb, _, none⟩) hns cs
                    clear hp ho
                    refine StepOk.of_run (v := ?ve11) (w' := X) ?_ ⟨rfl, Below.refl _ _⟩
                    clear hX
                    go_simp
                    all_goals try go_bits
                    all_goals try simp only [IntWalk.iteOmega]
                    all_goals try go_bits
                    all_goals rfl
                  · refine step_introK rfl rfl fun ρ X hc hf hgl hX hp ho hu => ?_
                    change StepOk _ { dst := _, op := Op.move (Operand.tmp 1), type := _, pos := _, after := _, guard := _ } _ _ _
                    have k1 : ρ (.tmp 1) = .slice (some ⟨gb, go, none⟩) nG c1 := ho 1 (by decide)
                    refine stepK_plain (i := 12) rfl ?_
                    clear hu
                    clear hp ho
                    refine StepOk.of_run (v := ?ve12) (w' := X) ?_ ⟨rfl, Below.refl _ _⟩
                    clear hX
                    go_simp
                    all_goals try go_bits
                    all_goals try simp only [IntWalk.iteOmega]
                    all_goals try go_bits
                    all_goals rfl
                  · refine step_introK rfl rfl fun ρ X hc hf hgl hX hp ho hu => ?_
                    change StepOk _ { dst := _, op := Op.move (Operand.tmp 16), type := _, pos := _, after := _, guard := _ } _ _ _
                    have k16 : ρ (.tmp 16) = .int .i64 (k : Int) := ho 16 (by decide)
                    refine stepK_plain (i := 13) rfl ?_
                    clear hu
                    clear hp ho
                    refine StepOk.of_run (v := ?ve13) (w' := X) ?_ ⟨rfl, Below.refl _ _⟩
                    clear hX
                    go_simp
                    all_goals try go_bits
                    all_goals try simp only [IntWalk.iteOmega]
                    all_goals try go_bits
                    all_goals rfl
                  · refine step_introK rfl rfl fun ρ X hc hf hgl hX hp ho hu => ?_
                    change StepOk _ { dst := _, op := Op.indexAddr 22 (Operand.tmp 144) (Operand.tmp 145), type := _, pos := _, after := _, guard := _ } _ _ _
                    have k144 : ρ (.tmp 144) = ?ve12 := hp 12 (by decide)
                    have k145 : ρ (.tmp 145) = ?ve13 := hp 13 (by decide)
                    refine stepK_plain (i := 14) rfl ?_
                    clear hu
                    clear hp ho
                    refine StepOk.of_run (v := ?ve14) (w' := X) ?_ ⟨rfl, Below.refl _ _⟩
                    clear hX
                    go_simp
                    all_goals try go_bits
                    all_goals try simp only [IntWalk.iteOmega]
                    all_goals try go_bits
                    all_goals rfl
                  · refine step_introK rfl rfl fun ρ X hc hf hgl hX hp ho hu => ?_
                    change StepOk _ { dst := _, op := Op.load 34 (Operand.tmp 146), type := _, pos := _, after := _, guard := _ } _ _ _
                    have k146 : ρ (.tmp 146) = ?ve14 := hp 14 (by decide)
                    refine stepK_plain (i := 15) rfl ?_
                    clear hu
                    have cwX := hX.but.cell (p := ⟨wb, _, none⟩) hnw cw
                    have cgX := hX.but.cell (p := ⟨g, _, none⟩) hng cg
                    have csX := hX.but.cell (p := ⟨gb, _, none⟩) hns cs
                    clear hp ho
                    refine StepOk.of_run (v := ?ve15) (w' := X) ?_ ⟨rfl, Below.refl _ _⟩
                    clear hX
                    go_simp
                    all_goals try go_bits
                    all_goals try simp only [IntWalk.iteOmega]
                    all_goals try go_bits
                    all_goals rfl
                  · refine step_introK rfl rfl fun ρ X hc hf hgl hX hp ho hu => ?_
                    change StepOk _ { dst := _, op := Op.convert 34 9 (Operand.tmp 147), type := _, pos := _, after := _, guard := _ } _ _ _
                    have k147 : ρ (.tmp 147) = ?ve15 := hp 15 (by decide)
                    refine stepK_plain (i := 16) rfl ?_
                    clear hu
                    clear hp ho
                    have hr := run_string (P := Tryd.prog) (T := 34) (e := 5) (S := 9) Tryd.underlying34 Tryd.underlying5 Tryd.underlying9 (Hby.out.but hX.but Hbo.out)
                    refine StepOk.of_run (v := .string ⟨p.toArray⟩) (w' := X) ?_ ⟨rfl, Below.refl _ _⟩
                    simp only [execOp, k147, hr, Sem.run_bind, Result.andThen_ok, Sem.run_pure]
                  · refine step_introK rfl rfl fun ρ X hc hf hgl hX hp ho hu => ?_
                    change StepOk _ { dst := _, op := Op.buildSlice 36 1 #[(0, Operand.tmp 148)], type := _, pos := _, after := _, guard := _ } _ _ _
                    have k148 : ρ (.tmp 148) = (.string ⟨p.toArray⟩) := hp 16 (by decide)
                    refine stepK_plain (i := 17) rfl ?_
                    clear hu
                    clear hp ho
                    have hown1 := one_string X p
                    refine StepOk.of_run (v := .slice (some ⟨X.heap.size, 0, none⟩) 1 1) (w' := X.alloc (.cells #[sv p] 9)) ?_ ⟨⟨hown1, _, rfl⟩, Grows.alloc' _ _⟩
                    clear hX hown1
                    go_simp
                    all_goals try rfl
                  · refine step_introK rfl rfl fun ρ X hc hf hgl hX hp ho hu => ?_
                    change StepOk _ { dst := _, op := Op.call { callee := Callee.builtin Builtin.append, args := #[Operand.tmp 143, Operand.tmp 149], argTypes := #[36, 36] }, type := _, pos := _, after := _, guard := _ } _ _ _
                    have k143 : ρ (.tmp 143) = ?ve11 := hp 11 (by decide)
                    have k149 := hp 17 (by decide)
                    clear hu
                    clear hp ho
                    refine stepK_made rfl ?_
                    obtain ⟨ho18, g18, e18⟩ := k149
                    rw [e18] at ho18
                    have hoX := hX.spared (nm, xs) (by simp) _ Hown.out
                    obtain ⟨v', W', hr, ho', hgb', hat, hsp⟩ := run_append_x (P := Tryd.prog) X 36 36 9 i9 z9 1 16 Tryd.underlying36 hi9 hz9 hs9 hb9 hzs9 (by omega) _ nm xs hoX ⟨g18, 0, none⟩ 1 1 [sv p] rfl (ho18.cells (g := g18) rfl) (fun u hu => by rw [List.mem_singleton.1 hu]; rfl) (by have := HnW.out; unfold maxLen; omega) (by have := HnW.out; omega) [(nm, xs), (1, [sv p]), (nm + 1, xs ++ [sv p])] HLL.out
                    refine StepOk.of_run (v := v') (w' := W') ?_ ⟨⟨ho', ?_⟩, ⟨But.grown hgb' (fun j hj => hj), hsp⟩, fun s hs => by simp [noState] at hs⟩
                    · simp only [execOp, resolve, invoke, builtin, Sem.run_bind, Sem.run_pure, Result.andThen_ok, List.map_toArray, List.map_cons, List.map_nil, k143, e18, hr]
                    · rcases hat with h | h
                      · exact .inl h
                      · right; intro j hj; rw [h] at hj; have := Option.some.inj hj; have := hX.but.size; have := Hws.out; omega
                  · refine step_introK rfl rfl fun ρ X hc hf hgl hX hp ho hu => ?_
                    change StepOk _ { dst := _, op := Op.indexAddr 33 (Operand.tmp 132) (Operand.tmp 136), type := _, pos := _, after := _, guard := _ } _ _ _
                    have k132 : ρ (.tmp 132) = ?ve0 := hp 0 (by decide)
                    have k136 : ρ (.tmp 136) = ?ve4 := hp 4 (by decide)
                    refine stepK_plain (i := 19) rfl ?_
                    clear hu
                    clear hp ho
                    refine StepOk.of_run (v := ?ve19) (w' := X) ?_ ⟨rfl, Below.refl _ _⟩
                    clear hX
                    go_simp
                    all_goals try go_bits
                    all_goals try simp only [IntWalk.iteOmega]
                    all_goals try go_bits
                    all_goals rfl
                  · exact last_intro rfl
                case grde => rfl
                case rste =>
                  intro a0 X hb
                  obtain ⟨x149, hx149⟩ : ∃ x, a0.tmps.getD 149 undef = x := ⟨_, rfl⟩
                  have p149 := hb.done' 17 149 rfl rfl
                  rw [hx149] at p149
                  obtain ⟨x150, hx150⟩ : ∃ x, a0.tmps.getD 150 undef = x := ⟨_, rfl⟩
                  have p150 := hb.done' 18 150 rfl rfl
                  rw [hx150] at p150
                  have hfr := hb.frame ((132, ?ve0) :: (133, ?ve1) :: (134, ?ve2) :: (135, ?ve3) :: (136, ?ve4) :: (137, ?ve5) :: (138, ?ve6) :: (139, ?ve7) :: (140, ?ve8) :: (141, ?ve9) :: (142, ?ve10) :: (143, ?ve11) :: (144, ?ve12) :: (145, ?ve13) :: (146, ?ve14) :: (147, ?ve15) :: (148, (.string ⟨p.toArray⟩)) :: (149, x149) :: (150, x150) :: (151, ?ve19) :: []) rfl ⟨hb.done' 0 132 rfl rfl, hb.done' 1 133 rfl rfl, hb.done' 2 134 rfl rfl, hb.done' 3 135 rfl rfl, hb.done' 4 136 rfl rfl, hb.done' 5 137 rfl rfl, hb.done' 6 138 rfl rfl, hb.done' 7 139 rfl rfl, hb.done' 8 140 rfl rfl, hb.done' 9 141 rfl rfl, hb.done' 10 142 rfl rfl, hb.done' 11 143 rfl rfl, hb.done' 12 144 rfl rfl, hb.done' 13 145 rfl rfl, hb.done' 14 146 rfl rfl, hb.done' 15 147 rfl rfl, hb.done' 16 148 rfl rfl, hx149, hx150, hb.done' 19 151 rfl rfl, trivial⟩
                  simp only [updL, ↓reduceIte, Nat.reduceEqDiff, Nat.reduceAdd, Nat.zero_add] at hfr
                  have HX := Lib.hid hb.ext
                  clear hb
                  subst hfr
                  change StepOk _ { dst := _, op := Op.store 36 (Operand.tmp 151) (Operand.tmp 150), type := _, pos := _, after := _, guard := _ } _ _ _
                  have cX := HX.out.but.cell (p := ⟨g, j, none⟩) hng cg
                  have fX : X.frozen? ⟨g, j, none⟩ = false := frozen_of_row X g j _ _ (HX.out.but.blockEq hng HS.out.might.row)
                  obtain ⟨po', pa⟩ := (show X.ownsRow 0 9 1 x150 (nm + 1) (xs ++ [sv p]) ∧ (x150.ownBlock = Value.ownBlock (.slice av nm cv) ∨ ∀ j, x150.ownBlock = some j → ws ≤ j) from p150)
                  obtain ⟨a6, c6, rfl⟩ := own_form po'
                  have hpush := HS.out.push Hpos.out j Hj.out p (.slice a6 (nm + 1) c6) (by rw [Hv.out]; exact HX.out.but) (by rw [Hnm.out, Hxs.out]; exact po') (by rw [Hv.out, Hws.out]; exact pa)
                  obtain ⟨vsn, Hvsn⟩ : ∃ y, Hid (vs.set j (.slice a6 (nm + 1) c6) = y) := ⟨_, rfl⟩
                  obtain ⟨Mn, HMn⟩ : ∃ y, Hid (M.set j (M.getD j [] ++ [p]) = y) := ⟨_, rfl⟩
                  rw [Hvsn.out, HMn.out] at hpush
                  have HW3 := Lib.hid hpush
                  have HXb := Lib.hid HX.out.but
                  clear hpush po' pa p150
                  unfold StepOk
                  simp [go_sem, execOp, cX, fX]
                  clear cX fX cg hng hnw hns
                  obtain ⟨W3, HeW⟩ : ∃ y, X.setCell ⟨g, j, none⟩ (.slice a6 (nm + 1) c6) = y := ⟨_, rfl⟩
                  rw [HeW] at HW3 ⊢
                  clear HeW HX HXb
                  have cw : W3.cell? ⟨wb, wo + k, none⟩ = some (.int .i64 (j : Int)) := HW3.out.1.gr.cell' (by have := HI.out.wh.at k (by have := HI.out.lw; have := HhG.out; have := Hlt.out; omega); obtain ⟨b', o', e', c'⟩ := this; rw [Hz.out] at c'; simp only [Option.some.injEq, Addr.mk.injEq] at e'; obtain ⟨rfl, rfl, -⟩ := e'; exact c')
                  have cs : W3.cell? ⟨gb, go + k, none⟩ = some (.slice ea 64 ec) := HW3.out.1.gr.cell' HcsW.out
                  have hmw : ¬ mutP q x wb := fun hm => by have := HS.out.mine.us wb (mut_use hm); have := Hwlt.out; omega
                  have hms : ¬ mutP q x gb := fun hm => by have := HS.out.mine.us gb (mut_use hm); have := Hglt.out; omega
                  go_wp2
                  refine region_K (E := (But (mutP q x))) (But.ok _) But.ofGrows
                    #[[], [], [], [1, 2], [1, 2, 3], [], [], [5, 6], [5, 6, 7], [0, 1, 2, 3, 4, 5, 6, 7, 8], [0, 1, 2, 3, 4, 5, 6, 7, 8, 9]] #[[11], [2], [16], [], [], [1], [16], [], [], [], []] #[true, true, true, true, true, true, true, true, true, true, true]
                    ((.val ?vu0) :: (.val ?vu1) :: (.val ?vu2) :: (.val ?vu3) :: (.val ?vu4) :: (.val ?vu5) :: (.val ?vu6) :: (.val ?vu7) :: (.val ?vu8) :: (.val .nilIface) :: (.val ?vu10) :: []).toArray
                    (wrT w q x (sF now A pend) (sF (now.set j p) A (pend ++ [⟨1, j, p⟩])) g vsn Mn)
                    (wrT_ks _ _ _ _ _ _ _ _ _)
                    (fun s hs => match s, hs with | 0, _ => ⟨HW3.out.1.grows (Grows.drew' _), HW3.out.2.grows (Grows.drew' _)⟩ | 1, h => by cases h | _ + 2, _ => trivial)
                    hmx ?chku rfl ?grdu ?stpu ?rstu
                  case chku => rfl
                  case stpu =>
                    refine ⟨?_, ?_, ?_, ?_, ?_, ?_, ?_, ?_, ?_, ?_, ?_, trivial⟩
                    · refine step_introK rfl rfl fun ρ X hc hf hgl hX hp ho hu => ?_
                      change StepOk _ { dst := _, op := Op.move (Operand.tmp 11), type := _, pos := _, after := _, guard := _ } _ _ _
                      have k11 : ρ (.tmp 11) = .pointer (some ⟨q, 0, none⟩) := ho 11 (by decide)
                      refine stepK_plain (i := 0) rfl ?_
                      clear hu
                      clear hp ho
                      refine StepOk.of_run (v := ?vu0) (w' := X) ?_ ⟨rfl, Below.refl _ _⟩
                      clear hX
                      go_simp
                      all_goals try go_bits
                      all_goals try simp only [IntWalk.iteOmega]
                      all_goals try go_bits
                      all_goals rfl
                    · refine step_introK rfl rfl fun ρ X hc hf hgl hX hp ho hu => ?_
                      change StepOk _ { dst := _, op := Op.move (Operand.tmp 2), type := _, pos := _, after := _, guard := _ } _ _ _
                      have k2 : ρ (.tmp 2) = .slice (some ⟨wb, wo, none⟩) nW c2 := ho 2 (by decide)
                      refine stepK_plain (i := 1) rfl ?_
                      clear hu
                      clear hp ho
                      refine StepOk.of_run (v := ?vu1) (w' := X) ?_ ⟨rfl, Below.refl _ _⟩
                      clear hX
                      go_simp
                      all_goals try go_bits
                      all_goals try simp only [IntWalk.iteOmega]
                      all_goals try go_bits
                      all_goals rfl
                    · refine step_introK rfl rfl fun ρ X hc hf hgl hX hp ho hu => ?_
                      change StepOk _ { dst := _, op := Op.move (Operand.tmp 16), type := _, pos := _, after := _, guard := _ } _ _ _
                      have k16 : ρ (.tmp 16) = .int .i64 (k : Int) := ho 16 (by decide)
                      refine stepK_plain (i := 2) rfl ?_
                      clear hu
                      clear hp ho
                      refine StepOk.of_run (v := ?vu2) (w' := X) ?_ ⟨rfl, Below.refl _ _⟩
                      clear hX
                      go_simp
                      all_goals try go_bits
                      all_goals try simp only [IntWalk.iteOmega]
                      all_goals try go_bits
                      all_goals rfl
                    · refine step_introK rfl rfl fun ρ X hc hf hgl hX hp ho hu => ?_
                      change StepOk _ { dst := _, op := Op.indexAddr 23 (Operand.tmp 153) (Operand.tmp 154), type := _, pos := _, after := _, guard := _ } _ _ _
                      have k153 : ρ (.tmp 153) = ?vu1 := hp 1 (by decide)
                      have k154 : ρ (.tmp 154) = ?vu2 := hp 2 (by decide)
                      refine stepK_plain (i := 3) rfl ?_
                      clear hu
                      clear hp ho
                      refine StepOk.of_run (v := ?vu3) (w' := X) ?_ ⟨rfl, Below.refl _ _⟩
                      clear hX
                      go_simp
                      all_goals try go_bits
                      all_goals try simp only [IntWalk.iteOmega]
                      all_goals try go_bits
                      all_goals rfl
                    · refine step_introK rfl rfl fun ρ X hc hf hgl hX hp ho hu => ?_
                      change StepOk _ { dst := _, op := Op.load 3 (Operand.tmp 155), type := _, pos := _, after := _, guard := _ } _ _ _
                      have k155 : ρ (.tmp 155) = ?vu3 := hp 3 (by decide)
                      refine stepK_plain (i := 4) rfl ?_
                      clear hu
                      have cwX := hX.cell (p := ⟨wb, _, none⟩) hmw cw
                      have csX := hX.cell (p := ⟨gb, _, none⟩) hms cs
                      clear hp ho
                      refine StepOk.of_run (v := ?vu4) (w' := X) ?_ ⟨rfl, Below.refl _ _⟩
                      clear hX
                      go_simp
                      all_goals try go_bits
                      all_goals try simp only [IntWalk.iteOmega]
                      all_goals try go_bits
                      all_goals rfl
                    · refine step_introK rfl rfl fun ρ X hc hf hgl hX hp ho hu => ?_
                      change StepOk _ { dst := _, op := Op.move (Operand.tmp 1), type := _, pos := _, after := _, guard := _ } _ _ _
                      have k1 : ρ (.tmp 1) = .slice (some ⟨gb, go, none⟩) nG c1 := ho 1 (by decide)
                      refine stepK_plain (i := 5) rfl ?_
                      clear hu
                      clear hp ho
                      refine StepOk.of_run (v := ?vu5) (w' := X) ?_ ⟨rfl, Below.refl _ _⟩
                      clear hX
                      go_simp
                      all_goals try go_bits
                      all_goals try simp only [IntWalk.iteOmega]
                      all_goals try go_bits
                      all_goals rfl
                    · refine step_introK rfl rfl fun ρ X hc hf hgl hX hp ho hu => ?_
                      change StepOk _ { dst := _, op := Op.move (Operand.tmp 16), type := _, pos := _, after := _, guard := _ } _ _ _
                      have k16 : ρ (.tmp 16) = .int .i64 (k : Int) := ho 16 (by decide)
                      refine stepK_plain (i := 6) rfl ?_
                      clear hu
                      clear hp ho
                      refine StepOk.of_run (v := ?vu6) (w' := X) ?_ ⟨rfl, Below.refl _ _⟩
                      clear hX
                      go_simp
                      all_goals try go_bits
                      all_goals try simp only [IntWalk.iteOmega]
                      all_goals try go_bits
                      all_goals rfl
                    · refine step_introK rfl rfl fun ρ X hc hf hgl hX hp ho hu => ?_
                      change StepOk _ { dst := _, op := Op.indexAddr 22 (Operand.tmp 157) (Operand.tmp 158), type := _, pos := _, after := _, guard := _ } _ _ _
                      have k157 : ρ (.tmp 157) = ?vu5 := hp 5 (by decide)
                      have k158 : ρ (.tmp 158) = ?vu6 := hp 6 (by decide)
                      refine stepK_plain (i := 7) rfl ?_
                      clear hu
                      clear hp ho
                      refine StepOk.of_run (v := ?vu7) (w' := X) ?_ ⟨rfl, Below.refl _ _⟩
                      clear hX
                      go_simp
                      all_goals try go_bits
                      all_goals try simp only [IntWalk.iteOmega]
                      all_goals try go_bits
                      all_goals rfl
                    · refine step_introK rfl rfl fun ρ X hc hf hgl hX hp ho hu => ?_
                      change StepOk _ { dst := _, op := Op.load 34 (Operand.tmp 159), type := _, pos := _, after := _, guard := _ } _ _ _
                      have k159 : ρ (.tmp 159) = ?vu7 := hp 7 (by decide)
                      refine stepK_plain (i := 8) rfl ?_
                      clear hu
                      have cwX := hX.cell (p := ⟨wb, _, none⟩) hmw cw
                      have csX := hX.cell (p := ⟨gb, _, none⟩) hms cs
                      clear hp ho
                      refine StepOk.of_run (v := ?vu8) (w' := X) ?_ ⟨rfl, Below.refl _ _⟩
                      clear hX
                      go_simp
                      all_goals try go_bits
                      all_goals try simp only [IntWalk.iteOmega]
                      all_goals try go_bits
                      all_goals rfl
                    · refine step_introK rfl rfl fun ρ X hc hf hgl hX hp ho hu => ?_
                      change StepOk _ { dst := _, op := Op.call { callee := Callee.value (Operand.func 10), args := #[Operand.tmp 152, Operand.const (Value.string { data := #[97] }), Operand.tmp 156, Operand.tmp 160], argTypes := #[25, 9, 3, 34] }, type := _, pos := _, after := _, guard := _ } _ _ _
                      have k152 : ρ (.tmp 152) = ?vu0 := hp 0 (by decide)
                      have k156 : ρ (.tmp 156) = ?vu4 := hp 4 (by decide)
                      have k160 : ρ (.tmp 160) = ?vu8 := hp 8 (by decide)
                      have hu0 := hu
                      clear hp ho
                      obtain ⟨hM0, hX0⟩ := (show Mine w q x (sF now A pend) X ∧ Might w.heap.size X (mutP q x) g vsn Mn from hu 0 (by simp [wrT]))
                      refine stepK_made rfl ?_
                      have hCw := PWrite hM0.li.pd nA okA (j : Int) (by have := Hj.out; omega) _ p (Hgb.out.grows hM0.gr) (hM0.outside Hgb.out) (by rw [Hgb64.out]; omega) (by rw [(x_small hM0.s).2.2.2]; have := HS.out.few; have := HI.out.lg; have := HhG.out; have := Hlt.out; omega)
                      unfold sv nA at hCw
                      refine StepOk.of_call (f := 10) (args := #[.pointer (some ⟨q, 0, none⟩), .string ⟨#[97]⟩, .int .i64 (j : Int), .slice ea 64 ec]) (w' := X) ?_ hCw ?_
                      · simp [go_sem, execOp, hc, hf, k152, k156, k160]
                      · rintro e w'' ⟨v, rfl, hF, x', hP, hs, hT⟩
                        have e3 := sf_write now A pend j p (by rw [HS.out.may.ln]; exact Hj.out) Hgb64.out
                        unfold nA at e3
                        rw [hM0.s, e3] at hF hs
                        have ev := IsFault.nilOf (show IsFault w'' v opWrite [97] 0 from hF)
                        subst ev
                        exact ⟨_, rfl, rfl, hT.but, fun s hs' => match s, hs' with | 0, h => by cases h | 1, _ => ⟨x', hM0.turn hT hP hs, hX0.turn hT⟩ | _ + 2, h => by simp [wrT] at h⟩
                    · refine step_introK rfl rfl fun ρ X hc hf hgl hX hp ho hu => ?_
                      change StepOk _ { dst := _, op := Op.binOp BinOp.neq 27 (Operand.tmp 161) (Operand.const Value.nilIface) 27, type := _, pos := _, after := _, guard := _ } _ _ _
                      have k161 : ρ (.tmp 161) = .nilIface := hp 9 (by decide)
                      refine stepK_plain (i := 10) rfl ?_
                      clear hu
                      clear hp ho
                      refine StepOk.of_run (v := ?vu10) (w' := X) ?_ ⟨rfl, Below.refl _ _⟩
                      clear hX
                      go_simp
                      all_goals try go_bits
                      all_goals try simp only [IntWalk.iteOmega]
                      all_goals try go_bits
                      all_goals rfl
                  case grdu => rfl
                  case rstu =>
                    intro a0 X hb
                    have hfr := hb.frame ((152, ?vu0) :: (153, ?vu1) :: (154, ?vu2) :: (155, ?vu3) :: (156, ?vu4) :: (157, ?vu5) :: (158, ?vu6) :: (159, ?vu7) :: (160, ?vu8) :: (161, .nilIface) :: (162, ?vu10) :: []) rfl ⟨hb.done' 0 152 rfl rfl, hb.done' 1 153 rfl rfl, hb.done' 2 154 rfl rfl, hb.done' 3 155 rfl rfl, hb.done' 4 156 rfl rfl, hb.done' 5 157 rfl rfl, hb.done' 6 158 rfl rfl, hb.done' 7 159 rfl rfl, hb.done' 8 160 rfl rfl, hb.done' 9 161 rfl rfl, hb.done' 10 162 rfl rfl, trivial⟩
                    simp only [updL, ↓reduceIte, Nat.reduceEqDiff, Nat.reduceAdd, Nat.zero_add] at hfr
                    have HX := Lib.hid hb.ext
                    have HW4 := Lib.hid (hb.stat 1 (fun j hj => by obtain rfl : 9 = j := (by simpa [wrT] using hj); exact ⟨by decide, by decide⟩) rfl)
                    clear hb
                    subst hfr
                    obtain ⟨x', hM4, hX4⟩ := (show ∃ x', Mine w q x' (sF (now.set j p) A (pend ++ [⟨1, j, p⟩])) X ∧ Might w.heap.size X (mutP q x') g vsn Mn from HW4.out)
                    have HM4 := Lib.hid hM4
                    have HX4 := Lib.hid hX4
                    clear cw cs hmw hms hM4 hX4 HW4
                    go_wp2
                    go_roundw
                    case rel => exact ⟨k + 1, x', _, _, vsn, _, by have := Hlt.out; omega, by go_num, HS.out.next j Hj.out p HM4.out (by have h := HX4.out; rw [← HMn.out] at h; exact h)⟩
                    case measure => have := Hlt.out; simp [intOf]; omega
              · have h64' : ((pn : Int) == 64) = false := by simp; omega
                go_wp2
                go_roundw
                case rel => exact ⟨k + 1, x, _, _, _, _, by have := Hlt.out; omega, by go_num, HS.out.skip⟩
                case measure => have := Hlt.out; simp [intOf]; omega
            · go_wp2
              go_roundw
              case rel => exact ⟨k + 1, x, _, _, _, _, by have := Hlt.out; omega, by go_num, HS.out.skip⟩
              case measure => have := Hlt.out; simp [intOf]; omega
          · go_wp2
            go_roundw
            case rel => exact ⟨k + 1, x, _, _, _, _, by have := Hlt.out; omega, by go_num, HS.out.skip⟩
            case measure => have := Hlt.out; simp [intOf]; omega
        · have hlt' : ¬ (k : Int) < (nG : Int) := by omega
          have hkG : k = nG := by omega
          have hkp := HI.out.kp
          rw [HhK.out] at hkp
          have HCk := Lib.hid (pCrash HS.out.mine.li.pd changes Hch.out _ Kp (hkp.grows HS.out.mine.gr) (HS.out.mine.outsideI hkp) (by have := HI.out.lk; omega) HI.out.rk)
          have Hk := Lib.hid hk
          clear hkp hkG hk hlt
          go_wp2_with fail
          refine HCk.out.mono ?_
          rintro e w5 ⟨rfl, x5, hP, hs, hT⟩
          rw [HS.out.mine.s, sf_crash] at hs
          obtain ⟨Sx, HSe⟩ : ∃ y, Hid (kS (keptF Kp pend 0) A = y) := ⟨_, rfl⟩
          rw [HSe.out] at hs
          have HS3 : Hid (Sf3 w q x5 Sx g vs M w5) := ⟨HS.out.mine.turn hT hP hs, HS.out.might.turn hT, by rw [← HSe.out, kS_len]; exact HS.out.may.la, fun i hi => by rw [← HSe.out]; exact HS.out.may.crash Kp i hi, fun i hi => by have := HS.out.short i hi; have := HI.out.lg; have := HhG.out; have := Hk.out; omega⟩
          clear HCk hP hs hT HS
          go_wp2
          go_loopw [17] (fun t17 wn => ∃ (k : Nat) (x : Px), k ≤ 8 ∧ t17 = .int .i64 k ∧ Hid (Sf3 w q x Sx g vs M wn)) (fun t17 _ => 8 - (intOf t17).toNat)
          case atStart => exact ⟨0, x5, by omega, rfl, HS3.out⟩
          case round =>
            clear HS3
            obtain ⟨k, x, hk, rfl, HS⟩ := hrel
            obtain ⟨wn, Hwn⟩ : ∃ y, y = wr := ⟨_, rfl⟩
            rw [← Hwn] at HS ⊢
            clear Hwn
            by_cases hlt : k < 8
            · have hlt' : (k : Int) < 8 := by omega
              have Hlt := Lib.hid hlt
              have HR := Lib.hid (PRead HS.out.mine.li.pd nA okA (k : Int) (by omega))
              unfold sv nA at HR
              clear hlt
              go_wp2_with fail
              refine HR.out.mono ?_
              rintro e w6 ⟨r, v, rfl, ho, hF, hP, hs, hT⟩
              have e6 := sf_read Sx Sx [] k (by rw [HS.out.ls]; exact Hlt.out)
              unfold nA at e6
              rw [HS.out.mine.s, e6] at hF hs ho
              have ev := IsFault.nilOf (show IsFault w6 v opRead [97] 0 from hF)
              subst ev
              have HS4 : Hid (Sf3 w q (beginX x) Sx g vs M w6) := ⟨HS.out.mine.turn hT hP hs, HS.out.might.turn hT, HS.out.ls, HS.out.mem, HS.out.short⟩
              obtain ⟨p, Hp⟩ : ∃ y, Hid (Sx.getD k [] = y) := ⟨_, rfl⟩
              have ho : Own 5 wn.heap.size w6 r p := by rw [← Hp.out]; exact ho
              have hby := ho.byt
              obtain ⟨ra, rc, er⟩ := hby.slice
              subst er
              have Hby := Lib.hid hby
              obtain ⟨rl, Hrl⟩ : ∃ y, Hid (p.length = y) := ⟨_, rfl⟩
              rw [Hrl.out] at Hby ⊢
              clear hF hs hP hT ho hby HR e6 HS
              obtain ⟨m, Hm⟩ : ∃ y, Hid (M.getD k [] = y) := ⟨_, rfl⟩
              have Hin : Hid (p ∈ m) := by show _ ∈ _; rw [← Hp.out, ← Hm.out]; exact HS4.out.mem k Hlt.out
              obtain ⟨nm, Hnm⟩ : ∃ n, Hid (m.length = n) := ⟨_, rfl⟩
              have hnm9 : nm ≤ 9 := by rw [← Hnm.out, ← Hm.out]; exact HS4.out.short k Hlt.out
              have hrow := HS4.out.might.own k Hlt.out
              have cg6 := HS4.out.might.cell k Hlt.out
              rw [Hm.out, Hnm.out] at hrow
              obtain ⟨gm, cv, ev⟩ := own_some hrow (by rw [← Hnm.out]; exact List.length_pos_of_mem Hin.out)
              rw [ev] at hrow cg6
              have Hrow := Lib.hid hrow
              have Hcg6 := Lib.hid cg6
              clear hrow ev cg6
              go_wp2
              go_loopw [20, 21] (fun t20 t21 wi => ∃ j : Nat, j ≤ nm ∧ t21 = .int .i64 j ∧ t20 = .bool (decide (p ∈ m.take j)) ∧ Grows w6 wi) (fun _ t21 _ => nm - (intOf t21).toNat)
              case atStart => exact ⟨0, by omega, rfl, by simp, Below.refl _ _⟩
              case round =>
                obtain ⟨j, hj, rfl, rfl, hGi⟩ := hrel
                obtain ⟨wi, Hwi⟩ : ∃ y, y = wr := ⟨_, rfl⟩
                rw [← Hwi] at hGi ⊢
                clear Hwi
                have HGi := Lib.hid hGi
                have cg := hGi.cell' Hcg6.out
                clear hGi
                by_cases hjl : j < nm
                · have hjl' : (j : Int) < (nm : Int) := by omega
                  obtain ⟨u, Hu⟩ : ∃ y, Hid (m.getD j [] = y) := ⟨_, rfl⟩
                  have cm6 : w6.cell? ⟨gm, j, none⟩ = some (.string ⟨u.toArray⟩) := by
                    refine own_cell Hrow.out j _ ?_
                    rw [← Hu.out]
                    have : j < m.length := by rw [Hnm.out]; exact hjl
                    simp [strs, this, sv]
                  have cm := HGi.out.cell' cm6
                  have Hbi : Hid (Byt wi (.slice ra rl rc) p) := Hby.out.grows HGi.out
                  have Hjl := Lib.hid hjl
                  have Htk : Hid (m.take (j + 1) = m.take j ++ [u]) := by
                    show _ = _
                    have : j < m.length := by rw [Hnm.out]; exact hjl
                    rw [List.take_succ_eq_append_getElem this, ← Hu.out]
                    simp [List.getD, this]
                  have hmx : Tryd.prog.follows .mixedOrders = true := by kernel_rfl
                  clear cm6 hjl hj
                  by_cases hb : p ∈ m.take j
                  · have eb : decide (p ∈ m.take j) = true := by simpa using hb
                    have Hbd : Hid (decide (p ∈ m.take (j + 1)) = true) := by show _ = _; rw [Htk.out]; simp [hb]
                    rw [eb]
                    clear hb eb
                    go_wp2
                    refine specs_region
                      #[[], [0], [0, 1], [0, 1, 2], [0, 1], [0, 1], [0, 1, 4, 5], [0, 1, 4, 5, 6], [0, 1], [0, 1, 4, 5, 6, 7, 8], [0, 1, 4, 5, 6, 7, 8, 9], [0, 1, 2, 3, 4, 5, 6, 7, 8, 9, 10], [0, 1, 2, 3, 4, 5, 6, 7, 8, 9, 10, 11], [0, 1, 2, 3, 4, 5, 6, 7, 8, 9, 10, 11, 12]] #[[20], [], [18], [], [13], [17], [], [], [21], [], [], [], [], []] #[true, true, false, false, false, false, false, false, false, false, false, false, true, true]
                      ((.val ?vt0) :: (.val ?vt1) :: (.val undef) :: (.val undef) :: (.val undef) :: (.val undef) :: (.val undef) :: (.val undef) :: (.val undef) :: (.val undef) :: (.val undef) :: (.val undef) :: (.val ?vt12) :: (.val ?vt13) :: []).toArray
                      hmx ?chkt ?grdt ?stpt ?rstt
                    case chkt => rfl
                    case stpt =>
                      refine ⟨?_, ?_, ?_, ?_, ?_, ?_, ?_, ?_, ?_, ?_, ?_, ?_, ?_, ?_, trivial⟩
                      · refine step_intro rfl rfl fun ρ X hc hf hgl hX hp ho => ?_
                        change StepOk _ { dst := _, op := Op.move (Operand.tmp 20), type := _, pos := _, after := _, guard := _ } _ _ _
                        have k20 : ρ (.tmp 20) = .bool true := ho 20 (by decide)
                        clear hp ho
                        refine StepOk.of_run (v := ?vt0) (w' := X) ?_ ⟨rfl, Below.refl _ _⟩
                        clear hX
                        go_simp
                        all_goals try go_bits
                        all_goals try simp only [IntWalk.iteOmega]
                        all_goals try go_bits
                        all_goals rfl
                      · refine step_intro rfl rfl fun ρ X hc hf hgl hX hp ho => ?_
                        change StepOk _ { dst := _, op := Op.move (Operand.tmp 186), type := _, pos := _, after := _, guard := _ } _ _ _
                        have k186 : ρ (.tmp 186) = ?vt0 := hp 0 (by decide)
                        clear hp ho
                        refine StepOk.of_run (v := ?vt1) (w' := X) ?_ ⟨rfl, Below.refl _ _⟩
                        clear hX
                        go_simp
                        all_goals try go_bits
                        all_goals try simp only [IntWalk.iteOmega]
                        all_goals try go_bits
                        all_goals rfl
                      · exact step_skip rfl rfl (fun _ _ => rfl)
                      · exact step_skip rfl rfl (fun _ _ => rfl)
                      · exact step_skip rfl rfl (fun _ _ => rfl)
                      · exact step_skip rfl rfl (fun _ _ => rfl)
                      · exact step_skip rfl rfl (fun _ _ => rfl)
                      · exact step_skip rfl rfl (fun _ _ => rfl)
                      · exact step_skip rfl rfl (fun _ _ => rfl)
                      · exact step_skip rfl rfl (fun _ _ => rfl)
                      · exact step_skip rfl rfl (fun _ _ => rfl)
                      · exact step_skip rfl rfl (fun _ _ => rfl)
                      · refine step_intro rfl rfl fun ρ X hc hf hgl hX hp ho => ?_
                        change StepOk _ { dst := _, op := Op.pick (Operand.tmp 187) (Operand.const (Value.bool true)) (Operand.tmp 197), type := _, pos := _, after := _, guard := _ } _ _ _
                        have k187 : ρ (.tmp 187) = ?vt1 := hp 1 (by decide)
                        have k197 : ρ (.tmp 197) = undef := hp 11 (by decide)
                        clear hp ho
                        refine StepOk.of_run (v := ?vt12) (w' := X) ?_ ⟨rfl, Below.refl _ _⟩
                        clear hX
                        go_simp
                        all_goals try go_bits
                        all_goals try simp only [IntWalk.iteOmega]
                        all_goals try go_bits
                        all_goals rfl
                      · refine step_intro rfl rfl fun ρ X hc hf hgl hX hp ho => ?_
                        change StepOk _ { dst := _, op := Op.assign (Operand.tmp 198), type := _, pos := _, after := _, guard := _ } _ _ _
                        have k198 : ρ (.tmp 198) = ?vt12 := hp 12 (by decide)
                        clear hp ho
                        refine StepOk.of_run (v := ?vt13) (w' := X) ?_ ⟨rfl, Below.refl _ _⟩
                        clear hX
                        go_simp
                        all_goals try go_bits
                        all_goals try simp only [IntWalk.iteOmega]
                        all_goals try go_bits
                        all_goals rfl
                    case grdt => rfl
                    case rstt =>
                      intro a0 X hb
                      have hfr := hb.frame ((20, ?vt13) :: (186, ?vt0) :: (187, ?vt1) :: (188, undef) :: (189, undef) :: (190, undef) :: (191, undef) :: (192, undef) :: (193, undef) :: (194, undef) :: (195, undef) :: (196, undef) :: (197, undef) :: (198, ?vt12) :: []) rfl ⟨hb.done' 13 20 rfl rfl, hb.done' 0 186 rfl rfl, hb.done' 1 187 rfl rfl, hb.done' 2 188 rfl rfl, hb.done' 3 189 rfl rfl, hb.done' 4 190 rfl rfl, hb.done' 5 191 rfl rfl, hb.done' 6 192 rfl rfl, hb.done' 7 193 rfl rfl, hb.done' 8 194 rfl rfl, hb.done' 9 195 rfl rfl, hb.done' 10 196 rfl rfl, hb.done' 11 197 rfl rfl, hb.done' 12 198 rfl rfl, trivial⟩
                      simp only [updL, ↓reduceIte, Nat.reduceEqDiff, Nat.reduceAdd, Nat.zero_add] at hfr
                      have HX := Lib.hid hb.ext
                      clear hb
                      subst hfr
                      clear cg cm
                      go_wp2
                      go_roundw
                      case rel => exact ⟨j + 1, by have := Hjl.out; omega, by go_num, by rw [Hbd.out], Grows.trans' HGi.out HX.out⟩
                      case measure => have := Hjl.out; simp [intOf]; omega
                  · have eb : decide (p ∈ m.take j) = false := by simpa using hb
                    have Hbd : Hid (decide (p ∈ m.take (j + 1)) = decide (p = u)) := by show _ = _; rw [Htk.out]; simp [hb]
                    rw [eb]
                    clear hb eb
                    by_cases hpu : p = u
                    · have Hpu := Lib.hid hpu
                      have Hbd2 : Hid (decide (p ∈ m.take (j + 1)) = true) := by show _ = _; rw [Hbd.out]; simpa using hpu
                      clear hpu Hbd
                      go_wp2
                      refine specs_region
                        #[[], [0], [0, 1], [0, 1, 2], [0, 1], [0, 1], [0, 1, 4, 5], [0, 1, 4, 5, 6], [0, 1], [0, 1, 4, 5, 6, 7, 8], [0, 1, 4, 5, 6, 7, 8, 9], [0, 1, 2, 3, 4, 5, 6, 7, 8, 9, 10], [0, 1, 2, 3, 4, 5, 6, 7, 8, 9, 10, 11], [0, 1, 2, 3, 4, 5, 6, 7, 8, 9, 10, 11, 12]] #[[20], [], [18], [], [13], [17], [], [], [21], [], [], [], [], []] #[true, true, true, true, true, true, true, true, true, true, true, true, true, true]
                        ((.val ?vp0) :: (.val ?vp1) :: (.val ?vp2) :: (.val (.string ⟨p.toArray⟩)) :: (.val ?vp4) :: (.val ?vp5) :: (.val ?vp6) :: (.val ?vp7) :: (.val ?vp8) :: (.val ?vp9) :: (.val ?vp10) :: (.val (.bool true)) :: (.val ?vp12) :: (.val ?vp13) :: []).toArray
                        hmx ?chkp ?grdp ?stpp ?rstp
                      case chkp => rfl
                      case stpp =>
                        refine ⟨?_, ?_, ?_, ?_, ?_, ?_, ?_, ?_, ?_, ?_, ?_, ?_, ?_, ?_, trivial⟩
                        · refine step_intro rfl rfl fun ρ X hc hf hgl hX hp ho => ?_
                          change StepOk _ { dst := _, op := Op.move (Operand.tmp 20), type := _, pos := _, after := _, guard := _ } _ _ _
                          have k20 : ρ (.tmp 20) = .bool false := ho 20 (by decide)
                          clear hp ho
                          refine StepOk.of_run (v := ?vp0) (w' := X) ?_ ⟨rfl, Below.refl _ _⟩
                          clear hX
                          go_simp
                          all_goals try go_bits
                          all_goals try simp only [IntWalk.iteOmega]
                          all_goals try go_bits
                          all_goals rfl
                        · refine step_intro rfl rfl fun ρ X hc hf hgl hX hp ho => ?_
                          change StepOk _ { dst := _, op := Op.move (Operand.tmp 186), type := _, pos := _, after := _, guard := _ } _ _ _
                          have k186 : ρ (.tmp 186) = ?vp0 := hp 0 (by decide)
                          clear hp ho
                          refine StepOk.of_run (v := ?vp1) (w' := X) ?_ ⟨rfl, Below.refl _ _⟩
                          clear hX
                          go_simp
                          all_goals try go_bits
                          all_goals try simp only [IntWalk.iteOmega]
                          all_goals try go_bits
                          all_goals rfl
                        · refine step_intro rfl rfl fun ρ X hc hf hgl hX hp ho => ?_
                          change StepOk _ { dst := _, op := Op.move (Operand.tmp 18), type := _, pos := _, after := _, guard := _ } _ _ _
                          have k18 : ρ (.tmp 18) = .slice ra rl rc := ho 18 (by decide)
                          clear hp ho
                          refine StepOk.of_run (v := ?vp2) (w' := X) ?_ ⟨rfl, Below.refl _ _⟩
                          clear hX
                          go_simp
                          all_goals try go_bits
                          all_goals try simp only [IntWalk.iteOmega]
                          all_goals try go_bits
                          all_goals rfl
                        · refine step_intro rfl rfl fun ρ X hc hf hgl hX hp ho => ?_
                          change StepOk _ { dst := _, op := Op.convert 34 9 (Operand.tmp 188), type := _, pos := _, after := _, guard := _ } _ _ _
                          have k188 : ρ (.tmp 188) = ?vp2 := hp 2 (by decide)
                          clear hp ho
                          have hr := run_string (P := Tryd.prog) (T := 34) (e := 5) (S := 9) Tryd.underlying34 Tryd.underlying5 Tryd.underlying9 (Hbi.out.grows hX)
                          refine StepOk.of_run (v := .string ⟨p.toArray⟩) (w' := X) ?_ ⟨rfl, Below.refl _ _⟩
                          simp only [execOp, k188, hr, Sem.run_bind, Result.andThen_ok, Sem.run_pure]
                        · refine step_intro rfl rfl fun ρ X hc hf hgl hX hp ho => ?_
                          change StepOk _ { dst := _, op := Op.move (Operand.tmp 13), type := _, pos := _, after := _, guard := _ } _ _ _
                          have k13 : ρ (.tmp 13) = .slice (some ⟨g, 0, none⟩) 8 8 := ho 13 (by decide)
                          clear hp ho
                          refine StepOk.of_run (v := ?vp4) (w' := X) ?_ ⟨rfl, Below.refl _ _⟩
                          clear hX
                          go_simp
                          all_goals try go_bits
                          all_goals try simp only [IntWalk.iteOmega]
                          all_goals try go_bits
                          all_goals rfl
                        · refine step_intro rfl rfl fun ρ X hc hf hgl hX hp ho => ?_
                          change StepOk _ { dst := _, op := Op.move (Operand.tmp 17), type := _, pos := _, after := _, guard := _ } _ _ _
                          have k17 : ρ (.tmp 17) = .int .i64 (k : Int) := ho 17 (by decide)
                          clear hp ho
                          refine StepOk.of_run (v := ?vp5) (w' := X) ?_ ⟨rfl, Below.refl _ _⟩
                          clear hX
                          go_simp
                          all_goals try go_bits
                          all_goals try simp only [IntWalk.iteOmega]
                          all_goals try go_bits
                          all_goals rfl
                        · refine step_intro rfl rfl fun ρ X hc hf hgl hX hp ho => ?_
                          change StepOk _ { dst := _, op := Op.indexAddr 33 (Operand.tmp 190) (Operand.tmp 191), type := _, pos := _, after := _, guard := _ } _ _ _
                          have k190 : ρ (.tmp 190) = ?vp4 := hp 4 (by decide)
                          have k191 : ρ (.tmp 191) = ?vp5 := hp 5 (by decide)
                          clear hp ho
                          refine StepOk.of_run (v := ?vp6) (w' := X) ?_ ⟨rfl, Below.refl _ _⟩
                          clear hX
                          go_simp
                          all_goals try go_bits
                          all_goals try simp only [IntWalk.iteOmega]
                          all_goals try go_bits
                          all_goals rfl
                        · refine step_intro rfl rfl fun ρ X hc hf hgl hX hp ho => ?_
                          change StepOk _ { dst := _, op := Op.load 36 (Operand.tmp 192), type := _, pos := _, after := _, guard := _ } _ _ _
                          have k192 : ρ (.tmp 192) = ?vp6 := hp 6 (by decide)
                          have cgX := Grows.cell' hX cg
                          have cmX := Grows.cell' hX cm
                          clear hp ho
                          refine StepOk.of_run (v := ?vp7) (w' := X) ?_ ⟨rfl, Below.refl _ _⟩
                          clear hX
                          go_simp
                          all_goals try go_bits
                          all_goals try simp only [IntWalk.iteOmega]
                          all_goals try go_bits
                          all_goals rfl
                        · refine step_intro rfl rfl fun ρ X hc hf hgl hX hp ho => ?_
                          change StepOk _ { dst := _, op := Op.move (Operand.tmp 21), type := _, pos := _, after := _, guard := _ } _ _ _
                          have k21 : ρ (.tmp 21) = .int .i64 (j : Int) := ho 21 (by decide)
                          clear hp ho
                          refine StepOk.of_run (v := ?vp8) (w' := X) ?_ ⟨rfl, Below.refl _ _⟩
                          clear hX
                          go_simp
                          all_goals try go_bits
                          all_goals try simp only [IntWalk.iteOmega]
                          all_goals try go_bits
                          all_goals rfl
                        · refine step_intro rfl rfl fun ρ X hc hf hgl hX hp ho => ?_
                          change StepOk _ { dst := _, op := Op.indexAddr 36 (Operand.tmp 193) (Operand.tmp 194), type := _, pos := _, after := _, guard := _ } _ _ _
                          have k193 : ρ (.tmp 193) = ?vp7 := hp 7 (by decide)
                          have k194 : ρ (.tmp 194) = ?vp8 := hp 8 (by decide)
                          clear hp ho
                          refine StepOk.of_run (v := ?vp9) (w' := X) ?_ ⟨rfl, Below.refl _ _⟩
                          clear hX
                          go_simp
                          all_goals try go_bits
                          all_goals try simp only [IntWalk.iteOmega]
                          all_goals try go_bits
                          all_goals rfl
                        · refine step_intro rfl rfl fun ρ X hc hf hgl hX hp ho => ?_
                          change StepOk _ { dst := _, op := Op.load 9 (Operand.tmp 195), type := _, pos := _, after := _, guard := _ } _ _ _
                          have k195 : ρ (.tmp 195) = ?vp9 := hp 9 (by decide)
                          have cgX := Grows.cell' hX cg
                          have cmX := Grows.cell' hX cm
                          clear hp ho
                          refine StepOk.of_run (v := ?vp10) (w' := X) ?_ ⟨rfl, Below.refl _ _⟩
                          clear hX
                          go_simp
                          all_goals try go_bits
                          all_goals try simp only [IntWalk.iteOmega]
                          all_goals try go_bits
                          all_goals rfl
                        · refine step_intro rfl rfl fun ρ X hc hf hgl hX hp ho => ?_
                          change StepOk _ { dst := _, op := Op.binOp BinOp.eql 9 (Operand.tmp 189) (Operand.tmp 196) 9, type := _, pos := _, after := _, guard := _ } _ _ _
                          have k189 : ρ (.tmp 189) = (.string ⟨p.toArray⟩) := hp 3 (by decide)
                          have k196 : ρ (.tmp 196) = ?vp10 := hp 10 (by decide)
                          clear hp ho
                          refine StepOk.of_run (v := .bool true) (w' := X) ?_ ⟨rfl, Below.refl _ _⟩
                          clear hX
                          go_simp
                          all_goals try exact Hpu.out
                        · refine step_intro rfl rfl fun ρ X hc hf hgl hX hp ho => ?_
                          change StepOk _ { dst := _, op := Op.pick (Operand.tmp 187) (Operand.const (Value.bool true)) (Operand.tmp 197), type := _, pos := _, after := _, guard := _ } _ _ _
                          have k187 : ρ (.tmp 187) = ?vp1 := hp 1 (by decide)
                          have k197 : ρ (.tmp 197) = (.bool true) := hp 11 (by decide)
                          clear hp ho
                          refine StepOk.of_run (v := ?vp12) (w' := X) ?_ ⟨rfl, Below.refl _ _⟩
                          clear hX
                          go_simp
                          all_goals try go_bits
                          all_goals try simp only [IntWalk.iteOmega]
                          all_goals try go_bits
                          all_goals rfl
                        · refine step_intro rfl rfl fun ρ X hc hf hgl hX hp ho => ?_
                          change StepOk _ { dst := _, op := Op.assign (Operand.tmp 198), type := _, pos := _, after := _, guard := _ } _ _ _
                          have k198 : ρ (.tmp 198) = ?vp12 := hp 12 (by decide)
                          clear hp ho
                          refine StepOk.of_run (v := ?vp13) (w' := X) ?_ ⟨rfl, Below.refl _ _⟩
                          clear hX
                          go_simp
                          all_goals try go_bits
                          all_goals try simp only [IntWalk.iteOmega]
                          all_goals try go_bits
                          all_goals rfl
                      case grdp => rfl
                      case rstp =>
                        intro a0 X hb
                        have hfr := hb.frame ((20, ?vp13) :: (186, ?vp0) :: (187, ?vp1) :: (188, ?vp2) :: (189, (.string ⟨p.toArray⟩)) :: (190, ?vp4) :: (191, ?vp5) :: (192, ?vp6) :: (193, ?vp7) :: (194, ?vp8) :: (195, ?vp9) :: (196, ?vp10) :: (197, (.bool true)) :: (198, ?vp12) :: []) rfl ⟨hb.done' 13 20 rfl rfl, hb.done' 0 186 rfl rfl, hb.done' 1 187 rfl rfl, hb.done' 2 188 rfl rfl, hb.done' 3 189 rfl rfl, hb.done' 4 190 rfl rfl, hb.done' 5 191 rfl rfl, hb.done' 6 192 rfl rfl, hb.done' 7 193 rfl rfl, hb.done' 8 194 rfl rfl, hb.done' 9 195 rfl rfl, hb.done' 10 196 rfl rfl, hb.done' 11 197 rfl rfl, hb.done' 12 198 rfl rfl, trivial⟩
                        simp only [updL, ↓reduceIte, Nat.reduceEqDiff, Nat.reduceAdd, Nat.zero_add] at hfr
                        have HX := Lib.hid hb.ext
                        clear hb
                        subst hfr
                        clear cg cm
                        go_wp2
                        go_roundw
                        case rel => exact ⟨j + 1, by have := Hjl.out; omega, by go_num, by rw [Hbd2.out], Grows.trans' HGi.out HX.out⟩
                        case measure => have := Hjl.out; simp [intOf]; omega
                    · have Hpu := Lib.hid hpu
                      have Hbd2 : Hid (decide (p ∈ m.take (j + 1)) = false) := by show _ = _; rw [Hbd.out]; simpa using hpu
                      clear hpu Hbd
                      go_wp2
                      refine specs_region
                        #[[], [0], [0, 1], [0, 1, 2], [0, 1], [0, 1], [0, 1, 4, 5], [0, 1, 4, 5, 6], [0, 1], [0, 1, 4, 5, 6, 7, 8], [0, 1, 4, 5, 6, 7, 8, 9], [0, 1, 2, 3, 4, 5, 6, 7, 8, 9, 10], [0, 1, 2, 3, 4, 5, 6, 7, 8, 9, 10, 11], [0, 1, 2, 3, 4, 5, 6, 7, 8, 9, 10, 11, 12]] #[[20], [], [18], [], [13], [17], [], [], [21], [], [], [], [], []] #[true, true, true, true, true, true, true, true, true, true, true, true, true, true]
                        ((.val ?vn0) :: (.val ?vn1) :: (.val ?vn2) :: (.val (.string ⟨p.toArray⟩)) :: (.val ?vn4) :: (.val ?vn5) :: (.val ?vn6) :: (.val ?vn7) :: (.val ?vn8) :: (.val ?vn9) :: (.val ?vn10) :: (.val (.bool false)) :: (.val ?vn12) :: (.val ?vn13) :: []).toArray
                        hmx ?chkn ?grdn ?stpn ?rstn
                      case chkn => rfl
                      case stpn =>
                        refine ⟨?_, ?_, ?_, ?_, ?_, ?_, ?_, ?_, ?_, ?_, ?_, ?_, ?_, ?_, trivial⟩
                        · refine step_intro rfl rfl fun ρ X hc hf hgl hX hp ho => ?_
                          change StepOk _ { dst := _, op := Op.move (Operand.tmp 20), type := _, pos := _, after := _, guard := _ } _ _ _
                          have k20 : ρ (.tmp 20) = .bool false := ho 20 (by decide)
                          clear hp ho
                          refine StepOk.of_run (v := ?vn0) (w' := X) ?_ ⟨rfl, Below.refl _ _⟩
                          clear hX
                          go_simp
                          all_goals try go_bits
                          all_goals try simp only [IntWalk.iteOmega]
                          all_goals try go_bits
                          all_goals rfl
                        · refine step_intro rfl rfl fun ρ X hc hf hgl hX hp ho => ?_
                          change StepOk _ { dst := _, op := Op.move (Operand.tmp 186), type := _, pos := _, after := _, guard := _ } _ _ _
                          have k186 : ρ (.tmp 186) = ?vn0 := hp 0 (by decide)
                          clear hp ho
                          refine StepOk.of_run (v := ?vn1) (w' := X) ?_ ⟨rfl, Below.refl _ _⟩
                          clear hX
                          go_simp
                          all_goals try go_bits
                          all_goals try simp only [IntWalk.iteOmega]
                          all_goals try go_bits
                          all_goals rfl
                        · refine step_intro rfl rfl fun ρ X hc hf hgl hX hp ho => ?_
                          change StepOk _ { dst := _, op := Op.move (Operand.tmp 18), type := _, pos := _, after := _, guard := _ } _ _ _
                          have k18 : ρ (.tmp 18) = .slice ra rl rc := ho 18 (by decide)
                          clear hp ho
                          refine StepOk.of_run (v := ?vn2) (w' := X) ?_ ⟨rfl, Below.refl _ _⟩
                          clear hX
                          go_simp
                          all_goals try go_bits
                          all_goals try simp only [IntWalk.iteOmega]
                          all_goals try go_bits
                          all_goals rfl
                        · refine step_intro rfl rfl fun ρ X hc hf hgl hX hp ho => ?_
                          change StepOk _ { dst := _, op := Op.convert 34 9 (Operand.tmp 188), type := _, pos := _, after := _, guard := _ } _ _ _
                          have k188 : ρ (.tmp 188) = ?vn2 := hp 2 (by decide)
                          clear hp ho
                          have hr := run_string (P := Tryd.prog) (T := 34) (e := 5) (S := 9) Tryd.underlying34 Tryd.underlying5 Tryd.underlying9 (Hbi.out.grows hX)
                          refine StepOk.of_run (v := .string ⟨p.toArray⟩) (w' := X) ?_ ⟨rfl, Below.refl _ _⟩
                          simp only [execOp, k188, hr, Sem.run_bind, Result.andThen_ok, Sem.run_pure]
                        · refine step_intro rfl rfl fun ρ X hc hf hgl hX hp ho => ?_
                          change StepOk _ { dst := _, op := Op.move (Operand.tmp 13), type := _, pos := _, after := _, guard := _ } _ _ _
                          have k13 : ρ (.tmp 13) = .slice (some ⟨g, 0, none⟩) 8 8 := ho 13 (by decide)
                          clear hp ho
                          refine StepOk.of_run (v := ?vn4) (w' := X) ?_ ⟨rfl, Below.refl _ _⟩
                          clear hX
                          go_simp
                          all_goals try go_bits
                          all_goals try simp only [IntWalk.iteOmega]
                          all_goals try go_bits
                          all_goals rfl
                        · refine step_intro rfl rfl fun ρ X hc hf hgl hX hp ho => ?_
                          change StepOk _ { dst := _, op := Op.move (Operand.tmp 17), type := _, pos := _, after := _, guard := _ } _ _ _
                          have k17 : ρ (.tmp 17) = .int .i64 (k : Int) := ho 17 (by decide)
                          clear hp ho
                          refine StepOk.of_run (v := ?vn5) (w' := X) ?_ ⟨rfl, Below.refl _ _⟩
                          clear hX
                          go_simp
                          all_goals try go_bits
                          all_goals try simp only [IntWalk.iteOmega]
                          all_goals try go_bits
                          all_goals rfl
                        · refine step_intro rfl rfl fun ρ X hc hf hgl hX hp ho => ?_
                          change StepOk _ { dst := _, op := Op.indexAddr 33 (Operand.tmp 190) (Operand.tmp 191), type := _, pos := _, after := _, guard := _ } _ _ _
                          have k190 : ρ (.tmp 190) = ?vn4 := hp 4 (by decide)
                          have k191 : ρ (.tmp 191) = ?vn5 := hp 5 (by decide)
                          clear hp ho
                          refine StepOk.of_run (v := ?vn6) (w' := X) ?_ ⟨rfl, Below.refl _ _⟩
                          clear hX
                          go_simp
                          all_goals try go_bits
                          all_goals try simp only [IntWalk.iteOmega]
                          all_goals try go_bits
                          all_goals rfl
                        · refine step_intro rfl rfl fun ρ X hc hf hgl hX hp ho => ?_
                          change StepOk _ { dst := _, op := Op.load 36 (Operand.tmp 192), type := _, pos := _, after := _, guard := _ } _ _ _
                          have k192 : ρ (.tmp 192) = ?vn6 := hp 6 (by decide)
                          have cgX := Grows.cell' hX cg
                          have cmX := Grows.cell' hX cm
                          clear hp ho
                          refine StepOk.of_run (v := ?vn7) (w' := X) ?_ ⟨rfl, Below.refl _ _⟩
                          clear hX
                          go_simp
                          all_goals try go_bits
                          all_goals try simp only [IntWalk.iteOmega]
                          all_goals try go_bits
                          all_goals rfl
                        · refine step_intro rfl rfl fun ρ X hc hf hgl hX hp ho => ?_
                          change StepOk _ { dst := _, op := Op.move (Operand.tmp 21), type := _, pos := _, after := _, guard := _ } _ _ _
                          have k21 : ρ (.tmp 21) = .int .i64 (j : Int) := ho 21 (by decide)
                          clear hp ho
                          refine StepOk.of_run (v := ?vn8) (w' := X) ?_ ⟨rfl, Below.refl _ _⟩
                          clear hX
                          go_simp
                          all_goals try go_bits
                          all_goals try simp only [IntWalk.iteOmega]
                          all_goals try go_bits
                          all_goals rfl
                        · refine step_intro rfl rfl fun ρ X hc hf hgl hX hp ho => ?_
                          change StepOk _ { dst := _, op := Op.indexAddr 36 (Operand.tmp 193) (Operand.tmp 194), type := _, pos := _, after := _, guard := _ } _ _ _
                          have k193 : ρ (.tmp 193) = ?vn7 := hp 7 (by decide)
                          have k194 : ρ (.tmp 194) = ?vn8 := hp 8 (by decide)
                          clear hp ho
                          refine StepOk.of_run (v := ?vn9) (w' := X) ?_ ⟨rfl, Below.refl _ _⟩
                          clear hX
                          go_simp
                          all_goals try go_bits
                          all_goals try simp only [IntWalk.iteOmega]
                          all_goals try go_bits
                          all_goals rfl
                        · refine step_intro rfl rfl fun ρ X hc hf hgl hX hp ho => ?_
                          change StepOk _ { dst := _, op := Op.load 9 (Operand.tmp 195), type := _, pos := _, after := _, guard := _ } _ _ _
                          have k195 : ρ (.tmp 195) = ?vn9 := hp 9 (by decide)
                          have cgX := Grows.cell' hX cg
                          have cmX := Grows.cell' hX cm
                          clear hp ho
                          refine StepOk.of_run (v := ?vn10) (w' := X) ?_ ⟨rfl, Below.refl _ _⟩
                          clear hX
                          go_simp
                          all_goals try go_bits
                          all_goals try simp only [IntWalk.iteOmega]
                          all_goals try go_bits
                          all_goals rfl
                        · refine step_intro rfl rfl fun ρ X hc hf hgl hX hp ho => ?_
                          change StepOk _ { dst := _, op := Op.binOp BinOp.eql 9 (Operand.tmp 189) (Operand.tmp 196) 9, type := _, pos := _, after := _, guard := _ } _ _ _
                          have k189 : ρ (.tmp 189) = (.string ⟨p.toArray⟩) := hp 3 (by decide)
                          have k196 : ρ (.tmp 196) = ?vn10 := hp 10 (by decide)
                          clear hp ho
                          refine StepOk.of_run (v := .bool false) (w' := X) ?_ ⟨rfl, Below.refl _ _⟩
                          clear hX
                          go_simp
                          all_goals try exact Hpu.out
                        · refine step_intro rfl rfl fun ρ X hc hf hgl hX hp ho => ?_
                          change StepOk _ { dst := _, op := Op.pick (Operand.tmp 187) (Operand.const (Value.bool true)) (Operand.tmp 197), type := _, pos := _, after := _, guard := _ } _ _ _
                          have k187 : ρ (.tmp 187) = ?vn1 := hp 1 (by decide)
                          have k197 : ρ (.tmp 197) = (.bool false) := hp 11 (by decide)
                          clear hp ho
                          refine StepOk.of_run (v := ?vn12) (w' := X) ?_ ⟨rfl, Below.refl _ _⟩
                          clear hX
                          go_simp
                          all_goals try go_bits
                          all_goals try simp only [IntWalk.iteOmega]
                          all_goals try go_bits
                          all_goals rfl
                        · refine step_intro rfl rfl fun ρ X hc hf hgl hX hp ho => ?_
                          change StepOk _ { dst := _, op := Op.assign (Operand.tmp 198), type := _, pos := _, after := _, guard := _ } _ _ _
                          have k198 : ρ (.tmp 198) = ?vn12 := hp 12 (by decide)
                          clear hp ho
                          refine StepOk.of_run (v := ?vn13) (w' := X) ?_ ⟨rfl, Below.refl _ _⟩
                          clear hX
                          go_simp
                          all_goals try go_bits
                          all_goals try simp only [IntWalk.iteOmega]
                          all_goals try go_bits
                          all_goals rfl
                      case grdn => rfl
                      case rstn =>
                        intro a0 X hb
                        have hfr := hb.frame ((20, ?vn13) :: (186, ?vn0) :: (187, ?vn1) :: (188, ?vn2) :: (189, (.string ⟨p.toArray⟩)) :: (190, ?vn4) :: (191, ?vn5) :: (192, ?vn6) :: (193, ?vn7) :: (194, ?vn8) :: (195, ?vn9) :: (196, ?vn10) :: (197, (.bool false)) :: (198, ?vn12) :: []) rfl ⟨hb.done' 13 20 rfl rfl, hb.done' 0 186 rfl rfl, hb.done' 1 187 rfl rfl, hb.done' 2 188 rfl rfl, hb.done' 3 189 rfl rfl, hb.done' 4 190 rfl rfl, hb.done' 5 191 rfl rfl, hb.done' 6 192 rfl rfl, hb.done' 7 193 rfl rfl, hb.done' 8 194 rfl rfl, hb.done' 9 195 rfl rfl, hb.done' 10 196 rfl rfl, hb.done' 11 197 rfl rfl, hb.done' 12 198 rfl rfl, trivial⟩
                        simp only [updL, ↓reduceIte, Nat.reduceEqDiff, Nat.reduceAdd, Nat.zero_add] at hfr
                        have HX := Lib.hid hb.ext
                        clear hb
                        subst hfr
                        clear cg cm
                        go_wp2
                        go_roundw
                        case rel => exact ⟨j + 1, by have := Hjl.out; omega, by go_num, by rw [Hbd2.out], Grows.trans' HGi.out HX.out⟩
                        case measure => have := Hjl.out; simp [intOf]; omega
                · have hjl' : ¬ (j : Int) < (nm : Int) := by omega
                  have eb : decide (p ∈ m.take j) = true := by
                    rw [List.take_of_length_le (by rw [Hnm.out]; omega)]
                    simpa using Hin.out
                  rw [eb]
                  have HS5 : Hid (Sf3 w q (beginX x) Sx g vs M wi) := ⟨HS4.out.mine.grows HGi.out, HS4.out.might.grows HGi.out, HS4.out.ls, HS4.out.mem, HS4.out.short⟩
                  clear eb hjl hj
                  go_wp2
                  go_roundw
                  case rel => exact ⟨k + 1, _, by have := Hlt.out; omega, by go_num, HS5.out⟩
                  case measure => have := Hlt.out; simp [intOf]; omega
            · have hlt' : ¬ (k : Int) < 8 := by omega
              have HL := Lib.hid (pLive wn HS.out.mine.li.ek)
              have HMg := Lib.hid HS.out.mine.gr
              clear hlt hk HS
              go_wp2_with fail
              refine HL.out.mono ?_
              rintro e w9 ⟨rfl, hG⟩
              have HG9 := Lib.hid (Grows.trans' HMg.out hG)
              clear hG
              go_wp2
              go_ret
              exact ⟨rfl, HG9.out⟩
end Go.Proofs.YtoppcpiheaedlaaDoor
