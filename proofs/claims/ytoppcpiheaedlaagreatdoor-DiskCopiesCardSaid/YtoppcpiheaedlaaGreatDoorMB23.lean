/-
  The program's disk: what every statement of it asks besides.
-/
import Derived.Test.YtoppcpiheaedlaaGreatDoorMB4
import Derived.Test.YtoppcpiheaedlaaGreatDoorMB17
namespace Go.Proofs.YtoppcpiheaedlaaGreatDoor
open Go.RowKit Go.Maps Go.MapKept
set_option linter.unusedVariables false
set_option linter.unusedSimpArgs false
attribute [local go_sem] sv nv mv pv
theorem IsFault.nilOf {w : World} {v : Value} {op nm : List UInt8} (h : IsFault w v op nm 0) : v = .nilIface := by
 rcases h with ⟨_, h⟩ | ⟨h, _⟩
 · exact h
 · exact absurd rfl h
theorem IsFault.form {w : World} {v : Value} {op nm : List UInt8} {code : Int} (h : IsFault w v op nm code) (hc : code ≠ 0) : ∃ b, v = .iface 77 (.pointer (some ⟨b, 0, none⟩)) ∧ w.cell? ⟨b, 2, none⟩ = some (.iface 53 (.int .i64 code)) := by
 rcases h with ⟨h, _⟩ | ⟨_, b, e, hb⟩
 · exact absurd h hc
 · exact ⟨b, e, (IsFault.cells hb).2.2⟩
structure LiveIn (w : World) (q : Nat) (x : Px) : Prop where
 pd : PD w q x
 ek : EK w
 n0 : ¬ mutP q x 0
theorem LiveIn.turn {w w' : World} {q : Nat} {x x' : Px} (h : LiveIn w q x) (hT : TurnP q x x' w w') (hP : PD w' q x') : LiveIn w' q x' :=
 ⟨hP, h.ek.but hT.but h.n0, (hT.keepOut h.ek.pos h.n0).1⟩
theorem LiveIn.grows {w w' : World} {q : Nat} {x : Px} (h : LiveIn w q x) (g : Grows w w') : LiveIn w' q x := ⟨h.pd.grows g, h.ek.grows g, h.n0⟩
theorem Px.sDirs (x : Px) : x.dirs.length = x.s.dirs.length := by simp [Px.s]
theorem Px.sFiles (x : Px) : x.fs.length = x.s.files.length := by simp [Px.s]
theorem out_of {O : Nat → Prop} {b off n c : Nat} (h : ¬ O b) : Outside O (.slice (some ⟨b, off, none⟩) n c) := fun b' off' sp n' c' e _ => by
 simp only [Value.slice.injEq, Option.some.injEq, Addr.mk.injEq] at e
 rw [← e.1.1]
 exact h
theorem made_u8 (n : Nat) : (madeCells (Value.cells (.int .u8 0)) (n * 1)).toList = (List.replicate n (0 : UInt8)).map bv := by
 apply List.ext_getElem
 · simp [madeCells]
 · intro i h1 h2
   simp [madeCells, Value.cells, Nat.mod_one, bv]
def lx : Nm := [120]
def p7 : Sec := zero64.set 0 7
def l0 : Ps := newP 9
def l1 : Ps := (createP l0 lx).2
def l2 : Ps := (syncDirP l1).2
def l3 : Ps := (growP l2 lx 2).2
def l4 : Ps := (writeP l3 lx 0 p7).2
def l5 : Ps := (writeP l4 lx 1 p7).2
def l6 : Ps := crashP l5 0 [1]
def l7 : Ps := (readP l6 lx 0).2
def l8 : Ps := (readP l7 lx 1).2
def l9 : Ps := (createP l8 [88]).2
def smallP (s : Ps) : Bool := decide (s.dirs.length < 1000000) && decide (s.made < 1000000) && decide (s.files.length < 1000000) && decide (s.pend.length < 1000000)
theorem liveFacts : (createP l0 lx).1 = 0 ∧ (syncDirP l1).1 = 0 ∧ (growP l2 lx 2).1 = 0 ∧ (writeP l3 lx 0 p7).1 = 0 ∧ (writeP l4 lx 1 p7).1 = 0 ∧ (readP l6 lx 0).1 = (zero64, 0) ∧ (readP l7 lx 1).1 = (p7, 0) ∧ (createP l8 [88]).1 = 2 ∧ (removeP l9 [121]).1 = 7 := by decide +kernel
theorem liveSmall : smallP l0 && smallP l1 && smallP l2 && smallP l3 && smallP l4 && smallP l5 && smallP l6 && smallP l7 && smallP l8 && smallP l9 = true := by decide +kernel
theorem small_of {s : Ps} {x : Px} (h : smallP s = true) (hs : x.s = s) : x.dirs.length < 1000000 ∧ x.made < 1000000 ∧ x.fs.length < 1000000 ∧ x.pend.length < 1000000 := by
 unfold smallP at h
 simp only [Bool.and_eq_true, decide_eq_true_eq] at h
 rw [Px.sDirs, Px.sFiles, hs, show x.made = x.s.made from rfl, show x.pend = x.s.pend from rfl, hs]
 exact ⟨h.1.1.1, h.1.1.2, h.1.2, h.2⟩
theorem liveS (k : Nat) (hk : k < 10) : smallP ([l0, l1, l2, l3, l4, l5, l6, l7, l8, l9].getD k l0) = true := by
 have h := liveSmall
 simp only [Bool.and_eq_true] at h
 obtain ⟨⟨⟨⟨⟨⟨⟨⟨⟨h0, h1⟩, h2⟩, h3⟩, h4⟩, h5⟩, h6⟩, h7⟩, h8⟩, h9⟩ := h
 match k, hk with
 | 0, _ => exact h0
 | 1, _ => exact h1
 | 2, _ => exact h2
 | 3, _ => exact h3
 | 4, _ => exact h4
 | 5, _ => exact h5
 | 6, _ => exact h6
 | 7, _ => exact h7
 | 8, _ => exact h8
 | 9, _ => exact h9
theorem ok1 (b : UInt8) : okS [b] := by unfold okS maxLen; simp
structure LiveB (w : World) (q : Nat) (x : Px) (pb : Nat) : Prop where
 byt : Byt w (.slice (some ⟨pb, 0, none⟩) 64 64) p7
 np : ¬ mutP q x pb
 lt : pb < w.heap.size
theorem LiveB.turn {w w' : World} {q pb : Nat} {x x' : Px} (h : LiveB w q x pb) (hT : TurnP q x x' w w') : LiveB w' q x' pb :=
 ⟨h.byt.but hT.but (out_of h.np), (hT.keepOut h.lt h.np).1, (hT.keepOut h.lt h.np).2⟩
theorem LiveB.grows {w w' : World} {q pb : Nat} {x : Px} (h : LiveB w q x pb) (g : Grows w w') : LiveB w' q x pb := ⟨h.byt.grows g, h.np, Nat.lt_of_lt_of_le h.lt g.size⟩
theorem liveMake {W : World} {g B : Nat} (h : W.ownsRow B 5 1 (.slice (some ⟨g, 0, none⟩) 64 64) 64 (madeCells (Value.cells (.int .u8 0)) (64 * 1)).toList) :
 W.cell? ⟨g, 0, none⟩ = some (.int .u8 0) ∧ W.frozen? ⟨g, 0, none⟩ = false ∧ Hid (Own 5 B (W.setCell ⟨g, 0, none⟩ (.int .u8 7)) (.slice (some ⟨g, 0, none⟩) 64 64) p7) := by
 rw [made_u8] at h
 have ho : Own 5 B W (.slice (some ⟨g, 0, none⟩) 64 64) zero64 := h
 refine ⟨?_, ho.unfrozen 0, ho.store 0 7⟩
 have := ho.cell 0 (by simp [zero64])
 exact this
set_option maxRecDepth 100000 in
set_option maxHeartbeats 16000000 in
theorem pLive (w : World) (hek : EK w) : Calls Tryz.prog 9 #[] w fun e w' => e = .returned (.bool true) ∧ Grows w w' := by
 obtain ⟨i5, hi5, hz5, hs5, hb5⟩ := info5d_parts
 have Hek := Lib.hid hek
 clear hek
 have HN := pNew 9 (by omega) w
 rw [show ((9 : Nat) : Int) = 9 from rfl] at HN
 have HN := Lib.hid HN
 go_enter Tryz.func9, Tryz.ntmps9
 go_wp2_with fail
 refine HN.out.mono ?_
 rintro e w0 ⟨q, x0, rfl, hP, hs, hG, hu⟩
 have HS0 : Hid (x0.s = l0) := hs
 have HG0 := Lib.hid hG
 have HU0 := Lib.hid hu
 have HL00 : Hid (LiveIn w0 q x0) := ⟨hP, Hek.out.grows hG, fun h => by have := hu 0 (mut_use h); have := Hek.out.pos; omega⟩
 clear hP hs hG hu HN
 go_wp2_with (first | (at_make; refine wpList_make_full _ rfl _ _ 36 rfl w0.heap.size 5 i5 _ 1 Tryz.underlying36 hi5 hz5 hs5 .i64 .i64 _ _ 64 rfl rfl rfl rfl (by rw [hb5]; omega) (by unfold maxLen; omega) (Nat.le_refl _) ?_; intro wm hom hgm; obtain ⟨hcm, hfm, HOm⟩ := liveMake hom; clear hom) | fail)
 obtain ⟨pb, Hpb⟩ : ∃ y, Hid (w0.heap.size = y) := ⟨_, rfl⟩
 rw [Hpb.out] at HOm hcm hfm ⊢
 have hGm : Grows w0 (wm.setCell ⟨pb, 0, none⟩ (.int .u8 7)) := Below.setCell (Below.grown (Below.refl _ _) hgm (Nat.le_refl _) (fun j hj => by cases hj)) (by show _ ≤ pb; rw [Hpb.out]; exact Nat.le_refl _) _
 have HL0 := Lib.hid (HL00.out.grows hGm)
 have HGm := Lib.hid (Grows.trans' HG0.out hGm)
 have HB0 : Hid (LiveB (wm.setCell ⟨pb, 0, none⟩ (.int .u8 7)) q x0 pb) := ⟨HOm.out.byt, fun hm => by have := HL00.out.pd.ltU (mut_use hm); have := Hpb.out; omega, HOm.out.form (by simp [p7, zero64]) |>.elim fun g h => by obtain ⟨c, e, _⟩ := h; exact World.block_lt_of_cell? _ _ (HOm.out.cell 0 (by simp [p7, zero64]))⟩
 clear hcm hfm hGm hgm
 have HC1 := Lib.hid (PCreate HL0.out.pd lx (ok1 120) (by simp [lx]) ⟨(small_of (liveS 0 (by omega)) HS0.out).1, (small_of (liveS 0 (by omega)) HS0.out).2.1, (small_of (liveS 0 (by omega)) HS0.out).2.2.1⟩)
 try unfold lx at HC1
 try unfold sv at HC1
 go_wp2_with fail
 refine HC1.out.mono ?_
 rintro e u1 ⟨v1, rfl, hF, x1, hP, hs, hT⟩
 rw [HS0.out] at hF hs
 have hF : IsFault u1 v1 opCreate lx 0 := by rw [← liveFacts.1]; exact hF
 have ev := hF.nilOf
 subst ev
 have HS1 : Hid (x1.s = l1) := hs
 have HL1a := Lib.hid (HL0.out.turn hT hP)
 have HT1 := Lib.hid hT
 clear hF hs hP hT HC1
 have HB1 := Lib.hid (HB0.out.turn HT1.out)
 have HC := Lib.hid (pTold0 opCreate lx u1)
 try unfold sv at HC
 go_wp2_with fail
 refine HC.out.mono ?_
 rintro e w1 ⟨rfl, hG⟩
 have HL1 := Lib.hid (HL1a.out.grows hG)
 have HG1 := Lib.hid hG
 clear hG HC
 have HB1 := Lib.hid (HB1.out.grows HG1.out)
 have HC2 := Lib.hid (PSyncDir HL1.out.pd )
 try unfold lx at HC2
 try unfold sv at HC2
 go_wp2_with fail
 refine HC2.out.mono ?_
 rintro e u2 ⟨v2, rfl, hF, x2, hP, hs, hT⟩
 rw [HS1.out] at hF hs
 have hF : IsFault u2 v2 opSyncDir [] 0 := by rw [← liveFacts.2.1]; exact hF
 have ev := hF.nilOf
 subst ev
 have HS2 : Hid (x2.s = l2) := hs
 have HL2a := Lib.hid (HL1.out.turn hT hP)
 have HT2 := Lib.hid hT
 clear hF hs hP hT HC2
 have HB2 := Lib.hid (HB1.out.turn HT2.out)
 have HC := Lib.hid (pTold0 opSyncDir [] u2)
 try unfold sv at HC
 go_wp2_with fail
 refine HC.out.mono ?_
 rintro e w2 ⟨rfl, hG⟩
 have HL2 := Lib.hid (HL2a.out.grows hG)
 have HG2 := Lib.hid hG
 clear hG HC
 have HB2 := Lib.hid (HB2.out.grows HG2.out)
 have HC3 := Lib.hid (PGrow HL2.out.pd lx (ok1 120) 2 (by omega))
 try unfold lx at HC3
 try unfold sv at HC3
 go_wp2_with fail
 refine HC3.out.mono ?_
 rintro e u3 ⟨v3, rfl, hF, x3, hP, hs, hT⟩
 rw [HS2.out] at hF hs
 have hF : IsFault u3 v3 opGrow lx 0 := by rw [← liveFacts.2.2.1]; exact hF
 have ev := hF.nilOf
 subst ev
 have HS3 : Hid (x3.s = l3) := hs
 have HL3a := Lib.hid (HL2.out.turn hT hP)
 have HT3 := Lib.hid hT
 clear hF hs hP hT HC3
 have HB3 := Lib.hid (HB2.out.turn HT3.out)
 have HC := Lib.hid (pTold0 opGrow lx u3)
 try unfold sv at HC
 go_wp2_with fail
 refine HC.out.mono ?_
 rintro e w3 ⟨rfl, hG⟩
 have HL3 := Lib.hid (HL3a.out.grows hG)
 have HG3 := Lib.hid hG
 clear hG HC
 have HB3 := Lib.hid (HB3.out.grows HG3.out)
 have HC4 := Lib.hid (PWrite HL3.out.pd lx (ok1 120) 0 (by omega) _ p7 HB3.out.byt (out_of HB3.out.np) (by simp [p7, zero64]) (small_of (liveS 3 (by omega)) HS3.out).2.2.2)
 try unfold lx at HC4
 try unfold sv at HC4
 go_wp2_with fail
 refine HC4.out.mono ?_
 rintro e u4 ⟨v4, rfl, hF, x4, hP, hs, hT⟩
 rw [HS3.out] at hF hs
 have hF : IsFault u4 v4 opWrite lx 0 := by rw [← liveFacts.2.2.2.1]; exact hF
 have ev := hF.nilOf
 subst ev
 have HS4 : Hid (x4.s = l4) := hs
 have HL4a := Lib.hid (HL3.out.turn hT hP)
 have HT4 := Lib.hid hT
 clear hF hs hP hT HC4
 have HB4 := Lib.hid (HB3.out.turn HT4.out)
 have HC := Lib.hid (pTold0 opWrite lx u4)
 try unfold sv at HC
 go_wp2_with fail
 refine HC.out.mono ?_
 rintro e w4 ⟨rfl, hG⟩
 have HL4 := Lib.hid (HL4a.out.grows hG)
 have HG4 := Lib.hid hG
 clear hG HC
 have HB4 := Lib.hid (HB4.out.grows HG4.out)
 have HC5 := Lib.hid (PWrite HL4.out.pd lx (ok1 120) 1 (by omega) _ p7 HB4.out.byt (out_of HB4.out.np) (by simp [p7, zero64]) (small_of (liveS 4 (by omega)) HS4.out).2.2.2)
 try unfold lx at HC5
 try unfold sv at HC5
 go_wp2_with fail
 refine HC5.out.mono ?_
 rintro e u5 ⟨v5, rfl, hF, x5, hP, hs, hT⟩
 rw [HS4.out] at hF hs
 have hF : IsFault u5 v5 opWrite lx 0 := by rw [← liveFacts.2.2.2.2.1]; exact hF
 have ev := hF.nilOf
 subst ev
 have HS5 : Hid (x5.s = l5) := hs
 have HL5a := Lib.hid (HL4.out.turn hT hP)
 have HT5 := Lib.hid hT
 clear hF hs hP hT HC5
 have HC := Lib.hid (pTold0 opWrite lx u5)
 try unfold sv at HC
 go_wp2_with fail
 refine HC.out.mono ?_
 rintro e w5 ⟨rfl, hG⟩
 have HL5 := Lib.hid (HL5a.out.grows hG)
 have HG5 := Lib.hid hG
 clear hG HC
 obtain ⟨kb, Hkb⟩ : ∃ y, Hid (w5.heap.size = y) := ⟨_, rfl⟩
 have hGk := Grows.alloc' w5 (.cells #[.int .i64 1] 3)
 have hkr := heap_alloc_new w5 (.cells #[.int .i64 1] 3)
 rw [Hkb.out] at hkr
 have hIk : IntS (w5.alloc (.cells #[.int .i64 1] 3)) (.slice (some ⟨kb, 0, none⟩) 1 1) [1] := ⟨_, _, rfl, .inr ⟨kb, 0, rfl, fun i hi => by
  have : i = 0 := by simp at hi; omega
  subst this
  rw [cell_of_row _ kb 0 _ _ _ hkr]; rfl⟩⟩
 have HC6 := Lib.hid (pCrash (HL5.out.pd.grows hGk) 0 (by omega) _ [1] hIk (out_of (fun hm => by have := HL5.out.pd.ltU (mut_use hm); have := Hkb.out; omega)) (by simp) (by intro z hz; simp at hz; omega))
 have HL5k := Lib.hid (HL5.out.grows hGk)
 have HG5k := Lib.hid hGk
 clear hGk hkr hIk
 go_wp2_with fail
 rw [Hkb.out]
 refine HC6.out.mono ?_
 rintro e w6 ⟨rfl, x6, hP, hs, hT⟩
 rw [HS5.out] at hs
 have HS6 : Hid (x6.s = l6) := hs
 have HL6 := Lib.hid (HL5k.out.turn hT hP)
 have HT6 := Lib.hid hT
 clear hs hP hT HC6
 have HC7 := Lib.hid (PRead HL6.out.pd lx (ok1 120) 0 (by omega))
 try unfold lx at HC7
 try unfold sv at HC7
 go_wp2_with fail
 refine HC7.out.mono ?_
 rintro e w7 ⟨r7, v7, rfl, ho, hF, hP, hs, hT⟩
 rw [HS6.out] at hF hs ho
 rw [show [(120 : UInt8)] = lx from rfl, liveFacts.2.2.2.2.2.1] at hF ho
 have ev := hF.nilOf
 subst ev
 obtain ⟨g7, k7, e7, hgb⟩ := ho.form (by simp [p7, zero64])
 rw [show zero64.length = 64 by simp [p7, zero64]] at e7
 subst e7
 have hcc := ho.cell 0 (by simp [p7, zero64])
 rw [show bv (zero64.getD 0 0) = .int .u8 0 from rfl] at hcc
 have Hcc7 := Lib.hid hcc
 have Hgb7 := Lib.hid hgb
 have HS7 : Hid ((beginX x6).s = l7) := hs
 have HL7 := Lib.hid (HL6.out.turn hT hP)
 have HT7 := Lib.hid hT
 clear hF hs hP hT HC7 ho hcc hgb
 have HC8 := Lib.hid (PRead HL7.out.pd lx (ok1 120) 1 (by omega))
 try unfold lx at HC8
 try unfold sv at HC8
 go_wp2_with fail
 refine HC8.out.mono ?_
 rintro e w8 ⟨r8, v8, rfl, ho, hF, hP, hs, hT⟩
 rw [HS7.out] at hF hs ho
 rw [show [(120 : UInt8)] = lx from rfl, liveFacts.2.2.2.2.2.2.1] at hF ho
 have ev := hF.nilOf
 subst ev
 obtain ⟨g8, k8, e8, hgb⟩ := ho.form (by simp [p7, zero64])
 rw [show p7.length = 64 by simp [p7, zero64]] at e8
 subst e8
 have hcc := ho.cell 0 (by simp [p7, zero64])
 rw [show bv (p7.getD 0 0) = .int .u8 7 from rfl] at hcc
 have Hcc8 := Lib.hid hcc
 have Hgb8 := Lib.hid hgb
 have HS8 : Hid ((beginX (beginX x6)).s = l8) := hs
 have HL8 := Lib.hid (HL7.out.turn hT hP)
 have HT8 := Lib.hid hT
 clear hF hs hP hT HC8 ho hcc hgb
 have Hn7 : Hid (¬ mutP q (beginX (beginX x6)) g7 ∧ g7 < w8.heap.size) := by
  have hlt : g7 < w7.heap.size := World.block_lt_of_cell? _ _ Hcc7.out
  have hn : ¬ mutP q (beginX x6) g7 := fun hm => by have := HL6.out.pd.ltU (k := g7) (mut_use hm); have := Hgb7.out; omega
  exact HT8.out.keepOut hlt hn
 have Hn8 : Hid (¬ mutP q (beginX (beginX x6)) g8 ∧ g8 < w8.heap.size) := by
  refine ⟨fun hm => ?_, World.block_lt_of_cell? _ _ Hcc8.out⟩
  have := HL7.out.pd.ltU (k := g8) (mut_use hm)
  have := Hgb8.out
  omega
 have hc7 := HT8.out.but.cell (p := ⟨g7, 0, none⟩) (fun hm => by have := HL6.out.pd.ltU (k := g7) (mut_use hm); have := Hgb7.out; omega) Hcc7.out
 have hc8 := Hcc8.out
 have HC9 := Lib.hid (PCreate HL8.out.pd [88] (ok1 88) (by simp) ⟨(small_of (liveS 8 (by omega)) HS8.out).1, (small_of (liveS 8 (by omega)) HS8.out).2.1, (small_of (liveS 8 (by omega)) HS8.out).2.2.1⟩)
 try unfold sv at HC9
 go_wp2_with fail
 refine HC9.out.mono ?_
 rintro e u9 ⟨v9, rfl, hF, x9, hP, hs, hT⟩
 rw [HS8.out] at hF hs
 have HF9 : Hid (IsFault u9 v9 opCreate [88] 2) := by show IsFault _ _ _ _ _; rw [← liveFacts.2.2.2.2.2.2.2.1]; exact hF
 have HS9 : Hid (x9.s = l9) := hs
 have HL9a := Lib.hid (HL8.out.turn hT hP)
 have HT9 := Lib.hid hT
 clear hF hs hP hT HC9
 have HC := Lib.hid (pTold v9 opCreate [88] 2 u9 HL9a.out.ek HF9.out (by omega))
 try unfold sv at HC
 go_wp2_with fail
 refine HC.out.mono ?_
 rintro e w9 ⟨rfl, hG⟩
 have HL9 := Lib.hid (HL9a.out.grows hG)
 have HG9 := Lib.hid hG
 clear hG HC
 have HC10 := Lib.hid (PRemove HL9.out.pd [121] (ok1 121) (small_of (liveS 9 (by omega)) HS9.out).1)
 try unfold sv at HC10
 go_wp2_with fail
 refine HC10.out.mono ?_
 rintro e u10 ⟨v10, rfl, hF, x10, hP, hs, hT⟩
 rw [HS9.out] at hF
 have hF : IsFault u10 v10 opRemove [121] 7 := by rw [← liveFacts.2.2.2.2.2.2.2.2]; exact hF
 obtain ⟨fb, rfl, hfc⟩ := hF.form (by omega)
 have HT10 := Lib.hid hT
 have HI := Lib.hid (pIs fb 7 u10 hfc)
 clear hF hs hP hT HC10 hfc
 go_wp2_with fail
 refine HI.out.mono ?_
 rintro e w11 ⟨rfl, e3⟩
 have e4 := e3.symm
 subst e4
 have Hend : Hid (Grows w u10) := by
  have h0 := HG0.out
  have sub : ∀ k, useP q x0 k → w.heap.size ≤ k := HU0.out
  have fresh : ∀ {a b c : World} {x x' : Px}, Grows a b → (∀ k, useP q x k → a.heap.size ≤ k) → TurnP q x x' b c → Grows a c ∧ ∀ k, useP q x' k → a.heap.size ≤ k := fun h hu ht =>
   ⟨⟨ht.but.os.trans h.os, ht.but.tape.trans h.tape, ht.but.output.trans h.output, Nat.le_trans h.size ht.but.size, fun k hk => (ht.but.block k (Nat.lt_of_lt_of_le hk h.size) (fun hm => by have := hu k (mut_use hm); omega)).trans (h.block k hk)⟩, fun k hk => (ht.uses k hk).elim (hu k) (fun hl => Nat.le_trans h.size hl)⟩
  obtain ⟨a1, b1⟩ := fresh HGm.out sub HT1.out
  obtain ⟨a2, b2⟩ := fresh (Grows.trans' a1 HG1.out) b1 HT2.out
  obtain ⟨a3, b3⟩ := fresh (Grows.trans' a2 HG2.out) b2 HT3.out
  obtain ⟨a4, b4⟩ := fresh (Grows.trans' a3 HG3.out) b3 HT4.out
  obtain ⟨a5, b5⟩ := fresh (Grows.trans' a4 HG4.out) b4 HT5.out
  obtain ⟨a6, b6⟩ := fresh (Grows.trans' (Grows.trans' a5 HG5.out) HG5k.out) b5 HT6.out
  obtain ⟨a7, b7⟩ := fresh a6 b6 HT7.out
  obtain ⟨a8, b8⟩ := fresh a7 b7 HT8.out
  obtain ⟨a9, b9⟩ := fresh a8 b8 HT9.out
  obtain ⟨a10, b10⟩ := fresh (Grows.trans' a9 HG9.out) b9 HT10.out
  exact a10
 clear hc7 hc8
 go_wp2
 go_ret
 exact ⟨rfl, Hend.out⟩
end Go.Proofs.YtoppcpiheaedlaaGreatDoor
