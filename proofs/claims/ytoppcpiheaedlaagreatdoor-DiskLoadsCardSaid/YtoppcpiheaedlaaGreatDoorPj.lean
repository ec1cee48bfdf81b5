/-
  The program's disk: a new disk; arming; all changes made safe; what is answered with an error.
-/
import Derived.Test.YtoppcpiheaedlaaGreatDoorPi
namespace Go.Proofs.YtoppcpiheaedlaaGreatDoor
open Go.RowKit Go.Maps Go.MapKept
set_option linter.unusedVariables false
set_option linter.unusedSimpArgs false
attribute [local go_sem] sv nv mv pv

set_option maxRecDepth 100000 in
set_option maxHeartbeats 1000000 in
theorem pSyncDir {w : World} {q : Nat} {x : Px} (h : PD w q x) :
    Calls Tryz.prog 74 #[.pointer (some ⟨q, 0, none⟩)] w fun e w' => e = .returned (.int .i64 (syncDirP x.s).1) ∧ ∃ x', PD w' q x' ∧ x'.s = (syncDirP x.s).2 ∧ TurnP q x x' w w' := by
  have HB := Lib.hid (pBegin h)
  by_cases hf : (beginP x.s).1 = 0
  · have Hr : Hid (syncDirP x.s = (0, settleP (beginX x).s (nowX (beginX x)).2)) := by
      show _ = _
      unfold syncDirP
      rw [guardP_yes hf, ← beginX_s, nowX_s]
    rw [hf] at HB
    clear h hf
    go_enter Tryz.func74, Tryz.ntmps74
    go_wp2_with fail
    refine HB.out.mono ?_
    rintro e w1 ⟨rfl, hP, hT⟩
    have HP := Lib.hid hP
    have HT := Lib.hid hT
    have HN := Lib.hid (pNow hP)
    obtain ⟨d, Hd⟩ : ∃ d, Hid (nowX (beginX x) = d) := ⟨_, rfl⟩
    rw [Hd.out] at HN Hr
    have hdm := nowX_mem _ hP.wf.ne
    rw [Hd.out] at hdm
    have Hdm := Lib.hid hdm
    unfold mv at HN
    clear hP hT hdm
    go_wp2_with fail
    refine HN.out.mono ?_
    rintro e w2 ⟨rfl, hG⟩
    have HT2 := Lib.hid (HT.out.trans (TurnP.ofGrows hG))
    have HS := Lib.hid (pSettle (HP.out.grows hG) d Hdm.out)
    clear hG
    go_wp2_with fail
    refine HS.out.mono ?_
    rintro e w3 ⟨rfl, v, fm, hP, hT⟩
    have HP3 := Lib.hid hP
    have HT3 := Lib.hid (HT2.out.trans hT)
    clear hP hT
    go_wp2
    go_ret
    exact ⟨by rw [Hr.out]; rfl, _, HP3.out, by rw [Hr.out, settled_s], HT3.out⟩
  · have Hr : Hid (syncDirP x.s = beginP x.s) := guardP_no hf
    obtain ⟨fc, Hfc⟩ : ∃ y, Hid ((beginP x.s).1 = y) := ⟨_, rfl⟩
    rw [Hfc.out] at HB hf
    have hne : (fc == 0) = false := by simpa using hf
    clear h hf
    go_enter Tryz.func74, Tryz.ntmps74
    go_wp2_with fail
    refine HB.out.mono ?_
    rintro e w1 ⟨rfl, hP, hT⟩
    have HP := Lib.hid hP
    have HT := Lib.hid hT
    clear hP hT
    go_wp2
    go_ret
    exact ⟨by rw [Hr.out, Hfc.out]; rfl, beginX x, HP.out, by rw [Hr.out, beginX_s], HT.out⟩

/-- A disk that was just made. -/
def Px.new (m : Nat) (v : Value) (b fm : Nat) : Px := ⟨m, v, [(b, [])], fm, [], 0, .slice none 0 0, [], 0, 0⟩
theorem PD.new {W : World} {q m g b fm : Nat} (hm : m ≤ 4096) (hr : W.heap[q]? = some (.cells (pdRow (Px.new m (.slice (some ⟨g, 0, none⟩) 1 1) b fm)) 100 (0, 0))) (hg : W.heap[g]? = some (.cells #[mv b] 103 (0, 0)))
    (hb : W.heap[b]? = some (.map #[] 0)) (hf : W.heap[fm]? = some (.map #[] 0)) (hne : b ≠ fm) : PD W q (Px.new m (.slice (some ⟨g, 0, none⟩) 1 1) b fm) where
  row := hr
  dirs := ⟨⟨rfl, .inr ⟨g, 1, _, rfl, Nat.zero_le _, hg, Nat.le_refl _, by simp [maxLen], rfl, rfl⟩⟩, fun d hd => by
    rw [List.mem_singleton.1 hd]
    exact ⟨#[], 0, hb, stamped_empty 0, by simp, by simp⟩⟩
  files := ⟨⟨#[], 0, hf, stamped_empty 0, by simp, by simp [Px.new]⟩, fun f hf => by simp [Px.new] at hf, fun f hf => by simp [Px.new] at hf⟩
  pend := World.ownsRow_nil _ 0 _ 66
  fnd := fun d hd => by rw [List.mem_singleton.1 hd]; exact hne
  wf := ⟨hm, by simp [Px.new], fun d hd => by rw [List.mem_singleton.1 hd]; simp, fun f hf => by simp [Px.new] at hf, fun w hw => by simp [Px.new] at hw, by show _ ≤ (0 : Int) ∧ (0 : Int) ≤ _; omega, by simp [Px.new]⟩

set_option maxRecDepth 100000 in
theorem pEmpty (m : Nat) (hm : m ≤ 4096) (w : World) :
    Calls Tryz.prog 34 #[.int .i64 (m : Int)] w fun e w' => ∃ q x, e = .returned (.tuple #[.pointer (some ⟨q, 0, none⟩), .int .i64 0]) ∧ PD w' q x ∧ x.s = newP m ∧ Grows w w' ∧ ∀ k, useP q x k → w.heap.size ≤ k := by
  have h1 : ¬ (m : Int) < 0 := by omega
  have h2 : ¬ (4096 : Int) < (m : Int) := by omega
  have Hm := Lib.hid hm
  have hmk := @run_makeMap Tryz.prog
  clear hm
  go_enter Tryz.func34, Tryz.ntmps34
  go_wp2
  go_ret2
  have e1 : (w.alloc (.map #[] 0)).heap.size = w.heap.size + 1 := by simp
  have e2 : ((w.alloc (.map #[] 0)).alloc (.cells #[.map (some w.heap.size)] 103)).heap.size = w.heap.size + 1 + 1 := by simp
  have e3 : (((w.alloc (.map #[] 0)).alloc (.cells #[.map (some w.heap.size)] 103)).alloc (.map #[] 0)).heap.size = w.heap.size + 1 + 1 + 1 := by simp
  have a1 := heap_alloc_new w (.map #[] 0)
  have a2 := heap_alloc_new (w.alloc (.map #[] 0)) (.cells #[.map (some w.heap.size)] 103)
  have a3 := heap_alloc_new ((w.alloc (.map #[] 0)).alloc (.cells #[.map (some w.heap.size)] 103)) (.map #[] 0)
  have a4 := heap_alloc_new (((w.alloc (.map #[] 0)).alloc (.cells #[.map (some w.heap.size)] 103)).alloc (.map #[] 0)) (.cells #[.int .i64 (m : Int), .slice (some ⟨w.heap.size + 1, 0, none⟩) 1 1, .map (some (w.heap.size + 1 + 1)), .int .i64 0, .slice none 0 0, .int .i64 0, .int .i64 0] 100)
  rw [e1] at a2
  rw [e2] at a3
  rw [e3] at a4
  refine ⟨w.heap.size + 1 + 1 + 1, rfl, Px.new m (.slice (some ⟨w.heap.size + 1, 0, none⟩) 1 1) w.heap.size (w.heap.size + 1 + 1), PD.new Hm.out a4 ?_ ?_ ?_ (by omega), rfl, ?_, ?_⟩
  · exact (Grows.alloc' _ _).heap' ((Grows.alloc' _ _).heap' a2)
  · exact (Grows.alloc' _ _).heap' ((Grows.alloc' _ _).heap' ((Grows.alloc' _ _).heap' a1))
  · exact (Grows.alloc' _ _).heap' a3
  · exact Grows.trans' (Grows.trans' (Grows.trans' (Grows.alloc' _ _) (Grows.alloc' _ _)) (Grows.alloc' _ _)) (Grows.alloc' _ _)
  · intro k hk
    rcases hk with hk | hk | hk | hk
    · omega
    · rcases hk with hk | ⟨e, he, rfl⟩
      · have hk' : Value.ownBlock (.slice (some ⟨w.heap.size + 1, 0, none⟩) 1 1) = some k := hk
        have : w.heap.size + 1 = k := by simpa [Value.ownBlock] using hk'
        omega
      · rw [List.mem_singleton.1 he]; exact Nat.le_refl _
    · rcases hk with hk | ⟨f, hf, hk⟩
      · have : k = w.heap.size + 1 + 1 := hk; omega
      · simp [Px.new] at hf
    · have hk' : Value.ownBlock (.slice none 0 0) = some k := hk
      simp [Value.ownBlock] at hk'
set_option maxRecDepth 100000 in
theorem pEmptyBad (n : Int) (hn : n < 0 ∨ 4096 < n) (w : World) :
    Calls Tryz.prog 34 #[.int .i64 n] w fun e w' => e = .returned (.tuple #[.pointer none, .int .i64 2]) ∧ Grows w w' := by
  by_cases h1 : n < 0
  · clear hn
    go_enter Tryz.func34, Tryz.ntmps34
    go_wp2
    go_ret2
    exact ⟨rfl, Below.refl _ _⟩
  · have h2 : (4096 : Int) < n := by omega
    clear hn
    go_enter Tryz.func34, Tryz.ntmps34
    go_wp2
    go_ret2
    exact ⟨rfl, Below.refl _ _⟩

def opNew : List UInt8 := [110, 101, 119]
set_option maxRecDepth 100000 in
theorem pNew (m : Nat) (hm : m ≤ 4096) (w : World) :
    Calls Tryz.prog 10 #[.int .i64 (m : Int)] w fun e w' => ∃ q x, e = .returned (.tuple #[.pointer (some ⟨q, 0, none⟩), .nilIface]) ∧ PD w' q x ∧ x.s = newP m ∧ Grows w w' ∧ ∀ k, useP q x k → w.heap.size ≤ k := by
  have HE := Lib.hid (pEmpty m hm w)
  clear hm
  go_enter Tryz.func10, Tryz.ntmps10
  go_wp2_with fail
  refine HE.out.mono ?_
  rintro e w1 ⟨q, x, rfl, hP, hs, hG, hu⟩
  have HP := Lib.hid hP
  have HS := Lib.hid hs
  have HG := Lib.hid hG
  have HU := Lib.hid hu
  clear hP hs hG hu
  go_wp2_with fail
  refine (pFault opNew [] 0 w1).mono ?_
  rintro e w2 ⟨v, rfl, hF, hG2⟩
  rcases hF with ⟨_, rfl⟩ | ⟨h0, _⟩
  · have HG2 := Lib.hid hG2
    clear hG2
    go_wp2
    go_ret2
    exact ⟨q, x, rfl, HP.out.grows HG2.out, HS.out, Grows.trans' HG.out HG2.out, HU.out⟩
  · exact absurd rfl h0
set_option maxRecDepth 100000 in
theorem pNewBad (n : Int) (hn : n < 0 ∨ 4096 < n) (w : World) :
    Calls Tryz.prog 10 #[.int .i64 n] w fun e w' => ∃ v, e = .returned (.tuple #[.pointer none, v]) ∧ IsFault w' v opNew [] 2 ∧ Grows w w' := by
  have HE := Lib.hid (pEmptyBad n hn w)
  clear hn
  go_enter Tryz.func10, Tryz.ntmps10
  go_wp2_with fail
  refine HE.out.mono ?_
  rintro e w1 ⟨rfl, hG⟩
  have HG := Lib.hid hG
  clear hG
  go_wp2_with fail
  refine (pFault opNew [] 2 w1).mono ?_
  rintro e w2 ⟨v, rfl, hF, hG2⟩
  have HF := Lib.hid hF
  have HG2 := Lib.hid hG2
  clear hG2 hF
  go_wp2
  go_ret2
  exact ⟨v, rfl, HF.out, Grows.trans' HG.out HG2.out⟩

def armX (x : Px) (after code : Int) : Px := x.arm (armP x.s after code).first (armP x.s after code).code
theorem armX_s (x : Px) (after code : Int) : (armX x after code).s = armP x.s after code := by
  unfold armX armP Px.arm Px.s
  split <;> rfl
set_option maxRecDepth 100000 in
set_option maxHeartbeats 1000000 in
theorem pArm {w : World} {q : Nat} {x : Px} (h : PD w q x) (after code : Int) (ha : -9223372036854775808 ≤ after ∧ after ≤ 9223372036854775807) :
    Calls Tryz.prog 23 #[.pointer (some ⟨q, 0, none⟩), .int .i64 after, .int .i64 code] w fun e w' => e = .returned (.tuple #[]) ∧ PD w' q (armX x after code) ∧ TurnP q x (armX x after code) w w' := by
  have Hrow := Lib.hid h.row
  have hsz : (Tryz.prog.info? 98).map (·.size) = some 2 := by kernel_rfl
  have HA := Lib.hid (h.setArm (w' := w.setRow q (ovr (pdRow x) 5 [.int .i64 0, .int .i64 0])) 0 0 (by omega) (setRow_cells h.row _) (But.setRow (But.refl' _ _) _ _ rfl))
  have Hrow2 := Lib.hid HA.out.1.row
  have HA2 := Lib.hid (HA.out.1.setArm (w' := (w.setRow q (ovr (pdRow x) 5 [.int .i64 0, .int .i64 0])).setRow q (ovr (pdRow (x.arm 0 0)) 5 [.int .i64 after, .int .i64 code])) after code ha (setRow_cells HA.out.1.row _) (But.setRow (But.refl' _ _) _ _ rfl))
  by_cases hc : 0 ≤ after ∧ (code = 41 ∨ code = 42)
  · have e : armX x after code = x.arm after code := by unfold armX armP; rw [if_pos hc]
    rw [e]
    obtain ⟨ha0, hc⟩ := hc
    have HT : Hid (TurnP q x (x.arm after code) w ((w.setRow q (ovr (pdRow x) 5 [.int .i64 0, .int .i64 0])).setRow q (ovr (pdRow (x.arm 0 0)) 5 [.int .i64 after, .int .i64 code]))) := HA.out.2.trans HA2.out.2
    clear h e ha
    rcases hc with hc | hc
    · have e41 : (code == 41) = true := by simpa using hc
      have He := Lib.hid hc
      clear hc
      go_enter Tryz.func23, Tryz.ntmps23
      go_wp2_with (first | (refine wpList_storePart rfl 98 _ _ rfl q 5 _ _ [.int .i64 0, .int .i64 0] #[.int .i64 0, .int .i64 0] rfl rfl rfl Hrow.out (by simp [pdRow]) hsz (by simp [Value.oneCell']) ?_) | (refine wpList_storePart rfl 98 _ _ rfl q 5 _ _ [.int .i64 after, .int .i64 code] #[.int .i64 after, .int .i64 code] rfl rfl rfl Hrow2.out (by simp [pdRow]) hsz (by simp [Value.oneCell']) ?_) | go_in)
      go_end0
      exact ⟨rfl, HA2.out.1, HT.out⟩
    · have e41 : (code == 41) = false := by simp; omega
      have e42 : (code == 42) = true := by simpa using hc
      have He := Lib.hid hc
      clear hc
      go_enter Tryz.func23, Tryz.ntmps23
      go_wp2_with (first | (refine wpList_storePart rfl 98 _ _ rfl q 5 _ _ [.int .i64 0, .int .i64 0] #[.int .i64 0, .int .i64 0] rfl rfl rfl Hrow.out (by simp [pdRow]) hsz (by simp [Value.oneCell']) ?_) | (refine wpList_storePart rfl 98 _ _ rfl q 5 _ _ [.int .i64 after, .int .i64 code] #[.int .i64 after, .int .i64 code] rfl rfl rfl Hrow2.out (by simp [pdRow]) hsz (by simp [Value.oneCell']) ?_) | go_in)
      go_end0
      exact ⟨rfl, HA2.out.1, HT.out⟩
  · have e : armX x after code = x.arm 0 0 := by unfold armX armP; rw [if_neg hc]
    rw [e]
    by_cases ha0 : 0 ≤ after
    · have e41 : (code == 41) = false := by simp; intro hh; exact hc ⟨ha0, .inl hh⟩
      have e42 : (code == 42) = false := by simp; intro hh; exact hc ⟨ha0, .inr hh⟩
      clear h e ha hc
      go_enter Tryz.func23, Tryz.ntmps23
      go_wp2_with (first | (refine wpList_storePart rfl 98 _ _ rfl q 5 _ _ [.int .i64 0, .int .i64 0] #[.int .i64 0, .int .i64 0] rfl rfl rfl Hrow.out (by simp [pdRow]) hsz (by simp [Value.oneCell']) ?_) | go_in)
      go_end0
      exact ⟨rfl, HA.out.1, HA.out.2⟩
    · clear h e ha hc
      go_enter Tryz.func23, Tryz.ntmps23
      go_wp2_with (first | (refine wpList_storePart rfl 98 _ _ rfl q 5 _ _ [.int .i64 0, .int .i64 0] #[.int .i64 0, .int .i64 0] rfl rfl rfl Hrow.out (by simp [pdRow]) hsz (by simp [Value.oneCell']) ?_) | go_in)
      go_end0
      exact ⟨rfl, HA.out.1, HA.out.2⟩
end Go.Proofs.YtoppcpiheaedlaaGreatDoor
