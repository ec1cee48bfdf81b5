/-
  DiskSafe: the file 'a' of eight sectors, as a pure state; what may stand in a sector behind a crash.
-/
import Derived.Test.YtoppcpiheaedlaaDoorDa
import Derived.Test.YtoppcpiheaedlaaDoorPq
import Derived.Test.YtoppcpiheaedlaaDoorPr
namespace Go.Proofs.YtoppcpiheaedlaaDoor
set_option linter.unusedVariables false
set_option linter.unusedSimpArgs false

def nA : Nm := [97]
def z8 : List Sec := List.replicate 8 zero64
def sF (now safe : List Sec) (pend : List Wr) : Ps := ⟨16, [[(nA, 1)]], [(1, (now, safe))], 1, pend, 0, 0⟩
theorem sf_1 : (createP (newP 16) nA).1 = 0 := by decide +kernel
theorem sf_2 : syncDirP (createP (newP 16) nA).2 = (0, sF [] [] []) := by kernel_rfl
theorem sf_3 : growP (sF [] [] []) nA 8 = (0, sF z8 z8 []) := by kernel_rfl
theorem sf_find (now safe : List Sec) (pend : List Wr) : findA (nowP (sF now safe pend)) nA = some 1 := by
  unfold nowP sF findA nA
  simp
theorem sf_file (now safe : List Sec) (pend : List Wr) : fileP (sF now safe pend) 1 = (now, safe) := by
  unfold fileP sF findA
  simp
theorem sf_guard (now safe : List Sec) (pend : List Wr) (k : Ps → Int × Ps) : guardP (sF now safe pend) k = k (sF now safe pend) := by
  unfold guardP beginP sF
  simp
theorem sf_write (now safe : List Sec) (pend : List Wr) (n : Nat) (p : Sec) (hn : n < now.length) (hp : p.length = 64) :
    writeP (sF now safe pend) nA (n : Int) p = (0, sF (now.set n p) safe (pend ++ [⟨1, n, p⟩])) := by
  unfold writeP
  rw [sf_guard]
  try dsimp only
  rw [sf_find]
  try dsimp only
  rw [sf_file, if_neg (by dsimp only; omega), if_neg (by omega)]
  unfold sF setFile
  simp
theorem sf_sync (now safe : List Sec) (pend : List Wr) (hp : ∀ w ∈ pend, w.id = 1) : syncP (sF now safe pend) nA = (0, sF now now []) := by
  unfold syncP
  rw [sf_guard]
  try dsimp only
  rw [sf_find]
  try dsimp only
  rw [sf_file]
  have : (pend.filter fun w => !(w.id == 1)) = [] := by
    rw [List.filter_eq_nil_iff]
    intro w hw
    simp [hp w hw]
  unfold sF setFile
  simp only [this]
  simp
def kS (ws : List Wr) (safe : List Sec) : List Sec := ws.foldl (fun s w => if 1 = w.id then s.set w.n w.p else s) safe
theorem kS_fold (now : List Sec) : ∀ (ws : List Wr) (safe : List Sec), ws.foldl keepP [(1, (now, safe))] = [(1, (now, kS ws safe))]
  | [], safe => rfl
  | w :: ws, safe => by
    rw [List.foldl_cons]
    have e : keepP [(1, (now, safe))] w = [(1, (now, if 1 = w.id then safe.set w.n w.p else safe))] := by
      unfold keepP
      by_cases h : 1 = w.id
      · simp [← h]
      · simp [h]
    rw [e, kS_fold now ws]
    rfl
theorem kS_len : ∀ (ws : List Wr) (safe : List Sec), (kS ws safe).length = safe.length
  | [], safe => rfl
  | w :: ws, safe => by
    show (kS ws (if 1 = w.id then safe.set w.n w.p else safe)).length = _
    rw [kS_len ws]
    split <;> simp
theorem kS_mem (M : List (List Sec)) : ∀ (ws : List Wr) (safe : List Sec), (∀ w ∈ ws, w.p ∈ M.getD w.n []) → (∀ i, i < safe.length → safe.getD i [] ∈ M.getD i []) → ∀ i, i < safe.length → (kS ws safe).getD i [] ∈ M.getD i []
  | [], safe, _, h, i, hi => h i hi
  | w :: ws, safe, hw, h, i, hi => by
    show (kS ws (if 1 = w.id then safe.set w.n w.p else safe)).getD i [] ∈ _
    refine kS_mem M ws _ (fun v hv => hw v (List.mem_cons_of_mem _ hv)) ?_ i (by split <;> simpa using hi)
    intro j hj
    split at hj
    · split
      · rename_i h1 _
        by_cases he : w.n = j
        · subst he
          have hj' : w.n < safe.length := by simpa using hj
          have e : (safe.set w.n w.p).getD w.n [] = w.p := by simp [List.getD, hj']
          rw [e]
          exact hw w List.mem_cons_self
        · have e : (safe.set w.n w.p).getD j [] = safe.getD j [] := by simp [List.getD, List.getElem?_set, he]
          rw [e]
          exact h j (by simpa using hj)
      · rename_i h1 h2; exact absurd h1 h2
    · split
      · rename_i h1 h2; exact absurd h2 h1
      · exact h j hj
theorem sf_crash (now safe : List Sec) (pend : List Wr) (n : Int) (keep : List Int) : crashP (sF now safe pend) n keep = sF (kS (keptF keep pend 0) safe) (kS (keptF keep pend 0) safe) [] := by
  have hw : whichP (sF now safe pend) n = 0 := by unfold whichP sF; simp
  unfold crashP
  rw [hw]
  have e : settleP (sF now safe pend) ((sF now safe pend).dirs.getD 0 []) = sF now safe pend := by
    unfold settleP sF
    simp
  rw [e]
  show ({ sF now safe pend with files := ((keptF keep pend 0).foldl keepP [(1, (now, safe))]).map fun e => (e.1, (e.2.2, e.2.2)), pend := [], first := 0, code := 0 } : Ps) = _
  rw [kS_fold]
  rfl
theorem sf_read (now safe : List Sec) (pend : List Wr) (n : Nat) (hn : n < now.length) : readP (sF now safe pend) nA (n : Int) = ((now.getD n [], 0), sF now safe pend) := by
  unfold readP
  have hb : beginP (sF now safe pend) = (0, sF now safe pend) := by unfold beginP sF; simp
  rw [hb, if_neg (by simp)]
  try dsimp only
  rw [sf_find]
  try dsimp only
  rw [sf_file, if_neg (by dsimp only; omega)]
  simp
/-- What the law holds of its sectors: what may stand in each. -/
structure May (A now : List Sec) (pend : List Wr) (M : List (List Sec)) : Prop where
  la : A.length = 8
  ln : now.length = 8
  lm : M.length = 8
  safe : ∀ i, i < 8 → A.getD i [] ∈ M.getD i []
  pend : ∀ w ∈ pend, w.p ∈ M.getD w.n []
theorem May.add {A now : List Sec} {pend : List Wr} {M : List (List Sec)} (h : May A now pend M) (j : Nat) (hj : j < 8) (p : Sec) :
    May A (now.set j p) (pend ++ [⟨1, j, p⟩]) (M.set j (M.getD j [] ++ [p])) where
  la := h.la
  ln := by simpa using h.ln
  lm := by simpa using h.lm
  safe := fun i hi => by
    by_cases e : j = i
    · subst e
      have := h.lm
      simp only [List.getD, List.getElem?_set, this, hj, ite_true, Option.getD_some, if_true]
      exact List.mem_append_left _ (h.safe j hj)
    · have e2 : (M.set j (M.getD j [] ++ [p])).getD i [] = M.getD i [] := by simp [List.getD, List.getElem?_set, e]
      rw [e2]; exact h.safe i hi
  pend := fun w hw => by
    have hl := h.lm
    have e1 : (M.set j (M.getD j [] ++ [p])).getD j [] = M.getD j [] ++ [p] := by simp [List.getD, List.getElem?_set, hl, hj]
    rcases List.mem_append.1 hw with hw | hw
    · by_cases e : j = w.n
      · rw [← e, e1]
        exact List.mem_append_left _ (by rw [e]; exact h.pend w hw)
      · have e2 : (M.set j (M.getD j [] ++ [p])).getD w.n [] = M.getD w.n [] := by simp [List.getD, List.getElem?_set, e]
        rw [e2]; exact h.pend w hw
    · rw [List.mem_singleton.1 hw]
      show p ∈ (M.set j (M.getD j [] ++ [p])).getD j []
      rw [e1]
      exact List.mem_append_right _ (by simp)
theorem May.crash {A now : List Sec} {pend : List Wr} {M : List (List Sec)} (h : May A now pend M) (keep : List Int) (i : Nat) (hi : i < 8) : (kS (keptF keep pend 0) A).getD i [] ∈ M.getD i [] :=
  kS_mem M _ A (fun w hw => h.pend w (keptF_sub keep pend 0 w hw)) (fun j hj => h.safe j (by have := h.la; omega)) i (by have := h.la; omega)
end Go.Proofs.YtoppcpiheaedlaaDoor
