/-
  The program's disk: writes that are kept when the power fails; what is lost.
-/
import Derived.Test.YtoppcpiheaedlaaGreatDoorPq
namespace Go.Proofs.YtoppcpiheaedlaaGreatDoor
open Go.RowKit Go.Maps Go.MapKept
set_option linter.unusedVariables false
set_option linter.unusedSimpArgs false
attribute [local go_sem] sv nv mv pv

/-- A sector is another one, as it is safe. -/
theorem FiOk.putS {W : World} {f : Fi} (h : FiOk W f) {g L c : Nat} (hv : f.vs = .slice (some ⟨g, 0, none⟩) L c) (n : Nat) (hn : n < f.now.length) (p : Sec) (hp : p.length = 64) :
    ∃ cur, W.heap[g]? = some (.cells cur 106 (0, 0)) ∧ n * 64 + (secC p).length ≤ cur.size ∧ FiOk (W.setRow g (ovr cur (n * 64) (secC p))) { f with safe := f.safe.set n p } ∧ But (fun k => k = g) W (W.setRow g (ovr cur (n * 64) (secC p))) := by
  have ho := h.safe
  rw [hv] at ho
  have hL : L = f.safe.length := by
    rcases ho.2 with ⟨e, _⟩ | ⟨_, _, _, e, _⟩
    · cases e
    · simp only [Value.slice.injEq] at e; exact e.2.1
  subst hL
  have hns : n < f.safe.length := by rw [h.len]; exact hn
  obtain ⟨cur, hg, hfit, ho'⟩ := own_ovr ho (ys := secC p) (n * 64) (by rw [secC_len1, hp]; omega)
  have hB : But (fun k => k = g) W (W.setRow g (ovr cur (n * 64) (secC p))) := But.setRow (But.refl' _ _) _ _ rfl
  refine ⟨cur, hg, hfit, ⟨?_, ?_, ?_, ?_, h.now64, ?_, h.le, h.apart⟩, hB⟩
  · refine hB.blockEq (fun e => ?_) h.row
    have := h.row
    rw [e, hg] at this
    simp at this
  · exact own_but h.now hB fun j hj hn => h.apart j hj (by rw [hv, hn]; rfl)
  · rw [flat_set h.safe64 n hns p hp] at ho'
    show World.ownsRow _ _ _ _ f.vs (f.safe.set n p).length _
    rw [List.length_set, hv]
    exact ho'
  · show (f.safe.set n p).length = f.now.length
    rw [List.length_set]
    exact h.len
  · intro s hs
    rcases List.mem_or_eq_of_mem_set hs with hs | hs
    · exact h.safe64 s hs
    · rw [hs]; exact hp

theorem keptF_snoc (keep : List Int) (c : Wr) : ∀ (l : List Wr) (n : Nat), keptF keep (l ++ [c]) n = keptF keep l n ++ (if ((n + l.length : Nat) : Int) ∈ keep then [c] else [])
  | [], n => by
    simp only [List.nil_append, keptF, List.length_nil, Nat.add_zero]
  | a :: l, n => by
    have ih := keptF_snoc keep c l (n + 1)
    have e : n + (a :: l).length = n + 1 + l.length := by simp; omega
    rw [e]
    simp only [List.cons_append, keptF]
    split
    · rw [ih]; rfl
    · exact ih
theorem keptF_sub (keep : List Int) : ∀ (l : List Wr) (n : Nat), ∀ w ∈ keptF keep l n, w ∈ l
  | [], _, w, h => by simp [keptF] at h
  | a :: l, n, w, h => by
    unfold keptF at h
    split at h
    · rcases List.mem_cons.1 h with h | h
      · rw [h]; exact List.mem_cons_self
      · exact List.mem_cons_of_mem _ (keptF_sub keep l (n + 1) w h)
    · exact List.mem_cons_of_mem _ (keptF_sub keep l (n + 1) w h)

/-- A file, with these writes kept. -/
def keepFi (ws : List Wr) (f : Fi) : Fi := { f with safe := ws.foldl (fun s w => if w.id = f.num then s.set w.n w.p else s) f.safe }
def Px.keepX (x : Px) (ws : List Wr) : Px := { x with fs := x.fs.map (keepFi ws) }
theorem keepX_nil (x : Px) : x.keepX [] = x := by
  unfold Px.keepX
  have : x.fs.map (keepFi []) = x.fs := by
    have h : keepFi [] = id := by funext f; rfl
    rw [h, List.map_id]
  rw [this]
theorem keepFi_snoc (ws : List Wr) (c : Wr) (f : Fi) : keepFi (ws ++ [c]) f = if c.id = f.num then { keepFi ws f with safe := (keepFi ws f).safe.set c.n c.p } else keepFi ws f := by
  unfold keepFi
  rw [List.foldl_append]
  simp only [List.foldl_cons, List.foldl_nil]
  split <;> rfl
theorem keepX_step {x : Px} (hnd : (x.fs.map fun f => f.num).Nodup) (ws : List Wr) (c : Wr) (f : Fi) (hf : f ∈ x.fs) (hc : f.num = c.id) :
    x.keepX (ws ++ [c]) = (x.keepX ws).setF { keepFi ws f with safe := (keepFi ws f).safe.set c.n c.p } := by
  unfold Px.keepX Px.setF
  have : x.fs.map (keepFi (ws ++ [c])) = (x.fs.map (keepFi ws)).map fun g => if g.num = f.num then { keepFi ws f with safe := (keepFi ws f).safe.set c.n c.p } else g := by
    rw [List.map_map]
    refine List.map_congr_left fun g hg => ?_
    rw [keepFi_snoc]
    simp only [Function.comp_apply]
    by_cases h : g.num = f.num
    · have e : g = f := num_inj hnd hg hf h
      rw [e, if_pos hc.symm, if_pos (show (keepFi ws f).num = f.num from rfl)]
    · rw [if_neg (fun e => h (e.symm.trans hc.symm)), if_neg (show ¬ (keepFi ws g).num = f.num from h)]
  rw [this]
  rfl
theorem keepX_none {x : Px} (ws : List Wr) (c : Wr) (hc : ∀ f ∈ x.fs, f.num ≠ c.id) : x.keepX (ws ++ [c]) = x.keepX ws := by
  unfold Px.keepX
  have : x.fs.map (keepFi (ws ++ [c])) = x.fs.map (keepFi ws) := List.map_congr_left fun g hg => by
    rw [keepFi_snoc, if_neg (fun e => hc g hg e.symm)]
  rw [this]
theorem keepX_one (x : Px) (w : Wr) : (x.keepX [w]).s.files = keepP x.s.files w := by
  unfold Px.keepX Px.s keepP
  simp only [List.map_map]
  refine List.map_congr_left fun f _ => ?_
  simp only [Function.comp_apply]
  by_cases h : f.num = w.id
  · rw [if_pos (show f.pure.1 = w.id from h)]
    unfold keepFi Fi.pure
    simp [h.symm]
  · rw [if_neg (show ¬ f.pure.1 = w.id from h)]
    unfold keepFi Fi.pure
    have h' : ¬ w.id = f.num := fun e => h e.symm
    simp [h']
theorem keepX_s : ∀ (ws : List Wr) (x : Px), (x.keepX ws).s.files = ws.foldl keepP x.s.files
  | [], x => by rw [keepX_nil]; rfl
  | w :: ws, x => by
    have e : x.keepX (w :: ws) = (x.keepX [w]).keepX ws := by
      unfold Px.keepX
      simp only [List.map_map]
      rfl
    rw [e, keepX_s ws, keepX_one]
    rfl
theorem keepX_ent (x : Px) (ws : List Wr) : (x.keepX ws).fs.map Fi.ent = x.fs.map Fi.ent := by
  unfold Px.keepX
  rw [List.map_map]
  rfl
theorem keepX_mut {q : Nat} {x : Px} {ws : List Wr} {k : Nat} (h : mutP q (x.keepX ws) k) : mutP q x k := by
  rcases h with h | h | h | h
  · exact .inl h
  · exact .inr (.inl h)
  · refine .inr (.inr (.inl ?_))
    rcases h with h | ⟨f, hf, h⟩
    · exact .inl h
    · obtain ⟨g, hg, rfl⟩ := List.mem_map.1 hf
      exact .inr ⟨g, hg, h⟩
  · exact .inr (.inr (.inr h))
theorem keepX_use {q : Nat} {x : Px} {ws : List Wr} {k : Nat} (h : useP q (x.keepX ws) k) : useP q x k := by
  rcases h with h | h | h | h
  · exact .inl h
  · exact .inr (.inl h)
  · refine .inr (.inr (.inl ?_))
    rcases h with h | ⟨f, hf, h⟩
    · exact .inl h
    · obtain ⟨g, hg, rfl⟩ := List.mem_map.1 hf
      exact .inr ⟨g, hg, h⟩
  · exact .inr (.inr (.inr h))

/-- Files of these numbers have lost what was not safe. -/
def loseFi (ns : List Nat) (f : Fi) : Fi := if f.num ∈ ns then { f with now := f.safe } else f
def Px.loseX (x : Px) (ns : List Nat) : Px := { x with fs := x.fs.map (loseFi ns) }
theorem loseFi_num (ns : List Nat) (f : Fi) : (loseFi ns f).num = f.num := by unfold loseFi; split <;> rfl
theorem loseFi_blk (ns : List Nat) (f : Fi) : (loseFi ns f).blk = f.blk := by unfold loseFi; split <;> rfl
theorem loseFi_rows (ns : List Nat) (f : Fi) (k : Nat) : FiRows (loseFi ns f) k ↔ FiRows f k := by unfold loseFi; split <;> exact Iff.rfl
theorem loseX_nil (x : Px) : x.loseX [] = x := by
  unfold Px.loseX
  have : x.fs.map (loseFi []) = x.fs := by
    have h : loseFi [] = id := by funext f; simp [loseFi]
    rw [h, List.map_id]
  rw [this]
theorem loseX_step {x : Px} (hnd : (x.fs.map fun f => f.num).Nodup) (ns : List Nat) (f : Fi) (hf : f ∈ x.fs) : x.loseX (ns ++ [f.num]) = (x.loseX ns).setF { loseFi ns f with now := (loseFi ns f).safe } := by
  unfold Px.loseX Px.setF
  have : x.fs.map (loseFi (ns ++ [f.num])) = (x.fs.map (loseFi ns)).map fun g => if g.num = (loseFi ns f).num then { loseFi ns f with now := (loseFi ns f).safe } else g := by
    rw [List.map_map]
    refine List.map_congr_left fun g hg => ?_
    simp only [Function.comp_apply, loseFi_num]
    by_cases h : g.num = f.num
    · have e : g = f := num_inj hnd hg hf h
      rw [e, if_pos rfl]
      unfold loseFi
      rw [if_pos (by simp)]
      split <;> rfl
    · rw [if_neg h]
      unfold loseFi
      by_cases h2 : g.num ∈ ns
      · rw [if_pos h2, if_pos (by simp [h2])]
      · rw [if_neg h2, if_neg (by simp [h2, h])]
  rw [this]
theorem loseX_all {x : Px} {ns : List Nat} (h : ∀ f ∈ x.fs, f.num ∈ ns) : (x.loseX ns).s.files = x.s.files.map fun e => (e.1, (e.2.2, e.2.2)) := by
  unfold Px.loseX Px.s
  simp only [List.map_map]
  refine List.map_congr_left fun f hf => ?_
  simp only [Function.comp_apply]
  unfold loseFi
  rw [if_pos (h f hf)]
  rfl
theorem loseX_ent (x : Px) (ns : List Nat) : (x.loseX ns).fs.map Fi.ent = x.fs.map Fi.ent := by
  unfold Px.loseX
  rw [List.map_map]
  refine List.map_congr_left fun f _ => ?_
  simp only [Function.comp_apply]
  unfold loseFi Fi.ent
  split <;> rfl
theorem loseX_mut {q : Nat} {x : Px} {ns : List Nat} {k : Nat} (h : mutP q (x.loseX ns) k) : mutP q x k := by
  rcases h with h | h | h | h
  · exact .inl h
  · exact .inr (.inl h)
  · refine .inr (.inr (.inl ?_))
    rcases h with h | ⟨f, hf, h⟩
    · exact .inl h
    · obtain ⟨g, hg, rfl⟩ := List.mem_map.1 hf
      rw [loseFi_blk, loseFi_rows] at h
      exact .inr ⟨g, hg, h⟩
  · exact .inr (.inr (.inr h))
theorem loseX_use {q : Nat} {x : Px} {ns : List Nat} {k : Nat} (h : useP q (x.loseX ns) k) : useP q x k := by
  rcases h with h | h | h | h
  · exact .inl h
  · exact .inr (.inl h)
  · refine .inr (.inr (.inl ?_))
    rcases h with h | ⟨f, hf, h⟩
    · exact .inl h
    · obtain ⟨g, hg, rfl⟩ := List.mem_map.1 hf
      rw [loseFi_blk, loseFi_rows] at h
      exact .inr ⟨g, hg, h⟩
  · exact .inr (.inr (.inr h))
end Go.Proofs.YtoppcpiheaedlaaGreatDoor
