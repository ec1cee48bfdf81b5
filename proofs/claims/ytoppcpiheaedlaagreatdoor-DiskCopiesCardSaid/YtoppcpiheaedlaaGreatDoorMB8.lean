import Derived.Test.YtoppcpiheaedlaaGreatDoorMB1
section
/-
  Deeds on the program's disk as a pure state; two disks that are alike but for their files' numbers.
-/
namespace Go.Proofs.YtoppcpiheaedlaaGreatDoor
set_option linter.unusedSectionVars false
set_option linter.unusedVariables false
set_option linter.unusedSimpArgs false
section
variable {α β γ : Type} [DecidableEq α]
theorem findA_app {l m : List (α × β)} (a : α) : findA (l ++ m) a = ((findA l a).or (findA m a)) := by
 induction l with
 | nil => simp [findA]
 | cons p r ih =>
  rw [List.cons_append]
  by_cases h : p.1 = a
  · simp [findA, h]
  · simp [findA, h, ih]
theorem findA_map (g : β → γ) (l : List (α × β)) (a : α) : findA (l.map fun e => (e.1, g e.2)) a = (findA l a).map g := by
 induction l with
 | nil => simp [findA]
 | cons p r ih =>
  rw [List.map_cons]
  unfold findA
  split
  · rfl
  · exact ih
theorem findA_filter (q : α → Bool) (l : List (α × β)) (a : α) : findA (l.filter fun e => q e.1) a = if q a then findA l a else none := by
 induction l with
 | nil => simp [findA]
 | cons p r ih =>
  by_cases h : q p.1 = true
  · rw [List.filter_cons_of_pos (p := fun e : α × β => q e.1) h]
    unfold findA
    rw [ih]
    by_cases hp : p.1 = a
    · rw [if_pos hp, if_pos hp, if_pos (hp ▸ h)]
    · rw [if_neg hp, if_neg hp]
  · rw [List.filter_cons_of_neg (p := fun e : α × β => q e.1) h, ih]
    by_cases hq : q a = true
    · rw [if_pos hq, if_pos hq]
      conv => rhs; unfold findA
      rw [if_neg (fun e : p.1 = a => h (by rw [e]; exact hq))]
    · rw [if_neg hq, if_neg hq]
theorem del_fst {l : List (α × β)} (a : α) : (delA l a).map (·.1) = (l.map (·.1)).filter fun x => decide (x ≠ a) := by
 unfold delA
 rw [List.filter_map]
 rfl
theorem del_nodup {l : List (α × β)} (h : (l.map (·.1)).Nodup) (a : α) : ((delA l a).map (·.1)).Nodup := by
 rw [del_fst]; exact h.filter _
theorem put_nodup {l : List (α × β)} (h : (l.map (·.1)).Nodup) (a : α) (b : β) : ((putA l a b).map (·.1)).Nodup := by
 unfold putA
 rw [List.map_append, List.nodup_append]
 refine ⟨del_nodup h a, by simp, ?_⟩
 intro x hx y hy e
 rw [del_fst] at hx
 simp at hx hy
 exact hx.2 (e.trans hy)
theorem del_snd_sub {l : List (α × β)} (a : α) : ((delA l a).map (·.2)).Sublist (l.map (·.2)) := List.Sublist.map _ List.filter_sublist
theorem del_perm (g : β → γ) {l : List (α × β)} {m : List (α × γ)} (h : m.Perm (l.map fun e => (e.1, g e.2))) (a : α) : (delA m a).Perm ((delA l a).map fun e => (e.1, g e.2)) := by
 have := h.filter fun p => decide (p.1 ≠ a)
 unfold delA
 rw [List.filter_map] at this
 exact this
theorem put_perm (g : β → γ) {l : List (α × β)} {m : List (α × γ)} (h : m.Perm (l.map fun e => (e.1, g e.2))) (a : α) (b : β) : (putA m a (g b)).Perm ((putA l a b).map fun e => (e.1, g e.2)) := by
 unfold putA
 rw [List.map_append]
 exact (del_perm g h a).append (List.Perm.refl _)
end
def All2 {α β : Type} (R : α → β → Prop) : List α → List β → Prop
 | [], [] => True
 | x :: l, y :: m => R x y ∧ All2 R l m
 | _, _ => False
structure Dp where
 kind : Int
 a : Nm
 b : Nm
 n : Int
 p : Sec
 keep : List Int
def doP (s : Ps) (x : Dp) : (Int × Sec) × Ps :=
 if x.kind = 0 then (((createP s x.a).1, []), (createP s x.a).2)
 else if x.kind = 1 then (((removeP s x.a).1, []), (removeP s x.a).2)
 else if x.kind = 2 then (((renameP s x.a x.b).1, []), (renameP s x.a x.b).2)
 else if x.kind = 3 then (((growP s x.a x.n).1, []), (growP s x.a x.n).2)
 else if x.kind = 4 then (((writeP s x.a x.n x.p).1, []), (writeP s x.a x.n x.p).2)
 else if x.kind = 5 then (((readP s x.a x.n).1.2, (readP s x.a x.n).1.1), (readP s x.a x.n).2)
 else if x.kind = 6 then (((syncP s x.a).1, []), (syncP s x.a).2)
 else if x.kind = 7 then (((syncDirP s).1, []), (syncDirP s).2)
 else if x.kind = 8 then ((0, []), armP s x.n x.p.length)
 else if x.kind = 9 then ((0, []), crashP s x.n x.keep)
 else ((0, []), s)
structure Ali (f : Nat → Nat) (s t : Ps) : Prop where
 room : t.room = s.room
 first : t.first = s.first
 code : t.code = s.code
 dirs : All2 (fun d d' : Dir => d'.Perm (d.map fun e => (e.1, f e.2))) s.dirs t.dirs
 nod : ∀ d ∈ s.dirs, (d.map (·.1)).Nodup
 le : ∀ d ∈ s.dirs, ∀ e ∈ d, e.2 ≤ s.made
 fle : ∀ n, n ≤ s.made → f n ≤ t.made
 inj : ∀ n m, n ≤ s.made → m ≤ s.made → f n = f m → n = m
 files : ∀ d ∈ s.dirs, ∀ e ∈ d, findA t.files (f e.2) = findA s.files e.2
 pend : t.pend = s.pend.map fun w => ⟨f w.id, w.n, w.p⟩
 pendle : ∀ w ∈ s.pend, w.id ≤ s.made
 fkeys : ∀ e ∈ s.files, e.1 ≤ s.made
 fkeys' : ∀ e ∈ t.files, e.1 ≤ t.made
end Go.Proofs.YtoppcpiheaedlaaGreatDoor
end
section
/-
  Two disks that are alike answer alike, and stay so, whatever is done to both.
-/
namespace Go.Proofs.YtoppcpiheaedlaaGreatDoor
set_option linter.unusedSectionVars false
set_option linter.unusedVariables false
set_option linter.unusedSimpArgs false
theorem forall2_last {α β : Type} {R : α → β → Prop} {a : α} {b : β} : ∀ {l : List α} {m : List β}, All2 R l m → R a b → R (l.getLastD a) (m.getLastD b)
 | [], [], _, h => h
 | x :: [], y :: [], h, hr => h.1
 | x :: [], y :: y' :: m', h, hr => h.2.elim
 | x :: x' :: l', y :: [], h, hr => h.2.elim
 | x :: x' :: l', y :: y' :: m', h, hr => by
  have := forall2_last (a := x) (b := y) (l := x' :: l') (m := y' :: m') h.2 h.1
  simpa only [List.getLastD_cons] using this
theorem last_mem' {α : Type} {a : α} : ∀ {l : List α}, l = [] ∨ l.getLastD a ∈ l
 | [] => .inl rfl
 | x :: l => by
  right
  rw [List.getLastD_cons]
  exact List.getLastD_mem_cons
theorem now_in (s : Ps) {e : Nm × Nat} (h : e ∈ nowP s) : nowP s ∈ s.dirs := by
 rcases last_mem' (a := ([] : Dir)) (l := s.dirs) with h' | h'
 · unfold nowP at h; rw [h'] at h; simp at h
 · exact h'
section
variable {f : Nat → Nat} {s t : Ps}
theorem Ali.now (h : Ali f s t) : (nowP t).Perm ((nowP s).map fun e => (e.1, f e.2)) := forall2_last h.dirs (by simp)
theorem Ali.nowNod (h : Ali f s t) : ((nowP s).map (·.1)).Nodup := by
 rcases last_mem' (a := ([] : Dir)) (l := s.dirs) with h' | h'
 · unfold nowP; rw [h']; simp
 · exact h.nod _ h'
theorem dir_find {f : Nat → Nat} {d d' : Dir} (h : d'.Perm (d.map fun e => (e.1, f e.2))) (hn : (d.map (·.1)).Nodup) (nm : Nm) : findA d' nm = (findA d nm).map f := by
 rw [← findA_map f d nm]
 refine findA_perm h ?_ nm
 exact (h.map (·.1)).nodup_iff.2 (by rw [List.map_map]; exact hn)
theorem Ali.find (h : Ali f s t) (nm : Nm) : findA (nowP t) nm = (findA (nowP s) nm).map f := dir_find h.now h.nowNod nm
theorem Ali.len (h : Ali f s t) : (nowP t).length = (nowP s).length := by rw [h.now.length_eq]; simp
theorem Ali.nums (h : Ali f s t) {nm : Nm} {n : Nat} (hf : findA (nowP s) nm = some n) : n ≤ s.made ∧ findA t.files (f n) = findA s.files n := by
 have hm := findA_mem hf
 exact ⟨h.le _ (now_in s hm) _ hm, h.files _ (now_in s hm) _ hm⟩
theorem Ali.file (h : Ali f s t) {nm : Nm} {n : Nat} (hf : findA (nowP s) nm = some n) : fileP t (f n) = fileP s n := by
 unfold fileP; rw [(h.nums hf).2]
theorem Ali.taken (h : Ali f s t) : takenP t = takenP s := by
 unfold takenP
 have := (h.now.map fun e => (fileP t e.2).1.length).sum_nat
 rw [this, List.map_map]
 congr 1
 apply List.map_congr_left
 intro e he
 simp only [Function.comp]
 have hf : fileP t (f e.2) = fileP s e.2 := by unfold fileP; rw [h.files _ (now_in s he) _ he]
 rw [hf]
theorem Ali.begin (h : Ali f s t) : (beginP t).1 = (beginP s).1 ∧ Ali f (beginP s).2 (beginP t).2 := by
 unfold beginP
 rw [h.code, h.first]
 split
 · exact ⟨rfl, h⟩
 · split
   · exact ⟨rfl, ⟨h.room, by simp, by simp [h.code], h.dirs, h.nod, h.le, h.fle, h.inj, h.files, h.pend, h.pendle, h.fkeys, h.fkeys'⟩⟩
   · exact ⟨rfl, ⟨h.room, by simp, by simp, h.dirs, h.nod, h.le, h.fle, h.inj, h.files, h.pend, h.pendle, h.fkeys, h.fkeys'⟩⟩
theorem findA_setFile (l : List (Nat × (List Sec × List Sec))) (n : Nat) (v : List Sec × List Sec) (m : Nat) : findA (setFile l n v) m = if m = n then (findA l m).map fun _ => v else findA l m := by
 unfold setFile
 induction l with
 | nil => simp [findA]
 | cons p r ih =>
  rw [List.map_cons]
  by_cases hp : p.1 = n
  · rw [if_pos hp]
    unfold findA
    by_cases hm : n = m
    · subst hm; rw [if_pos rfl, if_pos rfl, if_pos hp]; rfl
    · rw [if_neg hm, ih, if_neg (fun e => hm e.symm), if_neg (fun e => hm e.symm), if_neg (fun e => hm (hp.symm.trans e))]
  · rw [if_neg hp]
    unfold findA
    by_cases hm : p.1 = m
    · rw [if_pos hm, if_pos hm, if_neg (fun e => hp (hm.trans e))]
    · rw [if_neg hm, if_neg hm, ih]
theorem setFile_keys {l : List (Nat × (List Sec × List Sec))} {n : Nat} {v : List Sec × List Sec} {k : Nat} (h : ∀ e ∈ l, e.1 ≤ k) : ∀ e ∈ setFile l n v, e.1 ≤ k := by
 intro e he
 unfold setFile at he
 obtain ⟨x, hx, rfl⟩ := List.mem_map.1 he
 split
 · rename_i hq; show n ≤ k; rw [← hq]; exact h x hx
 · exact h x hx
theorem findA_keep (l : List (Nat × (List Sec × List Sec))) (w : Wr) (m : Nat) : findA (keepP l w) m = if m = w.id then (findA l m).map fun v => (v.1, v.2.set w.n w.p) else findA l m := by
 unfold keepP
 induction l with
 | nil => simp [findA]
 | cons p r ih =>
  rw [List.map_cons]
  unfold findA
  by_cases hp : p.1 = w.id
  · rw [if_pos hp]
    by_cases hm : p.1 = m
    · rw [if_pos hm, if_pos hm, if_pos (hm.symm.trans hp)]; rfl
    · rw [if_neg hm, if_neg hm, ih]
  · rw [if_neg hp]
    by_cases hm : p.1 = m
    · rw [if_pos hm, if_pos hm, if_neg (fun e => hp (hm.trans e))]
    · rw [if_neg hm, if_neg hm, ih]
theorem keep_keys {l : List (Nat × (List Sec × List Sec))} {w : Wr} {k : Nat} (h : ∀ e ∈ l, e.1 ≤ k) : ∀ e ∈ keepP l w, e.1 ≤ k := by
 intro e he
 unfold keepP at he
 obtain ⟨x, hx, rfl⟩ := List.mem_map.1 he
 split <;> exact h x hx
theorem foldl_keep_keys : ∀ (ws : List Wr) {l : List (Nat × (List Sec × List Sec))} {k : Nat}, (∀ e ∈ l, e.1 ≤ k) → ∀ e ∈ ws.foldl keepP l, e.1 ≤ k
 | [], _, _, h => h
 | w :: ws, _, _, h => foldl_keep_keys ws (keep_keys h)
theorem keptF_map (keep : List Int) (g : Wr → Wr) : ∀ (l : List Wr) (n : Nat), keptF keep (l.map g) n = (keptF keep l n).map g
 | [], _ => rfl
 | c :: r, n => by
  rw [List.map_cons]
  unfold keptF
  rw [keptF_map keep g r (n + 1)]
  split <;> rfl
end
end Go.Proofs.YtoppcpiheaedlaaGreatDoor
end
section
/-
  The program's disk and the document's, as pure states: what stands on both sides, whatever is done to both.
-/
namespace Go.Proofs.YtoppcpiheaedlaaGreatDoor
set_option linter.unusedSectionVars false
set_option linter.unusedVariables false
set_option linter.unusedSimpArgs false
def applyW (ws : List Wr) (id : Nat) (l : List Sec) : List Sec := ws.foldl (fun l w => if w.id = id then l.set w.n w.p else l) l
theorem applyW_cons (w : Wr) (ws : List Wr) (id : Nat) (l : List Sec) : applyW (w :: ws) id l = applyW ws id (if w.id = id then l.set w.n w.p else l) := rfl
theorem applyW_snoc (w : Wr) (ws : List Wr) (id : Nat) (l : List Sec) : applyW (ws ++ [w]) id l = if w.id = id then (applyW ws id l).set w.n w.p else applyW ws id l := by
 unfold applyW; rw [List.foldl_append]; rfl
theorem applyW_len (id : Nat) : ∀ (ws : List Wr) (l : List Sec), (applyW ws id l).length = l.length
 | [], _ => rfl
 | w :: ws, l => by
  rw [applyW_cons, applyW_len id ws]
  split
  · exact List.length_set
  · rfl
theorem applyW_filter (id : Nat) : ∀ (ws : List Wr) (l : List Sec), applyW (ws.filter fun w => w.id == id) id l = applyW ws id l
 | [], _ => rfl
 | w :: ws, l => by
  by_cases h : w.id = id
  · rw [List.filter_cons_of_pos (by simp [h]), applyW_cons, applyW_cons, applyW_filter id ws]
  · rw [List.filter_cons_of_neg (by simp [h]), applyW_cons, if_neg h, applyW_filter id ws]
theorem applyW_none (id : Nat) : ∀ (ws : List Wr) (l : List Sec), (∀ w ∈ ws, w.id ≠ id) → applyW ws id l = l
 | [], _, _ => rfl
 | w :: ws, l, h => by rw [applyW_cons, if_neg (h w (by simp)), applyW_none id ws _ fun x hx => h x (by simp [hx])]
theorem applyW_other (id k : Nat) (hk : id ≠ k) : ∀ (ws : List Wr) (l : List Sec), applyW (ws.filter fun w => !(w.id == k)) id l = applyW ws id l
 | [], _ => rfl
 | w :: ws, l => by
  by_cases h : w.id = k
  · rw [List.filter_cons_of_neg (by simp [h]), applyW_cons, if_neg (fun e => hk (e.symm.trans h)), applyW_other id k hk ws]
  · rw [List.filter_cons_of_pos (by simp [h]), applyW_cons, applyW_cons, applyW_other id k hk ws]
theorem applyW_ext (id : Nat) (m : List Sec) : ∀ (ws : List Wr) (l : List Sec), (∀ w ∈ ws, w.id = id → w.n < l.length) → applyW ws id (l ++ m) = applyW ws id l ++ m
 | [], _, _ => rfl
 | w :: ws, l, h => by
  rw [applyW_cons, applyW_cons]
  by_cases e : w.id = id
  · rw [if_pos e, if_pos e, List.set_append_left _ _ (h w (by simp) e)]
    exact applyW_ext id m ws _ fun x hx hi => by rw [List.length_set]; exact h x (by simp [hx]) hi
  · rw [if_neg e, if_neg e]
    exact applyW_ext id m ws _ fun x hx hi => h x (by simp [hx]) hi
theorem set_getD {α : Type} (l : List α) (i j : Nat) (a d : α) (h : j < l.length) : (l.set i a).getD j d = if i = j then a else l.getD j d := by
 rw [List.getD, List.getElem?_set]
 by_cases e : i = j
 · subst e; simp [h]
 · rw [if_neg e, if_neg e, List.getD]
theorem applyW_get (id n : Nat) : ∀ (ws : List Wr) (l : List Sec), n < l.length → (applyW ws id l).getD n [] = lastF ws id n (l.getD n [])
 | [], _, _ => rfl
 | w :: ws, l, h => by
  rw [applyW_cons]
  have hl : lastF (w :: ws) id n (l.getD n []) = lastF ws id n (if w.id = id ∧ w.n = n then w.p else l.getD n []) := rfl
  rw [hl]
  by_cases e : w.id = id
  · rw [if_pos e, applyW_get id n ws _ (by rw [List.length_set]; exact h), set_getD _ _ _ _ _ h]
    by_cases e2 : w.n = n
    · rw [if_pos e2, if_pos ⟨e, e2⟩]
    · rw [if_neg e2, if_neg (fun x => e2 x.2)]
  · rw [if_neg e, if_neg (fun x => e x.1), applyW_get id n ws _ h]
theorem keeps_get (id : Nat) : ∀ (ws : List Wr) (f : List (List Sec)), (ws.foldl keepF f).getD id [] = applyW ws id (f.getD id [])
 | [], _ => rfl
 | w :: ws, f => by
  rw [List.foldl_cons, keeps_get id ws, applyW_cons]
  congr 1
  unfold keepF
  by_cases e : w.id = id
  · rw [if_pos e]
    subst e
    rcases Nat.lt_or_ge w.id f.length with h | h
    · rw [set_getD _ _ _ _ _ h, if_pos rfl]
    · rw [List.set_eq_of_length_le h]
      have : f.getD w.id [] = [] := by rw [List.getD, List.getElem?_eq_none h]; rfl
      rw [this]; rfl
  · rw [if_neg e, List.getD, List.getElem?_set, if_neg e, List.getD]
theorem keeps_len : ∀ (ws : List Wr) (f : List (List Sec)), (ws.foldl keepF f).length = f.length
 | [], _ => rfl
 | w :: ws, f => by rw [List.foldl_cons, keeps_len ws]; unfold keepF; exact List.length_set
def nowSecs (t : Ds) (id : Nat) : List Sec := applyW t.wrs id (secs t id)
def dirT (t : Ds) (i : Nat) : Dir := (t.chs.take i).foldl chgF t.dir
theorem dirT_now (t : Ds) : dirT t t.chs.length = nowF t := by unfold dirT nowF; rw [List.take_of_length_le (Nat.le_refl _)]
def numW (w : Wr) : Wr := ⟨w.id + 1, w.n, w.p⟩
structure Rel (s : Ps) (t : Ds) : Prop where
 room : s.room = t.room
 arm : (t.armed = false ∧ s.code = 0) ∨ (t.armed = true ∧ s.code = t.code ∧ s.first = t.after ∧ t.code ≠ 0)
 made : s.made = t.fls.length
 len : s.dirs.length = t.chs.length + 1
 dir : ∀ i, i ≤ t.chs.length → (s.dirs.getD i []).Perm ((dirT t i).map fun e => (e.1, e.2 + 1))
 nod : ∀ i, i ≤ t.chs.length → ((dirT t i).map (·.1)).Nodup
 file : ∀ n v, findA s.files n = some v → ∃ id, n = id + 1 ∧ id < t.fls.length ∧ v = (nowSecs t id, secs t id)
 has : ∀ i, i ≤ t.chs.length → ∀ e ∈ dirT t i, (findA s.files (e.2 + 1)).isSome
 pend : s.pend = t.wrs.map numW
theorem rel_new (room : Nat) : Rel (newP room) (newF room) where
 room := rfl
 arm := .inl ⟨rfl, rfl⟩
 made := rfl
 len := rfl
 dir := fun i hi => by simp [newF] at hi; subst hi; exact List.Perm.refl _
 nod := fun i hi => by simp [newF] at hi; subst hi; exact List.nodup_nil
 file := fun n v h => by simp [newP, findA] at h
 has := fun i hi e he => by simp [newF] at hi; subst hi; simp [dirT, newF] at he
 pend := rfl
theorem findF_eq : ∀ (l : Dir) (nm : Nm), findF l nm = findA l nm
 | [], _ => rfl
 | e :: r, nm => by unfold findF findA; rw [findF_eq r nm]
theorem lastD_getD {α : Type} (l : List α) (d : α) : l.getLastD d = l.getD (l.length - 1) d := by
 rw [List.getLastD_eq_getLast?, List.getLast?_eq_getElem?, List.getD]
section
variable {s : Ps} {t : Ds}
theorem Rel.now (h : Rel s t) : (nowP s).Perm ((nowF t).map fun e => (e.1, e.2 + 1)) := by
 have := h.dir t.chs.length (Nat.le_refl _)
 rw [dirT_now] at this
 unfold nowP
 rw [lastD_getD, h.len]
 exact this
theorem Rel.nowNod (h : Rel s t) : ((nowF t).map (·.1)).Nodup := by have := h.nod _ (Nat.le_refl _); rw [dirT_now] at this; exact this
theorem Rel.nowHas (h : Rel s t) : ∀ e ∈ nowF t, (findA s.files (e.2 + 1)).isSome := by have := h.has _ (Nat.le_refl _); rw [dirT_now] at this; exact this
theorem Rel.find (h : Rel s t) (nm : Nm) : findA (nowP s) nm = (idF t nm).map (· + 1) := by
 unfold idF
 rw [findF_eq]
 exact dir_find (f := (· + 1)) h.now h.nowNod nm
theorem Rel.len' (h : Rel s t) : (nowP s).length = (nowF t).length := by rw [h.now.length_eq]; simp
theorem Rel.fileAt (h : Rel s t) {e : Nm × Nat} (he : e ∈ nowF t) : findA s.files (e.2 + 1) = some (nowSecs t e.2, secs t e.2) ∧ e.2 < t.fls.length := by
 obtain ⟨v, hv⟩ := Option.isSome_iff_exists.1 (h.nowHas e he)
 obtain ⟨id, h1, h2, h3⟩ := h.file _ _ hv
 obtain rfl : id = e.2 := by omega
 exact ⟨by rw [hv, h3], h2⟩
theorem Rel.idAt (h : Rel s t) {nm : Nm} {id : Nat} (hi : idF t nm = some id) : findA s.files (id + 1) = some (nowSecs t id, secs t id) ∧ id < t.fls.length := by
 obtain ⟨e, he, -, rfl⟩ := findF_mem _ _ _ hi
 exact h.fileAt he
theorem Rel.fileP (h : Rel s t) {nm : Nm} {id : Nat} (hi : idF t nm = some id) : fileP s (id + 1) = (nowSecs t id, secs t id) := by
 unfold Go.Proofs.YtoppcpiheaedlaaGreatDoor.fileP
 rw [(h.idAt hi).1]; rfl
theorem nowSecs_len (t : Ds) (id : Nat) : (nowSecs t id).length = (secs t id).length := applyW_len _ _ _
theorem Rel.taken (h : Rel s t) : takenP s = usedF t := by
 unfold takenP usedF
 rw [(h.now.map _).sum_nat, List.map_map]
 congr 1
 refine List.map_congr_left fun e he => ?_
 show (Go.Proofs.YtoppcpiheaedlaaGreatDoor.fileP s (e.2 + 1)).1.length = _
 unfold Go.Proofs.YtoppcpiheaedlaaGreatDoor.fileP
 rw [(h.fileAt he).1]
 exact nowSecs_len t e.2
theorem Rel.begin (h : Rel s t) : (beginP s).1 = (failsF t).1 ∧ Rel (beginP s).2 (failsF t).2 := by
 unfold beginP failsF
 rcases h.arm with ⟨ha, hc⟩ | ⟨ha, hc, hf, h0⟩
 · rw [if_pos hc, if_pos ha]
   exact ⟨rfl, h⟩
 · rw [if_neg (show ¬ s.code = 0 by rw [hc]; exact h0), if_neg (show ¬ t.armed = false by rw [ha]; decide), hf]
   split
   · exact ⟨rfl, h.room, .inr ⟨ha, hc, rfl, h0⟩, h.made, h.len, h.dir, h.nod, h.file, h.has, h.pend⟩
   · exact ⟨hc, h.room, .inl ⟨rfl, rfl⟩, h.made, h.len, h.dir, h.nod, h.file, h.has, h.pend⟩
def BothR (a : Int × Ps) (b : Int × Ds) : Prop := a.1 = b.1 ∧ Rel a.2 b.2
theorem fails_wf (hw : Wf t) : Wf (failsF t).2 := by
 unfold failsF
 split
 · exact hw
 · split
   · exact ⟨hw.dir, hw.chs, hw.wrs, hw.sec, hw.room⟩
   · exact ⟨hw.dir, hw.chs, hw.wrs, hw.sec, hw.room⟩
theorem guard_rel {k : Ps → Int × Ps} {k' : Ds → Int × Ds} (h : Rel s t) (hw : Wf t) (hk : ∀ s t, Rel s t → Wf t → BothR (k s) (k' t)) : BothR (guardP s k) (guardF t k') := by
 unfold guardP guardF
 rw [h.begin.1]
 split
 · exact ⟨h.begin.1, h.begin.2⟩
 · exact hk _ _ h.begin.2 (fails_wf hw)
theorem rel_chg (h : Rel s t) (c : Chg) (d : Dir) (hp : d.Perm ((chgF (nowF t) c).map fun e => (e.1, e.2 + 1))) (hn : ((chgF (nowF t) c).map (·.1)).Nodup) (hs : ∀ e ∈ chgF (nowF t) c, (findA s.files (e.2 + 1)).isSome) :
 Rel { s with dirs := s.dirs ++ [d] } { t with chs := t.chs ++ [c] } := by
 have hold : ∀ i, i ≤ t.chs.length → dirT { t with chs := t.chs ++ [c] } i = dirT t i := fun i hi => by
  unfold dirT
  rw [List.take_append_of_le_length hi]
 have hnew : dirT { t with chs := t.chs ++ [c] } (t.chs.length + 1) = chgF (nowF t) c := by
  unfold dirT nowF
  rw [List.take_of_length_le (by simp), List.foldl_append]; rfl
 have hcase : ∀ i, i ≤ (t.chs ++ [c]).length → i ≤ t.chs.length ∨ i = t.chs.length + 1 := fun i hi => by rw [List.length_append, List.length_singleton] at hi; omega
 refine ⟨h.room, h.arm, h.made, ?_, ?_, ?_, h.file, ?_, h.pend⟩
 · show (s.dirs ++ [d]).length = (t.chs ++ [c]).length + 1
   rw [List.length_append, List.length_append, h.len]; rfl
 · intro i hi
   show ((s.dirs ++ [d]).getD i []).Perm _
   rcases hcase i hi with hi | rfl
   · rw [hold i hi, List.getD, List.getElem?_append_left (by rw [h.len]; omega)]
     exact h.dir i hi
   · rw [hnew, List.getD, List.getElem?_append_right (by rw [h.len]; exact Nat.le_refl _), h.len, Nat.sub_self]
     exact hp
 · intro i hi
   rcases hcase i hi with hi | rfl
   · rw [hold i hi]; exact h.nod i hi
   · rw [hnew]; exact hn
 · intro i hi
   rcases hcase i hi with hi | rfl
   · rw [hold i hi]; exact h.has i hi
   · rw [hnew]; exact hs
theorem rel_file (h : Rel s t) (hw : Wf t) : Rel { s with files := s.files ++ [(s.made + 1, ([], []))], made := s.made + 1 } { t with fls := t.fls ++ [[]] } := by
 have hsec : ∀ id, secs { t with fls := t.fls ++ [[]] } id = secs t id := fun id => by
  unfold secs
  show (t.fls ++ [[]]).getD id [] = _
  rcases Nat.lt_trichotomy id t.fls.length with hl | rfl | hl
  · rw [List.getD, List.getElem?_append_left hl, List.getD]
  · rw [List.getD, List.getElem?_append_right (Nat.le_refl _), Nat.sub_self, List.getD, List.getElem?_eq_none (Nat.le_refl _)]; rfl
  · rw [List.getD, List.getElem?_eq_none (by rw [List.length_append]; simp; omega), List.getD, List.getElem?_eq_none (by omega)]
 have hnow : ∀ id, nowSecs { t with fls := t.fls ++ [[]] } id = nowSecs t id := fun id => by unfold nowSecs; rw [hsec]
 refine ⟨h.room, h.arm, ?_, h.len, h.dir, h.nod, ?_, ?_, h.pend⟩
 · show s.made + 1 = (t.fls ++ [[]]).length
   rw [List.length_append, h.made]; rfl
 · intro n v hv
   rw [findA_app] at hv
   cases hf : findA s.files n with
   | some u =>
    rw [hf, Option.some_or] at hv
    cases hv
    obtain ⟨id, h1, h2, h3⟩ := h.file n _ hf
    exact ⟨id, h1, by show id < (t.fls ++ [[]]).length; rw [List.length_append]; omega, by rw [hnow, hsec]; exact h3⟩
   | none =>
    rw [hf, Option.none_or] at hv
    simp only [findA] at hv
    split at hv
    · rename_i e
      cases hv
      refine ⟨t.fls.length, by rw [← h.made]; exact e.symm, by show _ < (t.fls ++ [[]]).length; rw [List.length_append]; simp, ?_⟩
      rw [hnow, hsec]
      have : secs t t.fls.length = [] := by unfold secs; rw [List.getD, List.getElem?_eq_none (Nat.le_refl _)]; rfl
      have h2 : nowSecs t t.fls.length = [] := List.eq_nil_of_length_eq_zero (by rw [nowSecs_len, this]; rfl)
      rw [this, h2]
    · cases hv
 · intro i hi e he
   show (findA (s.files ++ _) (e.2 + 1)).isSome
   rw [findA_app]
   have := h.has i hi e he
   cases hf : findA s.files (e.2 + 1) with
   | some u => simp
   | none => rw [hf] at this; simp at this
theorem mem_nodup_perm {l : Dir} (hn : (l.map (·.1)).Nodup) {a : Nm} {n : Nat} (hf : findA l a = some n) : l.Perm ((a, n) :: delA l a) := by
 induction l with
 | nil => simp [findA] at hf
 | cons p r ih =>
  rw [List.map_cons, List.nodup_cons] at hn
  unfold findA at hf
  split at hf
  · rename_i h1
    cases hf
    subst h1
    have : delA (p :: r) p.1 = r := by
     unfold delA
     rw [List.filter_cons_of_neg (by simp), List.filter_eq_self]
     intro x hx
     simp only [ne_eq, decide_eq_true_eq]
     exact fun e => hn.1 (List.mem_map.2 ⟨x, hx, e⟩)
    rw [this]
  · rename_i h1
    have : delA (p :: r) a = p :: delA r a := by unfold delA; rw [List.filter_cons_of_pos (by simp [h1])]
    rw [this]
    exact ((ih hn.2 hf).cons p).trans (List.Perm.swap _ _ _)
theorem chg_rem (d : Dir) (a b : Nm) (i : Nat) : chgF d ⟨1, a, b, i⟩ = delA d a := by
 unfold chgF
 rw [if_neg (show ¬ (1 : Nat) = 0 by decide), if_neg (by simp)]
 unfold delA
 induction d with
 | nil => rfl
 | cons p r ih =>
  rw [List.flatMap_cons, ih]
  unfold chgE
  by_cases h : p.1 = a
  · rw [if_neg (by simp), if_pos (.inl h), List.filter_cons_of_neg (by simp [h])]; rfl
  · rw [if_neg (by simp), if_neg (by simp [h]), List.filter_cons_of_pos (by simp [h])]; rfl
theorem chg_ren {d : Dir} (hn : (d.map (·.1)).Nodup) {a b : Nm} {n : Nat} (hf : findA d a = some n) : (chgF d ⟨2, a, b, 0⟩).Perm (putA (delA d a) b n) := by
 unfold chgF
 rw [if_neg (show ¬ (2 : Nat) = 0 by decide)]
 have hd : ∀ (x : Dir) (u : Nm), delA (delA x u) u = delA x u := fun x u => by unfold delA; rw [List.filter_filter]; simp
 by_cases e : a = b
 · subst e
   rw [if_pos ⟨rfl, rfl⟩]
   unfold putA
   rw [hd]
   exact (mem_nodup_perm hn hf).trans (List.perm_append_comm (l₁ := [(a, n)]))
 · rw [if_neg (fun h => e h.2)]
   refine ((mem_nodup_perm hn hf).flatMap_right (chgE ⟨2, a, b, 0⟩)).trans ?_
   rw [List.flatMap_cons]
   have h1 : chgE ⟨2, a, b, 0⟩ (a, n) = [(b, n)] := by unfold chgE; rw [if_pos ⟨rfl, rfl⟩]
   have h2 : ∀ l : Dir, (∀ x ∈ l, x.1 ≠ a) → l.flatMap (chgE ⟨2, a, b, 0⟩) = delA l b := by
    intro l
    induction l with
    | nil => intro _; rfl
    | cons p r ih =>
     intro hl
     rw [List.flatMap_cons, ih fun x hx => hl x (by simp [hx])]
     have hp := hl p (by simp)
     unfold delA chgE
     rw [if_neg (fun h => hp h.1)]
     by_cases hb : p.1 = b
     · rw [if_pos (.inr ⟨rfl, hb⟩), List.filter_cons_of_neg (by simp [hb])]; rfl
     · rw [if_neg (fun h => h.elim hp fun h => hb h.2), List.filter_cons_of_pos (by simp [hb])]; rfl
   rw [h1, h2 _ fun x hx => by unfold delA at hx; have := (List.mem_filter.1 hx).2; simpa using this]
   exact List.perm_append_comm
theorem find_none_notin {l : Dir} {a : Nm} (h : findA l a = none) : ∀ e ∈ l, e.1 ≠ a := by
 induction l with
 | nil => intro e he; cases he
 | cons p r ih =>
  unfold findA at h
  split at h
  · cases h
  · rename_i h1
    intro e he
    rcases List.mem_cons.1 he with rfl | he
    · exact h1
    · exact ih h e he
theorem del_notin {l : Dir} {a : Nm} (h : ∀ e ∈ l, e.1 ≠ a) : delA l a = l := by
 unfold delA
 rw [List.filter_eq_self]
 intro e he
 simpa using h e he
theorem rel_create (h : Rel s t) (hw : Wf t) (nm : Nm) : BothR (createP s nm) (createF t nm) := guard_rel h hw fun s t h hw => by
 rw [h.find nm, h.len', show ((idF t nm).map (· + 1)).isSome = (idF t nm).isSome by cases idF t nm <;> rfl]
 by_cases h1 : nameOK nm = false
 · rw [if_pos h1, if_pos h1]; exact ⟨rfl, h⟩
 rw [if_neg h1, if_neg h1]
 by_cases h2 : (idF t nm).isSome = true
 · rw [if_pos h2, if_pos h2]; exact ⟨rfl, h⟩
 rw [if_neg h2, if_neg h2]
 by_cases h3 : 8 ≤ (nowF t).length
 · rw [if_pos h3, if_pos h3]; exact ⟨rfl, h⟩
 rw [if_neg h3, if_neg h3]
 refine ⟨rfl, ?_⟩
 have hno : findA (nowF t) nm = none := by
  unfold idF at h2
  rw [findF_eq] at h2
  simpa using h2
 have hnp : findA (nowP s) nm = none := by
  have := h.find nm
  unfold idF at this
  rw [findF_eq, hno] at this
  exact this
 have hr := rel_file h hw
 have := rel_chg hr ⟨0, nm, [], t.fls.length⟩ (putA (nowP s) nm (s.made + 1)) ?_ ?_ ?_
 · exact this
 · show List.Perm _ ((chgF (nowF t) _).map _)
   unfold chgF putA
   rw [if_pos rfl, List.map_append, del_notin (find_none_notin hnp), h.made]
   exact h.now.append (List.Perm.refl _)
 · show ((chgF (nowF t) _).map _).Nodup
   unfold chgF
   rw [if_pos rfl, List.map_append, List.nodup_append]
   refine ⟨h.nowNod, by simp, ?_⟩
   intro x hx y hy e
   simp at hy
   obtain ⟨p, hp, rfl⟩ := List.mem_map.1 hx
   exact find_none_notin hno p hp (e.trans hy)
 · intro e he
   have he' : e ∈ chgF (nowF t) ⟨0, nm, [], t.fls.length⟩ := he
   unfold chgF at he'
   rw [if_pos rfl] at he'
   show (findA (s.files ++ [(s.made + 1, _)]) (e.2 + 1)).isSome
   rw [findA_app]
   rcases List.mem_append.1 he' with h' | h'
   · have := h.nowHas e h'
     cases hf : findA s.files (e.2 + 1) with
     | some u => simp
     | none => rw [hf] at this; simp at this
   · simp at h'
     subst h'
     simp only [findA, h.made]
     cases findA s.files (t.fls.length + 1) <;> simp
theorem rel_remove (h : Rel s t) (hw : Wf t) (nm : Nm) : BothR (removeP s nm) (removeF t nm) := guard_rel h hw fun s t h hw => by
 rw [h.find nm, show ((idF t nm).map (· + 1)).isNone = (idF t nm).isNone by cases idF t nm <;> rfl]
 by_cases h1 : (idF t nm).isNone = true
 · rw [if_pos h1, if_pos h1]; exact ⟨rfl, h⟩
 rw [if_neg h1, if_neg h1]
 refine ⟨rfl, rel_chg h _ _ ?_ ?_ ?_⟩
 · rw [chg_rem]; exact del_perm (· + 1) h.now nm
 · rw [chg_rem]; exact del_nodup h.nowNod nm
 · rw [chg_rem]; exact fun e he => h.nowHas e (List.mem_filter.1 he).1
theorem rel_rename (h : Rel s t) (hw : Wf t) (a b : Nm) : BothR (renameP s a b) (renameF t a b) := guard_rel h hw fun s t h hw => by
 rw [h.find a]
 cases hi : idF t a with
 | none =>
  exact ⟨rfl, h⟩
 | some n =>
  show BothR (if nameOK b = false then (2, s) else _) _
  rw [if_neg (show ¬ (some n).isNone = true by simp)]
  by_cases h1 : nameOK b = false
  · rw [if_pos h1, if_pos h1]; exact ⟨rfl, h⟩
  rw [if_neg h1, if_neg h1]
  have hf : findA (nowF t) a = some n := by rw [← findF_eq]; exact hi
  have hc := chg_ren h.nowNod (b := b) hf
  refine ⟨rfl, rel_chg h _ _ ?_ ?_ ?_⟩
  · exact (put_perm (· + 1) (del_perm (· + 1) h.now a) b n).trans (hc.symm.map _)
  · exact (hc.map _).nodup_iff.2 (put_nodup (del_nodup h.nowNod a) b n)
  · intro e he
    have := hc.mem_iff.1 he
    unfold putA at this
    rcases List.mem_append.1 this with h' | h'
    · exact h.nowHas e (List.mem_filter.1 (List.mem_filter.1 h').1).1
    · simp at h'
      subst h'
      rw [(h.idAt hi).1]; rfl
theorem rel_files (h : Rel s t) (files : List (Nat × (List Sec × List Sec))) (pend : List Wr) (fls : List (List Sec)) (wrs : List Wr) (hl : fls.length = t.fls.length)
 (hf : ∀ n v, findA files n = some v → ∃ id, n = id + 1 ∧ id < t.fls.length ∧ v = (applyW wrs id (fls.getD id []), fls.getD id [])) (hs : ∀ n, (findA s.files n).isSome → (findA files n).isSome) (hp : pend = wrs.map numW) :
 Rel { s with files := files, pend := pend } { t with fls := fls, wrs := wrs } :=
 ⟨h.room, h.arm, h.made.trans hl.symm, h.len, h.dir, h.nod, fun n v hv => by
  obtain ⟨id, h1, h2, h3⟩ := hf n v hv
  exact ⟨id, h1, by rw [hl]; exact h2, h3⟩, fun i hi e he => hs _ (h.has i hi e he), hp⟩
theorem set_isSome {l : List (Nat × (List Sec × List Sec))} {k : Nat} {v : List Sec × List Sec} (n : Nat) (h : (findA l n).isSome) : (findA (setFile l k v) n).isSome := by
 rw [findA_setFile]
 split
 · cases hf : findA l n with
   | none => rw [hf] at h; simp at h
   | some u => rfl
 · exact h
theorem rel_grow (h : Rel s t) (hw : Wf t) (nm : Nm) (n : Int) : BothR (growP s nm n) (growF t nm n) := guard_rel h hw fun s t h hw => by
 rw [h.find nm]
 cases hi : idF t nm with
 | none => exact ⟨rfl, h⟩
 | some id =>
  obtain ⟨hat, hlt⟩ := h.idAt hi
  simp only [Option.map_some]
  rw [h.fileP hi, h.taken]
  simp only
  rw [nowSecs_len]
  by_cases h1 : n < ((secs t id).length : Int) ∨ 4096 < n
  · rw [if_pos h1, if_pos h1]; exact ⟨rfl, h⟩
  rw [if_neg h1, if_neg h1]
  have hrm := h.room
  by_cases h2 : (s.room : Int) < (usedF t : Int) + (n - ((secs t id).length : Int))
  · rw [if_pos h2, if_pos (by omega)]; exact ⟨rfl, h⟩
  rw [if_neg h2, if_neg (by omega)]
  refine ⟨rfl, ?_⟩
  have hr := rel_files h (setFile s.files (id + 1) (nowSecs t id ++ List.replicate (n.toNat - (secs t id).length) zero64, secs t id ++ List.replicate (n.toNat - (secs t id).length) zero64)) s.pend
   (t.fls.set id (secs t id ++ List.replicate (n.toNat - (secs t id).length) zero64)) t.wrs List.length_set ?_ (fun m hm => set_isSome m hm) h.pend
  · exact hr
  · intro m v hv
    rw [findA_setFile] at hv
    split at hv
    · rename_i e
      subst e
      rw [hat] at hv
      cases hv
      refine ⟨id, rfl, hlt, ?_⟩
      rw [set_getD _ _ _ _ _ hlt, if_pos rfl, applyW_ext]
      · rfl
      · intro w hwm e
        have := (hw.wrs w hwm).2.1
        rw [e] at this
        exact this
    · rename_i e
      obtain ⟨j, h3, h4, h5⟩ := h.file m v hv
      refine ⟨j, h3, h4, ?_⟩
      rw [set_getD _ _ _ _ _ h4, if_neg (by omega)]
      exact h5
theorem rel_write (h : Rel s t) (hw : Wf t) (nm : Nm) (n : Int) (p : Sec) : BothR (writeP s nm n p) (writeF t nm n p) := guard_rel h hw fun s t h hw => by
 rw [h.find nm]
 cases hi : idF t nm with
 | none => exact ⟨rfl, h⟩
 | some id =>
  obtain ⟨hat, hlt⟩ := h.idAt hi
  simp only [Option.map_some]
  rw [h.fileP hi]
  simp only
  rw [nowSecs_len]
  by_cases h1 : n < 0 ∨ ((secs t id).length : Int) ≤ n
  · rw [if_pos h1, if_pos h1]; exact ⟨rfl, h⟩
  rw [if_neg h1, if_neg h1]
  by_cases h2 : p.length ≠ 64
  · rw [if_pos h2, if_pos h2]; exact ⟨rfl, h⟩
  rw [if_neg h2, if_neg h2]
  refine ⟨rfl, ?_⟩
  have hr := rel_files h (setFile s.files (id + 1) ((nowSecs t id).set n.toNat p, secs t id)) (s.pend ++ [⟨id + 1, n.toNat, p⟩]) t.fls (t.wrs ++ [⟨id, n.toNat, p⟩]) rfl ?_ (fun m hm => set_isSome m hm) (by rw [h.pend, List.map_append]; rfl)
  · exact hr
  · intro m v hv
    rw [findA_setFile] at hv
    split at hv
    · rename_i e
      subst e
      rw [hat] at hv
      cases hv
      refine ⟨id, rfl, hlt, ?_⟩
      rw [applyW_snoc, if_pos rfl]
      rfl
    · rename_i e
      obtain ⟨j, h3, h4, h5⟩ := h.file m v hv
      refine ⟨j, h3, h4, ?_⟩
      rw [applyW_snoc, if_neg (by show ¬ id = j; omega)]
      exact h5
theorem rel_look (h : Rel s t) (nm : Nm) (n : Int) : (match findA (nowP s) nm with
 | none => (([] : Sec), (7 : Int))
 | some k => if n < 0 ∨ ((Go.Proofs.YtoppcpiheaedlaaGreatDoor.fileP s k).1.length : Int) ≤ n then ([], 43) else ((Go.Proofs.YtoppcpiheaedlaaGreatDoor.fileP s k).1.getD n.toNat [], 0)) = lookF t nm n := by
 rw [h.find nm]
 unfold lookF
 cases hi : idF t nm with
 | none => rfl
 | some id =>
  simp only [Option.map_some]
  rw [h.fileP hi]
  simp only
  rw [nowSecs_len]
  split
  · rfl
  · rename_i h1
    rw [show (nowSecs t id).getD n.toNat [] = _ from applyW_get id n.toNat t.wrs (secs t id) (by omega)]
theorem rel_read (h : Rel s t) (nm : Nm) (n : Int) : (readP s nm n).1 = (readF t nm n).1 ∧ Rel (readP s nm n).2 (readF t nm n).2 := by
 unfold readP readF
 obtain ⟨h1, h2⟩ := h.begin
 rw [h1]
 by_cases h0 : (failsF t).1 ≠ 0
 · rw [if_pos h0, if_pos h0]; exact ⟨rfl, h2⟩
 rw [if_neg h0, if_neg h0, ← rel_look h2 nm n]
 cases findA (nowP (beginP s).2) nm with
 | none => exact ⟨rfl, h2⟩
 | some k =>
  simp only
  split
  · exact ⟨rfl, h2⟩
  · exact ⟨rfl, h2⟩
theorem rel_sync (h : Rel s t) (hw : Wf t) (nm : Nm) : BothR (syncP s nm) (syncF t nm) := guard_rel h hw fun s t h hw => by
 rw [h.find nm]
 cases hi : idF t nm with
 | none => exact ⟨rfl, h⟩
 | some id =>
  obtain ⟨hat, hlt⟩ := h.idAt hi
  simp only [Option.map_some]
  rw [h.fileP hi]
  refine ⟨rfl, ?_⟩
  have hr := rel_files h (setFile s.files (id + 1) (nowSecs t id, nowSecs t id)) (s.pend.filter fun w => !(w.id == id + 1)) ((t.wrs.filter fun w => w.id == id).foldl keepF t.fls) (t.wrs.filter fun w => !(w.id == id)) (keeps_len _ _) ?_ (fun m hm => set_isSome m hm) ?_
  · exact hr
  · intro m v hv
    rw [findA_setFile] at hv
    split at hv
    · rename_i e
      subst e
      rw [hat] at hv
      cases hv
      refine ⟨id, rfl, hlt, ?_⟩
      rw [keeps_get, applyW_filter, applyW_none id _ _ fun w hwm => by simpa using (List.mem_filter.1 hwm).2]
      rfl
    · rename_i e
      obtain ⟨j, h3, h4, h5⟩ := h.file m v hv
      refine ⟨j, h3, h4, ?_⟩
      rw [keeps_get, applyW_none j (t.wrs.filter fun w => w.id == id) _ fun w hwm e2 => by
       have := (List.mem_filter.1 hwm).2
       simp at this
       omega, applyW_other j id (by omega)]
      exact h5
  · rw [h.pend, List.filter_map]
    congr 1
    refine List.filter_congr fun w _ => ?_
    show (!(w.id + 1 == id + 1)) = _
    simp
theorem rel_settle (h : Rel s t) (i : Nat) (hi : i ≤ t.chs.length) : Rel (settleP s (s.dirs.getD i [])) { t with dir := dirT t i, chs := [] } := by
 refine ⟨h.room, h.arm, h.made, rfl, ?_, ?_, ?_, ?_, h.pend⟩
 · intro j hj
   simp at hj
   subst hj
   exact h.dir i hi
 · intro j hj
   simp at hj
   subst hj
   exact h.nod i hi
 · intro n v hv
   have hv' : findA (s.files.filter fun f => (s.dirs.getD i []).any fun e => e.2 == f.1) n = some v := hv
   rw [findA_filter (fun a => (s.dirs.getD i []).any fun e => e.2 == a)] at hv'
   split at hv'
   · exact h.file n v hv'
   · cases hv'
 · intro j hj e he
   simp at hj
   subst hj
   have he' : e ∈ dirT t i := he
   show (findA (s.files.filter fun f => (s.dirs.getD i []).any fun e => e.2 == f.1) (e.2 + 1)).isSome
   rw [findA_filter (fun a => (s.dirs.getD i []).any fun e => e.2 == a), if_pos]
   · exact h.has i hi e he'
   · rw [List.any_eq_true]
     exact ⟨(e.1, e.2 + 1), (h.dir i hi).mem_iff.2 (List.mem_map.2 ⟨e, he', rfl⟩), by simp⟩
theorem rel_syncDir (h : Rel s t) (hw : Wf t) : BothR (syncDirP s) (syncDirF t) := guard_rel h hw fun s t h hw => by
 refine ⟨rfl, ?_⟩
 have := rel_settle h t.chs.length (Nat.le_refl _)
 rw [dirT_now] at this
 have e : nowP s = s.dirs.getD t.chs.length [] := by unfold nowP; rw [lastD_getD, h.len]; rfl
 rw [e]
 exact this
theorem rel_arm (h : Rel s t) (n c : Int) : Rel (armP s n c) (armF t n c) := by
 unfold armP armF
 by_cases hc : 0 ≤ n ∧ (c = 41 ∨ c = 42)
 · rw [if_pos hc]
   refine ⟨h.room, .inr ⟨?_, rfl, rfl, by rcases hc.2 with e | e <;> (show c ≠ 0; omega)⟩, h.made, h.len, h.dir, h.nod, h.file, h.has, h.pend⟩
   show (decide (0 ≤ n) && (c == 41 || c == 42)) = true
   simpa using hc
 · rw [if_neg hc]
   refine ⟨h.room, .inl ⟨?_, rfl⟩, h.made, h.len, h.dir, h.nod, h.file, h.has, h.pend⟩
   show (decide (0 ≤ n) && (c == 41 || c == 42)) = false
   simp only [Bool.and_eq_false_iff, decide_eq_false_iff_not, Bool.or_eq_false_iff, beq_eq_false_iff_ne]
   omega
theorem keeps_find (id : Nat) : ∀ (ws : List Wr) (l : List (Nat × (List Sec × List Sec))), findA ((ws.map numW).foldl keepP l) (id + 1) = (findA l (id + 1)).map fun v => (v.1, applyW ws id v.2)
 | [], l => by
  show findA l (id + 1) = _
  cases findA l (id + 1) <;> rfl
 | w :: ws, l => by
  rw [List.map_cons, List.foldl_cons, keeps_find id ws, findA_keep]
  by_cases e : w.id = id
  · rw [if_pos (by show id + 1 = w.id + 1; omega), Option.map_map]
    congr 1
    funext v
    show (v.1, applyW ws id (v.2.set w.n w.p)) = (v.1, applyW (w :: ws) id v.2)
    rw [applyW_cons, if_pos e]
  · rw [if_neg (by show ¬ id + 1 = w.id + 1; omega)]
    congr 1
    funext v
    rw [applyW_cons, if_neg e]
theorem keeps_ne (ws : List Wr) (n : Nat) (l : List (Nat × (List Sec × List Sec))) : (findA (ws.foldl keepP l) n).isSome = (findA l n).isSome := by
 induction ws generalizing l with
 | nil => rfl
 | cons w ws ih =>
  rw [List.foldl_cons, ih, findA_keep]
  split
  · cases findA l n <;> rfl
  · rfl
theorem rel_crash (h : Rel s t) (n : Int) (keep : List Int) : Rel (crashP s n keep) (crashF t n keep) := by
 have hwh : whichP s n ≤ t.chs.length := by unfold whichP; rw [h.len]; omega
 have hr := rel_settle h (whichP s n) hwh
 have hdir : dirT t (whichP s n) = (t.chs.take n.toNat).foldl chgF t.dir := by
  unfold dirT whichP
  rw [h.len, Nat.add_sub_cancel]
  congr 1
  rcases Nat.le_total n.toNat t.chs.length with hl | hl
  · rw [Nat.min_eq_left hl]
  · rw [Nat.min_eq_right hl, List.take_of_length_le (Nat.le_refl _), List.take_of_length_le hl]
 rw [hdir] at hr
 have hk : keptF keep s.pend 0 = (keptF keep t.wrs 0).map numW := by rw [h.pend]; exact keptF_map keep numW t.wrs 0
 have h3 := rel_files hr ((((keptF keep t.wrs 0).map numW).foldl keepP (settleP s (s.dirs.getD (whichP s n) [])).files).map fun e => (e.1, (e.2.2, e.2.2))) [] ((keptF keep t.wrs 0).foldl keepF t.fls) [] (keeps_len _ _) ?_ ?_ rfl
 · unfold crashP crashF
   rw [hk]
   exact ⟨h3.room, .inl ⟨rfl, rfl⟩, h3.made, h3.len, h3.dir, h3.nod, h3.file, h3.has, h3.pend⟩
 · intro m v hv
   rw [findA_map (fun v : List Sec × List Sec => (v.2, v.2))] at hv
   cases hf : findA (((keptF keep t.wrs 0).map numW).foldl keepP (settleP s (s.dirs.getD (whichP s n) [])).files) m with
   | none => rw [hf] at hv; cases hv
   | some u =>
    rw [hf] at hv
    have hso := keeps_ne ((keptF keep t.wrs 0).map numW) m (settleP s (s.dirs.getD (whichP s n) [])).files
    rw [hf] at hso
    obtain ⟨u0, hu0⟩ := Option.isSome_iff_exists.1 hso.symm
    obtain ⟨id, h1, h2, h4⟩ := hr.file m u0 hu0
    subst h1
    rw [keeps_find, hu0] at hf
    refine ⟨id, rfl, h2, ?_⟩
    simp only [Option.map_some, Option.some.injEq] at hf hv
    rw [keeps_get, ← hv, ← hf, h4]
    rfl
 · intro m hm
   rw [findA_map (fun v : List Sec × List Sec => (v.2, v.2)), Option.isSome_map, keeps_ne]
   exact hm
def doD (s : Ds) (x : Dp) : (Int × Sec) × Ds :=
 if x.kind = 0 then (((createF s x.a).1, []), (createF s x.a).2)
 else if x.kind = 1 then (((removeF s x.a).1, []), (removeF s x.a).2)
 else if x.kind = 2 then (((renameF s x.a x.b).1, []), (renameF s x.a x.b).2)
 else if x.kind = 3 then (((growF s x.a x.n).1, []), (growF s x.a x.n).2)
 else if x.kind = 4 then (((writeF s x.a x.n x.p).1, []), (writeF s x.a x.n x.p).2)
 else if x.kind = 5 then (((readF s x.a x.n).1.2, (readF s x.a x.n).1.1), (readF s x.a x.n).2)
 else if x.kind = 6 then (((syncF s x.a).1, []), (syncF s x.a).2)
 else if x.kind = 7 then (((syncDirF s).1, []), (syncDirF s).2)
 else if x.kind = 8 then ((0, []), armF s x.n x.p.length)
 else if x.kind = 9 then ((0, []), crashF s x.n x.keep)
 else ((0, []), s)
theorem rel_do (h : Rel s t) (hw : Wf t) (x : Dp) : (doP s x).1 = (doD t x).1 ∧ Rel (doP s x).2 (doD t x).2 := by
 have b : ∀ {a : Int × Ps} {b : Int × Ds}, BothR a b → (((a.1, ([] : Sec)), a.2)).1 = (((b.1, ([] : Sec)), b.2)).1 ∧ Rel (((a.1, ([] : Sec)), a.2)).2 (((b.1, ([] : Sec)), b.2)).2 := fun h => ⟨by simp only [h.1], h.2⟩
 unfold doP doD
 by_cases h0 : x.kind = 0
 · rw [if_pos h0, if_pos h0]; exact b (rel_create h hw _)
 rw [if_neg h0, if_neg h0]
 by_cases h0 : x.kind = 1
 · rw [if_pos h0, if_pos h0]; exact b (rel_remove h hw _)
 rw [if_neg h0, if_neg h0]
 by_cases h0 : x.kind = 2
 · rw [if_pos h0, if_pos h0]; exact b (rel_rename h hw _ _)
 rw [if_neg h0, if_neg h0]
 by_cases h0 : x.kind = 3
 · rw [if_pos h0, if_pos h0]; exact b (rel_grow h hw _ _)
 rw [if_neg h0, if_neg h0]
 by_cases h0 : x.kind = 4
 · rw [if_pos h0, if_pos h0]; exact b (rel_write h hw _ _ _)
 rw [if_neg h0, if_neg h0]
 by_cases h0 : x.kind = 5
 · rw [if_pos h0, if_pos h0]
   obtain ⟨h1, h2⟩ := rel_read h x.a x.n
   exact ⟨by simp only [h1], h2⟩
 rw [if_neg h0, if_neg h0]
 by_cases h0 : x.kind = 6
 · rw [if_pos h0, if_pos h0]; exact b (rel_sync h hw _)
 rw [if_neg h0, if_neg h0]
 by_cases h0 : x.kind = 7
 · rw [if_pos h0, if_pos h0]; exact b (rel_syncDir h hw)
 rw [if_neg h0, if_neg h0]
 by_cases h0 : x.kind = 8
 · rw [if_pos h0, if_pos h0]; exact ⟨rfl, rel_arm h _ _⟩
 rw [if_neg h0, if_neg h0]
 by_cases h0 : x.kind = 9
 · rw [if_pos h0, if_pos h0]; exact ⟨rfl, rel_crash h _ _⟩
 rw [if_neg h0, if_neg h0]
 exact ⟨rfl, h⟩
end
end Go.Proofs.YtoppcpiheaedlaaGreatDoor
end
section
/-
  What holds of a disk behind so many deeds, none of which grows a file beyond 100 sectors.
-/
namespace Go.Proofs.YtoppcpiheaedlaaGreatDoor
set_option linter.unusedSectionVars false
set_option linter.unusedVariables false
set_option linter.unusedSimpArgs false
abbrev FileL := List (Nat × (List Sec × List Sec))
def SizeOk (l : FileL) : Prop := ∀ e ∈ l, e.2.1.length ≤ 100 ∧ e.2.2.length = e.2.1.length
def DirOk (l : FileL) (made : Nat) (d : Dir) : Prop := (d.map (·.1)).Nodup ∧ (d.map (·.2)).Nodup ∧ ∀ e ∈ d, 1 ≤ e.2 ∧ e.2 ≤ made ∧ (findA l e.2).isSome
structure Inv (c : Nat) (s : Ps) (R : Nat := 4096) : Prop where
 room : s.room = R
 code : 0 ≤ s.code ∧ s.code ≤ 100
 dirs : s.dirs.length ≤ c + 1
 made : s.made ≤ c
 files : s.files.length ≤ c
 pend : s.pend.length ≤ c
 dir : ∀ d ∈ s.dirs, DirOk s.files s.made d
 size : SizeOk s.files
 keys : ∀ e ∈ s.files, e.1 ≤ s.made
theorem Inv.mono {c c' : Nat} {s : Ps} {R : Nat} (h : Inv c s R) (hc : c ≤ c') : Inv c' s R :=
 ⟨h.room, h.code, by have := h.dirs; omega, by have := h.made; omega, by have := h.files; omega, by have := h.pend; omega, h.dir, h.size, h.keys⟩
theorem inv_newR (R : Nat) : Inv 0 (newP R) R := ⟨rfl, by show (0 : Int) ≤ 0 ∧ (0 : Int) ≤ 100; decide, by simp [newP], by simp [newP], by simp [newP], by simp [newP], by
 intro d hd
 simp [newP] at hd
 subst hd
 exact ⟨by simp, by simp, by simp⟩, by intro e he; simp [newP] at he, by intro e he; simp [newP] at he⟩
section
variable {c : Nat} {s : Ps} {R : Nat}
theorem inv_begin (h : Inv c s R) : Inv c (beginP s).2 R := by
 unfold beginP
 split
 · exact h
 · split
   · exact ⟨h.room, h.code, h.dirs, h.made, h.files, h.pend, h.dir, h.size, h.keys⟩
   · exact ⟨h.room, by show (0 : Int) ≤ 0 ∧ (0 : Int) ≤ 100; omega, h.dirs, h.made, h.files, h.pend, h.dir, h.size, h.keys⟩
theorem inv_guard (h : Inv c s R) {k : Ps → Int × Ps} (hk : ∀ s, Inv c s R → Inv (c + 1) (k s).2 R) : Inv (c + 1) (guardP s k).2 R := by
 unfold guardP
 split
 · exact (inv_begin h).mono (by omega)
 · exact hk _ (inv_begin h)
theorem DirOk.nil {l : FileL} {m : Nat} : DirOk l m [] := ⟨by simp, by simp, by simp⟩
theorem Inv.now (h : Inv c s R) : DirOk s.files s.made (nowP s) := by
 rcases last_mem' (a := ([] : Dir)) (l := s.dirs) with h' | h'
 · unfold nowP; rw [h']; exact DirOk.nil
 · exact h.dir _ h'
theorem DirOk.del {l : FileL} {m : Nat} {d : Dir} (h : DirOk l m d) (a : Nm) : DirOk l m (delA d a) :=
 ⟨del_nodup h.1 a, h.2.1.sublist (del_snd_sub a), fun e he => h.2.2 e (List.mem_filter.1 he).1⟩
theorem DirOk.put {l : FileL} {m : Nat} {d : Dir} (h : DirOk l m d) (a : Nm) (n : Nat) (hn : 1 ≤ n ∧ n ≤ m ∧ (findA l n).isSome) (hf : ∀ e ∈ d, e.2 ≠ n) : DirOk l m (putA d a n) := by
 refine ⟨put_nodup h.1 a n, ?_, ?_⟩
 · unfold putA
   rw [List.map_append, List.nodup_append]
   refine ⟨h.2.1.sublist (del_snd_sub a), by simp, ?_⟩
   intro x hx y hy e
   obtain ⟨p, hp, rfl⟩ := List.mem_map.1 hx
   simp at hy
   exact hf p (List.mem_filter.1 hp).1 (e.trans hy)
 · intro e he
   unfold putA at he
   rcases List.mem_append.1 he with he | he
   · exact h.2.2 e (List.mem_filter.1 he).1
   · simp at he; subst he; exact hn
theorem DirOk.files {l l' : FileL} {m m' : Nat} {d : Dir} (h : DirOk l m d) (hm : m ≤ m') (hl : ∀ n, (findA l n).isSome → (findA l' n).isSome) : DirOk l' m' d :=
 ⟨h.1, h.2.1, fun e he => ⟨(h.2.2 e he).1, Nat.le_trans (h.2.2 e he).2.1 hm, hl _ (h.2.2 e he).2.2⟩⟩
theorem inv_dir (h : Inv c s R) (d : Dir) (hd : DirOk s.files s.made d) : Inv (c + 1) { s with dirs := s.dirs ++ [d] } R := by
 refine ⟨h.room, h.code, ?_, by have := h.made; show s.made ≤ _; omega, by have := h.files; show s.files.length ≤ _; omega, by have := h.pend; show s.pend.length ≤ _; omega, ?_, h.size, h.keys⟩
 · show (s.dirs ++ [d]).length ≤ _
   rw [List.length_append]
   have := h.dirs
   simp
   omega
 · intro x hx
   rcases List.mem_append.1 hx with hx | hx
   · exact h.dir x hx
   · simp at hx; subst hx; exact hd
theorem inv_create (h : Inv c s R) (nm : Nm) : Inv (c + 1) (createP s nm).2 R := inv_guard h fun s h => by
 split
 · exact h.mono (by omega)
 · split
   · exact h.mono (by omega)
   · split
     · exact h.mono (by omega)
     · have happ : ∀ n, (findA s.files n).isSome → (findA (s.files ++ [(s.made + 1, (([] : List Sec), ([] : List Sec)))]) n).isSome := by
        intro n hn
        rw [findA_app]
        cases hq : findA s.files n with
        | some v => rfl
        | none => rw [hq] at hn; cases hn
       refine ⟨h.room, h.code, ?_, by have := h.made; show s.made + 1 ≤ _; omega, ?_, by have := h.pend; show s.pend.length ≤ _; omega, ?_, ?_, ?_⟩
       · show (s.dirs ++ [_]).length ≤ _
         rw [List.length_append]
         have := h.dirs
         simp
         omega
       · show (s.files ++ [_]).length ≤ _
         rw [List.length_append]
         have := h.files
         simp
         omega
       · intro x hx
         rcases List.mem_append.1 hx with hx | hx
         · exact (h.dir x hx).files (Nat.le_succ _) happ
         · simp at hx; subst hx
           refine (h.now.files (Nat.le_succ _) happ).put nm _ ⟨by omega, Nat.le_refl _, ?_⟩ ?_
           · rw [findA_app]
             have : findA s.files (s.made + 1) = none := findA_none fun p hp hq => by have := h.keys p hp; omega
             rw [this]
             simp [findA]
           · intro e he hq
             have := (h.now.2.2 e he).2.1
             omega
       · intro e he
         rcases List.mem_append.1 he with he | he
         · exact h.size e he
         · simp at he; subst he; simp
       · intro e he
         show e.1 ≤ s.made + 1
         rcases List.mem_append.1 he with he | he
         · have := h.keys e he; omega
         · simp at he; subst he; exact Nat.le_refl _
theorem inv_remove (h : Inv c s R) (nm : Nm) : Inv (c + 1) (removeP s nm).2 R := inv_guard h fun s h => by
 split
 · exact h.mono (by omega)
 · exact inv_dir h _ (h.now.del nm)
theorem inv_rename (h : Inv c s R) (a b : Nm) : Inv (c + 1) (renameP s a b).2 R := inv_guard h fun s h => by
 split
 · exact h.mono (by omega)
 · rename_i n hf
   split
   · exact h.mono (by omega)
   · have hm := findA_mem hf
     refine inv_dir h _ ((h.now.del a).put b n (h.now.2.2 _ hm) ?_)
     intro e he hq
     have h1 := List.mem_filter.1 he
     have h2 : e = (a, n) := by
      have hnd := h.now.2.1
      have := List.pairwise_map.1 hnd
      rcases List.getElem_of_mem h1.1 with ⟨i, hi, hie⟩
      rcases List.getElem_of_mem hm with ⟨j, hj, hje⟩
      rcases Nat.lt_trichotomy i j with hij | hij | hij
      · have := List.pairwise_iff_getElem.1 this i j hi hj hij
        rw [hie, hje] at this
        exact absurd hq this
      · subst hij; rw [← hie, hje]
      · have := List.pairwise_iff_getElem.1 this j i hj hi hij
        rw [hie, hje] at this
        exact absurd hq.symm this
     rw [h2] at h1
     simp at h1
theorem fileP_ok (h : Inv c s R) (n : Nat) : (fileP s n).1.length ≤ 100 ∧ (fileP s n).2.length = (fileP s n).1.length := by
 unfold fileP
 cases hf : findA s.files n with
 | none => simp
 | some v => exact h.size _ (findA_mem hf)
theorem inv_set (h : Inv c s R) (n : Nat) (v : List Sec × List Sec) (p : List Wr) (hv : v.1.length ≤ 100 ∧ v.2.length = v.1.length) (hp : p.length ≤ c + 1) : Inv (c + 1) { s with files := setFile s.files n v, pend := p } R := by
 refine ⟨h.room, h.code, by have := h.dirs; show s.dirs.length ≤ _; omega, by have := h.made; show s.made ≤ _; omega, ?_, hp, ?_, ?_, setFile_keys h.keys⟩
 · show (setFile s.files n v).length ≤ _
   unfold setFile
   rw [List.length_map]
   have := h.files
   omega
 · intro d hd
   refine (h.dir d hd).files (Nat.le_refl _) fun m hm => ?_
   rw [findA_setFile]
   split
   · cases hq : findA s.files m with
     | none => rw [hq] at hm; cases hm
     | some x => rfl
   · exact hm
 · intro e he
   unfold setFile at he
   obtain ⟨x, hx, rfl⟩ := List.mem_map.1 he
   split
   · exact hv
   · exact h.size x hx
theorem inv_grow (h : Inv c s R) (nm : Nm) (n : Int) (hn : ¬ (100 < n ∧ n ≤ 4096)) : Inv (c + 1) (growP s nm n).2 R := inv_guard h fun s h => by
 split
 · exact h.mono (by omega)
 · rename_i k hf
   split
   · exact h.mono (by omega)
   · rename_i h1
     split
     · exact h.mono (by omega)
     · have h2 := fileP_ok h k
       refine inv_set h k _ _ ⟨?_, ?_⟩ (by have := h.pend; omega)
       · rw [List.length_append, List.length_replicate]; omega
       · rw [List.length_append, List.length_append, h2.2]
theorem inv_write (h : Inv c s R) (nm : Nm) (n : Int) (p : Sec) : Inv (c + 1) (writeP s nm n p).2 R := inv_guard h fun s h => by
 split
 · exact h.mono (by omega)
 · rename_i k hf
   split
   · exact h.mono (by omega)
   · split
     · exact h.mono (by omega)
     · have h2 := fileP_ok h k
       exact inv_set h k _ _ ⟨by rw [List.length_set]; exact h2.1, by rw [List.length_set]; exact h2.2⟩ (by rw [List.length_append]; have := h.pend; simp; omega)
theorem inv_sync (h : Inv c s R) (nm : Nm) : Inv (c + 1) (syncP s nm).2 R := inv_guard h fun s h => by
 split
 · exact h.mono (by omega)
 · rename_i k hf
   have h2 := fileP_ok h k
   exact inv_set h k _ _ ⟨h2.1, rfl⟩ (by have := List.length_filter_le (fun w : Wr => !(w.id == k)) s.pend; have := h.pend; omega)
theorem settle_there {l : FileL} {m : Nat} {d : Dir} (h : DirOk l m d) : DirOk (l.filter fun f => d.any fun e => e.2 == f.1) m d :=
 ⟨h.1, h.2.1, fun e he => ⟨(h.2.2 e he).1, (h.2.2 e he).2.1, by
  rw [findA_filter (fun n => d.any fun z => z.2 == n), if_pos (List.any_eq_true.2 ⟨e, he, by simp⟩)]
  exact (h.2.2 e he).2.2⟩⟩
theorem inv_settle (h : Inv c s R) (d : Dir) (hd : DirOk s.files s.made d) : Inv c (settleP s d) R := by
 refine ⟨h.room, h.code, by show 1 ≤ c + 1; omega, h.made, Nat.le_trans (List.length_filter_le _ _) h.files, h.pend, ?_, fun e he => h.size e (List.mem_filter.1 he).1, fun e he => h.keys e (List.mem_filter.1 he).1⟩
 intro x hx
 have hx : x ∈ [d] := hx
 simp at hx; subst hx
 exact settle_there hd
theorem inv_syncDir (h : Inv c s R) : Inv (c + 1) (syncDirP s).2 R := inv_guard h fun s h => (inv_settle h _ h.now).mono (by omega)
theorem inv_arm (h : Inv c s R) (n k : Int) : Inv c (armP s n k) R := by
 unfold armP
 split
 · rename_i hq
   exact ⟨h.room, by show 0 ≤ k ∧ k ≤ 100; omega, h.dirs, h.made, h.files, h.pend, h.dir, h.size, h.keys⟩
 · exact ⟨h.room, by show (0 : Int) ≤ 0 ∧ (0 : Int) ≤ 100; omega, h.dirs, h.made, h.files, h.pend, h.dir, h.size, h.keys⟩
theorem keep_size {l : FileL} (h : SizeOk l) (w : Wr) : SizeOk (keepP l w) := by
 intro e he
 unfold keepP at he
 obtain ⟨x, hx, rfl⟩ := List.mem_map.1 he
 split
 · have := h x hx
   exact ⟨this.1, by rw [List.length_set]; exact this.2⟩
 · exact h x hx
theorem keep_len (l : FileL) (w : Wr) : (keepP l w).length = l.length := by unfold keepP; simp
theorem keep_there (l : FileL) (w : Wr) (n : Nat) (h : (findA l n).isSome) : (findA (keepP l w) n).isSome := by
 rw [findA_keep]
 split
 · cases hq : findA l n with
   | none => rw [hq] at h; cases h
   | some x => rfl
 · exact h
theorem keeps_all : ∀ (ws : List Wr) (l : FileL), SizeOk l → SizeOk (ws.foldl keepP l) ∧ (ws.foldl keepP l).length = l.length ∧ ∀ n, (findA l n).isSome → (findA (ws.foldl keepP l) n).isSome
 | [], l, h => ⟨h, rfl, fun _ h => h⟩
 | w :: ws, l, h => by
  obtain ⟨h1, h2, h3⟩ := keeps_all ws (keepP l w) (keep_size h w)
  exact ⟨h1, h2.trans (keep_len l w), fun n hn => h3 n (keep_there l w n hn)⟩
theorem inv_crash (h : Inv c s R) (n : Int) (keep : List Int) : Inv c (crashP s n keep) R := by
 have hd : DirOk s.files s.made (s.dirs.getD (whichP s n) []) := by
  by_cases hl : whichP s n < s.dirs.length
  · rw [List.getD_eq_getElem?_getD, List.getElem?_eq_getElem hl]; exact h.dir _ (List.getElem_mem hl)
  · rw [List.getD_eq_getElem?_getD, List.getElem?_eq_none (by omega)]; exact DirOk.nil
 have h1 := inv_settle h _ hd
 unfold crashP
 generalize s.dirs.getD (whichP s n) [] = D at *
 obtain ⟨k1, k2, k3⟩ := keeps_all (keptF keep s.pend 0) (settleP s D).files h1.size
 refine ⟨h1.room, by show (0 : Int) ≤ 0 ∧ (0 : Int) ≤ 100; omega, h1.dirs, h1.made, ?_, by show 0 ≤ c; omega, ?_, ?_, ?_⟩
 · show (List.map _ _).length ≤ c
   rw [List.length_map, k2]
   exact h1.files
 · intro d hd'
   refine (h1.dir d hd').files (Nat.le_refl _) fun m hm => ?_
   show (findA (List.map (fun e : Nat × (List Sec × List Sec) => (e.1, (e.2.2, e.2.2))) _) m).isSome
   rw [findA_map (fun v : List Sec × List Sec => (v.2, v.2))]
   have := k3 m hm
   cases hq : findA (List.foldl keepP (settleP s D).files (keptF keep s.pend 0)) m with
   | none => rw [hq] at this; cases this
   | some x => rfl
 · intro e he
   obtain ⟨x, hx, rfl⟩ := List.mem_map.1 he
   have := k1 x hx
   exact ⟨by show x.2.2.length ≤ 100; omega, rfl⟩
 · intro e he
   obtain ⟨x, hx, rfl⟩ := List.mem_map.1 he
   exact foldl_keep_keys _ h1.keys x hx
theorem inv_do (h : Inv c s R) (x : Dp) (hx : ¬ (x.kind = 3 ∧ 100 < x.n ∧ x.n ≤ 4096)) : Inv (c + 1) (doP s x).2 R := by
 unfold doP
 by_cases h0 : x.kind = 0
 · simp only [if_pos h0]; exact inv_create h _
 simp only [if_neg h0]
 by_cases h1 : x.kind = 1
 · simp only [if_pos h1]; exact inv_remove h _
 simp only [if_neg h1]
 by_cases h2 : x.kind = 2
 · simp only [if_pos h2]; exact inv_rename h _ _
 simp only [if_neg h2]
 by_cases h3 : x.kind = 3
 · simp only [if_pos h3]; exact inv_grow h _ _ fun hq => hx ⟨h3, hq⟩
 simp only [if_neg h3]
 by_cases h4 : x.kind = 4
 · simp only [if_pos h4]; exact inv_write h _ _ _
 simp only [if_neg h4]
 by_cases h5 : x.kind = 5
 · simp only [if_pos h5]
   have : (readP s x.a x.n).2 = (beginP s).2 := by
    unfold readP
    split
    · rfl
    · split
      · rfl
      · split <;> rfl
   rw [this]
   exact (inv_begin h).mono (by omega)
 simp only [if_neg h5]
 by_cases h6 : x.kind = 6
 · simp only [if_pos h6]; exact inv_sync h _
 simp only [if_neg h6]
 by_cases h7 : x.kind = 7
 · simp only [if_pos h7]; exact inv_syncDir h
 simp only [if_neg h7]
 by_cases h8 : x.kind = 8
 · simp only [if_pos h8]; exact (inv_arm h _ _).mono (by omega)
 simp only [if_neg h8]
 by_cases h9 : x.kind = 9
 · simp only [if_pos h9]; exact (inv_crash h _ _).mono (by omega)
 simp only [if_neg h9]
 exact h.mono (by omega)
end
end Go.Proofs.YtoppcpiheaedlaaGreatDoor
end
