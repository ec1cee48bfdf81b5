/-
  Deeds on the program's disk as a pure state; two disks that are alike but for their files' numbers.
-/
import Derived.Test.YtoppcpiheaedlaaGreatDoorPs
namespace Go.Proofs.YtoppcpiheaedlaaGreatDoor
set_option linter.unusedSectionVars false
set_option linter.unusedVariables false
set_option linter.unusedSimpArgs false

section
variable {α β γ : Type} [DecidableEq α]
theorem findA_del {l : List (α × β)} (a b : α) : findA (delA l a) b = if b = a then none else findA l b := by
  unfold delA
  induction l with
  | nil => simp [findA]
  | cons p r ih =>
    by_cases h : p.1 = a
    · rw [List.filter_cons_of_neg (by simp [h]), ih]
      by_cases hb : b = a
      · simp [hb]
      · rw [if_neg hb, if_neg hb]
        conv => rhs; unfold findA
        rw [if_neg (fun e => hb (e.symm.trans h))]
    · rw [List.filter_cons_of_pos (by simp [h])]
      unfold findA
      rw [ih]
      by_cases hb : p.1 = b
      · rw [if_pos hb, if_pos hb, if_neg (fun e => h (hb.trans e))]
      · rw [if_neg hb, if_neg hb]
theorem findA_app {l m : List (α × β)} (a : α) : findA (l ++ m) a = ((findA l a).or (findA m a)) := by
  induction l with
  | nil => simp [findA]
  | cons p r ih =>
    rw [List.cons_append]
    by_cases h : p.1 = a
    · simp [findA, h]
    · simp [findA, h, ih]
theorem findA_put {l : List (α × β)} (a b : α) (c : β) : findA (putA l a c) b = if b = a then some c else findA l b := by
  unfold putA
  rw [findA_app, findA_del]
  by_cases h : b = a
  · simp [h, findA]
  · rw [if_neg h, if_neg h]
    cases findA l b with
    | some x => rfl
    | none => simp [findA, Ne.symm h]
theorem findA_map (g : β → γ) (l : List (α × β)) (a : α) : findA (l.map fun e => (e.1, g e.2)) a = (findA l a).map g := by
  induction l with
  | nil => simp [findA]
  | cons p r ih =>
    rw [List.map_cons]
    unfold findA
    split
    · rfl
    · exact ih
theorem findA_filter (q : α → Bool) (l : List (α × β)) (a : α) : findA (l.filter fun e => q e.1) a = if q a then findA l a else none := by
  induction l with
  | nil => simp [findA]
  | cons p r ih =>
    by_cases h : q p.1 = true
    · rw [List.filter_cons_of_pos (p := fun e : α × β => q e.1) h]
      unfold findA
      rw [ih]
      by_cases hp : p.1 = a
      · rw [if_pos hp, if_pos hp, if_pos (hp ▸ h)]
      · rw [if_neg hp, if_neg hp]
    · rw [List.filter_cons_of_neg (p := fun e : α × β => q e.1) h, ih]
      by_cases hq : q a = true
      · rw [if_pos hq, if_pos hq]
        conv => rhs; unfold findA
        rw [if_neg (fun e : p.1 = a => h (by rw [e]; exact hq))]
      · rw [if_neg hq, if_neg hq]
theorem del_fst {l : List (α × β)} (a : α) : (delA l a).map (·.1) = (l.map (·.1)).filter fun x => decide (x ≠ a) := by
  unfold delA
  rw [List.filter_map]
  rfl
theorem del_nodup {l : List (α × β)} (h : (l.map (·.1)).Nodup) (a : α) : ((delA l a).map (·.1)).Nodup := by
  rw [del_fst]; exact h.filter _
theorem put_nodup {l : List (α × β)} (h : (l.map (·.1)).Nodup) (a : α) (b : β) : ((putA l a b).map (·.1)).Nodup := by
  unfold putA
  rw [List.map_append, List.nodup_append]
  refine ⟨del_nodup h a, by simp, ?_⟩
  intro x hx y hy e
  rw [del_fst] at hx
  simp at hx hy
  exact hx.2 (e.trans hy)
theorem del_snd_sub {l : List (α × β)} (a : α) : ((delA l a).map (·.2)).Sublist (l.map (·.2)) := List.Sublist.map _ List.filter_sublist
theorem del_perm (g : β → γ) {l : List (α × β)} {m : List (α × γ)} (h : m.Perm (l.map fun e => (e.1, g e.2))) (a : α) : (delA m a).Perm ((delA l a).map fun e => (e.1, g e.2)) := by
  have := h.filter fun p => decide (p.1 ≠ a)
  unfold delA
  rw [List.filter_map] at this
  exact this
theorem put_perm (g : β → γ) {l : List (α × β)} {m : List (α × γ)} (h : m.Perm (l.map fun e => (e.1, g e.2))) (a : α) (b : β) : (putA m a (g b)).Perm ((putA l a b).map fun e => (e.1, g e.2)) := by
  unfold putA
  rw [List.map_append]
  exact (del_perm g h a).append (List.Perm.refl _)
theorem put_perm' (g : β → γ) {l : List (α × β)} {m : List (α × γ)} (h : m.Perm (l.map fun e => (e.1, g e.2))) (a : α) (b : β) (c : γ) (hc : c = g b) : (putA m a c).Perm ((putA l a b).map fun e => (e.1, g e.2)) := hc ▸ put_perm g h a b
end

/-- Two lists, part by part. -/
def All2 {α β : Type} (R : α → β → Prop) : List α → List β → Prop
  | [], [] => True
  | x :: l, y :: m => R x y ∧ All2 R l m
  | _, _ => False
/-- A deed's plain parts. -/
structure Dp where
  kind : Int
  a : Nm
  b : Nm
  n : Int
  p : Sec
  keep : List Int
/-- A deed on a disk: its error's number, what is read; the disk behind it. -/
def doP (s : Ps) (x : Dp) : (Int × Sec) × Ps :=
  if x.kind = 0 then (((createP s x.a).1, []), (createP s x.a).2)
  else if x.kind = 1 then (((removeP s x.a).1, []), (removeP s x.a).2)
  else if x.kind = 2 then (((renameP s x.a x.b).1, []), (renameP s x.a x.b).2)
  else if x.kind = 3 then (((growP s x.a x.n).1, []), (growP s x.a x.n).2)
  else if x.kind = 4 then (((writeP s x.a x.n x.p).1, []), (writeP s x.a x.n x.p).2)
  else if x.kind = 5 then (((readP s x.a x.n).1.2, (readP s x.a x.n).1.1), (readP s x.a x.n).2)
  else if x.kind = 6 then (((syncP s x.a).1, []), (syncP s x.a).2)
  else if x.kind = 7 then (((syncDirP s).1, []), (syncDirP s).2)
  else if x.kind = 8 then ((0, []), armP s x.n x.p.length)
  else if x.kind = 9 then ((0, []), crashP s x.n x.keep)
  else ((0, []), s)

/-- Alike but for the files' numbers: f tells the other disk's. -/
structure Ali (f : Nat → Nat) (s t : Ps) : Prop where
  room : t.room = s.room
  first : t.first = s.first
  code : t.code = s.code
  dirs : All2 (fun d d' : Dir => d'.Perm (d.map fun e => (e.1, f e.2))) s.dirs t.dirs
  nod : ∀ d ∈ s.dirs, (d.map (·.1)).Nodup
  le : ∀ d ∈ s.dirs, ∀ e ∈ d, e.2 ≤ s.made
  fle : ∀ n, n ≤ s.made → f n ≤ t.made
  inj : ∀ n m, n ≤ s.made → m ≤ s.made → f n = f m → n = m
  files : ∀ d ∈ s.dirs, ∀ e ∈ d, findA t.files (f e.2) = findA s.files e.2
  pend : t.pend = s.pend.map fun w => ⟨f w.id, w.n, w.p⟩
  pendle : ∀ w ∈ s.pend, w.id ≤ s.made
  fkeys : ∀ e ∈ s.files, e.1 ≤ s.made
  fkeys' : ∀ e ∈ t.files, e.1 ≤ t.made
end Go.Proofs.YtoppcpiheaedlaaGreatDoor
