/-
  Two disks that are alike answer alike, and stay so, whatever is done to both.
-/
import Derived.Test.YtoppcpiheaedlaaGreatDoorLdF
namespace Go.Proofs.YtoppcpiheaedlaaGreatDoor
set_option linter.unusedSectionVars false
set_option linter.unusedVariables false
set_option linter.unusedSimpArgs false

theorem All2.ind {α β : Type} {R : α → β → Prop} {motive : List α → List β → Prop} (hn : motive [] []) (hc : ∀ x y l m, R x y → All2 R l m → motive l m → motive (x :: l) (y :: m)) : ∀ {l : List α} {m : List β}, All2 R l m → motive l m
  | [], [], _ => hn
  | x :: l, y :: m, h => hc x y l m h.1 h.2 (All2.ind hn hc h.2)
theorem forall2_last {α β : Type} {R : α → β → Prop} {a : α} {b : β} : ∀ {l : List α} {m : List β}, All2 R l m → R a b → R (l.getLastD a) (m.getLastD b)
  | [], [], _, h => h
  | x :: [], y :: [], h, hr => h.1
  | x :: [], y :: y' :: m', h, hr => h.2.elim
  | x :: x' :: l', y :: [], h, hr => h.2.elim
  | x :: x' :: l', y :: y' :: m', h, hr => by
    have := forall2_last (a := x) (b := y) (l := x' :: l') (m := y' :: m') h.2 h.1
    simpa only [List.getLastD_cons] using this
theorem forall2_app {α β : Type} {R : α → β → Prop} {l l2 : List α} {m m2 : List β} (h : All2 R l m) (h2 : All2 R l2 m2) : All2 R (l ++ l2) (m ++ m2) :=
  All2.ind (motive := fun l m => All2 R (l ++ l2) (m ++ m2)) h2 (fun x y l m hx _ ih => show R x y ∧ All2 R (l ++ l2) (m ++ m2) from ⟨hx, ih⟩) h
theorem forall2_mono {α β : Type} {R S : α → β → Prop} : ∀ {l : List α} {m : List β}, All2 R l m → (∀ a ∈ l, ∀ b, R a b → S a b) → All2 S l m
  | [], [], _, _ => trivial
  | x :: l, y :: m, h, hs => ⟨hs x (by simp) y h.1, forall2_mono h.2 fun a ha => hs a (by simp [ha])⟩
theorem forall2_len {α β : Type} {R : α → β → Prop} {l : List α} {m : List β} (h : All2 R l m) : m.length = l.length :=
  All2.ind (motive := fun (l : List α) (m : List β) => m.length = l.length) rfl (fun x y l m _ _ ih => by simp [ih]) h
theorem forall2_getD {α β : Type} {R : α → β → Prop} {a : α} {b : β} : ∀ {l : List α} {m : List β}, All2 R l m → R a b → ∀ i, R (l.getD i a) (m.getD i b)
  | [], [], _, hr, i => by simpa using hr
  | x :: l, y :: m, h, hr, 0 => by simpa using h.1
  | x :: l, y :: m, h, hr, i + 1 => by simpa using forall2_getD h.2 hr i
theorem last_mem' {α : Type} {a : α} : ∀ {l : List α}, l = [] ∨ l.getLastD a ∈ l
  | [] => .inl rfl
  | x :: l => by
    right
    rw [List.getLastD_cons]
    exact List.getLastD_mem_cons
theorem now_in (s : Ps) {e : Nm × Nat} (h : e ∈ nowP s) : nowP s ∈ s.dirs := by
  rcases last_mem' (a := ([] : Dir)) (l := s.dirs) with h' | h'
  · unfold nowP at h; rw [h'] at h; simp at h
  · exact h'
def DirR (f : Nat → Nat) (d d' : Dir) : Prop := d'.Perm (d.map fun e => (e.1, f e.2))
section
variable {f : Nat → Nat} {s t : Ps}
theorem Ali.now (h : Ali f s t) : (nowP t).Perm ((nowP s).map fun e => (e.1, f e.2)) := forall2_last h.dirs (by simp)
theorem Ali.nowNod (h : Ali f s t) : ((nowP s).map (·.1)).Nodup := by
  rcases last_mem' (a := ([] : Dir)) (l := s.dirs) with h' | h'
  · unfold nowP; rw [h']; simp
  · exact h.nod _ h'
theorem dir_find {f : Nat → Nat} {d d' : Dir} (h : d'.Perm (d.map fun e => (e.1, f e.2))) (hn : (d.map (·.1)).Nodup) (nm : Nm) : findA d' nm = (findA d nm).map f := by
  rw [← findA_map f d nm]
  refine findA_perm h ?_ nm
  exact (h.map (·.1)).nodup_iff.2 (by rw [List.map_map]; exact hn)
theorem Ali.find (h : Ali f s t) (nm : Nm) : findA (nowP t) nm = (findA (nowP s) nm).map f := dir_find h.now h.nowNod nm
theorem Ali.len (h : Ali f s t) : (nowP t).length = (nowP s).length := by rw [h.now.length_eq]; simp
theorem Ali.nums (h : Ali f s t) {nm : Nm} {n : Nat} (hf : findA (nowP s) nm = some n) : n ≤ s.made ∧ findA t.files (f n) = findA s.files n := by
  have hm := findA_mem hf
  exact ⟨h.le _ (now_in s hm) _ hm, h.files _ (now_in s hm) _ hm⟩
theorem Ali.file (h : Ali f s t) {nm : Nm} {n : Nat} (hf : findA (nowP s) nm = some n) : fileP t (f n) = fileP s n := by
  unfold fileP; rw [(h.nums hf).2]
theorem Ali.taken (h : Ali f s t) : takenP t = takenP s := by
  unfold takenP
  have := (h.now.map fun e => (fileP t e.2).1.length).sum_nat
  rw [this, List.map_map]
  congr 1
  apply List.map_congr_left
  intro e he
  simp only [Function.comp]
  have hf : fileP t (f e.2) = fileP s e.2 := by unfold fileP; rw [h.files _ (now_in s he) _ he]
  rw [hf]
theorem Ali.begin (h : Ali f s t) : (beginP t).1 = (beginP s).1 ∧ Ali f (beginP s).2 (beginP t).2 := by
  unfold beginP
  rw [h.code, h.first]
  split
  · exact ⟨rfl, h⟩
  · split
    · exact ⟨rfl, ⟨h.room, by simp, by simp [h.code], h.dirs, h.nod, h.le, h.fle, h.inj, h.files, h.pend, h.pendle, h.fkeys, h.fkeys'⟩⟩
    · exact ⟨rfl, ⟨h.room, by simp, by simp, h.dirs, h.nod, h.le, h.fle, h.inj, h.files, h.pend, h.pendle, h.fkeys, h.fkeys'⟩⟩
def Both (r r' : Int × Ps) : Prop := r'.1 = r.1 ∧ ∃ f, Ali f r.2 r'.2
theorem guard_both {k k' : Ps → Int × Ps} (h : Ali f s t) (hk : ∀ s t, Ali f s t → Both (k s) (k' t)) : Both (guardP s k) (guardP t k') := by
  obtain ⟨h1, h2⟩ := h.begin
  unfold guardP
  rw [h1]
  split
  · exact ⟨h1, f, h2⟩
  · exact hk _ _ h2
def updF (f : Nat → Nat) (n m : Nat) : Nat → Nat := fun k => if k = n then m else f k
theorem updF_le {f : Nat → Nat} {n m k : Nat} (h : k < n) : updF f n m k = f k := by unfold updF; rw [if_neg (by omega)]
theorem map_congr_dir {f g : Nat → Nat} {d d' : Dir} (h : d'.Perm (d.map fun e => (e.1, f e.2))) (he : ∀ e ∈ d, g e.2 = f e.2) : d'.Perm (d.map fun e => (e.1, g e.2)) := by
  rw [List.map_congr_left (g := fun e => (e.1, f e.2)) (fun e hm => by rw [he e hm])]
  exact h
theorem ali_create (h : Ali f s t) (nm : Nm) : Both (createP s nm) (createP t nm) := by
  unfold createP
  refine guard_both h fun s t h => ?_
  by_cases hn : nameOK nm = false
  · rw [if_pos hn, if_pos hn]; exact ⟨rfl, f, h⟩
  · rw [if_neg hn, if_neg hn, h.find, h.len]
    cases hf : findA (nowP s) nm with
    | some n => simp only [Option.map_some, Option.isSome_some, if_true]; exact ⟨rfl, f, h⟩
    | none =>
      simp only [Option.map_none, Option.isSome_none, Bool.false_eq_true, if_false]
      split
      · exact ⟨rfl, f, h⟩
      · refine ⟨rfl, updF f (s.made + 1) (t.made + 1), ?_⟩
        have hnew : updF f (s.made + 1) (t.made + 1) (s.made + 1) = t.made + 1 := by unfold updF; rw [if_pos rfl]
        have hold : ∀ n, n ≤ s.made → updF f (s.made + 1) (t.made + 1) n = f n := fun n hn => updF_le (by omega)
        refine ⟨h.room, h.first, h.code, ?_, ?_, ?_, ?_, ?_, ?_, ?_, ?_, ?_, ?_⟩
        · refine forall2_app (forall2_mono h.dirs fun d hd d' hp => map_congr_dir hp fun e he => hold _ (h.le d hd e he)) ⟨?_, trivial⟩
          exact put_perm' _ (map_congr_dir h.now fun e he => hold _ (h.le _ (now_in s he) e he)) nm _ _ hnew.symm
        · intro d hd
          rcases List.mem_append.1 hd with hd | hd
          · exact h.nod d hd
          · simp at hd; subst hd; exact put_nodup h.nowNod _ _
        · intro d hd e he
          show e.2 ≤ s.made + 1
          rcases List.mem_append.1 hd with hd | hd
          · have := h.le d hd e he; omega
          · simp at hd; subst hd
            unfold putA at he
            rcases List.mem_append.1 he with he | he
            · have he := (List.mem_filter.1 he).1
              have := h.le _ (now_in s he) e he; omega
            · simp at he; subst he; exact Nat.le_refl _
        · intro n hn'
          show _ ≤ t.made + 1
          by_cases hk : n = s.made + 1
          · subst hk; rw [hnew]; exact Nat.le_refl _
          · have hn' : n ≤ s.made + 1 := hn'
            rw [hold n (by omega)]
            have := h.fle n (by omega); omega
        · intro n m hn' hm' e
          have hn' : n ≤ s.made + 1 := hn'
          have hm' : m ≤ s.made + 1 := hm'
          by_cases hk : n = s.made + 1
          · by_cases hk' : m = s.made + 1
            · omega
            · exfalso
              rw [hk, hnew, hold m (by omega)] at e
              have := h.fle m (by omega); omega
          · by_cases hk' : m = s.made + 1
            · exfalso
              rw [hk', hnew, hold n (by omega)] at e
              have := h.fle n (by omega); omega
            · rw [hold n (by omega), hold m (by omega)] at e
              exact h.inj n m (by omega) (by omega) e
        · intro d hd e he
          show findA (t.files ++ [(t.made + 1, ([], []))]) _ = findA (s.files ++ [(s.made + 1, ([], []))]) _
          have hsn : findA s.files (s.made + 1) = none := findA_none fun p hp hq => by have := h.fkeys p hp; omega
          have htn : findA t.files (t.made + 1) = none := findA_none fun p hp hq => by have := h.fkeys' p hp; omega
          have old : ∀ d ∈ s.dirs, ∀ e ∈ d, findA (t.files ++ [(t.made + 1, (([] : List Sec), ([] : List Sec)))]) (updF f (s.made + 1) (t.made + 1) e.2) = findA (s.files ++ [(s.made + 1, (([] : List Sec), ([] : List Sec)))]) e.2 := by
            intro d hd e he
            have hl := h.le d hd e he
            rw [hold _ hl, findA_app, findA_app, h.files d hd e he]
            cases findA s.files e.2 with
            | some x => simp
            | none =>
              have := h.fle e.2 hl
              have h1 : findA [(t.made + 1, (([] : List Sec), ([] : List Sec)))] (f e.2) = none := findA_none fun p hp hq => by simp at hp; subst hp; simp at hq; omega
              have h2 : findA [(s.made + 1, (([] : List Sec), ([] : List Sec)))] e.2 = none := findA_none fun p hp hq => by simp at hp; subst hp; simp at hq; omega
              simp [h1, h2]
          rcases List.mem_append.1 hd with hd | hd
          · exact old d hd e he
          · simp at hd; subst hd
            unfold putA at he
            rcases List.mem_append.1 he with he | he
            · have he := (List.mem_filter.1 he).1
              exact old _ (now_in s he) e he
            · simp at he; subst he
              show findA _ (updF f (s.made + 1) (t.made + 1) (s.made + 1)) = findA _ (s.made + 1)
              rw [hnew, findA_app, findA_app, hsn, htn]
              simp [findA]
        · show t.pend = _
          rw [h.pend]
          apply List.map_congr_left
          intro w hw
          rw [hold _ (h.pendle w hw)]
        · intro w hw
          have := h.pendle w hw
          show w.id ≤ s.made + 1
          omega
        · intro e he
          show e.1 ≤ s.made + 1
          rcases List.mem_append.1 he with he | he
          · have := h.fkeys e he; omega
          · simp at he; subst he; exact Nat.le_refl _
        · intro e he
          show e.1 ≤ t.made + 1
          rcases List.mem_append.1 he with he | he
          · have := h.fkeys' e he; omega
          · simp at he; subst he; exact Nat.le_refl _
/-- One more directory, of entries that were there. -/
theorem ali_dir (h : Ali f s t) (d d' : Dir) (hp : d'.Perm (d.map fun e => (e.1, f e.2))) (hn : (d.map (·.1)).Nodup) (hs : ∀ e ∈ d, ∃ e' ∈ nowP s, e'.2 = e.2) : Ali f { s with dirs := s.dirs ++ [d] } { t with dirs := t.dirs ++ [d'] } := by
  refine ⟨h.room, h.first, h.code, forall2_app h.dirs ⟨hp, trivial⟩, ?_, ?_, h.fle, h.inj, ?_, h.pend, h.pendle, h.fkeys, h.fkeys'⟩
  · intro x hx
    rcases List.mem_append.1 hx with hx | hx
    · exact h.nod x hx
    · simp at hx; subst hx; exact hn
  · intro x hx e he
    rcases List.mem_append.1 hx with hx | hx
    · exact h.le x hx e he
    · simp at hx; subst hx
      obtain ⟨e', he', hq⟩ := hs e he
      rw [← hq]
      exact h.le _ (now_in s he') e' he'
  · intro x hx e he
    rcases List.mem_append.1 hx with hx | hx
    · exact h.files x hx e he
    · simp at hx; subst hx
      obtain ⟨e', he', hq⟩ := hs e he
      rw [← hq]
      exact h.files _ (now_in s he') e' he'
theorem ali_remove (h : Ali f s t) (nm : Nm) : Both (removeP s nm) (removeP t nm) := by
  unfold removeP
  refine guard_both h fun s t h => ?_
  rw [h.find]
  cases hf : findA (nowP s) nm with
  | none => simp only [Option.map_none, Option.isNone_none, if_true]; exact ⟨rfl, f, h⟩
  | some n =>
    simp only [Option.map_some, Option.isNone_some, Bool.false_eq_true, if_false]
    exact ⟨rfl, f, ali_dir h _ _ (del_perm f h.now nm) (del_nodup h.nowNod nm) fun e he => ⟨e, (List.mem_filter.1 he).1, rfl⟩⟩
theorem ali_rename (h : Ali f s t) (a b : Nm) : Both (renameP s a b) (renameP t a b) := by
  unfold renameP
  refine guard_both h fun s t h => ?_
  rw [h.find]
  cases hf : findA (nowP s) a with
  | none => exact ⟨rfl, f, h⟩
  | some n =>
    simp only [Option.map_some]
    split
    · exact ⟨rfl, f, h⟩
    · refine ⟨rfl, f, ali_dir h _ _ (put_perm f (del_perm f h.now a) b n) (put_nodup (del_nodup h.nowNod a) b n) ?_⟩
      intro e he
      unfold putA at he
      rcases List.mem_append.1 he with he | he
      · exact ⟨e, (List.mem_filter.1 (List.mem_filter.1 he).1).1, rfl⟩
      · simp at he; subst he
        exact ⟨_, findA_mem hf, rfl⟩
theorem findA_setFile (l : List (Nat × (List Sec × List Sec))) (n : Nat) (v : List Sec × List Sec) (m : Nat) : findA (setFile l n v) m = if m = n then (findA l m).map fun _ => v else findA l m := by
  unfold setFile
  induction l with
  | nil => simp [findA]
  | cons p r ih =>
    rw [List.map_cons]
    by_cases hp : p.1 = n
    · rw [if_pos hp]
      unfold findA
      by_cases hm : n = m
      · subst hm; rw [if_pos rfl, if_pos rfl, if_pos hp]; rfl
      · rw [if_neg hm, ih, if_neg (fun e => hm e.symm), if_neg (fun e => hm e.symm), if_neg (fun e => hm (hp.symm.trans e))]
    · rw [if_neg hp]
      unfold findA
      by_cases hm : p.1 = m
      · rw [if_pos hm, if_pos hm, if_neg (fun e => hp (hm.trans e))]
      · rw [if_neg hm, if_neg hm, ih]
theorem setFile_keys {l : List (Nat × (List Sec × List Sec))} {n : Nat} {v : List Sec × List Sec} {k : Nat} (h : ∀ e ∈ l, e.1 ≤ k) : ∀ e ∈ setFile l n v, e.1 ≤ k := by
  intro e he
  unfold setFile at he
  obtain ⟨x, hx, rfl⟩ := List.mem_map.1 he
  split
  · rename_i hq; show n ≤ k; rw [← hq]; exact h x hx
  · exact h x hx
/-- A named file is set, the writes that stand may be others. -/
theorem ali_set (h : Ali f s t) {nm : Nm} {n : Nat} (hf : findA (nowP s) nm = some n) (v : List Sec × List Sec) (p p' : List Wr) (hp : p' = p.map fun w => ⟨f w.id, w.n, w.p⟩) (hpl : ∀ w ∈ p, w.id ≤ s.made) :
    Ali f { s with files := setFile s.files n v, pend := p } { t with files := setFile t.files (f n) v, pend := p' } := by
  refine ⟨h.room, h.first, h.code, h.dirs, h.nod, h.le, h.fle, h.inj, ?_, hp, hpl, setFile_keys h.fkeys, setFile_keys h.fkeys'⟩
  intro d hd e he
  show findA (setFile t.files (f n) v) (f e.2) = findA (setFile s.files n v) e.2
  rw [findA_setFile, findA_setFile, h.files d hd e he]
  have hl := h.le d hd e he
  by_cases hq : e.2 = n
  · rw [if_pos hq, if_pos (by rw [hq])]
  · rw [if_neg hq, if_neg (fun x => hq (h.inj _ _ hl (h.nums hf).1 x))]
theorem ali_grow (h : Ali f s t) (nm : Nm) (n : Int) : Both (growP s nm n) (growP t nm n) := by
  unfold growP
  refine guard_both h fun s t h => ?_
  rw [h.find]
  cases hf : findA (nowP s) nm with
  | none => exact ⟨rfl, f, h⟩
  | some k =>
    simp only [Option.map_some]
    rw [h.file hf, h.taken, show (t.room : Int) = (s.room : Int) from by rw [h.room]]
    split
    · exact ⟨rfl, f, h⟩
    · split
      · exact ⟨rfl, f, h⟩
      · exact ⟨rfl, f, ali_set h hf _ _ _ h.pend h.pendle⟩
theorem ali_write (h : Ali f s t) (nm : Nm) (n : Int) (p : Sec) : Both (writeP s nm n p) (writeP t nm n p) := by
  unfold writeP
  refine guard_both h fun s t h => ?_
  rw [h.find]
  cases hf : findA (nowP s) nm with
  | none => exact ⟨rfl, f, h⟩
  | some k =>
    simp only [Option.map_some]
    rw [h.file hf]
    split
    · exact ⟨rfl, f, h⟩
    · split
      · exact ⟨rfl, f, h⟩
      · refine ⟨rfl, f, ali_set h hf _ _ _ (by rw [h.pend]; simp) ?_⟩
        intro w hw
        rcases List.mem_append.1 hw with hw | hw
        · exact h.pendle w hw
        · simp at hw; subst hw; exact (h.nums hf).1
theorem ali_sync (h : Ali f s t) (nm : Nm) : Both (syncP s nm) (syncP t nm) := by
  unfold syncP
  refine guard_both h fun s t h => ?_
  rw [h.find]
  cases hf : findA (nowP s) nm with
  | none => exact ⟨rfl, f, h⟩
  | some k =>
    simp only [Option.map_some]
    rw [h.file hf]
    refine ⟨rfl, f, ali_set h hf _ _ _ ?_ fun w hw => h.pendle w (List.mem_filter.1 hw).1⟩
    rw [h.pend, List.filter_map]
    congr 1
    apply List.filter_congr
    intro w hw
    show (!(f w.id == f k)) = (!(w.id == k))
    have := h.inj w.id k (h.pendle w hw) (h.nums hf).1
    by_cases hq : w.id = k
    · simp [hq]
    · have : f w.id ≠ f k := fun e => hq (this e)
      rw [beq_false_of_ne hq, beq_false_of_ne this]
theorem dir_any {f : Nat → Nat} {d d' : Dir} (h : d'.Perm (d.map fun e => (e.1, f e.2))) {e : Nm × Nat} (he : e ∈ d) : (d.any fun x => x.2 == e.2) = true ∧ (d'.any fun x => x.2 == f e.2) = true := by
  refine ⟨List.any_eq_true.2 ⟨e, he, by simp⟩, List.any_eq_true.2 ⟨(e.1, f e.2), h.mem_iff.2 (List.mem_map.2 ⟨e, he, rfl⟩), by simp⟩⟩
theorem ali_settle (h : Ali f s t) (d d' : Dir) (hd : d ∈ s.dirs ∨ d = []) (hp : d'.Perm (d.map fun e => (e.1, f e.2))) : Ali f (settleP s d) (settleP t d') := by
  have hin : ∀ e ∈ d, d ∈ s.dirs := fun e he => hd.elim id fun h0 => by rw [h0] at he; simp at he
  refine ⟨h.room, h.first, h.code, ⟨hp, trivial⟩, ?_, ?_, h.fle, h.inj, ?_, h.pend, h.pendle, ?_, ?_⟩
  · intro x hx
    have hx : x ∈ [d] := hx
    simp at hx; subst hx
    rcases hd with hd | hd
    · exact h.nod _ hd
    · rw [hd]; simp
  · intro x hx e he
    have hx : x ∈ [d] := hx
    simp at hx; subst hx
    exact h.le _ (hin e he) e he
  · intro x hx e he
    have hx : x ∈ [d] := hx
    simp at hx; subst hx
    show findA (t.files.filter fun y => d'.any fun z => z.2 == y.1) (f e.2) = findA (s.files.filter fun y => x.any fun z => z.2 == y.1) e.2
    rw [findA_filter (fun n => d'.any fun z => z.2 == n), findA_filter (fun n => x.any fun z => z.2 == n), if_pos (dir_any hp he).2, if_pos (dir_any hp he).1]
    exact h.files _ (hin e he) e he
  · intro e he
    exact h.fkeys e (List.mem_filter.1 he).1
  · intro e he
    exact h.fkeys' e (List.mem_filter.1 he).1
theorem ali_syncDir (h : Ali f s t) : Both (syncDirP s) (syncDirP t) := by
  unfold syncDirP
  refine guard_both h fun s t h => ?_
  refine ⟨rfl, f, ali_settle h _ _ ?_ h.now⟩
  rcases last_mem' (a := ([] : Dir)) (l := s.dirs) with h' | h'
  · right; unfold nowP; rw [h']; rfl
  · exact .inl h'
theorem ali_arm (h : Ali f s t) (n c : Int) : Ali f (armP s n c) (armP t n c) := by
  unfold armP
  split
  · exact ⟨h.room, rfl, rfl, h.dirs, h.nod, h.le, h.fle, h.inj, h.files, h.pend, h.pendle, h.fkeys, h.fkeys'⟩
  · exact ⟨h.room, rfl, rfl, h.dirs, h.nod, h.le, h.fle, h.inj, h.files, h.pend, h.pendle, h.fkeys, h.fkeys'⟩
theorem findA_keep (l : List (Nat × (List Sec × List Sec))) (w : Wr) (m : Nat) : findA (keepP l w) m = if m = w.id then (findA l m).map fun v => (v.1, v.2.set w.n w.p) else findA l m := by
  unfold keepP
  induction l with
  | nil => simp [findA]
  | cons p r ih =>
    rw [List.map_cons]
    unfold findA
    by_cases hp : p.1 = w.id
    · rw [if_pos hp]
      by_cases hm : p.1 = m
      · rw [if_pos hm, if_pos hm, if_pos (hm.symm.trans hp)]; rfl
      · rw [if_neg hm, if_neg hm, ih]
    · rw [if_neg hp]
      by_cases hm : p.1 = m
      · rw [if_pos hm, if_pos hm, if_neg (fun e => hp (hm.trans e))]
      · rw [if_neg hm, if_neg hm, ih]
theorem keep_keys {l : List (Nat × (List Sec × List Sec))} {w : Wr} {k : Nat} (h : ∀ e ∈ l, e.1 ≤ k) : ∀ e ∈ keepP l w, e.1 ≤ k := by
  intro e he
  unfold keepP at he
  obtain ⟨x, hx, rfl⟩ := List.mem_map.1 he
  split <;> exact h x hx
theorem foldl_keep_keys : ∀ (ws : List Wr) {l : List (Nat × (List Sec × List Sec))} {k : Nat}, (∀ e ∈ l, e.1 ≤ k) → ∀ e ∈ ws.foldl keepP l, e.1 ≤ k
  | [], _, _, h => h
  | w :: ws, _, _, h => foldl_keep_keys ws (keep_keys h)
theorem keptF_mem (keep : List Int) : ∀ (l : List Wr) (n : Nat), ∀ w ∈ keptF keep l n, w ∈ l
  | [], _, _, h => by simp [keptF] at h
  | c :: r, n, w, h => by
    unfold keptF at h
    split at h
    · rcases List.mem_cons.1 h with rfl | h
      · simp
      · exact List.mem_cons_of_mem _ (keptF_mem keep r _ w h)
    · exact List.mem_cons_of_mem _ (keptF_mem keep r _ w h)
theorem keptF_map (keep : List Int) (g : Wr → Wr) : ∀ (l : List Wr) (n : Nat), keptF keep (l.map g) n = (keptF keep l n).map g
  | [], _ => rfl
  | c :: r, n => by
    rw [List.map_cons]
    unfold keptF
    rw [keptF_map keep g r (n + 1)]
    split <;> rfl
theorem ali_keeps (hinj : ∀ n m, n ≤ s.made → m ≤ s.made → f n = f m → n = m) (n : Nat) (hn : n ≤ s.made) : ∀ (ws : List Wr) (l l' : List (Nat × (List Sec × List Sec))), (∀ w ∈ ws, w.id ≤ s.made) → findA l' (f n) = findA l n →
    findA ((ws.map fun w => (⟨f w.id, w.n, w.p⟩ : Wr)).foldl keepP l') (f n) = findA (ws.foldl keepP l) n
  | [], _, _, _, h => h
  | w :: ws, l, l', hw, h => by
    rw [List.map_cons, List.foldl_cons, List.foldl_cons]
    refine ali_keeps hinj n hn ws _ _ (fun x hx => hw x (by simp [hx])) ?_
    rw [findA_keep, findA_keep, h]
    have := hinj n w.id hn (hw w (by simp))
    by_cases hq : n = w.id
    · rw [if_pos hq, if_pos (by rw [hq])]
    · rw [if_neg hq, if_neg (fun e => hq (this e))]
theorem ali_crash (h : Ali f s t) (n : Int) (keep : List Int) : Ali f (crashP s n keep) (crashP t n keep) := by
  have hw : whichP t n = whichP s n := by unfold whichP; rw [forall2_len h.dirs]
  have hp : (t.dirs.getD (whichP t n) []).Perm ((s.dirs.getD (whichP s n) []).map fun e => (e.1, f e.2)) := by rw [hw]; exact forall2_getD h.dirs (by simp) _
  have hd : s.dirs.getD (whichP s n) [] ∈ s.dirs ∨ s.dirs.getD (whichP s n) [] = [] := by
    by_cases hl : whichP s n < s.dirs.length
    · left; rw [List.getD_eq_getElem?_getD, List.getElem?_eq_getElem hl]; exact List.getElem_mem hl
    · right; rw [List.getD_eq_getElem?_getD, List.getElem?_eq_none (by omega)]; rfl
  have h1 := ali_settle h _ _ hd hp
  unfold crashP
  generalize s.dirs.getD (whichP s n) [] = D at h1 hp hd ⊢
  generalize t.dirs.getD (whichP t n) [] = D' at h1 hp ⊢
  refine ⟨h1.room, rfl, rfl, h1.dirs, h1.nod, h1.le, h1.fle, h1.inj, ?_, rfl, by simp, ?_, ?_⟩
  · intro d hd' e he
    show findA (List.map (fun e : Nat × (List Sec × List Sec) => (e.1, (e.2.2, e.2.2))) _) (f e.2) = findA (List.map (fun e : Nat × (List Sec × List Sec) => (e.1, (e.2.2, e.2.2))) _) e.2
    rw [findA_map (fun v : List Sec × List Sec => (v.2, v.2)), findA_map (fun v : List Sec × List Sec => (v.2, v.2))]
    have hk : keptF keep t.pend 0 = (keptF keep s.pend 0).map fun w => (⟨f w.id, w.n, w.p⟩ : Wr) := by rw [h.pend, keptF_map]
    rw [hk]
    congr 1
    exact ali_keeps h.inj e.2 (h1.le d hd' e he) _ _ _ (fun w hw' => h.pendle w (keptF_mem keep _ _ w hw')) (h1.files d hd' e he)
  · intro e he
    obtain ⟨x, hx, rfl⟩ := List.mem_map.1 he
    exact foldl_keep_keys _ h1.fkeys x hx
  · intro e he
    obtain ⟨x, hx, rfl⟩ := List.mem_map.1 he
    exact foldl_keep_keys _ h1.fkeys' x hx
theorem ali_do (h : Ali f s t) (x : Dp) : (doP t x).1 = (doP s x).1 ∧ ∃ f', Ali f' (doP s x).2 (doP t x).2 := by
  have pr : ∀ {r r' : Int × Ps}, Both r r' → (((r'.1, ([] : Sec)) : Int × Sec) = (r.1, [])) ∧ ∃ f', Ali f' r.2 r'.2 := fun hb => ⟨by rw [hb.1], hb.2⟩
  unfold doP
  by_cases h0 : x.kind = 0
  · simp only [if_pos h0]
    exact pr (ali_create h _)
  simp only [if_neg h0]
  by_cases h1 : x.kind = 1
  · simp only [if_pos h1]
    exact pr (ali_remove h _)
  simp only [if_neg h1]
  by_cases h2 : x.kind = 2
  · simp only [if_pos h2]
    exact pr (ali_rename h _ _)
  simp only [if_neg h2]
  by_cases h3 : x.kind = 3
  · simp only [if_pos h3]
    exact pr (ali_grow h _ _)
  simp only [if_neg h3]
  by_cases h4 : x.kind = 4
  · simp only [if_pos h4]
    exact pr (ali_write h _ _ _)
  simp only [if_neg h4]
  by_cases h5 : x.kind = 5
  · simp only [if_pos h5]
    show ((readP t x.a x.n).1.2, (readP t x.a x.n).1.1) = ((readP s x.a x.n).1.2, (readP s x.a x.n).1.1) ∧ ∃ f', Ali f' (readP s x.a x.n).2 (readP t x.a x.n).2
    obtain ⟨h1, h2⟩ := h.begin
    unfold readP
    rw [h1]
    split
    · exact ⟨rfl, f, h2⟩
    · rw [h2.find]
      cases hf : findA (nowP (beginP s).2) x.a with
      | none => exact ⟨rfl, f, h2⟩
      | some k =>
        simp only [Option.map_some]
        rw [h2.file hf]
        split
        · exact ⟨rfl, f, h2⟩
        · exact ⟨rfl, f, h2⟩
  simp only [if_neg h5]
  by_cases h6 : x.kind = 6
  · simp only [if_pos h6]
    exact pr (ali_sync h _)
  simp only [if_neg h6]
  by_cases h7 : x.kind = 7
  · simp only [if_pos h7]
    exact pr (ali_syncDir h)
  simp only [if_neg h7]
  by_cases h8 : x.kind = 8
  · simp only [if_pos h8]
    exact ⟨trivial, f, ali_arm h _ _⟩
  simp only [if_neg h8]
  by_cases h9 : x.kind = 9
  · simp only [if_pos h9]
    exact ⟨trivial, f, ali_crash h _ _⟩
  simp only [if_neg h9]
  exact ⟨trivial, f, h⟩
end
end Go.Proofs.YtoppcpiheaedlaaGreatDoor
