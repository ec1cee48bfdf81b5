/-
  Bodies of cells as pure functions: the raw bytes, the cells, what stands for what.
-/
import Derived.Test.YtpodbhimkbadhaaGen
namespace Go.Proofs.Ytpodbhimkbadhaa
set_option linter.unusedVariables false
set_option linter.unusedSimpArgs false

abbrev Raw := Nat → UInt8
def upd (f : Raw) (i : Nat) (v : UInt8) : Raw := fun j => if j = i then v else f j
def ovr (f : Raw) (a : Nat) (c : List UInt8) : Raw := fun j => if a ≤ j ∧ j < a + c.length then c.getD (j - a) 0 else f j
def up2 (f : Raw) (a e : Nat) : Raw := fun j => if a + 2 ≤ j ∧ j < e + 2 then f (j - 2) else f j
def dn2 (f : Raw) (a e : Nat) : Raw := fun j => if a ≤ j ∧ j + 2 < e then f (j + 2) else f j
def layR (f : Raw) (i : Nat) (c : List UInt8) : Raw :=
  ovr (upd (upd (upd f 1 (UInt8.ofNat ((f 1).toNat - c.length))) (2 + 2 * i) (UInt8.ofNat ((f 1).toNat - c.length))) (3 + 2 * i) (UInt8.ofNat c.length)) ((f 1).toNat - c.length) c

structure Cl where
  pl : Nat
  p : List UInt8
structure Bo where
  top : Nat
  l : List Cl
def cl (l : List Cl) (k : Nat) : Cl := l.getD k ⟨0, []⟩
def sumL : List Cl → Nat
  | [] => 0
  | c :: l => c.p.length + sumL l
structure Enc (f : Raw) (A : Bo) : Prop where
  n : (f 0).toNat = A.l.length
  top : (f 1).toNat = A.top
  pl : ∀ k, k < A.l.length → (f (2 + 2 * k)).toNat = (cl A.l k).pl
  sz : ∀ k, k < A.l.length → (f (3 + 2 * k)).toNat = (cl A.l k).p.length
  by_ : ∀ k m, k < A.l.length → m < (cl A.l k).p.length → f ((cl A.l k).pl + m) = (cl A.l k).p.getD m 0
structure Wf (A : Bo) : Prop where
  dir : 2 + 2 * A.l.length ≤ A.top
  sum : sumL A.l + A.top ≤ 243
  end_ : ∀ k, k < A.l.length → (cl A.l k).pl + (cl A.l k).p.length ≤ 243
  len : ∀ k, k < A.l.length → (cl A.l k).p.length ≤ 78
  low : ∀ k, k < A.l.length → 0 < (cl A.l k).p.length → A.top ≤ (cl A.l k).pl
  apart : ∀ j k, j < A.l.length → k < A.l.length → j ≠ k → 0 < (cl A.l j).p.length → 0 < (cl A.l k).p.length → (cl A.l j).pl + (cl A.l j).p.length ≤ (cl A.l k).pl ∨ (cl A.l k).pl + (cl A.l k).p.length ≤ (cl A.l j).pl
def insL (l : List Cl) (i : Nat) (x : Cl) : List Cl := l.take i ++ [x] ++ l.drop i
def delL (l : List Cl) (i : Nat) : List Cl := l.take i ++ l.drop (i + 1)
def packL (i : Nat) (l : List Cl) : List Cl := (List.range l.length).map fun k => if k < i then ⟨243 - sumL (l.take (k + 1)), (cl l k).p⟩ else cl l k
def newA : Bo := ⟨243, []⟩
def packA (A : Bo) : Bo := ⟨243 - sumL A.l, packL A.l.length A.l⟩
def preA (A : Bo) (c : List UInt8) : Bo := if A.top < 2 + 2 * (A.l.length + 1) + c.length then packA A else A
def addA (A : Bo) (i : Nat) (c : List UInt8) : Bo := ⟨A.top - c.length, insL A.l i ⟨A.top - c.length, c⟩⟩
def insA (A : Bo) (i : Nat) (c : List UInt8) : Bo := addA (preA A c) i c
def delA (A : Bo) (i : Nat) : Bo := ⟨if (cl A.l i).pl = A.top then A.top + (cl A.l i).p.length else A.top, delL A.l i⟩
def freeA (A : Bo) : Nat := 241 - 2 * A.l.length - sumL A.l
def holesA (A : Bo) : Nat := 243 - A.top - sumL A.l

theorem ofNat_toNat (n : Nat) (h : n < 256) : (UInt8.ofNat n).toNat = n := by rw [UInt8.toNat_ofNat']; omega
theorem toNat_lt' (b : UInt8) : b.toNat < 256 := b.toNat_lt
theorem u8_eq {a : UInt8} {n : Nat} (h : a.toNat = n) : a = UInt8.ofNat n := by subst h; simp

theorem cl_get (l : List Cl) (k : Nat) (h : k < l.length) : cl l k = l[k] := by simp [cl, List.getD, h]
theorem cl_out (l : List Cl) (k : Nat) (h : l.length ≤ k) : cl l k = ⟨0, []⟩ := by simp [cl, List.getD, List.getElem?_eq_none h]
theorem insL_length (l : List Cl) (i : Nat) (x : Cl) (h : i ≤ l.length) : (insL l i x).length = l.length + 1 := by simp [insL]; omega
theorem delL_length (l : List Cl) (i : Nat) (h : i < l.length) : (delL l i).length = l.length - 1 := by simp [delL]; omega
theorem packL_length (i : Nat) (l : List Cl) : (packL i l).length = l.length := by simp [packL]
theorem cl_ins (l : List Cl) (i : Nat) (x : Cl) (h : i ≤ l.length) (k : Nat) : cl (insL l i x) k = if k < i then cl l k else if k = i then x else cl l (k - 1) := by
  unfold cl insL
  simp only [List.getD]
  by_cases h1 : k < i
  · rw [if_pos h1, List.append_assoc, List.getElem?_append_left (by simp; omega), List.getElem?_take_of_lt h1]
  · rw [if_neg h1, List.append_assoc, List.getElem?_append_right (by simp; omega)]
    have : (List.take i l).length = i := by simp; omega
    rw [this]
    by_cases h2 : k = i
    · rw [if_pos h2, h2, Nat.sub_self]; rfl
    · rw [if_neg h2, List.getElem?_append_right (by simp; omega), List.getElem?_drop]
      congr 2
      simp
      omega
theorem cl_del (l : List Cl) (i : Nat) (h : i < l.length) (k : Nat) : cl (delL l i) k = if k < i then cl l k else cl l (k + 1) := by
  unfold cl delL
  simp only [List.getD]
  have : (List.take i l).length = i := by simp; omega
  by_cases h1 : k < i
  · rw [if_pos h1, List.getElem?_append_left (by omega), List.getElem?_take_of_lt h1]
  · rw [if_neg h1, List.getElem?_append_right (by omega), List.getElem?_drop]
    congr 2
    omega
theorem cl_pack (i : Nat) (l : List Cl) (k : Nat) (h : k < l.length) : cl (packL i l) k = if k < i then ⟨243 - sumL (l.take (k + 1)), (cl l k).p⟩ else cl l k := by
  rw [cl_get _ _ (by rw [packL_length]; exact h)]
  simp [packL]
theorem sum_app (a b : List Cl) : sumL (a ++ b) = sumL a + sumL b := by
  induction a with
  | nil => simp [sumL]
  | cons c a ih => simp [sumL, ih]; omega
theorem sum_split (l : List Cl) (i : Nat) : sumL (l.take i) + sumL (l.drop i) = sumL l := by rw [← sum_app, List.take_append_drop]
theorem sum_take_le (l : List Cl) (i : Nat) : sumL (l.take i) ≤ sumL l := by have := sum_split l i; omega
theorem sum_succ (l : List Cl) (i : Nat) (h : i < l.length) : sumL (l.take (i + 1)) = sumL (l.take i) + (cl l i).p.length := by
  rw [List.take_succ_eq_append_getElem h, sum_app, cl_get l i h]; simp [sumL]
theorem sum_ins (l : List Cl) (i : Nat) (x : Cl) : sumL (insL l i x) = sumL l + x.p.length := by
  have := sum_split l i
  unfold insL
  rw [sum_app, sum_app]; simp [sumL]; omega
theorem sum_del (l : List Cl) (i : Nat) (h : i < l.length) : sumL (delL l i) + (cl l i).p.length = sumL l := by
  have h1 := sum_split l i
  have h2 : l.drop i = l[i] :: l.drop (i + 1) := List.drop_eq_getElem_cons h
  rw [h2] at h1
  unfold delL
  rw [sum_app, cl_get l i h]
  simp [sumL] at h1
  omega
theorem sum_take_mono (l : List Cl) (i j : Nat) (h : i ≤ j) : sumL (l.take i) ≤ sumL (l.take j) := by
  have := sum_take_le (l.take j) i
  rw [List.take_take, Nat.min_eq_left h] at this
  exact this
theorem sum_congr : ∀ (a b : List Cl), a.length = b.length → (∀ k, k < a.length → (cl a k).p.length = (cl b k).p.length) → sumL a = sumL b
  | [], [], _, _ => rfl
  | [], _ :: _, h, _ => by simp at h
  | _ :: _, [], h, _ => by simp at h
  | x :: a, y :: b, h, hk => by
    have h0 := hk 0 (by simp)
    have := sum_congr a b (by simpa using h) (fun k hk' => by have := hk (k + 1) (by simpa using hk'); simpa [cl, List.getD] using this)
    simp [cl, List.getD] at h0
    simp [sumL]; omega
theorem sum_pack (i : Nat) (l : List Cl) : sumL (packL i l) = sumL l :=
  sum_congr _ _ (packL_length i l) (fun k hk => by rw [packL_length] at hk; rw [cl_pack i l k hk]; split <;> rfl)
theorem packL_zero (l : List Cl) : packL 0 l = l := by
  refine List.ext_getElem (packL_length 0 l) (fun k h1 h2 => ?_)
  rw [← cl_get _ k h1, ← cl_get _ k h2, cl_pack 0 l k h2]; simp
theorem packL_succ (l : List Cl) (i : Nat) (h : i < l.length) : packL (i + 1) l = (packL i l).set i ⟨243 - sumL (l.take (i + 1)), (cl l i).p⟩ := by
  refine List.ext_getElem (by simp [packL_length]) (fun k h1 h2 => ?_)
  have hk : k < l.length := by rw [packL_length] at h1; exact h1
  rw [← cl_get _ k h1, cl_pack _ l k hk, List.getElem_set]
  by_cases e : i = k
  · subst e; simp
  · rw [if_neg e, ← cl_get _ k (by rw [packL_length]; exact hk), cl_pack i l k hk]
    by_cases h3 : k < i
    · rw [if_pos h3, if_pos (by omega)]
    · rw [if_neg h3, if_neg (by omega)]

/-! What is within stays so. -/
theorem wf_new : Wf newA := ⟨by simp [newA], by simp [newA, sumL], by simp [newA], by simp [newA], by simp [newA], by simp [newA]⟩
theorem Wf.ntop {A : Bo} (h : Wf A) : A.l.length ≤ 120 ∧ A.top ≤ 243 ∧ sumL A.l ≤ 241 := by have := h.dir; have := h.sum; omega
theorem wf_pack {A : Bo} (h : Wf A) : Wf (packA A) := by
  have hd := h.dir
  have hs := h.sum
  have hl : (packL A.l.length A.l).length = A.l.length := packL_length _ _
  have hc : ∀ k, k < A.l.length → cl (packL A.l.length A.l) k = ⟨243 - sumL (A.l.take (k + 1)), (cl A.l k).p⟩ := fun k hk => by rw [cl_pack _ _ k hk, if_pos hk]
  refine ⟨?_, ?_, ?_, ?_, ?_, ?_⟩
  · show 2 + 2 * (packL A.l.length A.l).length ≤ 243 - sumL A.l
    rw [hl]; omega
  · show sumL (packL A.l.length A.l) + (243 - sumL A.l) ≤ 243
    rw [sum_pack]; omega
  · intro k hk
    have hk : k < A.l.length := by rw [← hl]; exact hk
    show (cl (packL A.l.length A.l) k).pl + (cl (packL A.l.length A.l) k).p.length ≤ 243
    rw [hc k hk]
    have := sum_succ A.l k hk
    have := sum_take_le A.l (k + 1)
    show 243 - sumL (A.l.take (k + 1)) + (cl A.l k).p.length ≤ 243
    omega
  · intro k hk
    have hk : k < A.l.length := by rw [← hl]; exact hk
    show (cl (packL A.l.length A.l) k).p.length ≤ 78
    rw [hc k hk]
    exact h.len k hk
  · intro k hk _
    have hk : k < A.l.length := by rw [← hl]; exact hk
    show 243 - sumL A.l ≤ (cl (packL A.l.length A.l) k).pl
    rw [hc k hk]
    have := sum_take_le A.l (k + 1)
    show 243 - sumL A.l ≤ 243 - sumL (A.l.take (k + 1))
    omega
  · intro j k hj hk hne _ _
    have hj : j < A.l.length := by rw [← hl]; exact hj
    have hk : k < A.l.length := by rw [← hl]; exact hk
    show (cl (packL A.l.length A.l) j).pl + (cl (packL A.l.length A.l) j).p.length ≤ (cl (packL A.l.length A.l) k).pl ∨ (cl (packL A.l.length A.l) k).pl + (cl (packL A.l.length A.l) k).p.length ≤ (cl (packL A.l.length A.l) j).pl
    rw [hc k hk, hc j hj]
    show 243 - sumL (A.l.take (j + 1)) + (cl A.l j).p.length ≤ 243 - sumL (A.l.take (k + 1)) ∨ 243 - sumL (A.l.take (k + 1)) + (cl A.l k).p.length ≤ 243 - sumL (A.l.take (j + 1))
    have h1 := sum_succ A.l k hk
    have h2 := sum_succ A.l j hj
    have h3 := sum_take_le A.l (k + 1)
    have h4 := sum_take_le A.l (j + 1)
    rcases Nat.lt_or_gt_of_ne hne with hlt | hgt
    · have := sum_take_mono A.l (j + 1) k (by omega)
      right; omega
    · have := sum_take_mono A.l (k + 1) j (by omega)
      left; omega
theorem wf_add {A : Bo} (h : Wf A) (i : Nat) (c : List UInt8) (hi : i ≤ A.l.length) (hc : c.length ≤ 78) (hr : 2 + 2 * (A.l.length + 1) + c.length ≤ A.top) : Wf (addA A i c) := by
  have hd := h.dir
  have hs := h.sum
  have hl : (insL A.l i ⟨A.top - c.length, c⟩).length = A.l.length + 1 := insL_length _ _ _ hi
  have hcl := cl_ins A.l i ⟨A.top - c.length, c⟩ hi
  refine ⟨?_, ?_, ?_, ?_, ?_, ?_⟩
  · show 2 + 2 * (insL A.l i ⟨A.top - c.length, c⟩).length ≤ A.top - c.length
    rw [hl]; omega
  · show sumL (insL A.l i ⟨A.top - c.length, c⟩) + (A.top - c.length) ≤ 243
    rw [sum_ins]; show sumL A.l + c.length + (A.top - c.length) ≤ 243; omega
  · intro k hk
    have hk : k < A.l.length + 1 := by rw [← hl]; exact hk
    show (cl (insL A.l i ⟨A.top - c.length, c⟩) k).pl + (cl (insL A.l i ⟨A.top - c.length, c⟩) k).p.length ≤ 243
    rw [hcl k]
    by_cases h1 : k < i
    · rw [if_pos h1]; exact h.end_ k (by omega)
    · rw [if_neg h1]
      by_cases h2 : k = i
      · rw [if_pos h2]; show A.top - c.length + c.length ≤ 243; omega
      · rw [if_neg h2]; exact h.end_ (k - 1) (by omega)
  · intro k hk
    have hk : k < A.l.length + 1 := by rw [← hl]; exact hk
    show (cl (insL A.l i ⟨A.top - c.length, c⟩) k).p.length ≤ 78
    rw [hcl k]
    by_cases h1 : k < i
    · rw [if_pos h1]; exact h.len k (by omega)
    · rw [if_neg h1]
      by_cases h2 : k = i
      · rw [if_pos h2]; exact hc
      · rw [if_neg h2]; exact h.len (k - 1) (by omega)
  · intro k hk
    have hk : k < A.l.length + 1 := by rw [← hl]; exact hk
    show 0 < (cl (insL A.l i ⟨A.top - c.length, c⟩) k).p.length → A.top - c.length ≤ (cl (insL A.l i ⟨A.top - c.length, c⟩) k).pl
    rw [hcl k]
    by_cases h1 : k < i
    · rw [if_pos h1]; intro hp; have := h.low k (by omega) hp; omega
    · rw [if_neg h1]
      by_cases h2 : k = i
      · rw [if_pos h2]; intro _; exact Nat.le_refl _
      · rw [if_neg h2]; intro hp; have := h.low (k - 1) (by omega) hp; omega
  · intro j k hj hk hne
    have hj : j < A.l.length + 1 := by rw [← hl]; exact hj
    have hk : k < A.l.length + 1 := by rw [← hl]; exact hk
    show 0 < (cl (insL A.l i ⟨A.top - c.length, c⟩) j).p.length → 0 < (cl (insL A.l i ⟨A.top - c.length, c⟩) k).p.length → (cl (insL A.l i ⟨A.top - c.length, c⟩) j).pl + (cl (insL A.l i ⟨A.top - c.length, c⟩) j).p.length ≤ (cl (insL A.l i ⟨A.top - c.length, c⟩) k).pl ∨ (cl (insL A.l i ⟨A.top - c.length, c⟩) k).pl + (cl (insL A.l i ⟨A.top - c.length, c⟩) k).p.length ≤ (cl (insL A.l i ⟨A.top - c.length, c⟩) j).pl
    rw [hcl k, hcl j]
    have key : ∀ j', j' < A.l.length → 0 < (cl A.l j').p.length → A.top - c.length + c.length ≤ (cl A.l j').pl := fun j' hj' hp => by have := h.low j' hj' hp; omega
    by_cases h1 : j < i
    · rw [if_pos h1]
      by_cases h2 : k < i
      · rw [if_pos h2]; exact h.apart j k (by omega) (by omega) hne
      · rw [if_neg h2]
        by_cases h3 : k = i
        · rw [if_pos h3]; intro hp _; exact .inr (key j (by omega) hp)
        · rw [if_neg h3]; exact h.apart j (k - 1) (by omega) (by omega) (by omega)
    · rw [if_neg h1]
      by_cases h3 : j = i
      · rw [if_pos h3]
        by_cases h2 : k < i
        · rw [if_pos h2]; intro _ hp; exact .inl (key k (by omega) hp)
        · rw [if_neg h2, if_neg (by omega)]; intro _ hp; exact .inl (key (k - 1) (by omega) hp)
      · rw [if_neg h3]
        by_cases h2 : k < i
        · rw [if_pos h2]; exact h.apart (j - 1) k (by omega) (by omega) (by omega)
        · rw [if_neg h2]
          by_cases h4 : k = i
          · rw [if_pos h4]; intro hp _; exact .inr (key (j - 1) (by omega) hp)
          · rw [if_neg h4]; exact h.apart (j - 1) (k - 1) (by omega) (by omega) (by omega)
theorem pre_room {A : Bo} (h : Wf A) (c : List UInt8) (hr : 2 + c.length ≤ freeA A) : Wf (preA A c) ∧ (preA A c).l.length = A.l.length ∧ 2 + 2 * ((preA A c).l.length + 1) + c.length ≤ (preA A c).top := by
  have hd := h.dir
  have hs := h.sum
  unfold freeA at hr
  unfold preA
  by_cases hp : A.top < 2 + 2 * (A.l.length + 1) + c.length
  · rw [if_pos hp]
    refine ⟨wf_pack h, packL_length _ _, ?_⟩
    show 2 + 2 * ((packL A.l.length A.l).length + 1) + c.length ≤ 243 - sumL A.l
    rw [packL_length]; omega
  · rw [if_neg hp]
    exact ⟨h, rfl, by omega⟩
theorem wf_ins {A : Bo} (h : Wf A) (i : Nat) (c : List UInt8) (hi : i ≤ A.l.length) (hc : c.length ≤ 78) (hr : 2 + c.length ≤ freeA A) : Wf (insA A i c) := by
  obtain ⟨h1, h2, h3⟩ := pre_room h c hr
  exact wf_add h1 i c (by rw [h2]; exact hi) hc h3
theorem wf_del {A : Bo} (h : Wf A) (i : Nat) (hi : i < A.l.length) : Wf (delA A i) := by
  have hd := h.dir
  have hs := h.sum
  have hl : (delL A.l i).length = A.l.length - 1 := delL_length _ _ hi
  have hcl := cl_del A.l i hi
  have hsd := sum_del A.l i hi
  obtain ⟨t, ht⟩ : ∃ t, (if (cl A.l i).pl = A.top then A.top + (cl A.l i).p.length else A.top) = t := ⟨_, rfl⟩
  have ht1 : A.top ≤ t ∧ t ≤ A.top + (cl A.l i).p.length := by rw [← ht]; split <;> omega
  have hlow : ∀ k, k < A.l.length → k ≠ i → 0 < (cl A.l k).p.length → t ≤ (cl A.l k).pl := fun k hk hne hp => by
    have h1 := h.low k hk hp
    rw [← ht]
    split
    · rename_i he
      by_cases hz : 0 < (cl A.l i).p.length
      · rcases h.apart i k hi hk (by omega) hz hp with h2 | h2 <;> omega
      · omega
    · exact h1
  unfold delA
  rw [ht]
  refine ⟨?_, ?_, ?_, ?_, ?_, ?_⟩
  · show 2 + 2 * (delL A.l i).length ≤ t
    rw [hl]; omega
  · show sumL (delL A.l i) + t ≤ 243
    omega
  · intro k hk
    have hk : k < A.l.length - 1 := by rw [← hl]; exact hk
    show (cl (delL A.l i) k).pl + (cl (delL A.l i) k).p.length ≤ 243
    rw [hcl k]
    split
    · exact h.end_ k (by omega)
    · exact h.end_ (k + 1) (by omega)
  · intro k hk
    have hk : k < A.l.length - 1 := by rw [← hl]; exact hk
    show (cl (delL A.l i) k).p.length ≤ 78
    rw [hcl k]
    split
    · exact h.len k (by omega)
    · exact h.len (k + 1) (by omega)
  · intro k hk
    have hk : k < A.l.length - 1 := by rw [← hl]; exact hk
    show 0 < (cl (delL A.l i) k).p.length → t ≤ (cl (delL A.l i) k).pl
    rw [hcl k]
    split
    · exact hlow k (by omega) (by omega)
    · exact hlow (k + 1) (by omega) (by omega)
  · intro j k hj hk hne
    have hj : j < A.l.length - 1 := by rw [← hl]; exact hj
    have hk : k < A.l.length - 1 := by rw [← hl]; exact hk
    show 0 < (cl (delL A.l i) j).p.length → 0 < (cl (delL A.l i) k).p.length → (cl (delL A.l i) j).pl + (cl (delL A.l i) j).p.length ≤ (cl (delL A.l i) k).pl ∨ (cl (delL A.l i) k).pl + (cl (delL A.l i) k).p.length ≤ (cl (delL A.l i) j).pl
    rw [hcl k, hcl j]
    split <;> split
    · exact h.apart _ _ (by omega) (by omega) (by omega)
    · exact h.apart _ _ (by omega) (by omega) (by omega)
    · exact h.apart _ _ (by omega) (by omega) (by omega)
    · exact h.apart _ _ (by omega) (by omega) (by omega)
end Go.Proofs.Ytpodbhimkbadhaa
