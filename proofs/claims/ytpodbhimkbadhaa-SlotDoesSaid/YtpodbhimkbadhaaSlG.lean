/-
  What stands for the cells, when cells are laid, packed, deleted; the bytes of a body.
-/
import Derived.Test.YtpodbhimkbadhaaSlF
namespace Go.Proofs.Ytpodbhimkbadhaa
set_option linter.unusedVariables false
set_option linter.unusedSimpArgs false

def newR : Raw := upd (fun _ => 0) 1 243
theorem enc_new : Enc newR newA := ⟨rfl, rfl, by simp [newA], by simp [newA], by simp [newA]⟩

theorem layR_0 (f : Raw) (i : Nat) (c : List UInt8) (h : 2 ≤ (f 1).toNat - c.length) : layR f i c 0 = f 0 := by
  unfold layR ovr upd
  rw [if_neg (by omega), if_neg (by omega), if_neg (by omega), if_neg (by omega)]
theorem layR_1 (f : Raw) (i : Nat) (c : List UInt8) (h : 2 ≤ (f 1).toNat - c.length) : (layR f i c 1).toNat = (f 1).toNat - c.length := by
  unfold layR ovr upd
  rw [if_neg (by omega), if_neg (by omega), if_neg (by omega), if_pos rfl, ofNat_toNat]
  have := toNat_lt' (f 1)
  omega
theorem layR_dir (f : Raw) (i : Nat) (c : List UInt8) (j : Nat) (h2 : 2 ≤ j) (h : j < (f 1).toNat - c.length) :
    layR f i c j = if j = 3 + 2 * i then UInt8.ofNat c.length else if j = 2 + 2 * i then UInt8.ofNat ((f 1).toNat - c.length) else f j := by
  unfold layR ovr upd
  rw [if_neg (by omega)]
  split
  · rfl
  · split
    · rfl
    · rw [if_neg (by omega)]
theorem layR_in (f : Raw) (i : Nat) (c : List UInt8) (m : Nat) (h : m < c.length) : layR f i c ((f 1).toNat - c.length + m) = c.getD m 0 := by
  unfold layR ovr upd
  rw [if_pos (by omega)]
  congr 1
  omega
theorem layR_hi (f : Raw) (i : Nat) (c : List UInt8) (j : Nat) (h : (f 1).toNat ≤ j) (hc : c.length ≤ (f 1).toNat) (hd : 3 + 2 * i < (f 1).toNat) (h4 : 4 ≤ (f 1).toNat) : layR f i c j = f j := by
  unfold layR ovr upd
  rw [if_neg (by omega), if_neg (by omega), if_neg (by omega), if_neg (by omega)]

/-- A cell is added: those behind it go up, their number too, and it is laid. -/
theorem enc_add {f : Raw} {A : Bo} (he : Enc f A) (hw : Wf A) (i : Nat) (c : List UInt8) (hi : i ≤ A.l.length) (hc : c.length ≤ 78) (hr : 2 + 2 * (A.l.length + 1) + c.length ≤ A.top) :
    Enc (layR (upd (up2 f (2 + 2 * i) (2 + 2 * A.l.length)) 0 (UInt8.ofNat (A.l.length + 1))) i c) (addA A i c) := by
  have hn := hw.ntop
  obtain ⟨h, hh⟩ : ∃ h, upd (up2 f (2 + 2 * i) (2 + 2 * A.l.length)) 0 (UInt8.ofNat (A.l.length + 1)) = h := ⟨_, rfl⟩
  have h0 : (h 0).toNat = A.l.length + 1 := by rw [← hh]; unfold upd; rw [if_pos rfl, ofNat_toNat _ (by omega)]
  have h1 : (h 1).toNat = A.top := by rw [← hh, ← he.top]; unfold upd up2; rw [if_neg (by omega), if_neg (by omega)]
  have hlo : ∀ j, 2 ≤ j → j < 2 + 2 * i → h j = f j := fun j h2 h3 => by rw [← hh]; unfold upd up2; rw [if_neg (by omega), if_neg (by omega)]
  have hup : ∀ j, 4 + 2 * i ≤ j → j < 4 + 2 * A.l.length → h j = f (j - 2) := fun j h2 h3 => by rw [← hh]; unfold upd up2; rw [if_neg (by omega), if_pos (by omega)]
  have hhi : ∀ j, 4 + 2 * A.l.length ≤ j → h j = f j := fun j h2 => by rw [← hh]; unfold upd up2; rw [if_neg (by omega), if_neg (by omega)]
  rw [hh]
  have hl : (insL A.l i ⟨A.top - c.length, c⟩).length = A.l.length + 1 := insL_length _ _ _ hi
  have hcl := cl_ins A.l i ⟨A.top - c.length, c⟩ hi
  have hdir : ∀ j, 2 ≤ j → j < 4 + 2 * A.l.length → layR h i c j = if j = 3 + 2 * i then UInt8.ofNat c.length else if j = 2 + 2 * i then UInt8.ofNat (A.top - c.length) else h j := fun j h2 h3 => by rw [layR_dir h i c j h2 (by rw [h1]; omega), h1]
  refine ⟨?_, ?_, ?_, ?_, ?_⟩
  · rw [layR_0 h i c (by rw [h1]; omega), h0]; exact hl.symm
  · rw [layR_1 h i c (by rw [h1]; omega), h1]; rfl
  · intro k hk
    have hk : k < A.l.length + 1 := by rw [← hl]; exact hk
    show _ = (cl (insL A.l i ⟨A.top - c.length, c⟩) k).pl
    rw [hdir _ (by omega) (by omega), if_neg (by omega), hcl k]
    by_cases a : k < i
    · rw [if_neg (by omega), if_pos a, hlo _ (by omega) (by omega)]; exact he.pl k (by omega)
    · rw [if_neg a]
      by_cases b : k = i
      · rw [if_pos (by omega), if_pos b]; exact ofNat_toNat _ (by omega)
      · rw [if_neg (by omega), if_neg b, hup _ (by omega) (by omega), show 2 + 2 * k - 2 = 2 + 2 * (k - 1) by omega]; exact he.pl _ (by omega)
  · intro k hk
    have hk : k < A.l.length + 1 := by rw [← hl]; exact hk
    show _ = (cl (insL A.l i ⟨A.top - c.length, c⟩) k).p.length
    rw [hdir _ (by omega) (by omega), hcl k]
    by_cases a : k < i
    · rw [if_neg (by omega), if_neg (by omega), if_pos a, hlo _ (by omega) (by omega)]; exact he.sz k (by omega)
    · rw [if_neg a]
      by_cases b : k = i
      · rw [if_pos (by omega), if_pos b]; exact ofNat_toNat _ (by omega)
      · rw [if_neg (by omega), if_neg (by omega), if_neg b, hup _ (by omega) (by omega), show 3 + 2 * k - 2 = 3 + 2 * (k - 1) by omega]; exact he.sz _ (by omega)
  · intro k m hk
    have hk : k < A.l.length + 1 := by rw [← hl]; exact hk
    show m < (cl (insL A.l i ⟨A.top - c.length, c⟩) k).p.length → layR h i c ((cl (insL A.l i ⟨A.top - c.length, c⟩) k).pl + m) = (cl (insL A.l i ⟨A.top - c.length, c⟩) k).p.getD m 0
    rw [hcl k]
    have old : ∀ j, j < A.l.length → m < (cl A.l j).p.length → layR h i c ((cl A.l j).pl + m) = (cl A.l j).p.getD m 0 := fun j hj hm => by
      have := hw.low j hj (by omega)
      rw [layR_hi h i c _ (by rw [h1]; omega) (by rw [h1]; omega) (by rw [h1]; omega) (by rw [h1]; omega), hhi _ (by omega)]
      exact he.by_ j m hj hm
    by_cases a : k < i
    · rw [if_pos a]; exact old k (by omega)
    · rw [if_neg a]
      by_cases b : k = i
      · rw [if_pos b]
        intro hm
        show layR h i c (A.top - c.length + m) = c.getD m 0
        rw [← h1]
        exact layR_in h i c m hm
      · rw [if_neg b]; exact old (k - 1) (by omega)

/-- A body of which the first i cells are packed. -/
structure PkI (h : Raw) (A : Bo) (i : Nat) : Prop where
  n : (h 0).toNat = A.l.length
  top : (h 1).toNat = 243 - sumL (A.l.take i)
  pl : ∀ k, k < i → (h (2 + 2 * k)).toNat = 243 - sumL (A.l.take (k + 1))
  sz : ∀ k, k < i → (h (3 + 2 * k)).toNat = (cl A.l k).p.length
  by_ : ∀ k m, k < i → m < (cl A.l k).p.length → h (243 - sumL (A.l.take (k + 1)) + m) = (cl A.l k).p.getD m 0
theorem pk_zero {f : Raw} {A : Bo} (he : Enc f A) : PkI (upd f 1 243) A 0 :=
  ⟨by rw [← he.n]; rfl, by simp [upd, sumL], fun k hk => by omega, fun k hk => by omega, fun k m hk => by omega⟩
theorem pk_succ {h : Raw} {A : Bo} {i : Nat} (hp : PkI h A i) (hw : Wf A) (hi : i < A.l.length) : PkI (layR h i (cl A.l i).p) A (i + 1) := by
  have hd := hw.dir
  have hs := hw.sum
  have h1 := hp.top
  have hss := sum_succ A.l i hi
  have hle := sum_take_le A.l (i + 1)
  have hdir : ∀ j, 2 ≤ j → j < 2 + 2 * A.l.length → layR h i (cl A.l i).p j = if j = 3 + 2 * i then UInt8.ofNat (cl A.l i).p.length else if j = 2 + 2 * i then UInt8.ofNat (243 - sumL (A.l.take (i + 1))) else h j := fun j h2 h3 => by
    rw [layR_dir h i _ j h2 (by omega), h1, show 243 - sumL (A.l.take i) - (cl A.l i).p.length = 243 - sumL (A.l.take (i + 1)) by omega]
  refine ⟨?_, ?_, ?_, ?_, ?_⟩
  · rw [layR_0 h i _ (by omega)]; exact hp.n
  · rw [layR_1 h i _ (by omega)]; omega
  · intro k hk
    rw [hdir _ (by omega) (by omega), if_neg (by omega)]
    by_cases b : k = i
    · rw [if_pos (by omega), b]; exact ofNat_toNat _ (by omega)
    · rw [if_neg (by omega)]; exact hp.pl k (by omega)
  · intro k hk
    rw [hdir _ (by omega) (by omega)]
    by_cases b : k = i
    · rw [if_pos (by omega), b]; exact ofNat_toNat _ (by have := hw.len i hi; omega)
    · rw [if_neg (by omega), if_neg (by omega)]; exact hp.sz k (by omega)
  · intro k m hk hm
    by_cases b : k = i
    · subst b
      have := layR_in h k (cl A.l k).p m hm
      rw [show (h 1).toNat - (cl A.l k).p.length = 243 - sumL (A.l.take (k + 1)) by omega] at this
      exact this
    · have h3 := sum_take_mono A.l (k + 1) i (by omega)
      rw [layR_hi h i _ _ (by omega) (by omega) (by omega) (by omega)]
      exact hp.by_ k m (by omega) hm
theorem pk_done {h : Raw} {A : Bo} (hp : PkI h A A.l.length) : Enc h (packA A) := by
  have hl : (packL A.l.length A.l).length = A.l.length := packL_length _ _
  have hc : ∀ k, k < A.l.length → cl (packL A.l.length A.l) k = ⟨243 - sumL (A.l.take (k + 1)), (cl A.l k).p⟩ := fun k hk => by rw [cl_pack _ _ k hk, if_pos hk]
  refine ⟨?_, ?_, ?_, ?_, ?_⟩
  · rw [hp.n]; exact hl.symm
  · rw [hp.top, List.take_length]; rfl
  · intro k hk
    have hk : k < A.l.length := by rw [← hl]; exact hk
    show _ = (cl (packL A.l.length A.l) k).pl
    rw [hc k hk]; exact hp.pl k hk
  · intro k hk
    have hk : k < A.l.length := by rw [← hl]; exact hk
    show _ = (cl (packL A.l.length A.l) k).p.length
    rw [hc k hk]; exact hp.sz k hk
  · intro k m hk
    have hk : k < A.l.length := by rw [← hl]; exact hk
    show m < (cl (packL A.l.length A.l) k).p.length → h ((cl (packL A.l.length A.l) k).pl + m) = (cl (packL A.l.length A.l) k).p.getD m 0
    rw [hc k hk]; exact hp.by_ k m hk

/-- A cell is deleted. -/
def delR (f : Raw) (t i n : Nat) : Raw := upd (dn2 (upd f 1 (UInt8.ofNat t)) (2 + 2 * i) (2 + 2 * n)) 0 (UInt8.ofNat (n - 1))
theorem enc_del {f : Raw} {A : Bo} (he : Enc f A) (hw : Wf A) (i : Nat) (hi : i < A.l.length) : Enc (delR f (delA A i).top i A.l.length) (delA A i) := by
  have hn := hw.ntop
  have hd := hw.dir
  have hl : (delL A.l i).length = A.l.length - 1 := delL_length _ _ hi
  have hcl := cl_del A.l i hi
  have ht : (delA A i).top ≤ 243 := (wf_del hw i hi).ntop.2.1
  obtain ⟨t, hte⟩ : ∃ t, (delA A i).top = t := ⟨_, rfl⟩
  rw [hte] at ht ⊢
  obtain ⟨h, hh⟩ : ∃ h, delR f t i A.l.length = h := ⟨_, rfl⟩
  have h0 : (h 0).toNat = A.l.length - 1 := by rw [← hh]; unfold delR upd; rw [if_pos rfl, ofNat_toNat _ (by omega)]
  have h1 : (h 1).toNat = t := by rw [← hh]; unfold delR upd dn2; rw [if_neg (by omega), if_neg (by omega)]; dsimp only; rw [if_pos rfl, ofNat_toNat _ (by omega)]
  have hlo : ∀ j, 2 ≤ j → j < 2 + 2 * i → h j = f j := fun j h2 h3 => by rw [← hh]; unfold delR upd dn2; rw [if_neg (by omega), if_neg (by omega)]; dsimp only; rw [if_neg (by omega)]
  have hdn : ∀ j, 2 + 2 * i ≤ j → j < 2 * A.l.length → h j = f (j + 2) := fun j h2 h3 => by rw [← hh]; unfold delR upd dn2; rw [if_neg (by omega), if_pos (by omega)]; dsimp only; rw [if_neg (by omega)]
  have hhi : ∀ j, 2 + 2 * A.l.length ≤ j → h j = f j := fun j h2 => by rw [← hh]; unfold delR upd dn2; rw [if_neg (by omega), if_neg (by omega)]; dsimp only; rw [if_neg (by omega)]
  rw [hh]
  refine ⟨?_, ?_, ?_, ?_, ?_⟩
  · rw [h0]; exact hl.symm
  · rw [h1]; exact hte.symm
  · intro k hk
    have hk : k < A.l.length - 1 := by rw [← hl]; exact hk
    show _ = (cl (delL A.l i) k).pl
    rw [hcl k]
    by_cases a : k < i
    · rw [if_pos a, hlo _ (by omega) (by omega)]; exact he.pl k (by omega)
    · rw [if_neg a, hdn _ (by omega) (by omega)]; exact he.pl (k + 1) (by omega)
  · intro k hk
    have hk : k < A.l.length - 1 := by rw [← hl]; exact hk
    show _ = (cl (delL A.l i) k).p.length
    rw [hcl k]
    by_cases a : k < i
    · rw [if_pos a, hlo _ (by omega) (by omega)]; exact he.sz k (by omega)
    · rw [if_neg a, hdn _ (by omega) (by omega)]; exact he.sz (k + 1) (by omega)
  · intro k m hk
    have hk : k < A.l.length - 1 := by rw [← hl]; exact hk
    show m < (cl (delL A.l i) k).p.length → h ((cl (delL A.l i) k).pl + m) = (cl (delL A.l i) k).p.getD m 0
    rw [hcl k]
    have old : ∀ j, j < A.l.length → m < (cl A.l j).p.length → h ((cl A.l j).pl + m) = (cl A.l j).p.getD m 0 := fun j hj hm => by
      have := hw.low j hj (by omega)
      rw [hhi _ (by omega)]
      exact he.by_ j m hj hm
    by_cases a : k < i
    · rw [if_pos a]; exact old k (by omega)
    · rw [if_neg a]; exact old (k + 1) (by omega)

/-! The bytes of a body. -/
def paint : List Cl → Raw → Raw
  | [], f => f
  | c :: l, f => paint l (ovr f c.pl c.p)
def zR : Raw := fun _ => 0
def dirA (A : Bo) (j : Nat) : UInt8 :=
  if j = 0 then UInt8.ofNat A.l.length else if j = 1 then UInt8.ofNat A.top else
    if j % 2 = 0 then UInt8.ofNat (if (cl A.l ((j - 2) / 2)).p.length = 0 then A.top else (cl A.l ((j - 2) / 2)).pl) else UInt8.ofNat (cl A.l ((j - 2) / 2)).p.length
def bytesA (A : Bo) : Raw := fun j => if j < 2 + 2 * A.l.length then dirA A j else paint A.l zR j
theorem paint_snoc : ∀ (l : List Cl) (c : Cl) (f : Raw), paint (l ++ [c]) f = ovr (paint l f) c.pl c.p
  | [], c, f => rfl
  | x :: l, c, f => paint_snoc l c _
theorem paint_take (l : List Cl) (i : Nat) (h : i < l.length) (f : Raw) : paint (l.take (i + 1)) f = ovr (paint (l.take i) f) (cl l i).pl (cl l i).p := by
  rw [List.take_succ_eq_append_getElem h, paint_snoc, cl_get l i h]
theorem dirA_pl (A : Bo) (k : Nat) : dirA A (2 + 2 * k) = UInt8.ofNat (if (cl A.l k).p.length = 0 then A.top else (cl A.l k).pl) := by
  unfold dirA
  rw [if_neg (by omega), if_neg (by omega), if_pos (by omega), show (2 + 2 * k - 2) / 2 = k by omega]
theorem dirA_sz (A : Bo) (k : Nat) : dirA A (3 + 2 * k) = UInt8.ofNat (cl A.l k).p.length := by
  unfold dirA
  rw [if_neg (by omega), if_neg (by omega), if_neg (by omega), show (3 + 2 * k - 2) / 2 = k by omega]
/-- The program's bytes, of i cells. -/
def bytP (f : Raw) (A : Bo) (i : Nat) : Raw := fun j => if j < 2 + 2 * A.l.length then (if j < 2 + 2 * i then dirA A j else f j) else paint (A.l.take i) zR j
theorem bytP_zero {f : Raw} {A : Bo} (he : Enc f A) : bytP f A 0 = fun j => if j < 2 + 2 * A.l.length then f j else 0 := by
  funext j
  unfold bytP
  split
  · split
    · unfold dirA
      rcases (by omega : j = 0 ∨ j = 1) with rfl | rfl
      · rw [if_pos rfl]; exact (u8_eq he.n).symm
      · rw [if_neg (by omega), if_pos rfl]; exact (u8_eq he.top).symm
    · rfl
  · rfl
theorem bytP_succ {f : Raw} {A : Bo} (he : Enc f A) (hw : Wf A) (i : Nat) (hi : i < A.l.length) :
    bytP f A (i + 1) = ovr (if (cl A.l i).p.length = 0 then upd (bytP f A i) (2 + 2 * i) (f 1) else bytP f A i) (cl A.l i).pl (cl A.l i).p := by
  have hd := hw.dir
  funext j
  by_cases h0 : (cl A.l i).p.length = 0
  · rw [if_pos h0]
    have hov : ovr (upd (bytP f A i) (2 + 2 * i) (f 1)) (cl A.l i).pl (cl A.l i).p j = upd (bytP f A i) (2 + 2 * i) (f 1) j := by unfold ovr; rw [if_neg (by omega)]
    rw [hov]
    unfold bytP upd
    dsimp only
    by_cases hj : j < 2 + 2 * A.l.length
    · rw [if_pos hj, if_pos hj]
      by_cases h1 : j < 2 + 2 * i
      · rw [if_pos (by omega), if_neg (by omega), if_pos h1]
      · by_cases h2 : j = 2 + 2 * i
        · rw [if_pos (by omega), if_pos h2, h2, dirA_pl, if_pos h0]; exact (u8_eq he.top).symm
        · by_cases h3 : j = 3 + 2 * i
          · rw [if_pos (by omega), if_neg h2, if_neg h1, h3, dirA_sz]; exact (u8_eq (he.sz i hi)).symm
          · rw [if_neg (by omega), if_neg h2, if_neg h1]
    · rw [if_neg hj, if_neg (by omega), if_neg hj, paint_take _ i hi]
      unfold ovr; rw [if_neg (by omega)]
  · rw [if_neg h0]
    have hlo := hw.low i hi (by omega)
    unfold bytP
    by_cases hj : j < 2 + 2 * A.l.length
    · rw [if_pos hj]
      have hov : ∀ g : Raw, ovr g (cl A.l i).pl (cl A.l i).p j = g j := fun g => by unfold ovr; rw [if_neg (by omega)]
      rw [hov, if_pos hj]
      by_cases h1 : j < 2 + 2 * i
      · rw [if_pos (by omega), if_pos h1]
      · by_cases h2 : j = 2 + 2 * i
        · rw [if_pos (by omega), if_neg h1, h2, dirA_pl, if_neg h0]; exact (u8_eq (he.pl i hi)).symm
        · by_cases h3 : j = 3 + 2 * i
          · rw [if_pos (by omega), if_neg h1, h3, dirA_sz]; exact (u8_eq (he.sz i hi)).symm
          · rw [if_neg (by omega), if_neg h1]
    · rw [if_neg hj, paint_take _ i hi]
      unfold ovr
      split
      · rfl
      · dsimp only; rw [if_neg hj]
theorem bytP_done (f : Raw) (A : Bo) : bytP f A A.l.length = bytesA A := by
  funext j
  unfold bytP bytesA
  rw [List.take_length]
  split <;> rfl

/-- A body whose cells of no bytes lie at the top. -/
def normL (t : Nat) (l : List Cl) : List Cl := l.map fun c => if c.p.length = 0 then ⟨t, []⟩ else c
def normA (A : Bo) : Bo := ⟨A.top, normL A.top A.l⟩
theorem normL_length (t : Nat) (l : List Cl) : (normL t l).length = l.length := by simp [normL]
theorem cl_norm (t : Nat) (l : List Cl) (k : Nat) (h : k < l.length) : cl (normL t l) k = if (cl l k).p.length = 0 then ⟨t, []⟩ else cl l k := by
  rw [cl_get _ _ (by rw [normL_length]; exact h), cl_get _ _ h]
  simp [normL]
theorem cl_norm_p (t : Nat) (l : List Cl) (k : Nat) (h : k < l.length) : (cl (normL t l) k).p = (cl l k).p := by
  rw [cl_norm t l k h]
  split
  · rename_i h0; exact (List.eq_nil_of_length_eq_zero h0).symm
  · rfl
theorem paint_norm (t : Nat) : ∀ (l : List Cl) (f : Raw), paint (normL t l) f = paint l f
  | [], f => rfl
  | c :: l, f => by
    show paint (normL t l) (ovr f (if c.p.length = 0 then (⟨t, []⟩ : Cl) else c).pl (if c.p.length = 0 then (⟨t, []⟩ : Cl) else c).p) = paint l (ovr f c.pl c.p)
    rw [paint_norm t l]
    congr 1
    split
    · rename_i h0
      funext j
      unfold ovr
      rw [if_neg (by simp only [List.length_nil]; omega), if_neg (by omega)]
    · rfl
theorem bytes_norm (A : Bo) : bytesA (normA A) = bytesA A := by
  have hl : (normA A).l.length = A.l.length := normL_length _ _
  funext j
  unfold bytesA
  rw [hl]
  split
  · rename_i hj
    unfold dirA
    rw [hl]
    split
    · rfl
    · split
      · rfl
      · have hk : (j - 2) / 2 < A.l.length := by omega
        have h2 : (cl (normA A).l ((j - 2) / 2)).p = (cl A.l ((j - 2) / 2)).p := cl_norm_p _ _ _ hk
        rw [h2]
        split
        · split
          · rfl
          · rename_i h0
            congr 1
            show (cl (normL A.top A.l) ((j - 2) / 2)).pl = _
            rw [cl_norm _ _ _ hk, if_neg h0]
        · rfl
  · exact congrFun (paint_norm A.top A.l zR) j
theorem sum_norm (t : Nat) (l : List Cl) : sumL (normL t l) = sumL l :=
  sum_congr _ _ (normL_length t l) (fun k hk => by rw [normL_length] at hk; rw [cl_norm_p t l k hk])
theorem wf_norm {A : Bo} (h : Wf A) : Wf (normA A) := by
  have hl : (normL A.top A.l).length = A.l.length := normL_length _ _
  have hp : ∀ k, k < A.l.length → (cl (normL A.top A.l) k).p = (cl A.l k).p := fun k hk => cl_norm_p _ _ _ hk
  have hpl : ∀ k, k < A.l.length → 0 < (cl A.l k).p.length → (cl (normL A.top A.l) k).pl = (cl A.l k).pl := fun k hk h0 => by rw [cl_norm _ _ _ hk, if_neg (by omega)]
  refine ⟨?_, ?_, ?_, ?_, ?_, ?_⟩
  · show 2 + 2 * (normL A.top A.l).length ≤ A.top
    rw [hl]; exact h.dir
  · show sumL (normL A.top A.l) + A.top ≤ 243
    rw [sum_norm]; exact h.sum
  · intro k hk
    have hk : k < A.l.length := by rw [← hl]; exact hk
    show (cl (normL A.top A.l) k).pl + (cl (normL A.top A.l) k).p.length ≤ 243
    rw [cl_norm _ _ _ hk]
    split
    · show A.top + 0 ≤ 243
      have := h.ntop; omega
    · exact h.end_ k hk
  · intro k hk
    have hk : k < A.l.length := by rw [← hl]; exact hk
    show (cl (normL A.top A.l) k).p.length ≤ 78
    rw [hp k hk]; exact h.len k hk
  · intro k hk
    have hk : k < A.l.length := by rw [← hl]; exact hk
    show 0 < (cl (normL A.top A.l) k).p.length → A.top ≤ (cl (normL A.top A.l) k).pl
    rw [hp k hk]; intro h0; rw [hpl k hk h0]; exact h.low k hk h0
  · intro j k hj hk hne
    have hj : j < A.l.length := by rw [← hl]; exact hj
    have hk : k < A.l.length := by rw [← hl]; exact hk
    show 0 < (cl (normL A.top A.l) j).p.length → 0 < (cl (normL A.top A.l) k).p.length → (cl (normL A.top A.l) j).pl + (cl (normL A.top A.l) j).p.length ≤ (cl (normL A.top A.l) k).pl ∨ (cl (normL A.top A.l) k).pl + (cl (normL A.top A.l) k).p.length ≤ (cl (normL A.top A.l) j).pl
    rw [hp k hk, hp j hj]
    intro h1 h2
    rw [hpl k hk h2, hpl j hj h1]
    exact h.apart j k hj hk hne h1 h2
/-- All cells lie at the top or behind it, those of no bytes too. -/
theorem low_norm {A : Bo} (h : Wf A) (k : Nat) (hk : k < (normA A).l.length) : (normA A).top ≤ (cl (normA A).l k).pl := by
  have hk' : k < A.l.length := by rw [← normL_length A.top A.l]; exact hk
  show A.top ≤ (cl (normL A.top A.l) k).pl
  rw [cl_norm _ _ _ hk']
  split
  · exact Nat.le_refl _
  · exact h.low k hk' (by omega)
theorem paint_out (l : List Cl) (j : Nat) : ∀ f : Raw, (∀ k, k < l.length → (cl l k).p.length = 0 ∨ j < (cl l k).pl ∨ (cl l k).pl + (cl l k).p.length ≤ j) → paint l f j = f j := by
  induction l with
  | nil => intro f _; rfl
  | cons c l ih =>
    intro f h
    show paint l (ovr f c.pl c.p) j = f j
    rw [ih _ (fun k hk => by have := h (k + 1) (by simpa using hk); simpa [cl, List.getD] using this)]
    have := h 0 (by simp)
    simp [cl, List.getD] at this
    unfold ovr
    rw [if_neg (by rcases this with h | h | h <;> (try rw [h]) <;> simp <;> omega)]
theorem paint_at {A : Bo} (hw : Wf A) (k m : Nat) (hk : k < A.l.length) (hm : m < (cl A.l k).p.length) (i : Nat) (hi : k < i) (hn : i ≤ A.l.length) : paint (A.l.take i) zR ((cl A.l k).pl + m) = (cl A.l k).p.getD m 0 := by
  induction i with
  | zero => omega
  | succ i ih =>
    rw [paint_take _ i (by omega)]
    unfold ovr
    by_cases e : k = i
    · subst e; rw [if_pos (by omega)]; congr 1; omega
    · rw [if_neg ?_]
      · exact ih (by omega) (by omega)
      · by_cases h0 : 0 < (cl A.l i).p.length
        · have := hw.apart k i hk (by omega) e (by omega) h0
          omega
        · omega
theorem enc_bytes {A : Bo} (hw : Wf A) : Enc (bytesA A) (normA A) := by
  have hn := hw.ntop
  have hd := hw.dir
  have hl : (normL A.top A.l).length = A.l.length := normL_length _ _
  refine ⟨?_, ?_, ?_, ?_, ?_⟩
  · show (bytesA A 0).toNat = (normL A.top A.l).length
    rw [hl]; unfold bytesA dirA; rw [if_pos (by omega), if_pos rfl, ofNat_toNat _ (by omega)]
  · show (bytesA A 1).toNat = A.top
    unfold bytesA dirA; rw [if_pos (by omega), if_neg (by omega), if_pos rfl, ofNat_toNat _ (by omega)]
  · intro k hk
    have hk : k < A.l.length := by rw [← hl]; exact hk
    show (bytesA A (2 + 2 * k)).toNat = (cl (normL A.top A.l) k).pl
    have := hw.end_ k hk
    unfold bytesA
    rw [if_pos (by omega), dirA_pl, cl_norm _ _ _ hk]
    split
    · exact ofNat_toNat _ (by omega)
    · exact ofNat_toNat _ (by omega)
  · intro k hk
    have hk : k < A.l.length := by rw [← hl]; exact hk
    show (bytesA A (3 + 2 * k)).toNat = (cl (normL A.top A.l) k).p.length
    have := hw.len k hk
    unfold bytesA
    rw [if_pos (by omega), dirA_sz, cl_norm_p _ _ _ hk, ofNat_toNat _ (by omega)]
  · intro k m hk
    have hk : k < A.l.length := by rw [← hl]; exact hk
    show m < (cl (normL A.top A.l) k).p.length → bytesA A ((cl (normL A.top A.l) k).pl + m) = (cl (normL A.top A.l) k).p.getD m 0
    rw [cl_norm_p _ _ _ hk]
    intro hm
    rw [cl_norm _ _ _ hk, if_neg (by omega)]
    have := hw.low k hk (by omega)
    unfold bytesA
    rw [if_neg (by omega)]
    have h2 := paint_at hw k m hk hm A.l.length hk (Nat.le_refl _)
    rw [List.take_length] at h2
    exact h2
end Go.Proofs.Ytpodbhimkbadhaa
