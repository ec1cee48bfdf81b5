/-
  The numbers of vint, as plain functions.
-/
namespace Go.Proofs.YtoppcpiheaedlaaGreatDoor

/-- n in groups of seven bits, at most k + 1 of them. -/
def putL : Nat → Nat → List UInt8
  | 0, n => [UInt8.ofNat n]
  | k + 1, n => if n < 128 then [UInt8.ofNat n] else UInt8.ofNat (n % 128 + 128) :: putL k (n / 128)
def put (n : Nat) : List UInt8 := putL 9 n

theorem putL_lt (k n : Nat) (h : n < 128) : putL k n = [UInt8.ofNat n] := by
  cases k <;> simp [putL, h]
theorem putL_ge (k n : Nat) (h : ¬ n < 128) : putL (k + 1) n = UInt8.ofNat (n % 128 + 128) :: putL k (n / 128) := by
  simp [putL, h]
theorem putL_length (k : Nat) : ∀ n, 1 ≤ (putL k n).length ∧ (putL k n).length ≤ k + 1 := by
  induction k with
  | zero => intro n; simp [putL]
  | succ k ih =>
    intro n
    unfold putL
    split
    · simp
    · have := ih (n / 128)
      simp
      omega

/-- The same, as numbers. -/
def putI : Nat → Nat → List Int
  | 0, n => [(n : Int)]
  | k + 1, n => if n < 128 then [(n : Int)] else ((n : Int) % 128 + 128) :: putI k (n / 128)
theorem putI_lt (k n : Nat) (h : n < 128) : putI k n = [(n : Int)] := by
  cases k <;> simp [putI, h]
theorem putI_ge (k n : Nat) (h : ¬ n < 128) : putI (k + 1) n = ((n : Int) % 128 + 128) :: putI k (n / 128) := by
  simp [putI, h]
theorem putI_eq (k : Nat) : ∀ n, n < 128 ^ (k + 1) → putI k n = (putL k n).map fun b => (b.toNat : Int) := by
  induction k with
  | zero => intro n h; simp at h; simp [putI, putL]; omega
  | succ k ih =>
    intro n h
    by_cases h' : n < 128
    · rw [putI_lt _ _ h', putL_lt _ _ h']; simp; omega
    · rw [putI_ge _ _ h', putL_ge _ _ h', List.map_cons, ih _ (by rw [Nat.pow_succ] at h; omega)]
      simp
      omega

/-- What Get answers, from place i on, with what has come so far. -/
def getF : Nat → List UInt8 → Nat → Nat → Nat × Nat × Nat
  | 0, _, _, _ => (0, 0, 11)
  | _ + 1, [], _, _ => (0, 0, 10)
  | k + 1, c :: r, i, acc =>
    if i = 9 ∧ 1 < c.toNat then (0, 0, 11)
    else if c.toNat < 128 then (if 0 < i ∧ c.toNat = 0 then (0, 0, 12) else (acc + c.toNat % 128 * 128 ^ i, i + 1, 0))
    else getF k r (i + 1) (acc + c.toNat % 128 * 128 ^ i)
def get (l : List UInt8) : Nat × Nat × Nat := getF 10 l 0 0

/-- What is wrong with so many leading bytes, the last of which is this one. -/
def refus (s c : Nat) : Nat :=
  if 128 ≤ c ∧ s < 10 then 10
  else if s = 10 then (if 1 < c then 11 else if c = 0 then 12 else 0)
  else if 1 < s ∧ c = 0 then 12 else 0

/-- The leading bytes with their places. -/
def leadF : Nat → List UInt8 → Nat → List (Fin 10 × UInt8)
  | 0, _, _ => []
  | _ + 1, [], _ => []
  | k + 1, c :: r, i => (Fin.ofNat 10 i, c) :: (if c.toNat < 128 then [] else leadF k r (i + 1))

def accG (s : Nat) (x : Fin 10 × UInt8) : Nat := s ||| (x.2.toNat % 128 * 2 ^ (7 * x.1.val) % 18446744073709551616)
def sizeG (i : Nat) : List (Fin 10 × UInt8) → Nat
  | [] => i
  | x :: r => sizeG (x.1.val + 1) r
def lastG (c : UInt8) : List (Fin 10 × UInt8) → UInt8
  | [] => c
  | x :: r => lastG x.2 r

theorem pow_128 (i : Nat) : 128 ^ i = 2 ^ (7 * i) := by
  rw [Nat.pow_mul]

theorem or_add (acc x i : Nat) (h : acc < 2 ^ i) : acc ||| (x * 2 ^ i) = acc + x * 2 ^ i := by
  have := Nat.two_pow_add_eq_or_of_lt h x
  rw [Nat.or_comm, Nat.mul_comm x, ← this, Nat.add_comm]

theorem get_lead (k : Nat) : ∀ (l : List UInt8) (i acc : Nat) (c0 : UInt8), i + k = 10 → acc < 128 ^ i → 128 ≤ c0.toNat →
    (refus (sizeG i (leadF k l i)) (lastG c0 (leadF k l i)).toNat ≠ 0 ∧ getF k l i acc = (0, 0, refus (sizeG i (leadF k l i)) (lastG c0 (leadF k l i)).toNat)) ∨
    (refus (sizeG i (leadF k l i)) (lastG c0 (leadF k l i)).toNat = 0 ∧ getF k l i acc = ((leadF k l i).foldl accG acc, sizeG i (leadF k l i), 0)) := by
  induction k with
  | zero =>
    intro l i acc c0 hi ha hc
    left
    have : i = 10 := by omega
    subst this
    have hr : refus 10 c0.toNat = 11 := by unfold refus; rw [if_neg (by omega), if_pos rfl, if_pos (by omega)]
    simp [leadF, sizeG, lastG, getF, hr]
  | succ k ih =>
    intro l i acc c0 hi ha hc
    cases l with
    | nil =>
      left
      have hr : refus i c0.toNat = 10 := by unfold refus; rw [if_pos ⟨hc, by omega⟩]
      simp [leadF, sizeG, lastG, getF, hr]
    | cons c r =>
      have hf : (Fin.ofNat 10 i).val = i := by simp [Fin.ofNat]; omega
      have hc256 := c.toNat_lt
      have hstep : i ≤ 8 ∨ c.toNat ≤ 1 → accG acc (Fin.ofNat 10 i, c) = acc + c.toNat % 128 * 128 ^ i := fun h => by
        unfold accG
        simp only [hf]
        rw [pow_128] at ha ⊢
        have hlt : c.toNat % 128 * 2 ^ (7 * i) < 18446744073709551616 := by
          rcases h with h | h
          · have h1 : 2 ^ (7 * i) ≤ 2 ^ 56 := Nat.pow_le_pow_right (by omega) (by omega)
            have h2 : c.toNat % 128 * 2 ^ (7 * i) ≤ 127 * 2 ^ 56 := Nat.mul_le_mul (by omega) h1
            omega
          · have h1 : 2 ^ (7 * i) ≤ 2 ^ 63 := Nat.pow_le_pow_right (by omega) (by omega)
            have h2 : c.toNat % 128 * 2 ^ (7 * i) ≤ 1 * 2 ^ 63 := Nat.mul_le_mul (by omega) h1
            omega
        rw [Nat.mod_eq_of_lt hlt]
        exact or_add _ _ _ ha
      by_cases h9 : i = 9 ∧ 1 < c.toNat
      · left
        obtain ⟨rfl, h1⟩ := h9
        have hk : k = 0 := by omega
        subst hk
        have hl : leadF (0 + 1) (c :: r) 9 = [(Fin.ofNat 10 9, c)] := by simp [leadF]
        have hg : getF (0 + 1) (c :: r) 9 acc = (0, 0, 11) := by simp [getF, h1]
        have hr : refus (9 + 1) c.toNat = 11 := by unfold refus; rw [if_neg (by omega), if_pos rfl, if_pos h1]
        rw [hl, hg]
        simp only [sizeG, lastG, hf, hr]
        simp
      · by_cases h128 : c.toNat < 128
        · have hg : getF (k + 1) (c :: r) i acc = if 0 < i ∧ c.toNat = 0 then (0, 0, 12) else (acc + c.toNat % 128 * 128 ^ i, i + 1, 0) := by
            simp only [getF, if_neg h9, if_pos h128]
          have hl : leadF (k + 1) (c :: r) i = [(Fin.ofNat 10 i, c)] := by simp [leadF, h128]
          rw [hg, hl]
          simp only [sizeG, lastG, hf, List.foldl_cons, List.foldl_nil]
          by_cases hz : 0 < i ∧ c.toNat = 0
          · left
            have hr : refus (i + 1) c.toNat = 12 := by
              unfold refus
              rw [if_neg (by omega)]
              by_cases h10 : i + 1 = 10
              · rw [if_pos h10, if_neg (by omega), if_pos hz.2]
              · rw [if_neg h10, if_pos ⟨by omega, hz.2⟩]
            rw [if_pos hz, hr]
            simp
          · right
            have hr : refus (i + 1) c.toNat = 0 := by
              unfold refus
              rw [if_neg (by omega)]
              by_cases h10 : i + 1 = 10
              · rw [if_pos h10, if_neg (by omega), if_neg (by omega)]
              · rw [if_neg h10, if_neg (by omega)]
            rw [if_neg hz, hr, hstep (by omega)]
            simp
        · have hi9 : i ≠ 9 := fun e => h9 ⟨e, by omega⟩
          have hg : getF (k + 1) (c :: r) i acc = getF k r (i + 1) (acc + c.toNat % 128 * 128 ^ i) := by
            simp only [getF, if_neg h9, if_neg h128]
          have hl : leadF (k + 1) (c :: r) i = (Fin.ofNat 10 i, c) :: leadF k r (i + 1) := by simp [leadF, h128]
          rw [hg, hl]
          simp only [sizeG, lastG, hf, List.foldl_cons]
          by_cases hk : i ≤ 8
          · rw [hstep (.inl hk)]
            refine ih r (i + 1) _ c (by omega) ?_ (by omega)
            rw [Nat.pow_succ]
            have : c.toNat % 128 * 128 ^ i ≤ 127 * 128 ^ i := Nat.mul_le_mul_right _ (by omega)
            omega
          · omega

theorem getF_ok (k : Nat) : ∀ (l : List UInt8) (i acc : Nat), i + k = 10 → acc < 128 ^ i → (getF k l i acc).2.2 = 0 →
    i + 1 ≤ (getF k l i acc).2.1 ∧ (getF k l i acc).2.1 ≤ i + l.length ∧ (getF k l i acc).2.1 ≤ 10 ∧ (getF k l i acc).1 < 18446744073709551616 := by
  induction k with
  | zero => intro l i acc _ _ h; simp [getF] at h
  | succ k ih =>
    intro l i acc hi ha h
    cases l with
    | nil => simp [getF] at h
    | cons c r =>
      unfold getF at h ⊢
      by_cases h9 : i = 9 ∧ 1 < c.toNat
      · rw [if_pos h9] at h; simp at h
      · rw [if_neg h9] at h ⊢
        have hb : i ≤ 8 ∨ c.toNat ≤ 1 := by omega
        have hp : acc + c.toNat % 128 * 128 ^ i < 18446744073709551616 := by
          rcases hb with h8 | h1
          · have h1 : 128 ^ i ≤ 128 ^ 8 := Nat.pow_le_pow_right (by omega) h8
            have h2 : c.toNat % 128 * 128 ^ i ≤ 127 * 128 ^ 8 := Nat.mul_le_mul (by omega) h1
            omega
          · have h1 : 128 ^ i ≤ 128 ^ 9 := Nat.pow_le_pow_right (by omega) (by omega)
            have h2 : c.toNat % 128 * 128 ^ i ≤ 1 * 128 ^ 9 := Nat.mul_le_mul (by omega) h1
            omega
        by_cases h128 : c.toNat < 128
        · rw [if_pos h128] at h ⊢
          by_cases hz : 0 < i ∧ c.toNat = 0
          · rw [if_pos hz] at h; simp at h
          · rw [if_neg hz]
            simp
            omega
        · rw [if_neg h128] at h ⊢
          have h8 : i ≤ 8 := by omega
          have := ih r (i + 1) _ (by omega) (by
            rw [Nat.pow_succ]
            have : c.toNat % 128 * 128 ^ i ≤ 127 * 128 ^ i := Nat.mul_le_mul_right _ (by omega)
            omega) h
          simp only [List.length_cons]
          omega
theorem get_ok (l : List UInt8) (h : (get l).2.2 = 0) : 1 ≤ (get l).2.1 ∧ (get l).2.1 ≤ l.length ∧ (get l).2.1 ≤ 10 ∧ (get l).1 < 18446744073709551616 := by
  have := getF_ok 10 l 0 0 rfl (by omega) h
  unfold get
  omega

/-- What GetBytes answers. -/
def getB (l : List UInt8) : List UInt8 × Nat × Nat :=
  if (get l).2.2 ≠ 0 then ([], 0, (get l).2.2)
  else if l.length - (get l).2.1 < (get l).1 then ([], 0, 10)
  else ((l.drop (get l).2.1).take (get l).1, (get l).2.1 + (get l).1, 0)

/-- The number whose bytes these are, the highest one first. -/
def numG (l : List UInt8) : Nat := l.foldl (fun n c => n * 256 + c.toNat) 0
def number (l : List UInt8) : Nat := if 8 < l.length then 0 else numG l
theorem numG_snoc (l : List UInt8) (c : UInt8) : numG (l ++ [c]) = numG l * 256 + c.toNat := by simp [numG]
theorem numG_lt' (l : List UInt8) : ∀ acc, l.foldl (fun n c => n * 256 + c.toNat) acc < (acc + 1) * 256 ^ l.length := by
  induction l with
  | nil => intro acc; simp
  | cons c l ih =>
    intro acc
    have h := ih (acc * 256 + c.toNat)
    have hc := c.toNat_lt
    rw [List.foldl_cons, List.length_cons, Nat.pow_succ]
    have h1 : (acc * 256 + c.toNat + 1) * 256 ^ l.length ≤ (acc + 1) * 256 * 256 ^ l.length := Nat.mul_le_mul_right _ (by omega)
    have h2 : (acc + 1) * (256 ^ l.length * 256) = (acc + 1) * 256 * 256 ^ l.length := by rw [Nat.mul_comm (256 ^ l.length), Nat.mul_assoc]
    omega
theorem numG_lt (l : List UInt8) : numG l < 256 ^ l.length := by
  have := numG_lt' l 0
  simpa [numG] using this

/-- The lowest 8 * size bits of n, the highest ones first. -/
def fixG : Nat → Nat → List UInt8
  | 0, _ => []
  | s + 1, n => fixG s (n / 256) ++ [UInt8.ofNat n]
def fixed (n : Nat) (size : Int) : List UInt8 := if size < 1 ∨ 8 < size then [] else fixG size.toNat n
theorem fixG_cons (k : Nat) : ∀ n, fixG (k + 1) n = UInt8.ofNat (n / 256 ^ k) :: fixG k n := by
  induction k with
  | zero => intro n; simp [fixG]
  | succ k ih =>
    intro n
    rw [fixG, ih (n / 256), fixG, List.cons_append, Nat.div_div_eq_div_mul, Nat.pow_succ, Nat.mul_comm]
theorem set_mid {α : Type} (j : Nat) (f : UInt8 → α) (l : List UInt8) (d : UInt8) : ((List.replicate (j + 1) 0 ++ l).map f).set j (f d) = (List.replicate j 0 ++ d :: l).map f := by
  rw [List.replicate_succ', List.append_assoc, List.map_append, List.map_append, List.set_append_right _ _ (by simp)]
  simp
theorem fixG_length (s : Nat) : ∀ n, (fixG s n).length = s := by
  induction s with
  | zero => intro n; rfl
  | succ s ih => intro n; simp [fixG, ih]

theorem get_put' (k : Nat) : ∀ (n i acc : Nat) (t : List UInt8), i + k = 9 → n < 128 ^ (k + 1) → acc + n * 128 ^ i < 18446744073709551616 → (0 < i → 0 < n) →
    getF (k + 1) (putL k n ++ t) i acc = (acc + n * 128 ^ i, i + (putL k n).length, 0) := by
  have small : ∀ (k n i acc : Nat) (t : List UInt8), n < 128 → (i = 9 → n ≤ 1) → (0 < i → 0 < n) → getF (k + 1) ([UInt8.ofNat n] ++ t) i acc = (acc + n * 128 ^ i, i + 1, 0) := fun k n i acc t hn h9 h0 => by
    have hc : (UInt8.ofNat n).toNat = n := by simp; omega
    rw [List.singleton_append, getF]
    simp only [hc]
    rw [if_neg (by omega), if_pos hn, if_neg (by omega), Nat.mod_eq_of_lt hn]
  induction k with
  | zero =>
    intro n i acc t hi hn hlt h0
    have hi9 : i = 9 := by omega
    subst hi9
    have hn1 : n ≤ 1 := by
      rcases Nat.lt_or_ge 1 n with h | h
      · have : 2 * 128 ^ 9 ≤ n * 128 ^ 9 := Nat.mul_le_mul_right _ h
        omega
      · exact h
    simp only [putL]
    rw [small 0 n 9 acc t (by omega) (fun _ => hn1) h0]
    rfl
  | succ k ih =>
    intro n i acc t hi hn hlt h0
    by_cases h : n < 128
    · rw [putL_lt _ _ h, small (k + 1) n i acc t h (fun e => by omega) h0]
      rfl
    · have hc : (UInt8.ofNat (n % 128 + 128)).toNat = n % 128 + 128 := by simp; omega
      rw [putL_ge _ _ h, List.cons_append, getF]
      simp only [hc]
      rw [if_neg (by omega), if_neg (by omega)]
      have e1 : (n % 128 + 128) % 128 = n % 128 := by omega
      have e2 : acc + n % 128 * 128 ^ i + n / 128 * 128 ^ (i + 1) = acc + n * 128 ^ i := by
        have h1 : n = n % 128 + n / 128 * 128 := by omega
        rw [Nat.pow_succ, Nat.add_assoc, Nat.mul_comm (128 ^ i) 128, ← Nat.mul_assoc, ← Nat.add_mul]
        rw [← h1]
      rw [e1, ih (n / 128) (i + 1) _ t (by omega) (by rw [Nat.pow_succ] at hn; omega) (by rw [e2]; exact hlt) (by omega), e2]
      simp
      omega
theorem get_put (n : Nat) (hn : n < 18446744073709551616) (t : List UInt8) : get (put n ++ t) = (n, (put n).length, 0) := by
  have := get_put' 9 n 0 0 t rfl (by omega) (by simpa using hn) (by omega)
  unfold get put
  rw [this]
  simp
theorem put_len (n : Nat) : 1 ≤ (put n).length ∧ (put n).length ≤ 10 := putL_length 9 n
theorem getB_put (l t : List UInt8) (hl : l.length < 18446744073709551616) : getB (put l.length ++ l ++ t) = (l, (put l.length).length + l.length, 0) := by
  have hg := get_put l.length hl (l ++ t)
  rw [← List.append_assoc] at hg
  unfold getB
  rw [hg]
  simp

/-- Numbers, one behind the other. -/
def flat (l : List Nat) : List UInt8 := l.flatMap put
theorem flat_snoc (l : List Nat) (n : Nat) : flat (l ++ [n]) = flat l ++ put n := by simp [flat]
theorem flat_cons (l : List Nat) (n : Nat) : flat (n :: l) = put n ++ flat l := by simp [flat]
theorem flat_len (l : List Nat) : (flat l).length ≤ 10 * l.length := by
  induction l with
  | nil => simp [flat]
  | cons n l ih =>
    have := (put_len n).2
    rw [flat_cons, List.length_append, List.length_cons]
    omega

theorem numG_app (l m : List UInt8) : numG (l ++ m) = m.foldl (fun n c => n * 256 + c.toNat) (numG l) := by simp [numG]
theorem numG_fix (s : Nat) : ∀ n, numG (fixG s n) = n % 256 ^ s := by
  induction s with
  | zero => intro n; simp [fixG, numG, Nat.mod_one]
  | succ s ih =>
    intro n
    rw [fixG, numG_snoc, ih, Nat.pow_succ]
    have hc : (UInt8.ofNat n).toNat = n % 256 := by simp
    rw [hc, Nat.mul_comm (256 ^ s) 256, Nat.mod_mul]
    omega
theorem number_fixed (n : Nat) (hn : n < 18446744073709551616) : number (fixed n 8) = n := by
  unfold number fixed
  rw [if_neg (by omega : ¬ ((8 : Int) < 1 ∨ (8 : Int) < 8))]
  rw [if_neg (by rw [fixG_length]; decide)]
  show numG (fixG 8 n) = n
  rw [numG_fix]
  exact Nat.mod_eq_of_lt hn
theorem take_ne (a b : Nat) (ha : a < 18446744073709551616) (hb : b < 18446744073709551616) (hne : a ≠ b) : ¬ (put a).take (put b).length = put b := by
  intro h
  have h1 : put a = put b ++ (put a).drop (put b).length := by
    have h0 := List.take_append_drop (put b).length (put a)
    rw [h] at h0
    exact h0.symm
  have h2 := get_put a ha []
  have h3 := get_put b hb ((put a).drop (put b).length)
  rw [← h1] at h3
  rw [List.append_nil, h3] at h2
  simp at h2
  exact hne h2.1.symm
end Go.Proofs.YtoppcpiheaedlaaGreatDoor
