/-
  CRC-32C as a pure function: a register behind bits and bytes; it is linear; what is turned within 32 neighbouring bits changes the sum.
-/
import Derived.Test.YtfgnniajancpcaaGen
namespace Go.Proofs.Ytfgnniajancpcaa

/-- A register behind one bit. -/
def bitC (c : Nat) : Nat := c / 2 ^^^ (if c % 2 = 1 then 2197175160 else 0)
/-- .. behind k bits. -/
def bitsC : Nat → Nat → Nat
  | 0, c => c
  | k + 1, c => bitsC k (bitC c)
def stepC (c : Nat) (b : UInt8) : Nat := bitsC 8 (c ^^^ b.toNat)
def runC (c : Nat) (l : List UInt8) : Nat := l.foldl stepC c
def notC (c : Nat) : Nat := 4294967295 ^^^ c
def moreC (c : Nat) (l : List UInt8) : Nat := notC (runC (notC c) l)
def sumC (l : List UInt8) : Nat := moreC 0 l
def four (n : Nat) : List UInt8 := [UInt8.ofNat (n / 16777216), UInt8.ofNat (n / 65536), UInt8.ofNat (n / 256), UInt8.ofNat n]
def putC (l : List UInt8) : List UInt8 := l ++ four (sumC l)
def checkC (l : List UInt8) : List UInt8 × Bool :=
  if l.length < 4 then ([], false) else if putC (l.take (l.length - 4)) = l then (l.take (l.length - 4), true) else ([], false)

theorem bitC_lt {c : Nat} (h : c < 4294967296) : bitC c < 4294967296 := by
  unfold bitC
  refine Nat.xor_lt_two_pow (n := 32) (by omega) ?_
  split <;> decide
theorem bitsC_lt (k : Nat) : ∀ {c : Nat}, c < 4294967296 → bitsC k c < 4294967296 := by
  induction k with
  | zero => exact fun h => h
  | succ k ih => exact fun h => ih (bitC_lt h)
theorem bitsC_add (j k : Nat) : ∀ c, bitsC (j + k) c = bitsC k (bitsC j c) := by
  induction j with
  | zero => intro c; simp [bitsC]
  | succ j ih => intro c; rw [Nat.succ_add]; exact ih _

theorem xor_mod2 (a b : Nat) : (a ^^^ b) % 2 = (a % 2 + b % 2) % 2 := by
  have h := Nat.xor_mod_two_pow (a := a) (b := b) (n := 1)
  rw [show 2 ^ 1 = 2 from rfl] at h
  rw [h]
  rcases Nat.mod_two_eq_zero_or_one a with h1 | h1 <;> rcases Nat.mod_two_eq_zero_or_one b with h2 | h2 <;> rw [h1, h2] <;> rfl
theorem eq_of_xor {a b : Nat} (h : a ^^^ b = 0) : a = b := by
  have : a ^^^ b ^^^ b = b := by rw [h, Nat.zero_xor]
  rwa [Nat.xor_assoc, Nat.xor_self, Nat.xor_zero] at this
theorem mul_xor (k a b : Nat) : 2 ^ k * (a ^^^ b) = 2 ^ k * a ^^^ 2 ^ k * b := by
  have := Nat.shiftLeft_xor_distrib (i := k) (a := a) (b := b)
  simpa [Nat.shiftLeft_eq, Nat.mul_comm] using this
theorem bitC_xor (a b : Nat) : bitC (a ^^^ b) = bitC a ^^^ bitC b := by
  unfold bitC
  have h1 : (a ^^^ b) / 2 = a / 2 ^^^ b / 2 := by
    have := Nat.shiftRight_xor_distrib (a := a) (b := b) (i := 1)
    simpa [Nat.shiftRight_eq_div_pow] using this
  have h2 := xor_mod2 a b
  rw [h1]
  by_cases ha : a % 2 = 1 <;> by_cases hb : b % 2 = 1
  · rw [if_pos ha, if_pos hb, if_neg (by omega)]
    rw [Nat.xor_zero, Nat.xor_comm (b / 2), ← Nat.xor_assoc, Nat.xor_assoc (a / 2), Nat.xor_self, Nat.xor_zero]
  · rw [if_pos ha, if_neg hb, if_pos (by omega), Nat.xor_zero, Nat.xor_assoc, Nat.xor_assoc, Nat.xor_comm (b / 2)]
  · rw [if_neg ha, if_pos hb, if_pos (by omega), Nat.xor_zero, Nat.xor_assoc]
  · rw [if_neg ha, if_neg hb, if_neg (by omega), Nat.xor_zero, Nat.xor_zero, Nat.xor_zero]
theorem bitsC_xor (k : Nat) : ∀ a b, bitsC k (a ^^^ b) = bitsC k a ^^^ bitsC k b := by
  induction k with
  | zero => intro a b; rfl
  | succ k ih => intro a b; show bitsC k (bitC (a ^^^ b)) = _; rw [bitC_xor, ih]; rfl
theorem bitC_double (y : Nat) : bitC (2 * y) = y := by
  unfold bitC
  rw [if_neg (by omega), Nat.xor_zero]
  omega
theorem bitsC_pow (k : Nat) : ∀ y, bitsC k (2 ^ k * y) = y := by
  induction k with
  | zero => intro y; simp [bitsC]
  | succ k ih =>
    intro y
    show bitsC k (bitC _) = y
    rw [show 2 ^ (k + 1) * y = 2 * (2 ^ k * y) by rw [Nat.pow_succ]; rw [Nat.mul_comm (2 ^ k) 2, Nat.mul_assoc], bitC_double, ih]
theorem bitC_ne {c : Nat} (h : c < 4294967296) (h0 : c ≠ 0) : bitC c ≠ 0 := by
  unfold bitC
  intro he
  have he := eq_of_xor he
  split at he <;> omega
theorem bitsC_ne (k : Nat) : ∀ {c : Nat}, c < 4294967296 → c ≠ 0 → bitsC k c ≠ 0 := by
  induction k with
  | zero => exact fun _ h => h
  | succ k ih => exact fun h h0 => ih (bitC_lt h) (bitC_ne h h0)

theorem stepC_lt {c : Nat} (h : c < 4294967296) (b : UInt8) : stepC c b < 4294967296 :=
  bitsC_lt 8 (Nat.xor_lt_two_pow (n := 32) h (by have := b.toNat_lt; omega))
theorem runC_lt (l : List UInt8) : ∀ {c : Nat}, c < 4294967296 → runC c l < 4294967296 := by
  induction l with
  | nil => exact fun h => h
  | cons b l ih => exact fun h => ih (stepC_lt h b)
theorem xor_lt {a b : Nat} (ha : a < 4294967296) (hb : b < 4294967296) : a ^^^ b < 4294967296 := Nat.xor_lt_two_pow (n := 32) ha hb
theorem notC_eq (c : Nat) : notC c = 4294967295 ^^^ c := by unfold notC; rfl
theorem notC_lt {c : Nat} (h : c < 4294967296) : notC c < 4294967296 := by
  rw [notC_eq]
  exact xor_lt (by decide) h
theorem xor_xor (k c : Nat) : k ^^^ (k ^^^ c) = c := by rw [← Nat.xor_assoc, Nat.xor_self, Nat.zero_xor]
theorem notC_notC (c : Nat) : notC (notC c) = c := by rw [notC_eq, notC_eq, xor_xor]
theorem runC_app (c : Nat) (l m : List UInt8) : runC c (l ++ m) = runC (runC c l) m := by simp [runC]
theorem moreC_lt {c : Nat} (h : c < 4294967296) (l : List UInt8) : moreC c l < 4294967296 := notC_lt (runC_lt l (notC_lt h))
theorem moreC_app (c : Nat) (l m : List UInt8) : moreC (moreC c l) m = moreC c (l ++ m) := by
  unfold moreC
  rw [notC_notC, runC_app]
theorem sumC_app (l m : List UInt8) : moreC (sumC l) m = sumC (l ++ m) := moreC_app 0 l m
theorem sumC_lt (l : List UInt8) : sumC l < 4294967296 := moreC_lt (by omega) l

theorem split_at (k x : Nat) : x = (x % 2 ^ k) ^^^ 2 ^ k * (x / 2 ^ k) := by
  apply Nat.eq_of_testBit_eq
  intro i
  by_cases hi : i < k
  · simp [Nat.testBit_xor, Nat.testBit_two_pow_mul, Nat.testBit_mod_two_pow, hi, show ¬ k ≤ i by omega]
  · have e : k ≤ i := by omega
    simp [Nat.testBit_xor, Nat.testBit_two_pow_mul, Nat.testBit_mod_two_pow, hi, e, Nat.testBit_div_two_pow]

/-- A byte, by the entry of its table. -/
theorem stepC_tab (c : Nat) (b : UInt8) : stepC c b = bitsC 8 ((c ^^^ b.toNat) % 256) ^^^ c / 256 := by
  have hb := b.toNat_lt
  unfold stepC
  obtain ⟨x, hx⟩ : ∃ x, x = c ^^^ b.toNat := ⟨_, rfl⟩
  rw [← hx]
  have h1 : x / 256 = c / 256 := by
    have := Nat.shiftRight_xor_distrib (a := c) (b := b.toNat) (i := 8)
    simp only [Nat.shiftRight_eq_div_pow] at this
    rw [hx]
    rw [show (256 : Nat) = 2 ^ 8 from rfl, this, show b.toNat / 2 ^ 8 = 0 by omega, Nat.xor_zero]
  have h2 : x = (x % 256) ^^^ 2 ^ 8 * (x / 256) := split_at 8 x
  have h3 : bitsC 8 x = bitsC 8 (x % 256) ^^^ x / 256 := by
    have h4 : bitsC 8 x = bitsC 8 ((x % 256) ^^^ 2 ^ 8 * (x / 256)) := by rw [← h2]
    rw [h4, bitsC_xor, bitsC_pow]
  rw [h3, h1]

/-- Bytes as one number, the lowest first. -/
def numL : List UInt8 → Nat
  | [] => 0
  | b :: l => b.toNat ^^^ 2 ^ 8 * numL l
theorem runC_num (l : List UInt8) : ∀ c, runC c l = bitsC (8 * l.length) (c ^^^ numL l) := by
  induction l with
  | nil => intro c; simp [runC, numL, bitsC]
  | cons b l ih =>
    intro c
    show runC (stepC c b) l = _
    rw [ih, numL, List.length_cons, show 8 * (l.length + 1) = 8 + 8 * l.length by omega, bitsC_add, ← Nat.xor_assoc, bitsC_xor 8, bitsC_pow]
    rfl
theorem numL_set (l : List UInt8) : ∀ (i : Nat) (x : UInt8), i < l.length → numL (l.set i (l.getD i 0 ^^^ x)) = numL l ^^^ 2 ^ (8 * i) * x.toNat := by
  induction l with
  | nil => intro i x h; simp at h
  | cons b l ih =>
    intro i x h
    cases i with
    | zero =>
      simp only [List.set_cons_zero, List.getD_cons_zero, numL, UInt8.toNat_xor, Nat.mul_zero, Nat.pow_zero, Nat.one_mul]
      rw [Nat.xor_assoc, Nat.xor_comm x.toNat, ← Nat.xor_assoc]
    | succ i =>
      simp only [List.set_cons_succ, List.getD_cons_succ, numL]
      rw [ih i x (by simpa using h), show 8 * (i + 1) = 8 + 8 * i by omega, Nat.pow_add, Nat.mul_assoc, mul_xor, Nat.xor_assoc]

theorem runC_lin (l l' : List UInt8) (hl : l'.length = l.length) (D c : Nat) (hn : numL l' = numL l ^^^ D) : runC c l' = runC c l ^^^ bitsC (8 * l.length) D := by
  rw [runC_num, runC_num, hl, hn, ← Nat.xor_assoc, bitsC_xor]
/-- Bits that are turned, all within 32 neighbouring ones, change the sum. -/
theorem burst (l l' : List UInt8) (hl : l'.length = l.length) (a E : Nat) (ha : a ≤ 8 * l.length) (hE : E < 4294967296) (h0 : E ≠ 0) (hn : numL l' = numL l ^^^ 2 ^ a * E) : sumC l' ≠ sumC l := by
  intro h
  unfold sumC moreC at h
  have h1 : runC (notC 0) l' = runC (notC 0) l := by rw [← notC_notC (runC (notC 0) l'), h, notC_notC]
  rw [runC_lin l l' hl _ _ hn] at h1
  have h2 : bitsC (8 * l.length) (2 ^ a * E) = 0 := by
    have := xor_xor (runC (notC 0) l) (bitsC (8 * l.length) (2 ^ a * E))
    rw [h1, Nat.xor_self] at this
    exact this.symm
  obtain ⟨d, hd⟩ : ∃ d, 8 * l.length = a + d := ⟨8 * l.length - a, by omega⟩
  rw [hd, bitsC_add, bitsC_pow] at h2
  exact bitsC_ne d hE h0 h2

theorem ofNat_inj {a b : Nat} (h : UInt8.ofNat a = UInt8.ofNat b) : a % 256 = b % 256 := by
  have := congrArg UInt8.toNat h
  simpa only [UInt8.toNat_ofNat'] using this
theorem four_inj {m n : Nat} (hm : m < 4294967296) (hn : n < 4294967296) (h : four m = four n) : m = n := by
  unfold four at h
  simp only [List.cons.injEq, and_true] at h
  obtain ⟨h1, h2, h3, h4⟩ := h
  have := ofNat_inj h1
  have := ofNat_inj h2
  have := ofNat_inj h3
  have := ofNat_inj h4
  omega
theorem checkC_app (q t : List UInt8) (ht : t.length = 4) : checkC (q ++ t) = if four (sumC q) = t then (q, true) else ([], false) := by
  unfold checkC
  have h1 : (q ++ t).length - 4 = q.length := by rw [List.length_append]; omega
  rw [if_neg (by rw [List.length_append]; omega), h1, List.take_left]
  unfold putC
  simp only [List.append_cancel_left_eq]
theorem checkC_put (p : List UInt8) : checkC (putC p) = (p, true) := by
  unfold putC
  rw [checkC_app _ _ rfl, if_pos rfl]
theorem checkC_turned (p q : List UInt8) (h : sumC q ≠ sumC p) : checkC (q ++ four (sumC p)) = ([], false) := by
  rw [checkC_app _ _ rfl, if_neg]
  intro h'
  exact h (four_inj (sumC_lt _) (sumC_lt _) h')

/-- The mask's next bit. -/
theorem mask_next (m k : Nat) : m % 2 ^ (k + 1) = (m % 2 ^ k) ^^^ 2 ^ k * (m / 2 ^ k % 2) := by
  apply Nat.eq_of_testBit_eq
  intro i
  rw [Nat.testBit_xor, Nat.testBit_mod_two_pow, Nat.testBit_mod_two_pow, Nat.testBit_two_pow_mul]
  have h2 : ∀ x j, (x % 2).testBit j = (decide (j < 1) && x.testBit j) := fun x j => Nat.testBit_mod_two_pow x 1 j
  rw [h2, Nat.testBit_div_two_pow]
  rcases Nat.lt_trichotomy i k with h | h | h
  · simp [h, show i < k + 1 by omega, show ¬ k ≤ i by omega]
  · subst h; simp
  · simp [show ¬ i < k by omega, show ¬ i < k + 1 by omega, show k ≤ i by omega, show ¬ i - k < 1 by omega]
theorem numL_turn (l : List UInt8) (a : Nat) (x : UInt8) (ha : a < 8 * l.length) (hx : x.toNat = 2 ^ (a % 8)) : numL (l.set (a / 8) (l.getD (a / 8) 0 ^^^ x)) = numL l ^^^ 2 ^ a := by
  rw [numL_set l _ _ (by omega), hx, ← Nat.pow_add, show 8 * (a / 8) + a % 8 = a by omega]

theorem putC_length (l : List UInt8) : (putC l).length = l.length + 4 := by
  unfold putC
  rw [List.length_append]
  rfl
theorem xor_ne {a x : UInt8} (h : x.toNat ≠ 0) : a ^^^ x ≠ a := by
  intro he
  have h1 : a.toNat ^^^ x.toNat = a.toNat := by rw [← UInt8.toNat_xor, he]
  have h2 := xor_xor a.toNat x.toNat
  rw [h1, Nat.xor_self] at h2
  exact h h2.symm
/-- A byte that is another one. -/
theorem byte_turned (l : List UInt8) (i : Nat) (x : UInt8) (hi : i < l.length + 4) (hx : x.toNat ≠ 0) : checkC ((putC l).set i ((putC l).getD i 0 ^^^ x)) = ([], false) := by
  unfold putC
  by_cases h : i < l.length
  · have e1 : (l ++ four (sumC l)).getD i 0 = l.getD i 0 := by
      simp [List.getD, List.getElem?_append, h]
    rw [e1, List.set_append_left _ _ h]
    apply checkC_turned
    have hb := x.toNat_lt
    exact burst l _ (by simp) (8 * i) x.toNat (by omega) (by omega) hx (numL_set l i x h)
  · have e1 : (l ++ four (sumC l)).getD i 0 = (four (sumC l)).getD (i - l.length) 0 := by
      simp [List.getD, List.getElem?_append, h]
    rw [e1, List.set_append_right _ _ (by omega), checkC_app _ _ (by simp [four]), if_neg]
    intro he
    have h4 : (four (sumC l)).length = 4 := rfl
    have h5 : (four (sumC l)).getD (i - l.length) 0 = ((four (sumC l)).set (i - l.length) ((four (sumC l)).getD (i - l.length) 0 ^^^ x)).getD (i - l.length) 0 := congrArg (fun t => t.getD (i - l.length) 0) he
    have h6 : ((four (sumC l)).set (i - l.length) ((four (sumC l)).getD (i - l.length) 0 ^^^ x)).getD (i - l.length) 0 = (four (sumC l)).getD (i - l.length) 0 ^^^ x := by
      rw [List.getD, List.getElem?_set_self (by omega)]
      rfl
    rw [h6] at h5
    exact xor_ne hx h5.symm
end Go.Proofs.Ytfgnniajancpcaa
