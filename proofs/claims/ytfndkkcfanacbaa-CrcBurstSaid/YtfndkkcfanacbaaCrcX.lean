/-
  The walks of the laws CrcByte, CrcBurst.
-/
import Derived.Test.YtfndkkcfanacbaaCrcW
namespace Go.Proofs.Ytfndkkcfanacbaa
open Go.RowKit
set_option linter.unusedVariables false
set_option linter.unusedSimpArgs false

theorem i64_wrap (x : Int) (h0 : -9223372036854775808 ≤ x) (h1 : x ≤ 9223372036854775807) : wrap64 x = x := by
  unfold wrap64
  omega

set_option maxRecDepth 100000 in
set_option maxHeartbeats 1000000 in
theorem walkByte_out (v : Value) (l : List UInt8) (at' : Int) (x : UInt8) (w : World) (h : Byt w v l) (h1 : -9223372036854775808 ≤ at') (h2 : at' ≤ 9223372036854775807)
    (ho : 3000 < l.length ∨ at' < 0 ∨ (l.length : Int) + 4 ≤ at' ∨ x.toNat = 0) :
    Calls Try.prog 7 #[v, .int .i64 at', .int .u8 (x.toNat : Int)] w fun e w' => e = .returned (.bool true) ∧ Grows w w' := by
  obtain ⟨a, cap, rfl⟩ := h.slice
  clear h
  by_cases c1 : (3000 : Int) < (l.length : Int)
  · clear ho
    go_enter Try.func7, Try.ntmps7
    go_wp2_with (go_at_call 8; refine (live_any _).mono ?_; rintro e w4 ⟨rfl, hg4⟩)
    go_ret
    exact ⟨rfl, hg4⟩
  · by_cases c2 : at' < 0
    · clear ho
      go_enter Try.func7, Try.ntmps7
      go_wp2_with (go_at_call 8; refine (live_any _).mono ?_; rintro e w4 ⟨rfl, hg4⟩)
      go_ret
      exact ⟨rfl, hg4⟩
    · have hw : wrap64 (at' - (l.length : Int)) = at' - (l.length : Int) := i64_wrap _ (by omega) (by omega)
      by_cases c3 : (l.length : Int) ≤ at'
      · by_cases c4 : 4 ≤ at' - (l.length : Int)
        · clear ho
          go_enter Try.func7, Try.ntmps7
          go_wp2_with (go_at_call 8; refine (live_any _).mono ?_; rintro e w4 ⟨rfl, hg4⟩)
          go_ret
          exact ⟨rfl, hg4⟩
        · have c5 : ((x.toNat : Int) == 0) = true := by rw [beq_iff_eq]; omega
          clear ho
          go_enter Try.func7, Try.ntmps7
          go_wp2_with (go_at_call 8; refine (live_any _).mono ?_; rintro e w4 ⟨rfl, hg4⟩)
          go_ret
          exact ⟨rfl, hg4⟩
      · have c5 : ((x.toNat : Int) == 0) = true := by rw [beq_iff_eq]; omega
        clear ho
        go_enter Try.func7, Try.ntmps7
        go_wp2_with (go_at_call 8; refine (live_any _).mono ?_; rintro e w4 ⟨rfl, hg4⟩)
        go_ret
        exact ⟨rfl, hg4⟩

set_option maxRecDepth 100000 in
set_option maxHeartbeats 2000000 in
theorem walkByte_in (v : Value) (l : List UInt8) (i : Nat) (x : UInt8) (w : World) (h : Byt w v l) (hl : l.length ≤ 3000) (hi4 : i < l.length + 4) (hx : x.toNat ≠ 0) :
    Calls Try.prog 7 #[v, .int .i64 (i : Int), .int .u8 (x.toNat : Int)] w fun e w' => e = .returned (.bool true) ∧ Grows w w' := by
  obtain ⟨i0, hi, hz0, hz1, hz2⟩ := info_parts info5
  have H := Lib.hid h
  obtain ⟨a, cap, rfl⟩ := h.slice
  clear h
  have c1 : ¬ (3000 : Int) < (l.length : Int) := by omega
  have c2 : ¬ (i : Int) < 0 := by omega
  have hw : wrap64 ((i : Int) - (l.length : Int)) = (i : Int) - (l.length : Int) := i64_wrap _ (by omega) (by omega)
  have hw2 : wrap64 ((l.length : Int) + 4) = (l.length : Int) + 4 := i64_wrap _ (by omega) (by omega)
  have c4 : ¬ 4 ≤ (i : Int) - (l.length : Int) := by omega
  have c5 : ((x.toNat : Int) == 0) = false := by rw [beq_eq_false_iff_ne]; omega
  obtain ⟨B, HB⟩ : ∃ B, Hid (B = putC l) := ⟨_, rfl⟩
  have hBl : B.length = l.length + 4 := by rw [HB.out, putC_length]
  have tl : ((B.length : Int) != (l.length : Int) + 4) = false := by rw [bne_eq_false_iff_eq]; omega
  have hiB : i < B.length := by omega
  have HC : Hid (checkC B = (l, true)) := by show _ = _; rw [HB.out, checkC_put]
  have HT : Hid (checkC (B.set i (B.getD i 0 ^^^ x)) = ([], false)) := by show _ = _; rw [HB.out]; exact byte_turned l i x hi4 hx
  have Hlen : Hid (B.length ≤ 4000) := by show B.length ≤ 4000; omega
  obtain ⟨y, Hy⟩ : ∃ y, Hid (B.getD i 0 = y) := ⟨_, rfl⟩
  rw [Hy.out] at HT
  have hyx : bits BinOp.xor IntKind.u8 (y.toNat : Int) (x.toNat : Int) = ((y ^^^ x).toNat : Int) := by
    rw [UInt8.toNat_xor]
    exact u8_xor_nat _ _ y.toNat_lt x.toNat_lt
  have hyb := y.toNat_lt
  have hxb := x.toNat_lt
  have HBl := Lib.hid hBl
  have Hl3 := Lib.hid hl
  clear hx hi4 hBl hl
  by_cases c3 : (l.length : Int) ≤ (i : Int)
  all_goals
    go_enter Try.func7, Try.ntmps7
    go_wp2_with fail
    refine (vPutC _ l _ H.out (by have := Hl3.out; omega)).mono ?_
    rw [← HB.out]
    rintro e w1 ⟨v1, rfl, ho1, hg1⟩
    have HG1 := Lib.hid hg1
    obtain ⟨a1, c1', rfl⟩ := ho1.byt.slice
    have Hb1 := Lib.hid ho1.byt
    clear ho1 hg1
    go_wp2_with fail
    refine (vCheckC _ B _ Hb1.out (by have := Hlen.out; omega)).mono ?_
    rw [HC.out]
    rintro e w2 ⟨v2, rfl, hb2, hg2⟩
    have HG2 := Lib.hid (Grows.trans' HG1.out hg2)
    have Hb1' := Lib.hid (Hb1.out.grows hg2)
    have Hp := Lib.hid (H.out.grows (Grows.trans' HG1.out hg2))
    obtain ⟨a2, c2', rfl⟩ := hb2.slice
    have Hb2 := Lib.hid hb2
    clear hg2 hb2
    go_wp2_with (first
      | (refine wpList_conv rfl _ 22 5 9 rfl rfl rfl rfl (.slice a2 l.length c2') l rfl Hb2.out ?_)
      | (refine wpList_conv rfl _ 22 5 9 rfl rfl rfl rfl (.slice a l.length cap) l rfl Hp.out ?_)
      | (at_builtin; refine wpList_app rfl _ _ 22 5 i0 rfl Try.underlying22 hi hz0 hz1 hz2 w.heap.size _ _ [] B rfl (Own.empty _ _ _ HG2.out.size) rfl (Hb1'.out.grows (Grows.alloc' _ _)) (by have := Hlen.out; simp; omega) (by have := HG2.out.size; simp; omega) ?_; intro v3 w3 hown3 hgrow3; have HG3 := Lib.hid (grows_app (HG2.out.alloc HG2.out.size _) (Own.empty 5 _ _ HG2.out.size) (by have := HG2.out.size; simp; omega) hgrow3); have hown3' : Own 5 w.heap.size w3 v3 B := (by simpa using hown3); obtain ⟨g3, k3, hv3, hgB⟩ := hown3'.form (by omega); subst hv3; have hck := hown3'.cell i hiB; rw [Hy.out] at hck; unfold bv at hck; have hfz := hown3'.unfrozen i; have HO3 := Lib.hid hown3'; have HgB := Lib.hid hgB; clear hown3 hown3' hgrow3 hgB))
    have hb4 : Byt (w3.setCell ⟨g3, i, none⟩ (.int .u8 ((y ^^^ x).toNat : Int))) (.slice (some ⟨g3, 0, none⟩) B.length k3) (B.set i (y ^^^ x)) := (HO3.out.store i (y ^^^ x)).byt
    have HG4 : Hid (Grows w (w3.setCell ⟨g3, i, none⟩ (.int .u8 ((y ^^^ x).toNat : Int)))) := HG3.out.setCell HgB.out _
    clear hck hfz
    refine (vCheckC _ (B.set i (y ^^^ x)) _ hb4 (by rw [List.length_set]; have := Hlen.out; omega)).mono ?_
    rw [HT.out]
    rintro e w5 ⟨v5, rfl, hb5, hg5⟩
    have HG5 := Lib.hid (Grows.trans' HG4.out hg5)
    clear hb4 hb5 hg5
    go_wp2_with (go_at_call 8; refine (live_any _).mono ?_; rintro e w6 ⟨rfl, hg6⟩)
    go_ret
    exact ⟨rfl, Grows.trans' HG5.out hg6⟩

theorem walkBurst_out (v : Value) (l : List UInt8) (at' : Int) (m : Nat) (w : World) (h : Byt w v l) (h1 : -9223372036854775808 ≤ at') (h2 : at' ≤ 9223372036854775807)
    (ho : 3000 < l.length ∨ at' < 0 ∨ 8 * (l.length : Int) ≤ at' ∨ m = 0) :
    Calls Try.prog 6 #[v, .int .i64 at', .int .u32 (m : Int)] w fun e w' => e = .returned (.bool true) ∧ Grows w w' := by
  obtain ⟨a, cap, rfl⟩ := h.slice
  clear h
  by_cases c1 : (3000 : Int) < (l.length : Int)
  · clear ho
    go_enter Try.func6, Try.ntmps6
    go_wp2_with (go_at_call 8; refine (live_any _).mono ?_; rintro e w4 ⟨rfl, hg4⟩)
    go_ret
    exact ⟨rfl, hg4⟩
  · have hw : wrap64 (8 * (l.length : Int)) = 8 * (l.length : Int) := i64_wrap _ (by omega) (by omega)
    by_cases c2 : at' < 0
    · clear ho
      go_enter Try.func6, Try.ntmps6
      go_wp2_with (go_at_call 8; refine (live_any _).mono ?_; rintro e w4 ⟨rfl, hg4⟩)
      go_ret
      exact ⟨rfl, hg4⟩
    · by_cases c3 : 8 * (l.length : Int) ≤ at'
      · clear ho
        go_enter Try.func6, Try.ntmps6
        go_wp2_with (go_at_call 8; refine (live_any _).mono ?_; rintro e w4 ⟨rfl, hg4⟩)
        go_ret
        exact ⟨rfl, hg4⟩
      · obtain rfl : m = 0 := by omega
        clear ho
        go_enter Try.func6, Try.ntmps6
        go_wp2_with (go_at_call 8; refine (live_any _).mono ?_; rintro e w4 ⟨rfl, hg4⟩)
        go_ret
        exact ⟨rfl, hg4⟩

theorem i64_wrap' (n : Nat) (h : n < 9223372036854775808) : IntKind.i64.wrap (n : Int) = (n : Int) := by rw [IntWalk.i64_in _ (by omega)]
theorem i64_wrap_nat (n : Nat) (h : n < 3000) : wrap64 (n : Int) = (n : Int) := i64_wrap _ (by omega) (by omega)
theorem u8_pow (r : Nat) (hr8 : r < 8) : IntKind.u8.wrap ((2 : Int) ^ r) = ((UInt8.ofNat (2 ^ r)).toNat : Int) ∧ (UInt8.ofNat (2 ^ r)).toNat = 2 ^ r := by
  have key : ∀ x : Fin 8, IntKind.u8.wrap ((2 : Int) ^ x.val) = ((UInt8.ofNat (2 ^ x.val)).toNat : Int) ∧ (UInt8.ofNat (2 ^ x.val)).toNat = 2 ^ x.val := by decide +kernel
  exact key ⟨r, hr8⟩
theorem burst_facts (l L s : List UInt8) (i j k m : Nat) (hj : i + k = j) (hjl : j < 8 * l.length) (hLl : L.length = l.length) (HN : numL L = numL l ^^^ 2 ^ i * (m % 2 ^ k)) (hbit : m / 2 ^ k % 2 = 1) :
    ∃ (q r : Nat) (d y : UInt8), j / 8 = q ∧ j % 8 = r ∧ r < 8 ∧ q < l.length ∧ (L ++ s).getD q 0 = y ∧ IntKind.u8.wrap ((2 : Int) ^ r) = (d.toNat : Int) ∧
      (L.set q (y ^^^ d)) ++ s = (L ++ s).set q (y ^^^ d) ∧ numL (L.set q (y ^^^ d)) = numL l ^^^ 2 ^ i * (m % 2 ^ (k + 1)) ∧ m % 2 ^ (k + 1) ≠ 0 := by
  have hqL : j / 8 < L.length := by omega
  have hr8 : j % 8 < 8 := Nat.mod_lt _ (by omega)
  obtain ⟨h1, h2⟩ := u8_pow (j % 8) hr8
  have hy : (L ++ s).getD (j / 8) 0 = L.getD (j / 8) 0 := by
    rw [List.getD_eq_getElem?_getD, List.getElem?_append_left hqL, ← List.getD_eq_getElem?_getD]
  have hx := mask_next m k
  rw [hbit, Nat.mul_one] at hx
  have h3 := numL_turn L j (UInt8.ofNat (2 ^ (j % 8))) (by omega) h2
  refine ⟨j / 8, j % 8, _, _, rfl, rfl, hr8, by omega, hy, h1, (List.set_append_left _ _ hqL).symm, ?_, ?_⟩
  · rw [h3, HN, hx, mul_xor, ← Nat.pow_add, hj, Nat.xor_assoc]
  · have h4 := Nat.mod_pow_succ (x := m) (b := 2) (k := k)
    rw [hbit, Nat.mul_one] at h4
    have := Nat.two_pow_pos k
    omega

set_option maxRecDepth 100000 in
set_option maxHeartbeats 2000000 in
theorem walkBurst_in (v : Value) (l : List UInt8) (i m : Nat) (w : World) (h : Byt w v l) (hl : l.length ≤ 3000) (hi8 : i < 8 * l.length) (hm0 : m ≠ 0) (hm : m < 4294967296) :
    Calls Try.prog 6 #[v, .int .i64 (i : Int), .int .u32 (m : Int)] w fun e w' => e = .returned (.bool true) ∧ Grows w w' := by
  have hmx : Try.prog.follows .mixedOrders = true := by kernel_rfl
  have H := Lib.hid h
  obtain ⟨a, cap, rfl⟩ := h.slice
  clear h
  have c1 : ¬ (3000 : Int) < (l.length : Int) := by omega
  have c2 : ¬ (i : Int) < 0 := by omega
  have hw : wrap64 (8 * (l.length : Int)) = 8 * (l.length : Int) := i64_wrap _ (by omega) (by omega)
  have hw2 : wrap64 ((l.length : Int) + 4) = (l.length : Int) + 4 := i64_wrap _ (by omega) (by omega)
  have c3 : ¬ 8 * (l.length : Int) ≤ (i : Int) := by omega
  have c5 : ((m : Int) == 0) = false := by rw [beq_eq_false_iff_ne]; omega
  obtain ⟨B, HB⟩ : ∃ B, Hid (B = putC l) := ⟨_, rfl⟩
  have hBl : B.length = l.length + 4 := by rw [HB.out, putC_length]
  have tl : ((B.length : Int) != (l.length : Int) + 4) = false := by rw [bne_eq_false_iff_eq]; omega
  have HBl := Lib.hid hBl
  have Hl3 := Lib.hid hl
  have Hm := Lib.hid hm
  have Hi8 := Lib.hid hi8
  clear hm0 hBl hm hi8
  go_enter Try.func6, Try.ntmps6
  go_wp2_with fail
  refine (vPutC _ l _ H.out (by have := Hl3.out; omega)).mono ?_
  rw [← HB.out]
  rintro e w1 ⟨v1, rfl, ho1, hg1⟩
  obtain ⟨g, kb, hv1, hgB⟩ := ho1.form (by have := HBl.out; omega)
  subst hv1
  have HG1 := Lib.hid hg1
  have HO1 := Lib.hid ho1
  have HgB := Lib.hid hgB
  clear ho1 hg1 hgB
  go_wp2_with fail
  clear c1 c2 c3 c5 tl hw2 hl
  go_loopw [1, 8, 9] (fun t1 t8 t9 wr => ∃ (k : Nat) (t : Bool) (L : List UInt8), k ≤ 32 ∧ i + k ≤ 8 * l.length ∧ t9 = .int .i64 k ∧ t1 = .int .i64 ((i + k : Nat) : Int) ∧ t8 = .bool t ∧ Hid (t = true ↔ m % 2 ^ k ≠ 0) ∧ L.length = l.length ∧ Hid (numL L = numL l ^^^ 2 ^ i * (m % 2 ^ k)) ∧ Own 5 w.heap.size wr (.slice (some ⟨g, 0, none⟩) B.length kb) (L ++ four (sumC l)) ∧ Grows w wr)
    (fun _ _ t9 _ => 32 - (intOf t9).toNat)
  case atStart => exact ⟨0, false, l, by omega, by have := Hi8.out; omega, rfl, rfl, rfl, (by show _ ↔ _; simp [Nat.mod_one]), rfl, (by show _ = _; simp [Nat.mod_one]), by have := HO1.out; rw [HB.out] at this ⊢; exact this, HG1.out⟩
  case round =>
    obtain ⟨k, t, L, hk, hik, rfl, rfl, rfl, Ht, hLl, HN, hown, hB⟩ := hrel
    obtain ⟨j, hj⟩ : ∃ j, i + k = j := ⟨_, rfl⟩
    rw [hj] at hik ⊢
    by_cases hlt : k < 32 ∧ j < 8 * l.length
    · obtain ⟨hl1, hl2⟩ := hlt
      have hjI : (j : Int) < 8 * (l.length : Int) := by omega
      have hkI : (k : Int) < 32 := by omega
      have hw3 : wrap64 ((j : Int) + 1) = (j : Int) + 1 := i64_wrap _ (by omega) (by have := Hl3.out; omega)
      have hand : bits BinOp.and IntKind.u32 ((m : Int) / 2 ^ k) 1 = ((m / 2 ^ k % 2 : Nat) : Int) := by
        have h1 := u32_and_nat (m / 2 ^ k) 1 (Nat.lt_of_le_of_lt (Nat.div_le_self _ _) Hm.out) (by omega)
        rw [Nat.and_one_is_mod] at h1
        rw [← h1]
        simp
      have hnext := Nat.mod_pow_succ (x := m) (b := 2) (k := k)
      by_cases hbit : m / 2 ^ k % 2 = 1
      · have e54 : (bits BinOp.and IntKind.u32 ((m : Int) / 2 ^ k) 1 == 1) = true := by rw [hand, hbit]; rfl
        obtain ⟨q, r, d, y, hq, hr, hr8, hql, hyB, hsh, hrest⟩ := burst_facts l L (four (sumC l)) i j k m hj hl2 hLl HN.out hbit
        have Hrest := Lib.hid hrest
        have Hsh := Lib.hid hsh
        have He54 := Lib.hid e54
        clear hnext hand hbit hrest HN Ht hsh e54
        have hcy := hown.cell q (by rw [List.length_append, hLl]; exact Nat.lt_add_right _ hql)
        rw [hyB] at hcy
        unfold bv at hcy
        have hfy := hown.unfrozen q
        have hqt : (j : Int).tdiv 8 = (q : Int) := by rw [Int.tdiv_eq_ediv_of_nonneg (by omega)]; omega
        have hrt : (j : Int).tmod 8 = (r : Int) := by rw [Int.tmod_eq_emod_of_nonneg (by omega)]; omega
        have hqw' := i64_wrap' q (by have := Hl3.out; omega)
        have hrw' := i64_wrap' r (by omega)
        have hqB : q < B.length := by have := HBl.out; omega
        have hqBi : (q : Int) < (B.length : Int) := by omega
        have hq0 : (0 : Int) ≤ (q : Int) := by omega
        have hr0 : (0 : Int) ≤ (r : Int) := by omega
        have hr64 : (r : Int) ≤ 64 := by omega
        have hyd : bits BinOp.xor IntKind.u8 (y.toNat : Int) (d.toNat : Int) = ((y ^^^ d).toNat : Int) := by
          rw [UInt8.toNat_xor]
          exact u8_xor_nat _ _ y.toNat_lt d.toNat_lt
        have Hown := Lib.hid hown
        have HB' := Lib.hid hB
        have Hqq : Hid (q < 3000) := by show q < 3000; have := Hl3.out; omega
        have hsh := Hsh.out
        have e54 := He54.out
        have hqw : wrap64 (q : Int) = (q : Int) := i64_wrap_nat q Hqq.out
        clear hyB hq hr hown hB hl1 hl2
        go_wp2_with fail
        clear e54
        refine specs_last 13
          #[[], [], [1], [], [], [4], [3, 4, 5], [3, 4, 5, 6], [], [8], [8, 9], [3, 4, 5, 6, 7, 8, 9, 10], [0, 1, 2, 3, 4, 5, 6, 7, 8, 9, 10, 11], [0, 1, 2, 3, 4, 5, 6, 7, 8, 9, 10, 11, 12]] #[[7], [1], [], [7], [1], [], [], [], [1], [], [], [], [], []] #[true, true, true, true, true, true, true, true, true, true, true, true, true, true] #[.val (.slice (some ⟨g, 0, none⟩) B.length kb), .val (.int .i64 (j : Int)), .val (.int .i64 (q : Int)), .val (.slice (some ⟨g, 0, none⟩) B.length kb), .val (.int .i64 (j : Int)), .val (.int .i64 (q : Int)), .val (.pointer (some ⟨g, q, none⟩)), .val (.int .u8 (y.toNat : Int)), .val (.int .i64 (j : Int)), .val (.int .i64 (r : Int)), .val (.int .u8 (d.toNat : Int)), .val (.int .u8 ((y ^^^ d).toNat : Int)), .val (.pointer (some ⟨g, q, none⟩)), .any] hmx ?_ ?_ rfl ?_ ?_
        · rfl
        · rfl
        · refine ⟨?_, ?_, ?_, ?_, ?_, ?_, ?_, ?_, ?_, ?_, ?_, ?_, ?_, ?_, trivial⟩
          · refine step_intro rfl rfl fun ρ X hc hf hgl hX hp ho => ?_
            have k7 : ρ (.tmp 7) = .slice (some ⟨g, 0, none⟩) B.length kb := ho 7 (by decide)
            refine StepOk.of_run (v := .slice (some ⟨g, 0, none⟩) B.length kb) (w' := X) ?_ ⟨rfl, Below.refl _ _⟩
            simp [go_sem, execOp, hc, k7]
          · refine step_intro rfl rfl fun ρ X hc hf hgl hX hp ho => ?_
            have k1 : ρ (.tmp 1) = .int .i64 (j : Int) := ho 1 (by decide)
            refine StepOk.of_run (v := .int .i64 (j : Int)) (w' := X) ?_ ⟨rfl, Below.refl _ _⟩
            simp [go_sem, execOp, hc, k1]
          · refine step_intro rfl rfl fun ρ X hc hf hgl hX hp ho => ?_
            have k56 : ρ (.tmp 56) = .int .i64 (j : Int) := hp 1 (by decide)
            refine StepOk.of_run (v := .int .i64 (q : Int)) (w' := X) ?_ ⟨rfl, Below.refl _ _⟩
            simp [go_sem, execOp, hc, k56, hqt, hqw, hqw']
          · refine step_intro rfl rfl fun ρ X hc hf hgl hX hp ho => ?_
            have k7 : ρ (.tmp 7) = .slice (some ⟨g, 0, none⟩) B.length kb := ho 7 (by decide)
            refine StepOk.of_run (v := .slice (some ⟨g, 0, none⟩) B.length kb) (w' := X) ?_ ⟨rfl, Below.refl _ _⟩
            simp [go_sem, execOp, hc, k7]
          · refine step_intro rfl rfl fun ρ X hc hf hgl hX hp ho => ?_
            have k1 : ρ (.tmp 1) = .int .i64 (j : Int) := ho 1 (by decide)
            refine StepOk.of_run (v := .int .i64 (j : Int)) (w' := X) ?_ ⟨rfl, Below.refl _ _⟩
            simp [go_sem, execOp, hc, k1]
          · refine step_intro rfl rfl fun ρ X hc hf hgl hX hp ho => ?_
            have k59 : ρ (.tmp 59) = .int .i64 (j : Int) := hp 4 (by decide)
            refine StepOk.of_run (v := .int .i64 (q : Int)) (w' := X) ?_ ⟨rfl, Below.refl _ _⟩
            simp [go_sem, execOp, hc, k59, hqt, hqw, hqw']
          · refine step_intro rfl rfl fun ρ X hc hf hgl hX hp ho => ?_
            have k58 : ρ (.tmp 58) = .slice (some ⟨g, 0, none⟩) B.length kb := hp 3 (by decide)
            have k60 : ρ (.tmp 60) = .int .i64 (q : Int) := hp 5 (by decide)
            refine StepOk.of_run (v := .pointer (some ⟨g, q, none⟩)) (w' := X) ?_ ⟨rfl, Below.refl _ _⟩
            simp [go_sem, execOp, hc, k58, k60, hqB, hqBi, hq0]
          · refine step_intro rfl rfl fun ρ X hc hf hgl hX hp ho => ?_
            have k61 : ρ (.tmp 61) = .pointer (some ⟨g, q, none⟩) := hp 6 (by decide)
            have hcX := Grows.cell' (p := ⟨g, q, none⟩) hX hcy
            refine StepOk.of_run (v := .int .u8 (y.toNat : Int)) (w' := X) ?_ ⟨rfl, Below.refl _ _⟩
            simp [go_sem, execOp, k61, hcX]
          · refine step_intro rfl rfl fun ρ X hc hf hgl hX hp ho => ?_
            have k1 : ρ (.tmp 1) = .int .i64 (j : Int) := ho 1 (by decide)
            refine StepOk.of_run (v := .int .i64 (j : Int)) (w' := X) ?_ ⟨rfl, Below.refl _ _⟩
            simp [go_sem, execOp, hc, k1]
          · refine step_intro rfl rfl fun ρ X hc hf hgl hX hp ho => ?_
            have k63 : ρ (.tmp 63) = .int .i64 (j : Int) := hp 8 (by decide)
            refine StepOk.of_run (v := .int .i64 (r : Int)) (w' := X) ?_ ⟨rfl, Below.refl _ _⟩
            simp [go_sem, execOp, hc, k63, hrt, hrw']
          · refine step_intro rfl rfl fun ρ X hc hf hgl hX hp ho => ?_
            have k64 : ρ (.tmp 64) = .int .i64 (r : Int) := hp 9 (by decide)
            refine StepOk.of_run (v := .int .u8 (d.toNat : Int)) (w' := X) ?_ ⟨rfl, Below.refl _ _⟩
            simp [go_sem, execOp, hc, k64, hr0, hr64, hsh]
          · refine step_intro rfl rfl fun ρ X hc hf hgl hX hp ho => ?_
            have k62 : ρ (.tmp 62) = .int .u8 (y.toNat : Int) := hp 7 (by decide)
            have k65 : ρ (.tmp 65) = .int .u8 (d.toNat : Int) := hp 10 (by decide)
            refine StepOk.of_run (v := .int .u8 ((y ^^^ d).toNat : Int)) (w' := X) ?_ ⟨rfl, Below.refl _ _⟩
            simp [go_sem, execOp, hc, k62, k65, hyd]
          · refine step_intro rfl rfl fun ρ X hc hf hgl hX hp ho => ?_
            have k55 : ρ (.tmp 55) = .slice (some ⟨g, 0, none⟩) B.length kb := hp 0 (by decide)
            have k57 : ρ (.tmp 57) = .int .i64 (q : Int) := hp 2 (by decide)
            refine StepOk.of_run (v := .pointer (some ⟨g, q, none⟩)) (w' := X) ?_ ⟨rfl, Below.refl _ _⟩
            simp [go_sem, execOp, hc, k55, k57, hqB, hqBi, hq0]
          · exact last_intro rfl
        · intro a0 X hb
          have hsl : Slots a0.tmps 0 ((.slice a l.length cap) :: (.int .i64 (j : Int)) :: (.int .u32 (m : Int)) :: (undef) :: (undef) :: (undef) :: (.bool false) :: (.slice (some ⟨g, 0, none⟩) B.length kb) :: (.bool t) :: (.int .i64 (k : Int)) :: (undef) :: (undef) :: (.slice a l.length cap) :: (.int .i64 (l.length : Int)) :: (.bool false) :: (.bool false) :: (.int .i64 (i : Int)) :: (.bool false) :: (.bool false) :: (.bool false) :: (.int .i64 (i : Int)) :: (.slice a l.length cap) :: (.int .i64 (l.length : Int)) :: (.int .i64 (8 * (l.length : Int))) :: (.bool false) :: (.bool false) :: (.bool false) :: (.int .u32 (m : Int)) :: (.bool false) :: (.bool false) :: (undef) :: (.slice a l.length cap) :: (.slice (some ⟨g, 0, none⟩) B.length kb) :: (.slice (some ⟨g, 0, none⟩) B.length kb) :: (.int .i64 (B.length : Int)) :: (.slice a l.length cap) :: (.int .i64 (l.length : Int)) :: (.int .i64 ((l.length : Int) + 4)) :: (.bool false) :: (a0.tmps.getD 39 undef) :: (a0.tmps.getD 40 undef) :: (a0.tmps.getD 41 undef) :: (a0.tmps.getD 42 undef) :: (a0.tmps.getD 43 undef) :: (a0.tmps.getD 44 undef) :: (a0.tmps.getD 45 undef) :: (a0.tmps.getD 46 undef) :: (a0.tmps.getD 47 undef) :: (a0.tmps.getD 48 undef) :: (a0.tmps.getD 49 undef) :: (a0.tmps.getD 50 undef) :: (a0.tmps.getD 51 undef) :: (a0.tmps.getD 52 undef) :: (a0.tmps.getD 53 undef) :: (a0.tmps.getD 54 undef) :: (.slice (some ⟨g, 0, none⟩) B.length kb) :: (.int .i64 (j : Int)) :: (.int .i64 (q : Int)) :: (.slice (some ⟨g, 0, none⟩) B.length kb) :: (.int .i64 (j : Int)) :: (.int .i64 (q : Int)) :: (.pointer (some ⟨g, q, none⟩)) :: (.int .u8 (y.toNat : Int)) :: (.int .i64 (j : Int)) :: (.int .i64 (r : Int)) :: (.int .u8 (d.toNat : Int)) :: (.int .u8 ((y ^^^ d).toNat : Int)) :: (.pointer (some ⟨g, q, none⟩)) :: (a0.tmps.getD 68 undef) :: (a0.tmps.getD 69 undef) :: (undef) :: (undef) :: (undef) :: (undef) :: (undef) :: (undef) :: (undef) :: (undef) :: (undef) :: (undef) :: (undef) :: (undef) :: (undef) :: (undef) :: []) := ⟨hb.orig' 0 rfl, hb.orig' 1 rfl, hb.orig' 2 rfl, hb.orig' 3 rfl, hb.orig' 4 rfl, hb.orig' 5 rfl, hb.orig' 6 rfl, hb.orig' 7 rfl, hb.orig' 8 rfl, hb.orig' 9 rfl, hb.orig' 10 rfl, hb.orig' 11 rfl, hb.orig' 12 rfl, hb.orig' 13 rfl, hb.orig' 14 rfl, hb.orig' 15 rfl, hb.orig' 16 rfl, hb.orig' 17 rfl, hb.orig' 18 rfl, hb.orig' 19 rfl, hb.orig' 20 rfl, hb.orig' 21 rfl, hb.orig' 22 rfl, hb.orig' 23 rfl, hb.orig' 24 rfl, hb.orig' 25 rfl, hb.orig' 26 rfl, hb.orig' 27 rfl, hb.orig' 28 rfl, hb.orig' 29 rfl, hb.orig' 30 rfl, hb.orig' 31 rfl, hb.orig' 32 rfl, hb.orig' 33 rfl, hb.orig' 34 rfl, hb.orig' 35 rfl, hb.orig' 36 rfl, hb.orig' 37 rfl, hb.orig' 38 rfl, rfl, rfl, rfl, rfl, rfl, rfl, rfl, rfl, rfl, rfl, rfl, rfl, rfl, rfl, rfl, rfl, hb.done' 0 55 rfl rfl, hb.done' 1 56 rfl rfl, hb.done' 2 57 rfl rfl, hb.done' 3 58 rfl rfl, hb.done' 4 59 rfl rfl, hb.done' 5 60 rfl rfl, hb.done' 6 61 rfl rfl, hb.done' 7 62 rfl rfl, hb.done' 8 63 rfl rfl, hb.done' 9 64 rfl rfl, hb.done' 10 65 rfl rfl, hb.done' 11 66 rfl rfl, hb.done' 12 67 rfl rfl, rfl, rfl, hb.orig' 70 rfl, hb.orig' 71 rfl, hb.orig' 72 rfl, hb.orig' 73 rfl, hb.orig' 74 rfl, hb.orig' 75 rfl, hb.orig' 76 rfl, hb.orig' 77 rfl, hb.orig' 78 rfl, hb.orig' 79 rfl, hb.orig' 80 rfl, hb.orig' 81 rfl, hb.orig' 82 rfl, hb.orig' 83 rfl, trivial⟩
          have hfr := frame_eq hsl (hb.size.trans rfl) hb.defers
          have hcX := Grows.cell' (p := ⟨g, q, none⟩) hb.ext hcy
          have hfX : X.frozen? ⟨g, q, none⟩ = false := (hb.ext.frozen (p := ⟨g, q, none⟩) (World.block_lt_of_cell? _ _ hcy)).trans hfy
          have HX := Lib.hid hb.ext
          clear hb hsl hcy hfy
          generalize a0.tmps.getD 39 undef = z39 at hfr
          generalize a0.tmps.getD 40 undef = z40 at hfr
          generalize a0.tmps.getD 41 undef = z41 at hfr
          generalize a0.tmps.getD 42 undef = z42 at hfr
          generalize a0.tmps.getD 43 undef = z43 at hfr
          generalize a0.tmps.getD 44 undef = z44 at hfr
          generalize a0.tmps.getD 45 undef = z45 at hfr
          generalize a0.tmps.getD 46 undef = z46 at hfr
          generalize a0.tmps.getD 47 undef = z47 at hfr
          generalize a0.tmps.getD 48 undef = z48 at hfr
          generalize a0.tmps.getD 49 undef = z49 at hfr
          generalize a0.tmps.getD 50 undef = z50 at hfr
          generalize a0.tmps.getD 51 undef = z51 at hfr
          generalize a0.tmps.getD 52 undef = z52 at hfr
          generalize a0.tmps.getD 53 undef = z53 at hfr
          generalize a0.tmps.getD 54 undef = z54 at hfr
          generalize a0.tmps.getD 68 undef = z68 at hfr
          generalize a0.tmps.getD 69 undef = z69 at hfr
          subst hfr
          change StepOk _ { dst := none, op := Op.store 5 (Operand.tmp 67) (Operand.tmp 66), type := _, pos := _, after := _, guard := _ } _ _ _
          unfold StepOk
          simp [go_sem, execOp, hcX, hfX]
          go_wp2
          clear hqw hsh hqw' hrw' hyd hqt hrt hcX hfX
          go_roundw
          case rel =>
            exact ⟨k + 1, true, L.set q (y ^^^ d), by omega, by omega, by simp, by rw [hw3]; simp; omega, rfl, (by show _ ↔ _; exact ⟨fun _ => Hrest.out.2.2, fun _ => rfl⟩), by rw [List.length_set]; exact hLl, Hrest.out.2.1, by rw [Hrest.out.1]; have h9 := (Hown.out.grows HX.out).store q (y ^^^ d); unfold bv at h9; rw [UInt8.toNat_xor] at h9; exact h9, (Grows.trans' HB'.out HX.out).setCell HgB.out _⟩
          case measure => simp [intOf]; omega
      · have e54 : (bits BinOp.and IntKind.u32 ((m : Int) / 2 ^ k) 1 == 1) = false := by
          rw [hand, beq_eq_false_iff_ne]
          omega
        have h0 : m / 2 ^ k % 2 = 0 := by omega
        rw [h0, Nat.mul_zero, Nat.add_zero] at hnext
        have Hown := Lib.hid hown
        have HB' := Lib.hid hB
        clear hand hbit h0 hown hB
        go_wp2_with fail
        go_roundw
        case rel => exact ⟨k + 1, t, L, by omega, by omega, by simp, by rw [hw3]; simp; omega, rfl, (by show _ ↔ _; rw [hnext]; exact Ht.out), hLl, (by show _ = _; rw [hnext]; exact HN.out), Hown.out, HB'.out⟩
        case measure => simp [intOf]; omega
    · have hE : Hid (m % 2 ^ k < 4294967296) := Nat.lt_of_le_of_lt (Nat.mod_le _ _) Hm.out
      have hmain : Hid (t = true → checkC (L ++ four (sumC l)) = ([], false)) := fun ht =>
        checkC_turned l L (burst l L hLl i _ (by omega) hE.out (Ht.out.1 ht) HN.out)
      have Hown := Lib.hid hown
      have HB' := Lib.hid hB
      have Hlen : Hid ((L ++ four (sumC l)).length ≤ 4000) := by show _ ≤ _; rw [List.length_append]; simp [four]; have := Hl3.out; omega
      obtain ⟨R, HR⟩ : ∃ R, Hid (R = checkC (L ++ four (sumC l))) := ⟨_, rfl⟩
      clear HN Ht hown hB
      have hcase : ¬ (k : Int) < 32 ∨ ((k : Int) < 32 ∧ ¬ (j : Int) < 8 * (l.length : Int)) := by omega
      cases t with
      | true =>
        have HR2 : Hid (R = ([], false)) := by show _ = _; rw [HR.out]; exact hmain.out rfl
        rcases hcase with hk32 | ⟨hk32, hj8⟩
        all_goals
          go_wp2_with fail
          refine (vCheckC _ (L ++ four (sumC l)) _ Hown.out.byt (by have := Hlen.out; omega)).mono ?_
          rw [← HR.out, HR2.out]
          rintro e w5 ⟨v5, rfl, hb5, hg5⟩
          have HG5 := Lib.hid (Grows.trans' HB'.out hg5)
          clear hb5 hg5
          go_wp2_with (go_at_call 8; refine (live_any _).mono ?_; rintro e w6 ⟨rfl, hg6⟩)
          go_ret
          exact ⟨rfl, Grows.trans' HG5.out hg6⟩
      | false =>
        rcases hcase with hk32 | ⟨hk32, hj8⟩
        all_goals
          go_wp2_with fail
          refine (vCheckC _ (L ++ four (sumC l)) _ Hown.out.byt (by have := Hlen.out; omega)).mono ?_
          rw [← HR.out]
          rintro e w5 ⟨v5, rfl, hb5, hg5⟩
          have HG5 := Lib.hid (Grows.trans' HB'.out hg5)
          clear hb5 hg5
          go_wp2_with (go_at_call 8; refine (live_any _).mono ?_; rintro e w6 ⟨rfl, hg6⟩)
          go_ret
          exact ⟨rfl, Grows.trans' HG5.out hg6⟩
theorem walkByte (v : Value) (l : List UInt8) (at' : Int) (x : UInt8) (w : World) (h : Byt w v l) (hr : -9223372036854775808 ≤ at' ∧ at' ≤ 9223372036854775807) :
    Calls Try.prog 7 #[v, .int .i64 at', .int .u8 (x.toNat : Int)] w fun e w' => e = .returned (.bool true) ∧ Grows w w' := by
  by_cases ho : 3000 < l.length ∨ at' < 0 ∨ (l.length : Int) + 4 ≤ at' ∨ x.toNat = 0
  · exact walkByte_out v l at' x w h hr.1 hr.2 ho
  · obtain ⟨i, rfl⟩ := Int.eq_ofNat_of_zero_le (show 0 ≤ at' by omega)
    exact walkByte_in v l i x w h (by omega) (by omega) (by omega)
theorem walkBurst (v : Value) (l : List UInt8) (at' : Int) (m : Nat) (w : World) (h : Byt w v l) (hr : -9223372036854775808 ≤ at' ∧ at' ≤ 9223372036854775807) (hm : m < 4294967296) :
    Calls Try.prog 6 #[v, .int .i64 at', .int .u32 (m : Int)] w fun e w' => e = .returned (.bool true) ∧ Grows w w' := by
  by_cases ho : 3000 < l.length ∨ at' < 0 ∨ 8 * (l.length : Int) ≤ at' ∨ m = 0
  · exact walkBurst_out v l at' m w h hr.1 hr.2 ho
  · obtain ⟨i, rfl⟩ := Int.eq_ofNat_of_zero_le (show 0 ≤ at' by omega)
    exact walkBurst_in v l i m w h (by omega) (by omega) (by omega) hm
end Go.Proofs.Ytfndkkcfanacbaa
