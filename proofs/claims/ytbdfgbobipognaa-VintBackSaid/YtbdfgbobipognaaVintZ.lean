/-
  The walk of the law VintBack.
-/
import Derived.Test.YtbdfgbobipognaaVintW
namespace Go.Proofs.Ytbdfgbobipognaa
open Go.RowKit
set_option linter.unusedVariables false
set_option linter.unusedSimpArgs false

theorem takeN (l : List Nat) (k : Nat) (hk : k < l.length) : l.take (k + 1) = l.take k ++ [l.getD k 0] := by
  rw [List.take_succ_eq_append_getElem hk]; simp [List.getD, hk]
theorem dropN (l : List Nat) (k : Nat) (hk : k < l.length) : l.drop k = l.getD k 0 :: l.drop (k + 1) := by
  rw [List.drop_eq_getElem_cons hk]; simp [List.getD, hk]

/-- What came in as a slice of 64-bit numbers. -/
theorem words_of_row {w : World} {a : Option Addr} {len cap : Nat} {zs : List Int}
    (h : (a = none ∧ len = 0 ∧ cap = 0 ∧ zs = []) ∨
      ∃ x, a = some x ∧ len ≤ cap ∧ cap ≤ maxLen ∧ zs.length = cap ∧ (∀ i, i < zs.length → w.cell? (x.add i) = some (.int .u64 (zs.getD i 0))) ∧ ∀ n ∈ zs, (Lit.int .u64 n).wf = true) :
    ∃ ns : List Nat, len = ns.length ∧ (∀ i, ns.getD i 0 < 18446744073709551616) ∧ (ns = [] ∨ ∃ b off, a = some ⟨b, off, none⟩ ∧ ∀ i, i < ns.length → w.cell? ⟨b, off + i, none⟩ = some (.int .u64 ((ns.getD i 0 : Nat) : Int))) := by
  rcases h with ⟨rfl, rfl, rfl, rfl⟩ | ⟨x, rfl, h1, h2, h3, h4, h5⟩
  · exact ⟨[], rfl, by simp, .inl rfl⟩
  · have hl : ((zs.take len).map Int.toNat).length = len := by simp; omega
    have hin : ∀ i, i < zs.length → 0 ≤ zs.getD i 0 ∧ zs.getD i 0 < 18446744073709551616 := fun i hi => by
      have hm : zs.getD i 0 ∈ zs := by
        rw [List.getD, List.getElem?_eq_getElem hi, Option.getD_some]
        exact List.getElem_mem _
      have hwf := h5 _ hm
      simp [Lit.wf, IntKind.min, IntKind.max, IntKind.bits, IntKind.signed] at hwf
      simp [List.getD] at *
      omega
    have e1 : ∀ i, i < len → ((zs.take len).map Int.toNat).getD i 0 = (zs.getD i 0).toNat := fun i hi => by
      simp [List.getD, hi, show i < zs.length by omega]
    refine ⟨(zs.take len).map Int.toNat, hl.symm, fun i => ?_, ?_⟩
    · by_cases hi : i < len
      · rw [e1 i hi]
        have := hin i (by omega)
        omega
      · have : ((zs.take len).map Int.toNat).getD i 0 = 0 := by
          rw [List.getD, List.getElem?_eq_none (by omega)]; rfl
        omega
    · by_cases h0 : len = 0
      · left; subst h0; simp
      · right
        obtain ⟨b, off, spot⟩ := x
        have hc := h4 0 (by omega)
        have hspot : spot = none := by simpa [Addr.add] using World.cell?_spot hc
        subst hspot
        refine ⟨b, off, rfl, fun i hi => ?_⟩
        rw [hl] at hi
        have hci := h4 i (by omega)
        rw [Addr.add_lit] at hci
        have := hin i (by omega)
        rw [hci, e1 i hi]
        congr 2
        omega

set_option maxRecDepth 100000 in
set_option maxHeartbeats 2000000 in
theorem walkBack_some (b off cap : Nat) (ns : List Nat) (v : Value) (r : List UInt8) (w : World) (hns : ∀ i, ns.getD i 0 < 18446744073709551616)
    (hc : ∀ i, i < ns.length → w.cell? ⟨b, off + i, none⟩ = some (.int .u64 ((ns.getD i 0 : Nat) : Int))) (h : Byt w v r) (hl : ns.length ≤ 100) (hr : r.length ≤ 5000) :
    Calls Try.prog 7 #[.slice (some ⟨b, off, none⟩) ns.length cap, v] w fun e w' => e = .returned (.bool true) ∧ Grows w w' := by
  obtain ⟨i0, hi, hz0, hz1, hz2⟩ := info_parts info5
  have H := Lib.hid h
  obtain ⟨a', cap', rfl⟩ := h.slice
  have hl' : ¬ (100 : Int) < (ns.length : Int) := by omega
  have hr' : ¬ (5000 : Int) < (r.length : Int) := by omega
  have Hns := Lib.hid hns
  have Hl : Hid (∀ k, (flat (ns.take k)).length ≤ 1000) := fun k => by
    have := flat_len (ns.take k)
    have := List.length_take (i := k) (l := ns)
    omega
  have Hr := Lib.hid hr
  clear h hns hl hr
  go_enter Try.func7, Try.ntmps7
  go_wp2_with fail
  go_loopw [5, 6] (fun t5 t6 wr => ∃ k : Nat, k ≤ ns.length ∧ t6 = .int .i64 k ∧ Own 5 w.heap.size wr t5 (flat (ns.take k)) ∧ Grows w wr)
    (fun _ t6 _ => ns.length - (intOf t6).toNat)
  case atStart => exact ⟨0, by omega, rfl, Own.nil _ _ _, Below.refl _ _⟩
  case round =>
    obtain ⟨k, hk, rfl, hown, hB⟩ := hrel
    by_cases hlt : k < ns.length
    · have hck := Grows.cell' hB (hc k hlt)
      have hnb := Hns.out k
      obtain ⟨n, Hn⟩ : ∃ n, Hid (ns.getD k 0 = n) := ⟨_, rfl⟩
      rw [Hn.out] at hck hnb
      have Hnb := Lib.hid hnb
      clear hc hnb
      go_wp2_with fail
      refine (vPut n Hnb.out _).mono ?_
      rintro e w1 ⟨v1, rfl, ho1, hg1⟩
      have HB1 := Lib.hid (Grows.trans' hB hg1)
      have Hown1 := Lib.hid (hown.grows hg1)
      go_wp2_with (at_builtin; refine wpList_app rfl _ _ 23 5 i0 rfl Try.underlying23 hi hz0 hz1 hz2 w.heap.size _ _ (flat (ns.take k)) (put n) rfl Hown1.out rfl ho1.byt (by have := Hl.out k; have := (put_len n).2; omega) HB1.out.size ?_; intro v2 w2 hown2 hgrow2)
      go_roundw
      case rel => exact ⟨k + 1, by omega, by simp, by rw [takeN ns k hlt, Hn.out, flat_snoc]; exact hown2, grows_app HB1.out Hown1.out HB1.out.size hgrow2⟩
      case measure => simp [intOf]; omega
    · have hfull : ns.take k = ns := List.take_of_length_le (by omega)
      have Hl0 : Hid ((flat ns).length ≤ 1000) := by have := Hl.out k; rw [hfull] at this; exact this
      rw [hfull] at hown
      have HB := Lib.hid hB
      have Hown := Lib.hid hown
      clear hB hown
      go_wp2_with (at_builtin; refine wpList_app rfl _ _ 23 5 i0 rfl Try.underlying23 hi hz0 hz1 hz2 w.heap.size _ _ (flat ns) r rfl Hown.out rfl (H.out.grows HB.out) (by have := Hl0.out; have := Hr.out; omega) HB.out.size ?_; intro v2 w2 hown2 hgrow2)
      have HB2 := Lib.hid (grows_app HB.out Hown.out HB.out.size hgrow2)
      have Hb2 := Lib.hid hown2.byt
      clear hown2 hgrow2
      go_loopw [5, 7] (fun t5 t7 wr => ∃ j : Nat, j ≤ ns.length ∧ t7 = .int .i64 j ∧ Byt wr t5 (flat (ns.drop j) ++ r) ∧ Grows w wr)
        (fun _ t7 _ => ns.length - (intOf t7).toNat)
      case atStart => exact ⟨0, by omega, rfl, Hb2.out, HB2.out⟩
      case round =>
        obtain ⟨j, hj, rfl, hb, hBj⟩ := hrel
        by_cases hjlt : j < ns.length
        · have hck := Grows.cell' hBj (hc j hjlt)
          have hnb := Hns.out j
          obtain ⟨n, Hn⟩ : ∃ n, Hid (ns.getD j 0 = n) := ⟨_, rfl⟩
          rw [Hn.out] at hck hnb
          have Hnb := Lib.hid hnb
          obtain ⟨R, HR⟩ : ∃ R, Hid (R = flat (ns.drop (j + 1)) ++ r) := ⟨_, rfl⟩
          obtain ⟨B, HB'⟩ : ∃ B, Hid (B = put n ++ R) := ⟨_, rfl⟩
          obtain ⟨kn, Hkn⟩ : ∃ kn, Hid (kn = (put n).length) := ⟨_, rfl⟩
          have eB : flat (ns.drop j) ++ r = B := by rw [HB'.out, HR.out, dropN ns j hjlt, Hn.out, flat_cons, List.append_assoc]
          rw [eB] at hb
          have G1 : Hid (get B = (n, kn, 0)) := by
            show _ = _
            rw [HB'.out, Hkn.out, get_put n Hnb.out]
          have G2 : Hid (B.drop kn = R) := by
            show _ = _
            rw [HB'.out, Hkn.out]
            simp
          have tk1 : ¬ (kn : Int) < 1 := by have := (put_len n).1; have := Hkn.out; omega
          have hkB : kn ≤ B.length := by rw [HB'.out, Hkn.out, List.length_append]; omega
          have tk2 : ¬ (B.length : Int) < (kn : Int) := by omega
          obtain ⟨a5, c5, rfl⟩ := hb.slice
          clear hc hnb eB
          go_wp2_with fail
          refine (vGet _ B _ hb).mono ?_
          rw [G1.out]
          rintro e w1 ⟨rfl, hg1⟩
          have HB1 := Lib.hid (Grows.trans' hBj hg1)
          have Hb1 := Lib.hid (hb.grows hg1)
          have hck1 := Grows.cell' hg1 hck
          clear hb hBj hck hg1
          unfold got
          go_wp2_with (first | (go_at_call 15; refine (num_any _ _).mono ?_; rintro e w3 ⟨rfl, rfl⟩) | (refine wpList_sliceFrom rfl _ _ 23 i0 rfl Try.underlying23 hi hz1 (.slice a5 B.length c5) B rfl Hb1.out kn .i64 rfl hkB ?_; intro a6 c6 hb6))
          rw [G2.out] at hb6
          go_roundw
          case rel => exact ⟨j + 1, by omega, by simp, by rw [← HR.out]; exact hb6, HB1.out⟩
          case measure => simp [intOf]; omega
        · have hd : ns.drop j = [] := List.drop_of_length_le (by omega)
          rw [hd] at hb
          have hb' : Byt wr _ r := hb
          obtain ⟨a5, c5, rfl⟩ := hb'.slice
          have Hb := Lib.hid hb'
          have HBj := Lib.hid hBj
          have Hp := Lib.hid (H.out.grows hBj)
          clear hb hb' hBj hc
          go_wp2_with (first | (refine wpList_conv rfl _ 23 5 9 rfl rfl rfl rfl (.slice a5 r.length c5) r rfl Hb.out ?_) | (refine wpList_conv rfl _ 23 5 9 rfl rfl rfl rfl (.slice a' r.length cap') r rfl Hp.out ?_) | (go_at_call 12; refine (live_any _).mono ?_; rintro e w9 ⟨rfl, hg9⟩))
          go_ret
          exact ⟨rfl, Grows.trans' HBj.out hg9⟩

set_option maxRecDepth 100000 in
set_option maxHeartbeats 1000000 in
theorem walkBack_nil (a : Option Addr) (cap : Nat) (v : Value) (r : List UInt8) (w : World) (h : Byt w v r) (hr : r.length ≤ 5000) :
    Calls Try.prog 7 #[.slice a 0 cap, v] w fun e w' => e = .returned (.bool true) ∧ Grows w w' := by
  obtain ⟨i0, hi, hz0, hz1, hz2⟩ := info_parts info5
  have H := Lib.hid h
  obtain ⟨a', cap', rfl⟩ := h.slice
  have hr' : ¬ (5000 : Int) < (r.length : Int) := by omega
  have Hr := Lib.hid hr
  clear h hr
  go_enter Try.func7, Try.ntmps7
  go_wp2_with fail
  refine wp_loop_rounds 1 ?_
  rw [rounds_succ]
  go_wp2_with (at_builtin; refine wpList_app rfl _ _ 23 5 i0 rfl Try.underlying23 hi hz0 hz1 hz2 w.heap.size _ _ [] r rfl (Own.nil _ _ _) rfl H.out (by have := Hr.out; simp; omega) (Nat.le_refl _) ?_; intro v2 w2 hown2 hgrow2)
  have HB2 := Lib.hid (grows_app (Below.refl _ w) (Own.nil 5 _ w) (Nat.le_refl _) hgrow2)
  have hb2 : Byt w2 v2 r := hown2.byt
  obtain ⟨a5, c5, rfl⟩ := hb2.slice
  have Hb := Lib.hid hb2
  have Hp := Lib.hid (H.out.grows HB2.out)
  clear hb2 hown2 hgrow2
  refine wp_loop_rounds 1 ?_
  rw [rounds_succ]
  go_wp2_with (first | (refine wpList_conv rfl _ 23 5 9 rfl rfl rfl rfl (.slice a5 r.length c5) r rfl Hb.out ?_) | (refine wpList_conv rfl _ 23 5 9 rfl rfl rfl rfl (.slice a' r.length cap') r rfl Hp.out ?_) | (go_at_call 12; refine (live_any _).mono ?_; rintro e w9 ⟨rfl, hg9⟩))
  go_ret
  exact ⟨rfl, Grows.trans' HB2.out hg9⟩

set_option maxRecDepth 100000 in
theorem walkBack (a : Option Addr) (cap : Nat) (ns : List Nat) (v : Value) (r : List UInt8) (w : World) (hns : ∀ i, ns.getD i 0 < 18446744073709551616)
    (hc : ns = [] ∨ ∃ b off, a = some ⟨b, off, none⟩ ∧ ∀ i, i < ns.length → w.cell? ⟨b, off + i, none⟩ = some (.int .u64 ((ns.getD i 0 : Nat) : Int))) (h : Byt w v r) :
    Calls Try.prog 7 #[.slice a ns.length cap, v] w fun e w' => e = .returned (.bool true) ∧ Grows w w' := by
  by_cases hl : 100 < ns.length
  · have hl' : (100 : Int) < (ns.length : Int) := by omega
    clear hl hc hns h
    go_enter Try.func7, Try.ntmps7
    go_wp2_with (go_at_call 12; refine (live_any _).mono ?_; rintro e w4 ⟨rfl, hg4⟩)
    go_ret
    exact ⟨rfl, hg4⟩
  · by_cases hr : 5000 < r.length
    · have hl' : ¬ (100 : Int) < (ns.length : Int) := by omega
      have hr' : (5000 : Int) < (r.length : Int) := by omega
      obtain ⟨a', cap', rfl⟩ := h.slice
      clear hl hr hc hns h
      go_enter Try.func7, Try.ntmps7
      go_wp2_with (go_at_call 12; refine (live_any _).mono ?_; rintro e w4 ⟨rfl, hg4⟩)
      go_ret
      exact ⟨rfl, hg4⟩
    · rcases hc with rfl | ⟨b, off, rfl, hc⟩
      · exact walkBack_nil a cap v r w h (by omega)
      · exact walkBack_some b off cap ns v r w hns hc h (by omega) (by omega)
end Go.Proofs.Ytbdfgbobipognaa
