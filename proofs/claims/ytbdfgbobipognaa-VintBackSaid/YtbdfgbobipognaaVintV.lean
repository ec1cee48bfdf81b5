/-
  Contracts of Clone, PutBytes and GetBytes, of the program and of the document's own answer.
-/
import Derived.Test.YtbdfgbobipognaaVintU
import Derived.WalkSpells
namespace Go.Proofs.Ytbdfgbobipognaa
open Go.RowKit
set_option linter.unusedVariables false
set_option linter.unusedSimpArgs false

theorem Own.empty (e : TypeId) (B : Nat) (W : World) (hB : B ≤ W.heap.size) : Own e B (W.alloc (.cells #[] e)) (.slice (some ⟨W.heap.size, 0, none⟩) 0 0) [] := by
  have := Own.lit e B W [] hB (by simp)
  simpa using this

set_option maxRecDepth 100000 in
theorem clone_any (v : Value) (l : List UInt8) (w : World) (h : Byt w v l) (hl : l.length ≤ 140737488355328) :
    Calls Try.prog 27 #[v] w fun e w' => ∃ v', e = .returned v' ∧ Own 5 w.heap.size w' v' l ∧ Grows w w' := by
  obtain ⟨i0, hi, hz0, hz1, hz2⟩ := info_parts info5
  have H := Lib.hid h
  obtain ⟨a, cap, rfl, h1, h2, h3, h4⟩ := h
  cases a with
  | none =>
    have hl0 : l = [] := by
      have := h3 rfl
      exact List.eq_nil_of_length_eq_zero (by omega)
    subst hl0
    obtain rfl := h3 rfl
    have hq := Lib.run_eql_slice_nil (P := Try.prog)
    go_enter Try.func27, Try.ntmps27
    go_wp2
    go_ret
    exact ⟨_, rfl, Own.nil _ _ _, Below.refl _ _⟩
  | some x =>
    have hq := Lib.run_eql_slice_nil (P := Try.prog)
    have Hl := Lib.hid hl
    clear h1 h2 h3 h4 hl
    go_enter Try.func27, Try.ntmps27
    go_wp2_with (at_builtin; refine wpList_app rfl _ _ 23 5 i0 rfl Try.underlying23 hi hz0 hz1 hz2 w.heap.size _ _ [] l rfl (Own.empty _ _ _ (Nat.le_refl _)) rfl (H.out.grows (Grows.alloc' _ _)) (by have := Hl.out; simp; omega) (by simp) ?_; intro v' w1 hown' hgrow)
    go_ret
    exact ⟨_, rfl, by simpa using hown', grows_app ((Below.refl _ _).alloc (Nat.le_refl _) _) (Own.empty _ _ _ (Nat.le_refl _)) (by simp) hgrow⟩

/-- A text with its length. -/
def putB (l : List UInt8) : List UInt8 := put l.length ++ l

theorem Byt.slice {W : World} {v : Value} {l : List UInt8} (h : Byt W v l) : ∃ a cap, v = .slice a l.length cap := by
  obtain ⟨a, cap, e, _⟩ := h
  exact ⟨a, cap, e⟩

set_option maxRecDepth 100000 in
theorem vPutBytes (v : Value) (l : List UInt8) (w : World) (h : Byt w v l) (hl : l.length ≤ 70368744177664) :
    Calls Try.prog 22 #[v] w fun e w' => ∃ v', e = .returned v' ∧ Own 5 w.heap.size w' v' (putB l) ∧ Grows w w' := by
  obtain ⟨i0, hi, hz0, hz1, hz2⟩ := info_parts info5
  have H := Lib.hid h
  obtain ⟨a, cap, rfl⟩ := h.slice
  clear h
  have hw : IntKind.u64.wrap (l.length : Int) = (l.length : Int) := wrap_u64 _ (by omega) (by omega)
  have Hput := Lib.hid (fun w => vPut l.length (by omega) w)
  have Hlen : Hid ((put l.length).length + l.length ≤ 140737488355328) := by
    have := (putL_length 9 l.length).2
    show (putL 9 l.length).length + _ ≤ _
    omega
  clear hl
  go_enter Try.func22, Try.ntmps22
  go_wp2_with fail
  refine (Hput.out _).mono ?_
  rintro e w1 ⟨v1, rfl, hown, hg⟩
  go_wp2_with (at_builtin; refine wpList_app rfl _ _ 23 5 i0 rfl Try.underlying23 hi hz0 hz1 hz2 w.heap.size _ _ _ l rfl hown rfl (H.out.grows hg) Hlen.out hg.size ?_; intro v' w2 hown' hgrow)
  go_ret
  exact ⟨_, rfl, hown', grows_app hg hown hg.size hgrow⟩

set_option maxRecDepth 100000 in
theorem refPutBytes (v : Value) (l : List UInt8) (w : World) (h : Byt w v l) (hl : l.length ≤ 70368744177664) :
    Calls Try.prog 23 #[v] w fun e w' => ∃ v', e = .returned v' ∧ Own 5 w.heap.size w' v' (putB l) ∧ Grows w w' := by
  obtain ⟨i0, hi, hz0, hz1, hz2⟩ := info_parts info5
  have H := Lib.hid h
  obtain ⟨a, cap, rfl⟩ := h.slice
  clear h
  have hw : IntKind.u64.wrap (l.length : Int) = (l.length : Int) := wrap_u64 _ (by omega) (by omega)
  have Hput := Lib.hid (fun w => refPut l.length (by omega) w)
  have Hlen : Hid ((put l.length).length + l.length ≤ 140737488355328) := by
    have := (putL_length 9 l.length).2
    show (putL 9 l.length).length + _ ≤ _
    omega
  clear hl
  go_enter Try.func23, Try.ntmps23
  go_wp2_with fail
  refine (Hput.out _).mono ?_
  rintro e w1 ⟨v1, rfl, hown, hg⟩
  go_wp2_with (at_builtin; refine wpList_app rfl _ _ 23 5 i0 rfl Try.underlying23 hi hz0 hz1 hz2 w.heap.size _ _ _ l rfl hown rfl (H.out.grows hg) Hlen.out hg.size ?_; intro v' w2 hown' hgrow)
  go_ret
  exact ⟨_, rfl, hown', grows_app hg hown hg.size hgrow⟩

set_option maxRecDepth 100000 in
set_option maxHeartbeats 1000000 in
theorem vGetBytes (v : Value) (l : List UInt8) (w : World) (h : Byt w v l) (hl : l.length ≤ 70368744177664) :
    Calls Try.prog 20 #[v] w fun e w' => ∃ v', e = .returned (.tuple #[v', .int .i64 (getB l).2.1, .int .i64 (getB l).2.2]) ∧ Own 5 w.heap.size w' v' (getB l).1 ∧ Grows w w' := by
  have H := Lib.hid h
  obtain ⟨i0, hi, hz0, hz1, hz2⟩ := info_parts info5
  have hok := get_ok l
  obtain ⟨n, k, e, hg⟩ : ∃ n k e, get l = (n, k, e) := ⟨_, _, _, rfl⟩
  have Hget : Hid (∀ w', Byt w' v l → Calls Try.prog 13 #[v] w' fun E W' => E = .returned (.tuple #[.int .u64 n, .int .i64 k, .int .i64 e]) ∧ Grows w' W') := fun w' hw => by
    have := vGet v l w' hw
    rw [hg] at this
    exact this
  obtain ⟨a, cap, rfl⟩ := h.slice
  clear h
  rw [hg] at hok
  simp only at hok
  by_cases he : e = 0
  · have e1 : ((e : Int) != 0) = false := by rw [he]; rfl
    obtain ⟨h1, h2, h3, h4⟩ := hok he
    have hw1 : IntKind.u64.wrap ((l.length : Int) - (k : Int)) = (l.length : Int) - (k : Int) := wrap_u64 _ (by omega) (by omega)
    have He := Lib.hid he
    by_cases hn : l.length - k < n
    · have hn' : (l.length : Int) - (k : Int) < (n : Int) := by omega
      have Hb : Hid (getB l = ([], 0, 10)) := by show _ = _; unfold getB; rw [hg]; simp [he, hn]
      clear he hok h4 hg hn
      go_enter Try.func20, Try.ntmps20
      go_wp2_with fail
      refine (Hget.out _ H.out).mono ?_
      rintro E w1 ⟨rfl, hg1⟩
      go_wp2_with fail
      go_ret3
      exact ⟨_, by rw [Hb.out]; rfl, by rw [Hb.out]; exact Own.nil _ _ _, hg1⟩
    · have hn' : ¬ (l.length : Int) - (k : Int) < (n : Int) := by omega
      have hnk : k + n ≤ l.length := by omega
      have Hb : Hid (getB l = ((l.drop k).take n, k + n, 0)) := by show _ = _; unfold getB; rw [hg]; simp [he, hn]
      clear he hok h4 hg hn
      go_enter Try.func20, Try.ntmps20
      go_wp2_with fail
      refine (Hget.out _ H.out).mono ?_
      rintro E w1 ⟨rfl, hg1⟩
      have HB1 := Lib.hid (H.out.grows hg1)
      go_wp2_with (refine wpList_slice rfl _ _ _ 23 i0 rfl Try.underlying23 hi hz1 a cap l rfl HB1.out k (k + n) .i64 .i64 rfl rfl (by omega) hnk ?_; intro a' c' hb')
      rw [Nat.add_sub_cancel_left] at hb'
      refine (clone_any _ _ _ hb' (by simp; omega)).mono ?_
      rintro E w2 ⟨v2, rfl, hown, hg2⟩
      go_wp2_with fail
      go_ret3
      exact ⟨_, by rw [Hb.out]; simp; rfl, by rw [Hb.out]; exact hown.mono hg1.size, Grows.trans' hg1 hg2⟩
  · have e1 : ((e : Int) != 0) = true := by rw [bne_iff_ne]; omega
    have Hb : Hid (getB l = ([], 0, e)) := by show _ = _; unfold getB; rw [hg]; simp [he]
    clear hok hl hg he
    go_enter Try.func20, Try.ntmps20
    go_wp2_with fail
    refine (Hget.out _ H.out).mono ?_
    rintro E w1 ⟨rfl, hg1⟩
    go_wp2_with fail
    go_ret3
    exact ⟨_, by rw [Hb.out]; rfl, by rw [Hb.out]; exact Own.nil _ _ _, hg1⟩

set_option maxRecDepth 100000 in
set_option maxHeartbeats 1000000 in
theorem refGetBytes (v : Value) (l : List UInt8) (w : World) (h : Byt w v l) (hl : l.length ≤ 70368744177664) :
    Calls Try.prog 21 #[v] w fun e w' => ∃ v', e = .returned (.tuple #[v', .int .i64 (getB l).2.1, .int .i64 (getB l).2.2]) ∧ Own 5 w.heap.size w' v' (getB l).1 ∧ Grows w w' := by
  have H := Lib.hid h
  obtain ⟨i0, hi, hz0, hz1, hz2⟩ := info_parts info5
  have hok := get_ok l
  obtain ⟨n, k, e, hg⟩ : ∃ n k e, get l = (n, k, e) := ⟨_, _, _, rfl⟩
  have Hget : Hid (∀ w', Byt w' v l → Calls Try.prog 14 #[v] w' fun E W' => E = .returned (.tuple #[.int .u64 n, .int .i64 k, .int .i64 e]) ∧ w' = W') := fun w' hw => by
    have := refGet v l w' hw
    rw [hg] at this
    exact this
  obtain ⟨a, cap, rfl⟩ := h.slice
  clear h
  rw [hg] at hok
  simp only at hok
  by_cases he : e = 0
  · have e1 : ((e : Int) != 0) = false := by rw [he]; rfl
    obtain ⟨h1, h2, h3, h4⟩ := hok he
    have hw1 : IntKind.u64.wrap ((l.length : Int) - (k : Int)) = (l.length : Int) - (k : Int) := wrap_u64 _ (by omega) (by omega)
    have He := Lib.hid he
    by_cases hn : l.length - k < n
    · have hn' : (l.length : Int) - (k : Int) < (n : Int) := by omega
      have Hb : Hid (getB l = ([], 0, 10)) := by show _ = _; unfold getB; rw [hg]; simp [he, hn]
      clear he hok h4 hg hn
      go_enter Try.func21, Try.ntmps21
      go_wp2_with fail
      refine (Hget.out _ H.out).mono ?_
      rintro E w1 ⟨rfl, rfl⟩
      go_wp2_with fail
      go_ret3
      exact ⟨_, by rw [Hb.out]; rfl, by rw [Hb.out]; exact Own.nil _ _ _, Below.refl _ _⟩
    · have hn' : ¬ (l.length : Int) - (k : Int) < (n : Int) := by omega
      have hnk : k + n ≤ l.length := by omega
      have Hb : Hid (getB l = ((l.drop k).take n, k + n, 0)) := by show _ = _; unfold getB; rw [hg]; simp [he, hn]
      clear he hok h4 hg hn
      go_enter Try.func21, Try.ntmps21
      go_wp2_with fail
      refine (Hget.out _ H.out).mono ?_
      rintro E w1 ⟨rfl, rfl⟩
      have HB1 := Lib.hid (H.out.grows (Grows.alloc' w (.cells #[] 5)))
      go_wp2_with (refine wpList_slice rfl _ _ _ 23 i0 rfl Try.underlying23 hi hz1 a cap l rfl HB1.out k (k + n) .i64 .i64 rfl rfl (by omega) hnk ?_; intro a' c' hb'; refine wpList_app rfl _ _ 23 5 i0 rfl Try.underlying23 hi hz0 hz1 hz2 w.heap.size _ _ [] _ rfl (Own.empty _ _ _ (Nat.le_refl _)) rfl hb' (by simp; omega) (by simp) ?_; intro v' w2 hown' hgrow)
      rw [Nat.add_sub_cancel_left] at hown'
      go_ret3
      exact ⟨_, by rw [Hb.out]; simp; rfl, by rw [Hb.out]; simpa using hown', grows_app ((Below.refl _ _).alloc (Nat.le_refl _) _) (Own.empty _ _ _ (Nat.le_refl _)) (by simp) hgrow⟩
  · have e1 : ((e : Int) != 0) = true := by rw [bne_iff_ne]; omega
    have Hb : Hid (getB l = ([], 0, e)) := by show _ = _; unfold getB; rw [hg]; simp [he]
    clear hok hl hg he
    go_enter Try.func21, Try.ntmps21
    go_wp2_with fail
    refine (Hget.out _ H.out).mono ?_
    rintro E w1 ⟨rfl, rfl⟩
    go_wp2_with fail
    go_ret3
    exact ⟨_, by rw [Hb.out]; rfl, by rw [Hb.out]; exact Own.nil _ _ _, Below.refl _ _⟩
end Go.Proofs.Ytbdfgbobipognaa
