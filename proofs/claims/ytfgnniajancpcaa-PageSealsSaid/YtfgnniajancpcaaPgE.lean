/-
  The contract of Open.
-/
import Derived.Test.YtfgnniajancpcaaPgD
namespace Go.Proofs.Ytfgnniajancpcaa
open Go.RowKit
set_option linter.unusedVariables false
set_option linter.unusedSimpArgs false

theorem sizePg : (Try.prog.info? 25).map (·.size) = some 3 := by kernel_rfl
theorem pgOne (k n : Int) (ad : Option Addr) (ln cp : Nat) : (#[Value.int .i64 k, Value.int .u64 n, Value.slice ad ln cp].all (·.oneCell')) = true := by simp [Value.oneCell']
theorem check_off (l : List UInt8) (h : l.length = 256) (hc : (checkC l).2 = false) : openP l = (zeroP, 51) := by unfold openP; rw [if_pos h, if_neg (by rw [hc]; simp)]
theorem check_no (l : List UInt8) (h : l.length = 256) (hc : (checkC l).2 = true) (hk : isK (ofC (checkC l).1).kind = false) : openP l = (zeroP, 50) := by unfold openP; rw [if_pos h, if_pos hc, if_neg (by rw [hk]; simp)]
theorem check_yes (l : List UInt8) (h : l.length = 256) (hc : (checkC l).2 = true) (hk : isK (ofC (checkC l).1).kind = true) : openP l = (ofC (checkC l).1, 0) := by unfold openP; rw [if_pos h, if_pos hc, if_pos hk]
set_option maxRecDepth 100000 in
theorem vOpen_len (v : Value) (l : List UInt8) (w : World) (h : Byt w v l) (hl : ¬ l.length = 256) :
    Calls Try.prog 9 #[v] w fun e w' => e = .returned (.tuple #[pgv 0 0 (.slice none 0 0), .int .i64 50]) ∧ Grows w w' := by
  obtain ⟨a, cap, rfl⟩ := h.slice
  clear h
  have hl' : ¬ (l.length : Int) = 256 := by omega
  clear hl
  go_enter Try.func9, Try.ntmps9
  go_wp2
  exact ret_cell_tmp rfl w.heap.size 25 #[.int .i64 0, .int .u64 0, .slice none 0 0] _ rfl (heap_alloc_new _ _) Try.underlying25 rfl sizePg rfl ⟨rfl, Grows.alloc' _ _⟩

set_option maxRecDepth 100000 in
theorem vOpen_check (v : Value) (l : List UInt8) (w : World) (h : Byt w v l) (hl : l.length = 256) (hc : (checkC l).2 = false) :
    Calls Try.prog 9 #[v] w fun e w' => e = .returned (.tuple #[pgv 0 0 (.slice none 0 0), .int .i64 51]) ∧ Grows w w' := by
  have HC := Lib.hid (vCheckC v l (w.alloc (.cells #[.int .i64 0, .int .u64 0, .slice none 0 0] 25)) (h.grows (Grows.alloc' _ _)) (by omega))
  rw [hc] at HC
  obtain ⟨a, cap, rfl⟩ := h.slice
  clear h hc
  have hl' : (l.length : Int) = 256 := by omega
  clear hl
  go_enter Try.func9, Try.ntmps9
  go_wp2_with fail
  refine HC.out.mono ?_
  rintro e w1 ⟨v1, rfl, hb1, hg1⟩
  have HG1 := Lib.hid (Grows.trans' (Grows.alloc' _ _) hg1)
  have HR1 := Lib.hid (hg1.heap' (heap_alloc_new w (.cells #[.int .i64 0, .int .u64 0, .slice none 0 0] 25)))
  clear hb1 hg1
  go_wp2_with (refine wpList_storeT rfl 25 (.tmp 2) (.tmp 21) rfl w.heap.size 25 _ #[.int .i64 0, .int .u64 0, .slice none 0 0] rfl rfl HR1.out sizePg rfl (pgOne 0 0 _ _ _) ?_)
  exact ret_cell_tmp rfl w.heap.size 25 #[.int .i64 0, .int .u64 0, .slice none 0 0] _ rfl (setRow_heap _ _ _ _ _ _ HR1.out) Try.underlying25 rfl sizePg rfl ⟨rfl, below_setRow HG1.out (Nat.le_refl _) _⟩

theorem byt_form {W : World} {v : Value} {l : List UInt8} (h : Byt W v l) (h0 : 0 < l.length) : ∃ b off k, v = .slice (some ⟨b, off, none⟩) l.length k ∧ l.length ≤ k ∧ k ≤ maxLen ∧ ∀ i, i < l.length → W.cell? ⟨b, off + i, none⟩ = some (bv (l.getD i 0)) := by
  obtain ⟨a, k, rfl, h1, h2, h3, h4⟩ := h
  rcases h4 with rfl | ⟨b, off, rfl, hc⟩
  · simp at h0
  · exact ⟨b, off, k, rfl, h1, h2, hc⟩
theorem byt_sub {W : World} {b off : Nat} {l : List UInt8} (hc : ∀ i, i < l.length → W.cell? ⟨b, off + i, none⟩ = some (bv (l.getD i 0))) (o n c : Nat) (hn : o + n ≤ l.length) (h1 : n ≤ c) (h2 : c ≤ maxLen) : Byt W (.slice (some ⟨b, off + o, none⟩) n c) ((l.drop o).take n) := by
  have hl : ((l.drop o).take n).length = n := by rw [List.length_take, List.length_drop]; omega
  refine ⟨some ⟨b, off + o, none⟩, c, by rw [hl], by omega, h2, (fun hh => by cases hh), Or.inr ⟨b, off + o, rfl, fun i hi => ?_⟩⟩
  rw [Nat.add_assoc, hc (o + i) (by omega)]
  congr 2
  simp only [List.getD]
  rw [List.getElem?_take_of_lt (by omega), List.getElem?_drop]
theorem Byt.setRow_other {W : World} {b o n c g : Nat} {l : List UInt8} (h : Byt W (.slice (some ⟨b, o, none⟩) n c) l) (hg : b ≠ g) (C : Array Value) : Byt (W.setRow g C) (.slice (some ⟨b, o, none⟩) n c) l := by
  obtain ⟨a, k, e, h1, h2, h3, h4⟩ := h
  simp only [Value.slice.injEq] at e
  obtain ⟨rfl, rfl, rfl⟩ := e
  refine ⟨_, _, rfl, h1, h2, h3, ?_⟩
  rcases h4 with rfl | ⟨b', o', e, hc⟩
  · exact .inl rfl
  · simp only [Option.some.injEq, Addr.mk.injEq, and_true] at e
    obtain ⟨rfl, rfl⟩ := e
    exact .inr ⟨_, _, rfl, fun i hi => by rw [cell_setRow_other W g C _ hg]; exact hc i hi⟩
theorem Byt.other {W : World} {b o n c g : Nat} {l : List UInt8} {cs : Array Value} {t : TypeId} (h : Byt W (.slice (some ⟨b, o, none⟩) n c) l) (hl : l.length = 243) (hr : W.heap[g]? = some (.cells cs t (0, 0))) (hs : cs.size = 3) : b ≠ g := by
  rintro rfl
  have h1 := h.cell 242 (by omega)
  rw [cell_of_row W b _ _ _ (0, 0) hr, Array.getElem?_eq_none (by omega)] at h1
  cases h1
/-- What of a content of 252 bytes is a page. -/
theorem ofC_parts (l : List UInt8) (h : l.length = 252) : number ((l.drop 0).take 1) = (l.getD 0 0).toNat ∧ number ((l.drop 1).take 8) = numG ((l.drop 1).take 8) ∧ (l.drop 9).take 243 = l.drop 9 ∧ numG ((l.drop 1).take 8) < 18446744073709551616 := by
  refine ⟨?_, ?_, ?_, ?_⟩
  · cases l with
    | nil => simp at h
    | cons c r => simp [number, numG]
  · unfold number
    rw [if_neg (by rw [List.length_take]; omega)]
  · exact List.take_of_length_le (by rw [List.length_drop]; omega)
  · have := numG_lt ((l.drop 1).take 8)
    rw [List.length_take, List.length_drop] at this
    have : min 8 (l.length - 1) = 8 := by omega
    simp_all

set_option maxRecDepth 100000 in
set_option maxHeartbeats 1000000 in
theorem vOpen_bad (v : Value) (l : List UInt8) (w : World) (h : Byt w v l) (hl : l.length = 256) (hc : (checkC l).2 = true) (hk : isK (ofC (checkC l).1).kind = false) :
    Calls Try.prog 9 #[v] w fun e w' => ∃ u, e = .returned (.tuple #[pgv (openP l).1.kind (openP l).1.lsn u, .int .i64 ((openP l).2 : Nat)]) ∧ Byt w' u (openP l).1.body ∧ Grows w w' := by
  have hcl := check_len l hc
  have hk0 : isK (ofC (checkC l).1).kind = false := hk
  have hop := check_no l hl hc hk
  rw [hop]
  have HC := Lib.hid (vCheckC v l (w.alloc (.cells #[.int .i64 0, .int .u64 0, .slice none 0 0] 25)) (h.grows (Grows.alloc' _ _)) (by omega))
  rw [hc] at HC
  obtain ⟨m, Hm⟩ : ∃ m, Hid ((checkC l).1 = m) := ⟨_, Lib.hid rfl⟩
  have hml : m.length = 252 := by rw [← Hm.out]; omega
  rw [Hm.out] at HC hk0
  obtain ⟨p1, p2, p3, p4⟩ := ofC_parts m hml
  obtain ⟨a, cap, rfl⟩ := h.slice
  clear h hc hop hcl hk
  have hl' : (l.length : Int) = 256 := by omega
  have Hml := Lib.hid hml
  obtain ⟨c, Hc⟩ : ∃ c, Hid ((m.getD 0 0).toNat = c) := ⟨_, Lib.hid rfl⟩
  obtain ⟨n, Hn⟩ : ∃ n, Hid (numG ((m.drop 1).take 8) = n) := ⟨_, Lib.hid rfl⟩
  have hc256 : c < 256 := by rw [← Hc.out]; exact (m.getD 0 0).toNat_lt
  rw [Hc.out] at p1
  rw [Hn.out] at p2 p4
  have Hof : Hid (ofC m = ⟨(c : Int), n, m.drop 9⟩) := by show _ = _; unfold ofC; rw [Hc.out, Hn.out]
  rw [Hof.out] at hk0
  have HK := Lib.hid (fun w => vKindIs (c : Int) false hk0 w)
  have HN1 := Lib.hid (fun (v : Value) (w : World) (h : Byt w v ((m.drop 0).take 1)) => (by have := vNumber v _ w h; rw [p1] at this; exact this : Calls Try.prog 22 #[v] w fun e w' => e = .returned (.int .u64 c) ∧ w = w'))
  have HN8 := Lib.hid (fun (v : Value) (w : World) (h : Byt w v ((m.drop 1).take 8)) => (by have := vNumber v _ w h; rw [p2] at this; exact this : Calls Try.prog 22 #[v] w fun e w' => e = .returned (.int .u64 n) ∧ w = w'))
  have H3 := Lib.hid p3
  have hcw : IntKind.i64.wrap (c : Int) = (c : Int) := by rw [IntWalk.i64_in _ (by omega)]
  clear hml hl p1 p2 p3 hk0
  go_enter Try.func9, Try.ntmps9
  go_wp2_with fail
  refine HC.out.mono ?_
  rintro e w1 ⟨v1, rfl, hb1, hg1⟩
  have HG1 := Lib.hid (Grows.trans' (Grows.alloc' _ _) hg1)
  have HR1 := Lib.hid (hg1.heap' (heap_alloc_new w (.cells #[.int .i64 0, .int .u64 0, .slice none 0 0] 25)))
  obtain ⟨b, off, k, rfl, hk1, hk2, hcl⟩ := byt_form hb1 (by rw [Hml.out]; omega)
  rw [Hml.out] at hk1 ⊢
  have Hcl := Lib.hid hcl
  clear hg1 hb1 hcl
  go_wp2_with fail
  refine (vParts b off k hk1 w1).mono ?_
  rintro e w2 ⟨rfl, hg2⟩
  have HG2 := Lib.hid (Grows.trans' HG1.out hg2)
  have HR2 := Lib.hid (hg2.heap' HR1.out)
  have HP0 := Lib.hid ((byt_sub Hcl.out 0 1 1 (by rw [Hml.out]; omega) (Nat.le_refl _) (by simp [maxLen])).grows hg2)
  have HP1 := Lib.hid ((byt_sub Hcl.out 1 8 8 (by rw [Hml.out]; omega) (Nat.le_refl _) (by simp [maxLen])).grows hg2)
  have HP9 := Lib.hid ((byt_sub Hcl.out 9 243 243 (by rw [Hml.out]; omega) (Nat.le_refl _) (by simp [maxLen])).grows hg2)
  rw [H3.out] at HP9
  clear hg2 hk1 hk2
  go_wp2_with fail
  refine (HN1.out _ _ HP0.out).mono ?_
  rintro e w3 ⟨rfl, rfl⟩
  go_wp2_with fail
  refine (HN8.out _ _ HP1.out).mono ?_
  rintro e w3 ⟨rfl, rfl⟩
  obtain ⟨B, HB⟩ : ∃ B, Hid (B = w2.heap.size) := ⟨_, Lib.hid rfl⟩
  have HBw : Hid (w.heap.size < B) := by show _ < _; rw [HB.out]; exact (Array.getElem?_eq_some_iff.1 HR2.out).1
  obtain ⟨W0, HW0⟩ : ∃ W0, Hid (W0 = w2.alloc (.cells #[.int .i64 (c : Int), .int .u64 (n : Int), .slice (some ⟨b, off + 9, none⟩) 243 243] 25)) := ⟨_, Lib.hid rfl⟩
  go_wp2_with (first
    | (go_at_call 14; refine (HK.out _).mono ?_; rintro e w4 ⟨rfl, rfl⟩)
    | (refine wpList_storeT rfl 25 (.tmp 2) (.tmp 39) rfl w.heap.size 25 _ #[.int .i64 0, .int .u64 0, .slice none 0 0] rfl rfl ((Grows.alloc' _ _).heap' HR2.out) sizePg rfl (pgOne 0 0 _ _ _) ?_))
  refine ret_cell_tmp rfl w.heap.size 25 #[.int .i64 0, .int .u64 0, .slice none 0 0] _ rfl (setRow_heap _ _ _ _ _ _ ((Grows.alloc' _ _).heap' HR2.out)) Try.underlying25 rfl sizePg rfl ?_
  have hgz := below_setRow (Grows.trans' HG2.out (Grows.alloc' w2 (.cells #[.int .i64 (c : Int), .int .u64 (n : Int), .slice (some ⟨b, off + 9, none⟩) 243 243] 25))) (Nat.le_refl _) #[.int .i64 0, .int .u64 0, .slice none 0 0]
  exact ⟨_, rfl, Byt.nil _, hgz⟩

set_option maxRecDepth 100000 in
set_option maxHeartbeats 1000000 in
theorem vOpen_ok (v : Value) (l : List UInt8) (w : World) (h : Byt w v l) (hl : l.length = 256) (hc : (checkC l).2 = true) (hk : isK (ofC (checkC l).1).kind = true) :
    Calls Try.prog 9 #[v] w fun e w' => ∃ u, e = .returned (.tuple #[pgv (openP l).1.kind (openP l).1.lsn u, .int .i64 ((openP l).2 : Nat)]) ∧ Byt w' u (openP l).1.body ∧ Grows w w' := by
  have hcl := check_len l hc
  have hk0 : isK (ofC (checkC l).1).kind = true := hk
  have hop := check_yes l hl hc hk
  rw [hop]
  have HC := Lib.hid (vCheckC v l (w.alloc (.cells #[.int .i64 0, .int .u64 0, .slice none 0 0] 25)) (h.grows (Grows.alloc' _ _)) (by omega))
  rw [hc] at HC
  obtain ⟨m, Hm⟩ : ∃ m, Hid ((checkC l).1 = m) := ⟨_, Lib.hid rfl⟩
  have hml : m.length = 252 := by rw [← Hm.out]; omega
  rw [Hm.out] at HC hk0 ⊢
  obtain ⟨p1, p2, p3, p4⟩ := ofC_parts m hml
  obtain ⟨a, cap, rfl⟩ := h.slice
  clear h hc hop hcl hk
  have hl' : (l.length : Int) = 256 := by omega
  have Hml := Lib.hid hml
  obtain ⟨c, Hc⟩ : ∃ c, Hid ((m.getD 0 0).toNat = c) := ⟨_, Lib.hid rfl⟩
  obtain ⟨n, Hn⟩ : ∃ n, Hid (numG ((m.drop 1).take 8) = n) := ⟨_, Lib.hid rfl⟩
  have hc256 : c < 256 := by rw [← Hc.out]; exact (m.getD 0 0).toNat_lt
  rw [Hc.out] at p1
  rw [Hn.out] at p2 p4
  have Hof : Hid (ofC m = ⟨(c : Int), n, m.drop 9⟩) := by show _ = _; unfold ofC; rw [Hc.out, Hn.out]
  rw [Hof.out] at hk0 ⊢
  have HK := Lib.hid (fun w => vKindIs (c : Int) true hk0 w)
  have HN1 := Lib.hid (fun (v : Value) (w : World) (h : Byt w v ((m.drop 0).take 1)) => (by have := vNumber v _ w h; rw [p1] at this; exact this : Calls Try.prog 22 #[v] w fun e w' => e = .returned (.int .u64 c) ∧ w = w'))
  have HN8 := Lib.hid (fun (v : Value) (w : World) (h : Byt w v ((m.drop 1).take 8)) => (by have := vNumber v _ w h; rw [p2] at this; exact this : Calls Try.prog 22 #[v] w fun e w' => e = .returned (.int .u64 n) ∧ w = w'))
  have H3 := Lib.hid p3
  have hcw : IntKind.i64.wrap (c : Int) = (c : Int) := by rw [IntWalk.i64_in _ (by omega)]
  clear hml hl p1 p2 p3 hk0
  go_enter Try.func9, Try.ntmps9
  go_wp2_with fail
  refine HC.out.mono ?_
  rintro e w1 ⟨v1, rfl, hb1, hg1⟩
  have HG1 := Lib.hid (Grows.trans' (Grows.alloc' _ _) hg1)
  have HR1 := Lib.hid (hg1.heap' (heap_alloc_new w (.cells #[.int .i64 0, .int .u64 0, .slice none 0 0] 25)))
  obtain ⟨b, off, k, rfl, hk1, hk2, hcl⟩ := byt_form hb1 (by rw [Hml.out]; omega)
  rw [Hml.out] at hk1 ⊢
  have Hcl := Lib.hid hcl
  clear hg1 hb1 hcl
  go_wp2_with fail
  refine (vParts b off k hk1 w1).mono ?_
  rintro e w2 ⟨rfl, hg2⟩
  have HG2 := Lib.hid (Grows.trans' HG1.out hg2)
  have HR2 := Lib.hid (hg2.heap' HR1.out)
  have HP0 := Lib.hid ((byt_sub Hcl.out 0 1 1 (by rw [Hml.out]; omega) (Nat.le_refl _) (by simp [maxLen])).grows hg2)
  have HP1 := Lib.hid ((byt_sub Hcl.out 1 8 8 (by rw [Hml.out]; omega) (Nat.le_refl _) (by simp [maxLen])).grows hg2)
  have HP9 := Lib.hid ((byt_sub Hcl.out 9 243 243 (by rw [Hml.out]; omega) (Nat.le_refl _) (by simp [maxLen])).grows hg2)
  rw [H3.out] at HP9
  clear hg2 hk1 hk2
  go_wp2_with fail
  refine (HN1.out _ _ HP0.out).mono ?_
  rintro e w3 ⟨rfl, rfl⟩
  go_wp2_with fail
  refine (HN8.out _ _ HP1.out).mono ?_
  rintro e w3 ⟨rfl, rfl⟩
  obtain ⟨B, HB⟩ : ∃ B, Hid (B = w2.heap.size) := ⟨_, Lib.hid rfl⟩
  have HBw : Hid (w.heap.size < B) := by show _ < _; rw [HB.out]; exact (Array.getElem?_eq_some_iff.1 HR2.out).1
  obtain ⟨W0, HW0⟩ : ∃ W0, Hid (W0 = w2.alloc (.cells #[.int .i64 (c : Int), .int .u64 (n : Int), .slice (some ⟨b, off + 9, none⟩) 243 243] 25)) := ⟨_, Lib.hid rfl⟩
  go_wp2_with (first
    | (go_at_call 14; refine (HK.out _).mono ?_; rintro e w4 ⟨rfl, rfl⟩)
    | (refine wpList_storeT rfl 25 (.tmp 2) (.tmp 40) rfl w.heap.size 25 _ #[.int .i64 c, .int .u64 n, .slice (some ⟨b, off + 9, none⟩) 243 243] rfl rfl ((Grows.alloc' _ _).heap' HR2.out) sizePg rfl (pgOne c n _ _ _) ?_))
  refine ret_cell_tmp rfl w.heap.size 25 #[.int .i64 c, .int .u64 n, .slice (some ⟨b, off + 9, none⟩) 243 243] _ rfl (setRow_heap _ _ _ _ _ _ ((Grows.alloc' _ _).heap' HR2.out)) Try.underlying25 rfl sizePg rfl ?_
  have hgz := below_setRow (Grows.trans' HG2.out (Grows.alloc' w2 (.cells #[.int .i64 (c : Int), .int .u64 (n : Int), .slice (some ⟨b, off + 9, none⟩) 243 243] 25))) (Nat.le_refl _) #[.int .i64 c, .int .u64 n, .slice (some ⟨b, off + 9, none⟩) 243 243]
  exact ⟨_, rfl, Byt.setRow_other (HP9.out.grows (Grows.alloc' _ _)) (Byt.other HP9.out (by rw [List.length_drop, Hml.out]) HR2.out (by simp)) _, hgz⟩

theorem vOpen (v : Value) (l : List UInt8) (w : World) (h : Byt w v l) :
    Calls Try.prog 9 #[v] w fun e w' => ∃ u, e = .returned (.tuple #[pgv (openP l).1.kind (openP l).1.lsn u, .int .i64 ((openP l).2 : Nat)]) ∧ Byt w' u (openP l).1.body ∧ Grows w w' := by
  by_cases hl : l.length = 256
  · cases hc : (checkC l).2 with
    | false =>
      rw [check_off l hl hc]
      exact (vOpen_check v l w h hl hc).mono fun e w' ⟨he, hg⟩ => ⟨_, he, Byt.nil _, hg⟩
    | true =>
      cases hk : isK (ofC (checkC l).1).kind with
      | false => exact vOpen_bad v l w h hl hc hk
      | true => exact vOpen_ok v l w h hl hc hk
  · have : openP l = (zeroP, 50) := by unfold openP; rw [if_neg hl]
    rw [this]
    exact (vOpen_len v l w h hl).mono fun e w' ⟨he, hg⟩ => ⟨_, he, Byt.nil _, hg⟩
end Go.Proofs.Ytfgnniajancpcaa
