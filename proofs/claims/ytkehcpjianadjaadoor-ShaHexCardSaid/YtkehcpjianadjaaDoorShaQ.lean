/-
  The contract of the document's own Parse of sha.
-/
import Derived.Test.YtkehcpjianadjaaDoorShaH
namespace Go.Proofs.YtkehcpjianadjaaDoor
open Go.RowKit
set_option linter.unusedVariables false
set_option linter.unusedSimpArgs false

/-- A digit's worth. -/
def isD (c : UInt8) : Bool := (decide (48 ≤ c.toNat) && decide (c.toNat ≤ 57)) || (decide (97 ≤ c.toNat) && decide (c.toNat ≤ 102))
def valD (c : UInt8) : UInt8 := if c.toNat ≤ 57 then UInt8.ofNat (c.toNat - 48) else UInt8.ofNat (c.toNat - 87)
/-- What stands in byte j behind i digits. -/
def partD (l : List UInt8) (i j : Nat) : UInt8 := if 2 * j + 2 ≤ i then valD (l.getD (2 * j) 0) * 16 + valD (l.getD (2 * j + 1) 0) else if 2 * j + 1 ≤ i then valD (l.getD (2 * j) 0) else 0
def partL (l : List UInt8) (i : Nat) : List UInt8 := (List.range 32).map (partD l i)
def parseF (l : List UInt8) : List UInt8 × Bool := if l.length = 64 ∧ l.all isD = true then (partL l 64, true) else (List.replicate 32 0, false)
theorem partL_length (l : List UInt8) (i : Nat) : (partL l i).length = 32 := by simp [partL]
theorem partL_zero (l : List UInt8) : partL l 0 = List.replicate 32 0 := by
  apply List.ext_getElem
  · simp [partL]
  · intro i h1 h2
    rw [List.getElem_replicate]
    simp only [partL, List.getElem_map, List.getElem_range]
    unfold partD
    rw [if_neg (by omega), if_neg (by omega)]
theorem partL_step (l : List UInt8) (i : Nat) (hi : i < 64) : partL l (i + 1) = (partL l i).set (i / 2) ((partL l i).getD (i / 2) 0 * 16 + valD (l.getD i 0)) := by
  have hlt : i / 2 < 32 := by omega
  apply List.ext_getElem
  · simp [partL]
  · intro j h1 h2
    have hj : j < 32 := by simpa [partL] using h1
    rw [List.getElem_set]
    have hg : (partL l i).getD (i / 2) 0 = partD l i (i / 2) := by simp [partL, hlt]
    simp only [hg]
    by_cases e : i / 2 = j
    · rw [if_pos e]
      subst e
      simp only [partL, List.getElem_map, List.getElem_range]
      unfold partD
      rcases Nat.mod_two_eq_zero_or_one i with h | h
      · rw [if_neg (by omega), if_pos (by omega), if_neg (by omega), if_neg (by omega), show 2 * (i / 2) = i by omega]
        simp
      · rw [if_pos (by omega), if_neg (by omega), if_pos (by omega), show 2 * (i / 2) + 1 = i by omega]
    · rw [if_neg e]
      simp only [partL, List.getElem_map, List.getElem_range]
      unfold partD
      by_cases h1 : 2 * j + 2 ≤ i
      · rw [if_pos (by omega), if_pos h1]
      · rw [if_neg (by omega), if_neg h1]
        by_cases h2 : 2 * j + 1 ≤ i
        · rw [if_pos (by omega), if_pos h2]
        · rw [if_neg (by omega), if_neg h2]

def arr (l : List UInt8) : Value := .agg (l.map bv).toArray
theorem arr_one (l : List UInt8) : ((l.map bv).toArray).all (·.oneCell') = true := by
  rw [Array.all_eq_true_iff_forall_mem]
  intro u hu
  simp at hu
  obtain ⟨b, _, rfl⟩ := hu
  rfl
theorem setRow_below {B g : Nat} {w0 w : World} (hb : Below B w0 w) (hBg : B ≤ g) (cs : Array Value) : Below B w0 (w.setRow g cs) :=
  hb.trans ⟨rfl, rfl, rfl, by simp [World.setRow], fun k hk => setRow_other w g k cs (by omega)⟩

set_option maxRecDepth 100000 in
theorem refParse_short (l : List UInt8) (hl : l.length ≠ 64) (hs : l.length ≤ 1099511627776) (w : World) :
    Calls Tryd.prog 15 #[.string ⟨l.toArray⟩] w fun e w' => e = .returned (.tuple #[arr (List.replicate 32 0), .bool false]) ∧ Grows w w' := by
  obtain ⟨Z, hZ, HZ⟩ := arrZ
  have hne : ¬ (l.length : Int) = 64 := by omega
  have hne' : ((l.length : Int) != 64) = true := by simpa using hne
  have hZs : Z.size = 32 := by rw [HZ.out]; simp
  have hone : Z.all (·.oneCell') = true := by rw [HZ.out]; exact arr_one _
  have hr2 : (w.alloc (.cells Z 24)).heap[w.heap.size]? = some (.cells Z 24 (0, 0)) := heap_alloc_new _ _
  have hr2' : ((w.alloc (.cells Z 24)).alloc (.cells Z 24)).heap[w.heap.size]? = some (.cells Z 24 (0, 0)) := (Below.heap_alloc _ _ _ (by simp)).trans hr2
  have hr4 : ((w.alloc (.cells Z 24)).alloc (.cells Z 24)).heap[w.heap.size + 1]? = some (.cells Z 24 (0, 0)) := by
    have := heap_alloc_new (w.alloc (.cells Z 24)) (.cells Z 24)
    simpa using this
  have hset := setRow_heap _ w.heap.size _ Z 24 _ hr2'
  have hbel := setRow_below (((Below.refl w.heap.size w).alloc (Nat.le_refl _) (.cells Z 24)).alloc (by simp) (.cells Z 24)) (Nat.le_refl _) Z
  clear hr2
  go_enter Tryd.func15, Tryd.ntmps15
  go_wp2_with (first
    | (refine wpList_allocT rfl 24 rfl _ hZ ?_)
    | (refine wpList_load_row rfl _ _ rfl (w.heap.size + 1) rfl 24 Z (0, 0) _ hr4 Tryd.underlying24 rfl (by rw [hZs]; exact infoArr2) ?_)
    | (refine wpList_storeT rfl _ _ _ rfl w.heap.size 24 Z Z rfl rfl hr2' (by rw [hZs]; exact infoArr2) rfl hone ?_))
  refine ret_cell_tmp rfl w.heap.size 24 _ _ rfl hset Tryd.underlying24 rfl (by rw [hZs]; exact infoArr2) rfl ⟨?_, hbel⟩
  unfold arr
  rw [← HZ.out]
  rfl

theorem u8_step (x n : UInt8) : ((x.toNat : Int) * 16 % 256 + (n.toNat : Int)) % 256 = (((x * 16 + n : UInt8).toNat : Nat) : Int) := by
  rw [UInt8.toNat_add, UInt8.toNat_mul]
  have : (16 : UInt8).toNat = 16 := rfl
  rw [this]
  omega

set_option maxRecDepth 100000 in
set_option maxHeartbeats 4000000 in
theorem refParse_64 (l : List UInt8) (hl : l.length = 64) (w : World) :
    Calls Tryd.prog 15 #[.string ⟨l.toArray⟩] w fun e w' => e = .returned (.tuple #[arr (parseF l).1, .bool (parseF l).2]) ∧ Grows w w' := by
  obtain ⟨Z, hZ, HZ⟩ := arrZ
  have hl64 : (l.length : Int) = 64 := by omega
  have hZs : Z.size = 32 := by rw [HZ.out]; simp
  have hone : Z.all (·.oneCell') = true := by rw [HZ.out]; exact arr_one _
  have h0 : ((w.alloc (.cells Z 24)).alloc (.cells Z 24)).heap[w.heap.size]? = some (.cells Z 24 (0, 0)) := (Below.heap_alloc _ _ _ (by simp)).trans (heap_alloc_new _ _)
  have h1 : ((w.alloc (.cells Z 24)).alloc (.cells Z 24)).heap[w.heap.size + 1]? = some (.cells ((partL l 0).map bv).toArray 24 (0, 0)) := by
    have := heap_alloc_new (w.alloc (.cells Z 24)) (.cells Z 24)
    rw [partL_zero, ← HZ.out]
    simpa using this
  have hB := (((Below.refl w.heap.size w).alloc (Nat.le_refl _) (.cells Z 24)).alloc (by simp) (.cells Z 24))
  have Hl := Lib.hid hl
  clear hl
  go_enter Tryd.func15, Tryd.ntmps15
  go_wp2_with (refine wpList_allocT rfl 24 rfl _ hZ ?_)
  go_loopw [5] (fun t5 wr => ∃ i : Nat, i ≤ 64 ∧ t5 = .int .i64 i ∧ wr.heap[w.heap.size + 1]? = some (.cells ((partL l i).map bv).toArray 24 (0, 0)) ∧ wr.heap[w.heap.size]? = some (.cells Z 24 (0, 0)) ∧ Below w.heap.size w wr ∧ Hid ((l.take i).all isD = true))
    (fun t5 _ => 64 - (intOf t5).toNat)
  case atStart => exact ⟨0, by omega, rfl, h1, h0, hB, by show _ = _; rfl⟩
  case round =>
    obtain ⟨i, hi, rfl, hr1, hr0, hBr, Hall⟩ := hrel
    clear h0 h1 hB
    by_cases hlt : i < 64
    · obtain ⟨c, Hc⟩ : ∃ c, Hid (l.getD i 0 = c) := ⟨_, rfl⟩
      have hget : ∀ h, ({ data := l.toArray } : ByteArray)[i]'h = c := fun h => by
        rw [← Hc.out]
        have hil : i < l.length := by have := Hl.out; omega
        show l.toArray[i]'_ = _
        simp [List.getD, hil]
      have hc256 := c.toNat_lt
      have hi3 : (i : Int) < 64 := by omega
      obtain ⟨m, hm⟩ : ∃ m : Nat, (i : Int) / 2 = (m : Int) := ⟨i / 2, by omega⟩
      have hm3 : (m : Int) < 32 := by omega
      obtain ⟨x, Hx⟩ : ∃ x, Hid ((partL l i).getD m 0 = x) := ⟨_, rfl⟩
      have hcell : wr.cell? ⟨w.heap.size + 1, m, none⟩ = some (.int .u8 (x.toNat : Int)) := by
        rw [cell_of_row wr _ m _ 24 (0, 0) hr1, ← Hx.out]
        have hm32 : m < (partL l i).length := by rw [partL_length]; omega
        simp [hm32, bv]
      have hfr := frozen_of_row wr (w.heap.size + 1) m _ 24 hr1
      have Hi := Lib.hid hlt
      have Hm : Hid (i / 2 = m) := by show _ = _; omega
      have Hr1 := Lib.hid hr1
      have Hr0 := Lib.hid hr0
      have HBr := Lib.hid hBr
      clear hr1 hr0 hBr hi hlt
      by_cases hD : isD c = true
      · obtain ⟨n, Hn⟩ : ∃ n, Hid (valD c = n) := ⟨_, rfl⟩
        have hv := u8_step x n
        have Hnext : Hid (partL l (i + 1) = (partL l i).set m (x * 16 + n)) := by
          show _ = _
          rw [partL_step l i Hi.out, Hm.out, Hx.out, Hc.out, Hn.out]
        obtain ⟨y, Hy⟩ : ∃ y, Hid (x * 16 + n = y) := ⟨_, rfl⟩
        rw [Hy.out] at hv Hnext
        have Hall2 : Hid ((l.take (i + 1)).all isD = true) := by
          show _ = _
          rw [take_snoc l i (by have := Hl.out; have := Hi.out; omega), List.all_append, Hall.out, Hc.out]
          simp [hD]
        have Hend : ∀ X : World, X = wr.setCell ⟨w.heap.size + 1, m, none⟩ (.int .u8 (y.toNat : Int)) → X.heap[w.heap.size + 1]? = some (.cells ((partL l (i + 1)).map bv).toArray 24 (0, 0)) ∧ X.heap[w.heap.size]? = some (.cells Z 24 (0, 0)) ∧ Below w.heap.size w X := fun X hX => by
          subst hX
          refine ⟨?_, ?_, Below.setCell (p := ⟨w.heap.size + 1, m, none⟩) HBr.out (Nat.le_succ _) _⟩
          · have := row_setCell Hr1.out m (bv y)
            rw [List.setIfInBounds_toArray, ← List.map_set, ← Hnext.out] at this
            exact this
          · exact (Below.heap_setCell wr _ _ w.heap.size (by simp)).trans Hr0.out
        have HE := Lib.hid Hend
        clear Hend
        by_cases h57 : c.toNat ≤ 57
        · have h48 : (48 : Int) ≤ (c.toNat : Int) := by unfold isD at hD; simp at hD; omega
          have h57' : (c.toNat : Int) ≤ 57 := by omega
          have hn : (c.toNat : Int) - 48 = (n.toNat : Int) := by
            rw [← Hn.out]; unfold valD; rw [if_pos h57, UInt8.toNat_ofNat']; omega
          have hv' : (x.toNat : Int) * 16 % 256 + (n.toNat : Int) = (y.toNat : Int) := by omega
          clear hD h57 hv
          go_wp2
          go_roundw
          case rel => exact ⟨i + 1, Hi.out, by simp, (HE.out _ rfl).1, (HE.out _ rfl).2.1, (HE.out _ rfl).2.2, Hall2⟩
          case measure => have := Hi.out; simp [intOf]; omega
        · have h97 : (97 : Int) ≤ (c.toNat : Int) := by unfold isD at hD; simp at hD; omega
          have h102 : (c.toNat : Int) ≤ 102 := by unfold isD at hD; simp at hD; omega
          have h57' : ¬ (c.toNat : Int) ≤ 57 := by omega
          have h48 : (48 : Int) ≤ (c.toNat : Int) := by omega
          obtain ⟨m1, hm1⟩ : ∃ k : Nat, (c.toNat : Int) - 97 = (k : Int) := ⟨c.toNat - 97, by omega⟩
          have hm15 : (m1 : Int) ≤ 5 := by omega
          have hn : (m1 : Int) + 10 = (n.toNat : Int) := by
            rw [← Hn.out]; unfold valD; rw [if_neg h57, UInt8.toNat_ofNat']; omega
          have hv' : (x.toNat : Int) * 16 % 256 + (n.toNat : Int) = (y.toNat : Int) := by omega
          clear hD h57 hv
          go_wp2
          go_roundw
          case rel => exact ⟨i + 1, Hi.out, by simp, (HE.out _ rfl).1, (HE.out _ rfl).2.1, (HE.out _ rfl).2.2, Hall2⟩
          case measure => have := Hi.out; simp [intOf]; omega
      · have HP : Hid (parseF l = (List.replicate 32 0, false)) := by
          show _ = _
          unfold parseF
          rw [if_neg]
          rintro ⟨_, ha⟩
          have hil : i < l.length := by have := Hl.out; have := Hi.out; omega
          have h2 := List.all_eq_true.1 ha (l.getD i 0) (by rw [List.getD, List.getElem?_eq_getElem hil, Option.getD_some]; exact List.getElem_mem hil)
          rw [Hc.out] at h2
          exact hD h2
        have hset := setRow_heap _ w.heap.size _ Z 24 _ Hr0.out
        have hbel := setRow_below HBr.out (Nat.le_refl _) Z
        have hr0 := Hr0.out
        have hnd : (c.toNat : Int) < 48 ∨ ((57 : Int) < (c.toNat : Int) ∧ (c.toNat : Int) < 97) ∨ (102 : Int) < (c.toNat : Int) := by unfold isD at hD; simp at hD; omega
        clear hD hcell hfr
        rcases hnd with h | ⟨h, h'⟩ | h
        all_goals
          go_wp2_with (first
            | (refine wpList_buildT rfl 24 rfl 32 5 Tryd.underlying24 Z hZ (by kernel_rfl) ?_)
            | (refine wpList_storeT rfl _ _ _ rfl w.heap.size 24 Z Z rfl rfl hr0 (by rw [hZs]; exact infoArr2) rfl hone ?_))
          refine ret_cell_tmp rfl w.heap.size 24 _ _ rfl hset Tryd.underlying24 rfl (by rw [hZs]; exact infoArr2) rfl ⟨?_, hbel⟩
          rw [HP.out]
          unfold arr
          rw [← HZ.out]
          rfl
    · have h64 : i = 64 := by omega
      rw [h64] at hr1 Hall
      have HP : Hid (parseF l = (partL l 64, true)) := by
        show _ = _
        unfold parseF
        have h3 := Hall.out
        rw [List.take_of_length_le (by have := Hl.out; omega)] at h3
        rw [if_pos ⟨Hl.out, h3⟩]
      have hps : ((partL l 64).map bv).toArray.size = 32 := by simp [partL_length]
      have hset := setRow_heap _ w.heap.size _ ((partL l 64).map bv).toArray 24 _ hr0
      have hbel := setRow_below hBr (Nat.le_refl _) ((partL l 64).map bv).toArray
      have hone2 := arr_one (partL l 64)
      clear h64
      go_wp2_with (first
        | (refine wpList_load_row rfl _ _ rfl (w.heap.size + 1) rfl 24 ((partL l 64).map bv).toArray (0, 0) _ hr1 Tryd.underlying24 rfl (by rw [hps]; exact infoArr2) ?_)
        | (refine wpList_storeT rfl _ _ _ rfl w.heap.size 24 Z ((partL l 64).map bv).toArray rfl rfl hr0 (by rw [hps]; exact infoArr2) (by rw [hZs, hps]) hone2 ?_))
      refine ret_cell_tmp rfl w.heap.size 24 _ _ rfl hset Tryd.underlying24 rfl (by rw [hps]; exact infoArr2) rfl ⟨?_, hbel⟩
      rw [HP.out]
      rfl

theorem refParse (l : List UInt8) (hs : l.length ≤ 1099511627776) (w : World) :
    Calls Tryd.prog 15 #[.string ⟨l.toArray⟩] w fun e w' => e = .returned (.tuple #[arr (parseF l).1, .bool (parseF l).2]) ∧ Grows w w' := by
  by_cases hl : l.length = 64
  · exact refParse_64 l hl w
  · have h : parseF l = (List.replicate 32 0, false) := by unfold parseF; rw [if_neg (fun h => hl h.1)]
    rw [h]
    exact refParse_short l hl hs w
end Go.Proofs.YtkehcpjianadjaaDoor
