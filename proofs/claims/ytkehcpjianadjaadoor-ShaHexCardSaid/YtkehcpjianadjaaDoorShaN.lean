/-
  Contracts of the program's own Hex and Parse of sha, and of a Builder's WriteByte.
-/
import Derived.Test.YtkehcpjianadjaaDoorShaM
import Derived.Test.YtkehcpjianadjaaDoorLib
namespace Go.Proofs.YtkehcpjianadjaaDoor
open Go.RowKit
set_option linter.unusedVariables false
set_option linter.unusedSimpArgs false

theorem bldSize : (Tryd.prog.info? 60).map (·.size) = some 2 := by kernel_rfl
theorem bldLies : liesAt Tryd.prog Tryd.prog.depth 60 (2 / Tryd.prog.cellsOf 60) 0 60 1 = true := by kernel_rfl
set_option maxHeartbeats 1000000 in
set_option maxRecDepth 100000 in
theorem copyCheck_used (b : Nat) (w : World) (h0 : w.cell? ⟨b, 0, none⟩ = some (.pointer (some ⟨b, 0, none⟩))) :
    Calls Tryd.prog 34 #[.pointer (some ⟨b, 0, none⟩)] w fun e w' => e = .returned (.tuple #[]) ∧ w' = w := by
  obtain ⟨j, hj, _⟩ := Option.map_eq_some_iff.1 bldSize
  go_enter Tryd.func34, Tryd.ntmps34
  go_wp2
  rw [Lib.run_neq_ptr_same w _ Tryd.underlying58 hj]
  go_wp2
  go_end0
  exact ⟨rfl, rfl⟩
set_option maxHeartbeats 1000000 in
set_option maxRecDepth 100000 in
theorem copyCheck_fresh (b : Nat) (w : World) (h0 : w.cell? ⟨b, 0, none⟩ = some (.pointer none)) (hsh : w.shape? b = some (60, 2)) (hfz : w.frozen? ⟨b, 0, none⟩ = false) :
    Calls Tryd.prog 34 #[.pointer (some ⟨b, 0, none⟩)] w fun e w' => e = .returned (.tuple #[]) ∧ w' = w.setCell ⟨b, 0, none⟩ (.pointer (some ⟨b, 0, none⟩)) := by
  obtain ⟨j, hj, hjs⟩ := Option.map_eq_some_iff.1 bldSize
  go_enter Tryd.func34, Tryd.ntmps34
  go_wp2
  rw [Lib.run_to_unsafe w ⟨b, 0, none⟩ Tryd.underlying58 Tryd.underlying76 hj (by rw [hjs]; decide) hsh (Nat.zero_lt_succ 1)]
  simp only [Result.andThen]
  rw [Oper.upon_value]
  go_wp2
  rw [run_callFunc_extern Tryd.func40 (by kernel_rfl) (by kernel_rfl) (by kernel_rfl) (e := Extern.AbiNoEscape.same) (by kernel_rfl)]
  rw [Lib.run_noEscape]
  simp only [Result.andThen]
  rw [Oper.upon_value]
  go_wp2
  rw [Lib.run_from_unsafe w ⟨b, 0, none⟩ Tryd.underlying76 Tryd.underlying58 hj hsh bldLies]
  simp only [Result.andThen]
  rw [Oper.upon_value]
  go_wp2
  go_end0
  exact ⟨rfl, rfl⟩
theorem copyCheck_any (B b : Nat) (bs : List Value) (w : World) (h : Lib.IsBuilder 60 5 B b bs w) :
    Calls Tryd.prog 34 #[.pointer (some ⟨b, 0, none⟩)] w fun e w' => e = .returned (.tuple #[]) ∧ (Lib.BuilderAt 60 5 B b (.pointer (some ⟨b, 0, none⟩)) bs w' ∧ Below B w w') := by
  rcases h with h | h
  · refine (copyCheck_fresh b w h.cell0 h.shape h.frozen0).mono ?_
    rintro e w' ⟨rfl, rfl⟩
    exact ⟨rfl, h.used _, (Below.refl B w).setCell (p := ⟨b, 0, none⟩) h.1 _⟩
  · refine (copyCheck_used b w h.cell0).mono ?_
    rintro e w' ⟨rfl, rfl⟩
    exact ⟨rfl, h, Below.refl B _⟩
set_option maxHeartbeats 2000000 in
set_option maxRecDepth 100000 in
theorem vWriteByte (B b : Nat) (bs : List Value) (c : Int) (w : World) (h : Lib.IsBuilder 60 5 B b bs w) (hlen : bs.length + 1 ≤ 140737488355328) (hBw : B ≤ w.heap.size) :
    Calls Tryd.prog 25 #[.pointer (some ⟨b, 0, none⟩), .int .u8 c] w fun e w' => e = .returned .nilIface ∧ (Lib.BuilderAt 60 5 B b (.pointer (some ⟨b, 0, none⟩)) (bs ++ [.int .u8 c]) w' ∧ Below B w w') := by
  obtain ⟨i0, hi, hz0, hz1, hz2⟩ := info_parts info5
  go_enter Tryd.func25, Tryd.ntmps25
  go_wp2_with fail
  refine (copyCheck_any B b bs _ h).mono ?_
  rintro e w1 ⟨rfl, h1, hb1⟩
  obtain ⟨hB, v, hbk, hown, hne⟩ := h1
  have c0 : w1.cell? ⟨b, 0, none⟩ = some (.pointer (some ⟨b, 0, none⟩)) := by rw [Lib.cell_of_heap hbk]; rfl
  have c1 : w1.cell? ⟨b, 1, none⟩ = some v := by rw [Lib.cell_of_heap hbk]; rfl
  go_wp2_with (at_builtin; refine wpList_append_own _ rfl _ _ 22 rfl B 5 i0 (.int .u8 0) 1 1 Tryd.underlying22 hi hz0 hz1 hz2 rfl (by decide) _ _ _ rfl (hown.alloc _) ⟨w1.heap.size, 0, none⟩ 1 1 [.int .u8 c] rfl rfl ?c1 ?c2 ?c3 ?c4 ?c5 ?_)
  case c1 =>
    intro j u hj
    match j, hj with
    | 0, hj => simp at hj; subst hj; simp [Addr.add]
  case c2 => intro u hu; simp at hu; subst hu; rfl
  case c3 => unfold maxLen; omega
  case c4 => omega
  case c5 => have := hb1.size; simp; omega
  intro v' w2 hown' hgrow _
  have hlt : b < w1.heap.size := by
    rcases Nat.lt_or_ge b w1.heap.size with h' | h'
    · exact h'
    · simp [Array.getElem?_eq_none h'] at hbk
  have hb2 : w2.heap[b]? = some (.cells #[.pointer (some ⟨b, 0, none⟩), v] 60 (0, 0)) := by
    rw [hgrow.block b (by simp; omega) (fun e => hne e.symm), Lib.alloc_old w1 _ b hlt]
    exact hbk
  have d0 : w2.cell? ⟨b, 0, none⟩ = some (.pointer (some ⟨b, 0, none⟩)) := by rw [Lib.cell_of_heap hb2]; rfl
  have d1 : w2.cell? ⟨b, 1, none⟩ = some v := by rw [Lib.cell_of_heap hb2]; rfl
  have f1 : w2.frozen? ⟨b, 1, none⟩ = false := Lib.frozen_of_heap hb2 1
  obtain ⟨g, cap, rfl⟩ : ∃ g cap, v' = .slice (some ⟨g, 0, none⟩) (bs.length + 1) cap := by
    rcases hown'.2 with ⟨_, h0⟩ | ⟨g, cap, cur, hv, _⟩
    · omega
    · exact ⟨g, cap, hv⟩
  go_wp2
  go_ret
  refine ⟨rfl, ?_, ?_⟩
  · exact Lib.BuilderAt.put (T := 60) (e := 5) hB hb2 (bs' := bs ++ [.int .u8 c]) (by simpa using hown') (by decide)
  · exact ((hb1.alloc (by have := hb1.size; omega) _).grown hgrow (by have := hb1.size; simp; omega) (fun k hk => (hown.lt k hk).1)).setCell (p := ⟨b, 1, none⟩) hB _

theorem run_index_arr (C : Array Value) (i : Nat) (c : Int) (hc : C[i]? = some (.int .u8 c)) (hi : i < 32) (X : World) : (Instr.index 25 (.agg C) (.int .i64 (i : Int))).run Tryd.prog X = .ok (.int .u8 c) X := by
  obtain ⟨i0, hi0, hz0, hz1, hz2⟩ := info_parts info5
  have h1 : (0 : Int) ≤ (i : Int) ∧ (i : Int) < 32 := by omega
  have ha := Tryd.isAgg5 X
  simp [Instr.index, asIntOf, run_underlying Tryd.underlying25, sizeOf, typeInfo, hi0, hz1, h1, part, ha, hc, show (i : Int) < 32 by omega]
  intro h32
  omega
/-! Hex. -/
def hexT : ByteArray := { data := #[48, 49, 50, 51, 52, 53, 54, 55, 56, 57, 97, 98, 99, 100, 101, 102] }
theorem hexT_get (q : Nat) (hq : q < 16) (h : q < ({ data := #[48, 49, 50, 51, 52, 53, 54, 55, 56, 57, 97, 98, 99, 100, 101, 102] } : ByteArray).size) : ({ data := #[48, 49, 50, 51, 52, 53, 54, 55, 56, 57, 97, 98, 99, 100, 101, 102] } : ByteArray)[q] = hexd q := by
  have h2 : ∀ q < 16, (#[48, 49, 50, 51, 52, 53, 54, 55, 56, 57, 97, 98, 99, 100, 101, 102] : Array UInt8).getD q 0 = hexd q := by decide +kernel
  have h1 := h2 q hq
  rw [← h1]
  show (#[48, 49, 50, 51, 52, 53, 54, 55, 56, 57, 97, 98, 99, 100, 101, 102] : Array UInt8)[q]'_ = _
  simp [Array.getD]
  intro h16
  omega
theorem low4 : ∀ n < 256, bits .and .u8 ((n : Nat) : Int) 15 = ((n % 16 : Nat) : Int) := by decide +kernel
theorem bldZ : ∃ Z : Array Value, ((Tryd.prog.info? 60).bind (fun i => i.zero)).map (fun z => z.cells) = some Z ∧ Shut (Z = #[.pointer none, .slice none 0 0]) := ⟨_, by kernel_rfl, ⟨rfl⟩⟩
theorem hexF_next (l : List UInt8) (i : Nat) (hi : i < l.length) : hexF (l.take (i + 1)) = (hexF (l.take i) ++ [hexd ((l.getD i 0).toNat / 16)]) ++ [hexd ((l.getD i 0).toNat % 16)] := by
  rw [take_snoc l i hi, hexF_snoc]
set_option maxHeartbeats 2000000 in
set_option maxRecDepth 100000 in
theorem vHex (W : World) (l : List UInt8) (hl : l.length = 32) : Calls Tryd.prog 16 #[arr l] W fun e W' => e = .returned (.string ⟨(hexF l).toArray⟩) ∧ Grows W W' := by
  obtain ⟨C, HC⟩ : ∃ C, Shut (arr l = .agg C) := ⟨_, ⟨rfl⟩⟩
  obtain ⟨hCs, hC1⟩ := arrSize l hl C HC.out
  obtain ⟨Z, hZ, HZ⟩ := bldZ
  have hCg : ∀ i, i < 32 → C[i]? = some (bv (l.getD i 0)) := fun i hi => by
    have h := HC.out
    unfold arr at h
    simp only [Value.agg.injEq] at h
    rw [← h]
    simp [hl, hi]
  have HCg := Lib.hid hCg
  have Hl := Lib.hid hl
  rw [HC.out]
  have h0 := heap_alloc_new W (.cells C 25)
  clear hCg hl
  go_enter Tryd.func16, Tryd.ntmps16
  go_wp2_with (first
    | (refine wpList_boxT rfl _ _ rfl C rfl ?_)
    | (refine wpList_allocT rfl 60 rfl _ hZ ?_)
    | (refine wpList_load_row rfl _ _ rfl W.heap.size rfl 25 C (0, 0) _ ((Grows.alloc' _ _).heap' h0) Tryd.underlying25 rfl (by rw [hCs]; exact infoSum) ?_))
  have hG1 : Grows W ((W.alloc (.cells C 25)).alloc (.cells Z 60)) := Grows.trans' (Grows.alloc' _ _) (Grows.alloc' _ _)
  have hB1 : Lib.IsBuilder 60 5 W.heap.size (W.heap.size + 1) ((hexF (l.take 0)).map bv) ((W.alloc (.cells C 25)).alloc (.cells Z 60)) := by
    have h := heap_alloc_new (W.alloc (.cells C 25)) (.cells Z 60)
    rw [show (W.alloc (.cells C 25)).heap.size = W.heap.size + 1 by simp, HZ.out] at h
    refine .inl ⟨by omega, .slice none 0 0, ?_, ?_, by simp [Value.ownBlock]⟩
    · rw [HZ.out]; exact h
    · exact Own.nil 5 W.heap.size _
  obtain ⟨w1, hw1⟩ : ∃ x, (W.alloc (.cells C 25)).alloc (.cells Z 60) = x := ⟨_, rfl⟩
  obtain ⟨gB, hgB⟩ : ∃ n, W.heap.size + 1 = n := ⟨_, rfl⟩
  rw [hw1] at hG1 hB1 ⊢
  rw [hgB] at hB1 ⊢
  clear hw1 hgB h0
  go_loopw [7] (fun t7 wr => ∃ i : Nat, i ≤ 32 ∧ t7 = .int .i64 i ∧ Lib.IsBuilder 60 5 W.heap.size gB ((hexF (l.take i)).map bv) wr ∧ Grows W wr)
    (fun t7 _ => 32 - (intOf t7).toNat)
  case atStart => exact ⟨0, by omega, rfl, hB1, hG1⟩
  case round =>
    obtain ⟨i, hi32, rfl, hB, hG⟩ := hrel
    clear hB1 hG1
    have HB := Lib.hid hB
    have HG := Lib.hid hG
    clear hB hG
    by_cases hlt : i < 32
    · have hi' : (i : Int) < 32 := by omega
      have hi3 : ¬ (32 ≤ (i : Int)) := by omega
      obtain ⟨c, Hc⟩ : ∃ c, Hid (l.getD i 0 = c) := ⟨_, rfl⟩
      have hCi : C[i]? = some (.int .u8 (c.toNat : Int)) := by rw [HCg.out i hlt, Hc.out]; rfl
      have hc256 := c.toNat_lt
      have hlo := low4 c.toNat hc256
      obtain ⟨q1, hq1⟩ : ∃ n : Nat, (c.toNat : Int) / 16 = (n : Int) := ⟨c.toNat / 16, by omega⟩
      obtain ⟨q2, hq2⟩ : ∃ n : Nat, c.toNat % 16 = n := ⟨_, rfl⟩
      rw [hq2] at hlo
      have hq1l : (q1 : Int) < 16 := by omega
      have hq2l : (q2 : Int) < 16 := by omega
      have hg1 := hexT_get q1 (by omega)
      have hg2 := hexT_get q2 (by omega)
      have Hnx : Hid (hexF (l.take (i + 1)) = (hexF (l.take i) ++ [hexd q1]) ++ [hexd q2]) := by
        show _ = _
        rw [hexF_next l i (by rw [Hl.out]; exact hlt), Hc.out, hq2, show c.toNat / 16 = q1 by omega]
      have Hlen : Hid ((hexF (l.take i)).length ≤ 64) := by show _ ≤ _; rw [hexF_length, List.length_take]; omega
      have Hi := Lib.hid hlt
      clear hlt hi32 hq2
      have hix := run_index_arr C i _ hCi (by omega)
      clear hCi
      go_wp2_with fail
      refine (vWriteByte W.heap.size gB _ _ _ HB.out (by rw [List.length_map]; have := Hlen.out; omega) HG.out.size).mono ?_
      rintro e w5 ⟨rfl, hb5, hbl5⟩
      have HB5 : Hid (Lib.IsBuilder 60 5 W.heap.size gB ((hexF (l.take i) ++ [hexd q1]).map bv) w5) := by
        refine .inr ?_
        rw [List.map_append]
        exact hb5
      have HG5 : Hid (Grows W w5) := Below.trans HG.out hbl5
      clear hb5 hbl5
      go_wp2_with fail
      refine (vWriteByte W.heap.size gB _ _ _ HB5.out (by rw [List.length_map, List.length_append]; have := Hlen.out; simp; omega) HG5.out.size).mono ?_
      rintro e w6 ⟨rfl, hb6, hbl6⟩
      have HB6 : Hid (Lib.IsBuilder 60 5 W.heap.size gB ((hexF (l.take (i + 1))).map bv) w6) := by
        refine .inr ?_
        rw [Hnx.out, List.map_append]
        exact hb6
      have HG6 : Hid (Grows W w6) := Below.trans HG5.out hbl6
      clear hb6 hbl6
      go_wp2
      go_roundw
      case rel => exact ⟨i + 1, Hi.out, by simp, HB6.out, HG6.out⟩
      case measure => have := Hi.out; simp [intOf]; omega
    · have hi' : ¬ (i : Int) < 32 := by omega
      have HBl : Hid (Lib.IsBuilder 60 5 W.heap.size gB (Lib.byteCells (hexF l)) wr) := by
        have h := HB.out
        rw [List.take_of_length_le (by rw [Hl.out]; omega)] at h
        exact h
      clear hlt hi32
      go_wp2_with fail
      refine (Builder_String_any W.heap.size gB (hexF l) wr HBl.out HG.out.size).mono ?_
      rintro e w5 ⟨rfl, hbl5⟩
      go_wp2
      go_ret
      exact ⟨rfl, Below.trans HG.out hbl5⟩

/-! Parse. -/
theorem idxD : ∀ n < 256, (isD (UInt8.ofNat n) = true → Lib.indexByte [48, 49, 50, 51, 52, 53, 54, 55, 56, 57, 97, 98, 99, 100, 101, 102] (UInt8.ofNat n) = ((valD (UInt8.ofNat n)).toNat : Int) ∧ (valD (UInt8.ofNat n)).toNat < 16) ∧ (isD (UInt8.ofNat n) = false → Lib.indexByte [48, 49, 50, 51, 52, 53, 54, 55, 56, 57, 97, 98, 99, 100, 101, 102] (UInt8.ofNat n) = -1) := by decide +kernel
theorem idxD' (c : UInt8) : (isD c = true → Lib.indexByte [48, 49, 50, 51, 52, 53, 54, 55, 56, 57, 97, 98, 99, 100, 101, 102] c = ((valD c).toNat : Int) ∧ (valD c).toNat < 16) ∧ (isD c = false → Lib.indexByte [48, 49, 50, 51, 52, 53, 54, 55, 56, 57, 97, 98, 99, 100, 101, 102] c = -1) := by
  have h := idxD c.toNat c.toNat_lt
  rwa [UInt8.ofNat_toNat] at h
theorem vIdx (c : UInt8) (z : Int) (hz : Lib.indexByte [48, 49, 50, 51, 52, 53, 54, 55, 56, 57, 97, 98, 99, 100, 101, 102] c = z) (w : World) :
    Calls Tryd.prog 24 #[.string { data := #[48, 49, 50, 51, 52, 53, 54, 55, 56, 57, 97, 98, 99, 100, 101, 102] }, .int .u8 (c.toNat : Int)] w fun e w' => e = .returned (.int .i64 z) ∧ w' = w := by
  have h := strings_IndexByte { data := #[48, 49, 50, 51, 52, 53, 54, 55, 56, 57, 97, 98, 99, 100, 101, 102] } (c.toNat : Int) w
  have h2 : ((c.toNat : Int)).toNat.toUInt8 = c := by simp
  rw [h2, show ({ data := #[48, 49, 50, 51, 52, 53, 54, 55, 56, 57, 97, 98, 99, 100, 101, 102] } : ByteArray).data.toList = [48, 49, 50, 51, 52, 53, 54, 55, 56, 57, 97, 98, 99, 100, 101, 102] from rfl, hz] at h
  exact h
theorem orD : ∀ h < 16, ∀ l < 16, bits .or .i64 (((h : Nat) : Int) * 16) ((l : Nat) : Int) = ((h * 16 + l : Nat) : Int) := by decide +kernel
theorem partL_two (l : List UInt8) (i : Nat) (hi : i < 32) : partL l (2 * (i + 1)) = (partL l (2 * i)).set i (valD (l.getD (2 * i) 0) * 16 + valD (l.getD (2 * i + 1) 0)) := by
  apply List.ext_getElem
  · simp [partL]
  · intro j h1 h2
    rw [List.getElem_set]
    by_cases e : i = j
    · rw [if_pos e]
      subst e
      simp only [partL, List.getElem_map, List.getElem_range]
      unfold partD
      rw [if_pos (by omega)]
    · rw [if_neg e]
      simp only [partL, List.getElem_map, List.getElem_range]
      unfold partD
      by_cases h3 : 2 * j + 2 ≤ 2 * i
      · rw [if_pos (by omega), if_pos h3]
      · rw [if_neg (by omega), if_neg h3, if_neg (by omega), if_neg (by omega)]
theorem pairU8 (a b : UInt8) (ha : a.toNat < 16) (hb : b.toNat < 16) : (((a.toNat * 16 + b.toNat : Nat) : Int)) % 256 = (((a * 16 + b : UInt8).toNat : Nat) : Int) := by
  rw [UInt8.toNat_add, UInt8.toNat_mul]
  have : (16 : UInt8).toNat = 16 := rfl
  rw [this]
  omega
theorem parseF_bad (l : List UInt8) (i : Nat) (hi : i < l.length) (h : isD (l.getD i 0) = false) : parseF l = (List.replicate 32 0, false) := by
  unfold parseF
  rw [if_neg]
  rintro ⟨_, ha⟩
  have h2 := List.all_eq_true.1 ha (l.getD i 0) (by rw [List.getD, List.getElem?_eq_getElem hi, Option.getD_some]; exact List.getElem_mem hi)
  rw [h] at h2
  cases h2
theorem elSome : (Tryd.prog.info? 5).isSome = true := by kernel_rfl

set_option maxHeartbeats 2000000 in
set_option maxRecDepth 100000 in
theorem vParse_short (W : World) (l : List UInt8) (hl : l.length ≠ 64) (hs : l.length ≤ 1099511627776) : Calls Tryd.prog 14 #[.string ⟨l.toArray⟩] W fun e W' => e = .returned (.tuple #[arr (List.replicate 32 0), .bool false]) ∧ Grows W W' := by
  obtain ⟨Z, hZ, HZ⟩ := arr25
  have hZs : Z.size = 32 := by rw [HZ.out]; simp
  have hone : Z.all (·.oneCell') = true := by rw [HZ.out]; exact arr_one _
  have hne : ¬ (l.length : Int) = 64 := by omega
  have hne' : ((l.length : Int) != 64) = true := by simpa using hne
  have h0 := heap_alloc_new W (.cells Z 25)
  obtain ⟨hb, hg⟩ := allocSet W Z Z 25
  have hel := elSome
  go_enter Tryd.func14, Tryd.ntmps14
  go_wp2_with (first
    | (refine wpList_allocT rfl 25 rfl _ hZ ?_)
    | (refine wpList_buildT rfl 25 rfl 32 5 Tryd.underlying25 Z hZ hel ?_)
    | (refine wpList_storeT rfl _ _ _ rfl W.heap.size 25 Z Z rfl rfl h0 (by rw [hZs]; exact infoSum) rfl hone ?_))
  refine ret_cell_tmp rfl W.heap.size 25 Z _ rfl hb Tryd.underlying25 rfl (by rw [hZs]; exact infoSum) rfl ⟨?_, hg⟩
  unfold arr
  rw [← HZ.out]
  rfl

set_option maxHeartbeats 4000000 in
set_option maxRecDepth 100000 in
theorem vParse_64 (W : World) (l : List UInt8) (hl : l.length = 64) : Calls Tryd.prog 14 #[.string ⟨l.toArray⟩] W fun e W' => e = .returned (.tuple #[arr (parseF l).1, .bool (parseF l).2]) ∧ Grows W W' := by
  have hmx : Tryd.prog.follows .mixedOrders = true := by kernel_rfl
  obtain ⟨Z, hZ, HZ⟩ := arr25
  have hZs : Z.size = 32 := by rw [HZ.out]; simp
  have hone : Z.all (·.oneCell') = true := by rw [HZ.out]; exact arr_one _
  have hl64 : (l.length : Int) = 64 := by omega
  have hl64' : ((l.length : Int) != 64) = false := by simp [hl64]
  have hel := elSome
  have Hl := Lib.hid hl
  have hB : Grows W ((W.alloc (.cells Z 25)).alloc (.cells Z 25)) := Grows.trans' (Grows.alloc' _ _) (Grows.alloc' _ _)
  have h0 : ((W.alloc (.cells Z 25)).alloc (.cells Z 25)).heap[W.heap.size]? = some (.cells Z 25 (0, 0)) := (Grows.alloc' _ _).heap' (heap_alloc_new W _)
  have h1 : ((W.alloc (.cells Z 25)).alloc (.cells Z 25)).heap[W.heap.size + 1]? = some (.cells ((partL l (2 * 0)).map bv).toArray 25 (0, 0)) := by
    have h := heap_alloc_new (W.alloc (.cells Z 25)) (.cells Z 25)
    rw [show (W.alloc (.cells Z 25)).heap.size = W.heap.size + 1 by simp] at h
    rw [h, partL_zero, HZ.out]
  clear hl
  go_enter Tryd.func14, Tryd.ntmps14
  go_wp2_with (refine wpList_allocT rfl 25 rfl _ hZ ?_)
  obtain ⟨w1, hw1⟩ : ∃ x, (W.alloc (.cells Z 25)).alloc (.cells Z 25) = x := ⟨_, rfl⟩
  obtain ⟨gO, hgO⟩ : ∃ n, W.heap.size + 1 = n := ⟨_, rfl⟩
  obtain ⟨gR, hgR⟩ : ∃ n, W.heap.size = n := ⟨_, rfl⟩
  have Hne : Hid (W.heap.size ≤ gR ∧ W.heap.size ≤ gO ∧ gR ≠ gO) := by show _ ∧ _; omega
  rw [hw1] at hB h0 h1 ⊢
  rw [hgO] at h1 ⊢
  rw [hgR] at h0 ⊢
  clear hw1 hgO hgR
  go_loopw [12] (fun t12 wr => ∃ i : Nat, i ≤ 32 ∧ t12 = .int .i64 i ∧ wr.heap[gO]? = some (.cells ((partL l (2 * i)).map bv).toArray 25 (0, 0)) ∧ wr.heap[gR]? = some (.cells Z 25 (0, 0)) ∧ Grows W wr ∧ Hid ((l.take (2 * i)).all isD = true))
    (fun t12 _ => 32 - (intOf t12).toNat)
  case atStart => exact ⟨0, by omega, rfl, h1, h0, hB, by show _ = _; rfl⟩
  case round =>
    obtain ⟨i, hi32, rfl, hr1, hr0, hBr, Hall⟩ := hrel
    clear h0 h1 hB
    have Hr1 := Lib.hid hr1
    have Hr0 := Lib.hid hr0
    have HBr := Lib.hid hBr
    clear hr1 hr0 hBr
    by_cases hlt : i < 32
    · have hi' : (i : Int) < 32 := by omega
      have hi3 : ¬ (32 ≤ (i : Int)) := by omega
      obtain ⟨p0, hp0⟩ : ∃ x : Nat, (2 : Int) * (i : Int) = (x : Int) := ⟨2 * i, by omega⟩
      obtain ⟨p1, hp1⟩ : ∃ x : Nat, (p0 : Int) + 1 = (x : Int) := ⟨p0 + 1, by omega⟩
      have Hp : Hid (p0 = 2 * i ∧ p1 = 2 * i + 1) := by show _ ∧ _; omega
      obtain ⟨c, Hc⟩ : ∃ c, Hid (l.getD p0 0 = c) := ⟨_, rfl⟩
      obtain ⟨d, Hd⟩ : ∃ c, Hid (l.getD p1 0 = c) := ⟨_, rfl⟩
      have hp0l : ¬ (64 ≤ (p0 : Int)) := by omega
      have hp1l : ¬ (64 ≤ (p1 : Int)) := by omega
      have hp0m : (p0 : Int) < 64 := by omega
      have hp1m : (p1 : Int) < 64 := by omega
      have hgc : ∀ h, ({ data := l.toArray } : ByteArray)[p0]'h = c := fun h => by
        rw [← Hc.out]
        have hil : p0 < l.length := by have := Hl.out; omega
        show l.toArray[p0]'_ = _
        simp [List.getD, hil]
      have hgd : ∀ h, ({ data := l.toArray } : ByteArray)[p1]'h = d := fun h => by
        rw [← Hd.out]
        have hil : p1 < l.length := by have := Hl.out; omega
        show l.toArray[p1]'_ = _
        simp [List.getD, hil]
      have Hi := Lib.hid hlt
      have hfr := frozen_of_row wr gO i _ 25 Hr1.out
      have hcell : wr.cell? ⟨gO, i, none⟩ = some (bv ((partL l (2 * i)).getD i 0)) := by
        rw [cell_of_row wr _ i _ 25 (0, 0) Hr1.out]
        have hm32 : i < (partL l (2 * i)).length := by rw [partL_length]; omega
        simp [hm32]
      obtain ⟨x0, Hx0⟩ : ∃ x, Hid ((partL l (2 * i)).getD i 0 = x) := ⟨_, rfl⟩
      rw [Hx0.out] at hcell
      unfold bv at hcell
      have Hcell := Lib.hid hcell
      have Hfr := Lib.hid hfr
      clear hlt hi32 hcell hfr
      have ABORT : ∀ (_ : parseF l = (List.replicate 32 0, false)), True := fun _ => trivial
      cases hDc : isD c with
      | false =>
        have hzc := (idxD' c).2 hDc
        obtain ⟨zd, hzd⟩ : ∃ z, Lib.indexByte [48, 49, 50, 51, 52, 53, 54, 55, 56, 57, 97, 98, 99, 100, 101, 102] d = z := ⟨_, rfl⟩
        have Hzc := Lib.hid hzc
        have Hzd := Lib.hid hzd
        have HP := Lib.hid (parseF_bad l p0 (by have := Hl.out; omega) (by rw [Hc.out]; exact hDc))
        clear hzc hzd hDc ABORT
        go_wp2
        refine specs_region
          #[[], [], [1], [0, 1, 2], [0, 1, 2, 3], [], [], [6], [6, 7], [5, 6, 7, 8], [0, 1, 2, 3, 4, 5, 6, 7, 8, 9], [0, 1, 2, 3, 4, 5, 6, 7, 8, 9, 10], [0, 1, 2, 3, 4, 5, 6, 7, 8, 9, 10, 11]] #[[0], [5], [], [], [], [0], [5], [], [], [], [], [], []] #[true, true, true, true, true, true, true, true, true, true, true, true, true]
          ((.val ?va0) :: (.val ?va1) :: (.val ?va2) :: (.val ?va3) :: (.val ?va4) :: (.val ?va5) :: (.val ?va6) :: (.val ?va7) :: (.val ?va8) :: (.val ?va9) :: (.val ?va10) :: (.val ?va11) :: (.val ?va12) :: []).toArray
          hmx ?chka ?grda ?stpa ?rsta
        case chka => rfl
        case stpa =>
          refine ⟨?_, ?_, ?_, ?_, ?_, ?_, ?_, ?_, ?_, ?_, ?_, ?_, ?_, trivial⟩
          · refine step_intro rfl rfl fun ρ X hc hf hgl hX hp ho => ?_
            change StepOk _ { dst := _, op := Op.move (Operand.tmp 0), type := _, pos := _, after := _, guard := _ } _ _ _
            have k0 : ρ (.tmp 0) = .string ⟨l.toArray⟩ := ho 0 (by decide)
            clear hp ho
            refine StepOk.of_run (v := ?va0) (w' := X) ?_ ⟨rfl, Below.refl _ _⟩
            clear hX
            go_simp
            all_goals try go_bits
            all_goals try simp only [IntWalk.iteOmega]
            all_goals try go_bits
            all_goals rfl
          · refine step_intro rfl rfl fun ρ X hc hf hgl hX hp ho => ?_
            change StepOk _ { dst := _, op := Op.move (Operand.tmp 5), type := _, pos := _, after := _, guard := _ } _ _ _
            have k5 : ρ (.tmp 5) = .int .i64 (i : Int) := ho 5 (by decide)
            clear hp ho
            refine StepOk.of_run (v := ?va1) (w' := X) ?_ ⟨rfl, Below.refl _ _⟩
            clear hX
            go_simp
            all_goals try go_bits
            all_goals try simp only [IntWalk.iteOmega]
            all_goals try go_bits
            all_goals rfl
          · refine step_intro rfl rfl fun ρ X hc hf hgl hX hp ho => ?_
            change StepOk _ { dst := _, op := Op.binOp BinOp.mul 3 (Operand.const (Value.int IntKind.i64 2)) (Operand.tmp 16) 3, type := _, pos := _, after := _, guard := _ } _ _ _
            have k16 : ρ (.tmp 16) = ?va1 := hp 1 (by decide)
            clear hp ho
            refine StepOk.of_run (v := ?va2) (w' := X) ?_ ⟨rfl, Below.refl _ _⟩
            clear hX
            go_simp
            all_goals try go_bits
            all_goals try simp only [IntWalk.iteOmega]
            all_goals try go_bits
            all_goals rfl
          · refine step_intro rfl rfl fun ρ X hc hf hgl hX hp ho => ?_
            change StepOk _ { dst := _, op := Op.index 9 (Operand.tmp 15) (Operand.tmp 17), type := _, pos := _, after := _, guard := _ } _ _ _
            have k15 : ρ (.tmp 15) = ?va0 := hp 0 (by decide)
            have k17 : ρ (.tmp 17) = ?va2 := hp 2 (by decide)
            clear hp ho
            refine StepOk.of_run (v := ?va3) (w' := X) ?_ ⟨rfl, Below.refl _ _⟩
            clear hX
            go_simp
            all_goals try go_bits
            all_goals try simp only [IntWalk.iteOmega]
            all_goals try go_bits
            all_goals rfl
          · refine step_intro rfl rfl fun ρ X hc hf hgl hX hp ho => ?_
            change StepOk _ { dst := _, op := Op.call { callee := Callee.value (Operand.func 24), args := #[Operand.const (Value.string { data := #[48, 49, 50, 51, 52, 53, 54, 55, 56, 57, 97, 98, 99, 100, 101, 102] }), Operand.tmp 18], argTypes := #[9, 5] }, type := _, pos := _, after := _, guard := _ } _ _ _
            have k18 : ρ (.tmp 18) = ?va3 := hp 3 (by decide)
            clear hp ho
            refine StepOk.of_call (f := 24) (args := #[.string { data := #[48, 49, 50, 51, 52, 53, 54, 55, 56, 57, 97, 98, 99, 100, 101, 102] }, ?va3]) (w' := X) ?_ (vIdx c _ Hzc.out _) ?_
            · go_simp
              all_goals try go_bits
              all_goals try rfl
            · rintro e w'' ⟨rfl, rfl⟩; refine ⟨_, rfl, ?_, Below.refl _ _⟩; show _ = ?va4; rfl
          · refine step_intro rfl rfl fun ρ X hc hf hgl hX hp ho => ?_
            change StepOk _ { dst := _, op := Op.move (Operand.tmp 0), type := _, pos := _, after := _, guard := _ } _ _ _
            have k0 : ρ (.tmp 0) = .string ⟨l.toArray⟩ := ho 0 (by decide)
            clear hp ho
            refine StepOk.of_run (v := ?va5) (w' := X) ?_ ⟨rfl, Below.refl _ _⟩
            clear hX
            go_simp
            all_goals try go_bits
            all_goals try simp only [IntWalk.iteOmega]
            all_goals try go_bits
            all_goals rfl
          · refine step_intro rfl rfl fun ρ X hc hf hgl hX hp ho => ?_
            change StepOk _ { dst := _, op := Op.move (Operand.tmp 5), type := _, pos := _, after := _, guard := _ } _ _ _
            have k5 : ρ (.tmp 5) = .int .i64 (i : Int) := ho 5 (by decide)
            clear hp ho
            refine StepOk.of_run (v := ?va6) (w' := X) ?_ ⟨rfl, Below.refl _ _⟩
            clear hX
            go_simp
            all_goals try go_bits
            all_goals try simp only [IntWalk.iteOmega]
            all_goals try go_bits
            all_goals rfl
          · refine step_intro rfl rfl fun ρ X hc hf hgl hX hp ho => ?_
            change StepOk _ { dst := _, op := Op.binOp BinOp.mul 3 (Operand.const (Value.int IntKind.i64 2)) (Operand.tmp 21) 3, type := _, pos := _, after := _, guard := _ } _ _ _
            have k21 : ρ (.tmp 21) = ?va6 := hp 6 (by decide)
            clear hp ho
            refine StepOk.of_run (v := ?va7) (w' := X) ?_ ⟨rfl, Below.refl _ _⟩
            clear hX
            go_simp
            all_goals try go_bits
            all_goals try simp only [IntWalk.iteOmega]
            all_goals try go_bits
            all_goals rfl
          · refine step_intro rfl rfl fun ρ X hc hf hgl hX hp ho => ?_
            change StepOk _ { dst := _, op := Op.binOp BinOp.add 3 (Operand.tmp 22) (Operand.const (Value.int IntKind.i64 1)) 3, type := _, pos := _, after := _, guard := _ } _ _ _
            have k22 : ρ (.tmp 22) = ?va7 := hp 7 (by decide)
            clear hp ho
            refine StepOk.of_run (v := ?va8) (w' := X) ?_ ⟨rfl, Below.refl _ _⟩
            clear hX
            go_simp
            all_goals try go_bits
            all_goals try simp only [IntWalk.iteOmega]
            all_goals try go_bits
            all_goals rfl
          · refine step_intro rfl rfl fun ρ X hc hf hgl hX hp ho => ?_
            change StepOk _ { dst := _, op := Op.index 9 (Operand.tmp 20) (Operand.tmp 23), type := _, pos := _, after := _, guard := _ } _ _ _
            have k20 : ρ (.tmp 20) = ?va5 := hp 5 (by decide)
            have k23 : ρ (.tmp 23) = ?va8 := hp 8 (by decide)
            clear hp ho
            refine StepOk.of_run (v := ?va9) (w' := X) ?_ ⟨rfl, Below.refl _ _⟩
            clear hX
            go_simp
            all_goals try go_bits
            all_goals try simp only [IntWalk.iteOmega]
            all_goals try go_bits
            all_goals rfl
          · refine step_intro rfl rfl fun ρ X hc hf hgl hX hp ho => ?_
            change StepOk _ { dst := _, op := Op.call { callee := Callee.value (Operand.func 24), args := #[Operand.const (Value.string { data := #[48, 49, 50, 51, 52, 53, 54, 55, 56, 57, 97, 98, 99, 100, 101, 102] }), Operand.tmp 24], argTypes := #[9, 5] }, type := _, pos := _, after := _, guard := _ } _ _ _
            have k24 : ρ (.tmp 24) = ?va9 := hp 9 (by decide)
            clear hp ho
            refine StepOk.of_call (f := 24) (args := #[.string { data := #[48, 49, 50, 51, 52, 53, 54, 55, 56, 57, 97, 98, 99, 100, 101, 102] }, ?va9]) (w' := X) ?_ (vIdx d _ Hzd.out _) ?_
            · go_simp
              all_goals try go_bits
              all_goals try rfl
            · rintro e w'' ⟨rfl, rfl⟩; refine ⟨_, rfl, ?_, Below.refl _ _⟩; show _ = ?va10; rfl
          · refine step_intro rfl rfl fun ρ X hc hf hgl hX hp ho => ?_
            change StepOk _ { dst := _, op := Op.assign (Operand.tmp 19), type := _, pos := _, after := _, guard := _ } _ _ _
            have k19 : ρ (.tmp 19) = ?va4 := hp 4 (by decide)
            clear hp ho
            refine StepOk.of_run (v := ?va11) (w' := X) ?_ ⟨rfl, Below.refl _ _⟩
            clear hX
            go_simp
            all_goals try go_bits
            all_goals try simp only [IntWalk.iteOmega]
            all_goals try go_bits
            all_goals rfl
          · refine step_intro rfl rfl fun ρ X hc hf hgl hX hp ho => ?_
            change StepOk _ { dst := _, op := Op.assign (Operand.tmp 25), type := _, pos := _, after := _, guard := _ } _ _ _
            have k25 : ρ (.tmp 25) = ?va10 := hp 10 (by decide)
            clear hp ho
            refine StepOk.of_run (v := ?va12) (w' := X) ?_ ⟨rfl, Below.refl _ _⟩
            clear hX
            go_simp
            all_goals try go_bits
            all_goals try simp only [IntWalk.iteOmega]
            all_goals try go_bits
            all_goals rfl
        case grda => rfl
        case rsta =>
          intro a0 X hb
          have hfr := hb.frame ((6, ?va11) :: (7, ?va12) :: (15, ?va0) :: (16, ?va1) :: (17, ?va2) :: (18, ?va3) :: (19, ?va4) :: (20, ?va5) :: (21, ?va6) :: (22, ?va7) :: (23, ?va8) :: (24, ?va9) :: (25, ?va10) :: []) rfl ⟨hb.done' 11 6 rfl rfl, hb.done' 12 7 rfl rfl, hb.done' 0 15 rfl rfl, hb.done' 1 16 rfl rfl, hb.done' 2 17 rfl rfl, hb.done' 3 18 rfl rfl, hb.done' 4 19 rfl rfl, hb.done' 5 20 rfl rfl, hb.done' 6 21 rfl rfl, hb.done' 7 22 rfl rfl, hb.done' 8 23 rfl rfl, hb.done' 9 24 rfl rfl, hb.done' 10 25 rfl rfl, trivial⟩
          simp only [updL, ↓reduceIte, Nat.reduceEqDiff, Nat.reduceAdd, Nat.zero_add] at hfr
          have HX := Lib.hid hb.ext
          clear hb
          subst hfr
          have hr0X := HX.out.heap' Hr0.out
          go_wp2_with (first
      | (refine wpList_buildT rfl 25 rfl 32 5 Tryd.underlying25 Z hZ hel ?_)
      | (refine wpList_storeT rfl _ _ _ rfl gR 25 Z Z rfl rfl hr0X (by rw [hZs]; exact infoSum) rfl hone ?_))
          refine ret_cell_tmp rfl gR 25 Z _ rfl (setRow_heap _ _ _ _ _ _ hr0X) Tryd.underlying25 rfl (by rw [hZs]; exact infoSum) rfl ⟨?_, setRow_below (Grows.trans' HBr.out HX.out) Hne.out.1 Z⟩
          rw [HP.out]
          unfold arr
          rw [← HZ.out]
          rfl
      | true =>
        cases hDd : isD d with
        | false =>
          obtain ⟨hzc, hc16⟩ := (idxD' c).1 hDc
          have hzd := (idxD' d).2 hDd
          obtain ⟨vc, Hvc⟩ : ∃ v, Hid ((valD c).toNat = v) := ⟨_, rfl⟩
          rw [Hvc.out] at hzc hc16
          have hvc0 : ¬ ((vc : Int) < 0) := by omega
          have Hzc := Lib.hid hzc
          have Hzd := Lib.hid hzd
          have HP := Lib.hid (parseF_bad l p1 (by have := Hl.out; omega) (by rw [Hd.out]; exact hDd))
          clear hzc hzd hDc hDd hc16 ABORT
          go_wp2
          refine specs_region
            #[[], [], [1], [0, 1, 2], [0, 1, 2, 3], [], [], [6], [6, 7], [5, 6, 7, 8], [0, 1, 2, 3, 4, 5, 6, 7, 8, 9], [0, 1, 2, 3, 4, 5, 6, 7, 8, 9, 10], [0, 1, 2, 3, 4, 5, 6, 7, 8, 9, 10, 11]] #[[0], [5], [], [], [], [0], [5], [], [], [], [], [], []] #[true, true, true, true, true, true, true, true, true, true, true, true, true]
            ((.val ?vb0) :: (.val ?vb1) :: (.val ?vb2) :: (.val ?vb3) :: (.val ?vb4) :: (.val ?vb5) :: (.val ?vb6) :: (.val ?vb7) :: (.val ?vb8) :: (.val ?vb9) :: (.val ?vb10) :: (.val ?vb11) :: (.val ?vb12) :: []).toArray
            hmx ?chkb ?grdb ?stpb ?rstb
          case chkb => rfl
          case stpb =>
            refine ⟨?_, ?_, ?_, ?_, ?_, ?_, ?_, ?_, ?_, ?_, ?_, ?_, ?_, trivial⟩
            · refine step_intro rfl rfl fun ρ X hc hf hgl hX hp ho => ?_
              change StepOk _ { dst := _, op := Op.move (Operand.tmp 0), type := _, pos := _, after := _, guard := _ } _ _ _
              have k0 : ρ (.tmp 0) = .string ⟨l.toArray⟩ := ho 0 (by decide)
              clear hp ho
              refine StepOk.of_run (v := ?vb0) (w' := X) ?_ ⟨rfl, Below.refl _ _⟩
              clear hX
              go_simp
              all_goals try go_bits
              all_goals try simp only [IntWalk.iteOmega]
              all_goals try go_bits
              all_goals rfl
            · refine step_intro rfl rfl fun ρ X hc hf hgl hX hp ho => ?_
              change StepOk _ { dst := _, op := Op.move (Operand.tmp 5), type := _, pos := _, after := _, guard := _ } _ _ _
              have k5 : ρ (.tmp 5) = .int .i64 (i : Int) := ho 5 (by decide)
              clear hp ho
              refine StepOk.of_run (v := ?vb1) (w' := X) ?_ ⟨rfl, Below.refl _ _⟩
              clear hX
              go_simp
              all_goals try go_bits
              all_goals try simp only [IntWalk.iteOmega]
              all_goals try go_bits
              all_goals rfl
            · refine step_intro rfl rfl fun ρ X hc hf hgl hX hp ho => ?_
              change StepOk _ { dst := _, op := Op.binOp BinOp.mul 3 (Operand.const (Value.int IntKind.i64 2)) (Operand.tmp 16) 3, type := _, pos := _, after := _, guard := _ } _ _ _
              have k16 : ρ (.tmp 16) = ?vb1 := hp 1 (by decide)
              clear hp ho
              refine StepOk.of_run (v := ?vb2) (w' := X) ?_ ⟨rfl, Below.refl _ _⟩
              clear hX
              go_simp
              all_goals try go_bits
              all_goals try simp only [IntWalk.iteOmega]
              all_goals try go_bits
              all_goals rfl
            · refine step_intro rfl rfl fun ρ X hc hf hgl hX hp ho => ?_
              change StepOk _ { dst := _, op := Op.index 9 (Operand.tmp 15) (Operand.tmp 17), type := _, pos := _, after := _, guard := _ } _ _ _
              have k15 : ρ (.tmp 15) = ?vb0 := hp 0 (by decide)
              have k17 : ρ (.tmp 17) = ?vb2 := hp 2 (by decide)
              clear hp ho
              refine StepOk.of_run (v := ?vb3) (w' := X) ?_ ⟨rfl, Below.refl _ _⟩
              clear hX
              go_simp
              all_goals try go_bits
              all_goals try simp only [IntWalk.iteOmega]
              all_goals try go_bits
              all_goals rfl
            · refine step_intro rfl rfl fun ρ X hc hf hgl hX hp ho => ?_
              change StepOk _ { dst := _, op := Op.call { callee := Callee.value (Operand.func 24), args := #[Operand.const (Value.string { data := #[48, 49, 50, 51, 52, 53, 54, 55, 56, 57, 97, 98, 99, 100, 101, 102] }), Operand.tmp 18], argTypes := #[9, 5] }, type := _, pos := _, after := _, guard := _ } _ _ _
              have k18 : ρ (.tmp 18) = ?vb3 := hp 3 (by decide)
              clear hp ho
              refine StepOk.of_call (f := 24) (args := #[.string { data := #[48, 49, 50, 51, 52, 53, 54, 55, 56, 57, 97, 98, 99, 100, 101, 102] }, ?vb3]) (w' := X) ?_ (vIdx c _ Hzc.out _) ?_
              · go_simp
                all_goals try go_bits
                all_goals try rfl
              · rintro e w'' ⟨rfl, rfl⟩; refine ⟨_, rfl, ?_, Below.refl _ _⟩; show _ = ?vb4; rfl
            · refine step_intro rfl rfl fun ρ X hc hf hgl hX hp ho => ?_
              change StepOk _ { dst := _, op := Op.move (Operand.tmp 0), type := _, pos := _, after := _, guard := _ } _ _ _
              have k0 : ρ (.tmp 0) = .string ⟨l.toArray⟩ := ho 0 (by decide)
              clear hp ho
              refine StepOk.of_run (v := ?vb5) (w' := X) ?_ ⟨rfl, Below.refl _ _⟩
              clear hX
              go_simp
              all_goals try go_bits
              all_goals try simp only [IntWalk.iteOmega]
              all_goals try go_bits
              all_goals rfl
            · refine step_intro rfl rfl fun ρ X hc hf hgl hX hp ho => ?_
              change StepOk _ { dst := _, op := Op.move (Operand.tmp 5), type := _, pos := _, after := _, guard := _ } _ _ _
              have k5 : ρ (.tmp 5) = .int .i64 (i : Int) := ho 5 (by decide)
              clear hp ho
              refine StepOk.of_run (v := ?vb6) (w' := X) ?_ ⟨rfl, Below.refl _ _⟩
              clear hX
              go_simp
              all_goals try go_bits
              all_goals try simp only [IntWalk.iteOmega]
              all_goals try go_bits
              all_goals rfl
            · refine step_intro rfl rfl fun ρ X hc hf hgl hX hp ho => ?_
              change StepOk _ { dst := _, op := Op.binOp BinOp.mul 3 (Operand.const (Value.int IntKind.i64 2)) (Operand.tmp 21) 3, type := _, pos := _, after := _, guard := _ } _ _ _
              have k21 : ρ (.tmp 21) = ?vb6 := hp 6 (by decide)
              clear hp ho
              refine StepOk.of_run (v := ?vb7) (w' := X) ?_ ⟨rfl, Below.refl _ _⟩
              clear hX
              go_simp
              all_goals try go_bits
              all_goals try simp only [IntWalk.iteOmega]
              all_goals try go_bits
              all_goals rfl
            · refine step_intro rfl rfl fun ρ X hc hf hgl hX hp ho => ?_
              change StepOk _ { dst := _, op := Op.binOp BinOp.add 3 (Operand.tmp 22) (Operand.const (Value.int IntKind.i64 1)) 3, type := _, pos := _, after := _, guard := _ } _ _ _
              have k22 : ρ (.tmp 22) = ?vb7 := hp 7 (by decide)
              clear hp ho
              refine StepOk.of_run (v := ?vb8) (w' := X) ?_ ⟨rfl, Below.refl _ _⟩
              clear hX
              go_simp
              all_goals try go_bits
              all_goals try simp only [IntWalk.iteOmega]
              all_goals try go_bits
              all_goals rfl
            · refine step_intro rfl rfl fun ρ X hc hf hgl hX hp ho => ?_
              change StepOk _ { dst := _, op := Op.index 9 (Operand.tmp 20) (Operand.tmp 23), type := _, pos := _, after := _, guard := _ } _ _ _
              have k20 : ρ (.tmp 20) = ?vb5 := hp 5 (by decide)
              have k23 : ρ (.tmp 23) = ?vb8 := hp 8 (by decide)
              clear hp ho
              refine StepOk.of_run (v := ?vb9) (w' := X) ?_ ⟨rfl, Below.refl _ _⟩
              clear hX
              go_simp
              all_goals try go_bits
              all_goals try simp only [IntWalk.iteOmega]
              all_goals try go_bits
              all_goals rfl
            · refine step_intro rfl rfl fun ρ X hc hf hgl hX hp ho => ?_
              change StepOk _ { dst := _, op := Op.call { callee := Callee.value (Operand.func 24), args := #[Operand.const (Value.string { data := #[48, 49, 50, 51, 52, 53, 54, 55, 56, 57, 97, 98, 99, 100, 101, 102] }), Operand.tmp 24], argTypes := #[9, 5] }, type := _, pos := _, after := _, guard := _ } _ _ _
              have k24 : ρ (.tmp 24) = ?vb9 := hp 9 (by decide)
              clear hp ho
              refine StepOk.of_call (f := 24) (args := #[.string { data := #[48, 49, 50, 51, 52, 53, 54, 55, 56, 57, 97, 98, 99, 100, 101, 102] }, ?vb9]) (w' := X) ?_ (vIdx d _ Hzd.out _) ?_
              · go_simp
                all_goals try go_bits
                all_goals try rfl
              · rintro e w'' ⟨rfl, rfl⟩; refine ⟨_, rfl, ?_, Below.refl _ _⟩; show _ = ?vb10; rfl
            · refine step_intro rfl rfl fun ρ X hc hf hgl hX hp ho => ?_
              change StepOk _ { dst := _, op := Op.assign (Operand.tmp 19), type := _, pos := _, after := _, guard := _ } _ _ _
              have k19 : ρ (.tmp 19) = ?vb4 := hp 4 (by decide)
              clear hp ho
              refine StepOk.of_run (v := ?vb11) (w' := X) ?_ ⟨rfl, Below.refl _ _⟩
              clear hX
              go_simp
              all_goals try go_bits
              all_goals try simp only [IntWalk.iteOmega]
              all_goals try go_bits
              all_goals rfl
            · refine step_intro rfl rfl fun ρ X hc hf hgl hX hp ho => ?_
              change StepOk _ { dst := _, op := Op.assign (Operand.tmp 25), type := _, pos := _, after := _, guard := _ } _ _ _
              have k25 : ρ (.tmp 25) = ?vb10 := hp 10 (by decide)
              clear hp ho
              refine StepOk.of_run (v := ?vb12) (w' := X) ?_ ⟨rfl, Below.refl _ _⟩
              clear hX
              go_simp
              all_goals try go_bits
              all_goals try simp only [IntWalk.iteOmega]
              all_goals try go_bits
              all_goals rfl
          case grdb => rfl
          case rstb =>
            intro a0 X hb
            have hfr := hb.frame ((6, ?vb11) :: (7, ?vb12) :: (15, ?vb0) :: (16, ?vb1) :: (17, ?vb2) :: (18, ?vb3) :: (19, ?vb4) :: (20, ?vb5) :: (21, ?vb6) :: (22, ?vb7) :: (23, ?vb8) :: (24, ?vb9) :: (25, ?vb10) :: []) rfl ⟨hb.done' 11 6 rfl rfl, hb.done' 12 7 rfl rfl, hb.done' 0 15 rfl rfl, hb.done' 1 16 rfl rfl, hb.done' 2 17 rfl rfl, hb.done' 3 18 rfl rfl, hb.done' 4 19 rfl rfl, hb.done' 5 20 rfl rfl, hb.done' 6 21 rfl rfl, hb.done' 7 22 rfl rfl, hb.done' 8 23 rfl rfl, hb.done' 9 24 rfl rfl, hb.done' 10 25 rfl rfl, trivial⟩
            simp only [updL, ↓reduceIte, Nat.reduceEqDiff, Nat.reduceAdd, Nat.zero_add] at hfr
            have HX := Lib.hid hb.ext
            clear hb
            subst hfr
            have hr0X := HX.out.heap' Hr0.out
            go_wp2_with (first
      | (refine wpList_buildT rfl 25 rfl 32 5 Tryd.underlying25 Z hZ hel ?_)
      | (refine wpList_storeT rfl _ _ _ rfl gR 25 Z Z rfl rfl hr0X (by rw [hZs]; exact infoSum) rfl hone ?_))
            refine ret_cell_tmp rfl gR 25 Z _ rfl (setRow_heap _ _ _ _ _ _ hr0X) Tryd.underlying25 rfl (by rw [hZs]; exact infoSum) rfl ⟨?_, setRow_below (Grows.trans' HBr.out HX.out) Hne.out.1 Z⟩
            rw [HP.out]
            unfold arr
            rw [← HZ.out]
            rfl
        | true =>
          obtain ⟨hzc, hc16⟩ := (idxD' c).1 hDc
          obtain ⟨hzd, hd16⟩ := (idxD' d).1 hDd
          have hor := orD _ hc16 _ hd16
          have hpu := pairU8 _ _ hc16 hd16
          obtain ⟨y, Hy⟩ : ∃ y, Hid (valD c * 16 + valD d = y) := ⟨_, rfl⟩
          rw [Hy.out] at hpu
          obtain ⟨vc, Hvc⟩ : ∃ v, Hid ((valD c).toNat = v) := ⟨_, rfl⟩
          obtain ⟨vd, Hvd⟩ : ∃ v, Hid ((valD d).toNat = v) := ⟨_, rfl⟩
          rw [Hvc.out] at hzc hc16 hor hpu
          rw [Hvd.out] at hzd hd16 hor hpu
          obtain ⟨vv, hvv⟩ : ∃ v, vc * 16 + vd = v := ⟨_, rfl⟩
          rw [hvv] at hor hpu
          obtain ⟨vs, hvs⟩ : ∃ v : Nat, (vc : Int) * 16 = (v : Int) := ⟨vc * 16, by omega⟩
          rw [hvs] at hor
          have hvs256 : vs < 256 := by omega
          have hvc0 : ¬ ((vc : Int) < 0) := by omega
          have hvd0 : ¬ ((vd : Int) < 0) := by omega
          have Hzc := Lib.hid hzc
          have Hzd := Lib.hid hzd
          have Hnx : Hid (partL l (2 * (i + 1)) = (partL l (2 * i)).set i y) := by
            show _ = _
            rw [partL_two l i Hi.out, ← Hp.out.2, ← Hp.out.1, Hc.out, Hd.out, Hy.out]
          have Hall2 : Hid ((l.take (2 * (i + 1))).all isD = true) := by
            show _ = _
            rw [show 2 * (i + 1) = 2 * i + 1 + 1 by omega, take_snoc l (2 * i + 1) (by have := Hl.out; have := Hi.out; omega), take_snoc l (2 * i) (by have := Hl.out; have := Hi.out; omega), List.all_append, List.all_append, Hall.out, ← Hp.out.2, ← Hp.out.1, Hc.out, Hd.out]
            simp [hDc, hDd]
          clear hzc hzd hDc hDd hc16 hd16 hvv ABORT
          go_wp2
          refine specs_region
            #[[], [], [1], [0, 1, 2], [0, 1, 2, 3], [], [], [6], [6, 7], [5, 6, 7, 8], [0, 1, 2, 3, 4, 5, 6, 7, 8, 9], [0, 1, 2, 3, 4, 5, 6, 7, 8, 9, 10], [0, 1, 2, 3, 4, 5, 6, 7, 8, 9, 10, 11]] #[[0], [5], [], [], [], [0], [5], [], [], [], [], [], []] #[true, true, true, true, true, true, true, true, true, true, true, true, true]
            ((.val ?vc0) :: (.val ?vc1) :: (.val ?vc2) :: (.val ?vc3) :: (.val ?vc4) :: (.val ?vc5) :: (.val ?vc6) :: (.val ?vc7) :: (.val ?vc8) :: (.val ?vc9) :: (.val ?vc10) :: (.val ?vc11) :: (.val ?vc12) :: []).toArray
            hmx ?chkc ?grdc ?stpc ?rstc
          case chkc => rfl
          case stpc =>
            refine ⟨?_, ?_, ?_, ?_, ?_, ?_, ?_, ?_, ?_, ?_, ?_, ?_, ?_, trivial⟩
            · refine step_intro rfl rfl fun ρ X hc hf hgl hX hp ho => ?_
              change StepOk _ { dst := _, op := Op.move (Operand.tmp 0), type := _, pos := _, after := _, guard := _ } _ _ _
              have k0 : ρ (.tmp 0) = .string ⟨l.toArray⟩ := ho 0 (by decide)
              clear hp ho
              refine StepOk.of_run (v := ?vc0) (w' := X) ?_ ⟨rfl, Below.refl _ _⟩
              clear hX
              go_simp
              all_goals try go_bits
              all_goals try simp only [IntWalk.iteOmega]
              all_goals try go_bits
              all_goals rfl
            · refine step_intro rfl rfl fun ρ X hc hf hgl hX hp ho => ?_
              change StepOk _ { dst := _, op := Op.move (Operand.tmp 5), type := _, pos := _, after := _, guard := _ } _ _ _
              have k5 : ρ (.tmp 5) = .int .i64 (i : Int) := ho 5 (by decide)
              clear hp ho
              refine StepOk.of_run (v := ?vc1) (w' := X) ?_ ⟨rfl, Below.refl _ _⟩
              clear hX
              go_simp
              all_goals try go_bits
              all_goals try simp only [IntWalk.iteOmega]
              all_goals try go_bits
              all_goals rfl
            · refine step_intro rfl rfl fun ρ X hc hf hgl hX hp ho => ?_
              change StepOk _ { dst := _, op := Op.binOp BinOp.mul 3 (Operand.const (Value.int IntKind.i64 2)) (Operand.tmp 16) 3, type := _, pos := _, after := _, guard := _ } _ _ _
              have k16 : ρ (.tmp 16) = ?vc1 := hp 1 (by decide)
              clear hp ho
              refine StepOk.of_run (v := ?vc2) (w' := X) ?_ ⟨rfl, Below.refl _ _⟩
              clear hX
              go_simp
              all_goals try go_bits
              all_goals try simp only [IntWalk.iteOmega]
              all_goals try go_bits
              all_goals rfl
            · refine step_intro rfl rfl fun ρ X hc hf hgl hX hp ho => ?_
              change StepOk _ { dst := _, op := Op.index 9 (Operand.tmp 15) (Operand.tmp 17), type := _, pos := _, after := _, guard := _ } _ _ _
              have k15 : ρ (.tmp 15) = ?vc0 := hp 0 (by decide)
              have k17 : ρ (.tmp 17) = ?vc2 := hp 2 (by decide)
              clear hp ho
              refine StepOk.of_run (v := ?vc3) (w' := X) ?_ ⟨rfl, Below.refl _ _⟩
              clear hX
              go_simp
              all_goals try go_bits
              all_goals try simp only [IntWalk.iteOmega]
              all_goals try go_bits
              all_goals rfl
            · refine step_intro rfl rfl fun ρ X hc hf hgl hX hp ho => ?_
              change StepOk _ { dst := _, op := Op.call { callee := Callee.value (Operand.func 24), args := #[Operand.const (Value.string { data := #[48, 49, 50, 51, 52, 53, 54, 55, 56, 57, 97, 98, 99, 100, 101, 102] }), Operand.tmp 18], argTypes := #[9, 5] }, type := _, pos := _, after := _, guard := _ } _ _ _
              have k18 : ρ (.tmp 18) = ?vc3 := hp 3 (by decide)
              clear hp ho
              refine StepOk.of_call (f := 24) (args := #[.string { data := #[48, 49, 50, 51, 52, 53, 54, 55, 56, 57, 97, 98, 99, 100, 101, 102] }, ?vc3]) (w' := X) ?_ (vIdx c _ Hzc.out _) ?_
              · go_simp
                all_goals try go_bits
                all_goals try rfl
              · rintro e w'' ⟨rfl, rfl⟩; refine ⟨_, rfl, ?_, Below.refl _ _⟩; show _ = ?vc4; rfl
            · refine step_intro rfl rfl fun ρ X hc hf hgl hX hp ho => ?_
              change StepOk _ { dst := _, op := Op.move (Operand.tmp 0), type := _, pos := _, after := _, guard := _ } _ _ _
              have k0 : ρ (.tmp 0) = .string ⟨l.toArray⟩ := ho 0 (by decide)
              clear hp ho
              refine StepOk.of_run (v := ?vc5) (w' := X) ?_ ⟨rfl, Below.refl _ _⟩
              clear hX
              go_simp
              all_goals try go_bits
              all_goals try simp only [IntWalk.iteOmega]
              all_goals try go_bits
              all_goals rfl
            · refine step_intro rfl rfl fun ρ X hc hf hgl hX hp ho => ?_
              change StepOk _ { dst := _, op := Op.move (Operand.tmp 5), type := _, pos := _, after := _, guard := _ } _ _ _
              have k5 : ρ (.tmp 5) = .int .i64 (i : Int) := ho 5 (by decide)
              clear hp ho
              refine StepOk.of_run (v := ?vc6) (w' := X) ?_ ⟨rfl, Below.refl _ _⟩
              clear hX
              go_simp
              all_goals try go_bits
              all_goals try simp only [IntWalk.iteOmega]
              all_goals try go_bits
              all_goals rfl
            · refine step_intro rfl rfl fun ρ X hc hf hgl hX hp ho => ?_
              change StepOk _ { dst := _, op := Op.binOp BinOp.mul 3 (Operand.const (Value.int IntKind.i64 2)) (Operand.tmp 21) 3, type := _, pos := _, after := _, guard := _ } _ _ _
              have k21 : ρ (.tmp 21) = ?vc6 := hp 6 (by decide)
              clear hp ho
              refine StepOk.of_run (v := ?vc7) (w' := X) ?_ ⟨rfl, Below.refl _ _⟩
              clear hX
              go_simp
              all_goals try go_bits
              all_goals try simp only [IntWalk.iteOmega]
              all_goals try go_bits
              all_goals rfl
            · refine step_intro rfl rfl fun ρ X hc hf hgl hX hp ho => ?_
              change StepOk _ { dst := _, op := Op.binOp BinOp.add 3 (Operand.tmp 22) (Operand.const (Value.int IntKind.i64 1)) 3, type := _, pos := _, after := _, guard := _ } _ _ _
              have k22 : ρ (.tmp 22) = ?vc7 := hp 7 (by decide)
              clear hp ho
              refine StepOk.of_run (v := ?vc8) (w' := X) ?_ ⟨rfl, Below.refl _ _⟩
              clear hX
              go_simp
              all_goals try go_bits
              all_goals try simp only [IntWalk.iteOmega]
              all_goals try go_bits
              all_goals rfl
            · refine step_intro rfl rfl fun ρ X hc hf hgl hX hp ho => ?_
              change StepOk _ { dst := _, op := Op.index 9 (Operand.tmp 20) (Operand.tmp 23), type := _, pos := _, after := _, guard := _ } _ _ _
              have k20 : ρ (.tmp 20) = ?vc5 := hp 5 (by decide)
              have k23 : ρ (.tmp 23) = ?vc8 := hp 8 (by decide)
              clear hp ho
              refine StepOk.of_run (v := ?vc9) (w' := X) ?_ ⟨rfl, Below.refl _ _⟩
              clear hX
              go_simp
              all_goals try go_bits
              all_goals try simp only [IntWalk.iteOmega]
              all_goals try go_bits
              all_goals rfl
            · refine step_intro rfl rfl fun ρ X hc hf hgl hX hp ho => ?_
              change StepOk _ { dst := _, op := Op.call { callee := Callee.value (Operand.func 24), args := #[Operand.const (Value.string { data := #[48, 49, 50, 51, 52, 53, 54, 55, 56, 57, 97, 98, 99, 100, 101, 102] }), Operand.tmp 24], argTypes := #[9, 5] }, type := _, pos := _, after := _, guard := _ } _ _ _
              have k24 : ρ (.tmp 24) = ?vc9 := hp 9 (by decide)
              clear hp ho
              refine StepOk.of_call (f := 24) (args := #[.string { data := #[48, 49, 50, 51, 52, 53, 54, 55, 56, 57, 97, 98, 99, 100, 101, 102] }, ?vc9]) (w' := X) ?_ (vIdx d _ Hzd.out _) ?_
              · go_simp
                all_goals try go_bits
                all_goals try rfl
              · rintro e w'' ⟨rfl, rfl⟩; refine ⟨_, rfl, ?_, Below.refl _ _⟩; show _ = ?vc10; rfl
            · refine step_intro rfl rfl fun ρ X hc hf hgl hX hp ho => ?_
              change StepOk _ { dst := _, op := Op.assign (Operand.tmp 19), type := _, pos := _, after := _, guard := _ } _ _ _
              have k19 : ρ (.tmp 19) = ?vc4 := hp 4 (by decide)
              clear hp ho
              refine StepOk.of_run (v := ?vc11) (w' := X) ?_ ⟨rfl, Below.refl _ _⟩
              clear hX
              go_simp
              all_goals try go_bits
              all_goals try simp only [IntWalk.iteOmega]
              all_goals try go_bits
              all_goals rfl
            · refine step_intro rfl rfl fun ρ X hc hf hgl hX hp ho => ?_
              change StepOk _ { dst := _, op := Op.assign (Operand.tmp 25), type := _, pos := _, after := _, guard := _ } _ _ _
              have k25 : ρ (.tmp 25) = ?vc10 := hp 10 (by decide)
              clear hp ho
              refine StepOk.of_run (v := ?vc12) (w' := X) ?_ ⟨rfl, Below.refl _ _⟩
              clear hX
              go_simp
              all_goals try go_bits
              all_goals try simp only [IntWalk.iteOmega]
              all_goals try go_bits
              all_goals rfl
          case grdc => rfl
          case rstc =>
            intro a0 X hb
            have hfr := hb.frame ((6, ?vc11) :: (7, ?vc12) :: (15, ?vc0) :: (16, ?vc1) :: (17, ?vc2) :: (18, ?vc3) :: (19, ?vc4) :: (20, ?vc5) :: (21, ?vc6) :: (22, ?vc7) :: (23, ?vc8) :: (24, ?vc9) :: (25, ?vc10) :: []) rfl ⟨hb.done' 11 6 rfl rfl, hb.done' 12 7 rfl rfl, hb.done' 0 15 rfl rfl, hb.done' 1 16 rfl rfl, hb.done' 2 17 rfl rfl, hb.done' 3 18 rfl rfl, hb.done' 4 19 rfl rfl, hb.done' 5 20 rfl rfl, hb.done' 6 21 rfl rfl, hb.done' 7 22 rfl rfl, hb.done' 8 23 rfl rfl, hb.done' 9 24 rfl rfl, hb.done' 10 25 rfl rfl, trivial⟩
            simp only [updL, ↓reduceIte, Nat.reduceEqDiff, Nat.reduceAdd, Nat.zero_add] at hfr
            have HX := Lib.hid hb.ext
            clear hb
            subst hfr
            have hcX := HX.out.cell' Hcell.out
            have hfX : X.frozen? ⟨gO, i, none⟩ = false := (Below.frozen HX.out (p := ⟨gO, i, none⟩) (World.block_lt_of_cell? _ _ Hcell.out)).trans Hfr.out
            go_wp2
            go_roundw
            case rel =>
              refine ⟨i + 1, Hi.out, by simp, ?_, ?_, Below.setCell (p := ⟨gO, i, none⟩) (Grows.trans' HBr.out HX.out) Hne.out.2.1 _, Hall2⟩
              · have h5 := row_setCell (HX.out.heap' Hr1.out) i (bv y)
                rw [List.setIfInBounds_toArray, ← List.map_set, ← Hnx.out] at h5
                exact h5
              · exact (Below.heap_setCell X _ _ gR (fun e => Hne.out.2.2 e)).trans (HX.out.heap' Hr0.out)
            case measure => have := Hi.out; simp [intOf]; omega
    · have hi' : ¬ (i : Int) < 32 := by omega
      have hi : i = 32 := by omega
      have hPF : parseF l = (partL l 64, true) := by
        have h := Hall.out
        rw [hi, List.take_of_length_le (by rw [Hl.out]; exact Nat.le_refl _)] at h
        unfold parseF
        rw [if_pos ⟨Hl.out, h⟩]
      obtain ⟨D, HD⟩ : ∃ D, Shut (arr (partL l 64) = .agg D) := ⟨_, ⟨rfl⟩⟩
      obtain ⟨hDs, hD1⟩ := arrSize _ (partL_length l 64) D HD.out
      have hrD : wr.heap[gO]? = some (.cells D 25 (0, 0)) := by
        rw [Hr1.out, hi]
        have h := HD.out
        unfold arr at h
        simp only [Value.agg.injEq] at h
        rw [← h]
      have hr0 := Hr0.out
      have HPF := Lib.hid hPF
      clear hi hi32 hlt hPF
      go_wp2_with (first
        | (refine wpList_load_row rfl _ _ rfl gO rfl 25 D (0, 0) _ hrD Tryd.underlying25 rfl (by rw [hDs]; exact infoSum) ?_)
        | (refine wpList_storeT rfl _ _ _ rfl gR 25 Z D rfl rfl hr0 (by rw [hDs]; exact infoSum) (by rw [hZs, hDs]) hD1 ?_))
      refine ret_cell_tmp rfl gR 25 D _ rfl (setRow_heap _ _ _ _ _ _ hr0) Tryd.underlying25 rfl (by rw [hDs]; exact infoSum) rfl ⟨?_, setRow_below HBr.out Hne.out.1 D⟩
      rw [HPF.out]
      simp only [HD.out]
      rfl

theorem vParse (W : World) (l : List UInt8) (hs : l.length ≤ 1099511627776) : Calls Tryd.prog 14 #[.string ⟨l.toArray⟩] W fun e W' => e = .returned (.tuple #[arr (parseF l).1, .bool (parseF l).2]) ∧ Grows W W' := by
  by_cases hl : l.length = 64
  · exact vParse_64 W l hl
  · have h : parseF l = (List.replicate 32 0, false) := by unfold parseF; rw [if_neg (fun h => hl h.1)]
    rw [h]
    exact vParse_short W l hl hs
end Go.Proofs.YtkehcpjianadjaaDoor
