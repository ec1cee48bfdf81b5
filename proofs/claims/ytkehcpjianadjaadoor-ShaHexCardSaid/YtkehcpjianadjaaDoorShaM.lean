/-
  Contracts of the program's own Sum of all, Hex, Parse, of a Builder's WriteByte, and of a nil Hash.
-/
import Derived.Test.YtkehcpjianadjaaDoorShaK
import Derived.Test.YtkehcpjianadjaaDoorLib
namespace Go.Proofs.YtkehcpjianadjaaDoor
open Go.RowKit
set_option linter.unusedVariables false
set_option linter.unusedSimpArgs false

theorem vWriteNil (W : World) (v : Value) (m : List UInt8) (h : Byt W v m) : Calls Tryd.prog 12 #[.pointer none, v] W fun e W' => e = .returned (.int .i64 0) ∧ Grows W W' := by
  obtain ⟨a, c, rfl⟩ := h.slice
  clear h
  go_enter Tryd.func12, Tryd.ntmps12
  go_wp2
  go_ret
  exact ⟨rfl, Below.refl _ _⟩

theorem vSumNil (W : World) : Calls Tryd.prog 13 #[.pointer none] W fun e W' => e = .returned (arr (List.replicate 32 0)) ∧ Grows W W' := by
  obtain ⟨Z, hZ, HZ⟩ := arr25
  have hZs : Z.size = 32 := by rw [HZ.out]; simp
  have hone : Z.all (·.oneCell') = true := by rw [HZ.out]; exact arr_one _
  have h0 := heap_alloc_new W (.cells Z 25)
  obtain ⟨hb, hg⟩ := allocSet W Z Z 25
  have hel : (Tryd.prog.info? 5).isSome = true := by kernel_rfl
  go_enter Tryd.func13, Tryd.ntmps13
  go_wp2_with (first
    | (refine wpList_allocT rfl 25 rfl _ hZ ?_)
    | (refine wpList_buildT rfl 25 rfl 32 5 Tryd.underlying25 Z hZ hel ?_)
    | (refine wpList_storeT rfl _ _ _ rfl W.heap.size 25 Z Z rfl rfl h0 (by rw [hZs]; exact infoSum) rfl hone ?_))
  refine ret_cell rfl W.heap.size 25 Z _ rfl hb Tryd.underlying25 rfl (by rw [hZs]; exact infoSum) rfl ⟨?_, hg⟩
  unfold arr
  rw [← HZ.out]

/-! Sum of all. -/
theorem flat_snocM (ls : List (List UInt8)) (k : Nat) (hk : k < ls.length) : (ls.take (k + 1)).flatten = (ls.take k).flatten ++ ls.getD k [] := by
  rw [List.take_succ_eq_append_getElem hk, List.flatten_append]
  simp [List.getD, hk]
theorem flat_le (ls : List (List UInt8)) (k : Nat) : (ls.take k).flatten.length ≤ ls.flatten.length := by
  have h : ls.flatten = (ls.take k).flatten ++ (ls.drop k).flatten := by rw [← List.flatten_append, List.take_append_drop]
  rw [h, List.length_append]
  omega
set_option maxRecDepth 100000 in
set_option maxHeartbeats 2000000 in
theorem vSumAll_some (b off cap : Nat) (ls : List (List UInt8)) (w : World) (hK : KW w) (hl : ls.flatten.length ≤ 1099511627776) (hm : ls.length ≤ maxLen) (hc : ∀ i, i < ls.length → ∃ u, w.cell? ⟨b, off + i, none⟩ = some u ∧ Byt w u (ls.getD i [])) :
    Calls Tryd.prog 9 #[.slice (some ⟨b, off, none⟩) ls.length cap] w fun e w' => e = .returned (arr (shaF ls.flatten)) ∧ Grows w w' := by
  obtain ⟨Z, hZ, hZs⟩ := arrZ25
  obtain ⟨D, HD⟩ : ∃ D, Shut (arr (shaF ls.flatten) = .agg D) := ⟨_, ⟨rfl⟩⟩
  obtain ⟨hDs, hD1⟩ := arrSize _ (shaF_length ls.flatten) D HD.out
  rw [HD.out]
  have HK := Lib.hid hK
  have HC := Lib.hid hc
  have Hl := Lib.hid hl
  unfold maxLen at hm
  clear hK hc hl
  go_enter Tryd.func9, Tryd.ntmps9
  go_wp2_with (refine wpList_allocT rfl 25 rfl _ hZ ?_)
  refine (vNew _).mono ?_
  rintro e w1 ⟨ph, O, rfl, ⟨rfl, o0, hH1⟩, hO1, hG1⟩
  have hr0 := hG1.heap' (heap_alloc_new w (.cells Z 25))
  have HO1 : Hid (w.heap.size ≤ ph ∧ w.heap.size ≠ ph) := by show _ ∧ _; have := hO1 ph rfl; simp at this; omega
  have HG1 : Hid (Grows w w1) := Grows.trans' (Grows.alloc' _ _) hG1
  have HH1 := Lib.hid hH1
  obtain ⟨gR, hgR⟩ : ∃ n, w.heap.size = n := ⟨_, rfl⟩
  have HgR : Hid (w.heap.size ≤ gR ∧ gR ≠ ph) := by show _ ∧ _; have := HO1.out; omega
  rw [hgR] at hr0 ⊢
  have Hr0 := Lib.hid hr0
  clear hH1 hO1 hG1 hgR hr0
  go_wp2
  go_loopw [9] (fun t9 wr => ∃ (k : Nat) (o : List UInt8), k ≤ ls.length ∧ t9 = .int .i64 k ∧ HashAt wr ph (ls.take k).flatten o ∧ wr.heap[gR]? = some (.cells Z 25 (0, 0)) ∧ Grows w wr)
    (fun t9 _ => ls.length - (intOf t9).toNat)
  case atStart => exact ⟨0, o0, Nat.zero_le _, rfl, by simpa using HH1.out, Hr0.out, HG1.out⟩
  case round =>
    obtain ⟨k, o, hk, rfl, hH, hr, hG⟩ := hrel
    have HH := Lib.hid hH
    have Hr := Lib.hid hr
    have HG := Lib.hid hG
    clear hH hr hG
    by_cases hlt : k < ls.length
    · obtain ⟨u, hu, hby⟩ := HC.out k hlt
      have hbw : b < w.heap.size := World.block_lt_of_cell? w _ hu
      have hcu := (HG.out.cell (p := ⟨b, off + k, none⟩) hbw).trans hu
      have hout : Outside (fun k => k = ph) u := hby.outside (fun k hk => by rw [hk]; exact HO1.out.1)
      have hbyr := hby.grows HG.out
      have Hlen : Hid ((ls.take k).flatten.length + (ls.getD k []).length ≤ 1099511627776) := by
        show _ ≤ _
        have h1 := flat_le ls (k + 1)
        rw [flat_snocM ls k hlt, List.length_append] at h1
        have := Hl.out
        omega
      have Hsn := Lib.hid (flat_snocM ls k hlt)
      have Hk := Lib.hid hlt
      have hki : (k : Int) < (ls.length : Int) := by omega
      obtain ⟨au, cu, rfl⟩ := hby.slice
      clear hu hby hbw hlt hk
      go_wp2_with fail
      refine (vWrite _ ph _ o _ _ (HK.out.up HG.out) HH.out hbyr hout Hlen.out).mono ?_
      rintro e w5 ⟨rfl, ⟨o5, hH5⟩, hB5⟩
      rw [← Hsn.out] at hH5
      have hr5 := (hB5.block gR (Array.getElem?_eq_some_iff.1 Hr.out).1 HgR.out.2).trans Hr.out
      have hG5 : Grows w w5 := Below.trans HG.out (hB5.below HG.out.size (fun k hk => by rw [hk]; exact HO1.out.1))
      have HH5 := Lib.hid hH5
      have Hr5 := Lib.hid hr5
      have HG5 := Lib.hid hG5
      clear hH5 hr5 hG5 hB5 hbyr hout hcu
      go_wp2
      go_roundw
      case rel => exact ⟨k + 1, o5, Hk.out, by simp, HH5.out, Hr5.out, HG5.out⟩
      case measure => have := Hk.out; simp [intOf]; omega
    · have hki : ¬ (k : Int) < (ls.length : Int) := by omega
      have hS := vSumH ph _ o (by have := flat_le ls k; have := Hl.out; omega) _ (HK.out.up HG.out) HH.out
      rw [List.take_of_length_le (by omega), HD.out] at hS
      have HS := Lib.hid hS
      clear hS hlt hk
      go_wp2_with fail
      refine HS.out.mono ?_
      rintro e w5 ⟨rfl, hg5⟩
      have hR5 := hg5.heap' Hr.out
      have HG5 := Lib.hid (Grows.trans' HG.out hg5)
      clear hg5
      go_wp2_with (refine wpList_storeT rfl _ _ _ rfl gR 25 Z D rfl rfl hR5 (by rw [hDs]; exact infoSum) (by rw [hZs, hDs]) hD1 ?_)
      exact ret_cell rfl gR 25 D _ rfl (setRow_heap _ _ _ _ _ _ hR5) Tryd.underlying25 rfl (by rw [hDs]; exact infoSum) rfl ⟨rfl, setRow_below HG5.out HgR.out.1 D⟩

set_option maxRecDepth 100000 in
theorem vSumAll_nil (a : Option Addr) (cap : Nat) (w : World) (hK : KW w) :
    Calls Tryd.prog 9 #[.slice a 0 cap] w fun e w' => e = .returned (arr (shaF [])) ∧ Grows w w' := by
  obtain ⟨Z, hZ, hZs⟩ := arrZ25
  obtain ⟨D, HD⟩ : ∃ D, Shut (arr (shaF []) = .agg D) := ⟨_, ⟨rfl⟩⟩
  obtain ⟨hDs, hD1⟩ := arrSize _ (shaF_length []) D HD.out
  rw [HD.out]
  have HK := Lib.hid hK
  clear hK
  go_enter Tryd.func9, Tryd.ntmps9
  go_wp2_with (refine wpList_allocT rfl 25 rfl _ hZ ?_)
  refine (vNew _).mono ?_
  rintro e w1 ⟨ph, O, rfl, ⟨rfl, o0, hH1⟩, hO1, hG1⟩
  have hr0 := hG1.heap' (heap_alloc_new w (.cells Z 25))
  have HG1 : Hid (Grows w w1) := Grows.trans' (Grows.alloc' _ _) hG1
  have hS := vSumH ph [] o0 (by simp) _ (HK.out.up HG1.out) hH1
  rw [HD.out] at hS
  have HS := Lib.hid hS
  have Hr0 := Lib.hid hr0
  clear hH1 hO1 hG1 hr0 hS
  go_wp2
  refine wp_loop_rounds 1 ?_
  rw [rounds_succ]
  go_wp2_with fail
  refine HS.out.mono ?_
  rintro e w5 ⟨rfl, hg5⟩
  have hR5 := hg5.heap' Hr0.out
  have HG5 := Lib.hid (Grows.trans' HG1.out hg5)
  clear hg5
  go_wp2_with (refine wpList_storeT rfl _ _ _ rfl w.heap.size 25 Z D rfl rfl hR5 (by rw [hDs]; exact infoSum) (by rw [hZs, hDs]) hD1 ?_)
  exact ret_cell rfl w.heap.size 25 D _ rfl (setRow_heap _ _ _ _ _ _ hR5) Tryd.underlying25 rfl (by rw [hDs]; exact infoSum) rfl ⟨rfl, setRow_below HG5.out (Nat.le_refl _) D⟩

theorem vSumAll (W : World) (v : Value) (ls : List (List UInt8)) (hK : KW W) (h : BytL W v ls) (hl : ls.flatten.length ≤ 1099511627776) :
    Calls Tryd.prog 9 #[v] W fun e W' => e = .returned (arr (shaF ls.flatten)) ∧ Grows W W' := by
  obtain ⟨a, cap, rfl, h1, h2, h3, h4⟩ := h
  rcases h4 with rfl | ⟨b, off, rfl, hc⟩
  · exact vSumAll_nil a cap W hK
  · exact vSumAll_some b off cap ls W hK hl (by omega) hc
end Go.Proofs.YtkehcpjianadjaaDoor
