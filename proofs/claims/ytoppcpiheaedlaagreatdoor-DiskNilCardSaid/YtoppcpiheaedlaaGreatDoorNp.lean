/-
  DiskNil: the walk.
-/
import Derived.Test.YtoppcpiheaedlaaGreatDoorNo
import Derived.Test.YtoppcpiheaedlaaGreatDoorLv
namespace Go.Proofs.YtoppcpiheaedlaaGreatDoor
open Go.RowKit Go.Maps
set_option linter.unusedVariables false
set_option linter.unusedSimpArgs false
attribute [local go_sem] sv nv mv pv

set_option maxRecDepth 100000 in
set_option maxHeartbeats 16000000 in
theorem kNil (x : Dd) (w : World) (hx : DdOk w x) (hek : EK w) :
    Calls Tryz.prog 7 #[x.v] w fun e w' => e = .returned (.bool true) ∧ Grows w w' := by
  have hmx : Tryz.prog.follows .mixedOrders = true := by kernel_rfl
  have hsz : (Tryz.prog.info? 39).map (·.size) = some 6 := by kernel_rfl
  obtain ⟨kd, Hkd⟩ : ∃ y, Hid (x.kind = y) := ⟨_, rfl⟩
  obtain ⟨sa, Hsa⟩ : ∃ y : ByteArray, Hid (⟨x.a.toArray⟩ = y) := ⟨_, rfl⟩
  obtain ⟨c2, c3, c4, c5, Hx⟩ : ∃ c2 c3 c4 c5, Hid (x.cs = [.int .i64 kd, .string sa, c2, c3, c4, c5]) := ⟨_, _, _, _, by rw [← Hkd.out, ← Hsa.out]; exact rfl⟩
  have hv : x.v = .agg #[.int .i64 kd, .string sa, c2, c3, c4, c5] := by have := Hx.out; unfold Dd.cs at this; unfold Dd.v; simp only [List.cons.injEq] at this; obtain ⟨e0, e1, e2, e3, e4, e5, _⟩ := this; rw [e0, e1, e2, e3, e4, e5]
  rw [hv]
  obtain ⟨g, Hg⟩ : ∃ g, Hid (w.heap.size = g) := ⟨_, rfl⟩
  obtain ⟨w1, Hw1⟩ : ∃ w1, Hid (w.alloc (.cells #[.int .i64 kd, .string sa, c2, c3, c4, c5] 39) = w1) := ⟨_, rfl⟩
  have HG1 : Hid (Grows w w1) := by rw [← Hw1.out]; exact Grows.alloc' _ _
  have hrow : w1.heap[g]? = some (.cells #[.int .i64 kd, .string sa, c2, c3, c4, c5] 39 (0, 0)) := by rw [← Hw1.out, ← Hg.out]; exact heap_alloc_new _ _
  have hcs : ∀ j v, [.int .i64 kd, .string sa, c2, c3, c4, c5][j]? = some v → w1.cell? ((⟨g, 0, none⟩ : Addr).add j) = some v := fun j v hj => by
    rw [Addr.add_lit, Nat.zero_add, cell_of_row _ g j _ _ _ hrow]
    simpa using hj
  have Hcs := Lib.hid hcs
  have HDd := Lib.hid hx
  have Hek := Lib.hid hek
  clear hx hek hrow hcs
  have Hv := Lib.hid hv
  clear hv
  go_enter Tryz.func7, Tryz.ntmps7
  go_wp2_with (first | (refine wpList_boxT rfl 39 _ rfl #[.int .i64 kd, .string sa, c2, c3, c4, c5] rfl ?_; rw [Hg.out, Hw1.out]) | (refine wpList_loadPart rfl 39 _ rfl ⟨g, 0, none⟩ rfl [.int .i64 kd, .string sa, c2, c3, c4, c5] #[.int .i64 kd, .string sa, c2, c3, c4, c5] rfl _ Hcs.out Tryz.underlying39 rfl hsz ?_) | fail)
  obtain ⟨g2, Hg2⟩ : ∃ g2, Hid (w1.heap.size = g2) := ⟨_, rfl⟩
  obtain ⟨w2, Hw2⟩ : ∃ w2, Hid (w1.alloc (.cells #[.int .i64 kd, .string sa, c2, c3, c4, c5] 39) = w2) := ⟨_, rfl⟩
  rw [Hg2.out, Hw2.out]
  have HG2 : Hid (Grows w1 w2) := by rw [← Hw2.out]; exact Grows.alloc' _ _
  have hrow2 : w2.heap[g2]? = some (.cells #[.int .i64 kd, .string sa, c2, c3, c4, c5] 39 (0, 0)) := by rw [← Hw2.out, ← Hg2.out]; exact heap_alloc_new _ _
  have hds : DdsAt w2 (.slice (some ⟨g2, 0, none⟩) 1 1) [x] := by
    refine ⟨_, 1, rfl, by simp, fun y hy => ?_, .inr ⟨g2, 0, rfl, fun i hi j u hu => ?_⟩⟩
    · rw [List.mem_singleton.1 hy]; exact HDd.out.grows (Grows.trans' HG1.out HG2.out)
    · obtain rfl : i = 0 := by simpa using hi
      rw [Nat.zero_mul, Nat.zero_add]
      try rw [Nat.zero_add]
      rw [cell_of_row _ g2 j _ _ _ hrow2]
      rw [List.getElem_cons_zero, Hx.out] at hu
      simpa using hu
  refine (pSmall _ _ _ hds).mono ?_
  rintro e w3 ⟨b, rfl, hG, hb⟩
  have Hb := Lib.hid hb
  have HG13 : Hid (Grows w1 w3) := Grows.trans' HG2.out hG
  have HG3 : Hid (Grows w w3) := Grows.trans' HG1.out HG13.out
  have Hek3 : Hid (EK w3) := Hek.out.grows HG3.out
  clear hG hb hds hrow2
  cases b
  · have HL := Lib.hid (pLive w3 Hek3.out)
    go_wp2_with fail
    refine HL.out.mono ?_
    rintro e w4 ⟨rfl, hG⟩
    have HG4 := Lib.hid (Grows.trans' HG3.out hG)
    clear hG HL
    go_wp2
    go_ret
    exact ⟨rfl, HG4.out⟩
  · obtain ⟨hp, hk⟩ : x.p.length ≤ 4000 ∧ x.keep.length ≤ 80 := by
      have := (Hb.out rfl).good x (by simp)
      unfold Dd.bad at this
      omega
    have HA := Lib.hid (NArm 0 41 w3)
    have HC := Lib.hid (NCrash 0 none 0 0 w3)
    have HD := Lib.hid (pDoNil x w3 (HDd.out.grows HG3.out) (by omega) (by omega) Hek3.out)
    rw [Hv.out, Hkd.out] at HD
    have Hcs3 : Hid (∀ j v, [.int .i64 kd, .string sa, c2, c3, c4, c5][j]? = some v → w3.cell? ((⟨g, 0, none⟩ : Addr).add j) = some v) := fun j v hj => Grows.cell' HG13.out (Hcs.out j v hj)
    clear hp hk
    go_wp2_with fail
    refine HA.out.mono ?_
    rintro e w4 ⟨rfl, rfl⟩
    clear HA
    go_wp2_with fail
    refine HC.out.mono ?_
    rintro e w4' ⟨rfl, rfl⟩
    clear HC
    go_wp2_with (first | (refine wpList_loadPart rfl 39 _ rfl ⟨g, 0, none⟩ rfl [.int .i64 kd, .string sa, c2, c3, c4, c5] #[.int .i64 kd, .string sa, c2, c3, c4, c5] rfl _ Hcs3.out Tryz.underlying39 rfl hsz ?_) | fail)
    refine HD.out.mono ?_
    rintro e w5 ⟨r, rfl, hr, hG⟩
    have Hr := Lib.hid hr
    have HG35 := Lib.hid hG
    have d0 : w5.cell? ⟨g, 0, none⟩ = some (.int .i64 kd) := Grows.cell' HG35.out (Hcs3.out 0 _ rfl)
    have d1 : w5.cell? ⟨g, 1, none⟩ = some (.string sa) := Grows.cell' HG35.out (Hcs3.out 1 _ rfl)
    have HG5 := Lib.hid (Grows.trans' HG3.out hG)
    have Hek5 : Hid (EK w5) := Hek3.out.grows hG
    clear hr hG HD
    have HN := Lib.hid (NLen x.a w5)
    unfold sv at HN
    rw [Hsa.out] at HN
    go_wp2_with fail
    refine HN.out.mono ?_
    rintro e w6 ⟨v, rfl, hF, hG⟩
    have HF := Lib.hid hF
    have HG6 := Lib.hid (Grows.trans' HG5.out hG)
    have d0' : w6.cell? ⟨g, 0, none⟩ = some (.int .i64 kd) := Grows.cell' hG d0
    have d1' : w6.cell? ⟨g, 1, none⟩ = some (.string sa) := Grows.cell' hG d1
    have Hek6 : Hid (EK w6) := Hek5.out.grows hG
    clear hF hG HN d0 d1
    have HP := Lib.hid (NPending w6)
    go_wp2_with fail
    refine HP.out.mono ?_
    rintro e w7 ⟨rfl, rfl⟩
    clear HP
    have HT := Lib.hid (pTold v opLen x.a 7 w7 Hek6.out HF.out (by omega))
    unfold sv opLen at HT
    rw [Hsa.out] at HT
    by_cases k0 : 0 ≤ kd
    · by_cases k7 : kd ≤ 7
      · obtain rfl := Hr.out k0 k7
        go_wp2_with fail
        refine HT.out.mono ?_
        rintro e w8 ⟨rfl, hG⟩
        have HG8 := Lib.hid (Grows.trans' HG6.out hG)
        have HL := Lib.hid (pLive w8 (Hek6.out.grows hG))
        have HM := Lib.hid (NNames w8)
        have HY := Lib.hid (NCopy w8)
        clear hG HT
        go_wp2_with fail
        refine HM.out.mono ?_
        rintro e w9 ⟨rfl, rfl⟩
        clear HM
        go_wp2_with fail
        refine HY.out.mono ?_
        rintro e w9' ⟨rfl, rfl⟩
        clear HY
        go_wp2_with fail
        refine HL.out.mono ?_
        rintro e w10 ⟨rfl, hG⟩
        have HG10 := Lib.hid (Grows.trans' HG8.out hG)
        clear hG HL
        go_wp2
        go_ret
        exact ⟨rfl, HG10.out⟩
      · clear Hr
        go_wp2_with fail
        refine HT.out.mono ?_
        rintro e w8 ⟨rfl, hG⟩
        have HG8 := Lib.hid (Grows.trans' HG6.out hG)
        have HL := Lib.hid (pLive w8 (Hek6.out.grows hG))
        have HM := Lib.hid (NNames w8)
        have HY := Lib.hid (NCopy w8)
        clear hG HT
        go_wp2_with fail
        refine HM.out.mono ?_
        rintro e w9 ⟨rfl, rfl⟩
        clear HM
        go_wp2_with fail
        refine HY.out.mono ?_
        rintro e w9' ⟨rfl, rfl⟩
        clear HY
        go_wp2_with fail
        refine HL.out.mono ?_
        rintro e w10 ⟨rfl, hG⟩
        have HG10 := Lib.hid (Grows.trans' HG8.out hG)
        clear hG HL
        go_wp2
        go_ret
        exact ⟨rfl, HG10.out⟩
    · clear Hr
      go_wp2_with fail
      refine HT.out.mono ?_
      rintro e w8 ⟨rfl, hG⟩
      have HG8 := Lib.hid (Grows.trans' HG6.out hG)
      have HL := Lib.hid (pLive w8 (Hek6.out.grows hG))
      have HM := Lib.hid (NNames w8)
      have HY := Lib.hid (NCopy w8)
      clear hG HT
      go_wp2_with fail
      refine HM.out.mono ?_
      rintro e w9 ⟨rfl, rfl⟩
      clear HM
      go_wp2_with fail
      refine HY.out.mono ?_
      rintro e w9' ⟨rfl, rfl⟩
      clear HY
      go_wp2_with fail
      refine HL.out.mono ?_
      rintro e w10 ⟨rfl, hG⟩
      have HG10 := Lib.hid (Grows.trans' HG8.out hG)
      clear hG HL
      go_wp2
      go_ret
      exact ⟨rfl, HG10.out⟩
theorem kNilIn (v : Value) (x : Dd) (hv : v = x.v) (w : World) (hek : EK w) (hx : DdOk w x) : Calls Tryz.prog 7 #[v] w fun e w' => e = .returned (.bool true) ∧ Grows w w' := by
  rw [hv]
  exact kNil x w hx hek
end Go.Proofs.YtoppcpiheaedlaaGreatDoor
