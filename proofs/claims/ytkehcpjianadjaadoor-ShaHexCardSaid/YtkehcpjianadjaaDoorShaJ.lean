/-
  The contract of the program's own Sum of a Hash; blocks one behind the other.
-/
import Derived.Test.YtkehcpjianadjaaDoorShaG
namespace Go.Proofs.YtkehcpjianadjaaDoor
open Go.RowKit
set_option linter.unusedVariables false
set_option linter.unusedSimpArgs false

theorem blocks_pre (h : R8) (A B : List UInt8) : ∀ k, 64 * k ≤ A.length → blocks h (A ++ B) k = blocks h A k
  | 0, _ => rfl
  | k + 1, hk => by
    rw [blocks, blocks, blocks_pre h A B k (by omega)]
    congr 1
    rw [List.drop_append_of_le_length (by omega), List.take_append_of_le_length (by rw [List.length_drop]; omega)]
theorem blocks_post (h : R8) (A B : List UInt8) (k : Nat) (hA : A.length = 64 * k) : ∀ j, blocks h (A ++ B) (k + j) = blocks (blocks h A k) B j
  | 0 => blocks_pre h A B k (by omega)
  | j + 1 => by
    rw [← Nat.add_assoc, blocks, blocks, blocks_post h A B k hA j]
    congr 2
    rw [show 64 * (k + j) = A.length + 64 * j by omega, List.drop_length_add_append]
theorem endF_length (o : List UInt8) (n : Nat) (ho : o.length = 64) : ∃ nb, (endF o n).length = 64 * nb ∧ nb ≤ 2 := by
  have h8 : (eightF (8 * n)).length = 8 := by simp [eightF]
  have h1 : (endF o n).length = n % 64 + 1 + zerosF n + 8 := by
    unfold endF
    simp only [List.length_append, List.length_cons, List.length_take, List.length_replicate, h8, ho]
    omega
  rw [h1]
  unfold zerosF
  exact ⟨(n % 64 + 1 + (55 + 64 - n % 64) % 64 + 8) / 64, by omega, by omega⟩
theorem sha_end (l o : List UInt8) (nb : Nat) (ho : o.take (l.length % 64) = l.drop (64 * (l.length / 64))) (he : (endF o l.length).length = 64 * nb) :
    bytesF (blocks (blocks r8i l (l.length / 64)) (endF o l.length) nb) = shaF l := by
  have hp : padF l = l.take (64 * (l.length / 64)) ++ endF o l.length := by
    unfold padF endF
    rw [ho, ← List.append_assoc, List.take_append_drop]
  have hA : (l.take (64 * (l.length / 64))).length = 64 * (l.length / 64) := by rw [List.length_take]; omega
  have hb : blocks r8i l (l.length / 64) = blocks r8i (l.take (64 * (l.length / 64))) (l.length / 64) := by
    have := blocks_pre r8i (l.take (64 * (l.length / 64))) (l.drop (64 * (l.length / 64))) (l.length / 64) (by omega)
    rw [List.take_append_drop] at this
    exact this
  unfold shaF
  rw [hp, List.length_append, hA, he, show (64 * (l.length / 64) + 64 * nb) / 64 = l.length / 64 + nb by omega, blocks_post _ _ _ _ hA, ← hb]

theorem Byt.but1 {O : Nat → Prop} {a b : World} {v : Value} {l : List UInt8} (h : Byt a v l) (g : But O a b) (ho : Outside O v) : Byt b v l := by
  obtain ⟨ad, cap, rfl, h1, h2, h3, h4⟩ := h
  refine ⟨ad, cap, rfl, h1, h2, h3, h4.imp id ?_⟩
  rintro ⟨bb, off, rfl, hc⟩
  by_cases h0 : l.length = 0
  · exact ⟨bb, off, rfl, fun i hi => by omega⟩
  · exact ⟨bb, off, rfl, fun i hi => g.cell1 (ho bb off none _ _ rfl h0) (hc i hi)⟩

theorem Own.outside1 {e : TypeId} {B g : Nat} {W : World} {v : Value} {l : List UInt8} (h : Own e B W v l) (hg : g < B) : Outside (fun k => k = g) v := by
  intro b off sp n c e' hn hb
  rcases h.2 with ⟨h', _⟩ | ⟨g', cap, cur, h', hB, _⟩
  · rw [h'] at e'; cases e'
  · rw [h'] at e'
    simp only [Value.slice.injEq, Option.some.injEq, Addr.mk.injEq] at e'
    have := e'.1.1
    omega
set_option maxRecDepth 100000 in
set_option maxHeartbeats 4000000 in
theorem vSumH (p : Nat) (l o : List UInt8) (hl : l.length ≤ 1099511627776) (w : World) (hK : KW w) (h : HashAt w p l o) :
    Calls Tryd.prog 13 #[.pointer (some ⟨p, 0, none⟩)] w fun e w' => e = .returned (arr (shaF l)) ∧ Grows w w' := by
  obtain ⟨i0, hi, hz0, hz1, hz2⟩ := info_parts info5
  obtain ⟨nb, hnb, hnb2⟩ := endF_length o l.length h.len
  have Hsha := Lib.hid (sha_end l o nb h.rest hnb)
  have Hlen := Lib.hid h.len
  have Hrow := Lib.hid h.row
  obtain ⟨s0, Hs0⟩ : ∃ s, Shut (blocks r8i l (l.length / 64) = s) := ⟨_, ⟨rfl⟩⟩
  rw [Hs0.out] at Hsha Hrow
  have HE := Lib.hid (fun (w : World) (h : w.heap[p]? = some (.cells (hashRow s0 o l.length) 52 (0, 0))) => vEnding p s0 o l.length Hlen.out hl w h)
  obtain ⟨E, HEe⟩ : ∃ E, Shut (endF o l.length = E) := ⟨_, ⟨rfl⟩⟩
  rw [HEe.out] at Hsha HE hnb
  have Hnb : Hid (E.length = 64 * nb ∧ nb ≤ 2) := ⟨hnb, hnb2⟩
  obtain ⟨C0, HC0⟩ : ∃ C, Shut ((s0.list.map wv).toArray = C) := ⟨_, ⟨rfl⟩⟩
  have hC0s : C0.size = 8 := by rw [← HC0.out]; rfl
  have hC01 : C0.all (·.oneCell') = true := by rw [← HC0.out]; exact wv_one _
  obtain ⟨Z, hZ, hZs⟩ := arrZ25
  obtain ⟨Y, hY, hYs⟩ := wordZ
  obtain ⟨D, HD⟩ : ∃ D, Shut (arr (shaF l) = .agg D) := ⟨_, ⟨rfl⟩⟩
  obtain ⟨hDs, hD1⟩ := arrSize _ (shaF_length l) D HD.out
  rw [HD.out]
  have hcs : ∀ j v, (s0.list.map wv)[j]? = some v → (w.alloc (.cells Z 25)).cell? (Addr.add ⟨p, 0, none⟩ j) = some v := fun j v hv => by
    have hj : j < 8 := by simpa [R8.list] using (List.getElem?_eq_some_iff.1 hv).1
    rw [Addr.add_lit, Nat.zero_add, (Grows.alloc' w _).cell' (show w.cell? ⟨p, j, none⟩ = some (wv (s0.list.getD j 0)) by rw [cell_of_row w p j _ _ _ Hrow.out]; exact rowW_get _ _ _ (by simpa [R8.list] using hj)), ← hv]
    have h1 : j < s0.list.length := hj
    simp [h1]
  have Hcs := Lib.hid hcs
  have HK := Lib.hid hK
  clear hcs h hl hK hnb hnb2
  have h9 := heap_alloc_new (w.alloc (.cells Z 25)) (.cells Y 48)
  obtain ⟨hb9, hg2⟩ := allocSet (w.alloc (.cells Z 25)) Y C0 48
  have hsz : (w.alloc (.cells Z 25)).heap.size = w.heap.size + 1 := by simp
  have h9o := h9
  rw [hsz] at h9 hb9 hg2
  go_enter Tryd.func13, Tryd.ntmps13
  go_wp2_with (first
    | (refine wpList_loadPart rfl 48 _ rfl ⟨p, 0, none⟩ rfl (s0.list.map wv) C0 HC0.out _ Hcs.out Tryd.underlying48 rfl wordSize ?_)
    | (refine wpList_allocT rfl 25 rfl _ hZ ?_)
    | (refine wpList_allocT rfl 48 rfl _ hY ?_)
    | (refine wpList_storeT rfl _ _ _ rfl (w.alloc (.cells Z 25)).heap.size 48 Y C0 rfl rfl h9o (by rw [hC0s]; exact wordSize) (by rw [hYs, hC0s]) hC01 ?_))
  have hG2 : Grows w (((w.alloc (.cells Z 25)).alloc (.cells Y 48)).setRow (w.heap.size + 1) C0) := Grows.trans' (Grows.alloc' _ _) hg2
  have hR2 : (((w.alloc (.cells Z 25)).alloc (.cells Y 48)).setRow (w.heap.size + 1) C0).heap[w.heap.size]? = some (.cells Z 25 (0, 0)) := hg2.heap' (heap_alloc_new w _)
  obtain ⟨w2, hw2⟩ : ∃ x, (((w.alloc (.cells Z 25)).alloc (.cells Y 48)).setRow (w.heap.size + 1) C0) = x := ⟨_, rfl⟩
  rw [hw2] at hb9 hG2 hR2 ⊢
  clear hw2 hg2 h9 h9o hsz
  refine (HE.out _ (hG2.heap' Hrow.out)).mono ?_
  rintro e w3 ⟨v, rfl, hown, hg3⟩
  have hb3 : w3.heap[w.heap.size + 1]? = some (.cells (rowW (blocks s0 E 0).list []) 48 (0, 0)) := by
    rw [hg3.heap' hb9, ← HC0.out]
    unfold rowW
    rw [List.append_nil]
    rfl
  have hR3 := hg3.heap' hR2
  have hG3 := Grows.trans' hG2 hg3
  have hout : Outside (fun k => k = w.heap.size + 1) v := hown.outside1 (Array.getElem?_eq_some_iff.1 hb9).1
  have hby := hown.byt
  obtain ⟨a, c, rfl⟩ := hby.slice
  obtain ⟨gE, hgE⟩ : ∃ n, w.heap.size + 1 = n := ⟨_, rfl⟩
  obtain ⟨gR, hgR⟩ : ∃ n, w.heap.size = n := ⟨_, rfl⟩
  have HgE : Hid (w.heap.size ≤ gE ∧ w.heap.size ≤ gR ∧ gR ≠ gE ∧ gE ≠ 0) := by show _ ∧ _; omega
  rw [hgE] at hb3 hout ⊢
  rw [hgR] at hR3 ⊢
  have Hout := Lib.hid hout
  have Hby := Lib.hid hby
  have Hb3 := Lib.hid hb3
  have HR3 := Lib.hid hR3
  have HG3 := Lib.hid hG3
  clear hgE hgR hb3 hout hR3 hG3 hby hown hg3 hb9 hR2 hG2
  go_wp2
  go_loopw [4] (fun t4 wr => ∃ (k n : Nat) (a : Option Addr) (c : Nat), k ≤ nb ∧ n = 64 * (nb - k) ∧ t4 = .slice a n c ∧ Byt wr (.slice a n c) (E.drop (64 * k)) ∧ Outside (fun k => k = gE) (.slice a n c) ∧ wr.heap[gE]? = some (.cells (rowW (blocks s0 E k).list []) 48 (0, 0)) ∧ wr.heap[gR]? = some (.cells Z 25 (0, 0)) ∧ Grows w wr)
    (fun t4 _ => slen t4)
  case atStart => exact ⟨0, E.length, a, c, Nat.zero_le _, Hnb.out.1, rfl, Hby.out, Hout.out, Hb3.out, HR3.out, HG3.out⟩
  case round =>
    obtain ⟨k, n, a4, c4, hk, hn, rfl, hby, hout, hb, hR, hG⟩ := hrel
    have Hby4 := Lib.hid hby
    have Hout4 := Lib.hid hout
    have Hb4 := Lib.hid hb
    have HR4 := Lib.hid hR
    have HG4 := Lib.hid hG
    clear hby hout hb hR hG
    by_cases hlt : k < nb
    · obtain ⟨m, hm⟩ : ∃ m, n = 64 + m := ⟨n - 64, by omega⟩
      have hn0 : (0 : Int) < (n : Int) := by omega
      have Hm : Hid (n = 64 + m ∧ m = 64 * (nb - (k + 1)) ∧ k + 1 ≤ nb) := by show _ ∧ _; omega
      have hn1 : n = (E.drop (64 * k)).length := by rw [List.length_drop, Hnb.out.1]; omega
      have Hn1 := Lib.hid hn1
      clear hn hm hk hlt hn1
      go_wp2_with (refine wpList_sliceToO rfl _ _ 22 i0 rfl Tryd.underlying22 hi hz1 a4 n c4 (E.drop (64 * k)) Hn1.out rfl Hby4.out 64 .i64 rfl (by omega) (by have := Hm.out; omega) ?_; intro gb ob cb hcb)
      refine (vTake gE 48 (blocks s0 E k) [] gb ob cb ((E.drop (64 * k)).take 64) _ (HK.out.up HG4.out) HgE.out.2.2.2 Hb4.out hcb).mono ?_
      rintro e w5 ⟨rfl, hb5, hBt5⟩
      have Hby5 := Lib.hid (Hby4.out.but1 hBt5 Hout4.out)
      have Hb5 := Lib.hid hb5
      have HG5 : Hid (Grows w w5) := Below.trans HG4.out (hBt5.below HG4.out.size (fun k hk => by rw [hk]; exact HgE.out.1))
      have HR5 := Lib.hid ((hBt5.block gR (Array.getElem?_eq_some_iff.1 HR4.out).1 HgE.out.2.2.1).trans HR4.out)
      clear hb5 hBt5 hcb
      go_wp2_with (refine wpList_sliceFromO rfl _ _ 22 i0 rfl Tryd.underlying22 hi hz1 (fun k => k = gE) a4 n c4 (E.drop (64 * k)) Hn1.out rfl Hby5.out Hout4.out 64 .i64 rfl m Hm.out.1 ?_; intro a6 c6 hb6 ho6)
      go_roundw
      case rel =>
        rw [List.drop_drop, show 64 * k + 64 = 64 * (k + 1) by omega] at hb6
        exact ⟨k + 1, m, a6, c6, Hm.out.2.2, Hm.out.2.1, rfl, hb6, ho6, Hb5.out, HR5.out, HG5.out⟩
      case measure => have := Hm.out; simp [slen]; omega
    · have hn0 : ¬ ((0 : Int) < (n : Int)) := by omega
      have hk' : k = nb := by omega
      rw [hk'] at Hb4
      obtain ⟨S, HS⟩ : ∃ S, Shut (blocks s0 E nb = S) := ⟨_, ⟨rfl⟩⟩
      rw [HS.out] at Hb4 Hsha
      obtain ⟨C, HC⟩ : ∃ C, Shut ((S.list.map wv).toArray = C) := ⟨_, ⟨rfl⟩⟩
      have hCs : C.size = 8 := by rw [← HC.out]; rfl
      have hb4 : wr.heap[gE]? = some (.cells C 48 (0, 0)) := by
        rw [Hb4.out, ← HC.out]
        unfold rowW
        rw [List.append_nil]
      have HDg := Lib.hid (vDigest S C HC wr)
      rw [Hsha.out, HD.out] at HDg
      have hn00 : n = 0 := by omega
      clear hk hn hk' hlt
      go_wp2_with (refine wpList_load_row rfl _ _ rfl gE rfl 48 C (0, 0) _ hb4 Tryd.underlying48 rfl (by rw [hCs]; exact wordSize) ?_)
      refine HDg.out.mono ?_
      rintro e w5 ⟨rfl, hg5⟩
      have hR5 := hg5.heap' HR4.out
      have HG5 := Lib.hid (Grows.trans' HG4.out hg5)
      clear hb4 hg5
      go_wp2_with (refine wpList_storeT rfl _ _ _ rfl gR 25 Z D rfl rfl hR5 (by rw [hDs]; exact infoSum) (by rw [hZs, hDs]) hD1 ?_)
      exact ret_cell rfl gR 25 D _ rfl (setRow_heap _ _ _ _ _ _ hR5) Tryd.underlying25 rfl (by rw [hDs]; exact infoSum) rfl ⟨rfl, setRow_below HG5.out HgE.out.2.1 D⟩
end Go.Proofs.YtkehcpjianadjaaDoor
