/-
  The contract of the document's own Sum of sha.
-/
import Derived.Test.YtkehcpjianadjaaDoorShaR
namespace Go.Proofs.YtkehcpjianadjaaDoor
open Go.RowKit
set_option linter.unusedVariables false
set_option linter.unusedSimpArgs false

theorem arrZ : ∃ Z : Array Value, ((Tryd.prog.info? 24).bind (fun i => i.zero)).map (fun z => z.cells) = some Z ∧ Shut (Z = ((List.replicate 32 (0 : UInt8)).map bv).toArray) := ⟨_, by kernel_rfl, ⟨rfl⟩⟩
theorem infoArr : ((Tryd.prog.info? 24).bind (fun i => i.zero)).map (fun z => z.cells) = some (((List.replicate 32 (0 : UInt8)).map bv).toArray) := by kernel_rfl
theorem infoArr2 : (Tryd.prog.info? 24).map (·.size) = some 32 := by kernel_rfl
def slen : Value → Nat
  | .slice _ n _ => n
  | _ => 0
theorem Own.slice {e : TypeId} {B : Nat} {W : World} {v : Value} {l : List UInt8} (h : Own e B W v l) : ∃ a c, v = .slice a l.length c := h.byt.slice

theorem byteN (m s : Nat) : ((m : Int) / 2 ^ s % 256) = ((UInt8.ofNat (m / 2 ^ s)).toNat : Int) := by
  rw [UInt8.toNat_ofNat']
  simp
theorem eight_snoc (n i : Nat) (hi : i < 8) : (eightF n).take (i + 1) = (eightF n).take i ++ [UInt8.ofNat (n / 2 ^ (56 - 8 * i))] := by
  rw [List.take_succ_eq_append_getElem (by simpa [eightF] using hi)]
  simp [eightF]

theorem set_bytes (xs : List UInt8) (m n : Nat) (d : UInt8) (hn : n = xs.length) : (((xs ++ List.replicate (m + 1) 0).map bv).toArray).setIfInBounds n (bv d) = ((((xs ++ [d]) ++ List.replicate m 0).map bv).toArray) := by
  subst hn
  rw [List.setIfInBounds_toArray, ← List.map_set]
  congr 2
  rw [List.replicate_succ, List.set_append_right _ _ (Nat.le_refl _), Nat.sub_self, List.set_cons_zero]
  simp
theorem bytesF_snoc (s : R8) (i : Nat) (hi : i < 32) : (bytesF s).take (i + 1) = (bytesF s).take i ++ [(s.list.getD (i / 4) 0 >>> UInt32.ofNat (24 - 8 * (i % 4))).toUInt8] := by
  rw [List.take_succ_eq_append_getElem (by simpa [bytesF] using hi)]
  simp [bytesF]

set_option maxRecDepth 100000 in
set_option maxHeartbeats 4000000 in
theorem refSha (v : Value) (l : List UInt8) (w : World) (h : Byt w v l) (hl : l.length ≤ 1099511627776) :
    Calls Tryd.prog 10 #[v] w fun e w' => e = .returned (.agg ((shaF l).map bv).toArray) ∧ Grows w w' := by
  obtain ⟨i0, hi, hz0, hz1, hz2⟩ := info_parts info5
  have H := Lib.hid h
  obtain ⟨a, cap, rfl⟩ := h.slice
  clear h
  have hn64 : IntKind.u64.wrap (l.length : Int) = (l.length : Int) := wrap_u64 _ (by omega) (by omega)
  obtain ⟨m8, hm8⟩ : ∃ m : Nat, (l.length : Int) * 8 = (m : Int) := ⟨l.length * 8, by omega⟩
  have hn8 : IntKind.u64.wrap (m8 : Int) = (m8 : Int) := wrap_u64 _ (by omega) (by omega)
  have Hm8 := Lib.hid hm8
  have Hl := Lib.hid hl
  obtain ⟨Z, hZ, HZ⟩ := arrZ
  have hOe : ∀ o, Own 5 (w.heap.size + 1) ((w.alloc o).alloc (.cells #[] 5)) (.slice (some ⟨w.heap.size + 1, 0, none⟩) 0 0) [] := fun o => by
    have := Own.empty 5 (w.heap.size + 1) (w.alloc o) (by simp)
    simpa using this
  go_enter Tryd.func10, Tryd.ntmps10
  go_wp2_with (first
    | (refine wpList_allocT rfl 24 rfl _ hZ ?_)
    | (at_builtin; refine wpList_app rfl _ _ 22 5 i0 rfl Tryd.underlying22 hi hz0 hz1 hz2 (w.heap.size + 1) _ _ [] l rfl (hOe _) rfl (H.out.grows ((Grows.alloc' _ _).trans' (Grows.alloc' _ _))) (by have := Hl.out; simp; omega) (by simp) ?_; intro v1 w1 hown1 hgrow1; have HG1 : Hid (Below (w.heap.size + 1) (w.alloc (.cells Z 24)) w1) := grows_app ((Below.refl _ _).alloc (by simp) _) (hOe _) (by simp) hgrow1)
    | (at_builtin; refine wpList_push rfl _ _ 22 5 i0 rfl Tryd.underlying22 hi hz0 hz1 hz2 (w.heap.size + 1) _ ([] ++ l) rfl (hown1.alloc _) w1.heap.size 1 rfl _ (cell_lit _ _ _) 128 rfl (by have := Hl.out; simp; omega) (by have := HG1.out.size; simp at this ⊢; omega) ?_; intro v2 w2 hown2 hgrow2; have HG2 : Hid (Below (w.heap.size + 1) (w.alloc (.cells Z 24)) w2) := grows_push HG1.out hown1 (by have := HG1.out.size; simp at this; omega) hgrow2))
  clear hl
  go_loopw [3] (fun t3 wr => ∃ (z : Nat) (L : List UInt8), Hid (L = l ++ 128 :: List.replicate z 0) ∧ z ≤ zerosF l.length ∧ Own 5 (w.heap.size + 1) wr t3 L ∧ Below (w.heap.size + 1) (w.alloc (.cells Z 24)) wr)
    (fun t3 _ => 1099511628000 - slen t3)
  case atStart => exact ⟨0, [] ++ l ++ [128], by show _ = _; simp, Nat.zero_le _, hown2, HG2.out⟩
  case round =>
    obtain ⟨z, L, HL, hz, hown, hB⟩ := hrel
    clear hown1 hgrow1 HG1 hown2 hgrow2 HG2
    obtain ⟨a3, c3, rfl⟩ := hown.slice
    have hLl : L.length = l.length + 1 + z := by rw [HL.out]; simp; omega
    have hz64 : z ≤ 63 := by unfold zerosF at hz; omega
    have hsz := hB.size
    simp at hsz
    by_cases hd : z < zerosF l.length
    · have hne : ¬ ((L.length : Int) % 64 = 56) := by unfold zerosF at hd; omega
      have hne' : ((L.length : Int) % 64 == 56) = false := by simpa using hne
      have Hsm := Lib.hid (show 1099511628000 - (L.length + 1) < 1099511628000 - L.length by have := Hl.out; omega)
      have Hd := Lib.hid hd
      have HLl := Lib.hid hLl
      have hbd : (L.length : Int) ≤ 1099511628000 := by have := Hl.out; omega
      clear hd hLl hz hz64
      go_wp2_with (at_builtin; refine wpList_push rfl _ _ 22 5 i0 rfl Tryd.underlying22 hi hz0 hz1 hz2 (w.heap.size + 1) _ L rfl (hown.alloc _) wr.heap.size 1 rfl _ (cell_lit _ _ _) 0 rfl (by omega) (by simp; omega) ?_; intro v' w3 hown' hgrow)
      go_roundw
      case rel => exact ⟨z + 1, L ++ [0], by show _ = _; rw [HL.out]; simp [List.replicate_succ'], Hd.out, hown', grows_push hB hown hsz hgrow⟩
      case measure =>
        obtain ⟨a4, c4, rfl⟩ := hown'.slice
        have := Hsm.out
        simp [slen]
        omega
    · have hzz : z = zerosF l.length := by omega
      have heq : ((L.length : Int) % 64 = 56) := by unfold zerosF at hzz; omega
      have heq' : ((L.length : Int) % 64 != 56) = false := by simp [heq]
      have hbd : (L.length : Int) ≤ 1099511628000 := by have := Hl.out; omega
      obtain ⟨P0, HP0⟩ : ∃ P : List UInt8, Hid (P = l ++ 128 :: List.replicate (zerosF l.length) 0) := ⟨_, Lib.hid rfl⟩
      have hLP : L = P0 := by rw [HL.out, HP0.out, hzz]
      have hP56 : P0.length % 64 = 56 ∧ P0.length ≤ 1099511628000 := by rw [← hLP]; omega
      have hownP : Own 5 (w.heap.size + 1) wr (.slice a3 L.length c3) P0 := by rw [← hLP]; exact hown
      clear hd hLl hz hz64 hzz hown hLP
      go_wp2
      clear heq heq'
      go_loopw [3, 5] (fun t3 t5 wr => ∃ (i : Nat), i ≤ 8 ∧ t5 = .int .i64 i ∧ Own 5 (w.heap.size + 1) wr t3 (P0 ++ (eightF m8).take i) ∧ Below (w.heap.size + 1) (w.alloc (.cells Z 24)) wr)
        (fun _ t5 _ => 8 - (intOf t5).toNat)
      case atStart => exact ⟨0, by omega, rfl, by simpa using hownP, hB⟩
      case round =>
        obtain ⟨i, hi8, rfl, hown, hB⟩ := hrel
        clear hownP
        have hsz := hB.size
        simp at hsz
        by_cases hlt : i < 8
        · obtain ⟨sh, hsh⟩ : ∃ s : Nat, (56 : Int) - 8 * (i : Int) = (s : Int) := ⟨56 - 8 * i, by omega⟩
          have hsh0 : ¬ ((sh : Int) < 0) := by omega
          have Hsn := Lib.hid (eight_snoc m8 i hlt)
          have Hsh : Hid (56 - 8 * i = sh) := by show _ = _; omega
          have Hi := Lib.hid hlt
          have Hlen : Hid ((P0 ++ (eightF m8).take i).length + 1 ≤ 140737488355328) := by
            show _ ≤ _
            have h1 : (eightF m8).length = 8 := by simp [eightF]
            rw [List.length_append, List.length_take, h1]
            omega
          clear hi8 hlt
          go_wp2_with (at_builtin; refine wpList_push rfl _ _ 22 5 i0 rfl Tryd.underlying22 hi hz0 hz1 hz2 (w.heap.size + 1) _ _ rfl (hown.alloc _) wr.heap.size 1 rfl _ (cell_lit _ _ _) (UInt8.ofNat (m8 / 2 ^ sh)) (byteN m8 sh) Hlen.out (by simp; omega) ?_; intro v' w3 hown' hgrow)
          go_roundw
          case rel => exact ⟨i + 1, Hi.out, by simp, by rw [Hsn.out, Hsh.out, ← List.append_assoc]; exact hown', grows_push hB hown hsz hgrow⟩
          case measure => have := Hi.out; simp [intOf]; omega
        · have hi88 : i = 8 := by omega
          obtain ⟨P1, HP1⟩ : ∃ P : List UInt8, Hid (P = P0 ++ eightF m8) := ⟨_, Lib.hid rfl⟩
          have hownP1 : Own 5 (w.heap.size + 1) wr u3 P1 := by
            rw [HP1.out]
            rw [hi88, List.take_of_length_le (by simp [eightF])] at hown
            exact hown
          have hP1 : P1.length = P0.length + 8 := by rw [HP1.out]; simp [eightF]
          obtain ⟨nb, hnb⟩ : ∃ n : Nat, P1.length = 64 * n := ⟨P1.length / 64, by omega⟩
          have hPP : Hid (P1 = padF l ∧ nb = (padF l).length / 64) := by
            have e : P1 = padF l := by
              rw [HP1.out, HP0.out]
              unfold padF
              rw [show 8 * l.length = m8 by have := Hm8.out; omega]
              simp
            exact ⟨e, by rw [← e]; omega⟩
          have hnbb : nb ≤ 20000000000 := by omega
          have HO := Lib.hid hownP1
          obtain ⟨a5, c5, e5⟩ := hownP1.slice
          subst e5
          have HwB := Lib.hid hB
          have HnL := Lib.hid hnb
          clear hown hownP1 hP1 hP56 hi8 hi88 hm8 hn8 hn64
          have hln : ((P1.length : Nat) : Int) = 64 * (nb : Int) := by omega
          clear hnb hB hbd
          go_wp2
          have hst := wds_lit wr 44 r8i
          have hOs := HO.out.grows (Grows.alloc' wr (.cells #[wv r8i.a, wv r8i.b, wv r8i.c, wv r8i.d, wv r8i.e, wv r8i.f, wv r8i.g, wv r8i.h] 44))
          have hBs := (HwB.out).alloc hsz (.cells #[wv r8i.a, wv r8i.b, wv r8i.c, wv r8i.d, wv r8i.e, wv r8i.f, wv r8i.g, wv r8i.h] 44)
          obtain ⟨g0, c0, e0, hc0⟩ := hst
          simp only [Value.slice.injEq, Option.some.injEq, Addr.mk.injEq, and_true, true_and] at e0
          go_loopw [6, 7] (fun t6 t7 wr => ∃ (k q g c : Nat), k ≤ nb ∧ q = 64 * k ∧ t7 = .int .i64 q ∧ t6 = .slice (some ⟨g, 0, none⟩) 8 c ∧ (∀ i, i < 8 → wr.cell? ⟨g, i, none⟩ = some (.int .u32 (wn ((blocks r8i P1 k).list.getD i 0)))) ∧ Own 5 (w.heap.size + 1) wr (.slice a5 P1.length c5) P1 ∧ Below (w.heap.size + 1) (w.alloc (.cells Z 24)) wr)
            (fun _ t7 _ => 64 * nb - (intOf t7).toNat)
          case atStart => exact ⟨0, 0, wr.heap.size, 8, Nat.zero_le _, rfl, rfl, rfl, by rw [e0.1]; exact hc0, hOs, hBs⟩
          case round =>
            obtain ⟨k, q, g, c, hk, hq, rfl, rfl, hcs, hOw, hBw⟩ := hrel
            have hszw := hBw.size
            simp at hszw
            clear hc0 hOs hBs e0
            by_cases hlt : k < nb
            · have hqn : (q : Int) < 64 * (nb : Int) := by omega
              obtain ⟨q2, hq2⟩ : ∃ n : Nat, (q : Int) + 64 = (n : Int) := ⟨q + 64, by omega⟩
              have hq2P : q2 ≤ P1.length := by have := HnL.out; omega
              have hqq : q ≤ q2 := by omega
              have Hcs := Lib.hid hcs
              have HOw := Lib.hid hOw
              have HBw := Lib.hid hBw
              have H64 : Hid (q2 - q = 64) := by show _ = _; omega
              have Hk := Lib.hid (show k + 1 ≤ nb ∧ q2 = 64 * (k + 1) by omega)
              have Hq := Lib.hid hq
              clear hcs hOw hBw hk hq hlt
              go_wp2_with (refine wpList_slice rfl _ _ _ 22 i0 rfl Tryd.underlying22 hi hz1 a5 c5 P1 rfl HOw.out.byt q q2 .i64 .i64 rfl rfl hqq hq2P ?_; intro a6 c6 hb6)
              rw [H64.out] at hb6 ⊢
              have hl64 : ((P1.drop q).take 64).length = 64 := by rw [List.length_take, List.length_drop]; have := H64.out; omega
              obtain ⟨a7, c7, e7, -, -, -, h4⟩ := hb6
              simp only [Value.slice.injEq] at e7
              obtain ⟨rfl, -, rfl⟩ := e7
              obtain ⟨gb, ob, rfl, hcb⟩ := h4.resolve_left (by intro h0; rw [h0] at hl64; simp at hl64)
              refine (refBlock g c gb ob _ (blocks r8i P1 k) ((P1.drop q).take 64) _ hl64 Hcs.out (fun i hi => hcb i (by rw [hl64]; exact hi))).mono ?_
              rintro e w5 ⟨v5, rfl, hw5, hg5⟩
              obtain ⟨g6, c6, rfl, hc6⟩ := hw5
              have Hc6 := Lib.hid hc6
              have Hg5 := Lib.hid hg5
              clear hc6 hg5 hcb h4 hl64
              go_wp2
              go_roundw
              case rel =>
                refine ⟨k + 1, q2, g6, c6, Hk.out.1, Hk.out.2, by simp, rfl, fun i hi => ?_, HOw.out.grows Hg5.out, Below.trans HBw.out (Below.mono Hg5.out hszw)⟩
                rw [blocks, ← Hq.out]
                exact Hc6.out i hi
              case measure =>
                have := Hk.out
                have := Hq.out
                show 64 * nb - (q2 : Int).toNat < 64 * nb - (q : Int).toNat
                omega
            · have hqn : ¬ (q : Int) < 64 * (nb : Int) := by omega
              have hkn : k = nb := by omega
              rw [hkn] at hcs
              obtain ⟨s, Hs⟩ : ∃ s, Shut (blocks r8i P1 nb = s) := ⟨_, ⟨rfl⟩⟩
              rw [Hs.out] at hcs
              have Hcs := Lib.hid hcs
              have HBw := Lib.hid hBw
              clear hcs hOw hBw hk hkn hq
              go_wp2_with (refine wpList_allocT rfl 24 rfl _ hZ ?_)
              have hgw := World.block_lt_of_cell? wr ⟨g, 0, none⟩ (Hcs.out 0 (by omega))
              have h0 : (wr.alloc (.cells Z 24)).heap[wr.heap.size]? = some (.cells ((((bytesF s).take 0 ++ List.replicate (32 - 0) 0).map bv).toArray) 24 (0, 0)) := by
                rw [heap_alloc_new, HZ.out]
                rfl
              have hB0 : Below wr.heap.size wr (wr.alloc (.cells Z 24)) := (Below.refl _ _).alloc (Nat.le_refl _) _
              obtain ⟨gO, HgO⟩ : ∃ n, Hid (wr.heap.size = n) := ⟨_, rfl⟩
              obtain ⟨wS, HwS⟩ : ∃ x, Hid (wr = x) := ⟨_, rfl⟩
              have hszO : w.heap.size + 1 ≤ gO := by rw [← HgO.out]; exact hszw
              rw [HgO.out] at h0 hB0 hgw ⊢
              go_loopw [9] (fun t9 wr => ∃ (i : Nat), i ≤ 32 ∧ t9 = .int .i64 i ∧ wr.heap[gO]? = some (.cells ((((bytesF s).take i ++ List.replicate (32 - i) 0).map bv).toArray) 24 (0, 0)) ∧ Below gO wS wr)
                (fun t9 _ => 32 - (intOf t9).toNat)
              case atStart => exact ⟨0, by omega, rfl, h0, by rw [← HwS.out]; exact hB0⟩
              case round =>
                obtain ⟨i, hi32, rfl, hO, hBO⟩ := hrel
                by_cases hlt : i < 32
                · obtain ⟨q4, hq4⟩ : ∃ n : Nat, (i : Int) / 4 = (n : Int) := ⟨i / 4, by omega⟩
                  obtain ⟨r4, hr4⟩ : ∃ n : Nat, (i : Int) % 4 = (n : Int) := ⟨i % 4, by omega⟩
                  obtain ⟨sh, hsh⟩ : ∃ n : Nat, (24 : Int) - 8 * (r4 : Int) = (n : Int) := ⟨24 - 8 * r4, by omega⟩
                  have hsh0 : ¬ ((sh : Int) < 0) := by omega
                  have hq8 : (q4 : Int) < 8 := by omega
                  have hi3 : (i : Int) < 32 := by omega
                  have hcq0 : wS.cell? ⟨g, q4, none⟩ = some (.int .u32 (wn (s.list.getD q4 0))) := by rw [← HwS.out]; exact Hcs.out q4 (by omega)
                  have hcq := (hBO.cell (p := ⟨g, q4, none⟩) hgw).trans hcq0
                  clear hcq0
                  obtain ⟨x, Hx⟩ : ∃ x, Hid (s.list.getD q4 0 = x) := ⟨_, rfl⟩
                  rw [Hx.out] at hcq
                  have e1 := wn_shr x sh (by omega)
                  have e2 := wn_low (x >>> UInt32.ofNat sh)
                  obtain ⟨y, Hy⟩ : ∃ y, Hid (x >>> UInt32.ofNat sh = y) := ⟨_, rfl⟩
                  rw [Hy.out] at e1 e2
                  obtain ⟨d, Hd⟩ : ∃ d, Hid (y.toUInt8 = d) := ⟨_, rfl⟩
                  rw [Hd.out] at e2
                  have Hbs : Hid ((bytesF s).take (i + 1) = (bytesF s).take i ++ [d]) := by
                    show _ = _
                    rw [bytesF_snoc s i hlt, show i / 4 = q4 by omega, show 24 - 8 * (i % 4) = sh by omega, Hx.out, Hy.out, Hd.out]
                  have hci : wr.cell? ⟨gO, i, none⟩ = some (bv 0) := by
                    rw [cell_of_row wr gO i _ 24 (0, 0) hO]
                    have h2 : min i (bytesF s).length = i := by simp [bytesF]; omega
                    simp [List.getElem?_append, h2, show 0 < 32 - i by omega]
                  have hfi := frozen_of_row wr gO i _ 24 hO
                  unfold bv at hci
                  have HO2 := Lib.hid hO
                  have HBO := Lib.hid hBO
                  have Hi := Lib.hid hlt
                  clear hO hBO hlt hi32 h0 hB0
                  go_wp2
                  go_roundw
                  case rel =>
                    refine ⟨i + 1, Hi.out, by simp, ?_, Below.setCell (p := ⟨gO, i, none⟩) HBO.out (Nat.le_refl _) _⟩
                    have h5 := row_setCell HO2.out i (bv d)
                    rw [show 32 - i = (32 - (i + 1)) + 1 by have := Hi.out; omega, set_bytes _ _ i _ (by rw [List.length_take]; simp [bytesF]; have := Hi.out; omega), ← Hbs.out] at h5
                    exact h5
                  case measure => have := Hi.out; simp [intOf]; omega
                · have hi32' : i = 32 := by omega
                  rw [hi32', List.take_of_length_le (by simp [bytesF])] at hO
                  have hsf : bytesF s = shaF l := by
                    unfold shaF
                    rw [← Hs.out, hPP.out.2, hPP.out.1]
                  have hO' : wr.heap[gO]? = some (.cells ((shaF l).map bv).toArray 24 (0, 0)) := by
                    rw [← hsf]
                    simpa using hO
                  have hBf : Below (w.heap.size + 1) (w.alloc (.cells Z 24)) wr := by
                    have h6 := Below.trans HBw.out (Below.mono (by rw [HwS.out]; exact hBO) hszO)
                    exact h6
                  have hrA : wr.heap[w.heap.size]? = some (.cells Z 24 (0, 0)) := (hBf.block w.heap.size (by omega)).trans (heap_alloc_new w _)
                  have hZs : Z.size = 32 := by rw [HZ.out]; simp
                  have hfs : ((shaF l).map bv).toArray.size = 32 := by simp [shaF_length]
                  have hone : ((shaF l).map bv).toArray.all (·.oneCell') = true := by
                    rw [Array.all_eq_true_iff_forall_mem]
                    intro u hu
                    simp at hu
                    obtain ⟨b, _, rfl⟩ := hu
                    rfl
                  have hset := setRow_heap wr w.heap.size _ ((shaF l).map bv).toArray 24 _ hrA
                  have hbel : Below w.heap.size w (wr.setRow w.heap.size ((shaF l).map bv).toArray) := (((Below.refl _ _).alloc (Nat.le_refl _) _).trans (Below.mono hBf (Nat.le_succ w.heap.size))).trans ⟨rfl, rfl, rfl, by simp [World.setRow], fun k hk => setRow_other wr w.heap.size k _ (by omega)⟩
                  clear hO hi32 h0 hB0
                  go_wp2_with (first
                    | (refine wpList_load_row rfl _ _ rfl gO rfl 24 ((shaF l).map bv).toArray (0, 0) _ hO' Tryd.underlying24 rfl (by rw [hfs]; exact infoArr2) ?_)
                    | (refine wpList_storeT rfl _ _ _ rfl w.heap.size 24 Z ((shaF l).map bv).toArray rfl rfl hrA (by rw [hfs]; exact infoArr2) (by rw [hZs, hfs]) hone ?_))
                  exact ret_cell rfl w.heap.size 24 _ _ rfl hset Tryd.underlying24 rfl (by rw [hfs]; exact infoArr2) rfl ⟨rfl, hbel⟩
end Go.Proofs.YtkehcpjianadjaaDoor
