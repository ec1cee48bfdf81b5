/-
  Contracts of the program's own ending and digest of sha; laws of slices that stay outside of some blocks.
-/
import Derived.Test.YtkehcpjianadjaaDoorShaE
namespace Go.Proofs.YtkehcpjianadjaaDoor
open Go.RowKit
set_option linter.unusedVariables false
set_option linter.unusedSimpArgs false

/-! Slices outside of some blocks. -/
theorem sliced_out {O : Nat → Prop} {W : World} {a : Option Addr} {cap L H : Nat} {l : List UInt8} (h : Byt W (.slice a l.length cap) l) (ho : Outside O (.slice a l.length cap)) (h1 : L ≤ H) (h2 : H ≤ l.length) :
    ∃ a' c', sliced a L H cap 1 = .slice a' (H - L) c' ∧ Byt W (.slice a' (H - L) c') ((l.drop L).take (H - L)) ∧ Outside O (.slice a' (H - L) c') := by
  obtain ⟨a', c', e1, e2⟩ := sliced_byt h h1 h2
  refine ⟨a', c', e1, e2, fun b off sp n c e hn => ?_⟩
  unfold sliced at e1
  rw [e] at e1
  simp only [Value.slice.injEq] at e1 e
  obtain ⟨e3, e4, -⟩ := e1
  have hl : l.length ≠ 0 := by omega
  cases a with
  | none =>
    split at e3
    · cases e3
    · cases e3
  | some x =>
    obtain ⟨bx, ox, sx⟩ := x
    have hb : ¬ O bx := ho bx ox sx _ _ rfl hl
    split at e3
    · simp only [Option.some.injEq, Addr.mk.injEq] at e3
      rw [← e3.1]; exact hb
    · simp only [Option.map_some, Option.some.injEq] at e3
      have h5 : bx = b := by
        have := congrArg Addr.block e3
        unfold Addr.add at this
        split at this <;> simpa using this
      rw [← h5]; exact hb
theorem wpList_sliceFromO {P : Program} {W : World} {ops : Array Oper} {rest : List Oper} {o : Oper} {a : Act} {Q : Exit → Act → World → Prop} (hgd : o.guard = none) (x lo : Operand) (T : TypeId) (i : TypeInfo)
    (ho : o.op = .slice T x (some lo) none none)
    (hT : P.underlying T = some (.slice (P.elem T))) (hi : P.info? (P.elem T) = some i) (hs : i.size = 1) (O : Nat → Prop)
    (ad : Option Addr) (n cap : Nat) (l : List UInt8) (hn : n = l.length) (hx : a.eval x = .slice ad n cap) (hv : Byt W (.slice ad n cap) l) (hO : Outside O (.slice ad n cap)) (L : Nat) (kl : IntKind) (hlo : a.eval lo = .int kl (L : Int)) (m : Nat) (h2 : n = L + m)
    (hK : ∀ a' c', Byt W (.slice a' m c') (l.drop L) → Outside O (.slice a' m c') → wpList P ops Q rest (a.put o.dst (.slice a' m c')) W) : wpList P ops Q (o :: rest) a W := by
  subst hn
  refine wpList_plain hgd fun K hK' => ?_
  obtain ⟨a', c', e1, e2, e3⟩ := sliced_out hv hO (show L ≤ l.length by omega) (Nat.le_refl _)
  have e4 : (l.drop L).take (l.length - L) = l.drop L := List.take_of_length_le (by simp)
  have e5 : l.length - L = m := by omega
  rw [e4, e5] at e2
  rw [e5] at e1 e3
  have hcap : l.length ≤ cap := by
    obtain ⟨a0, cap0, e, h3, _⟩ := hv
    simp only [Value.slice.injEq, true_and] at e
    omega
  have hr : (Instr.sliceAt T (.slice ad l.length cap) (some (.int kl (L : Int))) none none).run P W = .ok (.slice a' m c') W := by
    rw [run_sliceAt_slice W T _ _ _ _ hT, run_slice_l W T ad l.length cap hT kl L (by omega) (by omega)]
    simp [sizeOf, typeInfo, hi, hs, ← e1, Result.andThen]
  unfold Oper.wp execOp
  simp only [ho, Option.map_some, Option.map_none, hx, hlo, Sem.run_bind, Sem.run_pure, hr, Result.andThen_ok, Oper.upon]
  exact hK' _ _ (hK a' c' e2 e3)
theorem wpList_sliceToO {P : Program} {W : World} {ops : Array Oper} {rest : List Oper} {o : Oper} {a : Act} {Q : Exit → Act → World → Prop} (hgd : o.guard = none) (x hi : Operand) (T : TypeId) (i : TypeInfo)
    (ho : o.op = .slice T x none (some hi) none)
    (hT : P.underlying T = some (.slice (P.elem T))) (hi' : P.info? (P.elem T) = some i) (hs : i.size = 1)
    (ad : Option Addr) (n cap : Nat) (l : List UInt8) (hn : n = l.length) (hx : a.eval x = .slice ad n cap) (hv : Byt W (.slice ad n cap) l) (H : Nat) (kh : IntKind) (hhi : a.eval hi = .int kh (H : Int)) (h0 : 0 < H) (h2 : H ≤ n)
    (hK : ∀ b off c', (∀ i, i < H → W.cell? ⟨b, off + i, none⟩ = some (bv ((l.take H).getD i 0))) → wpList P ops Q rest (a.put o.dst (.slice (some ⟨b, off, none⟩) H c')) W) : wpList P ops Q (o :: rest) a W := by
  subst hn
  refine wpList_plain hgd fun K hK' => ?_
  obtain ⟨a', c', hr, e2⟩ := sliceTo_byt (kh := kh) hT hi' hs hv h2
  have hl : (l.take H).length = H := by rw [List.length_take]; omega
  obtain ⟨a7, c7, e7, -, -, -, h4⟩ := e2
  simp only [Value.slice.injEq] at e7
  obtain ⟨rfl, -, rfl⟩ := e7
  obtain ⟨gb, ob, rfl, hcb⟩ := h4.resolve_left (by intro h; rw [h] at hl; simp at hl; omega)
  rw [hl] at hcb
  unfold Oper.wp execOp
  simp only [ho, Option.map_some, Option.map_none, hx, hhi, Sem.run_bind, Sem.run_pure, hr, Result.andThen_ok, Oper.upon]
  exact hK' _ _ (hK _ _ _ hcb)
/-- A load of several cells out of a longer row. -/
theorem wpList_loadPart {P : Program} {w : World} {ops : Array Oper} {rest : List Oper} {o : Oper} {a : Act} {Q : Exit → Act → World → Prop} (hgd : o.guard = none) (ty : TypeId) (x : Operand) (ho : o.op = .load ty x)
    (ad : Addr) (hx : a.eval x = .pointer (some ad)) (cs : List Value) (C : Array Value) (hC : cs.toArray = C) (d : TypeDesc) (hc : ∀ j v, cs[j]? = some v → w.cell? (ad.add j) = some v)
    (hu : P.underlying ty = some d) (hd : (match d with | .struct _ | .array _ _ => true | _ => false) = true) (hi : (P.info? ty).map (·.size) = some cs.length)
    (h : wpList P ops Q rest (a.put o.dst (.agg C)) w) : wpList P ops Q (o :: rest) a w := by
  subst hC
  refine wpList_plain hgd fun K hK => ?_
  have hl := run_loadCells_list (P := P) w ad cs hc
  cases hq : P.info? ty with
  | none => simp [hq] at hi
  | some i =>
    have hs : i.size = cs.length := by simpa [hq] using hi
    have hagg : (isAgg ty).run P w = .ok true w := by
      unfold isAgg
      simp only [Sem.run_bind, run_underlying hu, Result.andThen_ok]
      cases d <;> simp at hd <;> rfl
    have hlv : (loadVar ty ad).run P w = .ok (.agg cs.toArray) w := by
      simp [loadVar, hagg, sizeOf, typeInfo, hq, hs, hl]
    unfold Oper.wp execOp
    simp only [ho, hx, Instr.loadAt, Instr.sureAddr, Sem.run_bind, Sem.run_pure, Result.andThen_ok, hlv, Oper.upon]
    exact hK _ _ h

/-! The words as bytes. -/
theorem arr25 : ∃ Z : Array Value, ((Tryd.prog.info? 25).bind (fun i => i.zero)).map (fun z => z.cells) = some Z ∧ Shut (Z = ((List.replicate 32 (0 : UInt8)).map bv).toArray) := ⟨_, by kernel_rfl, ⟨rfl⟩⟩
set_option maxRecDepth 100000 in
set_option maxHeartbeats 4000000 in
theorem vDigest (s : R8) (C : Array Value) (HC : Shut ((s.list.map wv).toArray = C)) (w : World) :
    Calls Tryd.prog 23 #[.agg C] w fun e w' => e = .returned (arr (bytesF s)) ∧ Grows w w' := by
  obtain ⟨Z, hZ, HZ⟩ := arr25
  obtain ⟨D, HD⟩ : ∃ D, Shut (arr (bytesF s) = .agg D) := ⟨_, ⟨rfl⟩⟩
  obtain ⟨hDs, hD1⟩ := arrSize _ (by simp [bytesF]) D HD.out
  have hZs : Z.size = 32 := by rw [HZ.out]; simp
  rw [HD.out]
  have h0 := heap_alloc_new w (.cells C 48)
  have hcq : ∀ i, i < 8 → (w.alloc (.cells C 48)).cell? ⟨w.heap.size, i, none⟩ = some (.int .u32 (wn (s.list.getD i 0))) := fun i hi => by
    rw [cell_of_row _ _ i _ 48 (0, 0) h0, ← HC.out]
    have h1 : i < s.list.length := hi
    simp [h1, wv]
  have Hcq := Lib.hid hcq
  clear h0 hcq
  go_enter Tryd.func23, Tryd.ntmps23
  go_wp2_with (first
    | (refine wpList_boxT rfl _ _ rfl C rfl ?_)
    | (refine wpList_allocT rfl 25 rfl _ hZ ?_))
  have hG0 : Grows w (((w.alloc (.cells C 48)).alloc (.cells Z 25)).alloc (.cells Z 25)) := Grows.trans' (Grows.trans' (Grows.alloc' _ _) (Grows.alloc' _ _)) (Grows.alloc' _ _)
  have hcq2 : ∀ i, i < 8 → (((w.alloc (.cells C 48)).alloc (.cells Z 25)).alloc (.cells Z 25)).cell? ⟨w.heap.size, i, none⟩ = some (.int .u32 (wn (s.list.getD i 0))) := fun i hi => (Grows.trans' (Grows.alloc' _ _) (Grows.alloc' _ _)).cell' (Hcq.out i hi)
  have hr2 : (((w.alloc (.cells C 48)).alloc (.cells Z 25)).alloc (.cells Z 25)).heap[w.heap.size + 1]? = some (.cells Z 25 (0, 0)) := by
    have h := heap_alloc_new (w.alloc (.cells C 48)) (.cells Z 25)
    rw [show (w.alloc (.cells C 48)).heap.size = w.heap.size + 1 by simp] at h
    exact (Grows.alloc' _ _).heap' h
  have hr3 : (((w.alloc (.cells C 48)).alloc (.cells Z 25)).alloc (.cells Z 25)).heap[w.heap.size + 1 + 1]? = some (.cells ((((bytesF s).take 0 ++ List.replicate (32 - 0) 0).map bv).toArray) 25 (0, 0)) := by
    have h := heap_alloc_new ((w.alloc (.cells C 48)).alloc (.cells Z 25)) (.cells Z 25)
    rw [show ((w.alloc (.cells C 48)).alloc (.cells Z 25)).heap.size = w.heap.size + 1 + 1 by simp] at h
    rw [h, HZ.out]
    rfl
  obtain ⟨w0, hw0⟩ : ∃ x, (((w.alloc (.cells C 48)).alloc (.cells Z 25)).alloc (.cells Z 25)) = x := ⟨_, rfl⟩
  obtain ⟨gO, hgO⟩ : ∃ n, w.heap.size + 1 + 1 = n := ⟨_, rfl⟩
  obtain ⟨gR, hgR⟩ : ∃ n, w.heap.size + 1 = n := ⟨_, rfl⟩
  obtain ⟨gW, hgW⟩ : ∃ n, w.heap.size = n := ⟨_, rfl⟩
  have Hne : Hid (gW ≠ gO ∧ gR ≠ gO ∧ w.heap.size ≤ gR ∧ w.heap.size ≤ gO) := by show _ ∧ _; omega
  rw [hw0] at hG0 hcq2 hr2 hr3 ⊢
  rw [hgO] at hr3 ⊢
  rw [hgR] at hr2 ⊢
  rw [hgW] at hcq2 ⊢
  have Hcq2 := Lib.hid hcq2
  clear hw0 hgO hgR hgW hcq2
  go_loopw [6] (fun t6 wr => ∃ (i : Nat), i ≤ 32 ∧ t6 = .int .i64 i ∧ wr.heap[gO]? = some (.cells ((((bytesF s).take i ++ List.replicate (32 - i) 0).map bv).toArray) 25 (0, 0)) ∧ But (fun k => k = gO) w0 wr ∧ Grows w wr)
    (fun t6 _ => 32 - (intOf t6).toNat)
  case atStart => exact ⟨0, by omega, rfl, hr3, But.refl1 _ _, hG0⟩
  case round =>
    obtain ⟨i, hi32, rfl, hO, hB, hG⟩ := hrel
    clear hr3
    by_cases hlt : i < 32
    · have hi' : (i : Int) < 32 := by omega
      obtain ⟨q4, hq4⟩ : ∃ n : Nat, (i : Int) / 4 = (n : Int) := ⟨i / 4, by omega⟩
      obtain ⟨r4, hr4⟩ : ∃ n : Nat, (i : Int) % 4 = (n : Int) := ⟨i % 4, by omega⟩
      obtain ⟨d4, hd4⟩ : ∃ n : Nat, (3 : Int) - (r4 : Int) = (n : Int) := ⟨3 - r4, by omega⟩
      obtain ⟨sh, hsh⟩ : ∃ n : Nat, (8 : Int) * (d4 : Int) = (n : Int) := ⟨8 * d4, by omega⟩
      have hsh0 : ¬ ((sh : Int) < 0) := by omega
      have hsh32 : ¬ (32 ≤ (sh : Int)) := by omega
      have hq8 : ¬ (8 ≤ (q4 : Int)) := by omega
      have hi3 : ¬ (32 ≤ (i : Int)) := by omega
      have hcq := hB.cell1 (p := ⟨gW, q4, none⟩) Hne.out.1 (Hcq2.out q4 (by omega))
      obtain ⟨x, Hx⟩ : ∃ x, Hid (s.list.getD q4 0 = x) := ⟨_, rfl⟩
      rw [Hx.out] at hcq
      have e1 := wn_shr x sh (by omega)
      have e2 := wn_low (x >>> UInt32.ofNat sh)
      obtain ⟨y, Hy⟩ : ∃ y, Hid (x >>> UInt32.ofNat sh = y) := ⟨_, rfl⟩
      rw [Hy.out] at e1 e2
      obtain ⟨d, Hd⟩ : ∃ d, Hid (y.toUInt8 = d) := ⟨_, rfl⟩
      rw [Hd.out] at e2
      have Hbs : Hid ((bytesF s).take (i + 1) = (bytesF s).take i ++ [d]) := by
        show _ = _
        rw [bytesF_snoc s i hlt, show i / 4 = q4 by omega, show 24 - 8 * (i % 4) = sh by omega, Hx.out, Hy.out, Hd.out]
      have hci : wr.cell? ⟨gO, i, none⟩ = some (bv 0) := by
        rw [cell_of_row wr gO i _ 25 (0, 0) hO]
        have h2 : min i (bytesF s).length = i := by simp [bytesF]; omega
        simp [List.getElem?_append, h2, show 0 < 32 - i by omega]
      have hfi := frozen_of_row wr gO i _ 25 hO
      unfold bv at hci
      have HO2 := Lib.hid hO
      have HB := Lib.hid hB
      have HG := Lib.hid hG
      have Hi := Lib.hid hlt
      clear hO hB hlt hi32 hG
      go_wp2
      go_roundw
      case rel =>
        refine ⟨i + 1, Hi.out, by simp, ?_, But.setCell1 HB.out _ _ rfl, Below.setCell (p := ⟨gO, i, none⟩) HG.out Hne.out.2.2.2 _⟩
        have h5 := row_setCell HO2.out i (bv d)
        rw [show 32 - i = (32 - (i + 1)) + 1 by have := Hi.out; omega, set_bytes _ _ i _ (by rw [List.length_take]; simp [bytesF]; have := Hi.out; omega), ← Hbs.out] at h5
        exact h5
      case measure => have := Hi.out; simp [intOf]; omega
    · have hi' : ¬ (i : Int) < 32 := by omega
      have hi32' : i = 32 := by omega
      have hO' : wr.heap[gO]? = some (.cells D 25 (0, 0)) := by
        rw [hO, hi32', List.take_of_length_le (by simp [bytesF])]
        have := HD.out
        unfold arr at this
        simp only [Value.agg.injEq] at this
        rw [← this]
        simp
      have hrR : wr.heap[gR]? = some (.cells Z 25 (0, 0)) := (hB.block gR (Array.getElem?_eq_some_iff.1 hr2).1 Hne.out.2.1).trans hr2
      have HG := Lib.hid hG
      clear hO hi32 hB hr2 hG hi32' hlt
      go_wp2_with (first
        | (refine wpList_load_row rfl _ _ rfl gO rfl 25 D (0, 0) _ hO' Tryd.underlying25 rfl (by rw [hDs]; exact infoSum) ?_)
        | (refine wpList_storeT rfl _ _ _ rfl gR 25 Z D rfl rfl hrR (by rw [hDs]; exact infoSum) (by rw [hZs, hDs]) hD1 ?_))
      exact ret_cell rfl gR 25 D _ rfl (setRow_heap _ _ _ _ _ _ hrR) Tryd.underlying25 rfl (by rw [hDs]; exact infoSum) rfl ⟨rfl, setRow_below HG.out Hne.out.2.2.1 D⟩

/-! What stands behind the bytes. -/
theorem fix_eight (m : Nat) : fixed m 8 = eightF m := by
  unfold fixed eightF
  rw [if_neg (by omega : ¬ ((8 : Int) < 1 ∨ (8 : Int) < 8))]
  show fixG 8 m = _
  simp [fixG_cons, fixG, List.range_succ, Nat.div_div_eq_div_mul]
def endF (o : List UInt8) (n : Nat) : List UInt8 := o.take (n % 64) ++ 128 :: (List.replicate (zerosF n) 0 ++ eightF (8 * n))
set_option maxRecDepth 100000 in
set_option maxHeartbeats 2000000 in
theorem vEnding (p : Nat) (s : R8) (o : List UInt8) (n : Nat) (ho : o.length = 64) (hn : n ≤ 1099511627776) (w : World) (h : w.heap[p]? = some (.cells (hashRow s o n) 52 (0, 0))) :
    Calls Tryd.prog 22 #[.pointer (some ⟨p, 0, none⟩)] w fun e w' => ∃ v, e = .returned v ∧ Own 5 w.heap.size w' v (endF o n) ∧ Grows w w' := by
  obtain ⟨i0, hi, hz0, hz1, hz2⟩ := info_parts info5
  have hmx : Tryd.prog.follows .mixedOrders = true := by kernel_rfl
  have HBg := Lib.hid (vBegun p s o n ho (by omega) w h)
  have hct : w.cell? ⟨p, 72, none⟩ = some (.int .u64 n) := by rw [cell_of_row w p 72 _ _ _ h, hashRow_taken _ _ _ ho]
  have Hopen : Hid (∀ i, i < 64 → w.cell? ⟨p, 8 + i, none⟩ = some (bv (o.getD i 0))) := fun i hi => by rw [cell_of_row w p (8 + i) _ _ _ h, hashRow_open _ _ _ _ ho hi]
  obtain ⟨bb, hbb⟩ : ∃ m : Nat, n % 64 = m := ⟨_, rfl⟩
  rw [hbb] at HBg
  have hb64 : bb < 64 := by omega
  obtain ⟨q, hq⟩ : ∃ m : Nat, (119 : Int) - (bb : Int) = (m : Int) := ⟨119 - bb, by omega⟩
  obtain ⟨z, hz⟩ : ∃ m : Nat, (q : Int) % 64 = (m : Int) := ⟨q % 64, by omega⟩
  have Hzz : Hid (zerosF n = z) := by show _ = _; unfold zerosF; omega
  obtain ⟨m, hm⟩ : ∃ m : Nat, (8 : Int) * (n : Int) = (m : Int) := ⟨8 * n, by omega⟩
  have hmw : IntKind.u64.wrap (m : Int) = (m : Int) := wrap_u64 _ (by omega) (by omega)
  have Hm : Hid (8 * n = m ∧ m < 18446744073709551616) := by show _ ∧ _; omega
  have Hbb : Hid (n % 64 = bb ∧ bb < 64) := ⟨hbb, hb64⟩
  have hz64 : z < 64 := by omega
  have Hz64 := Lib.hid hz64
  have Ho := Lib.hid ho
  have Hlen : Hid ((List.flatten [o.take bb, [128], List.replicate z 0, eightF m]).length ≤ 140737488355328) := by
    show _ ≤ _
    have h8 : (eightF m).length = 8 := by simp [eightF]
    have h9 := List.length_take_le bb o
    simp only [List.flatten_cons, List.flatten_nil, List.append_nil, List.length_append, List.length_cons, List.length_nil, List.length_replicate, h8]
    omega
  have hbb64 : ¬ (64 < (bb : Int)) := by omega
  have hbb0 : ¬ ((bb : Int) < 0) := by omega
  have Hhw := Lib.hid ((Array.getElem?_eq_some_iff.1 h).1)
  clear h ho hn hbb hz64
  go_enter Tryd.func22, Tryd.ntmps22
  go_wp2_with fail
  refine HBg.out.mono ?_
  rintro e w1 ⟨rfl, rfl⟩
  go_wp2
  simp only [hz]
  refine specs_region
    #[[], [0], [0, 1], [], [0, 1, 2, 3], [], [], [6], [], [8], [8, 9], [8, 9, 10], [8, 9, 10, 11], [8, 9, 10, 11, 12], [0, 1, 2, 3, 4, 5, 6, 7, 8, 9, 10, 11, 12, 13], [0, 1, 2, 3, 4, 5, 6, 7, 8, 9, 10, 11, 12, 13, 14], [0, 1, 2, 3, 4, 5, 6, 7, 8, 9, 10, 11, 12, 13, 14, 15]] #[[0], [], [], [3], [], [], [4], [], [0], [], [], [], [], [], [], [], []] #[true, true, true, true, true, true, true, true, true, true, true, true, true, true, true, true, true]
    ((.val ?v0) :: (.val ?v1) :: (.val ?v2) :: (.val ?v3) :: (.val ?v4) :: (.byt [128]) :: (.val ?v6) :: (.byt (List.replicate z 0)) :: (.val ?v8) :: (.val ?v9) :: (.val ?v10) :: (.val ?v11) :: (.val ?v12) :: (.byt (eightF m)) :: (.bytl [o.take bb, [128], List.replicate z 0, eightF m]) :: (.pred (fun v W => Own 5 w1.heap.size W v (List.flatten [o.take bb, [128], List.replicate z 0, eightF m])) (fun _ _ _ g h => Own.grows h g)) :: (.pred (fun v W => Own 5 w1.heap.size W v (List.flatten [o.take bb, [128], List.replicate z 0, eightF m])) (fun _ _ _ g h => Own.grows h g)) :: []).toArray
    hmx ?chk ?grd ?stp ?rst
  case chk => rfl
  case stp =>
    refine ⟨?_, ?_, ?_, ?_, ?_, ?_, ?_, ?_, ?_, ?_, ?_, ?_, ?_, ?_, ?_, ?_, ?_, trivial⟩
    · refine step_intro rfl rfl fun ρ X hc hf hgl hX hp ho => ?_
      change StepOk _ { dst := _, op := Op.move (Operand.tmp 0), type := _, pos := _, after := _, guard := _ } _ _ _
      have k0 : ρ (.tmp 0) = .pointer (some ⟨p, 0, none⟩) := ho 0 (by decide)
      clear hp ho
      refine StepOk.of_run (v := ?v0) (w' := X) ?_ ⟨rfl, Below.refl _ _⟩
      clear hX
      go_simp
      all_goals try go_bits
      all_goals try simp only [IntWalk.iteOmega]
      all_goals try go_bits
      all_goals rfl
    · refine step_intro rfl rfl fun ρ X hc hf hgl hX hp ho => ?_
      change StepOk _ { dst := _, op := Op.nilCheck (Operand.tmp 10), type := _, pos := _, after := _, guard := _ } _ _ _
      have k10 : ρ (.tmp 10) = ?v0 := hp 0 (by decide)
      clear hp ho
      refine StepOk.of_run (v := ?v1) (w' := X) ?_ ⟨rfl, Below.refl _ _⟩
      clear hX
      go_simp
      all_goals try go_bits
      all_goals try simp only [IntWalk.iteOmega]
      all_goals try go_bits
      all_goals rfl
    · refine step_intro rfl rfl fun ρ X hc hf hgl hX hp ho => ?_
      change StepOk _ { dst := _, op := Op.fieldAddr 52 (Operand.tmp 11) 1, type := _, pos := _, after := _, guard := _ } _ _ _
      have k11 : ρ (.tmp 11) = ?v1 := hp 1 (by decide)
      clear hp ho
      refine StepOk.of_run (v := ?v2) (w' := X) ?_ ⟨rfl, Below.refl _ _⟩
      clear hX
      go_simp
      all_goals try go_bits
      all_goals try simp only [IntWalk.iteOmega]
      all_goals try go_bits
      all_goals rfl
    · refine step_intro rfl rfl fun ρ X hc hf hgl hX hp ho => ?_
      change StepOk _ { dst := _, op := Op.move (Operand.tmp 3), type := _, pos := _, after := _, guard := _ } _ _ _
      have k3 : ρ (.tmp 3) = .int .i64 (bb : Int) := ho 3 (by decide)
      clear hp ho
      refine StepOk.of_run (v := ?v3) (w' := X) ?_ ⟨rfl, Below.refl _ _⟩
      clear hX
      go_simp
      all_goals try go_bits
      all_goals try simp only [IntWalk.iteOmega]
      all_goals try go_bits
      all_goals rfl
    · refine step_intro rfl rfl fun ρ X hc hf hgl hX hp ho => ?_
      change StepOk _ { dst := _, op := Op.slice 50 (Operand.tmp 12) none (some (Operand.tmp 13)) none, type := _, pos := _, after := _, guard := _ } _ _ _
      have k12 : ρ (.tmp 12) = ?v2 := hp 2 (by decide)
      have k13 : ρ (.tmp 13) = ?v3 := hp 3 (by decide)
      clear hp ho
      refine StepOk.of_run (v := ?v4) (w' := X) ?_ ⟨rfl, Below.refl _ _⟩
      clear hX
      go_simp
      all_goals try go_bits
      all_goals try simp only [IntWalk.iteOmega]
      all_goals try go_bits
      all_goals rfl
    · refine step_intro rfl rfl fun ρ X hc hf hgl hX hp ho => ?_
      change StepOk _ { dst := _, op := Op.buildSlice 22 1 #[(0, Operand.const (Value.int IntKind.u8 128))], type := _, pos := _, after := _, guard := _ } _ _ _
      clear hp ho
      refine StepOk.of_run (v := .slice (some ⟨X.heap.size, 0, none⟩) 1 1) (w' := X.alloc (.cells (([128] : List UInt8).map bv).toArray 5)) ?_ ⟨(Own.lit 5 _ X [128] (Nat.le_refl _) (by simp [maxLen])).byt, Grows.alloc' _ _⟩
      simp [go_sem, execOp, hc, bv]
    · refine step_intro rfl rfl fun ρ X hc hf hgl hX hp ho => ?_
      change StepOk _ { dst := _, op := Op.move (Operand.tmp 4), type := _, pos := _, after := _, guard := _ } _ _ _
      have k4 : ρ (.tmp 4) = .int .i64 (z : Int) := ho 4 (by decide)
      clear hp ho
      refine StepOk.of_run (v := ?v6) (w' := X) ?_ ⟨rfl, Below.refl _ _⟩
      clear hX
      go_simp
      all_goals try go_bits
      all_goals try simp only [IntWalk.iteOmega]
      all_goals try go_bits
      all_goals rfl
    · refine step_intro rfl rfl fun ρ X hc hf hgl hX hp ho => ?_
      change StepOk _ { dst := _, op := Op.makeSlice 22 (Operand.tmp 16) (Operand.tmp 16), type := _, pos := _, after := _, guard := _ } _ _ _
      have k16 : ρ (.tmp 16) = ?v6 := hp 6 (by decide)
      clear hp ho
      obtain ⟨W', hr, hown, hgr⟩ := run_make_full (P := Tryd.prog) X X.heap.size 22 5 i0 (.int .u8 0) 1 Tryd.underlying22 hi hz0 hz1 .i64 .i64 z (by rw [hz2]; have := Hz64.out; omega) (by have := Hz64.out; unfold maxLen; omega) (Nat.le_refl _)
      have hb7 : Byt W' (.slice (some ⟨X.heap.size, 0, none⟩) z z) (List.replicate z 0) := (own_snoc (l := List.replicate z 0) hown (by simp) (by simp [toList_madeCells_one, Value.cells, bv])).byt
      refine StepOk.of_run (v := .slice (some ⟨X.heap.size, 0, none⟩) z z) (w' := W') ?_ ⟨hb7, (Below.refl _ _).grown hgr (Nat.le_refl _) (fun _ h => by cases h)⟩
      simp only [execOp, k16, Sem.run_bind, Sem.run_pure, Result.andThen_ok, hr]
    · refine step_intro rfl rfl fun ρ X hc hf hgl hX hp ho => ?_
      change StepOk _ { dst := _, op := Op.move (Operand.tmp 0), type := _, pos := _, after := _, guard := _ } _ _ _
      have k0 : ρ (.tmp 0) = .pointer (some ⟨p, 0, none⟩) := ho 0 (by decide)
      clear hp ho
      refine StepOk.of_run (v := ?v8) (w' := X) ?_ ⟨rfl, Below.refl _ _⟩
      clear hX
      go_simp
      all_goals try go_bits
      all_goals try simp only [IntWalk.iteOmega]
      all_goals try go_bits
      all_goals rfl
    · refine step_intro rfl rfl fun ρ X hc hf hgl hX hp ho => ?_
      change StepOk _ { dst := _, op := Op.nilCheck (Operand.tmp 18), type := _, pos := _, after := _, guard := _ } _ _ _
      have k18 : ρ (.tmp 18) = ?v8 := hp 8 (by decide)
      clear hp ho
      refine StepOk.of_run (v := ?v9) (w' := X) ?_ ⟨rfl, Below.refl _ _⟩
      clear hX
      go_simp
      all_goals try go_bits
      all_goals try simp only [IntWalk.iteOmega]
      all_goals try go_bits
      all_goals rfl
    · refine step_intro rfl rfl fun ρ X hc hf hgl hX hp ho => ?_
      change StepOk _ { dst := _, op := Op.fieldAddr 52 (Operand.tmp 19) 2, type := _, pos := _, after := _, guard := _ } _ _ _
      have k19 : ρ (.tmp 19) = ?v9 := hp 9 (by decide)
      clear hp ho
      refine StepOk.of_run (v := ?v10) (w' := X) ?_ ⟨rfl, Below.refl _ _⟩
      clear hX
      go_simp
      all_goals try go_bits
      all_goals try simp only [IntWalk.iteOmega]
      all_goals try go_bits
      all_goals rfl
    · refine step_intro rfl rfl fun ρ X hc hf hgl hX hp ho => ?_
      change StepOk _ { dst := _, op := Op.load 43 (Operand.tmp 20), type := _, pos := _, after := _, guard := _ } _ _ _
      have k20 : ρ (.tmp 20) = ?v10 := hp 10 (by decide)
      have hctX := Grows.cell' hX hct
      clear hp ho
      refine StepOk.of_run (v := ?v11) (w' := X) ?_ ⟨rfl, Below.refl _ _⟩
      clear hX
      go_simp
      all_goals try go_bits
      all_goals try simp only [IntWalk.iteOmega]
      all_goals try go_bits
      all_goals rfl
    · refine step_intro rfl rfl fun ρ X hc hf hgl hX hp ho => ?_
      change StepOk _ { dst := _, op := Op.binOp BinOp.mul 43 (Operand.const (Value.int IntKind.u64 8)) (Operand.tmp 21) 43, type := _, pos := _, after := _, guard := _ } _ _ _
      have k21 : ρ (.tmp 21) = ?v11 := hp 11 (by decide)
      clear hp ho
      refine StepOk.of_run (v := ?v12) (w' := X) ?_ ⟨rfl, Below.refl _ _⟩
      clear hX
      go_simp
      all_goals try go_bits
      all_goals try simp only [IntWalk.iteOmega]
      all_goals try go_bits
      all_goals rfl
    · refine step_intro rfl rfl fun ρ X hc hf hgl hX hp ho => ?_
      change StepOk _ { dst := _, op := Op.call { callee := Callee.value (Operand.func 32), args := #[Operand.tmp 22, Operand.const (Value.int IntKind.i64 8)], argTypes := #[43, 3] }, type := _, pos := _, after := _, guard := _ } _ _ _
      have k22 : ρ (.tmp 22) = ?v12 := hp 12 (by decide)
      clear hp ho
      refine StepOk.of_call (f := 32) (args := #[.int .u64 (m : Int), .int .i64 8]) (w' := X) ?_ (vFixed m 8 Hm.out.2 X) ?_
      · simp [go_sem, execOp, hc, hf, k22]
      · rintro e w'' ⟨v, rfl, hown, hg'⟩; exact ⟨_, rfl, by have := hown.byt; rw [fix_eight] at this; exact this, hg'⟩
    · refine step_intro rfl rfl fun ρ X hc hf hgl hX hp ho => ?_
      change StepOk _ { dst := _, op := Op.buildSlice 29 4 #[(0, Operand.tmp 14), (1, Operand.tmp 15), (2, Operand.tmp 17), (3, Operand.tmp 23)], type := _, pos := _, after := _, guard := _ } _ _ _
      have k14 : ρ (.tmp 14) = ?v4 := hp 4 (by decide)
      have k15 := hp 5 (by decide)
      have k17 := hp 7 (by decide)
      have k23 := hp 13 (by decide)
      clear hp ho
      have hb14 : Byt X (.slice (some ⟨p, 8, none⟩) bb 64) (o.take bb) := by
        have hl : (o.take bb).length = bb := by rw [List.length_take, Ho.out]; have := Hbb.out.2; omega
        refine ⟨some ⟨p, 8, none⟩, 64, by rw [hl], by rw [hl]; have := Hbb.out.2; omega, by simp [maxLen], (fun h => by cases h), .inr ⟨p, 8, rfl, fun i hi' => ?_⟩⟩
        rw [hl] at hi'
        rw [hX.cell' (Hopen.out i (by have := Hbb.out.2; omega))]
        simp [List.getD, List.getElem?_take, hi']
      refine StepOk.of_run (v := .slice (some ⟨X.heap.size, 0, none⟩) 4 4) (w' := X.alloc (.cells ([.slice (some ⟨p, 8, none⟩) bb 64, ρ (.tmp 15), ρ (.tmp 17), ρ (.tmp 23)] : List Value).toArray 22)) ?_ ⟨BytL.lit X 22 [.slice (some ⟨p, 8, none⟩) bb 64, ρ (.tmp 15), ρ (.tmp 17), ρ (.tmp 23)] [o.take bb, [128], List.replicate z 0, eightF m] rfl (by simp [maxLen]) (fun i hi => match i, hi with | 0, _ => hb14 | 1, _ => k15 | 2, _ => k17 | 3, _ => k23 | _ + 4, h => absurd h (by simp)), Grows.alloc' _ _⟩
      obtain ⟨a15, c15, e15⟩ := k15.slice
      obtain ⟨a17, c17, e17⟩ := k17.slice
      obtain ⟨a23, c23, e23⟩ := k23.slice
      simp [go_sem, execOp, hc, k14, e15, e17, e23]
    · refine step_intro rfl rfl fun ρ X hc hf hgl hX hp ho => ?_
      change StepOk _ { dst := _, op := Op.call { callee := Callee.value (Operand.func 31), args := #[Operand.tmp 24], argTypes := #[29] }, type := _, pos := _, after := _, guard := _ } _ _ _
      have k24 := hp 14 (by decide)
      clear hp ho
      have hcc := vConcat _ _ X k24 (by simp) Hlen.out
      refine StepOk.of_call (f := 31) (args := #[ρ (.tmp 24)]) (w' := X) ?_ hcc ?_
      · simp [go_sem, execOp, hc, hf]
      · rintro e w'' ⟨v, rfl, hown, hg'⟩; exact ⟨_, rfl, hown.base hX.size, hg'⟩
    · refine step_intro rfl rfl fun ρ X hc hf hgl hX hp ho => ?_
      change StepOk _ { dst := _, op := Op.assign (Operand.tmp 25), type := _, pos := _, after := _, guard := _ } _ _ _
      have k25 := hp 15 (by decide)
      clear hp ho
      refine StepOk.of_run (v := ρ (.tmp 25)) (w' := X) ?_ ⟨k25, Below.refl _ _⟩
      simp [go_sem, execOp]
  case grd => rfl
  case rst =>
    intro a0 X hb
    obtain ⟨x2, hx2⟩ : ∃ x, a0.tmps.getD 2 undef = x := ⟨_, rfl⟩
    have p2 := hb.done' 16 2 rfl rfl
    rw [hx2] at p2
    obtain ⟨x15, hx15⟩ : ∃ x, a0.tmps.getD 15 undef = x := ⟨_, rfl⟩
    have p15 := hb.done' 5 15 rfl rfl
    rw [hx15] at p15
    obtain ⟨x17, hx17⟩ : ∃ x, a0.tmps.getD 17 undef = x := ⟨_, rfl⟩
    have p17 := hb.done' 7 17 rfl rfl
    rw [hx17] at p17
    obtain ⟨x23, hx23⟩ : ∃ x, a0.tmps.getD 23 undef = x := ⟨_, rfl⟩
    have p23 := hb.done' 13 23 rfl rfl
    rw [hx23] at p23
    obtain ⟨x24, hx24⟩ : ∃ x, a0.tmps.getD 24 undef = x := ⟨_, rfl⟩
    have p24 := hb.done' 14 24 rfl rfl
    rw [hx24] at p24
    obtain ⟨x25, hx25⟩ : ∃ x, a0.tmps.getD 25 undef = x := ⟨_, rfl⟩
    have p25 := hb.done' 15 25 rfl rfl
    rw [hx25] at p25
    have hfr := hb.frame ((2, x2) :: (10, ?v0) :: (11, ?v1) :: (12, ?v2) :: (13, ?v3) :: (14, ?v4) :: (15, x15) :: (16, ?v6) :: (17, x17) :: (18, ?v8) :: (19, ?v9) :: (20, ?v10) :: (21, ?v11) :: (22, ?v12) :: (23, x23) :: (24, x24) :: (25, x25) :: []) rfl ⟨hx2, hb.done' 0 10 rfl rfl, hb.done' 1 11 rfl rfl, hb.done' 2 12 rfl rfl, hb.done' 3 13 rfl rfl, hb.done' 4 14 rfl rfl, hx15, hb.done' 6 16 rfl rfl, hx17, hb.done' 8 18 rfl rfl, hb.done' 9 19 rfl rfl, hb.done' 10 20 rfl rfl, hb.done' 11 21 rfl rfl, hb.done' 12 22 rfl rfl, hx23, hx24, hx25, trivial⟩
    simp only [updL, ↓reduceIte, Nat.reduceEqDiff, Nat.reduceAdd, Nat.zero_add] at hfr
    have HX := Lib.hid hb.ext
    clear hb
    subst hfr
    go_wp2
    go_ret
    refine ⟨_, rfl, ?_, HX.out⟩
    have hf : List.flatten [o.take bb, [128], List.replicate z 0, eightF m] = endF o n := by
      unfold endF
      rw [Hbb.out.1, Hzz.out, Hm.out.1]
      simp
    rw [hf] at p2
    exact p2
end Go.Proofs.YtkehcpjianadjaaDoor
