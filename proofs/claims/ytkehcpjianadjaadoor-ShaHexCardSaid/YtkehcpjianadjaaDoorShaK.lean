/-
  The contract of the program's own Write of sha.
-/
import Derived.Test.YtkehcpjianadjaaDoorShaJ
import Derived.Laws.CopyRow
namespace Go.Proofs.YtkehcpjianadjaaDoor
open Go.RowKit
set_option linter.unusedVariables false
set_option linter.unusedSimpArgs false

/-- 'copy(d, s)' into the middle of a row. -/
theorem wpList_copyMid {P : Program} {w : World} {ops : Array Oper} {rest : List Oper} {o : Oper} {a : Act} {Q : Exit → Act → World → Prop} (hgd : o.guard = none) (x y : Operand) (T e : TypeId)
    (ho : o.op = .call { callee := .builtin .copy, args := #[x, y], argTypes := #[T, T] }) (hT : P.underlying T = some (.slice e)) (hs : (P.info? e).map (·.size) = some 1)
    (g off dn dc : Nat) (hx : a.eval x = .slice (some ⟨g, off, none⟩) dn dc) (cur : Array Value) (t : TypeId) (hg : w.heap[g]? = some (.cells cur t (0, 0))) (hfit : off + dn ≤ cur.size)
    (ad : Option Addr) (n cap : Nat) (m : List UInt8) (hn : n = m.length) (hy : a.eval y = .slice ad n cap) (hv : Byt w (.slice ad n cap) m) (k : Nat) (hk : min n dn = k)
    (new : Array Value) (hnew : (cur.toList.take off ++ (m.take k).map bv ++ cur.toList.drop (off + k)).toArray = new)
    (h : wpList P ops Q rest (a.put o.dst (.int .i64 k)) (w.setRow g new)) : wpList P ops Q (o :: rest) a w := by
  subst hn
  refine wpList_plain hgd fun K hK => ?_
  have hr : (Builtin.copy_ #[T, T] o.type #[.slice (some ⟨g, off, none⟩) dn dc, .slice ad m.length cap]).run P w = .ok (goInt k) (w.setRow g new) := by
    obtain ⟨ad0, cap0, e0, h1, h2, h3, h4⟩ := hv
    simp only [Value.slice.injEq, true_and] at e0
    obtain ⟨rfl, rfl⟩ := e0
    by_cases h0 : m = []
    · subst h0
      have hk0 : k = 0 := by simp at hk; omega
      subst hk0
      have hnw : new = cur := by rw [← hnew]; simp
      rw [hnw, setRow_self w g cur t (0, 0) hg]
      cases ad with
      | none =>
        obtain rfl := h3 rfl
        exact run_copy_nil P w T T o.type e ⟨g, off, none⟩ dn dc hT (by rw [hs]; rfl)
      | some z =>
        have := run_copy_row P w T T o.type e g off dn dc z 0 cap cur t [] hT hs hg (by simp) (by simp) (by simp; omega) (by simp)
        simp only [List.append_nil, List.length_nil, Nat.add_zero, List.take_append_drop, Array.toArray_toList] at this
        rw [setRow_self w g cur t (0, 0) hg] at this
        exact this
    · obtain ⟨b, of, rfl, hc⟩ := h4.resolve_left h0
      have hkl : ((m.take k).map bv).length = k := by rw [List.length_map, List.length_take]; omega
      have := run_copy_row P w T T o.type e g off dn dc ⟨b, of, none⟩ m.length cap cur t ((m.take k).map bv) hT hs hg (by rw [hkl]; exact hk.symm) (fun j v hj => by
        have hjk : j < k := by have := (List.getElem?_eq_some_iff.1 hj).1; rw [hkl] at this; exact this
        rw [Addr.add_lit, hc j (by omega), ← hj]
        simp [List.getD, hjk, show j < m.length by omega]) (by rw [hkl]; omega) (fun v hv => by
        obtain ⟨z, _, rfl⟩ := List.mem_map.1 hv
        rfl)
      rw [hkl, hnew] at this
      exact this
  unfold Oper.wp execOp
  simp only [ho, resolve, invoke, builtin, Sem.run_bind, Sem.run_pure, Result.andThen_ok, List.map_toArray, List.map_cons, List.map_nil, hx, hy, hr]
  exact hK _ _ h

theorem sizeU8 : (Tryd.prog.info? 5).map (·.size) = some 1 := by kernel_rfl
theorem hashRow_size (s : R8) (o : List UInt8) (n : Nat) (ho : o.length = 64) : (hashRow s o n).size = 73 := by
  unfold hashRow rowW
  simp [R8.list, ho]
theorem hashRow_copy (s : R8) (o x : List UInt8) (n i k : Nat) (ho : o.length = 64) (hx : x.length = k) (hi : i + k ≤ 64) :
    ((hashRow s o n).toList.take (8 + i) ++ x.map bv ++ (hashRow s o n).toList.drop (8 + i + k)).toArray = hashRow s (o.take i ++ x ++ o.drop (i + k)) n := by
  unfold hashRow rowW
  have h8 : (s.list.map wv).length = 8 := by simp [R8.list]
  have hb : (o.map bv).length = 64 := by simp [ho]
  rw [show (s.list.map wv ++ (o.map bv ++ [Value.int .u64 n])).toArray.toList = s.list.map wv ++ (o.map bv ++ [Value.int .u64 n]) from rfl]
  congr 1
  rw [show 8 + i = (s.list.map wv).length + i by omega, List.take_length_add_append, Nat.add_assoc, List.drop_length_add_append, List.take_append_of_le_length (by omega), List.drop_append_of_le_length (by omega)]
  simp only [List.map_append, List.append_assoc, List.map_take, List.map_drop]
theorem hashRow_count (s : R8) (o : List UInt8) (n n' : Nat) (ho : o.length = 64) : (hashRow s o n).setIfInBounds 72 (.int .u64 n') = hashRow s o n' := by
  unfold hashRow rowW
  rw [List.setIfInBounds_toArray]
  congr 1
  rw [List.set_append_right _ _ (by simp [R8.list]), List.set_append_right _ _ (by simp [R8.list, ho])]
  simp [R8.list, ho]
theorem But.setRow1 {O : Nat → Prop} {a b : World} (h : But O a b) (g : Nat) (C : Array Value) (ho : O g) : But O a (b.setRow g C) :=
  ⟨h.os, h.tape, h.output, by have := h.size; simpa [World.setRow] using this, fun k hk hn => by rw [setRow_other b g k C (fun e => hn (by rw [e]; exact ho))]; exact h.block k hk hn⟩
/-- 'b[:hi]', whatever the world. -/
theorem sliceTo_all {P : Program} {T : TypeId} {i : TypeInfo} {W : World} {ad : Option Addr} {n cap : Nat} {l : List UInt8} (hT : P.underlying T = some (.slice (P.elem T))) (hi : P.info? (P.elem T) = some i) (hs : i.size = 1) (hn : n = l.length) (hv : Byt W (.slice ad n cap) l) (H : Nat) (kh : IntKind) (HI : Int) (hHI : HI = (H : Int)) (h0 : 0 < H) (h2 : H ≤ n) :
    ∃ b off c, (∀ X, (Instr.sliceAt T (.slice ad n cap) none (some (.int kh HI)) none).run P X = .ok (.slice (some ⟨b, off, none⟩) H c) X) ∧ (∀ i, i < H → W.cell? ⟨b, off + i, none⟩ = some (bv ((l.take H).getD i 0))) := by
  subst hn
  subst hHI
  obtain ⟨a', c', e1, e2⟩ := sliced_byt hv (Nat.zero_le H) h2
  have hcap : l.length ≤ cap := by
    obtain ⟨a0, cap0, e, h3, _⟩ := hv
    simp only [Value.slice.injEq, true_and] at e
    omega
  have hl : ((l.drop 0).take (H - 0)).length = H := by simp; omega
  obtain ⟨a7, c7, e7, -, -, -, h4⟩ := e2
  simp only [Value.slice.injEq] at e7
  obtain ⟨rfl, -, rfl⟩ := e7
  obtain ⟨gb, ob, rfl, hcb⟩ := h4.resolve_left (by intro h; rw [h] at hl; simp at hl; omega)
  rw [hl] at hcb
  simp only [List.drop_zero, Nat.sub_zero] at hcb e1
  refine ⟨gb, ob, c', fun X => ?_, hcb⟩
  rw [run_sliceAt_slice X T _ _ _ _ hT, run_slice_h X T ad l.length cap hT kh H (by omega) (by omega)]
  simp [sizeOf, typeInfo, hi, hs, ← e1, Result.andThen]

/-- Where the Hash stands behind j whole blocks of T. -/
def atBlock (W : World) (p : Nat) (T : List UInt8) (j : Nat) : Prop := ∃ o : List UInt8, o.length = 64 ∧ W.heap[p]? = some (.cells (hashRow (blocks r8i T j) o T.length) 52 (0, 0))

theorem KW.ne {W : World} {p : Nat} {s : R8} {o : List UInt8} {n : Nat} (h : KW W) (ho : o.length = 64) (hr : W.heap[p]? = some (.cells (hashRow s o n) 52 (0, 0))) : p ≠ 0 := by
  rintro rfl
  have h1 := h.out 8 (by omega)
  rw [cell_of_row W _ 8 _ _ _ hr, show (8 : Nat) = 8 + 0 from rfl, hashRow_open s o n 0 ho (by omega)] at h1
  simp [bv] at h1
theorem KW.but {W W' : World} {p : Nat} (h : KW W) (hp : p ≠ 0) (hb : But (fun k => k = p) W W') : KW W' :=
  ⟨fun i hi => hb.cell1 (p := ⟨0, i, none⟩) (fun e => hp e.symm) (h.out i hi)⟩

set_option maxRecDepth 100000 in
set_option maxHeartbeats 8000000 in
theorem vWrite (W : World) (p : Nat) (l o : List UInt8) (v : Value) (m : List UInt8) (hK : KW W) (h : HashAt W p l o) (hv : Byt W v m) (hO : Outside (fun k => k = p) v) (hlm : l.length + m.length ≤ 1099511627776) :
    Calls Tryd.prog 12 #[.pointer (some ⟨p, 0, none⟩), v] W fun e W' => e = .returned (.int .i64 (m.length : Int)) ∧ (∃ o', HashAt W' p (l ++ m) o') ∧ But (fun k => k = p) W W' := by
  obtain ⟨i0, hi, hz0, hz1, hz2⟩ := info_parts info5
  have hmx : Tryd.prog.follows .mixedOrders = true := by kernel_rfl
  obtain ⟨ad, cap, rfl⟩ := hv.slice
  obtain ⟨T, HT⟩ : ∃ T, Hid (l ++ m = T) := ⟨_, rfl⟩
  obtain ⟨n, Hn⟩ : ∃ n, Hid (l.length = n) := ⟨_, rfl⟩
  obtain ⟨mm, Hm⟩ : ∃ n, Hid (m.length = n) := ⟨_, rfl⟩
  have HTl : Hid (T.length = n + mm) := by show _ = _; rw [← HT.out, List.length_append, Hn.out, Hm.out]
  obtain ⟨s, Hs⟩ : ∃ s, Shut (blocks r8i l (l.length / 64) = s) := ⟨_, ⟨rfl⟩⟩
  have Hlen := Lib.hid h.len
  have hrow := h.row
  have hrest := h.rest
  rw [Hs.out, Hn.out] at hrow
  have hpne := hK.ne h.len hrow
  have hnm : n + mm ≤ 1099511627776 := by rw [← Hn.out, ← Hm.out]; exact hlm
  have hAq : (l.take (64 * (n / 64))).length = 64 * (n / 64) := by rw [List.length_take, Hn.out]; omega
  have hTA : l.take (64 * (n / 64)) ++ (l.drop (64 * (n / 64)) ++ m) = T := by rw [← List.append_assoc, List.take_append_drop, HT.out]
  have HTd : Hid (T.drop (64 * (n / 64)) = l.drop (64 * (n / 64)) ++ m) := by
    show _ = _
    rw [← hTA, List.drop_append_of_le_length (by omega), List.drop_of_length_le (by omega), List.nil_append]
  have HsT : Hid (blocks r8i T (n / 64) = s) := by
    show _ = _
    have h1 := blocks_pre r8i l m (n / 64) (by rw [Hn.out]; omega)
    rw [HT.out] at h1
    rw [h1, ← Hs.out, Hn.out]
  rw [Hn.out] at hrest
  rw [Hm.out] at hv hO ⊢
  have HB1 := Lib.hid (fun (w : World) (h : w.heap[p]? = some (.cells (hashRow s o n) 52 (0, 0))) => vBegun p s o n Hlen.out (by omega) w h)
  obtain ⟨b, hb⟩ : ∃ m : Nat, n % 64 = m := ⟨_, rfl⟩
  rw [hb] at HB1 hrest
  have hb64 : b < 64 := by omega
  have hct : W.cell? ⟨p, 72, none⟩ = some (.int .u64 n) := by rw [cell_of_row W p 72 _ _ _ hrow, hashRow_taken _ _ _ h.len]
  have hft : W.frozen? ⟨p, 72, none⟩ = false := frozen_of_row W p 72 _ _ hrow
  have hwm : IntKind.u64.wrap (mm : Int) = (mm : Int) := wrap_u64 _ (by omega) (by omega)
  obtain ⟨nm, hnm'⟩ : ∃ x : Nat, (n : Int) + (mm : Int) = (x : Int) := ⟨n + mm, by omega⟩
  have hwn : IntKind.u64.wrap (nm : Int) = (nm : Int) := wrap_u64 _ (by omega) (by omega)
  have hrow1 := row_setCell hrow 72 (.int .u64 nm)
  rw [hashRow_count _ _ _ _ h.len] at hrow1
  have hBt1 : But (fun k => k = p) W (W.setCell ⟨p, 72, none⟩ (.int .u64 nm)) := But.setCell1 (But.refl1 _ _) _ _ rfl
  have Hnm : Hid (n + mm = nm ∧ nm ≤ 1099511627776) := by show _ ∧ _; omega
  have Hb : Hid (n % 64 = b ∧ b < 64) := ⟨hb, hb64⟩
  have Hrest := Lib.hid hrest
  have Hrow := Lib.hid hrow
  have Hrow1 := Lib.hid hrow1
  have HBt1 := Lib.hid hBt1
  have HK := Lib.hid hK
  have Hv := Lib.hid hv
  have HO := Lib.hid hO
  have Hpne := Lib.hid hpne
  have HNR := Lib.hid (HB1.out W hrow)
  clear h hrow hrest hnm hv hO hrow1 hBt1 hK hpne hAq hTA hlm hb HB1
  go_enter Tryd.func12, Tryd.ntmps12
  go_wp2_with fail
  refine HNR.out.mono ?_
  rintro e w1 ⟨rfl, rfl⟩
  by_cases hb0 : b = 0
  · have hbI : ¬ (0 : Int) < (b : Int) := by omega
    have hq : n = 64 * (n / 64) := by have := Hb.out.1; omega
    have hv2 := Hv.out.but1 HBt1.out HO.out
    have hd : T.drop (64 * (n / 64)) = m := by rw [HTd.out, List.drop_of_length_le (by rw [Hn.out]; omega), List.nil_append]
    have hst : ∃ (j k : Nat) (a : Option Addr) (c : Nat), Value.slice ad mm cap = .slice a k c ∧ 64 * j + k = nm ∧ Byt (w1.setCell ⟨p, 72, none⟩ (.int .u64 nm)) (.slice a k c) (T.drop (64 * j)) ∧ Outside (fun k => k = p) (.slice a k c) ∧ (∃ o : List UInt8, o.length = 64 ∧ (w1.setCell ⟨p, 72, none⟩ (.int .u64 nm)).heap[p]? = some (.cells (hashRow (blocks r8i T j) o nm) 52 (0, 0))) ∧ But (fun k => k = p) w1 (w1.setCell ⟨p, 72, none⟩ (.int .u64 nm)) :=
      ⟨n / 64, mm, ad, cap, rfl, by have := Hnm.out.1; omega, by rw [hd]; exact hv2, HO.out, ⟨o, Hlen.out, by rw [HsT.out]; exact Hrow1.out⟩, HBt1.out⟩
    have Hst := Lib.hid hst
    clear hq hv2 hd hst
    obtain ⟨w2, Hw2⟩ : ∃ x, Shut (w1.setCell ⟨p, 72, none⟩ (.int .u64 nm) = x) := ⟨_, ⟨rfl⟩⟩
    rw [Hw2.out] at Hst
    go_wp2
    rw [Hw2.out]
    go_loopw [1] (fun t1 wr => ∃ (j k : Nat) (a : Option Addr) (c : Nat), t1 = .slice a k c ∧ 64 * j + k = nm ∧ Byt wr (.slice a k c) (T.drop (64 * j)) ∧ Outside (fun k => k = p) (.slice a k c) ∧ (∃ o : List UInt8, o.length = 64 ∧ wr.heap[p]? = some (.cells (hashRow (blocks r8i T j) o nm) 52 (0, 0))) ∧ But (fun k => k = p) w1 wr)
      (fun t1 _ => slen t1)
    case atStart => exact Hst.out
    case round =>
      obtain ⟨j, k, a1, c1, rfl, hjk, hby, hout, ⟨ow, how, hrw⟩, hBw⟩ := hrel
      have Hbw := Lib.hid hby
      have Hout := Lib.hid hout
      have How := Lib.hid how
      have Hrw := Lib.hid hrw
      have HBw := Lib.hid hBw
      have Hkl : Hid (k = (T.drop (64 * j)).length) := by show _ = _; rw [List.length_drop, HTl.out]; have := Hnm.out.1; omega
      have Hjk := Lib.hid hjk
      clear hby hout how hrw hBw hjk
      by_cases h64 : 64 ≤ k
      · have hkI : ¬ (k : Int) < 64 := by omega
        have hkI2 : (64 : Int) ≤ (k : Int) := by omega
        obtain ⟨k2, hk2⟩ : ∃ k2, k = 64 + k2 := ⟨k - 64, by omega⟩
        have Hk2 : Hid (k = 64 + k2 ∧ 64 * (j + 1) + k2 = nm) := ⟨hk2, by have := Hjk.out; omega⟩
        obtain ⟨gb, ob, cb, hs64, hcb⟩ := sliceTo_all Tryd.underlying22 hi hz1 Hkl.out Hbw.out 64 .i64 64 rfl (by omega) h64
        have Hs64 := Lib.hid hs64
        have Hcb := Lib.hid hcb
        clear hs64 hcb hk2 h64
        go_wp2
        refine specs_last 5
          #[[], [0], [0, 1], [], [3], [0, 1, 2, 3, 4]] #[[0], [], [], [1], [], []] #[true, true, true, true, true, true]
          ((.val ?va0) :: (.val ?va1) :: (.val ?va2) :: (.val ?va3) :: (.val (.slice (some ⟨gb, ob, none⟩) 64 cb)) :: (.any) :: []).toArray
          hmx ?chka ?grda rfl ?stpa ?rsta
        case chka => rfl
        case stpa =>
          refine ⟨?_, ?_, ?_, ?_, ?_, ?_, trivial⟩
          · refine step_intro rfl rfl fun ρ X hc hf hgl hX hp ho => ?_
            change StepOk _ { dst := _, op := Op.move (Operand.tmp 0), type := _, pos := _, after := _, guard := _ } _ _ _
            have k0 : ρ (.tmp 0) = .pointer (some ⟨p, 0, none⟩) := ho 0 (by decide)
            clear hp ho
            refine StepOk.of_run (v := ?va0) (w' := X) ?_ ⟨rfl, Below.refl _ _⟩
            clear hX
            go_simp
            all_goals try go_bits
            all_goals try simp only [IntWalk.iteOmega]
            all_goals try go_bits
            all_goals rfl
          · refine step_intro rfl rfl fun ρ X hc hf hgl hX hp ho => ?_
            change StepOk _ { dst := _, op := Op.nilCheck (Operand.tmp 53), type := _, pos := _, after := _, guard := _ } _ _ _
            have k53 : ρ (.tmp 53) = ?va0 := hp 0 (by decide)
            clear hp ho
            refine StepOk.of_run (v := ?va1) (w' := X) ?_ ⟨rfl, Below.refl _ _⟩
            clear hX
            go_simp
            all_goals try go_bits
            all_goals try simp only [IntWalk.iteOmega]
            all_goals try go_bits
            all_goals rfl
          · refine step_intro rfl rfl fun ρ X hc hf hgl hX hp ho => ?_
            change StepOk _ { dst := _, op := Op.fieldAddr 52 (Operand.tmp 54) 0, type := _, pos := _, after := _, guard := _ } _ _ _
            have k54 : ρ (.tmp 54) = ?va1 := hp 1 (by decide)
            clear hp ho
            refine StepOk.of_run (v := ?va2) (w' := X) ?_ ⟨rfl, Below.refl _ _⟩
            clear hX
            go_simp
            all_goals try go_bits
            all_goals try simp only [IntWalk.iteOmega]
            all_goals try go_bits
            all_goals rfl
          · refine step_intro rfl rfl fun ρ X hc hf hgl hX hp ho => ?_
            change StepOk _ { dst := _, op := Op.move (Operand.tmp 1), type := _, pos := _, after := _, guard := _ } _ _ _
            have k1 : ρ (.tmp 1) = .slice a1 k c1 := ho 1 (by decide)
            clear hp ho
            refine StepOk.of_run (v := ?va3) (w' := X) ?_ ⟨rfl, Below.refl _ _⟩
            clear hX
            go_simp
            all_goals try go_bits
            all_goals try simp only [IntWalk.iteOmega]
            all_goals try go_bits
            all_goals rfl
          · refine step_intro rfl rfl fun ρ X hc hf hgl hX hp ho => ?_
            change StepOk _ { dst := _, op := Op.slice 22 (Operand.tmp 56) none (some (Operand.const (Value.int IntKind.i64 64))) none, type := _, pos := _, after := _, guard := _ } _ _ _
            have k56 : ρ (.tmp 56) = ?va3 := hp 3 (by decide)
            clear hp ho
            refine StepOk.of_run (v := .slice (some ⟨gb, ob, none⟩) 64 cb) (w' := X) ?_ ⟨rfl, Below.refl _ _⟩
            simp only [execOp, Option.map_some, Option.map_none, k56, hc, Hs64.out X, Sem.run_bind, Sem.run_pure, Result.andThen_ok]
          · exact last_intro rfl
        case grda => rfl
        case rsta =>
          intro a0 X hb
          obtain ⟨x58, hx58⟩ : ∃ x, a0.tmps.getD 58 undef = x := ⟨_, rfl⟩
          have hfr := hb.frame ((53, ?va0) :: (54, ?va1) :: (55, ?va2) :: (56, ?va3) :: (57, (.slice (some ⟨gb, ob, none⟩) 64 cb)) :: (58, x58) :: []) rfl ⟨hb.done' 0 53 rfl rfl, hb.done' 1 54 rfl rfl, hb.done' 2 55 rfl rfl, hb.done' 3 56 rfl rfl, hb.done' 4 57 rfl rfl, hx58, trivial⟩
          simp only [updL, ↓reduceIte, Nat.reduceEqDiff, Nat.reduceAdd, Nat.zero_add] at hfr
          have HX := Lib.hid hb.ext
          clear hb
          subst hfr
          change StepOk _ { dst := _, op := Op.call { callee := Callee.value (Operand.func 21), args := #[Operand.tmp 55, Operand.tmp 57], argTypes := #[48, 22] }, type := _, pos := _, after := _, guard := _ } _ _ _
          refine StepOk.of_call (f := 21) (args := #[.pointer (some ⟨p, 0, none⟩), .slice (some ⟨gb, ob, none⟩) 64 cb]) (w' := X) ?_ (vTake p 52 (blocks r8i T j) (ow.map bv ++ [Value.int .u64 nm]) gb ob cb ((T.drop (64 * j)).take 64) X ((HK.out.but Hpne.out HBw.out).up HX.out) Hpne.out (HX.out.heap' Hrw.out) (fun i hi => HX.out.cell' (Hcb.out i hi))) ?_
          · simp [go_sem, execOp]
          rintro e w5 ⟨rfl, hrow5, hBt5⟩
          refine ⟨_, rfl, ?_⟩
          have hbx := But.trans1 (But.grows1 HX.out) hBt5
          have Hby5 := Lib.hid (Hbw.out.but1 hbx Hout.out)
          have HB5 := Lib.hid (But.trans1 HBw.out hbx)
          have Hrow5 := Lib.hid hrow5
          clear hrow5 hBt5 hbx
          go_wp2_with (refine wpList_sliceFromO rfl _ _ 22 i0 rfl Tryd.underlying22 hi hz1 (fun k => k = p) a1 k c1 (T.drop (64 * j)) Hkl.out rfl Hby5.out Hout.out 64 .i64 rfl k2 Hk2.out.1 ?_; intro a6 c6 hb6 ho6)
          go_roundw
          case rel =>
            rw [List.drop_drop, show 64 * j + 64 = 64 * (j + 1) by omega] at hb6
            exact ⟨j + 1, k2, a6, c6, rfl, Hk2.out.2, hb6, ho6, ⟨ow, How.out, Hrow5.out⟩, HB5.out⟩
          case measure => have := Hk2.out.1; simp [slen]; omega
      · have hkI : (k : Int) < 64 := by omega
        have hkI2 : ¬ ((64 : Int) ≤ (k : Int)) := by omega
        have Hk64 := Lib.hid (show k < 64 by omega)
        obtain ⟨oz, Hoz⟩ : ∃ x, Hid (ow.take 0 ++ (T.drop (64 * j)).take k ++ ow.drop (0 + k) = x) := ⟨_, rfl⟩
        have htl : ((T.drop (64 * j)).take k).length = k := by rw [List.length_take, ← Hkl.out]; omega
        have hcp := hashRow_copy (blocks r8i T j) ow ((T.drop (64 * j)).take k) nm 0 k How.out htl (by omega)
        rw [Hoz.out] at hcp
        have Hcp2 := Lib.hid hcp
        have Hszw : Hid ((hashRow (blocks r8i T j) ow nm).size = 73) := hashRow_size _ _ _ How.out
        have Hmin : Hid (min k 64 = k) := by show _ = _; omega
        clear hcp h64
        go_wp2_with (refine wpList_copyMid rfl _ _ 22 5 rfl Tryd.underlying22 sizeU8 p (8 + 0) 64 64 rfl (hashRow (blocks r8i T j) ow nm) 52 Hrw.out (by rw [Hszw.out]; omega) a1 k c1 (T.drop (64 * j)) Hkl.out rfl Hbw.out k Hmin.out (hashRow (blocks r8i T j) oz nm) Hcp2.out ?_)
        go_ret
        have hTl : T.length = nm := by rw [HTl.out]; exact Hnm.out.1
        have hd : T.length / 64 = j := by rw [hTl]; have := Hjk.out; have := Hk64.out; omega
        have hm : T.length % 64 = k := by rw [hTl]; have := Hjk.out; have := Hk64.out; omega
        refine ⟨rfl, ⟨oz, ?_⟩, But.setRow1 HBw.out p _ rfl⟩
        rw [HT.out]
        refine ⟨?_, ?_, ?_⟩
        · rw [← Hoz.out, List.length_append, List.length_append, htl, List.length_take, List.length_drop, How.out]
          have := Hk64.out
          omega
        · rw [hm, hd, ← Hoz.out, List.take_zero, List.nil_append, List.take_append_of_le_length (by rw [htl]; exact Nat.le_refl _), List.take_of_length_le (by rw [htl]; exact Nat.le_refl _), List.take_of_length_le (by rw [← Hkl.out]; exact Nat.le_refl _)]
        · rw [hd, hTl]
          exact setRow_heap _ _ _ _ _ _ Hrw.out
  · have hbI : (0 : Int) < (b : Int) := by omega
    have hbn : ¬ ((b : Int) < 0) := by omega
    have hb64I : ¬ (64 < (b : Int)) := by have := Hb.out.2; omega
    obtain ⟨n1, hn1⟩ : ∃ x, min mm (64 - b) = x := ⟨_, rfl⟩
    obtain ⟨r, hr⟩ : ∃ r, mm = n1 + r := ⟨mm - n1, by omega⟩
    obtain ⟨bn, hbn1⟩ : ∃ x : Nat, (b : Int) + (n1 : Int) = (x : Int) := ⟨b + n1, by omega⟩
    obtain ⟨o1, Ho1⟩ : ∃ x, Hid (o.take b ++ m.take n1 ++ o.drop (b + n1) = x) := ⟨_, rfl⟩
    have hmt : (m.take n1).length = n1 := by rw [List.length_take, Hm.out]; omega
    have Ho1l : Hid (o1.length = 64) := by
      show _ = _
      rw [← Ho1.out, List.length_append, List.length_append, hmt, List.length_take, List.length_drop, Hlen.out]
      have := Hb.out.2
      omega
    have hcp := hashRow_copy s o (m.take n1) nm b n1 Hlen.out hmt (by have := Hb.out.2; omega)
    rw [Ho1.out] at hcp
    obtain ⟨w2, Hw2⟩ : ∃ x, Shut (w1.setCell ⟨p, 72, none⟩ (.int .u64 nm) = x) := ⟨_, ⟨rfl⟩⟩
    have Hr1 : Hid (w2.heap[p]? = some (.cells (hashRow s o nm) 52 (0, 0))) := by show _ = _; rw [← Hw2.out]; exact Hrow1.out
    have HBt2 : Hid (But (fun k => k = p) w1 w2) := by show But _ _ _; rw [← Hw2.out]; exact HBt1.out
    have Hv2 := Lib.hid (Hv.out.but1 HBt2.out HO.out)
    have Hr3 : Hid ((w2.setRow p (hashRow s o1 nm)).heap[p]? = some (.cells (hashRow s o1 nm) 52 (0, 0))) := setRow_heap _ _ _ _ _ _ Hr1.out
    have HBt3 : Hid (But (fun k => k = p) w1 (w2.setRow p (hashRow s o1 nm))) := But.setRow1 HBt2.out p _ rfl
    have Hv3 := Lib.hid (Hv.out.but1 HBt3.out HO.out)
    have Hcp := Lib.hid hcp
    have Hn1 := Lib.hid hn1
    have Hr := Lib.hid hr
    have Hsz : Hid ((hashRow s o nm).size = 73) := hashRow_size s o nm Hlen.out
    have hw2 := Hw2.out
    clear hcp hn1 hr hmt hb0
    have hbn64 : bn ≤ 64 := by have := Hn1.out; have := Hb.out.2; omega
    have HTn : Hid (T.length = nm) := by show _ = _; rw [HTl.out]; exact Hnm.out.1
    by_cases hfull : bn < 64
    · have hfI : (bn : Int) < 64 := by omega
      have Hmm : Hid (n1 = mm ∧ b + mm < 64) := by show _ ∧ _; have := Hn1.out; have := Hb.out.2; omega
      go_wp2_with (first
        | (refine wpList_copyMid rfl _ _ 22 5 rfl Tryd.underlying22 sizeU8 p (8 + b) (64 - b) (64 - b) rfl (hashRow s o nm) 52 Hr1.out (by rw [Hsz.out]; have := Hb.out.2; omega) ad mm cap m Hm.out.symm rfl Hv2.out n1 Hn1.out (hashRow s o1 nm) Hcp.out ?_)
        | (refine wpList_sliceFromO rfl _ _ 22 i0 rfl Tryd.underlying22 hi hz1 (fun k => k = p) ad mm cap m Hm.out.symm rfl Hv3.out HO.out n1 .i64 rfl r Hr.out ?_; intro a4 c4 hb4 ho4))
      go_ret
      have hd : T.length / 64 = n / 64 := by rw [HTn.out]; have := Hnm.out.1; have := Hmm.out.2; have := Hb.out.1; omega
      have hm : T.length % 64 = b + mm := by rw [HTn.out]; have := Hnm.out.1; have := Hmm.out.2; have := Hb.out.1; omega
      refine ⟨rfl, ⟨o1, ?_⟩, HBt3.out⟩
      rw [HT.out]
      refine ⟨Ho1l.out, ?_, ?_⟩
      · rw [hm, hd, HTd.out, ← Ho1.out, ← Hrest.out, Hmm.out.1, List.take_of_length_le (l := m) (by rw [Hm.out]; exact Nat.le_refl _)]
        have hob : (o.take b).length = b := by rw [List.length_take, Hlen.out]; have := Hb.out.2; omega
        rw [List.take_append_of_le_length (by rw [List.length_append, hob, Hm.out]; exact Nat.le_refl _), List.take_of_length_le (by rw [List.length_append, hob, Hm.out]; exact Nat.le_refl _)]
      · rw [hd, HsT.out, HTn.out]
        exact Hr3.out
    · have hfI : ¬ (bn : Int) < 64 := by omega
      have Hmm : Hid (n1 = 64 - b ∧ mm = n1 + r ∧ b + n1 = 64) := by show _ ∧ _; have := Hr.out; have := Hb.out.2; omega
      have Ho1T : Hid ((T.drop (64 * (n / 64))).take 64 = o1) := by
        show _ = _
        have hob : (o.take b).length = b := by rw [List.length_take, Hlen.out]; have := Hb.out.2; omega
        rw [HTd.out, ← Hrest.out, ← Ho1.out, show b + n1 = 64 from Hmm.out.2.2, List.drop_of_length_le (by rw [Hlen.out]; exact Nat.le_refl _), List.append_nil, List.take_append, hob, Hmm.out.1, List.take_of_length_le (l := o.take b) (by rw [hob]; have := Hb.out.2; omega)]
      have Hblk : Hid (blocks r8i T (n / 64 + 1) = blockF s o1) := by
        show _ = _
        rw [blocks, HsT.out, Ho1T.out]
      have HTd2 : Hid (T.drop (64 * (n / 64 + 1)) = m.drop n1) := by
        show _ = _
        have hob : (o.take b).length = b := by rw [List.length_take, Hlen.out]; have := Hb.out.2; omega
        rw [show 64 * (n / 64 + 1) = 64 * (n / 64) + 64 by omega, ← List.drop_drop, HTd.out, ← Hrest.out, List.drop_append, hob, List.drop_of_length_le (by rw [hob]; have := Hb.out.2; omega), List.nil_append, Hmm.out.1]
      go_wp2_with (first
        | (refine wpList_copyMid rfl _ _ 22 5 rfl Tryd.underlying22 sizeU8 p (8 + b) (64 - b) (64 - b) rfl (hashRow s o nm) 52 Hr1.out (by rw [Hsz.out]; have := Hb.out.2; omega) ad mm cap m Hm.out.symm rfl Hv2.out n1 Hn1.out (hashRow s o1 nm) Hcp.out ?_)
        | (refine wpList_sliceFromO rfl _ _ 22 i0 rfl Tryd.underlying22 hi hz1 (fun k => k = p) ad mm cap m Hm.out.symm rfl Hv3.out HO.out n1 .i64 rfl r Hr.out ?_; intro a4 c4 hb4 ho4))
      have Hb4 := Lib.hid hb4
      have Ho4 := Lib.hid ho4
      clear hb4 ho4
      obtain ⟨w3, Hw3⟩ : ∃ x, Shut (w2.setRow p (hashRow s o1 nm) = x) := ⟨_, ⟨rfl⟩⟩
      have HBw3 : Hid (But (fun k => k = p) w1 w3) := by show But _ _ _; rw [← Hw3.out]; exact HBt3.out
      have Hrw3 : Hid (w3.heap[p]? = some (.cells (hashRow s o1 nm) 52 (0, 0))) := by show _ = _; rw [← Hw3.out]; exact Hr3.out
      have Hbw3 : Hid (Byt w3 (.slice a4 r c4) (m.drop n1)) := by show Byt _ _ _; rw [← Hw3.out]; exact Hb4.out
      rw [Hw3.out]
      clear hct hft
      refine specs_last 7
        #[[], [0], [0, 1], [], [3], [3, 4], [3, 4, 5], [0, 1, 2, 3, 4, 5, 6]] #[[0], [], [], [0], [], [], [], []] #[true, true, true, true, true, true, true, true]
        ((.val ?vc0) :: (.val ?vc1) :: (.val ?vc2) :: (.val ?vc3) :: (.val ?vc4) :: (.val ?vc5) :: (.val ?vc6) :: (.any) :: []).toArray
        hmx ?chkc ?grdc rfl ?stpc ?rstc
      case chkc => rfl
      case stpc =>
        refine ⟨?_, ?_, ?_, ?_, ?_, ?_, ?_, ?_, trivial⟩
        · refine step_intro rfl rfl fun ρ X hc hf hgl hX hp ho => ?_
          change StepOk _ { dst := _, op := Op.move (Operand.tmp 0), type := _, pos := _, after := _, guard := _ } _ _ _
          have k0 : ρ (.tmp 0) = .pointer (some ⟨p, 0, none⟩) := ho 0 (by decide)
          clear hp ho
          refine StepOk.of_run (v := ?vc0) (w' := X) ?_ ⟨rfl, Below.refl _ _⟩
          clear hX
          go_simp
          all_goals try go_bits
          all_goals try simp only [IntWalk.iteOmega]
          all_goals try go_bits
          all_goals rfl
        · refine step_intro rfl rfl fun ρ X hc hf hgl hX hp ho => ?_
          change StepOk _ { dst := _, op := Op.nilCheck (Operand.tmp 40), type := _, pos := _, after := _, guard := _ } _ _ _
          have k40 : ρ (.tmp 40) = ?vc0 := hp 0 (by decide)
          clear hp ho
          refine StepOk.of_run (v := ?vc1) (w' := X) ?_ ⟨rfl, Below.refl _ _⟩
          clear hX
          go_simp
          all_goals try go_bits
          all_goals try simp only [IntWalk.iteOmega]
          all_goals try go_bits
          all_goals rfl
        · refine step_intro rfl rfl fun ρ X hc hf hgl hX hp ho => ?_
          change StepOk _ { dst := _, op := Op.fieldAddr 52 (Operand.tmp 41) 0, type := _, pos := _, after := _, guard := _ } _ _ _
          have k41 : ρ (.tmp 41) = ?vc1 := hp 1 (by decide)
          clear hp ho
          refine StepOk.of_run (v := ?vc2) (w' := X) ?_ ⟨rfl, Below.refl _ _⟩
          clear hX
          go_simp
          all_goals try go_bits
          all_goals try simp only [IntWalk.iteOmega]
          all_goals try go_bits
          all_goals rfl
        · refine step_intro rfl rfl fun ρ X hc hf hgl hX hp ho => ?_
          change StepOk _ { dst := _, op := Op.move (Operand.tmp 0), type := _, pos := _, after := _, guard := _ } _ _ _
          have k0 : ρ (.tmp 0) = .pointer (some ⟨p, 0, none⟩) := ho 0 (by decide)
          clear hp ho
          refine StepOk.of_run (v := ?vc3) (w' := X) ?_ ⟨rfl, Below.refl _ _⟩
          clear hX
          go_simp
          all_goals try go_bits
          all_goals try simp only [IntWalk.iteOmega]
          all_goals try go_bits
          all_goals rfl
        · refine step_intro rfl rfl fun ρ X hc hf hgl hX hp ho => ?_
          change StepOk _ { dst := _, op := Op.nilCheck (Operand.tmp 43), type := _, pos := _, after := _, guard := _ } _ _ _
          have k43 : ρ (.tmp 43) = ?vc3 := hp 3 (by decide)
          clear hp ho
          refine StepOk.of_run (v := ?vc4) (w' := X) ?_ ⟨rfl, Below.refl _ _⟩
          clear hX
          go_simp
          all_goals try go_bits
          all_goals try simp only [IntWalk.iteOmega]
          all_goals try go_bits
          all_goals rfl
        · refine step_intro rfl rfl fun ρ X hc hf hgl hX hp ho => ?_
          change StepOk _ { dst := _, op := Op.fieldAddr 52 (Operand.tmp 44) 1, type := _, pos := _, after := _, guard := _ } _ _ _
          have k44 : ρ (.tmp 44) = ?vc4 := hp 4 (by decide)
          clear hp ho
          refine StepOk.of_run (v := ?vc5) (w' := X) ?_ ⟨rfl, Below.refl _ _⟩
          clear hX
          go_simp
          all_goals try go_bits
          all_goals try simp only [IntWalk.iteOmega]
          all_goals try go_bits
          all_goals rfl
        · refine step_intro rfl rfl fun ρ X hc hf hgl hX hp ho => ?_
          change StepOk _ { dst := _, op := Op.slice 50 (Operand.tmp 45) none none none, type := _, pos := _, after := _, guard := _ } _ _ _
          have k45 : ρ (.tmp 45) = ?vc5 := hp 5 (by decide)
          clear hp ho
          refine StepOk.of_run (v := ?vc6) (w' := X) ?_ ⟨rfl, Below.refl _ _⟩
          clear hX
          go_simp
          all_goals try go_bits
          all_goals try simp only [IntWalk.iteOmega]
          all_goals try go_bits
          all_goals rfl
        · exact last_intro rfl
      case grdc => rfl
      case rstc =>
        intro a0 X hb
        obtain ⟨x47, hx47⟩ : ∃ x, a0.tmps.getD 47 undef = x := ⟨_, rfl⟩
        have hfr := hb.frame ((40, ?vc0) :: (41, ?vc1) :: (42, ?vc2) :: (43, ?vc3) :: (44, ?vc4) :: (45, ?vc5) :: (46, ?vc6) :: (47, x47) :: []) rfl ⟨hb.done' 0 40 rfl rfl, hb.done' 1 41 rfl rfl, hb.done' 2 42 rfl rfl, hb.done' 3 43 rfl rfl, hb.done' 4 44 rfl rfl, hb.done' 5 45 rfl rfl, hb.done' 6 46 rfl rfl, hx47, trivial⟩
        simp only [updL, ↓reduceIte, Nat.reduceEqDiff, Nat.reduceAdd, Nat.zero_add] at hfr
        have HX := Lib.hid hb.ext
        clear hb
        subst hfr
        change StepOk _ { dst := _, op := Op.call { callee := Callee.value (Operand.func 21), args := #[Operand.tmp 42, Operand.tmp 46], argTypes := #[48, 22] }, type := _, pos := _, after := _, guard := _ } _ _ _
        refine StepOk.of_call (f := 21) (args := #[.pointer (some ⟨p, 0, none⟩), .slice (some ⟨p, 8, none⟩) 64 64]) (w' := X) ?_ (vTake p 52 s (o1.map bv ++ [Value.int .u64 nm]) p 8 64 o1 X ((HK.out.but Hpne.out HBw3.out).up HX.out) Hpne.out (HX.out.heap' Hrw3.out) (fun i hi => by rw [cell_of_row X p (8 + i) _ _ _ (HX.out.heap' Hrw3.out), hashRow_open _ _ _ _ Ho1l.out hi]; rfl)) ?_
        · simp [go_sem, execOp]
        rintro e w5 ⟨rfl, hrow5, hBt5⟩
        refine ⟨_, rfl, ?_⟩
        have hbx := But.trans1 (But.grows1 HX.out) hBt5
        have hst : ∃ (j k : Nat) (a : Option Addr) (c : Nat), Value.slice a4 r c4 = .slice a k c ∧ 64 * j + k = nm ∧ Byt w5 (.slice a k c) (T.drop (64 * j)) ∧ Outside (fun k => k = p) (.slice a k c) ∧ (∃ o : List UInt8, o.length = 64 ∧ w5.heap[p]? = some (.cells (hashRow (blocks r8i T j) o nm) 52 (0, 0))) ∧ But (fun k => k = p) w1 w5 :=
          ⟨n / 64 + 1, r, a4, c4, rfl, by have := Hnm.out.1; have := Hmm.out.2; have := Hb.out.1; omega, by rw [HTd2.out]; exact Hbw3.out.but1 hbx Ho4.out, Ho4.out, ⟨o1, Ho1l.out, by rw [Hblk.out]; exact hrow5⟩, But.trans1 HBw3.out hbx⟩
        have Hst := Lib.hid hst
        clear hst hbx hrow5 hBt5
        go_wp2
        go_loopw [1] (fun t1 wr => ∃ (j k : Nat) (a : Option Addr) (c : Nat), t1 = .slice a k c ∧ 64 * j + k = nm ∧ Byt wr (.slice a k c) (T.drop (64 * j)) ∧ Outside (fun k => k = p) (.slice a k c) ∧ (∃ o : List UInt8, o.length = 64 ∧ wr.heap[p]? = some (.cells (hashRow (blocks r8i T j) o nm) 52 (0, 0))) ∧ But (fun k => k = p) w1 wr)
          (fun t1 _ => slen t1)
        case atStart => exact Hst.out
        case round =>
          obtain ⟨j, k, a1, c1, rfl, hjk, hby, hout, ⟨ow, how, hrw⟩, hBw⟩ := hrel
          have Hbw := Lib.hid hby
          have Hout := Lib.hid hout
          have How := Lib.hid how
          have Hrw := Lib.hid hrw
          have HBw := Lib.hid hBw
          have Hkl : Hid (k = (T.drop (64 * j)).length) := by show _ = _; rw [List.length_drop, HTl.out]; have := Hnm.out.1; omega
          have Hjk := Lib.hid hjk
          clear hby hout how hrw hBw hjk
          by_cases h64 : 64 ≤ k
          · have hkI : ¬ (k : Int) < 64 := by omega
            have hkI2 : (64 : Int) ≤ (k : Int) := by omega
            obtain ⟨k2, hk2⟩ : ∃ k2, k = 64 + k2 := ⟨k - 64, by omega⟩
            have Hk2 : Hid (k = 64 + k2 ∧ 64 * (j + 1) + k2 = nm) := ⟨hk2, by have := Hjk.out; omega⟩
            obtain ⟨gb, ob, cb, hs64, hcb⟩ := sliceTo_all Tryd.underlying22 hi hz1 Hkl.out Hbw.out 64 .i64 64 rfl (by omega) h64
            have Hs64 := Lib.hid hs64
            have Hcb := Lib.hid hcb
            clear hs64 hcb hk2 h64
            go_wp2
            refine specs_last 5
              #[[], [0], [0, 1], [], [3], [0, 1, 2, 3, 4]] #[[0], [], [], [1], [], []] #[true, true, true, true, true, true]
              ((.val ?vb0) :: (.val ?vb1) :: (.val ?vb2) :: (.val ?vb3) :: (.val (.slice (some ⟨gb, ob, none⟩) 64 cb)) :: (.any) :: []).toArray
              hmx ?chkb ?grdb rfl ?stpb ?rstb
            case chkb => rfl
            case stpb =>
              refine ⟨?_, ?_, ?_, ?_, ?_, ?_, trivial⟩
              · refine step_intro rfl rfl fun ρ X hc hf hgl hX hp ho => ?_
                change StepOk _ { dst := _, op := Op.move (Operand.tmp 0), type := _, pos := _, after := _, guard := _ } _ _ _
                have k0 : ρ (.tmp 0) = .pointer (some ⟨p, 0, none⟩) := ho 0 (by decide)
                clear hp ho
                refine StepOk.of_run (v := ?vb0) (w' := X) ?_ ⟨rfl, Below.refl _ _⟩
                clear hX
                go_simp
                all_goals try go_bits
                all_goals try simp only [IntWalk.iteOmega]
                all_goals try go_bits
                all_goals rfl
              · refine step_intro rfl rfl fun ρ X hc hf hgl hX hp ho => ?_
                change StepOk _ { dst := _, op := Op.nilCheck (Operand.tmp 53), type := _, pos := _, after := _, guard := _ } _ _ _
                have k53 : ρ (.tmp 53) = ?vb0 := hp 0 (by decide)
                clear hp ho
                refine StepOk.of_run (v := ?vb1) (w' := X) ?_ ⟨rfl, Below.refl _ _⟩
                clear hX
                go_simp
                all_goals try go_bits
                all_goals try simp only [IntWalk.iteOmega]
                all_goals try go_bits
                all_goals rfl
              · refine step_intro rfl rfl fun ρ X hc hf hgl hX hp ho => ?_
                change StepOk _ { dst := _, op := Op.fieldAddr 52 (Operand.tmp 54) 0, type := _, pos := _, after := _, guard := _ } _ _ _
                have k54 : ρ (.tmp 54) = ?vb1 := hp 1 (by decide)
                clear hp ho
                refine StepOk.of_run (v := ?vb2) (w' := X) ?_ ⟨rfl, Below.refl _ _⟩
                clear hX
                go_simp
                all_goals try go_bits
                all_goals try simp only [IntWalk.iteOmega]
                all_goals try go_bits
                all_goals rfl
              · refine step_intro rfl rfl fun ρ X hc hf hgl hX hp ho => ?_
                change StepOk _ { dst := _, op := Op.move (Operand.tmp 1), type := _, pos := _, after := _, guard := _ } _ _ _
                have k1 : ρ (.tmp 1) = .slice a1 k c1 := ho 1 (by decide)
                clear hp ho
                refine StepOk.of_run (v := ?vb3) (w' := X) ?_ ⟨rfl, Below.refl _ _⟩
                clear hX
                go_simp
                all_goals try go_bits
                all_goals try simp only [IntWalk.iteOmega]
                all_goals try go_bits
                all_goals rfl
              · refine step_intro rfl rfl fun ρ X hc hf hgl hX hp ho => ?_
                change StepOk _ { dst := _, op := Op.slice 22 (Operand.tmp 56) none (some (Operand.const (Value.int IntKind.i64 64))) none, type := _, pos := _, after := _, guard := _ } _ _ _
                have k56 : ρ (.tmp 56) = ?vb3 := hp 3 (by decide)
                clear hp ho
                refine StepOk.of_run (v := .slice (some ⟨gb, ob, none⟩) 64 cb) (w' := X) ?_ ⟨rfl, Below.refl _ _⟩
                simp only [execOp, Option.map_some, Option.map_none, k56, hc, Hs64.out X, Sem.run_bind, Sem.run_pure, Result.andThen_ok]
              · exact last_intro rfl
            case grdb => rfl
            case rstb =>
              intro a0 X hb
              obtain ⟨x58, hx58⟩ : ∃ x, a0.tmps.getD 58 undef = x := ⟨_, rfl⟩
              have hfr := hb.frame ((53, ?vb0) :: (54, ?vb1) :: (55, ?vb2) :: (56, ?vb3) :: (57, (.slice (some ⟨gb, ob, none⟩) 64 cb)) :: (58, x58) :: []) rfl ⟨hb.done' 0 53 rfl rfl, hb.done' 1 54 rfl rfl, hb.done' 2 55 rfl rfl, hb.done' 3 56 rfl rfl, hb.done' 4 57 rfl rfl, hx58, trivial⟩
              simp only [updL, ↓reduceIte, Nat.reduceEqDiff, Nat.reduceAdd, Nat.zero_add] at hfr
              have HX := Lib.hid hb.ext
              clear hb
              subst hfr
              change StepOk _ { dst := _, op := Op.call { callee := Callee.value (Operand.func 21), args := #[Operand.tmp 55, Operand.tmp 57], argTypes := #[48, 22] }, type := _, pos := _, after := _, guard := _ } _ _ _
              refine StepOk.of_call (f := 21) (args := #[.pointer (some ⟨p, 0, none⟩), .slice (some ⟨gb, ob, none⟩) 64 cb]) (w' := X) ?_ (vTake p 52 (blocks r8i T j) (ow.map bv ++ [Value.int .u64 nm]) gb ob cb ((T.drop (64 * j)).take 64) X ((HK.out.but Hpne.out HBw.out).up HX.out) Hpne.out (HX.out.heap' Hrw.out) (fun i hi => HX.out.cell' (Hcb.out i hi))) ?_
              · simp [go_sem, execOp]
              rintro e w5 ⟨rfl, hrow5, hBt5⟩
              refine ⟨_, rfl, ?_⟩
              have hbx := But.trans1 (But.grows1 HX.out) hBt5
              have Hby5 := Lib.hid (Hbw.out.but1 hbx Hout.out)
              have HB5 := Lib.hid (But.trans1 HBw.out hbx)
              have Hrow5 := Lib.hid hrow5
              clear hrow5 hBt5 hbx
              go_wp2_with (refine wpList_sliceFromO rfl _ _ 22 i0 rfl Tryd.underlying22 hi hz1 (fun k => k = p) a1 k c1 (T.drop (64 * j)) Hkl.out rfl Hby5.out Hout.out 64 .i64 rfl k2 Hk2.out.1 ?_; intro a6 c6 hb6 ho6)
              go_roundw
              case rel =>
                rw [List.drop_drop, show 64 * j + 64 = 64 * (j + 1) by omega] at hb6
                exact ⟨j + 1, k2, a6, c6, rfl, Hk2.out.2, hb6, ho6, ⟨ow, How.out, Hrow5.out⟩, HB5.out⟩
              case measure => have := Hk2.out.1; simp [slen]; omega
          · have hkI : (k : Int) < 64 := by omega
            have hkI2 : ¬ ((64 : Int) ≤ (k : Int)) := by omega
            have Hk64 := Lib.hid (show k < 64 by omega)
            obtain ⟨oz, Hoz⟩ : ∃ x, Hid (ow.take 0 ++ (T.drop (64 * j)).take k ++ ow.drop (0 + k) = x) := ⟨_, rfl⟩
            have htl : ((T.drop (64 * j)).take k).length = k := by rw [List.length_take, ← Hkl.out]; omega
            have hcp := hashRow_copy (blocks r8i T j) ow ((T.drop (64 * j)).take k) nm 0 k How.out htl (by omega)
            rw [Hoz.out] at hcp
            have Hcp2 := Lib.hid hcp
            have Hszw : Hid ((hashRow (blocks r8i T j) ow nm).size = 73) := hashRow_size _ _ _ How.out
            have Hmin : Hid (min k 64 = k) := by show _ = _; omega
            clear hcp h64
            go_wp2_with (refine wpList_copyMid rfl _ _ 22 5 rfl Tryd.underlying22 sizeU8 p (8 + 0) 64 64 rfl (hashRow (blocks r8i T j) ow nm) 52 Hrw.out (by rw [Hszw.out]; omega) a1 k c1 (T.drop (64 * j)) Hkl.out rfl Hbw.out k Hmin.out (hashRow (blocks r8i T j) oz nm) Hcp2.out ?_)
            go_ret
            have hTl : T.length = nm := by rw [HTl.out]; exact Hnm.out.1
            have hd : T.length / 64 = j := by rw [hTl]; have := Hjk.out; have := Hk64.out; omega
            have hm : T.length % 64 = k := by rw [hTl]; have := Hjk.out; have := Hk64.out; omega
            refine ⟨rfl, ⟨oz, ?_⟩, But.setRow1 HBw.out p _ rfl⟩
            rw [HT.out]
            refine ⟨?_, ?_, ?_⟩
            · rw [← Hoz.out, List.length_append, List.length_append, htl, List.length_take, List.length_drop, How.out]
              have := Hk64.out
              omega
            · rw [hm, hd, ← Hoz.out, List.take_zero, List.nil_append, List.take_append_of_le_length (by rw [htl]; exact Nat.le_refl _), List.take_of_length_le (by rw [htl]; exact Nat.le_refl _), List.take_of_length_le (by rw [← Hkl.out]; exact Nat.le_refl _)]
            · rw [hd, hTl]
              exact setRow_heap _ _ _ _ _ _ Hrw.out
end Go.Proofs.YtkehcpjianadjaaDoor
