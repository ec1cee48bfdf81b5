/-
  The Hash of the program's own sha: what it holds; contracts of firstWords, New, begun.
-/
import Derived.Test.YtkehcpjianadjaaDoorShaD
import Derived.Test.YtkehcpjianadjaaDoorCat
namespace Go.Proofs.YtkehcpjianadjaaDoor
open Go.RowKit
set_option linter.unusedVariables false
set_option linter.unusedSimpArgs false

theorem vFirst (w : World) :
    Calls Tryd.prog 19 #[] w fun e w' => e = .returned (.agg (r8i.list.map wv).toArray) ∧ Grows w w' := by
  obtain ⟨Y, hY, hYs⟩ := wordZ
  have h9 := heap_alloc_new w (.cells Y 48)
  obtain ⟨C, HC⟩ : ∃ C, Shut ((r8i.list.map wv).toArray = C) := ⟨_, ⟨rfl⟩⟩
  have hCs : C.size = 8 := by rw [← HC.out]; rfl
  have hC1 : C.all (·.oneCell') = true := by rw [← HC.out]; exact wv_one _
  obtain ⟨hb, hg⟩ := allocSet w Y C 48
  rw [HC.out]
  go_enter Tryd.func19, Tryd.ntmps19
  go_wp2_with (first
    | (refine wpList_allocT rfl 48 rfl _ hY ?_)
    | (refine wpList_storeT rfl _ _ _ rfl w.heap.size 48 Y C rfl (by rw [← HC.out]; rfl) h9 (by rw [hCs]; exact wordSize) (by rw [hYs, hCs]) hC1 ?_))
  exact ret_cell rfl w.heap.size 48 C _ rfl hb Tryd.underlying48 rfl (by rw [hCs]; exact wordSize) rfl ⟨rfl, hg⟩

theorem wpList_build1 {P : Program} {w : World} {ops : Array Oper} {rest : List Oper} {o : Oper} {a : Act} {Q : Exit → Act → World → Prop} (hgd : o.guard = none) (T : TypeId) (k : Nat) (x : Operand) (ho : o.op = .build T #[(k, x)]) (u N : Value) (hx : a.eval x = u)
    (hr : (Instr.build T #[(k, u)]).run P w = .ok N w) (h : wpList P ops Q rest (a.put o.dst N) w) : wpList P ops Q (o :: rest) a w := by
  refine wpList_plain hgd fun K hK => ?_
  unfold Oper.wp execOp
  simp only [ho, Sem.run_bind, Sem.run_pure, List.map_toArray, List.map_cons, List.map_nil, hx, hr, Result.andThen_ok]
  exact hK _ _ h
/-- The cells of a Hash: the words, the open block, how many bytes were taken. -/
def hashRow (s : R8) (o : List UInt8) (n : Nat) : Array Value := rowW s.list (o.map bv ++ [Value.int .u64 n])
theorem hashZ : ((Tryd.prog.info? 52).bind (fun i => i.zero)).map (fun z => z.cells) = some ((List.replicate 8 (0 : UInt32)).map wv ++ ((List.replicate 64 (0 : UInt8)).map bv ++ [Value.int .u64 0])).toArray := by kernel_rfl
theorem size64 : (Tryd.prog.info? 50).map (·.size) = some 64 := by kernel_rfl
theorem sizeU64 : (Tryd.prog.info? 43).map (·.size) = some 1 := by kernel_rfl
theorem hashBuild (w : World) : (Instr.build 52 #[(0, .agg (r8i.list.map wv).toArray)]).run Tryd.prog w = .ok (.agg (hashRow r8i (List.replicate 64 0) 0)) w := by
  have hz := hashZ
  have h1 := wordSize
  have h2 := size64
  have h3 := sizeU64
  cases hi : Tryd.prog.info? 52 with
  | none => rw [hi] at hz; simp at hz
  | some i =>
    cases hzz : i.zero with
    | none => rw [hi] at hz; simp [hzz] at hz
    | some z =>
      rw [hi] at hz
      simp only [Option.bind_some, hzz, Option.map_some, Option.some.injEq] at hz
      obtain ⟨i1, e1, s1⟩ := Option.map_eq_some_iff.1 h1
      obtain ⟨i2, e2, s2⟩ := Option.map_eq_some_iff.1 h2
      obtain ⟨i3, e3, s3⟩ := Option.map_eq_some_iff.1 h3
      have hf : Instr.fill (fun x => [(0, 8), (8, 64), (72, 1)][x]?) ((List.replicate 8 (0 : UInt32)).map wv ++ ((List.replicate 64 (0 : UInt8)).map bv ++ [Value.int .u64 0])).toArray [(0, .agg (r8i.list.map wv).toArray)] = some (hashRow r8i (List.replicate 64 0) 0) := by kernel_rfl
      revert hf hz
      generalize ((List.replicate 8 (0 : UInt32)).map wv ++ ((List.replicate 64 (0 : UInt8)).map bv ++ [Value.int .u64 0])).toArray = Zc
      generalize hashRow r8i (List.replicate 64 0) 0 = N
      generalize (r8i.list.map wv).toArray = C
      intro hf hz
      simp only [Instr.build, zeroValue, typeInfo, hi, hzz, run_underlying Tryd.underlying52, sizeOf, Sem.run_bind, Sem.run_pure, Result.andThen_ok, hz]
      simp [hi, hzz, hz, typeInfo, e1, e2, e3, s1, s2, s3, hf]
theorem hashSize : (Tryd.prog.info? 52).map (·.size) = some 73 := by kernel_rfl

theorem wpList_newHash {w : World} {ops : Array Oper} {rest : List Oper} {o : Oper} {a : Act} {Q : Exit → Act → World → Prop} (hgd : o.guard = none) (x : Operand) (ho : o.op = .build 52 #[(0, x)]) (C N : Array Value)
    (HC : Shut ((r8i.list.map wv).toArray = C)) (HN : Shut (hashRow r8i (List.replicate 64 0) 0 = N)) (hx : a.eval x = .agg C)
    (h : wpList Tryd.prog ops Q rest (a.put o.dst (.agg N)) w) : wpList Tryd.prog ops Q (o :: rest) a w :=
  wpList_build1 hgd _ _ _ ho _ _ hx (by have := hashBuild w; rw [HC.out, HN.out] at this; exact this) h

/-- The Hash at block p has taken in l. -/
structure HashAt (W : World) (p : Nat) (l : List UInt8) (o : List UInt8) : Prop where
  len : o.length = 64
  rest : o.take (l.length % 64) = l.drop (64 * (l.length / 64))
  row : W.heap[p]? = some (.cells (hashRow (blocks r8i l (l.length / 64)) o l.length) 52 (0, 0))
def hashH (W : World) (p : Nat) (l : List UInt8) (O : Nat → Prop) : Prop := O = (fun k => k = p) ∧ ∃ o, HashAt W p l o

set_option maxRecDepth 100000 in
set_option maxHeartbeats 1000000 in
theorem vNew (w : World) :
    Calls Tryd.prog 11 #[] w fun e w' => ∃ p O, e = .returned (.pointer (some ⟨p, 0, none⟩)) ∧ hashH w' p [] O ∧ (∀ k, O k → w.heap.size ≤ k) ∧ Grows w w' := by
  have HF := Lib.hid (vFirst w)
  obtain ⟨N, HN⟩ : ∃ N, Shut (hashRow r8i (List.replicate 64 0) 0 = N) := ⟨_, ⟨rfl⟩⟩
  obtain ⟨C, HC⟩ : ∃ C, Shut ((r8i.list.map wv).toArray = C) := ⟨_, ⟨rfl⟩⟩
  rw [HC.out] at HF
  go_enter Tryd.func11, Tryd.ntmps11
  go_wp2_with fail
  refine HF.out.mono ?_
  rintro e w1 ⟨rfl, hg1⟩
  go_wp2_with (first
    | (refine wpList_newHash rfl _ rfl C N HC HN rfl ?_)
    | (refine wpList_boxT rfl _ _ rfl N rfl ?_))
  go_ret
  refine ⟨_, _, rfl, ⟨rfl, List.replicate 64 0, by simp, by simp, ?_⟩, fun k hk => by rw [hk]; exact hg1.size, Grows.trans' hg1 (Grows.alloc' _ _)⟩
  rw [heap_alloc_new, ← HN.out]
  rfl

theorem hashRow_taken (s : R8) (o : List UInt8) (n : Nat) (ho : o.length = 64) : (hashRow s o n)[72]? = some (.int .u64 n) := by
  unfold hashRow rowW
  simp [R8.list, List.getElem?_append, ho]
theorem hashRow_open (s : R8) (o : List UInt8) (n i : Nat) (ho : o.length = 64) (hi : i < 64) : (hashRow s o n)[8 + i]? = some (bv (o.getD i 0)) := by
  unfold hashRow rowW
  rw [List.getElem?_toArray, List.getElem?_append_right (by simp [R8.list]), show 8 + i - (s.list.map wv).length = i by simp [R8.list], List.getElem?_append_left (by simpa [ho] using hi)]
  simp [ho, hi]

theorem vBegun (p : Nat) (s : R8) (o : List UInt8) (n : Nat) (ho : o.length = 64) (hn : n < 18446744073709551616) (w : World) (h : w.heap[p]? = some (.cells (hashRow s o n) 52 (0, 0))) :
    Calls Tryd.prog 20 #[.pointer (some ⟨p, 0, none⟩)] w fun e w' => e = .returned (.int .i64 ((n % 64 : Nat) : Int)) ∧ w' = w := by
  have hc : w.cell? ⟨p, 72, none⟩ = some (.int .u64 n) := by rw [cell_of_row w p 72 _ _ _ h, hashRow_taken _ _ _ ho]
  obtain ⟨m, hm⟩ : ∃ m : Nat, n % 64 = m := ⟨_, rfl⟩
  have hmI : (n : Int) % 64 = (m : Int) := by omega
  have hm64 : m < 64 := by omega
  rw [hm]
  clear h hm
  go_enter Tryd.func20, Tryd.ntmps20
  go_wp2
  go_ret
  exact ⟨rfl, rfl⟩
end Go.Proofs.YtkehcpjianadjaaDoor
