/-
  Contracts of a body's small functions.
-/
import Derived.Test.YtpodbhimkbadhaaSlG
import Derived.Test.YtpodbhimkbadhaaBut
import Derived.BigQuiet
import Derived.Deep.QuietTactic
import Derived.IntWalk
namespace Go.Proofs.Ytpodbhimkbadhaa
open Go.RowKit
set_option linter.unusedVariables false
set_option linter.unusedSimpArgs false

def rowOf (f : Raw) (n : Nat) : List UInt8 := (List.range n).map f
theorem rowOf_length (f : Raw) (n : Nat) : (rowOf f n).length = n := by simp [rowOf]
theorem rowOf_get (f : Raw) (n i : Nat) (h : i < n) : (rowOf f n)[i]? = some (f i) := by simp [rowOf, h]
theorem rowOf_getD (f : Raw) (n i : Nat) (h : i < n) : (rowOf f n).getD i 0 = f i := by simp [rowOf, h, List.getD]
theorem rowOf_congr (f h : Raw) (n : Nat) (he : ∀ i, i < n → f i = h i) : rowOf f n = rowOf h n := by
  refine List.ext_getElem (by simp [rowOf]) (fun i h1 h2 => ?_)
  simp [rowOf] at h1 ⊢
  exact he i h1
/-- A block that is a body. -/
def BodyAt (W : World) (g : Nat) (f : Raw) : Prop := W.heap[g]? = some (.cells ((rowOf f 243).map bv).toArray 47 (0, 0))
def pb (g : Nat) : Value := .pointer (some ⟨g, 0, none⟩)
theorem BodyAt.lt {W : World} {g : Nat} {f : Raw} (h : BodyAt W g f) : g < W.heap.size := (Array.getElem?_eq_some_iff.1 h).1
theorem BodyAt.cell {W : World} {g : Nat} {f : Raw} (h : BodyAt W g f) (i : Nat) (hi : i < 243) : W.cell? ⟨g, i, none⟩ = some (.int .u8 ((f i).toNat : Int)) := by
  rw [cell_of_row W g i _ _ (0, 0) h]
  simp [rowOf_get f 243 i hi, bv]
theorem BodyAt.grows {W W' : World} {g : Nat} {f : Raw} (h : BodyAt W g f) (k : Grows W W') : BodyAt W' g f := k.heap' h
theorem BodyAt.but {O : Nat → Prop} {W W' : World} {g : Nat} {f : Raw} (h : BodyAt W g f) (k : But O W W') (ho : ¬ O g) : BodyAt W' g f := k.blockEq ho h
theorem BodyAt.byt {W : World} {g : Nat} {f : Raw} (h : BodyAt W g f) (o n c : Nat) (hn : o + n ≤ 243) (hc : n ≤ c) (hm : c ≤ maxLen) : Byt W (.slice (some ⟨g, o, none⟩) n c) (rowOf (fun j => f (o + j)) n) := by
  refine ⟨some ⟨g, o, none⟩, c, by rw [rowOf_length], by rw [rowOf_length]; exact hc, hm, (fun hh => by cases hh), Or.inr ⟨g, o, rfl, fun i hi => ?_⟩⟩
  rw [rowOf_length] at hi
  rw [h.cell (o + i) (by omega), rowOf_getD _ _ _ hi]
  rfl

theorem grows_drewN (w : World) (n : Nat) : Grows w (w.drewN n) := ⟨rfl, rfl, rfl, Nat.le_refl _, fun _ _ => rfl⟩
theorem vTop (w : World) (g : Nat) (f : Raw) (h : BodyAt w g f) (t : Nat) (ht : (f 1).toNat = t) : Calls Try.prog 30 #[pb g] w fun e w' => e = .returned (.int .i64 (t : Int)) ∧ w = w' := by
  have c1 := h.cell 1 (by omega)
  rw [ht] at c1
  have hb : t < 256 := by rw [← ht]; exact toNat_lt' _
  clear h ht
  unfold pb
  go_enter Try.func30, Try.ntmps30
  go_wp2
  go_ret
  exact ⟨rfl, rfl⟩
theorem vLen (w : World) (g : Nat) (f : Raw) (h : BodyAt w g f) (n : Nat) (ht : (f 0).toNat = n) : Calls Try.prog 18 #[pb g] w fun e w' => e = .returned (.int .i64 (n : Int)) ∧ w = w' := by
  have c1 := h.cell 0 (by omega)
  rw [ht] at c1
  have hb : n < 256 := by rw [← ht]; exact toNat_lt' _
  clear h ht
  unfold pb
  go_enter Try.func18, Try.ntmps18
  go_wp2
  go_ret
  exact ⟨rfl, rfl⟩
theorem vEntryAt (w : World) (i : Nat) (hi : i < 1000000) : Calls Try.prog 31 #[.int .i64 (i : Int)] w fun e w' => e = .returned (.int .i64 ((2 + 2 * i : Nat) : Int)) ∧ w = w' := by
  go_enter Try.func31, Try.ntmps31
  go_wp2
  go_ret
  exact ⟨by simp, rfl⟩
theorem vDirEnd (w : World) (g : Nat) (f : Raw) (h : BodyAt w g f) (n : Nat) (ht : (f 0).toNat = n) : Calls Try.prog 29 #[pb g] w fun e w' => e = .returned (.int .i64 ((2 + 2 * n : Nat) : Int)) ∧ w = w' := by
  have hb : n < 256 := by rw [← ht]; exact toNat_lt' _
  have H1 := Lib.hid (vLen w g f h n ht)
  have H2 := Lib.hid (vEntryAt w n (by omega))
  clear h ht
  go_enter Try.func29, Try.ntmps29
  go_wp2_with (first
    | (go_at_call 18; refine H1.out.mono ?_; rintro e w1 ⟨rfl, rfl⟩)
    | (go_at_call 31; refine H2.out.mono ?_; rintro e w1 ⟨rfl, rfl⟩))
  go_ret
  exact ⟨rfl, rfl⟩
theorem vEntry (w : World) (g : Nat) (f : Raw) (h : BodyAt w g f) (i : Nat) (hi : 3 + 2 * i < 243) (a s : Nat) (ha : (f (2 + 2 * i)).toNat = a) (hs : (f (3 + 2 * i)).toNat = s) :
    Calls Try.prog 34 #[pb g, .int .i64 (i : Int)] w fun e w' => e = .returned (.tuple #[.int .i64 (a : Int), .int .i64 (s : Int)]) ∧ Grows w w' := by
  have H2 := Lib.hid (vEntryAt w i (by omega))
  obtain ⟨e, he⟩ : ∃ e, 2 + 2 * i = e := ⟨_, rfl⟩
  have c1 := h.cell (2 + 2 * i) (by omega)
  have c2 := h.cell (3 + 2 * i) hi
  rw [ha] at c1
  rw [hs] at c2
  have hb : a < 256 := by rw [← ha]; exact toNat_lt' _
  have hb2 : s < 256 := by rw [← hs]; exact toNat_lt' _
  rw [show 3 + 2 * i = e + 1 by omega] at c2
  rw [he] at c1 H2
  have he1 : e + 1 < 243 := by omega
  have hq1 : IntKind.i64.wrap ((e : Int) + 1) = (e : Int) + 1 := IntWalk.i64_in _ (by omega)
  have hq2 : (0 : Int) ≤ (e : Int) + 1 := by omega
  have hq3 : ((e : Int) + 1).toNat = e + 1 := by omega
  clear h ha hs he hi
  unfold pb
  go_enter Try.func34, Try.ntmps34
  go_wp2_with (go_at_call 31; refine H2.out.mono ?_; rintro e w1 ⟨rfl, rfl⟩)
  go_quiet (fail)
  go_wp2
  go_ret2
  exact ⟨rfl, grows_drewN _ _⟩
/-! Slices of a body. -/
def sOff (L : Nat) : Nat := if 243 = L then 0 else L
def slv (g L H : Nat) : Value := .slice (some ⟨g, sOff L, none⟩) (H - L) (243 - L)
theorem arrLen : Try.prog.underlying 45 = some (.array 243 5) := by kernel_rfl
theorem size1 : (Try.prog.info? 5).map (·.size) = some 1 := by kernel_rfl
theorem run_slB (w : World) (g L H : Nat) (kl kh : IntKind) (h1 : L ≤ H) (h2 : H ≤ 243) : (Instr.sliceAt 45 (pb g) (some (.int kl (L : Int))) (some (.int kh (H : Int))) none).run Try.prog w = .ok (slv g L H) w := by
  obtain ⟨i, hi, hs⟩ := Option.map_eq_some_iff.1 size1
  have he : Try.prog.elem 45 = 5 := by kernel_rfl
  have hn : Try.prog.arrayLen 45 = 243 := by kernel_rfl
  unfold pb
  rw [run_sliceAt_array_lh w _ _ (by rw [he, hn]; exact arrLen) kl kh L H (by omega) (by omega) (by rw [hn]; omega), he, hn]
  have hz : (sizeOf 5).run Try.prog w = .ok 1 w := by simp [sizeOf, typeInfo, hi, hs, Result.andThen]
  rw [hz]
  unfold slv sOff slicedAt
  simp only [Result.andThen_ok, Int.toNat_natCast, Nat.mul_one, Addr.add_lit, Nat.zero_add]
  split <;> rfl
theorem run_slBf (w : World) (g L : Nat) (kl : IntKind) (h1 : L ≤ 243) : (Instr.sliceAt 45 (pb g) (some (.int kl (L : Int))) none none).run Try.prog w = .ok (slv g L 243) w := by
  obtain ⟨i, hi, hs⟩ := Option.map_eq_some_iff.1 size1
  have he : Try.prog.elem 45 = 5 := by kernel_rfl
  have hn : Try.prog.arrayLen 45 = 243 := by kernel_rfl
  unfold pb
  rw [run_sliceAt_array_l w _ _ (by rw [he, hn]; exact arrLen) kl L (by omega) (by rw [hn]; omega), he, hn]
  have hz : (sizeOf 5).run Try.prog w = .ok 1 w := by simp [sizeOf, typeInfo, hi, hs, Result.andThen]
  rw [hz]
  unfold slv sOff slicedAt
  simp only [Result.andThen_ok, Int.toNat_natCast, Nat.mul_one, Addr.add_lit, Nat.zero_add]
  split <;> rfl
theorem run_slBt (w : World) (g H : Nat) (kh : IntKind) (h2 : H ≤ 243) : (Instr.sliceAt 45 (pb g) none (some (.int kh (H : Int))) none).run Try.prog w = .ok (slv g 0 H) w := by
  obtain ⟨i, hi, hs⟩ := Option.map_eq_some_iff.1 size1
  have he : Try.prog.elem 45 = 5 := by kernel_rfl
  have hn : Try.prog.arrayLen 45 = 243 := by kernel_rfl
  unfold pb
  rw [run_sliceAt_array_h w _ _ (by rw [he, hn]; exact arrLen) kh H (by omega) (by rw [hn]; omega), he, hn]
  have hz : (sizeOf 5).run Try.prog w = .ok 1 w := by simp [sizeOf, typeInfo, hi, hs, Result.andThen]
  rw [hz]
  unfold slv sOff slicedAt
  simp only [Result.andThen_ok, Int.toNat_natCast, Nat.mul_one, Addr.add_lit, Nat.zero_add]
  split <;> rfl
theorem BodyAt.slv {W : World} {g : Nat} {f : Raw} (h : BodyAt W g f) (L H : Nat) (h1 : L ≤ H) (h2 : H ≤ 243) : Byt W (slv g L H) (rowOf (fun j => f (L + j)) (H - L)) := by
  unfold Go.Proofs.Ytpodbhimkbadhaa.slv
  by_cases e : 243 = L
  · have : H - L = 0 := by omega
    rw [this]
    exact (h.byt (sOff L) 0 (243 - L) (by unfold sOff; rw [if_pos e]; omega) (by omega) (by simp [maxLen]; omega))
  · have : sOff L = L := by unfold sOff; rw [if_neg e]
    rw [this]
    exact h.byt L (H - L) (243 - L) (by omega) (by omega) (by simp [maxLen]; omega)
theorem wpList_slB {w : World} {ops : Array Oper} {rest : List Oper} {o : Oper} {a : Act} {Q : Exit → Act → World → Prop} (hgd : o.guard = none) (x lo hi : Operand) (ho : o.op = .slice 45 x (some lo) (some hi) none)
    (g L H : Nat) (hx : a.eval x = pb g) (kl kh : IntKind) (hlo : a.eval lo = .int kl (L : Int)) (hhi : a.eval hi = .int kh (H : Int)) (h1 : L ≤ H) (h2 : H ≤ 243)
    (h : wpList Try.prog ops Q rest (a.put o.dst (slv g L H)) w) : wpList Try.prog ops Q (o :: rest) a w := by
  refine wpList_plain hgd fun K hK' => ?_
  unfold Oper.wp execOp
  simp only [ho, Option.map_some, Option.map_none, hx, hlo, hhi, Sem.run_bind, Sem.run_pure, run_slB w g L H kl kh h1 h2, Result.andThen_ok, Oper.upon]
  exact hK' _ _ h
theorem vLying (w : World) (g : Nat) (f : Raw) (h : BodyAt w g f) (i : Nat) (hi : 3 + 2 * i < 243) (a s : Nat) (ha : (f (2 + 2 * i)).toNat = a) (hs : (f (3 + 2 * i)).toNat = s) (hle : a + s ≤ 243) :
    Calls Try.prog 35 #[pb g, .int .i64 (i : Int)] w fun e w' => e = .returned (slv g a (a + s)) ∧ Grows w w' := by
  have H1 := Lib.hid (vEntry w g f h i hi a s ha hs)
  have Hb := Lib.hid h
  have Hle := Lib.hid hle
  have hb1 : a < 256 := by rw [← ha]; exact toNat_lt' _
  have hb2 : s < 256 := by rw [← hs]; exact toNat_lt' _
  clear h ha hs hi
  unfold pb
  unfold pb at H1
  go_enter Try.func35, Try.ntmps35
  go_wp2_with (first
    | (go_at_call 34; refine H1.out.mono ?_; rintro e w1 ⟨rfl, hg⟩)
    | (refine wpList_slB rfl (.tmp 15) (.tmp 16) (.tmp 19) rfl g a (a + s) rfl .i64 .i64 rfl rfl (by omega) Hle.out ?_))
  go_ret
  exact ⟨rfl, hg⟩
end Go.Proofs.Ytpodbhimkbadhaa
