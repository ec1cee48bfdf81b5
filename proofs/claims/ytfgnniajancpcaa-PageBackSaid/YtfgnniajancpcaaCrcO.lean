/-
  The contract of the program's own onward: parts, one behind the other, taken in behind bytes whose sum is c.
-/
import Derived.Test.YtfgnniajancpcaaCrcU
namespace Go.Proofs.Ytfgnniajancpcaa
open Go.RowKit
set_option linter.unusedVariables false
set_option linter.unusedSimpArgs false

theorem infoTab : ((Try.prog.info? 61).bind (fun i => i.zero)).map (fun z => z.cells) = some (Array.replicate 256 (.int .u32 0) ++ Array.replicate 256 (.bool false)) := by kernel_rfl
theorem allocTab : ∃ Z : Array Value, (∀ w : World, (Instr.alloc 61 true (.tuple #[])).run Try.prog w = .ok (.pointer (some ⟨w.heap.size, 0, none⟩)) (w.alloc (.cells Z 61))) ∧ ∀ w : World, Tab (w.alloc (.cells Z 61)) w.heap.size := by
  have h := infoTab
  cases hi : Try.prog.info? 61 with
  | none => rw [hi] at h; simp at h
  | some i =>
    cases hz : i.zero with
    | none => rw [hi] at h; simp [hz] at h
    | some z =>
      rw [hi] at h
      have hcz : z.cells = Array.replicate 256 (.int .u32 0) ++ Array.replicate 256 (.bool false) := by
        simp only [Option.bind_some, hz, Option.map_some] at h
        exact Option.some.inj h
      refine ⟨z.cells, fun w => ?_, fun w => ?_⟩
      · simp [Instr.alloc, zeroValue, typeInfo, hi, hz, newVar, newRow]
      · refine ⟨z.cells, heap_alloc_new w _, by rw [hcz]; simp, fun i hi => ⟨⟨0, ?_⟩, false, ?_, fun h => by cases h⟩⟩
        · rw [hcz, Array.getElem?_append_left (by simpa using hi)]
          simp [hi]
        · rw [hcz, Array.getElem?_append_right (by simp)]
          simp [hi]

theorem wpList_allocTab {w : World} {ops : Array Oper} {rest : List Oper} {o : Oper} {a : Act} {Q : Exit → Act → World → Prop} (hgd : o.guard = none) (ho : o.op = .alloc 61) (Z : Array Value)
    (hal : ∀ w : World, (Instr.alloc 61 true (.tuple #[])).run Try.prog w = .ok (.pointer (some ⟨w.heap.size, 0, none⟩)) (w.alloc (.cells Z 61)))
    (h : wpList Try.prog ops Q rest (a.put o.dst (.pointer (some ⟨w.heap.size, 0, none⟩))) (w.alloc (.cells Z 61))) : wpList Try.prog ops Q (o :: rest) a w := by
  refine wpList_plain hgd fun K hK => ?_
  unfold Oper.wp execOp
  simp only [ho, Sem.run_bind, Sem.run_pure, hal, Result.andThen_ok]
  exact hK _ _ h

theorem low_nat (m : Nat) (d : UInt8) : (UInt8.ofNat m ^^^ d).toNat = (m ^^^ d.toNat) % 256 := by
  rw [UInt8.toNat_xor, UInt8.toNat_ofNat']
  have h := Nat.xor_mod_two_pow (a := m) (b := d.toNat) (n := 8)
  have hd := d.toNat_lt
  rw [show (2 : Nat) ^ 8 = 256 from rfl, Nat.mod_eq_of_lt (a := d.toNat) hd] at h
  rw [h]
theorem low_int (m : Nat) (d : UInt8) : bits BinOp.xor IntKind.u8 ((m : Int) % 256) (d.toNat : Int) = ((UInt8.ofNat m ^^^ d).toNat : Int) := by
  have hd := d.toNat_lt
  have h := u8_xor_nat (m % 256) d.toNat (by omega) (by omega)
  rw [UInt8.toNat_xor, UInt8.toNat_ofNat']
  rw [← h]
  simp
theorem stepC_low (m : Nat) (d : UInt8) : stepC m d = m / 256 ^^^ bitsC 8 (UInt8.ofNat m ^^^ d).toNat := by
  rw [stepC_tab, low_nat, Nat.xor_comm]

theorem Tab.grows {W W' : World} {b : Nat} (h : Tab W b) (g : Grows W W') : Tab W' b := by
  obtain ⟨cells, hb, rest⟩ := h
  have hlt : b < W.heap.size := (Array.getElem?_eq_some_iff.1 hb).1
  exact ⟨cells, (g.block b hlt).trans hb, rest⟩
theorem flat_snocL (ls : List (List UInt8)) (k : Nat) (hk : k < ls.length) : (ls.take (k + 1)).flatten = (ls.take k).flatten ++ ls.getD k [] := by
  rw [List.take_succ_eq_append_getElem hk]
  rw [List.flatten_append]
  simp [List.getD, hk]

set_option maxRecDepth 100000 in
set_option maxHeartbeats 2000000 in
theorem vOnward_some (c : Nat) (hc : c < 4294967296) (b off cap : Nat) (ls : List (List UInt8)) (w : World) (hl : ls.length ≤ maxLen) (hcl : ∀ i, i < ls.length → ∃ u, w.cell? ⟨b, off + i, none⟩ = some u ∧ Byt w u (ls.getD i [])) :
    Calls Try.prog 31 #[.int .u32 c, .slice (some ⟨b, off, none⟩) ls.length cap] w fun e w' => e = .returned (.int .u32 (moreC c ls.flatten : Nat)) ∧ Grows w w' := by
  obtain ⟨Z, hal, hTab⟩ := allocTab
  unfold maxLen at hl
  have hus := u32_unsigned
  have hn := notC_int c hc
  obtain ⟨x, Hx⟩ : ∃ x, Hid (x = notC c) := ⟨_, rfl⟩
  have hx32 : x < 4294967296 := by rw [Hx.out]; exact notC_lt hc
  rw [← Hx.out] at hn
  have HC := Lib.hid hcl
  have HT := Lib.hid hTab
  clear hc hcl hTab
  go_enter Try.func31, Try.ntmps31
  go_wp2_with (refine wpList_allocTab rfl rfl Z hal ?_)
  go_loopw [6, 15] (fun t6 t15 wr => ∃ k m : Nat, k ≤ ls.length ∧ m < 4294967296 ∧ t6 = .int .u32 m ∧ t15 = .int .i64 k ∧ Hid (m = runC x (ls.take k).flatten) ∧ Tab wr w.heap.size ∧ Grows w wr)
    (fun _ t15 _ => ls.length - (intOf t15).toNat)
  case atStart => exact ⟨0, x, by omega, hx32, by simp only [hn], rfl, rfl, HT.out _, (Below.refl _ _).alloc (Nat.le_refl _) _⟩
  case round =>
    obtain ⟨k, m, hk, hm, rfl, rfl, Hm, hT, hG⟩ := hrel
    by_cases hlt : k < ls.length
    · obtain ⟨u, hu, hby⟩ := HC.out k hlt
      obtain ⟨l, Hl⟩ : ∃ l, Hid (ls.getD k [] = l) := ⟨_, rfl⟩
      rw [Hl.out] at hby
      obtain ⟨a', cap', rfl, h1, h2, h3, h4⟩ := hby
      have hu' := hG.cell' hu
      have H4 := Lib.hid h4
      unfold maxLen at h2
      have hll : l.length ≤ 9223372036854775807 := by omega
      have hkk : k < 9223372036854775807 := by omega
      have HK := Lib.hid (show ls.length - (k + 1) < ls.length - k by omega)
      have Hk1 := Lib.hid (show k + 1 ≤ ls.length by omega)
      have Hmk := Lib.hid (flat_snocL ls k hlt)
      clear h1 h2 h3 h4 hu
      go_wp2
      go_loopw [6, 21] (fun t6 t21 wi => ∃ j mi : Nat, j ≤ l.length ∧ mi < 4294967296 ∧ t6 = .int .u32 mi ∧ t21 = .int .i64 j ∧ Hid (mi = runC m (l.take j)) ∧ Tab wi w.heap.size ∧ Grows w wi)
        (fun _ t21 _ => l.length - (intOf t21).toNat)
      case atStart => exact ⟨0, m, by omega, hm, rfl, rfl, rfl, hT, hG⟩
      case round =>
        obtain ⟨j, mi, hj, hmi, rfl, rfl, Hmi, hTi, hGi⟩ := hrel
        by_cases hjl : j < l.length
        · obtain ⟨bb, oo, rfl, hcells⟩ := H4.out.resolve_left (by intro h0; rw [h0] at hjl; simp at hjl)
          have hcj := hGi.cell' (hcells j hjl)
          obtain ⟨d, Hd⟩ : ∃ d, Hid (l.getD j 0 = d) := ⟨_, rfl⟩
          rw [Hd.out] at hcj
          unfold bv at hcj
          have hx8 : bits BinOp.xor IntKind.u8 ((mi : Int) % 256) (d.toNat : Int) = ((UInt8.ofNat mi ^^^ d).toNat : Int) := low_int mi d
          obtain ⟨low, Hlow⟩ : ∃ low, Hid (UInt8.ofNat mi ^^^ d = low) := ⟨_, rfl⟩
          rw [Hlow.out] at hx8
          have hb8 : bitsC 8 low.toNat < 4294967296 := bitsC_lt 8 (by have := low.toNat_lt; omega)
          have hx32' : bits BinOp.xor IntKind.u32 ((mi : Int) / 256) (bitsC 8 low.toNat : Nat) = ((stepC mi d : Nat) : Int) := by
            rw [stepC_low, Hlow.out]
            have := u32_xor_nat (mi / 256) (bitsC 8 low.toNat) (by omega) hb8
            simpa using this
          have Hs32 := Lib.hid (stepC_lt hmi d)
          have HE := Lib.hid (vEntry w.heap.size low _ hTi)
          have Hsz := Lib.hid hGi
          obtain ⟨bx, Hbx⟩ : ∃ bx, Hid (bitsC 8 low.toNat = bx) := ⟨_, rfl⟩
          rw [Hbx.out] at HE hx32'
          clear hcells hTi hb8 hGi hm
          go_wp2_with fail
          refine HE.out.mono ?_
          rintro e w1 ⟨rfl, hT1, hB1⟩
          go_wp2
          go_roundw
          case rel => exact ⟨j + 1, stepC mi d, by omega, Hs32.out, by simp, by simp, by show _ = _; rw [take_snoc l j hjl, runC_app, ← Hmi.out, Hd.out]; rfl, hT1, Below.trans Hsz.out hB1⟩
          case measure => simp [intOf]; omega
        · go_wp2
          go_roundw
          case rel => exact ⟨k + 1, mi, Hk1.out, hmi, by simp, by simp, by show _ = _; rw [Hmk.out, runC_app, Hl.out, ← Hm.out, Hmi.out, List.take_of_length_le (by omega)], hTi, hGi⟩
          case measure => simp [intOf]; omega
    · have hn2 := notC_int m hm
      go_wp2
      go_ret
      refine ⟨?_, hG⟩
      show Ending.returned (Value.int IntKind.u32 (notC m : Nat)) = _
      rw [Hm.out, List.take_of_length_le (by omega), Hx.out]
      rfl

set_option maxRecDepth 100000 in
theorem vOnward_nil (c : Nat) (hc : c < 4294967296) (a : Option Addr) (cap : Nat) (w : World) :
    Calls Try.prog 31 #[.int .u32 c, .slice a 0 cap] w fun e w' => e = .returned (.int .u32 (moreC c [] : Nat)) ∧ Grows w w' := by
  obtain ⟨Z, hal, hTab⟩ := allocTab
  have hus := u32_unsigned
  have hn := notC_int c hc
  obtain ⟨x, Hx⟩ : ∃ x, Hid (x = notC c) := ⟨_, rfl⟩
  have hx32 : x < 4294967296 := by rw [Hx.out]; exact notC_lt hc
  rw [← Hx.out] at hn
  have hn2 := notC_int x hx32
  clear hc hTab
  go_enter Try.func31, Try.ntmps31
  go_wp2_with (refine wpList_allocTab rfl rfl Z hal ?_)
  refine wp_loop_rounds 1 ?_
  rw [rounds_succ]
  go_wp2
  go_ret
  refine ⟨?_, (Below.refl _ _).alloc (Nat.le_refl _) _⟩
  show Ending.returned (Value.int IntKind.u32 (notC x : Nat)) = _
  rw [Hx.out]
  rfl

theorem vOnward (c : Nat) (hc : c < 4294967296) (v : Value) (ls : List (List UInt8)) (w : World) (h : BytL w v ls) :
    Calls Try.prog 31 #[.int .u32 c, v] w fun e w' => e = .returned (.int .u32 (moreC c ls.flatten : Nat)) ∧ Grows w w' := by
  obtain ⟨a, cap, rfl, h1, h2, h3, h4⟩ := h
  rcases h4 with rfl | ⟨b, off, rfl, h4⟩
  · exact vOnward_nil c hc a cap w
  · exact vOnward_some c hc b off cap ls w (by omega) h4
end Go.Proofs.Ytfgnniajancpcaa
