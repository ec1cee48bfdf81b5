import Derived.Test.YtoppcpiheaedlaaGreatDoorMB1
section
/-
  The document's own disk: what its directory is, and what is read of it.
-/
namespace Go.Proofs.YtoppcpiheaedlaaGreatDoor
open Go.RowKit
set_option linter.unusedVariables false
set_option linter.unusedSimpArgs false
def entC (e : Nm × Nat) : List Value := [sv e.1, nv e.2]
def chC (c : Chg) : List Value := [nv c.kind, sv c.a, sv c.b, nv c.id]
def flC (x : Nat × Value) : List Value := [nv x.1, x.2]
def wrC (x : Wr × Value) : List Value := [nv x.1.id, nv x.1.n, x.2]
theorem entC_len (e : Nm × Nat) : (entC e).length = 2 := rfl
theorem chC_len (e : Chg) : (chC e).length = 4 := rfl
theorem flC_len (e : Nat × Value) : (flC e).length = 2 := rfl
theorem wrC_len (e : Wr × Value) : (wrC e).length = 3 := rfl
theorem entC_flat (l : List (Nm × Nat)) : (l.flatMap entC).length = l.length * 2 := by
 induction l with
 | nil => rfl
 | cons a l ih => rw [List.flatMap_cons, List.length_append, ih]; simp [entC]; omega
theorem entC_one (l : List (Nm × Nat)) : ∀ u ∈ l.flatMap entC, u.oneCell' = true := by
 intro u hu
 obtain ⟨e, _, h⟩ := List.mem_flatMap.1 hu
 simp [entC, sv, nv] at h
 rcases h with rfl | rfl <;> rfl
theorem infoE : (Tryz.prog.info? 134).map (fun i => (i.zero, i.size, i.bytes)) = some (some (.agg #[.string ⟨#[]⟩, .int .i64 0]), 2, 24) := by kernel_rfl
theorem infoE_parts : ∃ i z, Tryz.prog.info? 134 = some i ∧ i.zero = some z ∧ i.size = 2 ∧ i.bytes = 24 ∧ z.cells.size = 2 := by
 obtain ⟨i, h1, h2⟩ := Option.map_eq_some_iff.1 infoE
 simp only [Prod.mk.injEq] at h2
 exact ⟨i, _, h1, h2.1, h2.2.1, h2.2.2, rfl⟩
def EntR (W : World) (v : Value) (l : List (Nm × Nat)) : Prop := W.ownsRow 0 134 2 v l.length (l.flatMap entC)
theorem EntR.grows {W W' : World} {v : Value} {l : List (Nm × Nat)} (h : EntR W v l) (g : Grows W W') : EntR W' v l := own_grows h g
theorem EntR.nil (W : World) : EntR W (.slice none 0 0) [] := World.ownsRow_nil W 0 _ 2
theorem EntR.name {W : World} {g n cap : Nat} {l : List (Nm × Nat)} (h : EntR W (.slice (some ⟨g, 0, none⟩) n cap) l) (i : Nat) (hi : i < l.length) : W.cell? ⟨g, i * 2, none⟩ = some (sv (l[i]).1) := by
 have hn : n = l.length := by
  rcases h.2 with ⟨h0, _⟩ | ⟨_, _, _, h0, _⟩
  · cases h0
  · simp only [Value.slice.injEq] at h0; exact h0.2.1
 subst hn
 refine own_cell h (i * 2) _ ?_
 have := flat_get entC 2 entC_len l i 0 hi (by omega)
 rw [Nat.add_zero] at this
 rw [this]; rfl
theorem EntR.num {W : World} {g n cap : Nat} {l : List (Nm × Nat)} (h : EntR W (.slice (some ⟨g, 0, none⟩) n cap) l) (i : Nat) (hi : i < l.length) : W.cell? ⟨g, i * 2 + 1, none⟩ = some (nv (l[i]).2) := by
 have hn : n = l.length := by
  rcases h.2 with ⟨h0, _⟩ | ⟨_, _, _, h0, _⟩
  · cases h0
  · simp only [Value.slice.injEq] at h0; exact h0.2.1
 subst hn
 refine own_cell h (i * 2 + 1) _ ?_
 have := flat_get entC 2 entC_len l i 1 hi (by omega)
 rw [this]; rfl
set_option maxRecDepth 100000 in
theorem refAt (q : Nat) (vf : Value) (fs : List (Nat × Value)) (id : Nat) (w : World) (hf : w.cell? ⟨q, 3, none⟩ = some vf) (hr : w.ownsRow 0 116 2 vf fs.length (fs.flatMap flC)) (hfs : ∀ i (h : i < fs.length), (fs[i]).1 = i) (hid : id < fs.length) (hl : fs.length ≤ 1000000000) :
 Calls Tryz.prog 62 #[.pointer (some ⟨q, 0, none⟩), .int .i64 (id : Int)] w fun e w' => e = .returned (.int .i64 (id : Int)) ∧ w' = w := by
 obtain ⟨g, cap, rfl⟩ := own_some hr (by omega)
 have HC : Hid (∀ i, i < fs.length → w.cell? ⟨g, i * 2, none⟩ = some (nv i)) := fun i hi => by
  refine own_cell hr (i * 2) _ ?_
  have := flat_get flC 2 flC_len fs i 0 hi (by omega)
  rw [Nat.add_zero] at this
  rw [this]
  show some (nv (fs[i]).1) = _
  rw [hfs i hi]
 clear hr hfs
 go_enter Tryz.func62, Tryz.ntmps62
 go_wp2
 go_loop [5] (fun t5 => ∃ k : Nat, k ≤ id ∧ t5 = .int .i64 k)
  (fun t5 => id - (intOf t5).toNat)
 case atStart => exact ⟨0, by omega, rfl⟩
 case round =>
  obtain ⟨k, hk, rfl⟩ := hrel
  have hlt : (k : Int) < (fs.length : Int) := by omega
  have hcell := HC.out k (by omega)
  unfold nv at hcell
  by_cases he : k = id
  · subst he
    go_wp2
    go_ret
    exact ⟨rfl, rfl⟩
  · have hne : ¬ (k : Int) = (id : Int) := by omega
    go_wp2
    go_round
    case rel => exact ⟨k + 1, by omega, by simp⟩
    case measure => simp [intOf]; omega
set_option maxRecDepth 100000 in
set_option maxHeartbeats 1000000 in
theorem refName (s : Nm) (hs : True) (w : World) :
 Calls Tryz.prog 67 #[sv s] w fun e w' => e = .returned (.bool (nameOK s)) ∧ w' = w := by
 unfold sv
 by_cases h1 : s.length < 1
 · have h1' : (s.length : Int) < 1 := by omega
   have hr : nameOK s = false := by unfold nameOK; simp; intro h; omega
   rw [hr]
   go_enter Tryz.func67, Tryz.ntmps67
   go_wp2
   go_ret
   exact ⟨rfl, rfl⟩
 · have h1' : ¬ (s.length : Int) < 1 := by omega
   by_cases h16 : 16 < s.length
   · have h16' : (16 : Int) < (s.length : Int) := by omega
     have hr : nameOK s = false := by unfold nameOK; simp; intro _ h; omega
     rw [hr]
     go_enter Tryz.func67, Tryz.ntmps67
     go_wp2
     go_ret
     exact ⟨rfl, rfl⟩
   · have h16' : ¬ (16 : Int) < (s.length : Int) := by omega
     have hr : nameOK s = s.all nmByte := by unfold nameOK; simp; intro _; omega
     rw [hr]
     have Hs16 := Lib.hid (show s.length ≤ 16 by omega)
     clear h16 h1 hr hs
     go_enter Tryz.func67, Tryz.ntmps67
     go_wp2
     go_loop [3] (fun t3 => ∃ k : Nat, k ≤ s.length ∧ t3 = .int .i64 k ∧ Hid ((s.take k).all nmByte = true))
      (fun t3 => s.length - (intOf t3).toNat)
     case atStart => exact ⟨0, by omega, rfl, rfl⟩
     case round =>
      obtain ⟨k, hk, rfl, Hall⟩ := hrel
      by_cases hlt : k < s.length
      · have hlt' : (k : Int) < (s.length : Int) := by omega
        obtain ⟨c, Hc⟩ : ∃ c, Hid (s.getD k 0 = c) := ⟨_, rfl⟩
        have hget : ∀ h, ({ data := s.toArray } : ByteArray)[k]'h = c := fun h => by
         rw [← Hc.out]
         show s.toArray[k]'_ = _
         simp [List.getD, hlt]
        have Hsn : Hid ((s.take (k + 1)).all nmByte = nmByte c) := by
         show _ = _
         rw [take_snoc s k hlt, List.all_append, Hall.out, Hc.out]
         simp
        have Hbad : Hid (nmByte c = false → s.all nmByte = false) := fun hb => by
         rw [List.all_eq_false]
         refine ⟨c, ?_, by simp [hb]⟩
         rw [← Hc.out, List.getD, List.getElem?_eq_getElem hlt, Option.getD_some]
         exact List.getElem_mem hlt
        have Hlt := Lib.hid hlt
        have hc256 := c.toNat_lt
        have hk16 : (k : Int) < 16 := by have := Hs16.out; omega
        have hc46 : c = 46 ↔ c.toNat = 46 := ⟨fun h => by rw [h]; rfl, fun h => UInt8.toNat_inj.1 h⟩
        clear hk hlt
        by_cases hA : 97 ≤ c.toNat
        · by_cases hB : c.toNat ≤ 122
          · skip
            have hf0 : (97 : Int) ≤ (c.toNat : Int) := by omega
            have hf1 : (c.toNat : Int) ≤ 122 := by omega
            have Hok : Hid ((s.take (k + 1)).all nmByte = true) := by show _ = _; rw [Hsn.out]; unfold nmByte; simp [hc46]; omega
            clear hc46
            go_wp2
            go_round
            case rel => exact ⟨k + 1, Hlt.out, by simp, Hok.out⟩
            case measure => have := Hlt.out; simp [intOf]; omega
          · skip
            have hf0 : (97 : Int) ≤ (c.toNat : Int) := by omega
            have hf1 : ¬ (c.toNat : Int) ≤ 122 := by omega
            have hf2 : (48 : Int) ≤ (c.toNat : Int) := by omega
            have hf3 : ¬ (c.toNat : Int) ≤ 57 := by omega
            have hf4 : ((c.toNat : Int) == 46) = false := by simp; omega
            have Hno : Hid (s.all nmByte = false) := Hbad.out (by unfold nmByte; simp [hc46]; omega)
            clear hc46
            go_wp2
            go_ret
            exact ⟨by rw [Hno.out]; rfl, rfl⟩
        · by_cases hC : 48 ≤ c.toNat
          · by_cases hD : c.toNat ≤ 57
            · skip
              have hf0 : ¬ (97 : Int) ≤ (c.toNat : Int) := by omega
              have hf1 : (48 : Int) ≤ (c.toNat : Int) := by omega
              have hf2 : (c.toNat : Int) ≤ 57 := by omega
              have Hok : Hid ((s.take (k + 1)).all nmByte = true) := by show _ = _; rw [Hsn.out]; unfold nmByte; simp [hc46]; omega
              clear hc46
              go_wp2
              go_round
              case rel => exact ⟨k + 1, Hlt.out, by simp, Hok.out⟩
              case measure => have := Hlt.out; simp [intOf]; omega
            · skip
              have hf0 : ¬ (97 : Int) ≤ (c.toNat : Int) := by omega
              have hf1 : (48 : Int) ≤ (c.toNat : Int) := by omega
              have hf2 : ¬ (c.toNat : Int) ≤ 57 := by omega
              have hf3 : ((c.toNat : Int) == 46) = false := by simp; omega
              have Hno : Hid (s.all nmByte = false) := Hbad.out (by unfold nmByte; simp [hc46]; omega)
              clear hc46
              go_wp2
              go_ret
              exact ⟨by rw [Hno.out]; rfl, rfl⟩
          · by_cases hE : c.toNat = 46
            · skip
              have hf0 : ¬ (97 : Int) ≤ (c.toNat : Int) := by omega
              have hf1 : ¬ (48 : Int) ≤ (c.toNat : Int) := by omega
              have hf2 : ((c.toNat : Int) == 46) = true := by simp; omega
              have Hok : Hid ((s.take (k + 1)).all nmByte = true) := by show _ = _; rw [Hsn.out]; unfold nmByte; simp [hc46]; omega
              clear hc46
              go_wp2
              go_round
              case rel => exact ⟨k + 1, Hlt.out, by simp, Hok.out⟩
              case measure => have := Hlt.out; simp [intOf]; omega
            · skip
              have hf0 : ¬ (97 : Int) ≤ (c.toNat : Int) := by omega
              have hf1 : ¬ (48 : Int) ≤ (c.toNat : Int) := by omega
              have hf2 : ((c.toNat : Int) == 46) = false := by simp; omega
              have Hno : Hid (s.all nmByte = false) := Hbad.out (by unfold nmByte; simp [hc46]; omega)
              clear hc46
              go_wp2
              go_ret
              exact ⟨by rw [Hno.out]; rfl, rfl⟩
      · have hlt' : ¬ (k : Int) < (s.length : Int) := by omega
        have Hfin : Hid (s.all nmByte = true) := by
         have h := Hall.out
         rw [List.take_of_length_le (by omega)] at h
         exact h
        go_wp2
        go_ret
        exact ⟨by rw [Hfin.out]; rfl, rfl⟩
end Go.Proofs.YtoppcpiheaedlaaGreatDoor
end
section
/-
  The document's own disk: the directory as it is now.
-/
namespace Go.Proofs.YtoppcpiheaedlaaGreatDoor
open Go.RowKit
set_option linter.unusedVariables false
set_option linter.unusedSimpArgs false
attribute [local go_sem] sv nv
theorem str_eq (a b : List UInt8) : (a == b) = decide (a = b) := by
 by_cases h : a = b <;> simp [h]
set_option maxRecDepth 100000 in
set_option maxHeartbeats 4000000 in
theorem refChange0 (v : Value) (l : List (Nm × Nat)) (ca cb : Nm) (ci : Nat) (w : World) (h : EntR w v l) (hn : l.length ≤ 1000000000) :
 Calls Tryz.prog 91 #[v, .agg #[nv 0, sv ca, sv cb, nv ci]] w fun e w' => ∃ v', e = .returned v' ∧ EntR w' v' (chgF l ⟨0, ca, cb, ci⟩) ∧ Grows w w' ∧ (v'.ownBlock = v.ownBlock ∨ ∀ j, v'.ownBlock = some j → w.heap.size ≤ j) := by
 have hmx : Tryz.prog.follows .mixedOrders = true := by kernel_rfl
 obtain ⟨i0, z0, hi, hz, hs2, hb2, hzs⟩ := infoE_parts
 have H := Lib.hid h
 obtain ⟨a, cap, rfl⟩ := own_form h
 have hg1 := Grows.alloc' w (.cells #[nv 0, sv ca, sv cb, nv ci] 165)
 have h0 := heap_alloc_new w (.cells #[nv 0, sv ca, sv cb, nv ci] 165)
 have hn1 : l.length ≤ 1000000000 := hn
 · have Hr : Hid (chgF l ⟨0, ca, cb, ci⟩ = l ++ [(ca, ci)]) := by show _ = _; unfold chgF; rw [if_pos rfl]
   clear h
   go_enter Tryz.func91, Tryz.ntmps91
   go_wp2
   change Code.wp _ _ _ _ (w.alloc (.cells #[nv 0, sv ca, sv cb, nv ci] 165))
   have c1 : (w.alloc (.cells #[nv 0, sv ca, sv cb, nv ci] 165)).cell? ⟨w.heap.size, 1, none⟩ = some (.string ⟨ca.toArray⟩) := by rw [cell_of_row _ _ 1 _ _ _ h0]; rfl
   have c3 : (w.alloc (.cells #[nv 0, sv ca, sv cb, nv ci] 165)).cell? ⟨w.heap.size, 3, none⟩ = some (.int .i64 (ci : Int)) := by rw [cell_of_row _ _ 3 _ _ _ h0]; rfl
   have hsz : w.heap.size < (w.alloc (.cells #[nv 0, sv ca, sv cb, nv ci] 165)).heap.size := by simp
   obtain ⟨gb, hgb⟩ : ∃ n, w.heap.size = n := ⟨_, rfl⟩
   obtain ⟨wb, hwb⟩ : ∃ x, w.alloc (.cells #[nv 0, sv ca, sv cb, nv ci] 165) = x := ⟨_, rfl⟩
   rw [hwb] at c1 c3 hg1 hsz ⊢
   rw [hgb] at c1 c3 hsz ⊢
   have H1 := Lib.hid (H.out.grows hg1)
   have HG1 := Lib.hid hg1
   have hxl : (l.flatMap entC).length = l.length * 2 := entC_flat l
   obtain ⟨xs, Hxs⟩ : ∃ xs, Hid (l.flatMap entC = xs) := ⟨_, rfl⟩
   have hown : wb.ownsRow 0 134 2 (.slice a l.length cap) l.length xs := by rw [← Hxs.out]; exact H1.out
   have Hone : Hid (∀ u ∈ xs, u.oneCell' = true) := by show ∀ _, _; rw [← Hxs.out]; exact entC_one l
   rw [Hxs.out] at hxl
   obtain ⟨n, Hn⟩ : ∃ n, Hid (l.length = n) := ⟨_, rfl⟩
   rw [Hn.out] at hown hxl hn1 ⊢
   have Hown := Lib.hid hown
   have Hxl := Lib.hid hxl
   have hnb : ¬ wb.heap.size ≤ gb := by omega
   have HL : Hid (∀ p ∈ [(0, []), (n, xs), (1, entC (ca, ci)), (n + 1, xs ++ entC (ca, ci))], p.1 ≤ n ∨ (p.1 ≤ n + 1 ∧ p.2 = (xs ++ entC (ca, ci)).take (p.1 * 2))) := by
    intro p hp
    simp only [List.mem_cons, List.not_mem_nil, or_false] at hp
    rcases hp with rfl | rfl | rfl | rfl
    · left; omega
    · left; omega
    · rcases Nat.eq_zero_or_pos n with h0' | h0'
      · right
        subst h0'
        have : xs = [] := List.eq_nil_of_length_eq_zero (by rw [Hxl.out])
        subst this
        exact ⟨by omega, rfl⟩
      · left; show 1 ≤ n; omega
    · right
      refine ⟨by omega, ?_⟩
      rw [List.take_of_length_le]
      rw [List.length_append, Hxl.out, entC_len]
      show n * 2 + 2 ≤ (n + 1) * 2
      omega
   have hn2 := hn1
   clear hwb hgb hown hxl h0 hg1 hn hn1 H1
   have cX := fun X (hX : (EApp (fun k => wb.heap.size ≤ k) 134 2 [(0, []), (n, xs), (1, entC (ca, ci)), (n + 1, xs ++ entC (ca, ci))]) _ X) => And.intro (hX.but.cell (p := ⟨gb, _, none⟩) hnb c1) (hX.but.cell (p := ⟨gb, _, none⟩) hnb c3)
   refine region_K (E := (EApp (fun k => wb.heap.size ≤ k) 134 2 [(0, []), (n, xs), (1, entC (ca, ci)), (n + 1, xs ++ entC (ca, ci))])) (EApp.ok (fun k => wb.heap.size ≤ k) 134 2 [(0, []), (n, xs), (1, entC (ca, ci)), (n + 1, xs ++ entC (ca, ci))]) EApp.ofGrows
    #[[], [], [0, 1], [], [3], [], [5], [3, 4, 5, 6], [3, 4, 5, 6, 7], [0, 1, 2, 3, 4, 5, 6, 7, 8], [0, 1, 2, 3, 4, 5, 6, 7, 8, 9]] #[[], [0], [], [3], [], [3], [], [], [], [], []] #[true, true, true, true, true, true, true, true, true, true, true]
    ((.pred (fun v W => W.ownsRow 0 134 2 v 0 [] ∧ ∃ g, v = .slice (some ⟨g, 0, none⟩) 0 0 ∧ wb.heap.size ≤ g) (fun v a b h ho => ⟨EApp.own (by simp) v a b h ho.1, ho.2⟩)) :: (.val ?v1) :: (.pred (fun v W => W.ownsRow 0 134 2 v n xs ∧ ∀ j, v.ownBlock = some j → wb.heap.size ≤ j) (fun v a b h ho => ⟨EApp.own (by simp) v a b h ho.1, ho.2⟩)) :: (.val ?v3) :: (.val ?v4) :: (.val ?v5) :: (.val ?v6) :: (.val ?v7) :: (.pred (fun v W => W.ownsRow 0 134 2 v 1 (entC (ca, ci)) ∧ ∃ g, v = .slice (some ⟨g, 0, none⟩) 1 1) (fun v a b h ho => ⟨EApp.own (by simp) v a b h ho.1, ho.2⟩)) :: (.pred (fun v W => W.ownsRow 0 134 2 v (n + 1) (xs ++ entC (ca, ci)) ∧ ∀ j, v.ownBlock = some j → wb.heap.size ≤ j) (fun v a b h ho => ⟨EApp.own (by simp) v a b h ho.1, ho.2⟩)) :: (.pred (fun v W => W.ownsRow 0 134 2 v (n + 1) (xs ++ entC (ca, ci)) ∧ ∀ j, v.ownBlock = some j → wb.heap.size ≤ j) (fun v a b h ho => ⟨EApp.own (by simp) v a b h ho.1, ho.2⟩)) :: []).toArray
    (noState [9])
    (fun _ _ _ _ _ _ _ _ => trivial)
    (fun _ _ => trivial)
    hmx ?chk rfl ?grd ?stp ?rst
   case chk => rfl
   case stp =>
    refine ⟨?_, ?_, ?_, ?_, ?_, ?_, ?_, ?_, ?_, ?_, ?_, trivial⟩
    · refine step_introK rfl rfl fun ρ X hc hf hgl hX hp ho hu => ?_
      change StepOk _ ⟨_, .buildSlice 71 0 #[], _, _, _, _⟩ _ _ _
      refine stepK_plain (i := 0) rfl ?_
      clear hu
      clear hp ho
      refine StepOk.of_run (v := .slice (some ⟨X.heap.size, 0, none⟩) 0 0) (w' := X.alloc (.cells #[] 134)) ?_ ⟨⟨⟨by simp, .inr ⟨X.heap.size, 0, #[], rfl, Nat.zero_le _, heap_alloc_new X _, Nat.le_refl _, by simp [maxLen], by simp, by simp⟩⟩, _, rfl, hX.but.size⟩, Grows.alloc' _ _⟩
      simp [go_sem, execOp, hc]
    · refine stepOK 0 ?v1 rfl (fun _ _ => rfl) rfl rfl (fun _ => rfl) (by decide) ?_; show (.slice a n cap : Value) = _; rfl
    · refine step_introK rfl rfl fun ρ X hc hf hgl hX hp ho hu => ?_
      change StepOk _ ⟨_, .call { callee := .builtin .append, args := #[.tmp 10, .tmp 11], argTypes := #[71, 71] }, _, _, _, _⟩ _ _ _
      have k10 := hp 0 (by decide)
      have k11 : ρ (.tmp 11) = ?v1 := hp 1 (by decide)
      refine stepK_plain (i := 2) rfl ?_
      clear hu
      clear hp ho
      obtain ⟨ho10, g10, e10, hg10⟩ := k10
      have hoX := hX.spared (n, xs) (by simp) _ Hown.out
      rw [e10] at ho10
      obtain ⟨v', W', hr, ho', hgr, hat, _⟩ := run_append_z (P := Tryz.prog) X 71 71 134 i0 z0 2 24 Tryz.underlying71 hi hz hs2 hb2 hzs (by omega) g10 ho10 _ n xs hoX Hone.out (by unfold maxLen; omega) (by omega)
      refine StepOk.of_run (v := v') (w' := W') ?_ ⟨⟨ho', fun j hj => by have hXs := hX.but.size; rcases hat with h | h <;> (rw [hj] at h; have := Option.some.inj h; omega)⟩, hgr⟩
      simp only [execOp, resolve, invoke, builtin, Sem.run_bind, Sem.run_pure, Result.andThen_ok, List.map_toArray, List.map_cons, List.map_nil, e10, k11, hr]
    · refine stepRK (o := ⟨_, .fieldAddr 165 (.tmp 3) 1, _, _, _, _⟩) ?v3 rfl rfl rfl (fun _ => rfl) fun ρ X hc hf hgl hX hp ho => ?_; have k3 : ρ (.tmp 3) = .pointer (some ⟨gb, 0, none⟩) := ho 3 (by decide); clear hp ho hX; go_simp; (all_goals rfl)
    · refine stepRK (o := ⟨_, .load 9 (.tmp 13), _, _, _, _⟩) ?v4 rfl rfl rfl (fun _ => rfl) fun ρ X hc hf hgl hX hp ho => ?_; have k13 : ρ (.tmp 13) = ?v3 := hp 3 (by decide); have cX := cX X hX; clear hp ho hX; go_simp; (all_goals rfl)
    · refine stepRK (o := ⟨_, .fieldAddr 165 (.tmp 3) 3, _, _, _, _⟩) ?v5 rfl rfl rfl (fun _ => rfl) fun ρ X hc hf hgl hX hp ho => ?_; have k3 : ρ (.tmp 3) = .pointer (some ⟨gb, 0, none⟩) := ho 3 (by decide); clear hp ho hX; go_simp; (all_goals rfl)
    · refine stepRK (o := ⟨_, .load 3 (.tmp 15), _, _, _, _⟩) ?v6 rfl rfl rfl (fun _ => rfl) fun ρ X hc hf hgl hX hp ho => ?_; have k15 : ρ (.tmp 15) = ?v5 := hp 5 (by decide); have cX := cX X hX; clear hp ho hX; go_simp; (all_goals rfl)
    · refine stepRK (o := ⟨_, .build 134 #[(0, .tmp 14), (1, .tmp 16)], _, _, _, _⟩) ?v7 rfl rfl rfl (fun _ => rfl) fun ρ X hc hf hgl hX hp ho => ?_; have k14 : ρ (.tmp 14) = ?v4 := hp 4 (by decide); have k16 : ρ (.tmp 16) = ?v6 := hp 6 (by decide); clear hp ho hX; go_simp; (all_goals try go_bits); (all_goals try simp only [IntWalk.iteOmega]); (all_goals try go_bits); (all_goals rfl)
    · refine step_introK rfl rfl fun ρ X hc hf hgl hX hp ho hu => ?_
      change StepOk _ ⟨_, .buildSlice 71 1 #[(0, .tmp 17)], _, _, _, _⟩ _ _ _
      have k17 : ρ (.tmp 17) = ?v7 := hp 7 (by decide)
      refine stepK_plain (i := 8) rfl ?_
      clear hu
      clear hp ho
      refine StepOk.of_run (v := .slice (some ⟨X.heap.size, 0, none⟩) 1 1) (w' := X.alloc (.cells (entC (ca, ci)).toArray 134)) ?_ ⟨⟨⟨rfl, .inr ⟨X.heap.size, 1, _, rfl, Nat.zero_le _, heap_alloc_new X _, Nat.le_refl _, by simp [maxLen], rfl, rfl⟩⟩, _, rfl⟩, Grows.alloc' _ _⟩
      simp [go_sem, execOp, hc, k17, entC]
    · refine step_introK rfl rfl fun ρ X hc hf hgl hX hp ho hu => ?_
      change StepOk _ ⟨_, .call { callee := .builtin .append, args := #[.tmp 12, .tmp 18], argTypes := #[71, 71] }, _, _, _, _⟩ _ _ _
      have k12 := hp 2 (by decide)
      have k18 := hp 8 (by decide)
      clear hu
      clear hp ho
      refine stepK_made rfl ?_
      obtain ⟨ho18, g18, e18⟩ := k18
      rw [e18] at ho18
      obtain ⟨v', W', hr, ho', hgb', hat, hsp⟩ := run_append_x (P := Tryz.prog) X 71 71 134 i0 z0 2 24 Tryz.underlying71 hi hz hs2 hb2 hzs (by omega) _ n xs k12.1 ⟨g18, 0, none⟩ 1 1 (entC (ca, ci)) rfl (ho18.cells (g := g18) rfl) (entC_one [(ca, ci)]) (by unfold maxLen; omega) (by omega) [(0, []), (n, xs), (1, entC (ca, ci)), (n + 1, xs ++ entC (ca, ci))] HL.out
      refine StepOk.of_run (v := v') (w' := W') ?_ ⟨⟨ho', fun j hj => by rcases hat with h | h; exact k12.2 j (h.symm.trans hj); rw [h] at hj; have := Option.some.inj hj; have := hX.but.size; omega⟩, ⟨But.grown hgb' (fun j hj => ?_), hsp⟩, fun s hs => by simp [noState] at hs⟩
      · simp only [execOp, resolve, invoke, builtin, Sem.run_bind, Sem.run_pure, Result.andThen_ok, List.map_toArray, List.map_cons, List.map_nil, e18, hr]
      · exact k12.2 j hj
    · refine step_introK rfl rfl fun ρ X hc hf hgl hX hp ho hu => ?_
      change StepOk _ ⟨_, .assign (.tmp 19), _, _, _, _⟩ _ _ _
      have k19 := hp 9 (by decide)
      refine stepK_plain (i := 10) rfl ?_
      clear hu
      clear hp ho
      refine StepOk.of_run (v := ρ (.tmp 19)) (w' := X) ?_ ⟨k19, Below.refl _ _⟩
      simp [go_sem, execOp]
   case grd => rfl
   case rst =>
    intro a0 X hb
    obtain ⟨x4, hx4⟩ : ∃ x, a0.tmps.getD 4 undef = x := ⟨_, rfl⟩
    have p4 := hb.done' 10 4 rfl rfl
    rw [hx4] at p4
    obtain ⟨x10, hx10⟩ : ∃ x, a0.tmps.getD 10 undef = x := ⟨_, rfl⟩
    have p10 := hb.done' 0 10 rfl rfl
    rw [hx10] at p10
    obtain ⟨x12, hx12⟩ : ∃ x, a0.tmps.getD 12 undef = x := ⟨_, rfl⟩
    have p12 := hb.done' 2 12 rfl rfl
    rw [hx12] at p12
    obtain ⟨x18, hx18⟩ : ∃ x, a0.tmps.getD 18 undef = x := ⟨_, rfl⟩
    have p18 := hb.done' 8 18 rfl rfl
    rw [hx18] at p18
    obtain ⟨x19, hx19⟩ : ∃ x, a0.tmps.getD 19 undef = x := ⟨_, rfl⟩
    have p19 := hb.done' 9 19 rfl rfl
    rw [hx19] at p19
    have hfr := hb.frame ((4, x4) :: (10, x10) :: (11, ?v1) :: (12, x12) :: (13, ?v3) :: (14, ?v4) :: (15, ?v5) :: (16, ?v6) :: (17, ?v7) :: (18, x18) :: (19, x19) :: []) rfl ⟨hx4, hx10, hb.done' 1 11 rfl rfl, hx12, hb.done' 3 13 rfl rfl, hb.done' 4 14 rfl rfl, hb.done' 5 15 rfl rfl, hb.done' 6 16 rfl rfl, hb.done' 7 17 rfl rfl, hx18, hx19, trivial⟩
    simp only [updL, ↓reduceIte, Nat.reduceEqDiff, Nat.reduceAdd, Nat.zero_add] at hfr
    have HX := Lib.hid hb.ext
    clear hb cX
    subst hfr
    have p4c := (show X.ownsRow 0 134 2 x4 (n + 1) (xs ++ entC (ca, ci)) ∧ ∀ j, x4.ownBlock = some j → wb.heap.size ≤ j from p4)
    have P4 := Lib.hid p4c
    go_wp2
    go_ret
    refine ⟨_, rfl, ?_, ?_, .inr fun j hj => Nat.le_trans HG1.out.size (P4.out.2 j hj)⟩
    · rw [Hr.out]
      unfold EntR
      rw [List.length_append, List.flatMap_append, Hxs.out, Hn.out]
      have p4' : X.ownsRow 0 134 2 x4 (n + 1) (xs ++ entC (ca, ci)) := P4.out.1
      simpa using p4'
    · exact Below.trans HG1.out (HX.out.but.below HG1.out.size (fun k hk => Nat.le_trans HG1.out.size hk))
end Go.Proofs.YtoppcpiheaedlaaGreatDoor
end
section
/-
  The document's own disk: a change that takes away or renames; the directory as it is now; a name's file.
-/
namespace Go.Proofs.YtoppcpiheaedlaaGreatDoor
open Go.RowKit
set_option linter.unusedVariables false
set_option linter.unusedSimpArgs false
attribute [local go_sem] sv nv
theorem infoE_size : (Tryz.prog.info? 134).map (·.size) = some 2 := by kernel_rfl
theorem chg_snoc (c : Chg) (l : List (Nm × Nat)) (i : Nat) (hi : i < l.length) : (l.take (i + 1)).flatMap (chgE c) = (l.take i).flatMap (chgE c) ++ chgE c (l[i]) := by
 rw [List.take_succ_eq_append_getElem hi, List.flatMap_append]
 simp
theorem chgE_le (c : Chg) (e : Nm × Nat) : (chgE c e).length ≤ 1 := by
 unfold chgE
 split
 · simp
 · split <;> simp
theorem chg_len (c : Chg) : ∀ l : List (Nm × Nat), (l.flatMap (chgE c)).length ≤ l.length
 | [] => by simp
 | e :: l => by
  rw [List.flatMap_cons, List.length_append]
  have h1 := chgE_le c e
  have h2 := chg_len c l
  simp only [List.length_cons]
  omega
set_option maxRecDepth 100000 in
set_option maxHeartbeats 8000000 in
theorem refChangeF (v : Value) (l : List (Nm × Nat)) (kd : Nat) (ca cb : Nm) (ci : Nat) (hk0 : kd ≠ 0) (hk2n : ¬ kd = 2) (w : World) (h : EntR w v l) (hn : l.length ≤ 1000000000) :
 Calls Tryz.prog 91 #[v, .agg #[nv kd, sv ca, sv cb, nv ci]] w fun e w' => ∃ v', e = .returned v' ∧ EntR w' v' (chgF l ⟨kd, ca, cb, ci⟩) ∧ Grows w w' ∧ (v'.ownBlock = v.ownBlock ∨ ∀ j, v'.ownBlock = some j → w.heap.size ≤ j) := by
 have hmx : Tryz.prog.follows .mixedOrders = true := by kernel_rfl
 obtain ⟨i0, z0, hi, hz, hs2, hb2, hzs⟩ := infoE_parts
 have H := Lib.hid h
 obtain ⟨a, cap, rfl⟩ := own_form h
 have hg1 := Grows.alloc' w (.cells #[nv kd, sv ca, sv cb, nv ci] 165)
 have h0 := heap_alloc_new w (.cells #[nv kd, sv ca, sv cb, nv ci] 165)
 have hki : ((kd : Int) == 0) = false := by simp; omega
 clear h
 have hk2 : ((kd : Int) == 2) = false := by simp; omega
 have Hkd := Lib.hid hk2n
 have Hr : Hid (chgF l ⟨kd, ca, cb, ci⟩ = l.flatMap (chgE ⟨kd, ca, cb, ci⟩)) := by show _ = _; unfold chgF; rw [if_neg hk0, if_neg (fun h => hk2n h.1)]
 have HabF := Lib.hid trivial
 clear hk0 hk2n
 go_enter Tryz.func91, Tryz.ntmps91
 go_wp2
 have hgn : w.heap.size < (w.alloc (.cells #[nv kd, sv ca, sv cb, nv ci] 165)).heap.size := by simp
 change Code.wp _ _ _ _ (w.alloc (.cells #[nv kd, sv ca, sv cb, nv ci] 165))
 have cb0 : (w.alloc (.cells #[nv kd, sv ca, sv cb, nv ci] 165)).cell? ⟨w.heap.size, 0, none⟩ = some (.int .i64 (kd : Int)) := by rw [cell_of_row _ _ 0 _ _ _ h0]; rfl
 have cb1 : (w.alloc (.cells #[nv kd, sv ca, sv cb, nv ci] 165)).cell? ⟨w.heap.size, 1, none⟩ = some (.string ⟨ca.toArray⟩) := by rw [cell_of_row _ _ 1 _ _ _ h0]; rfl
 have cb2 : (w.alloc (.cells #[nv kd, sv ca, sv cb, nv ci] 165)).cell? ⟨w.heap.size, 2, none⟩ = some (.string ⟨cb.toArray⟩) := by rw [cell_of_row _ _ 2 _ _ _ h0]; rfl
 obtain ⟨gb, hgb⟩ : ∃ n, w.heap.size = n := ⟨_, rfl⟩
 obtain ⟨wb, hwb⟩ : ∃ x, w.alloc (.cells #[nv kd, sv ca, sv cb, nv ci] 165) = x := ⟨_, rfl⟩
 rw [hwb] at cb0 cb1 cb2 hg1 hgn ⊢
 rw [hgb] at cb0 cb1 cb2 hgn ⊢
 have H1 := Lib.hid (H.out.grows hg1)
 have HG1 := Lib.hid hg1
 have Hcw0 := Lib.hid cb0
 have Hcw1 := Lib.hid cb1
 have Hcw2 := Lib.hid cb2
 have hnb : ¬ wb.heap.size ≤ gb := by omega
 obtain ⟨n, Hn⟩ : ∃ n, Hid (l.length = n) := ⟨_, rfl⟩
 have hn1 : n ≤ 1000000000 := by rw [← Hn.out]; exact hn
 rw [Hn.out]
 have H1n : Hid (EntR wb (.slice a n cap) l) := by show EntR _ _ _; rw [← Hn.out]; exact H1.out
 clear hwb hgb h0 hg1 hn cb0 cb1 cb2 hgn HabF
 try simp only [nv, sv]
 go_loopw [5, 6] (fun t5 t6 wr => ∃ (i : Nat), i ≤ n ∧ t6 = .int .i64 i ∧ wr.ownsRow 0 134 2 t5 ((l.take i).flatMap (chgE ⟨kd, ca, cb, ci⟩)).length (((l.take i).flatMap (chgE ⟨kd, ca, cb, ci⟩)).flatMap entC) ∧ (∀ j, t5.ownBlock = some j → wb.heap.size ≤ j) ∧ Below wb.heap.size wb wr)
  (fun _ t6 _ => n - (intOf t6).toNat)
 case atStart => exact ⟨0, by omega, rfl, World.ownsRow_nil _ _ _ _, fun j hj => by simp [Value.ownBlock] at hj, Below.refl _ _⟩
 case round =>
  obtain ⟨i, hin, rfl, ho5, hat, hB⟩ := hrel
  have Ho5 := Lib.hid ho5
  have Hat := Lib.hid hat
  have HB := Lib.hid hB
  clear ho5 hat hB
  by_cases hlt : i < n
  · have hltI : (i : Int) < (n : Int) := by omega
    obtain ⟨g, cap', e1⟩ := own_some (H1n.out) (by rw [Hn.out]; omega)
    simp only [Value.slice.injEq] at e1
    obtain ⟨rfl, -, rfl⟩ := e1
    have hil : i < l.length := by rw [Hn.out]; exact hlt
    obtain ⟨nm, hnm⟩ : ∃ x, (l[i]).1 = x := ⟨_, rfl⟩
    obtain ⟨id, hid⟩ : ∃ x, (l[i]).2 = x := ⟨_, rfl⟩
    have Hcw : Hid (wb.cell? ⟨g, i * 2, none⟩ = some (.string ⟨nm.toArray⟩)) := by
     have h := H1n.out.name i hil
     rw [hnm] at h
     exact h
    have Hc0 : Hid (wr.cell? ⟨g, i * 2, none⟩ = some (.string ⟨nm.toArray⟩)) := by
     have h := H1n.out.name i hil
     rw [hnm] at h
     exact (HB.out.cell (p := ⟨g, i * 2, none⟩) (World.block_lt_of_cell? _ _ h)).trans h
    have Hc1 : Hid (wr.cell? ⟨g, i * 2 + 1, none⟩ = some (.int .i64 (id : Int))) := by
     have h := H1n.out.num i hil
     rw [hid] at h
     exact (HB.out.cell (p := ⟨g, i * 2 + 1, none⟩) (World.block_lt_of_cell? _ _ h)).trans h
    have Hcb0 : Hid (wr.cell? ⟨gb, 0, none⟩ = some (.int .i64 (kd : Int))) := (HB.out.cell (p := ⟨gb, 0, none⟩) (World.block_lt_of_cell? _ _ Hcw0.out)).trans Hcw0.out
    have Hcb1 : Hid (wr.cell? ⟨gb, 1, none⟩ = some (.string ⟨ca.toArray⟩)) := (HB.out.cell (p := ⟨gb, 1, none⟩) (World.block_lt_of_cell? _ _ Hcw1.out)).trans Hcw1.out
    have Hcb2 : Hid (wr.cell? ⟨gb, 2, none⟩ = some (.string ⟨cb.toArray⟩)) := (HB.out.cell (p := ⟨gb, 2, none⟩) (World.block_lt_of_cell? _ _ Hcw2.out)).trans Hcw2.out
    have hsn := chg_snoc ⟨kd, ca, cb, ci⟩ l i hil
    have hle : ((l.take i).flatMap (chgE ⟨kd, ca, cb, ci⟩)).length ≤ n := by
     have h1 := chg_len ⟨kd, ca, cb, ci⟩ (l.take i)
     have h2 := List.length_take_le i l
     rw [List.length_take] at h1
     omega
    obtain ⟨n5, hn5⟩ : ∃ x, ((l.take i).flatMap (chgE ⟨kd, ca, cb, ci⟩)).length = x := ⟨_, rfl⟩
    obtain ⟨xs5, hxs5⟩ : ∃ x, ((l.take i).flatMap (chgE ⟨kd, ca, cb, ci⟩)).flatMap entC = x := ⟨_, rfl⟩
    have hx5l : xs5.length = n5 * 2 := by rw [← hxs5, ← hn5]; exact entC_flat _
    have Ho5' := Ho5.out
    rw [hn5, hxs5] at Ho5'
    have Ho5 := Lib.hid Ho5'
    have H5 : Hid (((l.take i).flatMap (chgE ⟨kd, ca, cb, ci⟩)).length = n5 ∧ ((l.take i).flatMap (chgE ⟨kd, ca, cb, ci⟩)).flatMap entC = xs5) := ⟨hn5, hxs5⟩
    have Hn5 : Hid (n5 ≤ 1000000000) := by show _ ≤ _; omega
    have HL : Hid (∀ p ∈ [(n5, xs5), (1, entC (cb, id)), (n5 + 1, xs5 ++ entC (cb, id))], p.1 ≤ n5 ∨ (p.1 ≤ n5 + 1 ∧ p.2 = (xs5 ++ entC (cb, id)).take (p.1 * 2))) := by
     intro p hp
     simp only [List.mem_cons, List.not_mem_nil, or_false] at hp
     rcases hp with rfl | rfl | rfl
     · left; omega
     · rcases Nat.eq_zero_or_pos n5 with h0' | h0'
       · right
         have : xs5 = [] := List.eq_nil_of_length_eq_zero (by rw [hx5l, h0'])
         rw [this]
         exact ⟨by show 1 ≤ n5 + 1; omega, rfl⟩
       · left; show 1 ≤ n5; omega
     · right
       refine ⟨by omega, ?_⟩
       rw [List.take_of_length_le]
       rw [List.length_append, hx5l, entC_len]
       show n5 * 2 + 2 ≤ (n5 + 1) * 2
       omega
    have hsnE : chgE ⟨kd, ca, cb, ci⟩ (l[i]) = chgE ⟨kd, ca, cb, ci⟩ (nm, id) := by rw [← hnm, ← hid]
    rw [hsnE] at hsn
    have Hi := Lib.hid hlt
    have c0 := Hc0.out
    have c1b := Hcb1.out
    have c2b := Hcb2.out
    have c3b := Hcb0.out
    have hbi : ¬ ((n : Int) ≤ (i : Int)) := by omega
    clear hnm hid hle hn5 hxs5 hx5l Ho5' hsnE hil hlt hin
    have hna := str_eq nm ca
    have hnb2 := str_eq nm cb
    by_cases hea : nm = ca
    · rw [decide_eq_true hea] at hna
      have Hsn : Hid ((l.take (i + 1)).flatMap (chgE ⟨kd, ca, cb, ci⟩) = (l.take i).flatMap (chgE ⟨kd, ca, cb, ci⟩) ++ []) := by
       show _ = _
       rw [hsn]
       unfold chgE
       rw [if_neg (fun h => Hkd.out h.2), if_pos (.inl hea)]
      clear hsn hnb2
      go_wp2
      have cXpe := fun X (hX : Grows _ X) => And.intro (Grows.cell' hX c0) (And.intro (Grows.cell' hX c1b) (And.intro (Grows.cell' hX c2b) (Grows.cell' hX c3b)))
      refine specs_region
       #[[], [], [0, 1], [0, 1, 2], [0, 1, 2, 3], [], [5], [0, 1, 2, 3, 4, 5, 6], [0, 1, 2, 3, 4, 5, 6, 7], [0, 1, 2, 3, 4, 5, 6, 7, 8], [0, 1, 2, 3, 4, 5, 6, 7, 8, 9], [0, 1, 2, 3, 4, 5, 6, 7, 8, 9, 10], [0, 1, 2, 3, 4, 5, 6, 7, 8, 9, 10, 11], [0, 1, 2, 3, 4, 5, 6, 7, 8, 9, 10, 11, 12]] #[[0], [6], [], [], [], [3], [], [], [], [3], [], [], [], []] #[true, true, true, true, true, true, true, true, true, true, true, true, true, true]
       ((.val ?vpe0) :: (.val ?vpe1) :: (.val ?vpe2) :: (.val ?vpe3) :: (.val ?vpe4) :: (.val ?vpe5) :: (.val ?vpe6) :: (.val ?vpe7) :: (.val ?vpe8) :: (.val ?vpe9) :: (.val ?vpe10) :: (.val ?vpe11) :: (.val ?vpe12) :: (.val ?vpe13) :: []).toArray
       hmx ?chkpe ?grdpe ?stppe ?rstpe
      case chkpe => rfl
      case stppe =>
       refine ⟨?_, ?_, ?_, ?_, ?_, ?_, ?_, ?_, ?_, ?_, ?_, ?_, ?_, ?_, trivial⟩
       · refine stepO 0 ?vpe0 rfl (fun _ _ => rfl) rfl (fun _ => rfl) (by decide) ?_; show (.slice (some ⟨g, 0, none⟩) n cap : Value) = _; rfl
       · refine stepO 6 ?vpe1 rfl (fun _ _ => rfl) rfl (fun _ => rfl) (by decide) ?_; show (.int .i64 (i : Int) : Value) = _; rfl
       · refine stepR (o := ⟨_, .indexAddr 71 (.tmp 45) (.tmp 46), _, _, _, _⟩) ?vpe2 rfl rfl (fun _ => rfl) fun ρ X hc hf hgl hX hp ho => ?_; have k45 : ρ (.tmp 45) = ?vpe0 := hp 0 (by decide); have k46 : ρ (.tmp 46) = ?vpe1 := hp 1 (by decide); clear hp ho hX; go_simp; (all_goals try go_bits); (all_goals try simp only [IntWalk.iteOmega]); (all_goals try go_bits); (all_goals rfl)
       · refine stepR (o := ⟨_, .fieldAddr 134 (.tmp 47) 0, _, _, _, _⟩) ?vpe3 rfl rfl (fun _ => rfl) fun ρ X hc hf hgl hX hp ho => ?_; have k47 : ρ (.tmp 47) = ?vpe2 := hp 2 (by decide); clear hp ho hX; go_simp; (all_goals rfl)
       · refine stepR (o := ⟨_, .load 9 (.tmp 48), _, _, _, _⟩) ?vpe4 rfl rfl (fun _ => rfl) fun ρ X hc hf hgl hX hp ho => ?_; have k48 : ρ (.tmp 48) = ?vpe3 := hp 3 (by decide); have cX := cXpe X hX; clear hp ho hX; go_simp; (all_goals rfl)
       · refine stepR (o := ⟨_, .fieldAddr 165 (.tmp 3) 1, _, _, _, _⟩) ?vpe5 rfl rfl (fun _ => rfl) fun ρ X hc hf hgl hX hp ho => ?_; have k3 : ρ (.tmp 3) = .pointer (some ⟨gb, 0, none⟩) := ho 3 (by decide); clear hp ho hX; go_simp; (all_goals rfl)
       · refine stepR (o := ⟨_, .load 9 (.tmp 50), _, _, _, _⟩) ?vpe6 rfl rfl (fun _ => rfl) fun ρ X hc hf hgl hX hp ho => ?_; have k50 : ρ (.tmp 50) = ?vpe5 := hp 5 (by decide); have cX := cXpe X hX; clear hp ho hX; go_simp; (all_goals rfl)
       · refine stepR (o := ⟨_, .binOp .eql 9 (.tmp 49) (.tmp 51) 9, _, _, _, _⟩) ?vpe7 rfl rfl (fun _ => rfl) fun ρ X hc hf hgl hX hp ho => ?_; have k49 : ρ (.tmp 49) = ?vpe4 := hp 4 (by decide); have k51 : ρ (.tmp 51) = ?vpe6 := hp 6 (by decide); clear hp ho hX; go_simp; (all_goals try go_bits); (all_goals try simp only [IntWalk.iteOmega]); (all_goals try go_bits); (all_goals rfl)
       · refine stepP 52 7 (?vpe7) ?vpe8 rfl (fun _ _ => rfl) rfl (fun _ => rfl) (by decide) rfl (fun _ _ h => h) ?_; rfl
       · refine stepR (o := ⟨_, .fieldAddr 165 (.tmp 3) 0, _, _, _, _⟩) ?vpe9 rfl rfl (fun _ => rfl) fun ρ X hc hf hgl hX hp ho => ?_; have k3 : ρ (.tmp 3) = .pointer (some ⟨gb, 0, none⟩) := ho 3 (by decide); clear hp ho hX; go_simp; (all_goals rfl)
       · refine stepR (o := ⟨_, .load 3 (.tmp 54), _, _, _, _⟩) ?vpe10 rfl rfl (fun _ => rfl) fun ρ X hc hf hgl hX hp ho => ?_; have k54 : ρ (.tmp 54) = ?vpe9 := hp 9 (by decide); have cX := cXpe X hX; clear hp ho hX; go_simp; (all_goals rfl)
       · refine stepR (o := ⟨_, .binOp .eql 3 (.tmp 55) (.const (.int .i64 2)) 3, _, _, _, _⟩) ?vpe11 rfl rfl (fun _ => rfl) fun ρ X hc hf hgl hX hp ho => ?_; have k55 : ρ (.tmp 55) = ?vpe10 := hp 10 (by decide); clear hp ho hX; go_simp; (all_goals try go_bits); (all_goals try simp only [IntWalk.iteOmega]); (all_goals try go_bits); (all_goals rfl)
       · refine stepR (o := ⟨_, .pick (.tmp 53) (.tmp 56) (.const (.bool false)), _, _, _, _⟩) ?vpe12 rfl rfl (fun _ => rfl) fun ρ X hc hf hgl hX hp ho => ?_; have k53 : ρ (.tmp 53) = ?vpe8 := hp 8 (by decide); have k56 : ρ (.tmp 56) = ?vpe11 := hp 11 (by decide); clear hp ho hX; go_simp; (all_goals rfl)
       · refine stepP 57 12 (?vpe12) ?vpe13 rfl (fun _ _ => rfl) rfl (fun _ => rfl) (by decide) rfl (fun _ _ h => h) ?_; rfl
      case grdpe => rfl
      case rstpe =>
       intro a0 X hb
       have hfr := hb.frame ((44, ?vpe13) :: (45, ?vpe0) :: (46, ?vpe1) :: (47, ?vpe2) :: (48, ?vpe3) :: (49, ?vpe4) :: (50, ?vpe5) :: (51, ?vpe6) :: (52, ?vpe7) :: (53, ?vpe8) :: (54, ?vpe9) :: (55, ?vpe10) :: (56, ?vpe11) :: (57, ?vpe12) :: []) rfl ⟨hb.done' 13 44 rfl rfl, hb.done' 0 45 rfl rfl, hb.done' 1 46 rfl rfl, hb.done' 2 47 rfl rfl, hb.done' 3 48 rfl rfl, hb.done' 4 49 rfl rfl, hb.done' 5 50 rfl rfl, hb.done' 6 51 rfl rfl, hb.done' 7 52 rfl rfl, hb.done' 8 53 rfl rfl, hb.done' 9 54 rfl rfl, hb.done' 10 55 rfl rfl, hb.done' 11 56 rfl rfl, hb.done' 12 57 rfl rfl, trivial⟩
       simp only [updL, ↓reduceIte, Nat.reduceEqDiff, Nat.reduceAdd, Nat.zero_add] at hfr
       have HX := Lib.hid hb.ext
       clear hb cXpe
       subst hfr
       have HXa := HX
       clear HX
       have c0 := HXa.out.cell' Hc0.out
       have c1b := HXa.out.cell' Hcb1.out
       have c2b := HXa.out.cell' Hcb2.out
       have c3b := HXa.out.cell' Hcb0.out
       have HXb := HXa
       go_wp2
       have cXpez := fun X (hX : Grows _ X) => And.intro (Grows.cell' hX c0) (And.intro (Grows.cell' hX c1b) (And.intro (Grows.cell' hX c2b) (Grows.cell' hX c3b)))
       refine specs_region
        #[[], [], [0, 1], [0, 1, 2], [0, 1, 2, 3], [], [5], [0, 1, 2, 3, 4, 5, 6], [0, 1, 2, 3, 4, 5, 6, 7], [0, 1, 2, 3, 4, 5, 6, 7, 8], [0, 1, 2, 3, 4, 5, 6, 7, 8, 9], [0, 1, 2, 3, 4, 5, 6, 7, 8, 9, 10], [0, 1, 2, 3, 4, 5, 6, 7, 8, 9, 10, 11], [0, 1, 2, 3, 4, 5, 6, 7, 8, 9, 10, 11, 12], [0, 1, 2, 3, 4, 5, 6, 7, 8, 9, 10, 11, 12], [0, 1, 2, 3, 4, 5, 6, 7, 8, 9, 10, 11, 12, 13, 14], [0, 1, 2, 3, 4, 5, 6, 7, 8, 9, 10, 11, 12, 13, 14, 15], [0, 1, 2, 3, 4, 5, 6, 7, 8, 9, 10, 11, 12, 13, 14, 15, 16], [0, 1, 2, 3, 4, 5, 6, 7, 8, 9, 10, 11, 12], [0, 1, 2, 3, 4, 5, 6, 7, 8, 9, 10, 11, 12, 18], [0, 1, 2, 3, 4, 5, 6, 7, 8, 9, 10, 11, 12, 13, 14, 15, 16, 17, 18, 19], [0, 1, 2, 3, 4, 5, 6, 7, 8, 9, 10, 11, 12, 13, 14, 15, 16, 17, 18, 19, 20], [0, 1, 2, 3, 4, 5, 6, 7, 8, 9, 10, 11, 12, 13, 14, 15, 16, 17, 18, 19, 20, 21], [0, 1, 2, 3, 4, 5, 6, 7, 8, 9, 10, 11, 12, 13, 14, 15, 16, 17, 18, 19, 20, 21, 22]] #[[0], [6], [], [], [], [3], [], [], [], [3], [], [], [], [0], [6], [], [], [], [3], [], [], [], [], []] #[true, true, true, true, true, true, true, true, true, false, false, false, false, false, false, false, false, false, false, false, false, false, true, true]
        ((.val ?vpez0) :: (.val ?vpez1) :: (.val ?vpez2) :: (.val ?vpez3) :: (.val ?vpez4) :: (.val ?vpez5) :: (.val ?vpez6) :: (.val ?vpez7) :: (.val ?vpez8) :: (.val undef) :: (.val undef) :: (.val undef) :: (.val undef) :: (.val undef) :: (.val undef) :: (.val undef) :: (.val undef) :: (.val undef) :: (.val undef) :: (.val undef) :: (.val undef) :: (.val undef) :: (.val ?vpez22) :: (.val ?vpez23) :: []).toArray
        hmx ?chkpez ?grdpez ?stppez ?rstpez
       case chkpez => rfl
       case stppez =>
        refine ⟨?_, ?_, ?_, ?_, ?_, ?_, ?_, ?_, ?_, ?_, ?_, ?_, ?_, ?_, ?_, ?_, ?_, ?_, ?_, ?_, ?_, ?_, ?_, ?_, trivial⟩
        · refine stepO 0 ?vpez0 rfl (fun _ _ => rfl) rfl (fun _ => rfl) (by decide) ?_; show (.slice (some ⟨g, 0, none⟩) n cap : Value) = _; rfl
        · refine stepO 6 ?vpez1 rfl (fun _ _ => rfl) rfl (fun _ => rfl) (by decide) ?_; show (.int .i64 (i : Int) : Value) = _; rfl
        · refine stepR (o := ⟨_, .indexAddr 71 (.tmp 70) (.tmp 71), _, _, _, _⟩) ?vpez2 rfl rfl (fun _ => rfl) fun ρ X hc hf hgl hX hp ho => ?_; have k70 : ρ (.tmp 70) = ?vpez0 := hp 0 (by decide); have k71 : ρ (.tmp 71) = ?vpez1 := hp 1 (by decide); clear hp ho hX; go_simp; (all_goals try go_bits); (all_goals try simp only [IntWalk.iteOmega]); (all_goals try go_bits); (all_goals rfl)
        · refine stepR (o := ⟨_, .fieldAddr 134 (.tmp 72) 0, _, _, _, _⟩) ?vpez3 rfl rfl (fun _ => rfl) fun ρ X hc hf hgl hX hp ho => ?_; have k72 : ρ (.tmp 72) = ?vpez2 := hp 2 (by decide); clear hp ho hX; go_simp; (all_goals rfl)
        · refine stepR (o := ⟨_, .load 9 (.tmp 73), _, _, _, _⟩) ?vpez4 rfl rfl (fun _ => rfl) fun ρ X hc hf hgl hX hp ho => ?_; have k73 : ρ (.tmp 73) = ?vpez3 := hp 3 (by decide); have cX := cXpez X hX; clear hp ho hX; go_simp; (all_goals rfl)
        · refine stepR (o := ⟨_, .fieldAddr 165 (.tmp 3) 1, _, _, _, _⟩) ?vpez5 rfl rfl (fun _ => rfl) fun ρ X hc hf hgl hX hp ho => ?_; have k3 : ρ (.tmp 3) = .pointer (some ⟨gb, 0, none⟩) := ho 3 (by decide); clear hp ho hX; go_simp; (all_goals rfl)
        · refine stepR (o := ⟨_, .load 9 (.tmp 75), _, _, _, _⟩) ?vpez6 rfl rfl (fun _ => rfl) fun ρ X hc hf hgl hX hp ho => ?_; have k75 : ρ (.tmp 75) = ?vpez5 := hp 5 (by decide); have cX := cXpez X hX; clear hp ho hX; go_simp; (all_goals rfl)
        · refine stepR (o := ⟨_, .binOp .eql 9 (.tmp 74) (.tmp 76) 9, _, _, _, _⟩) ?vpez7 rfl rfl (fun _ => rfl) fun ρ X hc hf hgl hX hp ho => ?_; have k74 : ρ (.tmp 74) = ?vpez4 := hp 4 (by decide); have k76 : ρ (.tmp 76) = ?vpez6 := hp 6 (by decide); clear hp ho hX; go_simp; (all_goals try go_bits); (all_goals try simp only [IntWalk.iteOmega]); (all_goals try go_bits); (all_goals rfl)
        · refine stepP 77 7 (?vpez7) ?vpez8 rfl (fun _ _ => rfl) rfl (fun _ => rfl) (by decide) rfl (fun _ _ h => h) ?_; rfl
        · exact step_skip rfl rfl (fun _ _ => rfl)
        · exact step_skip rfl rfl (fun _ _ => rfl)
        · exact step_skip rfl rfl (fun _ _ => rfl)
        · exact step_skip rfl rfl (fun _ _ => rfl)
        · exact step_skip rfl rfl (fun _ _ => rfl)
        · exact step_skip rfl rfl (fun _ _ => rfl)
        · exact step_skip rfl rfl (fun _ _ => rfl)
        · exact step_skip rfl rfl (fun _ _ => rfl)
        · exact step_skip rfl rfl (fun _ _ => rfl)
        · exact step_skip rfl rfl (fun _ _ => rfl)
        · exact step_skip rfl rfl (fun _ _ => rfl)
        · exact step_skip rfl rfl (fun _ _ => rfl)
        · exact step_skip rfl rfl (fun _ _ => rfl)
        · refine stepR (o := ⟨_, .pick (.tmp 78) (.const (.bool true)) (.tmp 91), _, _, _, _⟩) ?vpez22 rfl rfl (fun _ => rfl) fun ρ X hc hf hgl hX hp ho => ?_; have k78 : ρ (.tmp 78) = ?vpez8 := hp 8 (by decide); have k91 : ρ (.tmp 91) = undef := hp 21 (by decide); clear hp ho hX; go_simp; (all_goals rfl)
        · refine stepP 92 22 (?vpez22) ?vpez23 rfl (fun _ _ => rfl) rfl (fun _ => rfl) (by decide) rfl (fun _ _ h => h) ?_; rfl
       case grdpez => rfl
       case rstpez =>
        intro a0 X hb
        have hfr := hb.frame ((69, ?vpez23) :: (70, ?vpez0) :: (71, ?vpez1) :: (72, ?vpez2) :: (73, ?vpez3) :: (74, ?vpez4) :: (75, ?vpez5) :: (76, ?vpez6) :: (77, ?vpez7) :: (78, ?vpez8) :: (79, undef) :: (80, undef) :: (81, undef) :: (82, undef) :: (83, undef) :: (84, undef) :: (85, undef) :: (86, undef) :: (87, undef) :: (88, undef) :: (89, undef) :: (90, undef) :: (91, undef) :: (92, ?vpez22) :: []) rfl ⟨hb.done' 23 69 rfl rfl, hb.done' 0 70 rfl rfl, hb.done' 1 71 rfl rfl, hb.done' 2 72 rfl rfl, hb.done' 3 73 rfl rfl, hb.done' 4 74 rfl rfl, hb.done' 5 75 rfl rfl, hb.done' 6 76 rfl rfl, hb.done' 7 77 rfl rfl, hb.done' 8 78 rfl rfl, hb.done' 9 79 rfl rfl, hb.done' 10 80 rfl rfl, hb.done' 11 81 rfl rfl, hb.done' 12 82 rfl rfl, hb.done' 13 83 rfl rfl, hb.done' 14 84 rfl rfl, hb.done' 15 85 rfl rfl, hb.done' 16 86 rfl rfl, hb.done' 17 87 rfl rfl, hb.done' 18 88 rfl rfl, hb.done' 19 89 rfl rfl, hb.done' 20 90 rfl rfl, hb.done' 21 91 rfl rfl, hb.done' 22 92 rfl rfl, trivial⟩
        simp only [updL, ↓reduceIte, Nat.reduceEqDiff, Nat.reduceAdd, Nat.zero_add] at hfr
        have HX := Lib.hid hb.ext
        clear hb cXpez
        subst hfr
        have HXa := Lib.hid (Grows.trans' HXb.out HX.out)
        clear HX HXb c0 c1b c2b c3b
        have Hown6 : Hid (X.ownsRow 0 134 2 u5 ((l.take (i + 1)).flatMap (chgE ⟨kd, ca, cb, ci⟩)).length (((l.take (i + 1)).flatMap (chgE ⟨kd, ca, cb, ci⟩)).flatMap entC)) := by
         show World.ownsRow _ _ _ _ _ _ _
         rw [Hsn.out, List.append_nil, H5.out.1, H5.out.2]
         exact own_grows Ho5.out HXa.out
        have HX6 : Hid (Below wb.heap.size wb X) := Below.trans HB.out (Below.mono HXa.out HB.out.size)
        go_wp2
        go_roundw
        case rel => exact ⟨i + 1, Hi.out, by simp, Hown6.out, Hat.out, HX6.out⟩
        case measure => have := Hi.out; simp [intOf]; omega
    · rw [decide_eq_false hea] at hna
      have Hsn : Hid ((l.take (i + 1)).flatMap (chgE ⟨kd, ca, cb, ci⟩) = (l.take i).flatMap (chgE ⟨kd, ca, cb, ci⟩) ++ [(nm, id)]) := by
       show _ = _
       rw [hsn]
       unfold chgE
       rw [if_neg (fun h => hea h.1), if_neg (fun h => by rcases h with h | h; exact hea h; exact Hkd.out h.1)]
      clear hsn hnb2
      go_wp2
      have cXph := fun X (hX : Grows _ X) => And.intro (Grows.cell' hX c0) (And.intro (Grows.cell' hX c1b) (And.intro (Grows.cell' hX c2b) (Grows.cell' hX c3b)))
      refine specs_region
       #[[], [], [0, 1], [0, 1, 2], [0, 1, 2, 3], [], [5], [0, 1, 2, 3, 4, 5, 6], [0, 1, 2, 3, 4, 5, 6, 7], [0, 1, 2, 3, 4, 5, 6, 7, 8], [0, 1, 2, 3, 4, 5, 6, 7, 8, 9], [0, 1, 2, 3, 4, 5, 6, 7, 8, 9, 10], [0, 1, 2, 3, 4, 5, 6, 7, 8, 9, 10, 11], [0, 1, 2, 3, 4, 5, 6, 7, 8, 9, 10, 11, 12]] #[[0], [6], [], [], [], [3], [], [], [], [3], [], [], [], []] #[true, true, true, true, true, true, true, true, true, false, false, false, true, true]
       ((.val ?vph0) :: (.val ?vph1) :: (.val ?vph2) :: (.val ?vph3) :: (.val ?vph4) :: (.val ?vph5) :: (.val ?vph6) :: (.val ?vph7) :: (.val ?vph8) :: (.val undef) :: (.val undef) :: (.val undef) :: (.val ?vph12) :: (.val ?vph13) :: []).toArray
       hmx ?chkph ?grdph ?stpph ?rstph
      case chkph => rfl
      case stpph =>
       refine ⟨?_, ?_, ?_, ?_, ?_, ?_, ?_, ?_, ?_, ?_, ?_, ?_, ?_, ?_, trivial⟩
       · refine stepO 0 ?vph0 rfl (fun _ _ => rfl) rfl (fun _ => rfl) (by decide) ?_; show (.slice (some ⟨g, 0, none⟩) n cap : Value) = _; rfl
       · refine stepO 6 ?vph1 rfl (fun _ _ => rfl) rfl (fun _ => rfl) (by decide) ?_; show (.int .i64 (i : Int) : Value) = _; rfl
       · refine stepR (o := ⟨_, .indexAddr 71 (.tmp 45) (.tmp 46), _, _, _, _⟩) ?vph2 rfl rfl (fun _ => rfl) fun ρ X hc hf hgl hX hp ho => ?_; have k45 : ρ (.tmp 45) = ?vph0 := hp 0 (by decide); have k46 : ρ (.tmp 46) = ?vph1 := hp 1 (by decide); clear hp ho hX; go_simp; (all_goals try go_bits); (all_goals try simp only [IntWalk.iteOmega]); (all_goals try go_bits); (all_goals rfl)
       · refine stepR (o := ⟨_, .fieldAddr 134 (.tmp 47) 0, _, _, _, _⟩) ?vph3 rfl rfl (fun _ => rfl) fun ρ X hc hf hgl hX hp ho => ?_; have k47 : ρ (.tmp 47) = ?vph2 := hp 2 (by decide); clear hp ho hX; go_simp; (all_goals rfl)
       · refine stepR (o := ⟨_, .load 9 (.tmp 48), _, _, _, _⟩) ?vph4 rfl rfl (fun _ => rfl) fun ρ X hc hf hgl hX hp ho => ?_; have k48 : ρ (.tmp 48) = ?vph3 := hp 3 (by decide); have cX := cXph X hX; clear hp ho hX; go_simp; (all_goals rfl)
       · refine stepR (o := ⟨_, .fieldAddr 165 (.tmp 3) 1, _, _, _, _⟩) ?vph5 rfl rfl (fun _ => rfl) fun ρ X hc hf hgl hX hp ho => ?_; have k3 : ρ (.tmp 3) = .pointer (some ⟨gb, 0, none⟩) := ho 3 (by decide); clear hp ho hX; go_simp; (all_goals rfl)
       · refine stepR (o := ⟨_, .load 9 (.tmp 50), _, _, _, _⟩) ?vph6 rfl rfl (fun _ => rfl) fun ρ X hc hf hgl hX hp ho => ?_; have k50 : ρ (.tmp 50) = ?vph5 := hp 5 (by decide); have cX := cXph X hX; clear hp ho hX; go_simp; (all_goals rfl)
       · refine stepR (o := ⟨_, .binOp .eql 9 (.tmp 49) (.tmp 51) 9, _, _, _, _⟩) ?vph7 rfl rfl (fun _ => rfl) fun ρ X hc hf hgl hX hp ho => ?_; have k49 : ρ (.tmp 49) = ?vph4 := hp 4 (by decide); have k51 : ρ (.tmp 51) = ?vph6 := hp 6 (by decide); clear hp ho hX; go_simp; (all_goals try go_bits); (all_goals try simp only [IntWalk.iteOmega]); (all_goals try go_bits); (all_goals rfl)
       · refine stepP 52 7 (?vph7) ?vph8 rfl (fun _ _ => rfl) rfl (fun _ => rfl) (by decide) rfl (fun _ _ h => h) ?_; rfl
       · exact step_skip rfl rfl (fun _ _ => rfl)
       · exact step_skip rfl rfl (fun _ _ => rfl)
       · exact step_skip rfl rfl (fun _ _ => rfl)
       · refine stepR (o := ⟨_, .pick (.tmp 53) (.tmp 56) (.const (.bool false)), _, _, _, _⟩) ?vph12 rfl rfl (fun _ => rfl) fun ρ X hc hf hgl hX hp ho => ?_; have k53 : ρ (.tmp 53) = ?vph8 := hp 8 (by decide); have k56 : ρ (.tmp 56) = undef := hp 11 (by decide); clear hp ho hX; go_simp; (all_goals rfl)
       · refine stepP 57 12 (?vph12) ?vph13 rfl (fun _ _ => rfl) rfl (fun _ => rfl) (by decide) rfl (fun _ _ h => h) ?_; rfl
      case grdph => rfl
      case rstph =>
       intro a0 X hb
       have hfr := hb.frame ((44, ?vph13) :: (45, ?vph0) :: (46, ?vph1) :: (47, ?vph2) :: (48, ?vph3) :: (49, ?vph4) :: (50, ?vph5) :: (51, ?vph6) :: (52, ?vph7) :: (53, ?vph8) :: (54, undef) :: (55, undef) :: (56, undef) :: (57, ?vph12) :: []) rfl ⟨hb.done' 13 44 rfl rfl, hb.done' 0 45 rfl rfl, hb.done' 1 46 rfl rfl, hb.done' 2 47 rfl rfl, hb.done' 3 48 rfl rfl, hb.done' 4 49 rfl rfl, hb.done' 5 50 rfl rfl, hb.done' 6 51 rfl rfl, hb.done' 7 52 rfl rfl, hb.done' 8 53 rfl rfl, hb.done' 9 54 rfl rfl, hb.done' 10 55 rfl rfl, hb.done' 11 56 rfl rfl, hb.done' 12 57 rfl rfl, trivial⟩
       simp only [updL, ↓reduceIte, Nat.reduceEqDiff, Nat.reduceAdd, Nat.zero_add] at hfr
       have HX := Lib.hid hb.ext
       clear hb cXph
       subst hfr
       have HXa := HX
       clear HX
       have c0 := HXa.out.cell' Hc0.out
       have c1b := HXa.out.cell' Hcb1.out
       have c2b := HXa.out.cell' Hcb2.out
       have c3b := HXa.out.cell' Hcb0.out
       have HXb := HXa
       go_wp2
       have cXphz := fun X (hX : Grows _ X) => And.intro (Grows.cell' hX c0) (And.intro (Grows.cell' hX c1b) (And.intro (Grows.cell' hX c2b) (Grows.cell' hX c3b)))
       refine specs_region
        #[[], [], [0, 1], [0, 1, 2], [0, 1, 2, 3], [], [5], [0, 1, 2, 3, 4, 5, 6], [0, 1, 2, 3, 4, 5, 6, 7], [0, 1, 2, 3, 4, 5, 6, 7, 8], [0, 1, 2, 3, 4, 5, 6, 7, 8, 9], [0, 1, 2, 3, 4, 5, 6, 7, 8, 9, 10], [0, 1, 2, 3, 4, 5, 6, 7, 8, 9, 10, 11], [0, 1, 2, 3, 4, 5, 6, 7, 8, 9, 10, 11, 12], [0, 1, 2, 3, 4, 5, 6, 7, 8, 9, 10, 11, 12], [0, 1, 2, 3, 4, 5, 6, 7, 8, 9, 10, 11, 12, 13, 14], [0, 1, 2, 3, 4, 5, 6, 7, 8, 9, 10, 11, 12, 13, 14, 15], [0, 1, 2, 3, 4, 5, 6, 7, 8, 9, 10, 11, 12, 13, 14, 15, 16], [0, 1, 2, 3, 4, 5, 6, 7, 8, 9, 10, 11, 12], [0, 1, 2, 3, 4, 5, 6, 7, 8, 9, 10, 11, 12, 18], [0, 1, 2, 3, 4, 5, 6, 7, 8, 9, 10, 11, 12, 13, 14, 15, 16, 17, 18, 19], [0, 1, 2, 3, 4, 5, 6, 7, 8, 9, 10, 11, 12, 13, 14, 15, 16, 17, 18, 19, 20], [0, 1, 2, 3, 4, 5, 6, 7, 8, 9, 10, 11, 12, 13, 14, 15, 16, 17, 18, 19, 20, 21], [0, 1, 2, 3, 4, 5, 6, 7, 8, 9, 10, 11, 12, 13, 14, 15, 16, 17, 18, 19, 20, 21, 22]] #[[0], [6], [], [], [], [3], [], [], [], [3], [], [], [], [0], [6], [], [], [], [3], [], [], [], [], []] #[true, true, true, true, true, true, true, true, true, true, true, true, true, false, false, false, false, false, false, false, false, true, true, true]
        ((.val ?vphz0) :: (.val ?vphz1) :: (.val ?vphz2) :: (.val ?vphz3) :: (.val ?vphz4) :: (.val ?vphz5) :: (.val ?vphz6) :: (.val ?vphz7) :: (.val ?vphz8) :: (.val ?vphz9) :: (.val ?vphz10) :: (.val ?vphz11) :: (.val ?vphz12) :: (.val undef) :: (.val undef) :: (.val undef) :: (.val undef) :: (.val undef) :: (.val undef) :: (.val undef) :: (.val undef) :: (.val ?vphz21) :: (.val ?vphz22) :: (.val ?vphz23) :: []).toArray
        hmx ?chkphz ?grdphz ?stpphz ?rstphz
       case chkphz => rfl
       case stpphz =>
        refine ⟨?_, ?_, ?_, ?_, ?_, ?_, ?_, ?_, ?_, ?_, ?_, ?_, ?_, ?_, ?_, ?_, ?_, ?_, ?_, ?_, ?_, ?_, ?_, ?_, trivial⟩
        · refine stepO 0 ?vphz0 rfl (fun _ _ => rfl) rfl (fun _ => rfl) (by decide) ?_; show (.slice (some ⟨g, 0, none⟩) n cap : Value) = _; rfl
        · refine stepO 6 ?vphz1 rfl (fun _ _ => rfl) rfl (fun _ => rfl) (by decide) ?_; show (.int .i64 (i : Int) : Value) = _; rfl
        · refine stepR (o := ⟨_, .indexAddr 71 (.tmp 70) (.tmp 71), _, _, _, _⟩) ?vphz2 rfl rfl (fun _ => rfl) fun ρ X hc hf hgl hX hp ho => ?_; have k70 : ρ (.tmp 70) = ?vphz0 := hp 0 (by decide); have k71 : ρ (.tmp 71) = ?vphz1 := hp 1 (by decide); clear hp ho hX; go_simp; (all_goals try go_bits); (all_goals try simp only [IntWalk.iteOmega]); (all_goals try go_bits); (all_goals rfl)
        · refine stepR (o := ⟨_, .fieldAddr 134 (.tmp 72) 0, _, _, _, _⟩) ?vphz3 rfl rfl (fun _ => rfl) fun ρ X hc hf hgl hX hp ho => ?_; have k72 : ρ (.tmp 72) = ?vphz2 := hp 2 (by decide); clear hp ho hX; go_simp; (all_goals rfl)
        · refine stepR (o := ⟨_, .load 9 (.tmp 73), _, _, _, _⟩) ?vphz4 rfl rfl (fun _ => rfl) fun ρ X hc hf hgl hX hp ho => ?_; have k73 : ρ (.tmp 73) = ?vphz3 := hp 3 (by decide); have cX := cXphz X hX; clear hp ho hX; go_simp; (all_goals rfl)
        · refine stepR (o := ⟨_, .fieldAddr 165 (.tmp 3) 1, _, _, _, _⟩) ?vphz5 rfl rfl (fun _ => rfl) fun ρ X hc hf hgl hX hp ho => ?_; have k3 : ρ (.tmp 3) = .pointer (some ⟨gb, 0, none⟩) := ho 3 (by decide); clear hp ho hX; go_simp; (all_goals rfl)
        · refine stepR (o := ⟨_, .load 9 (.tmp 75), _, _, _, _⟩) ?vphz6 rfl rfl (fun _ => rfl) fun ρ X hc hf hgl hX hp ho => ?_; have k75 : ρ (.tmp 75) = ?vphz5 := hp 5 (by decide); have cX := cXphz X hX; clear hp ho hX; go_simp; (all_goals rfl)
        · refine stepR (o := ⟨_, .binOp .eql 9 (.tmp 74) (.tmp 76) 9, _, _, _, _⟩) ?vphz7 rfl rfl (fun _ => rfl) fun ρ X hc hf hgl hX hp ho => ?_; have k74 : ρ (.tmp 74) = ?vphz4 := hp 4 (by decide); have k76 : ρ (.tmp 76) = ?vphz6 := hp 6 (by decide); clear hp ho hX; go_simp; (all_goals try go_bits); (all_goals try simp only [IntWalk.iteOmega]); (all_goals try go_bits); (all_goals rfl)
        · refine stepP 77 7 (?vphz7) ?vphz8 rfl (fun _ _ => rfl) rfl (fun _ => rfl) (by decide) rfl (fun _ _ h => h) ?_; rfl
        · refine stepR (o := ⟨_, .fieldAddr 165 (.tmp 3) 0, _, _, _, _⟩) ?vphz9 rfl rfl (fun _ => rfl) fun ρ X hc hf hgl hX hp ho => ?_; have k3 : ρ (.tmp 3) = .pointer (some ⟨gb, 0, none⟩) := ho 3 (by decide); clear hp ho hX; go_simp; (all_goals rfl)
        · refine stepR (o := ⟨_, .load 3 (.tmp 79), _, _, _, _⟩) ?vphz10 rfl rfl (fun _ => rfl) fun ρ X hc hf hgl hX hp ho => ?_; have k79 : ρ (.tmp 79) = ?vphz9 := hp 9 (by decide); have cX := cXphz X hX; clear hp ho hX; go_simp; (all_goals rfl)
        · refine stepR (o := ⟨_, .binOp .eql 3 (.tmp 80) (.const (.int .i64 2)) 3, _, _, _, _⟩) ?vphz11 rfl rfl (fun _ => rfl) fun ρ X hc hf hgl hX hp ho => ?_; have k80 : ρ (.tmp 80) = ?vphz10 := hp 10 (by decide); clear hp ho hX; go_simp; (all_goals try go_bits); (all_goals try simp only [IntWalk.iteOmega]); (all_goals try go_bits); (all_goals rfl)
        · refine stepP 81 11 (?vphz11) ?vphz12 rfl (fun _ _ => rfl) rfl (fun _ => rfl) (by decide) rfl (fun _ _ h => h) ?_; rfl
        · exact step_skip rfl rfl (fun _ _ => rfl)
        · exact step_skip rfl rfl (fun _ _ => rfl)
        · exact step_skip rfl rfl (fun _ _ => rfl)
        · exact step_skip rfl rfl (fun _ _ => rfl)
        · exact step_skip rfl rfl (fun _ _ => rfl)
        · exact step_skip rfl rfl (fun _ _ => rfl)
        · exact step_skip rfl rfl (fun _ _ => rfl)
        · exact step_skip rfl rfl (fun _ _ => rfl)
        · refine stepR (o := ⟨_, .pick (.tmp 82) (.tmp 90) (.const (.bool false)), _, _, _, _⟩) ?vphz21 rfl rfl (fun _ => rfl) fun ρ X hc hf hgl hX hp ho => ?_; have k82 : ρ (.tmp 82) = ?vphz12 := hp 12 (by decide); have k90 : ρ (.tmp 90) = undef := hp 20 (by decide); clear hp ho hX; go_simp; (all_goals rfl)
        · refine stepR (o := ⟨_, .pick (.tmp 78) (.const (.bool true)) (.tmp 91), _, _, _, _⟩) ?vphz22 rfl rfl (fun _ => rfl) fun ρ X hc hf hgl hX hp ho => ?_; have k78 : ρ (.tmp 78) = ?vphz8 := hp 8 (by decide); have k91 : ρ (.tmp 91) = ?vphz21 := hp 21 (by decide); clear hp ho hX; go_simp; (all_goals rfl)
        · refine stepP 92 22 (?vphz22) ?vphz23 rfl (fun _ _ => rfl) rfl (fun _ => rfl) (by decide) rfl (fun _ _ h => h) ?_; rfl
       case grdphz => rfl
       case rstphz =>
        intro a0 X hb
        have hfr := hb.frame ((69, ?vphz23) :: (70, ?vphz0) :: (71, ?vphz1) :: (72, ?vphz2) :: (73, ?vphz3) :: (74, ?vphz4) :: (75, ?vphz5) :: (76, ?vphz6) :: (77, ?vphz7) :: (78, ?vphz8) :: (79, ?vphz9) :: (80, ?vphz10) :: (81, ?vphz11) :: (82, ?vphz12) :: (83, undef) :: (84, undef) :: (85, undef) :: (86, undef) :: (87, undef) :: (88, undef) :: (89, undef) :: (90, undef) :: (91, ?vphz21) :: (92, ?vphz22) :: []) rfl ⟨hb.done' 23 69 rfl rfl, hb.done' 0 70 rfl rfl, hb.done' 1 71 rfl rfl, hb.done' 2 72 rfl rfl, hb.done' 3 73 rfl rfl, hb.done' 4 74 rfl rfl, hb.done' 5 75 rfl rfl, hb.done' 6 76 rfl rfl, hb.done' 7 77 rfl rfl, hb.done' 8 78 rfl rfl, hb.done' 9 79 rfl rfl, hb.done' 10 80 rfl rfl, hb.done' 11 81 rfl rfl, hb.done' 12 82 rfl rfl, hb.done' 13 83 rfl rfl, hb.done' 14 84 rfl rfl, hb.done' 15 85 rfl rfl, hb.done' 16 86 rfl rfl, hb.done' 17 87 rfl rfl, hb.done' 18 88 rfl rfl, hb.done' 19 89 rfl rfl, hb.done' 20 90 rfl rfl, hb.done' 21 91 rfl rfl, hb.done' 22 92 rfl rfl, trivial⟩
        simp only [updL, ↓reduceIte, Nat.reduceEqDiff, Nat.reduceAdd, Nat.zero_add] at hfr
        have HX := Lib.hid hb.ext
        clear hb cXphz
        subst hfr
        have HXa := Lib.hid (Grows.trans' HXb.out HX.out)
        clear HX HXb c0 c1b c2b c3b
        have hcX : ∀ j u, (entC (nm, id))[j]? = some u → X.cell? (Addr.add ⟨g, i * 2, none⟩ j) = some u := fun j u hu => by
         rw [Addr.add_lit]
         match j, hu with
         | 0, hu => have h1 := HXa.out.cell' Hc0.out; simp [entC] at hu; rw [← hu]; exact h1
         | 1, hu => have h1 := HXa.out.cell' Hc1.out; simp [entC] at hu; rw [← hu]; exact h1
         | _ + 2, hu => simp [entC] at hu
        have hoX := own_grows Ho5.out HXa.out
        have hBX := Lib.hid (Below.trans HB.out (Below.mono HXa.out HB.out.size))
        go_wp2_with (first
         | (refine wpList_loadPart rfl 134 _ rfl ⟨g, i * 2, none⟩ rfl (entC (nm, id)) #[sv nm, nv id] rfl _ hcX Tryz.underlying134 rfl infoE_size ?_)
         | (at_builtin; refine wpList_appendx rfl _ _ 71 134 rfl i0 z0 2 24 Tryz.underlying71 hi hz hs2 hb2 hzs (by omega) _ n5 xs5 rfl ?q1 ⟨X.heap.size, 0, none⟩ 1 1 (entC (nm, id)) ?q2 rfl ?q3 (entC_one [(nm, id)]) ?q4 ?q5 ?q6))
        case q1 => exact own_grows hoX (Grows.alloc' _ _)
        case q2 => rfl
        case q3 =>
         intro j u hu
         rw [Addr.add_lit, Nat.zero_add, World.cell?_alloc_at _ _ _ _ rfl]
         simpa [entC, sv, nv] using hu
        case q4 => have := Hn5.out; unfold maxLen; omega
        case q5 => have := Hn5.out; omega
        intro v6 w6 hown6 hgrow6 hat6
        have HX6 : Hid (Below wb.heap.size wb w6) := by
         refine Below.trans hBX.out (Below.trans (Below.mono (Grows.alloc' X _) hBX.out.size) ⟨hgrow6.os, hgrow6.tape, hgrow6.output, hgrow6.size, fun k hk => hgrow6.block k (by have := hBX.out.size; simp; omega) (fun e => ?_)⟩)
         have := Hat.out k (by first | exact e | exact e.symm)
         omega
        have Hat6 : Hid (∀ j, v6.ownBlock = some j → wb.heap.size ≤ j) := fun j hj => by
         rcases hat6 with h | h
         · exact Hat.out j (h.symm.trans hj)
         · rw [hj] at h
           have := Option.some.inj h
           have := hBX.out.size
           simp at this ⊢
           omega
        have Hown6 : Hid (w6.ownsRow 0 134 2 v6 ((l.take (i + 1)).flatMap (chgE ⟨kd, ca, cb, ci⟩)).length (((l.take (i + 1)).flatMap (chgE ⟨kd, ca, cb, ci⟩)).flatMap entC)) := by
         show World.ownsRow _ _ _ _ _ _ _
         rw [Hsn.out, List.length_append, List.flatMap_append, H5.out.1, H5.out.2]
         simpa using hown6
        clear hown6 hgrow6 hat6 hoX hcX
        go_wp2
        go_roundw
        case rel => exact ⟨i + 1, Hi.out, by simp, Hown6.out, Hat6.out, HX6.out⟩
        case measure => have := Hi.out; simp [intOf]; omega
  · have hltI : ¬ (i : Int) < (n : Int) := by omega
    have hil : i = n := by omega
    have Ho5' := Ho5.out
    rw [hil, List.take_of_length_le (by rw [Hn.out]; exact Nat.le_refl _)] at Ho5'
    have Ho6 := Lib.hid Ho5'
    clear Ho5' hil hlt hin
    go_wp2
    go_ret
    exact ⟨_, rfl, by rw [Hr.out]; exact Ho6.out, Below.trans HG1.out (Below.mono HB.out HG1.out.size), .inr fun j hj => Nat.le_trans HG1.out.size (Hat.out j hj)⟩
set_option maxRecDepth 100000 in
set_option maxHeartbeats 8000000 in
theorem refChangeT (v : Value) (l : List (Nm × Nat)) (kd : Nat) (ca cb : Nm) (ci : Nat) (hkt : kd = 2) (hne : ¬ ca = cb) (w : World) (h : EntR w v l) (hn : l.length ≤ 1000000000) :
 Calls Tryz.prog 91 #[v, .agg #[nv kd, sv ca, sv cb, nv ci]] w fun e w' => ∃ v', e = .returned v' ∧ EntR w' v' (chgF l ⟨kd, ca, cb, ci⟩) ∧ Grows w w' ∧ (v'.ownBlock = v.ownBlock ∨ ∀ j, v'.ownBlock = some j → w.heap.size ≤ j) := by
 have hk0 : kd ≠ 0 := by omega
 have hmx : Tryz.prog.follows .mixedOrders = true := by kernel_rfl
 obtain ⟨i0, z0, hi, hz, hs2, hb2, hzs⟩ := infoE_parts
 have H := Lib.hid h
 obtain ⟨a, cap, rfl⟩ := own_form h
 have hg1 := Grows.alloc' w (.cells #[nv kd, sv ca, sv cb, nv ci] 165)
 have h0 := heap_alloc_new w (.cells #[nv kd, sv ca, sv cb, nv ci] 165)
 have hki : ((kd : Int) == 0) = false := by simp; omega
 clear h
 have hk2 : ((kd : Int) == 2) = true := by simp; omega
 have hab : (ca == cb) = false := by simpa using hne
 have Hkd := Lib.hid hkt
 have Hr : Hid (chgF l ⟨kd, ca, cb, ci⟩ = l.flatMap (chgE ⟨kd, ca, cb, ci⟩)) := by show _ = _; unfold chgF; rw [if_neg hk0, if_neg (fun h => hne h.2)]
 have HabF := Lib.hid trivial
 clear hk0 hkt hne
 go_enter Tryz.func91, Tryz.ntmps91
 go_wp2
 have hgn : w.heap.size < (w.alloc (.cells #[nv kd, sv ca, sv cb, nv ci] 165)).heap.size := by simp
 change Code.wp _ _ _ _ (w.alloc (.cells #[nv kd, sv ca, sv cb, nv ci] 165))
 have cb0 : (w.alloc (.cells #[nv kd, sv ca, sv cb, nv ci] 165)).cell? ⟨w.heap.size, 0, none⟩ = some (.int .i64 (kd : Int)) := by rw [cell_of_row _ _ 0 _ _ _ h0]; rfl
 have cb1 : (w.alloc (.cells #[nv kd, sv ca, sv cb, nv ci] 165)).cell? ⟨w.heap.size, 1, none⟩ = some (.string ⟨ca.toArray⟩) := by rw [cell_of_row _ _ 1 _ _ _ h0]; rfl
 have cb2 : (w.alloc (.cells #[nv kd, sv ca, sv cb, nv ci] 165)).cell? ⟨w.heap.size, 2, none⟩ = some (.string ⟨cb.toArray⟩) := by rw [cell_of_row _ _ 2 _ _ _ h0]; rfl
 obtain ⟨gb, hgb⟩ : ∃ n, w.heap.size = n := ⟨_, rfl⟩
 obtain ⟨wb, hwb⟩ : ∃ x, w.alloc (.cells #[nv kd, sv ca, sv cb, nv ci] 165) = x := ⟨_, rfl⟩
 rw [hwb] at cb0 cb1 cb2 hg1 hgn ⊢
 rw [hgb] at cb0 cb1 cb2 hgn ⊢
 have H1 := Lib.hid (H.out.grows hg1)
 have HG1 := Lib.hid hg1
 have Hcw0 := Lib.hid cb0
 have Hcw1 := Lib.hid cb1
 have Hcw2 := Lib.hid cb2
 have hnb : ¬ wb.heap.size ≤ gb := by omega
 obtain ⟨n, Hn⟩ : ∃ n, Hid (l.length = n) := ⟨_, rfl⟩
 have hn1 : n ≤ 1000000000 := by rw [← Hn.out]; exact hn
 rw [Hn.out]
 have H1n : Hid (EntR wb (.slice a n cap) l) := by show EntR _ _ _; rw [← Hn.out]; exact H1.out
 clear hwb hgb h0 hg1 hn cb0 cb1 cb2 hgn HabF
 try simp only [nv, sv]
 go_loopw [5, 6] (fun t5 t6 wr => ∃ (i : Nat), i ≤ n ∧ t6 = .int .i64 i ∧ wr.ownsRow 0 134 2 t5 ((l.take i).flatMap (chgE ⟨kd, ca, cb, ci⟩)).length (((l.take i).flatMap (chgE ⟨kd, ca, cb, ci⟩)).flatMap entC) ∧ (∀ j, t5.ownBlock = some j → wb.heap.size ≤ j) ∧ Below wb.heap.size wb wr)
  (fun _ t6 _ => n - (intOf t6).toNat)
 case atStart => exact ⟨0, by omega, rfl, World.ownsRow_nil _ _ _ _, fun j hj => by simp [Value.ownBlock] at hj, Below.refl _ _⟩
 case round =>
  obtain ⟨i, hin, rfl, ho5, hat, hB⟩ := hrel
  have Ho5 := Lib.hid ho5
  have Hat := Lib.hid hat
  have HB := Lib.hid hB
  clear ho5 hat hB
  by_cases hlt : i < n
  · have hltI : (i : Int) < (n : Int) := by omega
    obtain ⟨g, cap', e1⟩ := own_some (H1n.out) (by rw [Hn.out]; omega)
    simp only [Value.slice.injEq] at e1
    obtain ⟨rfl, -, rfl⟩ := e1
    have hil : i < l.length := by rw [Hn.out]; exact hlt
    obtain ⟨nm, hnm⟩ : ∃ x, (l[i]).1 = x := ⟨_, rfl⟩
    obtain ⟨id, hid⟩ : ∃ x, (l[i]).2 = x := ⟨_, rfl⟩
    have Hcw : Hid (wb.cell? ⟨g, i * 2, none⟩ = some (.string ⟨nm.toArray⟩)) := by
     have h := H1n.out.name i hil
     rw [hnm] at h
     exact h
    have Hc0 : Hid (wr.cell? ⟨g, i * 2, none⟩ = some (.string ⟨nm.toArray⟩)) := by
     have h := H1n.out.name i hil
     rw [hnm] at h
     exact (HB.out.cell (p := ⟨g, i * 2, none⟩) (World.block_lt_of_cell? _ _ h)).trans h
    have Hc1 : Hid (wr.cell? ⟨g, i * 2 + 1, none⟩ = some (.int .i64 (id : Int))) := by
     have h := H1n.out.num i hil
     rw [hid] at h
     exact (HB.out.cell (p := ⟨g, i * 2 + 1, none⟩) (World.block_lt_of_cell? _ _ h)).trans h
    have Hcb0 : Hid (wr.cell? ⟨gb, 0, none⟩ = some (.int .i64 (kd : Int))) := (HB.out.cell (p := ⟨gb, 0, none⟩) (World.block_lt_of_cell? _ _ Hcw0.out)).trans Hcw0.out
    have Hcb1 : Hid (wr.cell? ⟨gb, 1, none⟩ = some (.string ⟨ca.toArray⟩)) := (HB.out.cell (p := ⟨gb, 1, none⟩) (World.block_lt_of_cell? _ _ Hcw1.out)).trans Hcw1.out
    have Hcb2 : Hid (wr.cell? ⟨gb, 2, none⟩ = some (.string ⟨cb.toArray⟩)) := (HB.out.cell (p := ⟨gb, 2, none⟩) (World.block_lt_of_cell? _ _ Hcw2.out)).trans Hcw2.out
    have hsn := chg_snoc ⟨kd, ca, cb, ci⟩ l i hil
    have hle : ((l.take i).flatMap (chgE ⟨kd, ca, cb, ci⟩)).length ≤ n := by
     have h1 := chg_len ⟨kd, ca, cb, ci⟩ (l.take i)
     have h2 := List.length_take_le i l
     rw [List.length_take] at h1
     omega
    obtain ⟨n5, hn5⟩ : ∃ x, ((l.take i).flatMap (chgE ⟨kd, ca, cb, ci⟩)).length = x := ⟨_, rfl⟩
    obtain ⟨xs5, hxs5⟩ : ∃ x, ((l.take i).flatMap (chgE ⟨kd, ca, cb, ci⟩)).flatMap entC = x := ⟨_, rfl⟩
    have hx5l : xs5.length = n5 * 2 := by rw [← hxs5, ← hn5]; exact entC_flat _
    have Ho5' := Ho5.out
    rw [hn5, hxs5] at Ho5'
    have Ho5 := Lib.hid Ho5'
    have H5 : Hid (((l.take i).flatMap (chgE ⟨kd, ca, cb, ci⟩)).length = n5 ∧ ((l.take i).flatMap (chgE ⟨kd, ca, cb, ci⟩)).flatMap entC = xs5) := ⟨hn5, hxs5⟩
    have Hn5 : Hid (n5 ≤ 1000000000) := by show _ ≤ _; omega
    have HL : Hid (∀ p ∈ [(n5, xs5), (1, entC (cb, id)), (n5 + 1, xs5 ++ entC (cb, id))], p.1 ≤ n5 ∨ (p.1 ≤ n5 + 1 ∧ p.2 = (xs5 ++ entC (cb, id)).take (p.1 * 2))) := by
     intro p hp
     simp only [List.mem_cons, List.not_mem_nil, or_false] at hp
     rcases hp with rfl | rfl | rfl
     · left; omega
     · rcases Nat.eq_zero_or_pos n5 with h0' | h0'
       · right
         have : xs5 = [] := List.eq_nil_of_length_eq_zero (by rw [hx5l, h0'])
         rw [this]
         exact ⟨by show 1 ≤ n5 + 1; omega, rfl⟩
       · left; show 1 ≤ n5; omega
     · right
       refine ⟨by omega, ?_⟩
       rw [List.take_of_length_le]
       rw [List.length_append, hx5l, entC_len]
       show n5 * 2 + 2 ≤ (n5 + 1) * 2
       omega
    have hsnE : chgE ⟨kd, ca, cb, ci⟩ (l[i]) = chgE ⟨kd, ca, cb, ci⟩ (nm, id) := by rw [← hnm, ← hid]
    rw [hsnE] at hsn
    have Hi := Lib.hid hlt
    have c0 := Hc0.out
    have c1b := Hcb1.out
    have c2b := Hcb2.out
    have c3b := Hcb0.out
    have hbi : ¬ ((n : Int) ≤ (i : Int)) := by omega
    clear hnm hid hle hn5 hxs5 hx5l Ho5' hsnE hil hlt hin
    have hna := str_eq nm ca
    have hnb2 := str_eq nm cb
    by_cases hea : nm = ca
    · rw [decide_eq_true hea] at hna
      have Hsn : Hid ((l.take (i + 1)).flatMap (chgE ⟨kd, ca, cb, ci⟩) = (l.take i).flatMap (chgE ⟨kd, ca, cb, ci⟩) ++ [(cb, id)]) := by
       show _ = _
       rw [hsn]
       unfold chgE
       rw [if_pos ⟨hea, Hkd.out⟩]
      clear hsn hnb2
      go_wp2
      have cXqe := fun X (hX : Grows _ X) => And.intro (Grows.cell' hX c0) (And.intro (Grows.cell' hX c1b) (And.intro (Grows.cell' hX c2b) (Grows.cell' hX c3b)))
      refine specs_region
       #[[], [], [0, 1], [0, 1, 2], [0, 1, 2, 3], [], [5], [0, 1, 2, 3, 4, 5, 6], [0, 1, 2, 3, 4, 5, 6, 7], [0, 1, 2, 3, 4, 5, 6, 7, 8], [0, 1, 2, 3, 4, 5, 6, 7, 8, 9], [0, 1, 2, 3, 4, 5, 6, 7, 8, 9, 10], [0, 1, 2, 3, 4, 5, 6, 7, 8, 9, 10, 11], [0, 1, 2, 3, 4, 5, 6, 7, 8, 9, 10, 11, 12]] #[[0], [6], [], [], [], [3], [], [], [], [3], [], [], [], []] #[true, true, true, true, true, true, true, true, true, true, true, true, true, true]
       ((.val ?vqe0) :: (.val ?vqe1) :: (.val ?vqe2) :: (.val ?vqe3) :: (.val ?vqe4) :: (.val ?vqe5) :: (.val ?vqe6) :: (.val ?vqe7) :: (.val ?vqe8) :: (.val ?vqe9) :: (.val ?vqe10) :: (.val ?vqe11) :: (.val ?vqe12) :: (.val ?vqe13) :: []).toArray
       hmx ?chkqe ?grdqe ?stpqe ?rstqe
      case chkqe => rfl
      case stpqe =>
       refine ⟨?_, ?_, ?_, ?_, ?_, ?_, ?_, ?_, ?_, ?_, ?_, ?_, ?_, ?_, trivial⟩
       · refine stepO 0 ?vqe0 rfl (fun _ _ => rfl) rfl (fun _ => rfl) (by decide) ?_; show (.slice (some ⟨g, 0, none⟩) n cap : Value) = _; rfl
       · refine stepO 6 ?vqe1 rfl (fun _ _ => rfl) rfl (fun _ => rfl) (by decide) ?_; show (.int .i64 (i : Int) : Value) = _; rfl
       · refine stepR (o := ⟨_, .indexAddr 71 (.tmp 45) (.tmp 46), _, _, _, _⟩) ?vqe2 rfl rfl (fun _ => rfl) fun ρ X hc hf hgl hX hp ho => ?_; have k45 : ρ (.tmp 45) = ?vqe0 := hp 0 (by decide); have k46 : ρ (.tmp 46) = ?vqe1 := hp 1 (by decide); clear hp ho hX; go_simp; (all_goals try go_bits); (all_goals try simp only [IntWalk.iteOmega]); (all_goals try go_bits); (all_goals rfl)
       · refine stepR (o := ⟨_, .fieldAddr 134 (.tmp 47) 0, _, _, _, _⟩) ?vqe3 rfl rfl (fun _ => rfl) fun ρ X hc hf hgl hX hp ho => ?_; have k47 : ρ (.tmp 47) = ?vqe2 := hp 2 (by decide); clear hp ho hX; go_simp; (all_goals rfl)
       · refine stepR (o := ⟨_, .load 9 (.tmp 48), _, _, _, _⟩) ?vqe4 rfl rfl (fun _ => rfl) fun ρ X hc hf hgl hX hp ho => ?_; have k48 : ρ (.tmp 48) = ?vqe3 := hp 3 (by decide); have cX := cXqe X hX; clear hp ho hX; go_simp; (all_goals rfl)
       · refine stepR (o := ⟨_, .fieldAddr 165 (.tmp 3) 1, _, _, _, _⟩) ?vqe5 rfl rfl (fun _ => rfl) fun ρ X hc hf hgl hX hp ho => ?_; have k3 : ρ (.tmp 3) = .pointer (some ⟨gb, 0, none⟩) := ho 3 (by decide); clear hp ho hX; go_simp; (all_goals rfl)
       · refine stepR (o := ⟨_, .load 9 (.tmp 50), _, _, _, _⟩) ?vqe6 rfl rfl (fun _ => rfl) fun ρ X hc hf hgl hX hp ho => ?_; have k50 : ρ (.tmp 50) = ?vqe5 := hp 5 (by decide); have cX := cXqe X hX; clear hp ho hX; go_simp; (all_goals rfl)
       · refine stepR (o := ⟨_, .binOp .eql 9 (.tmp 49) (.tmp 51) 9, _, _, _, _⟩) ?vqe7 rfl rfl (fun _ => rfl) fun ρ X hc hf hgl hX hp ho => ?_; have k49 : ρ (.tmp 49) = ?vqe4 := hp 4 (by decide); have k51 : ρ (.tmp 51) = ?vqe6 := hp 6 (by decide); clear hp ho hX; go_simp; (all_goals try go_bits); (all_goals try simp only [IntWalk.iteOmega]); (all_goals try go_bits); (all_goals rfl)
       · refine stepP 52 7 (?vqe7) ?vqe8 rfl (fun _ _ => rfl) rfl (fun _ => rfl) (by decide) rfl (fun _ _ h => h) ?_; rfl
       · refine stepR (o := ⟨_, .fieldAddr 165 (.tmp 3) 0, _, _, _, _⟩) ?vqe9 rfl rfl (fun _ => rfl) fun ρ X hc hf hgl hX hp ho => ?_; have k3 : ρ (.tmp 3) = .pointer (some ⟨gb, 0, none⟩) := ho 3 (by decide); clear hp ho hX; go_simp; (all_goals rfl)
       · refine stepR (o := ⟨_, .load 3 (.tmp 54), _, _, _, _⟩) ?vqe10 rfl rfl (fun _ => rfl) fun ρ X hc hf hgl hX hp ho => ?_; have k54 : ρ (.tmp 54) = ?vqe9 := hp 9 (by decide); have cX := cXqe X hX; clear hp ho hX; go_simp; (all_goals rfl)
       · refine stepR (o := ⟨_, .binOp .eql 3 (.tmp 55) (.const (.int .i64 2)) 3, _, _, _, _⟩) ?vqe11 rfl rfl (fun _ => rfl) fun ρ X hc hf hgl hX hp ho => ?_; have k55 : ρ (.tmp 55) = ?vqe10 := hp 10 (by decide); clear hp ho hX; go_simp; (all_goals try go_bits); (all_goals try simp only [IntWalk.iteOmega]); (all_goals try go_bits); (all_goals rfl)
       · refine stepR (o := ⟨_, .pick (.tmp 53) (.tmp 56) (.const (.bool false)), _, _, _, _⟩) ?vqe12 rfl rfl (fun _ => rfl) fun ρ X hc hf hgl hX hp ho => ?_; have k53 : ρ (.tmp 53) = ?vqe8 := hp 8 (by decide); have k56 : ρ (.tmp 56) = ?vqe11 := hp 11 (by decide); clear hp ho hX; go_simp; (all_goals rfl)
       · refine stepP 57 12 (?vqe12) ?vqe13 rfl (fun _ _ => rfl) rfl (fun _ => rfl) (by decide) rfl (fun _ _ h => h) ?_; rfl
      case grdqe => rfl
      case rstqe =>
       intro a0 X hb
       have hfr := hb.frame ((44, ?vqe13) :: (45, ?vqe0) :: (46, ?vqe1) :: (47, ?vqe2) :: (48, ?vqe3) :: (49, ?vqe4) :: (50, ?vqe5) :: (51, ?vqe6) :: (52, ?vqe7) :: (53, ?vqe8) :: (54, ?vqe9) :: (55, ?vqe10) :: (56, ?vqe11) :: (57, ?vqe12) :: []) rfl ⟨hb.done' 13 44 rfl rfl, hb.done' 0 45 rfl rfl, hb.done' 1 46 rfl rfl, hb.done' 2 47 rfl rfl, hb.done' 3 48 rfl rfl, hb.done' 4 49 rfl rfl, hb.done' 5 50 rfl rfl, hb.done' 6 51 rfl rfl, hb.done' 7 52 rfl rfl, hb.done' 8 53 rfl rfl, hb.done' 9 54 rfl rfl, hb.done' 10 55 rfl rfl, hb.done' 11 56 rfl rfl, hb.done' 12 57 rfl rfl, trivial⟩
       simp only [updL, ↓reduceIte, Nat.reduceEqDiff, Nat.reduceAdd, Nat.zero_add] at hfr
       have HX := Lib.hid hb.ext
       clear hb cXqe
       subst hfr
       have HXa := HX
       have HBa := Lib.hid (Below.trans HB.out (Below.mono HXa.out HB.out.size))
       have Ho5X := Lib.hid (own_grows Ho5.out HXa.out)
       have cb2 := HXa.out.cell' Hcb2.out
       have cid := HXa.out.cell' Hc1.out
       have hng : ¬ wb.heap.size ≤ g := by have := World.block_lt_of_cell? wb _ Hcw.out; simp at this; omega
       have HBs : Hid (wb.heap.size ≤ X.heap.size) := HBa.out.size
       have hX0 := HXa
       obtain ⟨wX, hwX⟩ : ∃ x, X = x := ⟨_, rfl⟩
       rw [hwX] at Ho5X cb2 cid HBa HBs ⊢
       clear hX0 hwX HX c0 c1b c2b c3b
       go_wp2
       have cXqey := fun X (hX : (EApp (fun k => wb.heap.size ≤ k) 134 2 [(n5, xs5), (1, entC (cb, id)), (n5 + 1, xs5 ++ entC (cb, id))]) _ X) => And.intro (hX.but.cell (p := ⟨gb, _, none⟩) hnb cb2) (hX.but.cell (p := ⟨g, _, none⟩) hng cid)
       refine region_K (E := (EApp (fun k => wb.heap.size ≤ k) 134 2 [(n5, xs5), (1, entC (cb, id)), (n5 + 1, xs5 ++ entC (cb, id))])) (EApp.ok (fun k => wb.heap.size ≤ k) 134 2 [(n5, xs5), (1, entC (cb, id)), (n5 + 1, xs5 ++ entC (cb, id))]) EApp.ofGrows
        #[[], [], [1], [], [], [3, 4], [3, 4, 5], [3, 4, 5, 6], [1, 2, 3, 4, 5, 6, 7], [1, 2, 3, 4, 5, 6, 7, 8], [0, 1, 2, 3, 4, 5, 6, 7, 8, 9], [0, 1, 2, 3, 4, 5, 6, 7, 8, 9, 10]] #[[5], [3], [], [0], [6], [], [], [], [], [], [], []] #[true, true, true, true, true, true, true, true, true, true, true, true]
        ((.val ?vqey0) :: (.val ?vqey1) :: (.val ?vqey2) :: (.val ?vqey3) :: (.val ?vqey4) :: (.val ?vqey5) :: (.val ?vqey6) :: (.val ?vqey7) :: (.val ?vqey8) :: (.pred (fun v W => W.ownsRow 0 134 2 v 1 (entC (cb, id)) ∧ ∃ g, v = .slice (some ⟨g, 0, none⟩) 1 1) (fun v a b h ho => ⟨EApp.own (by simp) v a b h ho.1, ho.2⟩)) :: (.pred (fun v W => W.ownsRow 0 134 2 v (n5 + 1) (xs5 ++ entC (cb, id)) ∧ ∀ j, v.ownBlock = some j → wb.heap.size ≤ j) (fun v a b h ho => ⟨EApp.own (by simp) v a b h ho.1, ho.2⟩)) :: (.pred (fun v W => W.ownsRow 0 134 2 v (n5 + 1) (xs5 ++ entC (cb, id)) ∧ ∀ j, v.ownBlock = some j → wb.heap.size ≤ j) (fun v a b h ho => ⟨EApp.own (by simp) v a b h ho.1, ho.2⟩)) :: []).toArray
        (noState [10])
        (fun _ _ _ _ _ _ _ _ => trivial)
        (fun _ _ => trivial)
        hmx ?chkqey rfl ?grdqey ?stpqey ?rstqey
       case chkqey => rfl
       case stpqey =>
        refine ⟨?_, ?_, ?_, ?_, ?_, ?_, ?_, ?_, ?_, ?_, ?_, ?_, trivial⟩
        · refine stepOK 5 ?vqey0 rfl (fun _ _ => rfl) rfl rfl (fun _ => rfl) (by decide) ?_; show (u5 : Value) = _; rfl
        · refine stepRK (o := ⟨_, .fieldAddr 165 (.tmp 3) 2, _, _, _, _⟩) ?vqey1 rfl rfl rfl (fun _ => rfl) fun ρ X hc hf hgl hX hp ho => ?_; have k3 : ρ (.tmp 3) = .pointer (some ⟨gb, 0, none⟩) := ho 3 (by decide); clear hp ho hX; go_simp; (all_goals rfl)
        · refine stepRK (o := ⟨_, .load 9 (.tmp 59), _, _, _, _⟩) ?vqey2 rfl rfl rfl (fun _ => rfl) fun ρ X hc hf hgl hX hp ho => ?_; have k59 : ρ (.tmp 59) = ?vqey1 := hp 1 (by decide); have cX := cXqey X hX; clear hp ho hX; go_simp; (all_goals rfl)
        · refine stepOK 0 ?vqey3 rfl (fun _ _ => rfl) rfl rfl (fun _ => rfl) (by decide) ?_; show (.slice (some ⟨g, 0, none⟩) n cap : Value) = _; rfl
        · refine stepOK 6 ?vqey4 rfl (fun _ _ => rfl) rfl rfl (fun _ => rfl) (by decide) ?_; show (.int .i64 (i : Int) : Value) = _; rfl
        · refine stepRK (o := ⟨_, .indexAddr 71 (.tmp 61) (.tmp 62), _, _, _, _⟩) ?vqey5 rfl rfl rfl (fun _ => rfl) fun ρ X hc hf hgl hX hp ho => ?_; have k61 : ρ (.tmp 61) = ?vqey3 := hp 3 (by decide); have k62 : ρ (.tmp 62) = ?vqey4 := hp 4 (by decide); clear hp ho hX; go_simp; (all_goals try go_bits); (all_goals try simp only [IntWalk.iteOmega]); (all_goals try go_bits); (all_goals rfl)
        · refine stepRK (o := ⟨_, .fieldAddr 134 (.tmp 63) 1, _, _, _, _⟩) ?vqey6 rfl rfl rfl (fun _ => rfl) fun ρ X hc hf hgl hX hp ho => ?_; have k63 : ρ (.tmp 63) = ?vqey5 := hp 5 (by decide); clear hp ho hX; go_simp; (all_goals rfl)
        · refine stepRK (o := ⟨_, .load 3 (.tmp 64), _, _, _, _⟩) ?vqey7 rfl rfl rfl (fun _ => rfl) fun ρ X hc hf hgl hX hp ho => ?_; have k64 : ρ (.tmp 64) = ?vqey6 := hp 6 (by decide); have cX := cXqey X hX; clear hp ho hX; go_simp; (all_goals rfl)
        · refine stepRK (o := ⟨_, .build 134 #[(0, .tmp 60), (1, .tmp 65)], _, _, _, _⟩) ?vqey8 rfl rfl rfl (fun _ => rfl) fun ρ X hc hf hgl hX hp ho => ?_; have k60 : ρ (.tmp 60) = ?vqey2 := hp 2 (by decide); have k65 : ρ (.tmp 65) = ?vqey7 := hp 7 (by decide); clear hp ho hX; go_simp; (all_goals try go_bits); (all_goals try simp only [IntWalk.iteOmega]); (all_goals try go_bits); (all_goals rfl)
        · refine step_introK rfl rfl fun ρ X hc hf hgl hX hp ho hu => ?_
          change StepOk _ ⟨_, .buildSlice 71 1 #[(0, .tmp 66)], _, _, _, _⟩ _ _ _
          have k66 : ρ (.tmp 66) = ?vqey8 := hp 8 (by decide)
          refine stepK_plain (i := 9) rfl ?_
          clear hu
          clear hp ho
          refine StepOk.of_run (v := .slice (some ⟨X.heap.size, 0, none⟩) 1 1) (w' := X.alloc (.cells (entC (cb, id)).toArray 134)) ?_ ⟨⟨⟨rfl, .inr ⟨X.heap.size, 1, _, rfl, Nat.zero_le _, heap_alloc_new X _, Nat.le_refl _, by simp [maxLen], rfl, rfl⟩⟩, _, rfl⟩, Grows.alloc' _ _⟩
          simp [go_sem, execOp, hc, k66, entC]
        · refine step_introK rfl rfl fun ρ X hc hf hgl hX hp ho hu => ?_
          change StepOk _ ⟨_, .call { callee := .builtin .append, args := #[.tmp 58, .tmp 67], argTypes := #[71, 71] }, _, _, _, _⟩ _ _ _
          have k58 : ρ (.tmp 58) = ?vqey0 := hp 0 (by decide)
          have k67 := hp 9 (by decide)
          clear hu
          clear hp ho
          refine stepK_made rfl ?_
          obtain ⟨ho18, g18, e18⟩ := k67
          rw [e18] at ho18
          have ho5X := hX.spared (n5, xs5) (by simp) _ Ho5X.out
          obtain ⟨v', W', hr, ho', hgb', hat, hsp⟩ := run_append_x (P := Tryz.prog) X 71 71 134 i0 z0 2 24 Tryz.underlying71 hi hz hs2 hb2 hzs (by omega) _ n5 xs5 ho5X ⟨g18, 0, none⟩ 1 1 (entC (cb, id)) rfl (ho18.cells (g := g18) rfl) (entC_one [(cb, id)]) (by have := Hn5.out; unfold maxLen; omega) (by have := Hn5.out; omega) [(n5, xs5), (1, entC (cb, id)), (n5 + 1, xs5 ++ entC (cb, id))] HL.out
          refine StepOk.of_run (v := v') (w' := W') ?_ ⟨⟨ho', fun j hj => ?_⟩, ⟨But.grown hgb' (fun j hj => Hat.out j hj), hsp⟩, fun s hs => by simp [noState] at hs⟩
          · simp only [execOp, resolve, invoke, builtin, Sem.run_bind, Sem.run_pure, Result.andThen_ok, List.map_toArray, List.map_cons, List.map_nil, k58, e18, hr]
          · rcases hat with h | h
            · exact Hat.out j (h.symm.trans hj)
            · rw [hj] at h; have := Option.some.inj h; have := hX.but.size; have := HBs.out; omega
        · refine step_introK rfl rfl fun ρ X hc hf hgl hX hp ho hu => ?_
          change StepOk _ ⟨_, .assign (.tmp 68), _, _, _, _⟩ _ _ _
          have k68 := hp 10 (by decide)
          refine stepK_plain (i := 11) rfl ?_
          clear hu
          clear hp ho
          refine StepOk.of_run (v := ρ (.tmp 68)) (w' := X) ?_ ⟨k68, Below.refl _ _⟩
          simp [go_sem, execOp]
       case grdqey => rfl
       case rstqey =>
        intro a0 X hb
        obtain ⟨x5, hx5⟩ : ∃ x, a0.tmps.getD 5 undef = x := ⟨_, rfl⟩
        have p5 := hb.done' 11 5 rfl rfl
        rw [hx5] at p5
        obtain ⟨x67, hx67⟩ : ∃ x, a0.tmps.getD 67 undef = x := ⟨_, rfl⟩
        have p67 := hb.done' 9 67 rfl rfl
        rw [hx67] at p67
        obtain ⟨x68, hx68⟩ : ∃ x, a0.tmps.getD 68 undef = x := ⟨_, rfl⟩
        have p68 := hb.done' 10 68 rfl rfl
        rw [hx68] at p68
        have hfr := hb.frame ((5, x5) :: (58, ?vqey0) :: (59, ?vqey1) :: (60, ?vqey2) :: (61, ?vqey3) :: (62, ?vqey4) :: (63, ?vqey5) :: (64, ?vqey6) :: (65, ?vqey7) :: (66, ?vqey8) :: (67, x67) :: (68, x68) :: []) rfl ⟨hx5, hb.done' 0 58 rfl rfl, hb.done' 1 59 rfl rfl, hb.done' 2 60 rfl rfl, hb.done' 3 61 rfl rfl, hb.done' 4 62 rfl rfl, hb.done' 5 63 rfl rfl, hb.done' 6 64 rfl rfl, hb.done' 7 65 rfl rfl, hb.done' 8 66 rfl rfl, hx67, hx68, trivial⟩
        simp only [updL, ↓reduceIte, Nat.reduceEqDiff, Nat.reduceAdd, Nat.zero_add] at hfr
        have HX := Lib.hid hb.ext
        clear hb cXqey
        subst hfr
        obtain ⟨po, pa⟩ := (show X.ownsRow 0 134 2 x5 (n5 + 1) (xs5 ++ entC (cb, id)) ∧ ∀ j, x5.ownBlock = some j → wb.heap.size ≤ j from p5)
        have Hown6 : Hid (X.ownsRow 0 134 2 x5 ((l.take (i + 1)).flatMap (chgE ⟨kd, ca, cb, ci⟩)).length (((l.take (i + 1)).flatMap (chgE ⟨kd, ca, cb, ci⟩)).flatMap entC)) := by
         show World.ownsRow _ _ _ _ _ _ _
         rw [Hsn.out, List.length_append, List.flatMap_append, H5.out.1, H5.out.2]
         simpa using po
        have Hpa := Lib.hid pa
        have HX6 : Hid (Below wb.heap.size wb X) := Below.trans HBa.out (HX.out.but.below HBa.out.size (fun k hk => hk))
        clear po pa p5 cb2 cid
        go_wp2
        go_roundw
        case rel => exact ⟨i + 1, Hi.out, by simp, Hown6.out, Hpa.out, HX6.out⟩
        case measure => have := Hi.out; simp [intOf]; omega
    · rw [decide_eq_false hea] at hna
      by_cases heb : nm = cb
      · rw [decide_eq_true heb] at hnb2
        have hcc : (cb == ca) = false := by rw [← heb]; exact hna
        have Hsn : Hid ((l.take (i + 1)).flatMap (chgE ⟨kd, ca, cb, ci⟩) = (l.take i).flatMap (chgE ⟨kd, ca, cb, ci⟩) ++ []) := by
         show _ = _
         rw [hsn]
         unfold chgE
         rw [if_neg (fun h => hea h.1), if_pos (.inr ⟨Hkd.out, heb⟩)]
        clear hsn
        go_wp2
        have cXqf := fun X (hX : Grows _ X) => And.intro (Grows.cell' hX c0) (And.intro (Grows.cell' hX c1b) (And.intro (Grows.cell' hX c2b) (Grows.cell' hX c3b)))
        refine specs_region
         #[[], [], [0, 1], [0, 1, 2], [0, 1, 2, 3], [], [5], [0, 1, 2, 3, 4, 5, 6], [0, 1, 2, 3, 4, 5, 6, 7], [0, 1, 2, 3, 4, 5, 6, 7, 8], [0, 1, 2, 3, 4, 5, 6, 7, 8, 9], [0, 1, 2, 3, 4, 5, 6, 7, 8, 9, 10], [0, 1, 2, 3, 4, 5, 6, 7, 8, 9, 10, 11], [0, 1, 2, 3, 4, 5, 6, 7, 8, 9, 10, 11, 12]] #[[0], [6], [], [], [], [3], [], [], [], [3], [], [], [], []] #[true, true, true, true, true, true, true, true, true, false, false, false, true, true]
         ((.val ?vqf0) :: (.val ?vqf1) :: (.val ?vqf2) :: (.val ?vqf3) :: (.val ?vqf4) :: (.val ?vqf5) :: (.val ?vqf6) :: (.val ?vqf7) :: (.val ?vqf8) :: (.val undef) :: (.val undef) :: (.val undef) :: (.val ?vqf12) :: (.val ?vqf13) :: []).toArray
         hmx ?chkqf ?grdqf ?stpqf ?rstqf
        case chkqf => rfl
        case stpqf =>
         refine ⟨?_, ?_, ?_, ?_, ?_, ?_, ?_, ?_, ?_, ?_, ?_, ?_, ?_, ?_, trivial⟩
         · refine stepO 0 ?vqf0 rfl (fun _ _ => rfl) rfl (fun _ => rfl) (by decide) ?_; show (.slice (some ⟨g, 0, none⟩) n cap : Value) = _; rfl
         · refine stepO 6 ?vqf1 rfl (fun _ _ => rfl) rfl (fun _ => rfl) (by decide) ?_; show (.int .i64 (i : Int) : Value) = _; rfl
         · refine stepR (o := ⟨_, .indexAddr 71 (.tmp 45) (.tmp 46), _, _, _, _⟩) ?vqf2 rfl rfl (fun _ => rfl) fun ρ X hc hf hgl hX hp ho => ?_; have k45 : ρ (.tmp 45) = ?vqf0 := hp 0 (by decide); have k46 : ρ (.tmp 46) = ?vqf1 := hp 1 (by decide); clear hp ho hX; go_simp; (all_goals try go_bits); (all_goals try simp only [IntWalk.iteOmega]); (all_goals try go_bits); (all_goals rfl)
         · refine stepR (o := ⟨_, .fieldAddr 134 (.tmp 47) 0, _, _, _, _⟩) ?vqf3 rfl rfl (fun _ => rfl) fun ρ X hc hf hgl hX hp ho => ?_; have k47 : ρ (.tmp 47) = ?vqf2 := hp 2 (by decide); clear hp ho hX; go_simp; (all_goals rfl)
         · refine stepR (o := ⟨_, .load 9 (.tmp 48), _, _, _, _⟩) ?vqf4 rfl rfl (fun _ => rfl) fun ρ X hc hf hgl hX hp ho => ?_; have k48 : ρ (.tmp 48) = ?vqf3 := hp 3 (by decide); have cX := cXqf X hX; clear hp ho hX; go_simp; (all_goals rfl)
         · refine stepR (o := ⟨_, .fieldAddr 165 (.tmp 3) 1, _, _, _, _⟩) ?vqf5 rfl rfl (fun _ => rfl) fun ρ X hc hf hgl hX hp ho => ?_; have k3 : ρ (.tmp 3) = .pointer (some ⟨gb, 0, none⟩) := ho 3 (by decide); clear hp ho hX; go_simp; (all_goals rfl)
         · refine stepR (o := ⟨_, .load 9 (.tmp 50), _, _, _, _⟩) ?vqf6 rfl rfl (fun _ => rfl) fun ρ X hc hf hgl hX hp ho => ?_; have k50 : ρ (.tmp 50) = ?vqf5 := hp 5 (by decide); have cX := cXqf X hX; clear hp ho hX; go_simp; (all_goals rfl)
         · refine stepR (o := ⟨_, .binOp .eql 9 (.tmp 49) (.tmp 51) 9, _, _, _, _⟩) ?vqf7 rfl rfl (fun _ => rfl) fun ρ X hc hf hgl hX hp ho => ?_; have k49 : ρ (.tmp 49) = ?vqf4 := hp 4 (by decide); have k51 : ρ (.tmp 51) = ?vqf6 := hp 6 (by decide); clear hp ho hX; go_simp; (all_goals try go_bits); (all_goals try simp only [IntWalk.iteOmega]); (all_goals try go_bits); (all_goals rfl)
         · refine stepP 52 7 (?vqf7) ?vqf8 rfl (fun _ _ => rfl) rfl (fun _ => rfl) (by decide) rfl (fun _ _ h => h) ?_; rfl
         · exact step_skip rfl rfl (fun _ _ => rfl)
         · exact step_skip rfl rfl (fun _ _ => rfl)
         · exact step_skip rfl rfl (fun _ _ => rfl)
         · refine stepR (o := ⟨_, .pick (.tmp 53) (.tmp 56) (.const (.bool false)), _, _, _, _⟩) ?vqf12 rfl rfl (fun _ => rfl) fun ρ X hc hf hgl hX hp ho => ?_; have k53 : ρ (.tmp 53) = ?vqf8 := hp 8 (by decide); have k56 : ρ (.tmp 56) = undef := hp 11 (by decide); clear hp ho hX; go_simp; (all_goals rfl)
         · refine stepP 57 12 (?vqf12) ?vqf13 rfl (fun _ _ => rfl) rfl (fun _ => rfl) (by decide) rfl (fun _ _ h => h) ?_; rfl
        case grdqf => rfl
        case rstqf =>
         intro a0 X hb
         have hfr := hb.frame ((44, ?vqf13) :: (45, ?vqf0) :: (46, ?vqf1) :: (47, ?vqf2) :: (48, ?vqf3) :: (49, ?vqf4) :: (50, ?vqf5) :: (51, ?vqf6) :: (52, ?vqf7) :: (53, ?vqf8) :: (54, undef) :: (55, undef) :: (56, undef) :: (57, ?vqf12) :: []) rfl ⟨hb.done' 13 44 rfl rfl, hb.done' 0 45 rfl rfl, hb.done' 1 46 rfl rfl, hb.done' 2 47 rfl rfl, hb.done' 3 48 rfl rfl, hb.done' 4 49 rfl rfl, hb.done' 5 50 rfl rfl, hb.done' 6 51 rfl rfl, hb.done' 7 52 rfl rfl, hb.done' 8 53 rfl rfl, hb.done' 9 54 rfl rfl, hb.done' 10 55 rfl rfl, hb.done' 11 56 rfl rfl, hb.done' 12 57 rfl rfl, trivial⟩
         simp only [updL, ↓reduceIte, Nat.reduceEqDiff, Nat.reduceAdd, Nat.zero_add] at hfr
         have HX := Lib.hid hb.ext
         clear hb cXqf
         subst hfr
         have HXa := HX
         clear HX
         have c0 := HXa.out.cell' Hc0.out
         have c1b := HXa.out.cell' Hcb1.out
         have c2b := HXa.out.cell' Hcb2.out
         have c3b := HXa.out.cell' Hcb0.out
         have HXb := HXa
         go_wp2
         have cXqfz := fun X (hX : Grows _ X) => And.intro (Grows.cell' hX c0) (And.intro (Grows.cell' hX c1b) (And.intro (Grows.cell' hX c2b) (Grows.cell' hX c3b)))
         refine specs_region
          #[[], [], [0, 1], [0, 1, 2], [0, 1, 2, 3], [], [5], [0, 1, 2, 3, 4, 5, 6], [0, 1, 2, 3, 4, 5, 6, 7], [0, 1, 2, 3, 4, 5, 6, 7, 8], [0, 1, 2, 3, 4, 5, 6, 7, 8, 9], [0, 1, 2, 3, 4, 5, 6, 7, 8, 9, 10], [0, 1, 2, 3, 4, 5, 6, 7, 8, 9, 10, 11], [0, 1, 2, 3, 4, 5, 6, 7, 8, 9, 10, 11, 12], [0, 1, 2, 3, 4, 5, 6, 7, 8, 9, 10, 11, 12], [0, 1, 2, 3, 4, 5, 6, 7, 8, 9, 10, 11, 12, 13, 14], [0, 1, 2, 3, 4, 5, 6, 7, 8, 9, 10, 11, 12, 13, 14, 15], [0, 1, 2, 3, 4, 5, 6, 7, 8, 9, 10, 11, 12, 13, 14, 15, 16], [0, 1, 2, 3, 4, 5, 6, 7, 8, 9, 10, 11, 12], [0, 1, 2, 3, 4, 5, 6, 7, 8, 9, 10, 11, 12, 18], [0, 1, 2, 3, 4, 5, 6, 7, 8, 9, 10, 11, 12, 13, 14, 15, 16, 17, 18, 19], [0, 1, 2, 3, 4, 5, 6, 7, 8, 9, 10, 11, 12, 13, 14, 15, 16, 17, 18, 19, 20], [0, 1, 2, 3, 4, 5, 6, 7, 8, 9, 10, 11, 12, 13, 14, 15, 16, 17, 18, 19, 20, 21], [0, 1, 2, 3, 4, 5, 6, 7, 8, 9, 10, 11, 12, 13, 14, 15, 16, 17, 18, 19, 20, 21, 22]] #[[0], [6], [], [], [], [3], [], [], [], [3], [], [], [], [0], [6], [], [], [], [3], [], [], [], [], []] #[true, true, true, true, true, true, true, true, true, true, true, true, true, true, true, true, true, true, true, true, true, true, true, true]
          ((.val ?vqfz0) :: (.val ?vqfz1) :: (.val ?vqfz2) :: (.val ?vqfz3) :: (.val ?vqfz4) :: (.val ?vqfz5) :: (.val ?vqfz6) :: (.val ?vqfz7) :: (.val ?vqfz8) :: (.val ?vqfz9) :: (.val ?vqfz10) :: (.val ?vqfz11) :: (.val ?vqfz12) :: (.val ?vqfz13) :: (.val ?vqfz14) :: (.val ?vqfz15) :: (.val ?vqfz16) :: (.val ?vqfz17) :: (.val ?vqfz18) :: (.val ?vqfz19) :: (.val ?vqfz20) :: (.val ?vqfz21) :: (.val ?vqfz22) :: (.val ?vqfz23) :: []).toArray
          hmx ?chkqfz ?grdqfz ?stpqfz ?rstqfz
         case chkqfz => rfl
         case stpqfz =>
          refine ⟨?_, ?_, ?_, ?_, ?_, ?_, ?_, ?_, ?_, ?_, ?_, ?_, ?_, ?_, ?_, ?_, ?_, ?_, ?_, ?_, ?_, ?_, ?_, ?_, trivial⟩
          · refine stepO 0 ?vqfz0 rfl (fun _ _ => rfl) rfl (fun _ => rfl) (by decide) ?_; show (.slice (some ⟨g, 0, none⟩) n cap : Value) = _; rfl
          · refine stepO 6 ?vqfz1 rfl (fun _ _ => rfl) rfl (fun _ => rfl) (by decide) ?_; show (.int .i64 (i : Int) : Value) = _; rfl
          · refine stepR (o := ⟨_, .indexAddr 71 (.tmp 70) (.tmp 71), _, _, _, _⟩) ?vqfz2 rfl rfl (fun _ => rfl) fun ρ X hc hf hgl hX hp ho => ?_; have k70 : ρ (.tmp 70) = ?vqfz0 := hp 0 (by decide); have k71 : ρ (.tmp 71) = ?vqfz1 := hp 1 (by decide); clear hp ho hX; go_simp; (all_goals try go_bits); (all_goals try simp only [IntWalk.iteOmega]); (all_goals try go_bits); (all_goals rfl)
          · refine stepR (o := ⟨_, .fieldAddr 134 (.tmp 72) 0, _, _, _, _⟩) ?vqfz3 rfl rfl (fun _ => rfl) fun ρ X hc hf hgl hX hp ho => ?_; have k72 : ρ (.tmp 72) = ?vqfz2 := hp 2 (by decide); clear hp ho hX; go_simp; (all_goals rfl)
          · refine stepR (o := ⟨_, .load 9 (.tmp 73), _, _, _, _⟩) ?vqfz4 rfl rfl (fun _ => rfl) fun ρ X hc hf hgl hX hp ho => ?_; have k73 : ρ (.tmp 73) = ?vqfz3 := hp 3 (by decide); have cX := cXqfz X hX; clear hp ho hX; go_simp; (all_goals rfl)
          · refine stepR (o := ⟨_, .fieldAddr 165 (.tmp 3) 1, _, _, _, _⟩) ?vqfz5 rfl rfl (fun _ => rfl) fun ρ X hc hf hgl hX hp ho => ?_; have k3 : ρ (.tmp 3) = .pointer (some ⟨gb, 0, none⟩) := ho 3 (by decide); clear hp ho hX; go_simp; (all_goals rfl)
          · refine stepR (o := ⟨_, .load 9 (.tmp 75), _, _, _, _⟩) ?vqfz6 rfl rfl (fun _ => rfl) fun ρ X hc hf hgl hX hp ho => ?_; have k75 : ρ (.tmp 75) = ?vqfz5 := hp 5 (by decide); have cX := cXqfz X hX; clear hp ho hX; go_simp; (all_goals rfl)
          · refine stepR (o := ⟨_, .binOp .eql 9 (.tmp 74) (.tmp 76) 9, _, _, _, _⟩) ?vqfz7 rfl rfl (fun _ => rfl) fun ρ X hc hf hgl hX hp ho => ?_; have k74 : ρ (.tmp 74) = ?vqfz4 := hp 4 (by decide); have k76 : ρ (.tmp 76) = ?vqfz6 := hp 6 (by decide); clear hp ho hX; go_simp; (all_goals try go_bits); (all_goals try simp only [IntWalk.iteOmega]); (all_goals try go_bits); (all_goals rfl)
          · refine stepP 77 7 (?vqfz7) ?vqfz8 rfl (fun _ _ => rfl) rfl (fun _ => rfl) (by decide) rfl (fun _ _ h => h) ?_; rfl
          · refine stepR (o := ⟨_, .fieldAddr 165 (.tmp 3) 0, _, _, _, _⟩) ?vqfz9 rfl rfl (fun _ => rfl) fun ρ X hc hf hgl hX hp ho => ?_; have k3 : ρ (.tmp 3) = .pointer (some ⟨gb, 0, none⟩) := ho 3 (by decide); clear hp ho hX; go_simp; (all_goals rfl)
          · refine stepR (o := ⟨_, .load 3 (.tmp 79), _, _, _, _⟩) ?vqfz10 rfl rfl (fun _ => rfl) fun ρ X hc hf hgl hX hp ho => ?_; have k79 : ρ (.tmp 79) = ?vqfz9 := hp 9 (by decide); have cX := cXqfz X hX; clear hp ho hX; go_simp; (all_goals rfl)
          · refine stepR (o := ⟨_, .binOp .eql 3 (.tmp 80) (.const (.int .i64 2)) 3, _, _, _, _⟩) ?vqfz11 rfl rfl (fun _ => rfl) fun ρ X hc hf hgl hX hp ho => ?_; have k80 : ρ (.tmp 80) = ?vqfz10 := hp 10 (by decide); clear hp ho hX; go_simp; (all_goals try go_bits); (all_goals try simp only [IntWalk.iteOmega]); (all_goals try go_bits); (all_goals rfl)
          · refine stepP 81 11 (?vqfz11) ?vqfz12 rfl (fun _ _ => rfl) rfl (fun _ => rfl) (by decide) rfl (fun _ _ h => h) ?_; rfl
          · refine stepO 0 ?vqfz13 rfl (fun _ _ => rfl) rfl (fun _ => rfl) (by decide) ?_; show (.slice (some ⟨g, 0, none⟩) n cap : Value) = _; rfl
          · refine stepO 6 ?vqfz14 rfl (fun _ _ => rfl) rfl (fun _ => rfl) (by decide) ?_; show (.int .i64 (i : Int) : Value) = _; rfl
          · refine stepR (o := ⟨_, .indexAddr 71 (.tmp 83) (.tmp 84), _, _, _, _⟩) ?vqfz15 rfl rfl (fun _ => rfl) fun ρ X hc hf hgl hX hp ho => ?_; have k83 : ρ (.tmp 83) = ?vqfz13 := hp 13 (by decide); have k84 : ρ (.tmp 84) = ?vqfz14 := hp 14 (by decide); clear hp ho hX; go_simp; (all_goals try go_bits); (all_goals try simp only [IntWalk.iteOmega]); (all_goals try go_bits); (all_goals rfl)
          · refine stepR (o := ⟨_, .fieldAddr 134 (.tmp 85) 0, _, _, _, _⟩) ?vqfz16 rfl rfl (fun _ => rfl) fun ρ X hc hf hgl hX hp ho => ?_; have k85 : ρ (.tmp 85) = ?vqfz15 := hp 15 (by decide); clear hp ho hX; go_simp; (all_goals rfl)
          · refine stepR (o := ⟨_, .load 9 (.tmp 86), _, _, _, _⟩) ?vqfz17 rfl rfl (fun _ => rfl) fun ρ X hc hf hgl hX hp ho => ?_; have k86 : ρ (.tmp 86) = ?vqfz16 := hp 16 (by decide); have cX := cXqfz X hX; clear hp ho hX; go_simp; (all_goals rfl)
          · refine stepR (o := ⟨_, .fieldAddr 165 (.tmp 3) 2, _, _, _, _⟩) ?vqfz18 rfl rfl (fun _ => rfl) fun ρ X hc hf hgl hX hp ho => ?_; have k3 : ρ (.tmp 3) = .pointer (some ⟨gb, 0, none⟩) := ho 3 (by decide); clear hp ho hX; go_simp; (all_goals rfl)
          · refine stepR (o := ⟨_, .load 9 (.tmp 88), _, _, _, _⟩) ?vqfz19 rfl rfl (fun _ => rfl) fun ρ X hc hf hgl hX hp ho => ?_; have k88 : ρ (.tmp 88) = ?vqfz18 := hp 18 (by decide); have cX := cXqfz X hX; clear hp ho hX; go_simp; (all_goals rfl)
          · refine stepR (o := ⟨_, .binOp .eql 9 (.tmp 87) (.tmp 89) 9, _, _, _, _⟩) ?vqfz20 rfl rfl (fun _ => rfl) fun ρ X hc hf hgl hX hp ho => ?_; have k87 : ρ (.tmp 87) = ?vqfz17 := hp 17 (by decide); have k89 : ρ (.tmp 89) = ?vqfz19 := hp 19 (by decide); clear hp ho hX; go_simp; (all_goals try go_bits); (all_goals try simp only [IntWalk.iteOmega]); (all_goals try go_bits); (all_goals rfl)
          · refine stepR (o := ⟨_, .pick (.tmp 82) (.tmp 90) (.const (.bool false)), _, _, _, _⟩) ?vqfz21 rfl rfl (fun _ => rfl) fun ρ X hc hf hgl hX hp ho => ?_; have k82 : ρ (.tmp 82) = ?vqfz12 := hp 12 (by decide); have k90 : ρ (.tmp 90) = ?vqfz20 := hp 20 (by decide); clear hp ho hX; go_simp; (all_goals rfl)
          · refine stepR (o := ⟨_, .pick (.tmp 78) (.const (.bool true)) (.tmp 91), _, _, _, _⟩) ?vqfz22 rfl rfl (fun _ => rfl) fun ρ X hc hf hgl hX hp ho => ?_; have k78 : ρ (.tmp 78) = ?vqfz8 := hp 8 (by decide); have k91 : ρ (.tmp 91) = ?vqfz21 := hp 21 (by decide); clear hp ho hX; go_simp; (all_goals rfl)
          · refine stepP 92 22 (?vqfz22) ?vqfz23 rfl (fun _ _ => rfl) rfl (fun _ => rfl) (by decide) rfl (fun _ _ h => h) ?_; rfl
         case grdqfz => rfl
         case rstqfz =>
          intro a0 X hb
          have hfr := hb.frame ((69, ?vqfz23) :: (70, ?vqfz0) :: (71, ?vqfz1) :: (72, ?vqfz2) :: (73, ?vqfz3) :: (74, ?vqfz4) :: (75, ?vqfz5) :: (76, ?vqfz6) :: (77, ?vqfz7) :: (78, ?vqfz8) :: (79, ?vqfz9) :: (80, ?vqfz10) :: (81, ?vqfz11) :: (82, ?vqfz12) :: (83, ?vqfz13) :: (84, ?vqfz14) :: (85, ?vqfz15) :: (86, ?vqfz16) :: (87, ?vqfz17) :: (88, ?vqfz18) :: (89, ?vqfz19) :: (90, ?vqfz20) :: (91, ?vqfz21) :: (92, ?vqfz22) :: []) rfl ⟨hb.done' 23 69 rfl rfl, hb.done' 0 70 rfl rfl, hb.done' 1 71 rfl rfl, hb.done' 2 72 rfl rfl, hb.done' 3 73 rfl rfl, hb.done' 4 74 rfl rfl, hb.done' 5 75 rfl rfl, hb.done' 6 76 rfl rfl, hb.done' 7 77 rfl rfl, hb.done' 8 78 rfl rfl, hb.done' 9 79 rfl rfl, hb.done' 10 80 rfl rfl, hb.done' 11 81 rfl rfl, hb.done' 12 82 rfl rfl, hb.done' 13 83 rfl rfl, hb.done' 14 84 rfl rfl, hb.done' 15 85 rfl rfl, hb.done' 16 86 rfl rfl, hb.done' 17 87 rfl rfl, hb.done' 18 88 rfl rfl, hb.done' 19 89 rfl rfl, hb.done' 20 90 rfl rfl, hb.done' 21 91 rfl rfl, hb.done' 22 92 rfl rfl, trivial⟩
          simp only [updL, ↓reduceIte, Nat.reduceEqDiff, Nat.reduceAdd, Nat.zero_add] at hfr
          have HX := Lib.hid hb.ext
          clear hb cXqfz
          subst hfr
          have HXa := Lib.hid (Grows.trans' HXb.out HX.out)
          clear HX HXb c0 c1b c2b c3b
          have Hown6 : Hid (X.ownsRow 0 134 2 u5 ((l.take (i + 1)).flatMap (chgE ⟨kd, ca, cb, ci⟩)).length (((l.take (i + 1)).flatMap (chgE ⟨kd, ca, cb, ci⟩)).flatMap entC)) := by
           show World.ownsRow _ _ _ _ _ _ _
           rw [Hsn.out, List.append_nil, H5.out.1, H5.out.2]
           exact own_grows Ho5.out HXa.out
          have HX6 : Hid (Below wb.heap.size wb X) := Below.trans HB.out (Below.mono HXa.out HB.out.size)
          go_wp2
          go_roundw
          case rel => exact ⟨i + 1, Hi.out, by simp, Hown6.out, Hat.out, HX6.out⟩
          case measure => have := Hi.out; simp [intOf]; omega
      · rw [decide_eq_false heb] at hnb2
        have Hsn : Hid ((l.take (i + 1)).flatMap (chgE ⟨kd, ca, cb, ci⟩) = (l.take i).flatMap (chgE ⟨kd, ca, cb, ci⟩) ++ [(nm, id)]) := by
         show _ = _
         rw [hsn]
         unfold chgE
         rw [if_neg (fun h => hea h.1), if_neg (fun h => by rcases h with h | h; exact hea h; exact heb h.2)]
        clear hsn
        go_wp2
        have cXqg := fun X (hX : Grows _ X) => And.intro (Grows.cell' hX c0) (And.intro (Grows.cell' hX c1b) (And.intro (Grows.cell' hX c2b) (Grows.cell' hX c3b)))
        refine specs_region
         #[[], [], [0, 1], [0, 1, 2], [0, 1, 2, 3], [], [5], [0, 1, 2, 3, 4, 5, 6], [0, 1, 2, 3, 4, 5, 6, 7], [0, 1, 2, 3, 4, 5, 6, 7, 8], [0, 1, 2, 3, 4, 5, 6, 7, 8, 9], [0, 1, 2, 3, 4, 5, 6, 7, 8, 9, 10], [0, 1, 2, 3, 4, 5, 6, 7, 8, 9, 10, 11], [0, 1, 2, 3, 4, 5, 6, 7, 8, 9, 10, 11, 12]] #[[0], [6], [], [], [], [3], [], [], [], [3], [], [], [], []] #[true, true, true, true, true, true, true, true, true, false, false, false, true, true]
         ((.val ?vqg0) :: (.val ?vqg1) :: (.val ?vqg2) :: (.val ?vqg3) :: (.val ?vqg4) :: (.val ?vqg5) :: (.val ?vqg6) :: (.val ?vqg7) :: (.val ?vqg8) :: (.val undef) :: (.val undef) :: (.val undef) :: (.val ?vqg12) :: (.val ?vqg13) :: []).toArray
         hmx ?chkqg ?grdqg ?stpqg ?rstqg
        case chkqg => rfl
        case stpqg =>
         refine ⟨?_, ?_, ?_, ?_, ?_, ?_, ?_, ?_, ?_, ?_, ?_, ?_, ?_, ?_, trivial⟩
         · refine stepO 0 ?vqg0 rfl (fun _ _ => rfl) rfl (fun _ => rfl) (by decide) ?_; show (.slice (some ⟨g, 0, none⟩) n cap : Value) = _; rfl
         · refine stepO 6 ?vqg1 rfl (fun _ _ => rfl) rfl (fun _ => rfl) (by decide) ?_; show (.int .i64 (i : Int) : Value) = _; rfl
         · refine stepR (o := ⟨_, .indexAddr 71 (.tmp 45) (.tmp 46), _, _, _, _⟩) ?vqg2 rfl rfl (fun _ => rfl) fun ρ X hc hf hgl hX hp ho => ?_; have k45 : ρ (.tmp 45) = ?vqg0 := hp 0 (by decide); have k46 : ρ (.tmp 46) = ?vqg1 := hp 1 (by decide); clear hp ho hX; go_simp; (all_goals try go_bits); (all_goals try simp only [IntWalk.iteOmega]); (all_goals try go_bits); (all_goals rfl)
         · refine stepR (o := ⟨_, .fieldAddr 134 (.tmp 47) 0, _, _, _, _⟩) ?vqg3 rfl rfl (fun _ => rfl) fun ρ X hc hf hgl hX hp ho => ?_; have k47 : ρ (.tmp 47) = ?vqg2 := hp 2 (by decide); clear hp ho hX; go_simp; (all_goals rfl)
         · refine stepR (o := ⟨_, .load 9 (.tmp 48), _, _, _, _⟩) ?vqg4 rfl rfl (fun _ => rfl) fun ρ X hc hf hgl hX hp ho => ?_; have k48 : ρ (.tmp 48) = ?vqg3 := hp 3 (by decide); have cX := cXqg X hX; clear hp ho hX; go_simp; (all_goals rfl)
         · refine stepR (o := ⟨_, .fieldAddr 165 (.tmp 3) 1, _, _, _, _⟩) ?vqg5 rfl rfl (fun _ => rfl) fun ρ X hc hf hgl hX hp ho => ?_; have k3 : ρ (.tmp 3) = .pointer (some ⟨gb, 0, none⟩) := ho 3 (by decide); clear hp ho hX; go_simp; (all_goals rfl)
         · refine stepR (o := ⟨_, .load 9 (.tmp 50), _, _, _, _⟩) ?vqg6 rfl rfl (fun _ => rfl) fun ρ X hc hf hgl hX hp ho => ?_; have k50 : ρ (.tmp 50) = ?vqg5 := hp 5 (by decide); have cX := cXqg X hX; clear hp ho hX; go_simp; (all_goals rfl)
         · refine stepR (o := ⟨_, .binOp .eql 9 (.tmp 49) (.tmp 51) 9, _, _, _, _⟩) ?vqg7 rfl rfl (fun _ => rfl) fun ρ X hc hf hgl hX hp ho => ?_; have k49 : ρ (.tmp 49) = ?vqg4 := hp 4 (by decide); have k51 : ρ (.tmp 51) = ?vqg6 := hp 6 (by decide); clear hp ho hX; go_simp; (all_goals try go_bits); (all_goals try simp only [IntWalk.iteOmega]); (all_goals try go_bits); (all_goals rfl)
         · refine stepP 52 7 (?vqg7) ?vqg8 rfl (fun _ _ => rfl) rfl (fun _ => rfl) (by decide) rfl (fun _ _ h => h) ?_; rfl
         · exact step_skip rfl rfl (fun _ _ => rfl)
         · exact step_skip rfl rfl (fun _ _ => rfl)
         · exact step_skip rfl rfl (fun _ _ => rfl)
         · refine stepR (o := ⟨_, .pick (.tmp 53) (.tmp 56) (.const (.bool false)), _, _, _, _⟩) ?vqg12 rfl rfl (fun _ => rfl) fun ρ X hc hf hgl hX hp ho => ?_; have k53 : ρ (.tmp 53) = ?vqg8 := hp 8 (by decide); have k56 : ρ (.tmp 56) = undef := hp 11 (by decide); clear hp ho hX; go_simp; (all_goals rfl)
         · refine stepP 57 12 (?vqg12) ?vqg13 rfl (fun _ _ => rfl) rfl (fun _ => rfl) (by decide) rfl (fun _ _ h => h) ?_; rfl
        case grdqg => rfl
        case rstqg =>
         intro a0 X hb
         have hfr := hb.frame ((44, ?vqg13) :: (45, ?vqg0) :: (46, ?vqg1) :: (47, ?vqg2) :: (48, ?vqg3) :: (49, ?vqg4) :: (50, ?vqg5) :: (51, ?vqg6) :: (52, ?vqg7) :: (53, ?vqg8) :: (54, undef) :: (55, undef) :: (56, undef) :: (57, ?vqg12) :: []) rfl ⟨hb.done' 13 44 rfl rfl, hb.done' 0 45 rfl rfl, hb.done' 1 46 rfl rfl, hb.done' 2 47 rfl rfl, hb.done' 3 48 rfl rfl, hb.done' 4 49 rfl rfl, hb.done' 5 50 rfl rfl, hb.done' 6 51 rfl rfl, hb.done' 7 52 rfl rfl, hb.done' 8 53 rfl rfl, hb.done' 9 54 rfl rfl, hb.done' 10 55 rfl rfl, hb.done' 11 56 rfl rfl, hb.done' 12 57 rfl rfl, trivial⟩
         simp only [updL, ↓reduceIte, Nat.reduceEqDiff, Nat.reduceAdd, Nat.zero_add] at hfr
         have HX := Lib.hid hb.ext
         clear hb cXqg
         subst hfr
         have HXa := HX
         clear HX
         have c0 := HXa.out.cell' Hc0.out
         have c1b := HXa.out.cell' Hcb1.out
         have c2b := HXa.out.cell' Hcb2.out
         have c3b := HXa.out.cell' Hcb0.out
         have HXb := HXa
         go_wp2
         have cXqgz := fun X (hX : Grows _ X) => And.intro (Grows.cell' hX c0) (And.intro (Grows.cell' hX c1b) (And.intro (Grows.cell' hX c2b) (Grows.cell' hX c3b)))
         refine specs_region
          #[[], [], [0, 1], [0, 1, 2], [0, 1, 2, 3], [], [5], [0, 1, 2, 3, 4, 5, 6], [0, 1, 2, 3, 4, 5, 6, 7], [0, 1, 2, 3, 4, 5, 6, 7, 8], [0, 1, 2, 3, 4, 5, 6, 7, 8, 9], [0, 1, 2, 3, 4, 5, 6, 7, 8, 9, 10], [0, 1, 2, 3, 4, 5, 6, 7, 8, 9, 10, 11], [0, 1, 2, 3, 4, 5, 6, 7, 8, 9, 10, 11, 12], [0, 1, 2, 3, 4, 5, 6, 7, 8, 9, 10, 11, 12], [0, 1, 2, 3, 4, 5, 6, 7, 8, 9, 10, 11, 12, 13, 14], [0, 1, 2, 3, 4, 5, 6, 7, 8, 9, 10, 11, 12, 13, 14, 15], [0, 1, 2, 3, 4, 5, 6, 7, 8, 9, 10, 11, 12, 13, 14, 15, 16], [0, 1, 2, 3, 4, 5, 6, 7, 8, 9, 10, 11, 12], [0, 1, 2, 3, 4, 5, 6, 7, 8, 9, 10, 11, 12, 18], [0, 1, 2, 3, 4, 5, 6, 7, 8, 9, 10, 11, 12, 13, 14, 15, 16, 17, 18, 19], [0, 1, 2, 3, 4, 5, 6, 7, 8, 9, 10, 11, 12, 13, 14, 15, 16, 17, 18, 19, 20], [0, 1, 2, 3, 4, 5, 6, 7, 8, 9, 10, 11, 12, 13, 14, 15, 16, 17, 18, 19, 20, 21], [0, 1, 2, 3, 4, 5, 6, 7, 8, 9, 10, 11, 12, 13, 14, 15, 16, 17, 18, 19, 20, 21, 22]] #[[0], [6], [], [], [], [3], [], [], [], [3], [], [], [], [0], [6], [], [], [], [3], [], [], [], [], []] #[true, true, true, true, true, true, true, true, true, true, true, true, true, true, true, true, true, true, true, true, true, true, true, true]
          ((.val ?vqgz0) :: (.val ?vqgz1) :: (.val ?vqgz2) :: (.val ?vqgz3) :: (.val ?vqgz4) :: (.val ?vqgz5) :: (.val ?vqgz6) :: (.val ?vqgz7) :: (.val ?vqgz8) :: (.val ?vqgz9) :: (.val ?vqgz10) :: (.val ?vqgz11) :: (.val ?vqgz12) :: (.val ?vqgz13) :: (.val ?vqgz14) :: (.val ?vqgz15) :: (.val ?vqgz16) :: (.val ?vqgz17) :: (.val ?vqgz18) :: (.val ?vqgz19) :: (.val ?vqgz20) :: (.val ?vqgz21) :: (.val ?vqgz22) :: (.val ?vqgz23) :: []).toArray
          hmx ?chkqgz ?grdqgz ?stpqgz ?rstqgz
         case chkqgz => rfl
         case stpqgz =>
          refine ⟨?_, ?_, ?_, ?_, ?_, ?_, ?_, ?_, ?_, ?_, ?_, ?_, ?_, ?_, ?_, ?_, ?_, ?_, ?_, ?_, ?_, ?_, ?_, ?_, trivial⟩
          · refine stepO 0 ?vqgz0 rfl (fun _ _ => rfl) rfl (fun _ => rfl) (by decide) ?_; show (.slice (some ⟨g, 0, none⟩) n cap : Value) = _; rfl
          · refine stepO 6 ?vqgz1 rfl (fun _ _ => rfl) rfl (fun _ => rfl) (by decide) ?_; show (.int .i64 (i : Int) : Value) = _; rfl
          · refine stepR (o := ⟨_, .indexAddr 71 (.tmp 70) (.tmp 71), _, _, _, _⟩) ?vqgz2 rfl rfl (fun _ => rfl) fun ρ X hc hf hgl hX hp ho => ?_; have k70 : ρ (.tmp 70) = ?vqgz0 := hp 0 (by decide); have k71 : ρ (.tmp 71) = ?vqgz1 := hp 1 (by decide); clear hp ho hX; go_simp; (all_goals try go_bits); (all_goals try simp only [IntWalk.iteOmega]); (all_goals try go_bits); (all_goals rfl)
          · refine stepR (o := ⟨_, .fieldAddr 134 (.tmp 72) 0, _, _, _, _⟩) ?vqgz3 rfl rfl (fun _ => rfl) fun ρ X hc hf hgl hX hp ho => ?_; have k72 : ρ (.tmp 72) = ?vqgz2 := hp 2 (by decide); clear hp ho hX; go_simp; (all_goals rfl)
          · refine stepR (o := ⟨_, .load 9 (.tmp 73), _, _, _, _⟩) ?vqgz4 rfl rfl (fun _ => rfl) fun ρ X hc hf hgl hX hp ho => ?_; have k73 : ρ (.tmp 73) = ?vqgz3 := hp 3 (by decide); have cX := cXqgz X hX; clear hp ho hX; go_simp; (all_goals rfl)
          · refine stepR (o := ⟨_, .fieldAddr 165 (.tmp 3) 1, _, _, _, _⟩) ?vqgz5 rfl rfl (fun _ => rfl) fun ρ X hc hf hgl hX hp ho => ?_; have k3 : ρ (.tmp 3) = .pointer (some ⟨gb, 0, none⟩) := ho 3 (by decide); clear hp ho hX; go_simp; (all_goals rfl)
          · refine stepR (o := ⟨_, .load 9 (.tmp 75), _, _, _, _⟩) ?vqgz6 rfl rfl (fun _ => rfl) fun ρ X hc hf hgl hX hp ho => ?_; have k75 : ρ (.tmp 75) = ?vqgz5 := hp 5 (by decide); have cX := cXqgz X hX; clear hp ho hX; go_simp; (all_goals rfl)
          · refine stepR (o := ⟨_, .binOp .eql 9 (.tmp 74) (.tmp 76) 9, _, _, _, _⟩) ?vqgz7 rfl rfl (fun _ => rfl) fun ρ X hc hf hgl hX hp ho => ?_; have k74 : ρ (.tmp 74) = ?vqgz4 := hp 4 (by decide); have k76 : ρ (.tmp 76) = ?vqgz6 := hp 6 (by decide); clear hp ho hX; go_simp; (all_goals try go_bits); (all_goals try simp only [IntWalk.iteOmega]); (all_goals try go_bits); (all_goals rfl)
          · refine stepP 77 7 (?vqgz7) ?vqgz8 rfl (fun _ _ => rfl) rfl (fun _ => rfl) (by decide) rfl (fun _ _ h => h) ?_; rfl
          · refine stepR (o := ⟨_, .fieldAddr 165 (.tmp 3) 0, _, _, _, _⟩) ?vqgz9 rfl rfl (fun _ => rfl) fun ρ X hc hf hgl hX hp ho => ?_; have k3 : ρ (.tmp 3) = .pointer (some ⟨gb, 0, none⟩) := ho 3 (by decide); clear hp ho hX; go_simp; (all_goals rfl)
          · refine stepR (o := ⟨_, .load 3 (.tmp 79), _, _, _, _⟩) ?vqgz10 rfl rfl (fun _ => rfl) fun ρ X hc hf hgl hX hp ho => ?_; have k79 : ρ (.tmp 79) = ?vqgz9 := hp 9 (by decide); have cX := cXqgz X hX; clear hp ho hX; go_simp; (all_goals rfl)
          · refine stepR (o := ⟨_, .binOp .eql 3 (.tmp 80) (.const (.int .i64 2)) 3, _, _, _, _⟩) ?vqgz11 rfl rfl (fun _ => rfl) fun ρ X hc hf hgl hX hp ho => ?_; have k80 : ρ (.tmp 80) = ?vqgz10 := hp 10 (by decide); clear hp ho hX; go_simp; (all_goals try go_bits); (all_goals try simp only [IntWalk.iteOmega]); (all_goals try go_bits); (all_goals rfl)
          · refine stepP 81 11 (?vqgz11) ?vqgz12 rfl (fun _ _ => rfl) rfl (fun _ => rfl) (by decide) rfl (fun _ _ h => h) ?_; rfl
          · refine stepO 0 ?vqgz13 rfl (fun _ _ => rfl) rfl (fun _ => rfl) (by decide) ?_; show (.slice (some ⟨g, 0, none⟩) n cap : Value) = _; rfl
          · refine stepO 6 ?vqgz14 rfl (fun _ _ => rfl) rfl (fun _ => rfl) (by decide) ?_; show (.int .i64 (i : Int) : Value) = _; rfl
          · refine stepR (o := ⟨_, .indexAddr 71 (.tmp 83) (.tmp 84), _, _, _, _⟩) ?vqgz15 rfl rfl (fun _ => rfl) fun ρ X hc hf hgl hX hp ho => ?_; have k83 : ρ (.tmp 83) = ?vqgz13 := hp 13 (by decide); have k84 : ρ (.tmp 84) = ?vqgz14 := hp 14 (by decide); clear hp ho hX; go_simp; (all_goals try go_bits); (all_goals try simp only [IntWalk.iteOmega]); (all_goals try go_bits); (all_goals rfl)
          · refine stepR (o := ⟨_, .fieldAddr 134 (.tmp 85) 0, _, _, _, _⟩) ?vqgz16 rfl rfl (fun _ => rfl) fun ρ X hc hf hgl hX hp ho => ?_; have k85 : ρ (.tmp 85) = ?vqgz15 := hp 15 (by decide); clear hp ho hX; go_simp; (all_goals rfl)
          · refine stepR (o := ⟨_, .load 9 (.tmp 86), _, _, _, _⟩) ?vqgz17 rfl rfl (fun _ => rfl) fun ρ X hc hf hgl hX hp ho => ?_; have k86 : ρ (.tmp 86) = ?vqgz16 := hp 16 (by decide); have cX := cXqgz X hX; clear hp ho hX; go_simp; (all_goals rfl)
          · refine stepR (o := ⟨_, .fieldAddr 165 (.tmp 3) 2, _, _, _, _⟩) ?vqgz18 rfl rfl (fun _ => rfl) fun ρ X hc hf hgl hX hp ho => ?_; have k3 : ρ (.tmp 3) = .pointer (some ⟨gb, 0, none⟩) := ho 3 (by decide); clear hp ho hX; go_simp; (all_goals rfl)
          · refine stepR (o := ⟨_, .load 9 (.tmp 88), _, _, _, _⟩) ?vqgz19 rfl rfl (fun _ => rfl) fun ρ X hc hf hgl hX hp ho => ?_; have k88 : ρ (.tmp 88) = ?vqgz18 := hp 18 (by decide); have cX := cXqgz X hX; clear hp ho hX; go_simp; (all_goals rfl)
          · refine stepR (o := ⟨_, .binOp .eql 9 (.tmp 87) (.tmp 89) 9, _, _, _, _⟩) ?vqgz20 rfl rfl (fun _ => rfl) fun ρ X hc hf hgl hX hp ho => ?_; have k87 : ρ (.tmp 87) = ?vqgz17 := hp 17 (by decide); have k89 : ρ (.tmp 89) = ?vqgz19 := hp 19 (by decide); clear hp ho hX; go_simp; (all_goals try go_bits); (all_goals try simp only [IntWalk.iteOmega]); (all_goals try go_bits); (all_goals rfl)
          · refine stepR (o := ⟨_, .pick (.tmp 82) (.tmp 90) (.const (.bool false)), _, _, _, _⟩) ?vqgz21 rfl rfl (fun _ => rfl) fun ρ X hc hf hgl hX hp ho => ?_; have k82 : ρ (.tmp 82) = ?vqgz12 := hp 12 (by decide); have k90 : ρ (.tmp 90) = ?vqgz20 := hp 20 (by decide); clear hp ho hX; go_simp; (all_goals rfl)
          · refine stepR (o := ⟨_, .pick (.tmp 78) (.const (.bool true)) (.tmp 91), _, _, _, _⟩) ?vqgz22 rfl rfl (fun _ => rfl) fun ρ X hc hf hgl hX hp ho => ?_; have k78 : ρ (.tmp 78) = ?vqgz8 := hp 8 (by decide); have k91 : ρ (.tmp 91) = ?vqgz21 := hp 21 (by decide); clear hp ho hX; go_simp; (all_goals rfl)
          · refine stepP 92 22 (?vqgz22) ?vqgz23 rfl (fun _ _ => rfl) rfl (fun _ => rfl) (by decide) rfl (fun _ _ h => h) ?_; rfl
         case grdqgz => rfl
         case rstqgz =>
          intro a0 X hb
          have hfr := hb.frame ((69, ?vqgz23) :: (70, ?vqgz0) :: (71, ?vqgz1) :: (72, ?vqgz2) :: (73, ?vqgz3) :: (74, ?vqgz4) :: (75, ?vqgz5) :: (76, ?vqgz6) :: (77, ?vqgz7) :: (78, ?vqgz8) :: (79, ?vqgz9) :: (80, ?vqgz10) :: (81, ?vqgz11) :: (82, ?vqgz12) :: (83, ?vqgz13) :: (84, ?vqgz14) :: (85, ?vqgz15) :: (86, ?vqgz16) :: (87, ?vqgz17) :: (88, ?vqgz18) :: (89, ?vqgz19) :: (90, ?vqgz20) :: (91, ?vqgz21) :: (92, ?vqgz22) :: []) rfl ⟨hb.done' 23 69 rfl rfl, hb.done' 0 70 rfl rfl, hb.done' 1 71 rfl rfl, hb.done' 2 72 rfl rfl, hb.done' 3 73 rfl rfl, hb.done' 4 74 rfl rfl, hb.done' 5 75 rfl rfl, hb.done' 6 76 rfl rfl, hb.done' 7 77 rfl rfl, hb.done' 8 78 rfl rfl, hb.done' 9 79 rfl rfl, hb.done' 10 80 rfl rfl, hb.done' 11 81 rfl rfl, hb.done' 12 82 rfl rfl, hb.done' 13 83 rfl rfl, hb.done' 14 84 rfl rfl, hb.done' 15 85 rfl rfl, hb.done' 16 86 rfl rfl, hb.done' 17 87 rfl rfl, hb.done' 18 88 rfl rfl, hb.done' 19 89 rfl rfl, hb.done' 20 90 rfl rfl, hb.done' 21 91 rfl rfl, hb.done' 22 92 rfl rfl, trivial⟩
          simp only [updL, ↓reduceIte, Nat.reduceEqDiff, Nat.reduceAdd, Nat.zero_add] at hfr
          have HX := Lib.hid hb.ext
          clear hb cXqgz
          subst hfr
          have HXa := Lib.hid (Grows.trans' HXb.out HX.out)
          clear HX HXb c0 c1b c2b c3b
          have hcX : ∀ j u, (entC (nm, id))[j]? = some u → X.cell? (Addr.add ⟨g, i * 2, none⟩ j) = some u := fun j u hu => by
           rw [Addr.add_lit]
           match j, hu with
           | 0, hu => have h1 := HXa.out.cell' Hc0.out; simp [entC] at hu; rw [← hu]; exact h1
           | 1, hu => have h1 := HXa.out.cell' Hc1.out; simp [entC] at hu; rw [← hu]; exact h1
           | _ + 2, hu => simp [entC] at hu
          have hoX := own_grows Ho5.out HXa.out
          have hBX := Lib.hid (Below.trans HB.out (Below.mono HXa.out HB.out.size))
          go_wp2_with (first
           | (refine wpList_loadPart rfl 134 _ rfl ⟨g, i * 2, none⟩ rfl (entC (nm, id)) #[sv nm, nv id] rfl _ hcX Tryz.underlying134 rfl infoE_size ?_)
           | (at_builtin; refine wpList_appendx rfl _ _ 71 134 rfl i0 z0 2 24 Tryz.underlying71 hi hz hs2 hb2 hzs (by omega) _ n5 xs5 rfl ?q1 ⟨X.heap.size, 0, none⟩ 1 1 (entC (nm, id)) ?q2 rfl ?q3 (entC_one [(nm, id)]) ?q4 ?q5 ?q6))
          case q1 => exact own_grows hoX (Grows.alloc' _ _)
          case q2 => rfl
          case q3 =>
           intro j u hu
           rw [Addr.add_lit, Nat.zero_add, World.cell?_alloc_at _ _ _ _ rfl]
           simpa [entC, sv, nv] using hu
          case q4 => have := Hn5.out; unfold maxLen; omega
          case q5 => have := Hn5.out; omega
          intro v6 w6 hown6 hgrow6 hat6
          have HX6 : Hid (Below wb.heap.size wb w6) := by
           refine Below.trans hBX.out (Below.trans (Below.mono (Grows.alloc' X _) hBX.out.size) ⟨hgrow6.os, hgrow6.tape, hgrow6.output, hgrow6.size, fun k hk => hgrow6.block k (by have := hBX.out.size; simp; omega) (fun e => ?_)⟩)
           have := Hat.out k (by first | exact e | exact e.symm)
           omega
          have Hat6 : Hid (∀ j, v6.ownBlock = some j → wb.heap.size ≤ j) := fun j hj => by
           rcases hat6 with h | h
           · exact Hat.out j (h.symm.trans hj)
           · rw [hj] at h
             have := Option.some.inj h
             have := hBX.out.size
             simp at this ⊢
             omega
          have Hown6 : Hid (w6.ownsRow 0 134 2 v6 ((l.take (i + 1)).flatMap (chgE ⟨kd, ca, cb, ci⟩)).length (((l.take (i + 1)).flatMap (chgE ⟨kd, ca, cb, ci⟩)).flatMap entC)) := by
           show World.ownsRow _ _ _ _ _ _ _
           rw [Hsn.out, List.length_append, List.flatMap_append, H5.out.1, H5.out.2]
           simpa using hown6
          clear hown6 hgrow6 hat6 hoX hcX
          go_wp2
          go_roundw
          case rel => exact ⟨i + 1, Hi.out, by simp, Hown6.out, Hat6.out, HX6.out⟩
          case measure => have := Hi.out; simp [intOf]; omega
  · have hltI : ¬ (i : Int) < (n : Int) := by omega
    have hil : i = n := by omega
    have Ho5' := Ho5.out
    rw [hil, List.take_of_length_le (by rw [Hn.out]; exact Nat.le_refl _)] at Ho5'
    have Ho6 := Lib.hid Ho5'
    clear Ho5' hil hlt hin
    go_wp2
    go_ret
    exact ⟨_, rfl, by rw [Hr.out]; exact Ho6.out, Below.trans HG1.out (Below.mono HB.out HG1.out.size), .inr fun j hj => Nat.le_trans HG1.out.size (Hat.out j hj)⟩
set_option maxRecDepth 100000 in
theorem refChangeS (v : Value) (l : List (Nm × Nat)) (ca : Nm) (ci : Nat) (w : World) (h : EntR w v l) :
 Calls Tryz.prog 91 #[v, .agg #[nv 2, sv ca, sv ca, nv ci]] w fun e w' => ∃ v', e = .returned v' ∧ EntR w' v' (chgF l ⟨2, ca, ca, ci⟩) ∧ Grows w w' ∧ (v'.ownBlock = v.ownBlock ∨ ∀ j, v'.ownBlock = some j → w.heap.size ≤ j) := by
 have H := Lib.hid h
 obtain ⟨a, cap, rfl⟩ := own_form h
 have hg1 := Grows.alloc' w (.cells #[nv 2, sv ca, sv ca, nv ci] 165)
 have Hr : Hid (chgF l ⟨2, ca, ca, ci⟩ = l) := by show _ = _; unfold chgF; rw [if_neg (show ¬ (2 = 0) from by decide), if_pos ⟨rfl, rfl⟩]
 clear h
 go_enter Tryz.func91, Tryz.ntmps91
 go_wp2
 go_ret
 exact ⟨_, rfl, by rw [Hr.out]; exact H.out.grows hg1, hg1, .inl rfl⟩
theorem refChange (v : Value) (l : List (Nm × Nat)) (c : Chg) (w : World) (h : EntR w v l) (hn : l.length ≤ 1000000000) :
 Calls Tryz.prog 91 #[v, .agg #[nv c.kind, sv c.a, sv c.b, nv c.id]] w fun e w' => ∃ v', e = .returned v' ∧ EntR w' v' (chgF l c) ∧ Grows w w' ∧ (v'.ownBlock = v.ownBlock ∨ ∀ j, v'.ownBlock = some j → w.heap.size ≤ j) := by
 obtain ⟨kd, ca, cb, ci⟩ := c
 by_cases hk0 : kd = 0
 · subst hk0
   exact refChange0 v l ca cb ci w h hn
 · by_cases hk2 : kd = 2
   · by_cases hab : ca = cb
     · subst hab
       subst hk2
       exact refChangeS v l ca ci w h
     · exact refChangeT v l kd ca cb ci hk2 hab w h hn
   · exact refChangeF v l kd ca cb ci hk0 hk2 w h hn
end Go.Proofs.YtoppcpiheaedlaaGreatDoor
end
section
/-
  The document's own disk: the directory as it is now; a name's file; an armed call.
-/
namespace Go.Proofs.YtoppcpiheaedlaaGreatDoor
open Go.RowKit
set_option linter.unusedVariables false
set_option linter.unusedSimpArgs false
attribute [local go_sem] sv nv
theorem infoC_size : (Tryz.prog.info? 165).map (·.size) = some 4 := by kernel_rfl
theorem chgF_len (d : List (Nm × Nat)) (c : Chg) : (chgF d c).length ≤ d.length + 1 := by
 unfold chgF
 split
 · simp
 · split
   · omega
   · have := chg_len c d
     omega
theorem foldl_len : ∀ (cs : List Chg) (d : List (Nm × Nat)), (cs.foldl chgF d).length ≤ d.length + cs.length
 | [], d => by simp
 | c :: r, d => by
  have h1 := foldl_len r (chgF d c)
  have h2 := chgF_len d c
  simp only [List.foldl_cons, List.length_cons]
  omega
theorem foldl_snoc (cs : List Chg) (d : List (Nm × Nat)) (i : Nat) (hi : i < cs.length) : (cs.take (i + 1)).foldl chgF d = chgF ((cs.take i).foldl chgF d) (cs[i]) := by
 rw [List.take_succ_eq_append_getElem hi, List.foldl_append]
 rfl
set_option maxRecDepth 100000 in
set_option maxHeartbeats 2000000 in
theorem refNow (q : Nat) (vd vc : Value) (d : List (Nm × Nat)) (cs : List Chg) (w : World) (hd : w.cell? ⟨q, 1, none⟩ = some vd) (hc : w.cell? ⟨q, 2, none⟩ = some vc) (hdir : EntR w vd d) (hch : w.ownsRow 0 165 4 vc cs.length (cs.flatMap chC)) (hn : d.length + cs.length ≤ 100000000) :
 Calls Tryz.prog 88 #[.pointer (some ⟨q, 0, none⟩)] w fun e w' => ∃ v, e = .returned v ∧ EntR w' v (cs.foldl chgF d) ∧ Grows w w' ∧ (v.ownBlock = vd.ownBlock ∨ ∀ j, v.ownBlock = some j → w.heap.size ≤ j) := by
 obtain ⟨a, cap, rfl⟩ := own_form hch
 have Hc := Lib.hid hc
 have Hch := Lib.hid hch
 have Hdir := Lib.hid hdir
 have Hn := Lib.hid hn
 have hcl : (cs.length : Int) ≤ 100000000 := by omega
 clear hch hdir hn
 go_enter Tryz.func88, Tryz.ntmps88
 go_wp2
 clear hc hd
 go_loopw [3, 4] (fun t3 t4 wr => ∃ i : Nat, i ≤ cs.length ∧ t4 = .int .i64 i ∧ EntR wr t3 ((cs.take i).foldl chgF d) ∧ Grows w wr ∧ (t3.ownBlock = vd.ownBlock ∨ ∀ j, t3.ownBlock = some j → w.heap.size ≤ j))
  (fun _ t4 _ => cs.length - (intOf t4).toNat)
 case atStart => exact ⟨0, by omega, rfl, Hdir.out, Below.refl _ _, .inl rfl⟩
 case round =>
  obtain ⟨i, hin, rfl, hE, hG, hbk⟩ := hrel
  have HE := Lib.hid hE
  have Hbk := Lib.hid hbk
  clear hbk
  have HG := Lib.hid hG
  have hcr := hG.cell' Hc.out
  clear hE hG
  by_cases hlt : i < cs.length
  · have hltI : (i : Int) < (cs.length : Int) := by omega
    have hbi : ¬ ((cs.length : Int) ≤ (i : Int)) := by omega
    obtain ⟨g, cap', e1⟩ := own_some Hch.out (by omega)
    simp only [Value.slice.injEq] at e1
    obtain ⟨rfl, -, rfl⟩ := e1
    obtain ⟨c, hcc⟩ : ∃ c, cs[i] = c := ⟨_, rfl⟩
    have hcX : ∀ j u, (chC c)[j]? = some u → wr.cell? (Addr.add ⟨g, i * 4, none⟩ j) = some u := fun j u hu => by
     have hj : j < 4 := by have := (List.getElem?_eq_some_iff.1 hu).1; simpa [chC] using this
     rw [Addr.add_lit]
     refine HG.out.cell' (own_cell Hch.out (i * 4 + j) _ ?_)
     rw [flat_get chC 4 chC_len cs i j hlt hj, hcc]
     exact hu
    have Hsn : Hid ((cs.take (i + 1)).foldl chgF d = chgF ((cs.take i).foldl chgF d) c) := by show _ = _; rw [foldl_snoc cs d i hlt, hcc]
    have hlen : ((cs.take i).foldl chgF d).length ≤ 1000000000 := by
     have h1 := foldl_len (cs.take i) d
     have h2 := List.length_take_le i cs
     have := Hn.out
     omega
    have HCh := Lib.hid (fun w' h => refChange u3 ((cs.take i).foldl chgF d) c w' h hlen)
    have Hi := Lib.hid hlt
    have HcX := Lib.hid hcX
    clear hcc hlen hlt hin hcX
    go_wp2_with (refine wpList_loadPart rfl 165 _ rfl ⟨g, i * 4, none⟩ rfl (chC c) #[nv c.kind, sv c.a, sv c.b, nv c.id] rfl _ HcX.out Tryz.underlying165 rfl infoC_size ?_)
    refine (HCh.out _ HE.out).mono ?_
    rintro e w5 ⟨v5, rfl, hE5, hg5, hb5⟩
    have Hb5 : Hid (v5.ownBlock = vd.ownBlock ∨ ∀ j, v5.ownBlock = some j → w.heap.size ≤ j) := by
     rcases hb5 with h | h
     · show _ ∨ _; rw [h]; exact Hbk.out
     · exact .inr fun j hj => Nat.le_trans HG.out.size (h j hj)
    clear hb5
    have HE5 := Lib.hid hE5
    have HG5 := Lib.hid (Grows.trans' HG.out hg5)
    clear hE5 hg5
    go_wp2
    go_roundw
    case rel => exact ⟨i + 1, Hi.out, by simp, by rw [Hsn.out]; exact HE5.out, HG5.out, Hb5.out⟩
    case measure => have := Hi.out; simp [intOf]; omega
  · have hltI : ¬ (i : Int) < (cs.length : Int) := by omega
    have hE' := HE.out
    rw [List.take_of_length_le (by omega)] at hE'
    have HE2 := Lib.hid hE'
    clear hE' hlt hin
    go_wp2
    go_ret
    exact ⟨_, rfl, HE2.out, HG.out, Hbk.out⟩
end Go.Proofs.YtoppcpiheaedlaaGreatDoor
end
section
/-
  The document's own disk: what stands for a disk in the world; a name's file, an armed call, how much is pending, how long a file is.
-/
namespace Go.Proofs.YtoppcpiheaedlaaGreatDoor
open Go.RowKit
set_option linter.unusedVariables false
set_option linter.unusedSimpArgs false
attribute [local go_sem] sv nv
structure RDv where
 vd : Value
 vc : Value
 vf : Value
 vw : Value
 ss : List Value
 ps : List Value
 sp : List (List Value)
def flP (ss : List Value) : List (Nat × Value) := (List.range ss.length).map fun i => (i, ss.getD i undef)
theorem flP_length (ss : List Value) : (flP ss).length = ss.length := by simp [flP]
theorem flP_fst (ss : List Value) (i : Nat) (h : i < (flP ss).length) : ((flP ss)[i]).1 = i := by simp [flP]
theorem flP_snd (ss : List Value) (i : Nat) (h : i < (flP ss).length) : ((flP ss)[i]).2 = ss.getD i undef := by simp [flP]
def rdRow (s : Ds) (x : RDv) (nx : Nat := s.fls.length) : Array Value := #[nv s.room, x.vd, x.vc, x.vf, x.vw, nv nx, .bool s.armed, .int .i64 s.after, .int .i64 s.code]
def mutB (q : Nat) (x : RDv) (k : Nat) : Prop := k = q ∨ x.vc.ownBlock = some k ∨ x.vf.ownBlock = some k ∨ x.vw.ownBlock = some k ∨ ∃ v ∈ x.ss, v.ownBlock = some k
def useB (q : Nat) (x : RDv) (k : Nat) : Prop := mutB q x k ∨ x.vd.ownBlock = some k ∨ (∃ v ∈ x.ps, v.ownBlock = some k) ∨ ∃ l ∈ x.sp, ∃ v ∈ l, v.ownBlock = some k
structure RD (W : World) (q : Nat) (s : Ds) (x : RDv) (nx : Nat := s.fls.length) : Prop where
 row : W.heap[q]? = some (.cells (rdRow s x nx) 76 (0, 0))
 dir : EntR W x.vd s.dir
 chs : W.ownsRow 0 165 4 x.vc s.chs.length (s.chs.flatMap chC)
 ssl : x.ss.length = s.fls.length
 fls : W.ownsRow 0 116 2 x.vf s.fls.length ((flP x.ss).flatMap flC)
 psl : x.ps.length = s.wrs.length
 wrs : W.ownsRow 0 168 3 x.vw s.wrs.length ((s.wrs.zip x.ps).flatMap wrC)
 spl : x.sp.length = s.fls.length
 sec : ∀ i, i < s.fls.length → W.ownsRow 0 36 1 (x.ss.getD i undef) (secs s i).length (x.sp.getD i [])
 byt : ∀ i j, i < s.fls.length → j < (secs s i).length → Byt W ((x.sp.getD i []).getD j undef) ((secs s i).getD j [])
 pend : ∀ j (h : j < s.wrs.length), Byt W (x.ps.getD j undef) (s.wrs[j]).p
 out : (∀ v ∈ x.ps, ∀ k, v.ownBlock = some k → ¬ mutB q x k) ∧ ∀ l ∈ x.sp, ∀ v ∈ l, ∀ k, v.ownBlock = some k → ¬ mutB q x k
 dis : ∀ i j, i < j → j < s.fls.length → ∀ k, (x.ss.getD i undef).ownBlock = some k → (x.ss.getD j undef).ownBlock ≠ some k
 wf : Wf s
 aft : -9223372036854775808 ≤ s.after ∧ s.after ≤ 9223372036854775807
 small : s.dir.length ≤ 1000000 ∧ s.chs.length ≤ 1000000 ∧ s.fls.length ≤ 1000000 ∧ s.wrs.length ≤ 1000000
theorem RD.kept {W W' : World} {q : Nat} {s : Ds} {x : RDv} {nx : Nat} (h : RD W q s x nx) (hk : ∀ k, useB q x k → W'.heap[k]? = W.heap[k]?) : RD W' q s x nx where
 row := (hk q (.inl (.inl rfl))).trans h.row
 dir := own_own h.dir fun j hj => hk j (.inr (.inl hj))
 chs := own_own h.chs fun j hj => hk j (.inl (.inr (.inl hj)))
 ssl := h.ssl
 fls := own_own h.fls fun j hj => hk j (.inl (.inr (.inr (.inl hj))))
 psl := h.psl
 wrs := own_own h.wrs fun j hj => hk j (.inl (.inr (.inr (.inr (.inl hj)))))
 spl := h.spl
 sec := fun i hi => own_own (h.sec i hi) fun j hj => hk j (.inl (.inr (.inr (.inr (.inr ⟨_, getD_mem _ _ _ (by rw [h.ssl]; exact hi), hj⟩)))))
 byt := fun i j hi hj => byt_own (h.byt i j hi hj) fun k hk' => by
   refine hk k (.inr (.inr (.inr ⟨x.sp.getD i [], getD_mem _ _ _ (by rw [h.spl]; exact hi), _, getD_mem _ _ _ ?_, hk'⟩)))
   have := (h.sec i hi).1
   omega
 pend := fun j hj => byt_own (h.pend j hj) fun k hk' => hk k (.inr (.inr (.inl ⟨_, getD_mem _ _ _ (by rw [h.psl]; exact hj), hk'⟩)))
 out := h.out
 dis := h.dis
 wf := h.wf
 aft := h.aft
 small := h.small
theorem RD.lt {W : World} {q : Nat} {s : Ds} {x : RDv} {nx : Nat} (h : RD W q s x nx) {k : Nat} (hk : mutB q x k) : k < W.heap.size := by
 rcases hk with rfl | hk | hk | hk | ⟨v, hv, hk⟩
 · exact (Array.getElem?_eq_some_iff.1 h.row).1
 · exact own_lt h.chs k hk
 · exact own_lt h.fls k hk
 · exact own_lt h.wrs k hk
 · obtain ⟨i, hi, rfl⟩ := List.mem_iff_getElem.1 hv
   have := own_lt (h.sec i (by rw [← h.ssl]; exact hi)) k (by rw [List.getD, List.getElem?_eq_getElem hi, Option.getD_some]; exact hk)
   exact this
theorem RD.ltU {W : World} {q : Nat} {s : Ds} {x : RDv} {nx : Nat} (h : RD W q s x nx) {k : Nat} (hk : useB q x k) : k < W.heap.size := by
 rcases hk with hk | hk | ⟨v, hv, hk⟩ | ⟨l, hl, v, hv, hk⟩
 · exact h.lt hk
 · exact own_lt h.dir k hk
 · obtain ⟨i, hi, rfl⟩ := List.mem_iff_getElem.1 hv
   have hi' : i < s.wrs.length := by rw [← h.psl]; exact hi
   have hb := h.pend i hi'
   rw [List.getD, List.getElem?_eq_getElem hi, Option.getD_some] at hb
   exact byt_lt hb (by have := (h.wf.wrs _ (List.getElem_mem hi')).2.2; omega) k hk
 · obtain ⟨i, hi, rfl⟩ := List.mem_iff_getElem.1 hl
   have hi' : i < s.fls.length := by rw [← h.spl]; exact hi
   obtain ⟨j, hj, rfl⟩ := List.mem_iff_getElem.1 hv
   have hgi : x.sp.getD i [] = x.sp[i] := by rw [List.getD, List.getElem?_eq_getElem hi, Option.getD_some]
   have hjl : j < (secs s i).length := by
    have := (h.sec i hi').1
    rw [hgi] at this
    omega
   have hb := h.byt i j hi' hjl
   rw [hgi, List.getD, List.getElem?_eq_getElem hj, Option.getD_some] at hb
   refine byt_lt hb ?_ k hk
   have := (h.wf.sec _ (getD_mem s.fls i [] hi')).2 ((secs s i).getD j []) (getD_mem _ _ _ hjl)
   omega
theorem RD.grows {W W' : World} {q : Nat} {s : Ds} {x : RDv} {nx : Nat} (h : RD W q s x nx) (g : Grows W W') : RD W' q s x nx := h.kept fun k hk => g.block k (h.ltU hk)
theorem RD.cell {W : World} {q : Nat} {s : Ds} {x : RDv} {nx : Nat} (h : RD W q s x nx) (i : Nat) (u : Value) (hu : (rdRow s x nx)[i]? = some u) : W.cell? ⟨q, i, none⟩ = some u := by rw [cell_of_row W q i _ _ _ h.row, hu]
theorem RD.frozen {W : World} {q : Nat} {s : Ds} {x : RDv} {nx : Nat} (h : RD W q s x nx) (i : Nat) : W.frozen? ⟨q, i, none⟩ = false := frozen_of_row W q i _ _ h.row
theorem RD.head {W : World} {q : Nat} {s : Ds} {x : RDv} {nx nx' : Nat} (h : RD W q s x nx) (W' : World) (armed : Bool) (after code : Int) (ha : -9223372036854775808 ≤ after ∧ after ≤ 9223372036854775807)
 (hr : W'.heap[q]? = some (.cells (rdRow { s with armed := armed, after := after, code := code } x nx') 76 (0, 0))) (hb : ∀ k, k < W.heap.size → k ≠ q → W'.heap[k]? = W.heap[k]?) : RD W' q { s with armed := armed, after := after, code := code } x nx' := by
 have nq : ∀ {B e k n : Nat} {v : Value} {xs : List Value}, W.ownsRow B e k v n xs → e ≠ 76 → ∀ j, v.ownBlock = some j → W'.heap[j]? = W.heap[j]? := fun ho he j hj =>
  hb j (own_lt ho j hj) (fun e => own_ne ho h.row (fun e' => he e'.symm) (by rw [hj, e]))
 refine ⟨hr, own_own h.dir (nq h.dir (by decide)), own_own h.chs (nq h.chs (by decide)), h.ssl, own_own h.fls (nq h.fls (by decide)), h.psl, own_own h.wrs (nq h.wrs (by decide)), h.spl, fun i hi => own_own (h.sec i hi) (nq (h.sec i hi) (by decide)), ?_, ?_, h.out, h.dis, ⟨h.wf.dir, h.wf.chs, h.wf.wrs, h.wf.sec, h.wf.room⟩, ha, h.small⟩
 · intro i j hi hj
   have hb' := h.byt i j hi hj
   refine byt_own hb' fun k hk' => ?_
   have hm := h.out.2 (x.sp.getD i []) (getD_mem _ _ _ (by rw [h.spl]; exact hi)) _ (getD_mem _ _ _ (by have := (h.sec i hi).1; show j < _; have : (secs s i).length = (secs { s with armed := armed, after := after, code := code } i).length := rfl; omega)) k hk'
   rcases Nat.lt_or_ge k W.heap.size with hl | hl
   · exact hb k hl (fun e => hm (.inl e))
   · exfalso
     obtain ⟨a, cap, e1, h1, h2, h3, h4⟩ := hb'
     rw [e1] at hk'
     cases a with
     | none => simp [Value.ownBlock] at hk'
     | some ad =>
      simp [Value.ownBlock] at hk'
      rcases h4 with h4 | ⟨b, off, e2, hc⟩
      · have h64 := (h.wf.sec _ (getD_mem s.fls i [] hi)).2 ((secs s i).getD j []) (getD_mem _ _ _ hj)
        have : ((secs s i).getD j []).length = 64 := h64
        rw [show (secs s i).getD j [] = [] from h4] at this
        simp at this
      · obtain rfl := Option.some.inj e2
        have h64 : ((secs s i).getD j []).length = 64 := (h.wf.sec _ (getD_mem s.fls i [] hi)).2 ((secs s i).getD j []) (getD_mem _ _ _ hj)
        have := World.block_lt_of_cell? W _ (hc 0 (by show 0 < ((secs s i).getD j []).length; omega))
        simp at this hk'
        omega
 · intro j hj
   have hb' := h.pend j hj
   refine byt_own hb' fun k hk' => ?_
   have hm := h.out.1 _ (getD_mem x.ps j undef (by rw [h.psl]; exact hj)) k hk'
   rcases Nat.lt_or_ge k W.heap.size with hl | hl
   · exact hb k hl (fun e => hm (.inl e))
   · exfalso
     obtain ⟨a, cap, e1, h1, h2, h3, h4⟩ := hb'
     rw [e1] at hk'
     have h64 : ((s.wrs[j]'hj).p).length = 64 := (h.wf.wrs _ (List.getElem_mem hj)).2.2
     cases a with
     | none => simp [Value.ownBlock] at hk'
     | some ad =>
      simp [Value.ownBlock] at hk'
      rcases h4 with h4 | ⟨b, off, e2, hc⟩
      · rw [show (s.wrs[j]'hj).p = [] from h4] at h64
        simp at h64
      · obtain rfl := Option.some.inj e2
        have := World.block_lt_of_cell? W _ (hc 0 (by show 0 < (s.wrs[j]'hj).p.length; omega))
        simp at this hk'
        omega
end Go.Proofs.YtoppcpiheaedlaaGreatDoor
end
section
/-
  The document's own disk: a name's file, an armed call, arming, what is pending, how long a file is.
-/
namespace Go.Proofs.YtoppcpiheaedlaaGreatDoor
open Go.RowKit
set_option linter.unusedVariables false
set_option linter.unusedSimpArgs false
attribute [local go_sem] sv nv
theorem RD.now {w : World} {q : Nat} {s : Ds} {x : RDv} (h : RD w q s x) :
 Calls Tryz.prog 88 #[.pointer (some ⟨q, 0, none⟩)] w fun e w' => ∃ v, e = .returned v ∧ EntR w' v (nowF s) ∧ Grows w w' :=
 (refNow q x.vd x.vc s.dir s.chs w (h.cell 1 _ rfl) (h.cell 2 _ rfl) h.dir h.chs (by have := h.small; omega)).mono (by rintro e w' ⟨v, h1, h2, h3, _⟩; exact ⟨v, h1, h2, h3⟩)
theorem RD.nowS {w : World} {q : Nat} {s : Ds} {x : RDv} (h : RD w q s x) :
 Calls Tryz.prog 88 #[.pointer (some ⟨q, 0, none⟩)] w fun e w' => ∃ v, e = .returned v ∧ EntR w' v (nowF s) ∧ Grows w w' ∧ (v.ownBlock = x.vd.ownBlock ∨ ∀ j, v.ownBlock = some j → w.heap.size ≤ j) :=
 refNow q x.vd x.vc s.dir s.chs w (h.cell 1 _ rfl) (h.cell 2 _ rfl) h.dir h.chs (by have := h.small; omega)
theorem nowF_len {s : Ds} {w : World} {q : Nat} {x : RDv} (h : RD w q s x) : (nowF s).length ≤ 2000000 := by
 have := foldl_len s.chs s.dir
 have := h.small
 unfold nowF
 omega
theorem find_take (l : List (Nm × Nat)) (nm : Nm) : ∀ (i : Nat) (h : i < l.length), (∀ j (hj : j < i), (l[j]'(by omega)).1 ≠ nm) → (l[i]).1 = nm → findF l nm = some (l[i]).2 := by
 induction l with
 | nil => intro i h; simp at h
 | cons a l ih =>
  intro i h hb he
  match i, h, he, hb with
  | 0, _, he, _ => unfold findF; rw [if_pos (show a.1 = nm from he)]; rfl
  | i + 1, h, he, hb =>
   unfold findF
   rw [if_neg (show ¬ a.1 = nm from hb 0 (by omega))]
   exact ih i (by simpa using h) (fun j hj => hb (j + 1) (by omega)) he
theorem find_none (l : List (Nm × Nat)) (nm : Nm) (h : ∀ j (hj : j < l.length), (l[j]).1 ≠ nm) : findF l nm = none := by
 induction l with
 | nil => rfl
 | cons a l ih =>
  unfold findF
  rw [if_neg (show ¬ a.1 = nm from h 0 (by simp))]
  exact ih (fun j hj => h (j + 1) (by simpa using hj))
def idR (s : Ds) (nm : Nm) : Value := match idF s nm with | some i => .tuple #[nv i, .bool true] | none => .tuple #[nv 0, .bool false]
set_option maxRecDepth 100000 in
set_option maxHeartbeats 1000000 in
theorem refId (q : Nat) (s : Ds) (x : RDv) (nm : Nm) (w : World) (h : RD w q s x) :
 Calls Tryz.prog 61 #[.pointer (some ⟨q, 0, none⟩), sv nm] w fun e w' => e = .returned (idR s nm) ∧ Grows w w' := by
 have HN := Lib.hid h.now
 have hlen := nowF_len h
 obtain ⟨l, Hl⟩ : ∃ l, Hid (nowF s = l) := ⟨_, rfl⟩
 rw [Hl.out] at HN hlen
 clear h
 unfold sv
 go_enter Tryz.func61, Tryz.ntmps61
 go_wp2_with fail
 refine HN.out.mono ?_
 rintro e w1 ⟨v, rfl, hE, hG⟩
 obtain ⟨a, cap, rfl⟩ := own_form hE
 have HE := Lib.hid hE
 have HG := Lib.hid hG
 clear hE hG
 go_wp2
 go_loop [7] (fun t7 => ∃ i : Nat, i ≤ l.length ∧ t7 = .int .i64 i ∧ Hid (∀ j (hj : j < l.length), j < i → (l[j]).1 ≠ nm))
  (fun t7 => l.length - (intOf t7).toNat)
 case atStart => exact ⟨0, by omega, rfl, fun j _ hj => by omega⟩
 case round =>
  obtain ⟨i, hin, rfl, Hb⟩ := hrel
  by_cases hlt : i < l.length
  · have hltI : (i : Int) < (l.length : Int) := by omega
    have hbi : ¬ ((l.length : Int) ≤ (i : Int)) := by omega
    obtain ⟨g, cap', e1⟩ := own_some HE.out (by omega)
    simp only [Value.slice.injEq] at e1
    obtain ⟨rfl, -, rfl⟩ := e1
    have hc0 := HE.out.name i hlt
    have hc1 := HE.out.num i hlt
    obtain ⟨ni, hni⟩ : ∃ y, (l[i]).1 = y := ⟨_, rfl⟩
    obtain ⟨ii, hii⟩ : ∃ y, (l[i]).2 = y := ⟨_, rfl⟩
    rw [hni] at hc0
    rw [hii] at hc1
    unfold sv at hc0
    unfold nv at hc1
    have hs := str_eq ni nm
    by_cases he : ni = nm
    · have Hr : Hid (idR s nm = .tuple #[.int .i64 (ii : Int), .bool true]) := by
       show _ = _
       unfold idR idF
       rw [Hl.out, find_take l nm i hlt (fun j hj => Hb.out j (by omega) hj) (hni.trans he), hii]
       rfl
      rw [decide_eq_true he] at hs
      clear hni hii he hin hlt
      go_wp2
      go_ret2
      exact ⟨by rw [Hr.out]; rfl, HG.out⟩
    · rw [decide_eq_false he] at hs
      have Hb2 : Hid (∀ j (hj : j < l.length), j < i + 1 → (l[j]).1 ≠ nm) := fun j hj hji => by
       by_cases hjj : j = i
       · subst hjj; rw [hni]; exact he
       · exact Hb.out j hj (by omega)
      have Hi := Lib.hid hlt
      clear hni hii he hin hlt
      go_wp2
      go_round
      case rel => exact ⟨i + 1, Hi.out, by simp, Hb2.out⟩
      case measure => have := Hi.out; simp [intOf]; omega
  · have hltI : ¬ (i : Int) < (l.length : Int) := by omega
    have Hr : Hid (idR s nm = .tuple #[.int .i64 0, .bool false]) := by
     show _ = _
     unfold idR idF
     rw [Hl.out, find_none l nm (fun j hj => Hb.out j hj (by omega))]
     rfl
    go_wp2
    go_ret2
    exact ⟨by rw [Hr.out]; rfl, HG.out⟩
theorem rdRow_set7 (s : Ds) (x : RDv) (t : Int) : (rdRow s x).setIfInBounds 7 (.int .i64 t) = rdRow { s with armed := s.armed, after := t, code := s.code } x := rfl
theorem rdRow_set6 (s : Ds) (x : RDv) (t : Bool) : (rdRow s x).setIfInBounds 6 (.bool t) = rdRow { s with armed := t, after := s.after, code := s.code } x := rfl
theorem rdRow_set8 (s : Ds) (x : RDv) (t : Int) : (rdRow s x).setIfInBounds 8 (.int .i64 t) = rdRow { s with armed := s.armed, after := s.after, code := t } x := rfl
theorem RD.setHead {w : World} {q : Nat} {s : Ds} {x : RDv} (h : RD w q s x) (i : Nat) (u : Value) (s' : Ds) (hs : s' = { s with armed := s'.armed, after := s'.after, code := s'.code }) (hr : (rdRow s x).setIfInBounds i u = rdRow s' x) (ha : -9223372036854775808 ≤ s'.after ∧ s'.after ≤ 9223372036854775807) : RD (w.setCell ⟨q, i, none⟩ u) q s' x ∧ But (fun k => k = q) w (w.setCell ⟨q, i, none⟩ u) := by
 have hrow := row_setCell h.row i u
 rw [hr] at hrow
 refine ⟨?_, But.setCell (But.refl' _ _) _ _ rfl⟩
 rw [hs] at hrow ⊢
 exact h.head _ _ _ _ ha hrow (fun k hk hne => Below.heap_setCell _ _ _ _ (fun e => hne (by first | exact e | exact e.symm)))
set_option maxRecDepth 100000 in
set_option maxHeartbeats 1000000 in
theorem refFails (q : Nat) (s : Ds) (x : RDv) (w : World) (h : RD w q s x) :
 Calls Tryz.prog 87 #[.pointer (some ⟨q, 0, none⟩)] w fun e w' => e = .returned (.int .i64 (failsF s).1) ∧ RD w' q (failsF s).2 x ∧ But (fun k => k = q) w w' := by
 have c6 := h.cell 6 (.bool s.armed) rfl
 have c7 := h.cell 7 (.int .i64 s.after) rfl
 have c8 := h.cell 8 (.int .i64 s.code) rfl
 have f6 := h.frozen 6
 have f7 := h.frozen 7
 have H := Lib.hid h
 have ha := h.aft
 clear h
 by_cases harm : s.armed = false
 · have Hr : Hid (failsF s = (0, s)) := by show _ = _; unfold failsF; rw [if_pos harm]
   rw [harm] at c6
   go_enter Tryz.func87, Tryz.ntmps87
   go_wp2
   go_ret
   rw [Hr.out]
   exact ⟨rfl, H.out, But.refl' _ _⟩
 · have harm' : s.armed = true := by simpa using harm
   rw [harm'] at c6
   by_cases haf : 0 < s.after
   · have Hr : Hid (failsF s = (0, { s with after := s.after - 1 })) := by show _ = _; unfold failsF; rw [if_neg harm, if_pos haf]
     have hset := H.out.setHead 7 (.int .i64 (s.after - 1)) { s with after := s.after - 1 } rfl (rdRow_set7 s x (s.after - 1)) (by show _ ≤ s.after - 1 ∧ s.after - 1 ≤ _; omega)
     have HS := Lib.hid hset
     obtain ⟨af, haf2⟩ : ∃ y, s.after = y := ⟨_, rfl⟩
     have HS2 : Hid (RD (w.setCell ⟨q, 7, none⟩ (.int .i64 (af - 1))) q { s with after := s.after - 1 } x ∧ But (fun k => k = q) w (w.setCell ⟨q, 7, none⟩ (.int .i64 (af - 1)))) := by show _ ∧ _; rw [← haf2]; exact hset
     rw [haf2] at c7 haf ha
     clear hset harm harm' haf2 HS
     go_enter Tryz.func87, Tryz.ntmps87
     go_wp2
     go_ret
     rw [Hr.out]
     exact ⟨rfl, HS2.out.1, HS2.out.2⟩
   · have Hr : Hid (failsF s = (s.code, { s with armed := false })) := by show _ = _; unfold failsF; rw [if_neg harm, if_neg haf]
     have hset := H.out.setHead 6 (.bool false) { s with armed := false } rfl (rdRow_set6 s x false) ha
     have HS := Lib.hid hset
     obtain ⟨af, haf2⟩ : ∃ y, s.after = y := ⟨_, rfl⟩
     obtain ⟨cd, hcd2⟩ : ∃ y, s.code = y := ⟨_, rfl⟩
     rw [haf2] at c7 haf
     have c8' : w.cell? ⟨q, 8, none⟩ = some (.int .i64 cd) := by rw [← hcd2]; exact c8
     have c8'' : (w.setCell ⟨q, 6, none⟩ (.bool false)).cell? ⟨q, 8, none⟩ = some (.int .i64 cd) := by
      rw [← hcd2]
      exact hset.1.cell 8 (.int .i64 s.code) rfl
     have Hcd : Hid (s.code = cd) := hcd2
     clear hset harm harm' haf2 hcd2 ha c8
     go_enter Tryz.func87, Tryz.ntmps87
     go_wp2
     go_ret
     rw [Hr.out]
     refine ⟨?_, HS.out.1, HS.out.2⟩
     show _ = Ending.returned (.int .i64 s.code)
     rw [Hcd.out]
     rfl
end Go.Proofs.YtoppcpiheaedlaaGreatDoor
end
