import Derived.Shelf.SlGeneric
import Derived.Shelf.SlIter.Nil
import Derived.Shelf.SortM.Plain
import Derived.Shelf.SortM.SortNone
import Derived.Ground.GgzProg
import Derived.Ground.SlgmProg
import Derived.Test.YtoppcpiheaedlaaGreatDoorProg
import Derived.Test.YtoppcpiheaedlaaGreatDoorMB2
import Derived.Test.YtoppcpiheaedlaaGreatDoorMB4
section
/-
  The library's contracts of maps.Keys, slices.Sorted and slices.Sort at this program's numbers, in plain words.
-/
namespace Go.Proofs.YtoppcpiheaedlaaGreatDoor
open Go.Shelf
def keysA_ren : Go.Shelf.Ren := ⟨fun | 7 => 58 | 10 => 94 | n => n, fun | 23 => 103 | 26 => 9 | 3 => 3 | 28 => 119 | 0 => 0 | 27 => 118 | 33 => 130 | 4 => 4 | n => n, fun | n => n⟩
theorem keysA : Go.Proofs.SlLaysZ.n7 Tryz.prog keysA_ren := {
 mixed := by kernel_rfl
 f7 := ⟨Tryz.f58.name, by decide, Tryz.func58.trans (congrArg some (by kernel_rfl))⟩
 f10 := ⟨Tryz.f94.name, by decide, Tryz.func94.trans (congrArg some (by kernel_rfl))⟩
 t0 := Tryz.underlying0
 a0 := Tryz.isAgg0
 z0 := Tryz.sizeOf0
 v0 := Tryz.zeroValue0
 t4 := Tryz.underlying4
 a4 := Tryz.isAgg4
 z4 := Tryz.sizeOf4
 v4 := Tryz.zeroValue4
 t23 := Tryz.underlying103
 a23 := Tryz.isAgg103
 z23 := Tryz.sizeOf103
 v23 := Tryz.zeroValue103
 t26 := Tryz.underlying9
 a26 := Tryz.isAgg9
 z26 := Tryz.sizeOf9
 v26 := Tryz.zeroValue9
 t27 := Tryz.underlying118
 a27 := Tryz.isAgg118
 z27 := Tryz.sizeOf118
 v27 := Tryz.zeroValue118
 t28 := Tryz.underlying119
 a28 := Tryz.isAgg119
 z28 := Tryz.sizeOf119
 v28 := Tryz.zeroValue119
 t33 := Tryz.underlying130
 a33 := Tryz.isAgg130
 z33 := Tryz.sizeOf130
 v33 := Tryz.zeroValue130 }
def sortedA_ren : Go.Shelf.Ren := ⟨fun | 6 => 57 | 8 => 92 | 9 => 93 | 11 => 108 | 13 => 110 | 12 => 109 | 23 => 127 | 24 => 128 | 14 => 118 | 15 => 119 | 16 => 120 | 17 => 121 | 18 => 122 | 19 => 123 | 20 => 124 | 21 => 125 | 22 => 126 | 25 => 134 | 26 => 135 | 27 => 136 | 28 => 137 | 29 => 138 | 30 => 139 | 31 => 141 | n => n, fun | 26 => 9 | 28 => 119 | 24 => 58 | 0 => 0 | 3 => 3 | 37 => 198 | 48 => 218 | 50 => 123 | 4 => 4 | 40 => 211 | 39 => 210 | 45 => 124 | 5 => 5 | 9 => 9 | 51 => 226 | 55 => 230 | 57 => 233 | 58 => 56 | 33 => 130 | n => n, fun | n => n⟩
theorem sortedA : Go.Proofs.SlLaysZ.n6 Tryz.prog sortedA_ren := {
 mixed := by kernel_rfl
 f6 := ⟨Tryz.f57.name, by decide, Tryz.func57.trans (congrArg some (by kernel_rfl))⟩
 f8 := ⟨Tryz.f92.name, by decide, Tryz.func92.trans (congrArg some (by kernel_rfl))⟩
 f11 := ⟨Tryz.f108.name, by decide, Tryz.func108.trans (congrArg some (by kernel_rfl))⟩
 t0 := Tryz.underlying0
 a0 := Tryz.isAgg0
 z0 := Tryz.sizeOf0
 v0 := Tryz.zeroValue0
 t24 := Tryz.underlying58
 a24 := Tryz.isAgg58
 z24 := Tryz.sizeOf58
 v24 := Tryz.zeroValue58
 t26 := Tryz.underlying9
 a26 := Tryz.isAgg9
 z26 := Tryz.sizeOf9
 v26 := Tryz.zeroValue9
 t28 := Tryz.underlying119
 a28 := Tryz.isAgg119
 z28 := Tryz.sizeOf119
 v28 := Tryz.zeroValue119
 i26 := by kernel_rfl }
def sortA_ren : Go.Shelf.Ren := ⟨fun | 6 => 93 | 8 => 110 | 9 => 109 | 19 => 127 | 20 => 128 | 21 => 118 | 22 => 119 | 23 => 120 | 24 => 121 | 25 => 122 | 26 => 123 | 27 => 124 | 28 => 125 | 29 => 126 | 36 => 134 | 31 => 135 | 32 => 136 | 37 => 137 | 38 => 138 | 39 => 139 | 41 => 141 | n => n, fun | 27 => 58 | 29 => 9 | 3 => 3 | 32 => 198 | 26 => 58 | 0 => 0 | 44 => 218 | 46 => 123 | 4 => 4 | 36 => 211 | 35 => 210 | 41 => 124 | 5 => 5 | 9 => 9 | 53 => 226 | 57 => 230 | 63 => 233 | 64 => 56 | n => n, fun | n => n⟩
theorem sortA : Go.Proofs.SlLaysM.n6 Tryz.prog sortA_ren := {
 mixed := by kernel_rfl
 f6 := ⟨Tryz.f93.name, by decide, Tryz.func93.trans (congrArg some (by kernel_rfl))⟩
 f8 := Tryz.func110.trans (congrArg some (by kernel_rfl))
 f9 := ⟨Tryz.f109.name, by decide, Tryz.func109.trans (congrArg some (by kernel_rfl))⟩
 f19 := Tryz.func127.trans (congrArg some (by kernel_rfl))
 f20 := Tryz.func128.trans (congrArg some (by kernel_rfl))
 f21 := ⟨Tryz.f118.name, by decide, Tryz.func118.trans (congrArg some (by kernel_rfl))⟩
 f22 := ⟨Tryz.f119.name, by decide, Tryz.func119.trans (congrArg some (by kernel_rfl))⟩
 f23 := ⟨Tryz.f120.name, by decide, Tryz.func120.trans (congrArg some (by kernel_rfl))⟩
 f24 := ⟨Tryz.f121.name, by decide, Tryz.func121.trans (congrArg some (by kernel_rfl))⟩
 f25 := ⟨Tryz.f122.name, by decide, Tryz.func122.trans (congrArg some (by kernel_rfl))⟩
 f26 := ⟨Tryz.f123.name, by decide, Tryz.func123.trans (congrArg some (by kernel_rfl))⟩
 f27 := ⟨Tryz.f124.name, by decide, Tryz.func124.trans (congrArg some (by kernel_rfl))⟩
 f28 := ⟨Tryz.f125.name, by decide, Tryz.func125.trans (congrArg some (by kernel_rfl))⟩
 f29 := ⟨Tryz.f126.name, by decide, Tryz.func126.trans (congrArg some (by kernel_rfl))⟩
 f31 := Tryz.func135.trans (congrArg some (by kernel_rfl))
 f32 := Tryz.func136.trans (congrArg some (by kernel_rfl))
 f36 := ⟨Tryz.f134.name, by decide, Tryz.func134.trans (congrArg some (by kernel_rfl))⟩
 f37 := ⟨Tryz.f137.name, by decide, Tryz.func137.trans (congrArg some (by kernel_rfl))⟩
 f38 := ⟨Tryz.f138.name, by decide, Tryz.func138.trans (congrArg some (by kernel_rfl))⟩
 f39 := ⟨Tryz.f139.name, by decide, Tryz.func139.trans (congrArg some (by kernel_rfl))⟩
 f41 := ⟨Tryz.f141.name, by decide, Tryz.func141.trans (congrArg some (by kernel_rfl))⟩
 t0 := Tryz.underlying0
 a0 := Tryz.isAgg0
 z0 := Tryz.sizeOf0
 v0 := Tryz.zeroValue0
 t3 := Tryz.underlying3
 a3 := Tryz.isAgg3
 z3 := Tryz.sizeOf3
 v3 := Tryz.zeroValue3
 t4 := Tryz.underlying4
 a4 := Tryz.isAgg4
 z4 := Tryz.sizeOf4
 v4 := Tryz.zeroValue4
 t5 := Tryz.underlying5
 a5 := Tryz.isAgg5
 z5 := Tryz.sizeOf5
 v5 := Tryz.zeroValue5
 t9 := Tryz.underlying9
 a9 := Tryz.isAgg9
 z9 := Tryz.sizeOf9
 v9 := Tryz.zeroValue9
 t26 := Tryz.underlying58
 a26 := Tryz.isAgg58
 z26 := Tryz.sizeOf58
 v26 := Tryz.zeroValue58
 t27 := Tryz.underlying58
 a27 := Tryz.isAgg58
 z27 := Tryz.sizeOf58
 v27 := Tryz.zeroValue58
 t29 := Tryz.underlying9
 a29 := Tryz.isAgg9
 z29 := Tryz.sizeOf9
 v29 := Tryz.zeroValue9
 t32 := Tryz.underlying198
 a32 := Tryz.isAgg198
 z32 := Tryz.sizeOf198
 v32 := Tryz.zeroValue198
 t35 := Tryz.underlying210
 a35 := Tryz.isAgg210
 z35 := Tryz.sizeOf210
 v35 := Tryz.zeroValue210
 t36 := Tryz.underlying211
 a36 := Tryz.isAgg211
 z36 := Tryz.sizeOf211
 v36 := Tryz.zeroValue211
 t41 := Tryz.underlying124
 a41 := Tryz.isAgg124
 z41 := Tryz.sizeOf124
 v41 := Tryz.zeroValue124
 t44 := Tryz.underlying218
 a44 := Tryz.isAgg218
 z44 := Tryz.sizeOf218
 v44 := Tryz.zeroValue218
 t46 := Tryz.underlying123
 a46 := Tryz.isAgg123
 z46 := Tryz.sizeOf123
 v46 := Tryz.zeroValue123
 t53 := Tryz.underlying226
 a53 := Tryz.isAgg226
 z53 := Tryz.sizeOf226
 v53 := Tryz.zeroValue226
 t57 := Tryz.underlying230
 a57 := Tryz.isAgg230
 z57 := Tryz.sizeOf230
 v57 := Tryz.zeroValue230
 t63 := Tryz.underlying233
 a63 := Tryz.isAgg233
 z63 := Tryz.sizeOf233
 v63 := Tryz.zeroValue233
 t64 := Tryz.underlying56
 a64 := Tryz.isAgg56
 z64 := Tryz.sizeOf56
 v64 := Tryz.zeroValue56 }
end Go.Proofs.YtoppcpiheaedlaaGreatDoor
end
section
/-
  A map's keys, sorted: slices.Sorted(maps.Keys(m)).
-/
namespace Go.Proofs.YtoppcpiheaedlaaGreatDoor
open Go.RowKit Go.Maps Go.Sort Go.Shelf Go.MapKept
open Go.WideElems (Fit)
set_option linter.unusedVariables false
set_option linter.unusedSimpArgs false
def anyR (_ : Value) : Option (DataW Nat × List MemPlace) := some (.lit (.bool true), [])
def bytesOf (v : Value) : List UInt8 := match v with | .string s => s.data.toList | _ => []
theorem key_sv {P : Program} {k : TypeId} (hk : P.underlying k = some .string) (a : Nm) (ha : okS a) : keyOf P k (sv a) = some (.string a) := by
 have h := Go.WideMaps.keyOf_string_mk hk (s := ⟨a.toArray⟩) (by show a.toArray.size ≤ maxLen; simpa [okS] using ha)
 unfold sv
 rw [h]
set_option maxRecDepth 100000 in
theorem map_owns {W : World} {b : Nat} {l : Dir} (h : MapA sv nv W b l) (hok : ∀ p ∈ l, okS p.1) :
 ∃ (nn : Nat) (D : DataW Nat), W.ownsMap Tryz.prog 9 anyR b nn D ∧ (strKeys D).Perm (l.map (·.1)) ∧ Maps.size D = l.length := by
 obtain ⟨es, clock, hb, hst, hsz, hp⟩ := h
 have hkey : ∀ x ∈ es.toList, ∃ a, x.key = sv a ∧ okS a := fun x hx => by
  have h1 : (x.key, x.val) ∈ es.toList.map fun e => (e.key, e.val) := List.mem_map.2 ⟨x, hx, rfl⟩
  obtain ⟨p, hp', e⟩ := List.mem_map.1 (hp.mem_iff.1 h1)
  simp only [Prod.mk.injEq] at e
  exact ⟨p.1, e.1.symm, hok p hp'⟩
 have hrd : ∀ x ∈ es.toList, Go.WideElems.rd Tryz.prog 9 anyR x = some (.string (bytesOf x.key), .lit (.bool true)) := fun x hx => by
  obtain ⟨a, ha, ho⟩ := hkey x hx
  have : bytesOf x.key = a := by rw [ha]; simp [bytesOf, sv]
  rw [this]
  unfold Go.WideElems.rd
  rw [ha, key_sv Tryz.underlying9 a ho]
  rfl
 have F : Fit Tryz.prog 9 anyR es clock := ⟨hsz, hst, fun x hx => ⟨_, hrd x hx⟩⟩
 refine ⟨es.size, _, ⟨es, clock, hb, F, Nat.le_refl _, rfl⟩, ?_, ?_⟩
 · show ((List.foldr DataW.insert [] _).map fun p => strOf p.1).Perm _
   refine ((Go.WideShapes.sorted_perm _).map _).trans ?_
   rw [List.map_map]
   have e1 : es.toList.map ((fun p => strOf p.1) ∘ Go.WideElems.rg Tryz.prog 9 anyR) = (es.toList.map fun e => (e.key, e.val)).map fun x => bytesOf x.1 := by
    rw [List.map_map]
    apply List.map_congr_left
    intro x hx
    show strOf (Go.WideElems.rg Tryz.prog 9 anyR x).1 = bytesOf x.key
    unfold Go.WideElems.rg
    rw [hrd x hx]
    rfl
   rw [e1]
   refine (hp.map _).trans ?_
   rw [List.map_map]
   rw [List.map_congr_left (g := (·.1)) (fun p _ => by show bytesOf (sv p.1) = p.1; simp [bytesOf, sv])]
 · show (List.foldr DataW.insert [] _).length = _
   rw [length_sorted]
   have := hp.length_eq
   simpa using this
def sortN (l : List Nm) : List Nm := l.mergeSort leB
theorem sortN_perm {l l' : List Nm} (h : l.Perm l') : sortN l = sortN l' := mergeSort_of_perm h
theorem sortsA (m : Nat) : AnyZ.SortsIn Tryz.prog sortedA_ren Fence.wide m :=
 ⟨fun blk off cap ss W hH hblk hsz => callsIn_wide.2 (AnyM.slices_Sort_string sortA blk off cap ss W hH hblk hsz),
  fun p cap W => callsIn_wide.2 (AnyM.slices_Sort_string_none sortA p cap W)⟩
def keysV (w : World) : Value := .func (.func 94) #[] #[.pointer (some ⟨w.heap.size, 0, none⟩)]
theorem pKeys (b : Nat) (w : World) : Calls Tryz.prog 58 #[.map (some b)] w fun e w' => e = .returned (keysV w) ∧ w' = w.alloc (.cells #[.map (some b)] 103) :=
 (callsIn_wide (n := 6)).1 (AnyZ.keys_in keysA Fence.wide 6 trivial rfl (some b) w)
set_option maxRecDepth 100000 in
theorem pSorted (b : Nat) (l : Dir) (w w0 : World) (h : MapA sv nv w0 b l) (hok : ∀ p ∈ l, okS p.1) (hl : l.length ≤ 1000000) (hw : w = w0.alloc (.cells #[.map (some b)] 103)) :
 Calls Tryz.prog 57 #[keysV w0] w fun e w' => ∃ v, e = .returned v ∧ w'.ownsRow w.heap.size 9 1 v l.length ((sortN (l.map (·.1))).map sv) ∧ Grows w w' := by
 subst hw
 obtain ⟨nn, D, hown, hpD, hsD⟩ := map_owns h hok
 have hbl := hown.lt
 have hseq : SeqGives Fence.wide 2 Tryz.prog 94 #[.pointer (some ⟨w0.heap.size, 0, none⟩)] encStr (fun ss => ss.Perm (strKeys D)) (Maps.size D) (w0.alloc (.cells #[.map (some b)] 103)) :=
  AnyZ.keys_gives (ρ := keysA_ren) { keysA with } Fence.wide _ trivial rfl (by omega) w0.heap.size b nn D _ (by simp) (by simp) (by
   obtain ⟨es, clock, hb, Ft, hs, hD⟩ := hown
   exact ⟨es, clock, (Below.heap_alloc _ _ b hbl).trans hb, Ft, hs, hD⟩)
 have hmax : Maps.size D ≤ maxLen := by rw [hsD]; unfold maxLen; omega
 have hbytes : Maps.size D * 16 ≤ 140737488355328 := by rw [hsD]; omega
 refine ((callsIn_wide (n := 5)).1 (AnyZ.sorted_in sortedA Fence.wide 5 trivial trivial trivial trivial rfl (by omega) (sortsA _) (enters_of Tryz.func93 (by kernel_rfl) rfl) 94 #[.pointer (some ⟨w0.heap.size, 0, none⟩)] trivial (enters_of Tryz.func94 (by kernel_rfl) rfl) _ _ hmax hbytes _ hseq)).mono ?_
 rintro e w' ⟨v, ss, rfl, hS, hrow, hnil, hB⟩
 have hlen : ss.length = l.length := by rw [(hS.trans hpD).length_eq]; simp
 refine ⟨v, rfl, ?_, hB⟩
 rw [hlen] at hrow
 have e1 : ss.mergeSort (fun x y => decide (x ≤ y)) = sortN (l.map (·.1)) := sortN_perm (hS.trans hpD)
 rw [e1] at hrow
 exact hrow
end Go.Proofs.YtoppcpiheaedlaaGreatDoor
end
section
/-
  The program's disk: Pending, Len, Names.
-/
namespace Go.Proofs.YtoppcpiheaedlaaGreatDoor
open Go.RowKit Go.Maps
set_option linter.unusedVariables false
set_option linter.unusedSimpArgs false
attribute [local go_sem] sv nv mv pv
set_option maxRecDepth 100000 in
theorem PPending {w : World} {q : Nat} {x : Px} (h : PD w q x) :
 Calls Tryz.prog 25 #[.pointer (some ⟨q, 0, none⟩)] w fun e w' => e = .returned (.tuple #[nv x.s.pend.length, nv (x.s.dirs.length - 1)]) ∧ Grows w w' := by
 have hmx : Tryz.prog.follows .mixedOrders = true := by kernel_rfl
 have hpos : 0 < x.dirs.length := List.length_pos_iff.2 h.wf.ne
 have hds : x.s.dirs.length = x.dirs.length := by simp [Px.s]
 rw [hds]
 show Calls _ _ _ _ fun e w' => e = .returned (.tuple #[nv x.pend.length, _]) ∧ _
 obtain ⟨a4, k4, e4⟩ := own_form h.pend
 obtain ⟨a1, k1, e1⟩ := own_form h.dirs.row
 have c4 := h.cell 4 x.vp rfl
 have c1 := h.cell 1 x.vd rfl
 rw [e4] at c4
 rw [e1] at c1
 have hsm := h.wf.small
 obtain ⟨np, Hnp⟩ : ∃ n, Hid (x.pend.length = n) := ⟨_, rfl⟩
 obtain ⟨nd, hnd⟩ : ∃ n, x.dirs.length = n + 1 := ⟨x.dirs.length - 1, by omega⟩
 have hndi : ((nd + 1 : Nat) : Int) ≤ 100000000 := by omega
 rw [Hnp.out] at c4 ⊢
 rw [hnd] at c1 ⊢
 clear h e4 e1 hpos hds hsm hnd
 go_enter Tryz.func25, Tryz.ntmps25
 go_wp2
 have cX := fun X (hX : Grows _ X) => And.intro (Grows.cell' hX c1) (Grows.cell' hX c4)
 refine specs_region
  #[[], [0], [0, 1], [0, 1, 2], [0, 1, 2, 3], [], [5], [5, 6], [5, 6, 7], [5, 6, 7, 8], [5, 6, 7, 8, 9], [0, 1, 2, 3, 4], [0, 1, 2, 3, 4, 5, 6, 7, 8, 9, 10, 11]] #[[0], [], [], [], [], [0], [], [], [], [], [], [], []] #[true, true, true, true, true, true, true, true, true, true, true, true, true]
  ((.val ?v0) :: (.val ?v1) :: (.val ?v2) :: (.val ?v3) :: (.val ?v4) :: (.val ?v5) :: (.val ?v6) :: (.val ?v7) :: (.val ?v8) :: (.val ?v9) :: (.val ?v10) :: (.val ?v11) :: (.val ?v12) :: []).toArray
  hmx ?chk ?grd ?stp ?rst
 case chk => rfl
 case stp =>
  refine ⟨?_, ?_, ?_, ?_, ?_, ?_, ?_, ?_, ?_, ?_, ?_, ?_, ?_, trivial⟩
  · refine stepO 0 ?v0 rfl (fun _ _ => rfl) rfl (fun _ => rfl) (by decide) ?_; show (.pointer (some ⟨q, 0, none⟩) : Value) = _; rfl
  · refine stepR (o := ⟨_, .nilCheck (.tmp 6), _, _, _, _⟩) ?v1 rfl rfl (fun _ => rfl) fun ρ X hc hf hgl hX hp ho => ?_; have k6 : ρ (.tmp 6) = ?v0 := hp 0 (by decide); clear hp ho hX; go_simp; (all_goals rfl)
  · refine stepR (o := ⟨_, .fieldAddr 100 (.tmp 7) 4, _, _, _, _⟩) ?v2 rfl rfl (fun _ => rfl) fun ρ X hc hf hgl hX hp ho => ?_; have k7 : ρ (.tmp 7) = ?v1 := hp 1 (by decide); clear hp ho hX; go_simp; (all_goals rfl)
  · refine stepR (o := ⟨_, .load 96 (.tmp 8), _, _, _, _⟩) ?v3 rfl rfl (fun _ => rfl) fun ρ X hc hf hgl hX hp ho => ?_; have k8 : ρ (.tmp 8) = ?v2 := hp 2 (by decide); have cX := cX X hX; clear hp ho hX; go_simp; (all_goals rfl)
  · refine stepR (o := ⟨_, .call { callee := .builtin .len, args := #[.tmp 9], argTypes := #[96] }, _, _, _, _⟩) ?v4 rfl rfl (fun _ => rfl) fun ρ X hc hf hgl hX hp ho => ?_; have k9 : ρ (.tmp 9) = ?v3 := hp 3 (by decide); clear hp ho hX; go_simp; (all_goals try go_bits); (all_goals try simp only [IntWalk.iteOmega]); (all_goals try go_bits); (all_goals rfl)
  · refine stepO 0 ?v5 rfl (fun _ _ => rfl) rfl (fun _ => rfl) (by decide) ?_; show (.pointer (some ⟨q, 0, none⟩) : Value) = _; rfl
  · refine stepR (o := ⟨_, .nilCheck (.tmp 11), _, _, _, _⟩) ?v6 rfl rfl (fun _ => rfl) fun ρ X hc hf hgl hX hp ho => ?_; have k11 : ρ (.tmp 11) = ?v5 := hp 5 (by decide); clear hp ho hX; go_simp; (all_goals rfl)
  · refine stepR (o := ⟨_, .fieldAddr 100 (.tmp 12) 1, _, _, _, _⟩) ?v7 rfl rfl (fun _ => rfl) fun ρ X hc hf hgl hX hp ho => ?_; have k12 : ρ (.tmp 12) = ?v6 := hp 6 (by decide); clear hp ho hX; go_simp; (all_goals rfl)
  · refine stepR (o := ⟨_, .load 94 (.tmp 13), _, _, _, _⟩) ?v8 rfl rfl (fun _ => rfl) fun ρ X hc hf hgl hX hp ho => ?_; have k13 : ρ (.tmp 13) = ?v7 := hp 7 (by decide); have cX := cX X hX; clear hp ho hX; go_simp; (all_goals rfl)
  · refine stepR (o := ⟨_, .call { callee := .builtin .len, args := #[.tmp 14], argTypes := #[94] }, _, _, _, _⟩) ?v9 rfl rfl (fun _ => rfl) fun ρ X hc hf hgl hX hp ho => ?_; have k14 : ρ (.tmp 14) = ?v8 := hp 8 (by decide); clear hp ho hX; go_simp; (all_goals try go_bits); (all_goals try simp only [IntWalk.iteOmega]); (all_goals try go_bits); (all_goals rfl)
  · refine stepR (o := ⟨_, .binOp .sub 3 (.tmp 15) (.const (.int .i64 1)) 3, _, _, _, _⟩) ?v10 rfl rfl (fun _ => rfl) fun ρ X hc hf hgl hX hp ho => ?_; have k15 : ρ (.tmp 15) = ?v9 := hp 9 (by decide); clear hp ho hX; go_simp; (all_goals try go_bits); (all_goals try simp only [IntWalk.iteOmega]); (all_goals try go_bits); (all_goals rfl)
  · refine stepP 10 4 (?v4) ?v11 rfl (fun _ _ => rfl) rfl (fun _ => rfl) (by decide) rfl (fun _ _ h => h) ?_; rfl
  · refine stepP 16 10 (?v10) ?v12 rfl (fun _ _ => rfl) rfl (fun _ => rfl) (by decide) rfl (fun _ _ h => h) ?_; rfl
 case grd => rfl
 case rst =>
  intro a0 X hb
  have hfr := hb.frame ((2, ?v11) :: (3, ?v12) :: (6, ?v0) :: (7, ?v1) :: (8, ?v2) :: (9, ?v3) :: (10, ?v4) :: (11, ?v5) :: (12, ?v6) :: (13, ?v7) :: (14, ?v8) :: (15, ?v9) :: (16, ?v10) :: []) rfl ⟨hb.done' 11 2 rfl rfl, hb.done' 12 3 rfl rfl, hb.done' 0 6 rfl rfl, hb.done' 1 7 rfl rfl, hb.done' 2 8 rfl rfl, hb.done' 3 9 rfl rfl, hb.done' 4 10 rfl rfl, hb.done' 5 11 rfl rfl, hb.done' 6 12 rfl rfl, hb.done' 7 13 rfl rfl, hb.done' 8 14 rfl rfl, hb.done' 9 15 rfl rfl, hb.done' 10 16 rfl rfl, trivial⟩
  simp only [updL, ↓reduceIte, Nat.reduceEqDiff, Nat.reduceAdd, Nat.zero_add] at hfr
  have HX := Lib.hid hb.ext
  clear hb cX
  subst hfr
  have HGX := Lib.hid HX.out
  clear c1 c4 HX
  go_wp2
  go_ret2
  exact ⟨by first | rfl | (simp [nv]), HGX.out⟩
theorem own_lower {W : World} {B B' e k n : Nat} {v : Value} {xs : List Value} (h : W.ownsRow B e k v n xs) (hB : B' ≤ B) : W.ownsRow B' e k v n xs :=
 ⟨h.1, h.2.imp id fun ⟨g, cap, cur, e1, hb, r⟩ => ⟨g, cap, cur, e1, Nat.le_trans hB hb, r⟩⟩
def opLenP : List UInt8 := [108, 101, 110]
set_option maxRecDepth 100000 in
set_option maxHeartbeats 1000000 in
theorem PLen {w : World} {q : Nat} {x : Px} (h : PD w q x) (nm : Nm) (hn : okS nm) :
 Calls Tryz.prog 24 #[.pointer (some ⟨q, 0, none⟩), sv nm] w fun e w' => ∃ u, e = .returned (.tuple #[nv (lenP x.s nm).1, u]) ∧ IsFault w' u opLenP nm (lenP x.s nm).2 ∧ Grows w w' := by
 have HF := Lib.hid (pFind h nm hn)
 unfold sv at HF ⊢
 cases hd : findA (nowX x).2 nm with
 | none =>
  have hr : findR (nowX x).2 nm = .tuple #[.int .i64 0, .int .i64 7] := by unfold findR; rw [hd]
  have Hr : Hid (lenP x.s nm = (0, 7)) := by show _ = _; unfold lenP; rw [nowX_s, hd]
  rw [hr] at HF
  have HA : Hid (∀ W, Calls Tryz.prog 35 #[.string ⟨#[108, 101, 110]⟩, .string ⟨nm.toArray⟩, .int .i64 7] W fun e w' => ∃ v, e = .returned v ∧ IsFault w' v opLenP nm 7 ∧ Grows W w') := fun W => pFault opLenP nm 7 W
  clear h hn hd hr
  go_enter Tryz.func24, Tryz.ntmps24
  go_wp2_with fail
  refine HF.out.mono ?_
  rintro e w1 ⟨rfl, hG⟩
  have HG := Lib.hid hG
  clear hG
  go_wp2_with fail
  refine (HA.out w1).mono ?_
  rintro e w2 ⟨v, rfl, hv, hG2⟩
  have HV := Lib.hid hv
  have HG2 := Lib.hid (Grows.trans' HG.out hG2)
  clear hv hG2
  go_wp2
  go_ret2
  exact ⟨v, by rw [Hr.out]; rfl, by rw [Hr.out]; exact HV.out, HG2.out⟩
 | some k =>
  have hr : findR (nowX x).2 nm = .tuple #[.int .i64 (k : Int), .int .i64 0] := by unfold findR; rw [hd]; rfl
  obtain ⟨f, hfm, hfn⟩ := h.named (nowX_mem x h.wf.ne) hd
  have hfp : fileP x.s k = (f.now, f.safe) := by rw [← hfn]; exact h.fileP hfm
  have Hr : Hid (lenP x.s nm = (f.now.length, 0)) := by show _ = _; unfold lenP; rw [nowX_s, hd]; simp only [hfp]
  have Hokp : Hid (okI k) := okI_small (by rw [← hfn]; exact Nat.le_trans (h.wf.nums f hfm) h.wf.small.2.2.2)
  rw [hr] at HF
  have Hfi := Lib.hid hfm
  have Hfn := Lib.hid hfn
  have HP := Lib.hid h
  obtain ⟨L, HL⟩ : ∃ L, Hid (f.now.length = L) := ⟨_, rfl⟩
  obtain ⟨b, Hb⟩ : ∃ b, Hid (f.blk = b) := ⟨_, rfl⟩
  clear h hn hd hr hfm hfn hfp
  go_enter Tryz.func24, Tryz.ntmps24
  go_wp2_with fail
  refine HF.out.mono ?_
  rintro e w1 ⟨rfl, hG⟩
  have HG := Lib.hid hG
  have hP := HP.out.grows hG
  have hfo := hP.files.ok f Hfi.out
  obtain ⟨a, c, a', c', e1, e2, d0, d1⟩ := fi_form hfo
  have hlk := hP.look Hfi.out
  rw [Hfn.out, Hb.out] at hlk
  have Hlk1 := Lib.hid hlk
  have HM1 := Lib.hid hP.files.map
  have Hok1 := Lib.hid hP.okF
  have c2 := hP.cell 2 (mv x.fm) rfl
  obtain ⟨fm, Hfm⟩ : ∃ y, Hid (x.fm = y) := ⟨_, rfl⟩
  rw [Hfm.out] at c2 HM1
  rw [HL.out] at d0
  rw [Hb.out] at d0
  clear hG hP hfo hlk e1 e2 d1
  go_wp2_with (first
   | (at_lookup; refine wpList_lookA rfl _ _ 95 109 false rfl HM1.out keyF Hok1.out Tryz.underlying95 _ (zeroFile _) k Hokp.out rfl rfl (.pointer (some ⟨b, 0, none⟩)) (by rw [Hlk1.out]; rfl) ?_)
   | fail)
  go_ret2
  exact ⟨.nilIface, by rw [Hr.out, HL.out]; rfl, by rw [Hr.out]; exact .inl ⟨rfl, rfl⟩, HG.out⟩
set_option maxRecDepth 100000 in
set_option maxHeartbeats 1000000 in
theorem PNames {w : World} {q : Nat} {x : Px} (h : PD w q x) (h8 : (nowP x.s).length ≤ 1000000) :
 Calls Tryz.prog 26 #[.pointer (some ⟨q, 0, none⟩)] w fun e w' => ∃ v, e = .returned v ∧ w'.ownsRow w.heap.size 9 1 v (nowP x.s).length ((sortN ((nowP x.s).map (·.1))).map sv) ∧ Grows w w' := by
 have HN := Lib.hid (pNow h)
 have HM : Hid (∀ W, Grows w W → MapA sv nv W (nowX x).1 (nowX x).2) := fun W g => (h.grows g).dirs.map _ (nowX_mem x h.wf.ne)
 have Hok := Lib.hid (h.okD (nowX_mem x h.wf.ne))
 rw [nowX_s] at h8 ⊢
 obtain ⟨b, hb⟩ : ∃ b, (nowX x).1 = b := ⟨_, rfl⟩
 obtain ⟨d, hd⟩ : ∃ d, (nowX x).2 = d := ⟨_, rfl⟩
 rw [hb, hd] at HM
 rw [hb] at HN
 rw [hd] at Hok h8 ⊢
 have HS := Lib.hid (fun w0 w1 h hw => pSorted b d w1 w0 h Hok.out h8 hw)
 clear h hb hd h8
 unfold mv at HN
 go_enter Tryz.func26, Tryz.ntmps26
 go_wp2_with fail
 refine HN.out.mono ?_
 rintro e w1 ⟨rfl, hG⟩
 have HG1 := Lib.hid hG
 clear hG
 go_wp2_with fail
 refine (pKeys b _).mono ?_
 rintro e w2 ⟨rfl, hw2⟩
 have HS2 := Lib.hid (HS.out w1 w2 (HM.out w1 HG1.out) hw2)
 unfold keysV at HS2 ⊢
 have HG2 : Hid (Grows w w2) := by show Grows _ _; rw [hw2]; exact Grows.trans' HG1.out (Grows.alloc' _ _)
 clear HS hw2
 go_wp2_with fail
 refine HS2.out.mono ?_
 rintro e w3 ⟨v, rfl, hro, hG⟩
 have HO : Hid (w3.ownsRow w.heap.size 9 1 v d.length ((sortN (d.map (·.1))).map sv)) := own_lower hro HG2.out.size
 have HG3 := Lib.hid (Grows.trans' HG2.out hG)
 clear hro hG
 go_wp2
 go_ret
 exact ⟨v, rfl, HO.out, HG3.out⟩
end Go.Proofs.YtoppcpiheaedlaaGreatDoor
end
