/-
  A map's keys, sorted: slices.Sorted(maps.Keys(m)).
-/
import Derived.Test.YtoppcpiheaedlaaGreatDoorSk
import Derived.Test.YtoppcpiheaedlaaGreatDoorPb
namespace Go.Proofs.YtoppcpiheaedlaaGreatDoor
open Go.RowKit Go.Maps Go.Sort Go.Shelf Go.MapKept
open Go.WideElems (Fit)
set_option linter.unusedVariables false
set_option linter.unusedSimpArgs false

def anyR (_ : Value) : Option (DataW Nat × List MemPlace) := some (.lit (.bool true), [])
def bytesOf (v : Value) : List UInt8 := match v with | .string s => s.data.toList | _ => []
theorem key_sv {P : Program} {k : TypeId} (hk : P.underlying k = some .string) (a : Nm) (ha : okS a) : keyOf P k (sv a) = some (.string a) := by
  have h := Go.WideMaps.keyOf_string_mk hk (s := ⟨a.toArray⟩) (by show a.toArray.size ≤ maxLen; simpa [okS] using ha)
  unfold sv
  rw [h]
set_option maxRecDepth 100000 in
theorem map_owns {W : World} {b : Nat} {l : Dir} (h : MapA sv nv W b l) (hok : ∀ p ∈ l, okS p.1) :
    ∃ (nn : Nat) (D : DataW Nat), W.ownsMap Tryz.prog 9 anyR b nn D ∧ (strKeys D).Perm (l.map (·.1)) ∧ Maps.size D = l.length := by
  obtain ⟨es, clock, hb, hst, hsz, hp⟩ := h
  have hkey : ∀ x ∈ es.toList, ∃ a, x.key = sv a ∧ okS a := fun x hx => by
    have h1 : (x.key, x.val) ∈ es.toList.map fun e => (e.key, e.val) := List.mem_map.2 ⟨x, hx, rfl⟩
    obtain ⟨p, hp', e⟩ := List.mem_map.1 (hp.mem_iff.1 h1)
    simp only [Prod.mk.injEq] at e
    exact ⟨p.1, e.1.symm, hok p hp'⟩
  have hrd : ∀ x ∈ es.toList, Go.WideElems.rd Tryz.prog 9 anyR x = some (.string (bytesOf x.key), .lit (.bool true)) := fun x hx => by
    obtain ⟨a, ha, ho⟩ := hkey x hx
    have : bytesOf x.key = a := by rw [ha]; simp [bytesOf, sv]
    rw [this]
    unfold Go.WideElems.rd
    rw [ha, key_sv Tryz.underlying9 a ho]
    rfl
  have F : Fit Tryz.prog 9 anyR es clock := ⟨hsz, hst, fun x hx => ⟨_, hrd x hx⟩⟩
  refine ⟨es.size, _, ⟨es, clock, hb, F, Nat.le_refl _, rfl⟩, ?_, ?_⟩
  · show ((List.foldr DataW.insert [] _).map fun p => strOf p.1).Perm _
    refine ((Go.WideShapes.sorted_perm _).map _).trans ?_
    rw [List.map_map]
    have e1 : es.toList.map ((fun p => strOf p.1) ∘ Go.WideElems.rg Tryz.prog 9 anyR) = (es.toList.map fun e => (e.key, e.val)).map fun x => bytesOf x.1 := by
      rw [List.map_map]
      apply List.map_congr_left
      intro x hx
      show strOf (Go.WideElems.rg Tryz.prog 9 anyR x).1 = bytesOf x.key
      unfold Go.WideElems.rg
      rw [hrd x hx]
      rfl
    rw [e1]
    refine (hp.map _).trans ?_
    rw [List.map_map]
    rw [List.map_congr_left (g := (·.1)) (fun p _ => by show bytesOf (sv p.1) = p.1; simp [bytesOf, sv])]
  · show (List.foldr DataW.insert [] _).length = _
    rw [length_sorted]
    have := hp.length_eq
    simpa using this
/-- Names, rising. -/
def sortN (l : List Nm) : List Nm := l.mergeSort leB
theorem sortN_perm {l l' : List Nm} (h : l.Perm l') : sortN l = sortN l' := mergeSort_of_perm h
theorem sortsA (m : Nat) : AnyZ.SortsIn Tryz.prog sortedA_ren Fence.wide m :=
  ⟨fun blk off cap ss W hH hblk hsz => callsIn_wide.2 (AnyM.slices_Sort_string sortA blk off cap ss W hH hblk hsz),
   fun p cap W => callsIn_wide.2 (AnyM.slices_Sort_string_none sortA p cap W)⟩
/-- What maps.Keys hands back: a function that keeps the map in a new block. -/
def keysV (w : World) : Value := .func (.func 94) #[] #[.pointer (some ⟨w.heap.size, 0, none⟩)]
theorem pKeys (b : Nat) (w : World) : Calls Tryz.prog 58 #[.map (some b)] w fun e w' => e = .returned (keysV w) ∧ w' = w.alloc (.cells #[.map (some b)] 103) :=
  (callsIn_wide (n := 6)).1 (AnyZ.keys_in keysA Fence.wide 6 trivial rfl (some b) w)
set_option maxRecDepth 100000 in
theorem pSorted (b : Nat) (l : Dir) (w w0 : World) (h : MapA sv nv w0 b l) (hok : ∀ p ∈ l, okS p.1) (hl : l.length ≤ 1000000) (hw : w = w0.alloc (.cells #[.map (some b)] 103)) :
    Calls Tryz.prog 57 #[keysV w0] w fun e w' => ∃ v, e = .returned v ∧ w'.ownsRow w.heap.size 9 1 v l.length ((sortN (l.map (·.1))).map sv) ∧ Grows w w' := by
  subst hw
  obtain ⟨nn, D, hown, hpD, hsD⟩ := map_owns h hok
  have hbl := hown.lt
  have hseq : SeqGives Fence.wide 2 Tryz.prog 94 #[.pointer (some ⟨w0.heap.size, 0, none⟩)] encStr (fun ss => ss.Perm (strKeys D)) (Maps.size D) (w0.alloc (.cells #[.map (some b)] 103)) :=
    AnyZ.keys_gives (ρ := keysA_ren) { keysA with } Fence.wide _ trivial rfl (by omega) w0.heap.size b nn D _ (by simp) (by simp) (by
      obtain ⟨es, clock, hb, Ft, hs, hD⟩ := hown
      exact ⟨es, clock, (Below.heap_alloc _ _ b hbl).trans hb, Ft, hs, hD⟩)
  have hmax : Maps.size D ≤ maxLen := by rw [hsD]; unfold maxLen; omega
  have hbytes : Maps.size D * 16 ≤ 140737488355328 := by rw [hsD]; omega
  refine ((callsIn_wide (n := 5)).1 (AnyZ.sorted_in sortedA Fence.wide 5 trivial trivial trivial trivial rfl (by omega) (sortsA _) (enters_of Tryz.func93 (by kernel_rfl) rfl) 94 #[.pointer (some ⟨w0.heap.size, 0, none⟩)] trivial (enters_of Tryz.func94 (by kernel_rfl) rfl) _ _ hmax hbytes _ hseq)).mono ?_
  rintro e w' ⟨v, ss, rfl, hS, hrow, hnil, hB⟩
  have hlen : ss.length = l.length := by rw [(hS.trans hpD).length_eq]; simp
  refine ⟨v, rfl, ?_, hB⟩
  rw [hlen] at hrow
  have e1 : ss.mergeSort (fun x y => decide (x ≤ y)) = sortN (l.map (·.1)) := sortN_perm (hS.trans hpD)
  rw [e1] at hrow
  exact hrow
end Go.Proofs.YtoppcpiheaedlaaGreatDoor
