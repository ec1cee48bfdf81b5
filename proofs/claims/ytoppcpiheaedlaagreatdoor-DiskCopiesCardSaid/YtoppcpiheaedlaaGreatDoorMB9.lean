import Derived.Test.YtoppcpiheaedlaaGreatDoorMB4
import Derived.Test.YtoppcpiheaedlaaGreatDoorMB17
section
/-
  The program's disk: a nil one.
-/
namespace Go.Proofs.YtoppcpiheaedlaaGreatDoor
open Go.RowKit Go.Maps
set_option linter.unusedVariables false
set_option linter.unusedSimpArgs false
attribute [local go_sem] sv nv mv pv
def opRename : List UInt8 := [114, 101, 110, 97, 109, 101]
end Go.Proofs.YtoppcpiheaedlaaGreatDoor
end
section
/-
  Deeds: what came in; whether a list of them is small.
-/
namespace Go.Proofs.YtoppcpiheaedlaaGreatDoor
open Go.RowKit Go.Maps
set_option linter.unusedVariables false
set_option linter.unusedSimpArgs false
attribute [local go_sem] sv nv mv pv
structure Dd where
 kind : Int
 a : Nm
 b : Nm
 n : Int
 vp : Value
 p : List UInt8
 vk : Value
 keep : List Int
def Dd.cs (x : Dd) : List Value := [.int .i64 x.kind, sv x.a, sv x.b, .int .i64 x.n, x.vp, x.vk]
def Dd.v (x : Dd) : Value := .agg #[.int .i64 x.kind, sv x.a, sv x.b, .int .i64 x.n, x.vp, x.vk]
structure DdOk (W : World) (x : Dd) : Prop where
 kind : -9223372036854775808 ≤ x.kind ∧ x.kind ≤ 9223372036854775807
 a : okS x.a
 b : okS x.b
 n : -9223372036854775808 ≤ x.n ∧ x.n ≤ 9223372036854775807
 p : Byt W x.vp x.p
 keep : IntS W x.vk x.keep
 keeps : ∀ z ∈ x.keep, -9223372036854775808 ≤ z ∧ z ≤ 9223372036854775807
 keepl : x.keep.length ≤ 9223372036854775807
theorem DdOk.grows {W W' : World} {x : Dd} (h : DdOk W x) (g : Grows W W') : DdOk W' x := ⟨h.kind, h.a, h.b, h.n, h.p.grows g, h.keep.grows g, h.keeps, h.keepl⟩
def DdsAt (W : World) (v : Value) (l : List Dd) : Prop :=
 ∃ a cap, v = .slice a l.length cap ∧ l.length ≤ 9223372036854775807 ∧ (∀ x ∈ l, DdOk W x) ∧
  (l = [] ∨ ∃ g o, a = some ⟨g, o, none⟩ ∧ ∀ i (hi : i < l.length), ∀ j u, (l[i]).cs[j]? = some u → W.cell? ⟨g, o + i * 6 + j, none⟩ = some u)
def Dd.bad (x : Dd) : Prop := 4000 < x.p.length ∨ 80 < x.keep.length ∨ (x.kind = 3 ∧ 100 < x.n ∧ x.n ≤ 4096)
structure SmallL (l : List Dd) : Prop where
 len : l.length ≤ 80
 good : ∀ x ∈ l, ¬ x.bad
def pre5 : Array (List Nat) := ([] :: [] :: [0, 1] :: [0, 1, 2] :: [0, 1, 2, 3] :: [0, 1, 2, 3, 4] :: [] :: [] :: [6, 7] :: [6, 7, 8] :: [6, 7, 8, 9] :: [6, 7, 8, 9, 10] :: [0, 1, 2, 3, 4, 5, 6, 7, 8, 9, 10, 11] :: [0, 1, 2, 3, 4, 5, 6, 7, 8, 9, 10, 11, 12] :: [0, 1, 2, 3, 4, 5, 6, 7, 8, 9, 10, 11, 12, 13] :: [0, 1, 2, 3, 4, 5, 6, 7, 8, 9, 10, 11, 12, 13, 14] :: [0, 1, 2, 3, 4, 5, 6, 7, 8, 9, 10, 11, 12, 13, 14] :: [0, 1, 2, 3, 4, 5, 6, 7, 8, 9, 10, 11, 12, 13, 14, 15, 16] :: [0, 1, 2, 3, 4, 5, 6, 7, 8, 9, 10, 11, 12, 13, 14, 15, 16, 17] :: [0, 1, 2, 3, 4, 5, 6, 7, 8, 9, 10, 11, 12, 13, 14, 15, 16, 17, 18] :: [0, 1, 2, 3, 4, 5, 6, 7, 8, 9, 10, 11, 12, 13, 14, 15, 16, 17, 18, 19] :: [0, 1, 2, 3, 4, 5, 6, 7, 8, 9, 10, 11, 12, 13, 14, 15, 16, 17, 18, 19, 20] :: [0, 1, 2, 3, 4, 5, 6, 7, 8, 9, 10, 11, 12, 13, 14, 15, 16, 17, 18, 19, 20, 21] :: [0, 1, 2, 3, 4, 5, 6, 7, 8, 9, 10, 11, 12, 13, 14, 15, 16, 17, 18, 19, 20, 21, 22] :: [0, 1, 2, 3, 4, 5, 6, 7, 8, 9, 10, 11, 12, 13, 14, 15, 16, 17, 18, 19, 20, 21, 22, 23] :: [0, 1, 2, 3, 4, 5, 6, 7, 8, 9, 10, 11, 12, 13, 14, 15, 16, 17, 18, 19, 20, 21, 22, 23] :: [0, 1, 2, 3, 4, 5, 6, 7, 8, 9, 10, 11, 12, 13, 14, 15, 16, 17, 18, 19, 20, 21, 22, 23, 24, 25] :: [0, 1, 2, 3, 4, 5, 6, 7, 8, 9, 10, 11, 12, 13, 14, 15, 16, 17, 18, 19, 20, 21, 22, 23, 24, 25, 26] :: [0, 1, 2, 3, 4, 5, 6, 7, 8, 9, 10, 11, 12, 13, 14, 15, 16, 17, 18, 19, 20, 21, 22, 23, 24, 25, 26, 27] :: [0, 1, 2, 3, 4, 5, 6, 7, 8, 9, 10, 11, 12, 13, 14, 15, 16, 17, 18, 19, 20, 21, 22, 23, 24, 25, 26, 27, 28] :: [0, 1, 2, 3, 4, 5, 6, 7, 8, 9, 10, 11, 12, 13, 14, 15, 16, 17, 18, 19, 20, 21, 22, 23, 24, 25, 26, 27, 28, 29] :: (0 :: 1 :: 2 :: 3 :: 4 :: 5 :: 6 :: 7 :: 8 :: 9 :: 10 :: 11 :: 12 :: 13 :: 14 :: 15 :: 16 :: 17 :: 18 :: 19 :: 20 :: 21 :: 22 :: 23 :: 24 :: 25 :: 26 :: 27 :: 28 :: 29 :: 30 :: []) :: (0 :: 1 :: 2 :: 3 :: 4 :: 5 :: 6 :: 7 :: 8 :: 9 :: 10 :: 11 :: 12 :: 13 :: 14 :: 15 :: 16 :: 17 :: 18 :: 19 :: 20 :: 21 :: 22 :: 23 :: 24 :: 25 :: 26 :: 27 :: 28 :: 29 :: 30 :: 31 :: []) :: (0 :: 1 :: 2 :: 3 :: 4 :: 5 :: 6 :: 7 :: 8 :: 9 :: 10 :: 11 :: 12 :: 13 :: 14 :: 15 :: 16 :: 17 :: 18 :: 19 :: 20 :: 21 :: 22 :: 23 :: 24 :: 25 :: 26 :: 27 :: 28 :: 29 :: 30 :: 31 :: 32 :: []) :: (0 :: 1 :: 2 :: 3 :: 4 :: 5 :: 6 :: 7 :: 8 :: 9 :: 10 :: 11 :: 12 :: 13 :: 14 :: 15 :: 16 :: 17 :: 18 :: 19 :: 20 :: 21 :: 22 :: 23 :: 24 :: 25 :: 26 :: 27 :: 28 :: 29 :: 30 :: 31 :: 32 :: []) :: (0 :: 1 :: 2 :: 3 :: 4 :: 5 :: 6 :: 7 :: 8 :: 9 :: 10 :: 11 :: 12 :: 13 :: 14 :: 15 :: 16 :: 17 :: 18 :: 19 :: 20 :: 21 :: 22 :: 23 :: 24 :: 25 :: 26 :: 27 :: 28 :: 29 :: 30 :: 31 :: 32 :: 33 :: 34 :: []) :: (0 :: 1 :: 2 :: 3 :: 4 :: 5 :: 6 :: 7 :: 8 :: 9 :: 10 :: 11 :: 12 :: 13 :: 14 :: 15 :: 16 :: 17 :: 18 :: 19 :: 20 :: 21 :: 22 :: 23 :: 24 :: 25 :: 26 :: 27 :: 28 :: 29 :: 30 :: 31 :: 32 :: 33 :: 34 :: 35 :: []) :: (0 :: 1 :: 2 :: 3 :: 4 :: 5 :: 6 :: 7 :: 8 :: 9 :: 10 :: 11 :: 12 :: 13 :: 14 :: 15 :: 16 :: 17 :: 18 :: 19 :: 20 :: 21 :: 22 :: 23 :: 24 :: 25 :: 26 :: 27 :: 28 :: 29 :: 30 :: 31 :: 32 :: 33 :: 34 :: 35 :: 36 :: []) :: (0 :: 1 :: 2 :: 3 :: 4 :: 5 :: 6 :: 7 :: 8 :: 9 :: 10 :: 11 :: 12 :: 13 :: 14 :: 15 :: 16 :: 17 :: 18 :: 19 :: 20 :: 21 :: 22 :: 23 :: 24 :: 25 :: 26 :: 27 :: 28 :: 29 :: 30 :: 31 :: 32 :: 33 :: 34 :: 35 :: 36 :: 37 :: []) :: (0 :: 1 :: 2 :: 3 :: 4 :: 5 :: 6 :: 7 :: 8 :: 9 :: 10 :: 11 :: 12 :: 13 :: 14 :: 15 :: 16 :: 17 :: 18 :: 19 :: 20 :: 21 :: 22 :: 23 :: 24 :: 25 :: 26 :: 27 :: 28 :: 29 :: 30 :: 31 :: 32 :: 33 :: 34 :: 35 :: 36 :: 37 :: 38 :: []) :: (0 :: 1 :: 2 :: 3 :: 4 :: 5 :: 6 :: 7 :: 8 :: 9 :: 10 :: 11 :: 12 :: 13 :: 14 :: 15 :: 16 :: 17 :: 18 :: 19 :: 20 :: 21 :: 22 :: 23 :: 24 :: 25 :: 26 :: 27 :: 28 :: 29 :: 30 :: 31 :: 32 :: 33 :: 34 :: 35 :: 36 :: 37 :: 38 :: 39 :: []) :: (0 :: 1 :: 2 :: 3 :: 4 :: 5 :: 6 :: 7 :: 8 :: 9 :: 10 :: 11 :: 12 :: 13 :: 14 :: 15 :: 16 :: 17 :: 18 :: 19 :: 20 :: 21 :: 22 :: 23 :: 24 :: 25 :: 26 :: 27 :: 28 :: 29 :: 30 :: 31 :: 32 :: 33 :: 34 :: 35 :: 36 :: 37 :: 38 :: 39 :: []) :: (0 :: 1 :: 2 :: 3 :: 4 :: 5 :: 6 :: 7 :: 8 :: 9 :: 10 :: 11 :: 12 :: 13 :: 14 :: 15 :: 16 :: 17 :: 18 :: 19 :: 20 :: 21 :: 22 :: 23 :: 24 :: 25 :: 26 :: 27 :: 28 :: 29 :: 30 :: 31 :: 32 :: 33 :: 34 :: 35 :: 36 :: 37 :: 38 :: 39 :: 40 :: 41 :: []) :: (0 :: 1 :: 2 :: 3 :: 4 :: 5 :: 6 :: 7 :: 8 :: 9 :: 10 :: 11 :: 12 :: 13 :: 14 :: 15 :: 16 :: 17 :: 18 :: 19 :: 20 :: 21 :: 22 :: 23 :: 24 :: 25 :: 26 :: 27 :: 28 :: 29 :: 30 :: 31 :: 32 :: 33 :: 34 :: 35 :: 36 :: 37 :: 38 :: 39 :: 40 :: 41 :: 42 :: []) :: (0 :: 1 :: 2 :: 3 :: 4 :: 5 :: 6 :: 7 :: 8 :: 9 :: 10 :: 11 :: 12 :: 13 :: 14 :: 15 :: 16 :: 17 :: 18 :: 19 :: 20 :: 21 :: 22 :: 23 :: 24 :: 25 :: 26 :: 27 :: 28 :: 29 :: 30 :: 31 :: 32 :: 33 :: 34 :: 35 :: 36 :: 37 :: 38 :: 39 :: 40 :: 41 :: 42 :: 43 :: []) :: (0 :: 1 :: 2 :: 3 :: 4 :: 5 :: 6 :: 7 :: 8 :: 9 :: 10 :: 11 :: 12 :: 13 :: 14 :: 15 :: 16 :: 17 :: 18 :: 19 :: 20 :: 21 :: 22 :: 23 :: 24 :: 25 :: 26 :: 27 :: 28 :: 29 :: 30 :: 31 :: 32 :: 33 :: 34 :: 35 :: 36 :: 37 :: 38 :: 39 :: 40 :: 41 :: 42 :: 43 :: 44 :: []) :: (0 :: 1 :: 2 :: 3 :: 4 :: 5 :: 6 :: 7 :: 8 :: 9 :: 10 :: 11 :: 12 :: 13 :: 14 :: 15 :: 16 :: 17 :: 18 :: 19 :: 20 :: 21 :: 22 :: 23 :: 24 :: 25 :: 26 :: 27 :: 28 :: 29 :: 30 :: 31 :: 32 :: 33 :: 34 :: 35 :: 36 :: 37 :: 38 :: 39 :: 40 :: 41 :: 42 :: 43 :: 44 :: 45 :: []) :: (0 :: 1 :: 2 :: 3 :: 4 :: 5 :: 6 :: 7 :: 8 :: 9 :: 10 :: 11 :: 12 :: 13 :: 14 :: 15 :: 16 :: 17 :: 18 :: 19 :: 20 :: 21 :: 22 :: 23 :: 24 :: 25 :: 26 :: 27 :: 28 :: 29 :: 30 :: 31 :: 32 :: 33 :: 34 :: 35 :: 36 :: 37 :: 38 :: 39 :: 40 :: 41 :: 42 :: 43 :: 44 :: 45 :: 46 :: []) :: (0 :: 1 :: 2 :: 3 :: 4 :: 5 :: 6 :: 7 :: 8 :: 9 :: 10 :: 11 :: 12 :: 13 :: 14 :: 15 :: 16 :: 17 :: 18 :: 19 :: 20 :: 21 :: 22 :: 23 :: 24 :: 25 :: 26 :: 27 :: 28 :: 29 :: 30 :: 31 :: 32 :: 33 :: 34 :: 35 :: 36 :: 37 :: 38 :: 39 :: 40 :: 41 :: 42 :: 43 :: 44 :: 45 :: 46 :: 47 :: []) :: (0 :: 1 :: 2 :: 3 :: 4 :: 5 :: 6 :: 7 :: 8 :: 9 :: 10 :: 11 :: 12 :: 13 :: 14 :: 15 :: 16 :: 17 :: 18 :: 19 :: 20 :: 21 :: 22 :: 23 :: 24 :: 25 :: 26 :: 27 :: 28 :: 29 :: 30 :: 31 :: 32 :: 33 :: 34 :: 35 :: 36 :: 37 :: 38 :: 39 :: 40 :: 41 :: 42 :: 43 :: 44 :: 45 :: 46 :: 47 :: []) :: (0 :: 1 :: 2 :: 3 :: 4 :: 5 :: 6 :: 7 :: 8 :: 9 :: 10 :: 11 :: 12 :: 13 :: 14 :: 15 :: 16 :: 17 :: 18 :: 19 :: 20 :: 21 :: 22 :: 23 :: 24 :: 25 :: 26 :: 27 :: 28 :: 29 :: 30 :: 31 :: 32 :: 33 :: 34 :: 35 :: 36 :: 37 :: 38 :: 39 :: 40 :: 41 :: 42 :: 43 :: 44 :: 45 :: 46 :: 47 :: 48 :: 49 :: []) :: (0 :: 1 :: 2 :: 3 :: 4 :: 5 :: 6 :: 7 :: 8 :: 9 :: 10 :: 11 :: 12 :: 13 :: 14 :: 15 :: 16 :: 17 :: 18 :: 19 :: 20 :: 21 :: 22 :: 23 :: 24 :: 25 :: 26 :: 27 :: 28 :: 29 :: 30 :: 31 :: 32 :: 33 :: 34 :: 35 :: 36 :: 37 :: 38 :: 39 :: 40 :: 41 :: 42 :: 43 :: 44 :: 45 :: 46 :: 47 :: 48 :: 49 :: 50 :: []) :: (0 :: 1 :: 2 :: 3 :: 4 :: 5 :: 6 :: 7 :: 8 :: 9 :: 10 :: 11 :: 12 :: 13 :: 14 :: 15 :: 16 :: 17 :: 18 :: 19 :: 20 :: 21 :: 22 :: 23 :: 24 :: 25 :: 26 :: 27 :: 28 :: 29 :: 30 :: 31 :: 32 :: 33 :: 34 :: 35 :: 36 :: 37 :: 38 :: 39 :: 40 :: 41 :: 42 :: 43 :: 44 :: 45 :: 46 :: 47 :: 48 :: 49 :: 50 :: 51 :: []) :: (0 :: 1 :: 2 :: 3 :: 4 :: 5 :: 6 :: 7 :: 8 :: 9 :: 10 :: 11 :: 12 :: 13 :: 14 :: 15 :: 16 :: 17 :: 18 :: 19 :: 20 :: 21 :: 22 :: 23 :: 24 :: 25 :: 26 :: 27 :: 28 :: 29 :: 30 :: 31 :: 32 :: 33 :: 34 :: 35 :: 36 :: 37 :: 38 :: 39 :: 40 :: 41 :: 42 :: 43 :: 44 :: 45 :: 46 :: 47 :: 48 :: 49 :: 50 :: 51 :: 52 :: []) :: (0 :: 1 :: 2 :: 3 :: 4 :: 5 :: 6 :: 7 :: 8 :: 9 :: 10 :: 11 :: 12 :: 13 :: 14 :: 15 :: 16 :: 17 :: 18 :: 19 :: 20 :: 21 :: 22 :: 23 :: 24 :: 25 :: 26 :: 27 :: 28 :: 29 :: 30 :: 31 :: 32 :: 33 :: 34 :: 35 :: 36 :: 37 :: 38 :: 39 :: 40 :: 41 :: 42 :: 43 :: 44 :: 45 :: 46 :: 47 :: 48 :: 49 :: 50 :: 51 :: 52 :: 53 :: []) :: (0 :: 1 :: 2 :: 3 :: 4 :: 5 :: 6 :: 7 :: 8 :: 9 :: 10 :: 11 :: 12 :: 13 :: 14 :: 15 :: 16 :: 17 :: 18 :: 19 :: 20 :: 21 :: 22 :: 23 :: 24 :: 25 :: 26 :: 27 :: 28 :: 29 :: 30 :: 31 :: 32 :: 33 :: 34 :: 35 :: 36 :: 37 :: 38 :: 39 :: 40 :: 41 :: 42 :: 43 :: 44 :: 45 :: 46 :: 47 :: 48 :: 49 :: 50 :: 51 :: 52 :: 53 :: 54 :: []) :: []).toArray
def org5 : Array (List Nat) := ([0] :: [4] :: [] :: [] :: [] :: [] :: [0] :: [4] :: [] :: [] :: [] :: [] :: [] :: [] :: [] :: [0] :: [4] :: [] :: [] :: [] :: [] :: [] :: [] :: [] :: [0] :: [4] :: [] :: [] :: [] :: [] :: [] :: [] :: [] :: [0] :: [4] :: [] :: [] :: [] :: [] :: [] :: [0] :: [4] :: [] :: [] :: [] :: [] :: [] :: [] :: [0] :: [4] :: [] :: [] :: [] :: [] :: [] :: [] :: []).toArray
theorem stepG {P : Program} {ops : Array Oper} {pre org : Array (List Nat)} {run : Array Bool} {specs : Array Spec} {a0 : Act} {w0 : World} {i last : Nat} {o : Oper} (r : Bool) (v : Value) (ho : ops[i]? = some o) (hr : run.getD i false = r) (hs : specs.getD i Spec.any = .val (bif r then v else undef))
 (h : r = true → ∀ (ρ : Operand → Value) (X : World), (∀ v, ρ (.const v) = v) → (∀ f, ρ (.func f) = .func (.func f) #[] #[]) → (∀ g, ρ (.global g) = .pointer (some ⟨g, 0, none⟩)) → Grows w0 X →
  (∀ j ∈ pre.getD i [], match (ops[j]?).bind (·.dst) with | some d => phi specs j (ρ (.tmp d)) X | none => True) →
  (∀ t ∈ org.getD i [], ρ (.tmp t) = a0.tmps.getD t undef) → (execOp ρ o).run P X = .ok (.value v) X) :
 if i = last then True else StepReq P ops pre org run (phi specs) a0 w0 i := by
 cases r with
 | false => exact step_skip ho hr fun X _ => by unfold phi; rw [hs]; rfl
 | true => exact step_intro ho hr fun ρ X h1 h2 h3 h4 h5 h6 => StepOk.of_run (h rfl ρ X h1 h2 h3 h4 h5 h6) ⟨by unfold phi; rw [hs]; rfl, Below.refl _ _⟩
def SmallPost (w : World) (l : List Dd) (e : Ending) (w' : World) : Prop := ∃ b, e = .returned (.bool b) ∧ Grows w w' ∧ (b = true → SmallL l)
theorem SmallPost.no {w w' : World} {l : List Dd} (h : Grows w w') : SmallPost w l (.returned (.bool false)) w' := ⟨false, rfl, h, fun h => by cases h⟩
set_option maxRecDepth 100000 in
set_option maxHeartbeats 16000000 in
theorem pSmall (v : Value) (l : List Dd) (w : World) (h : DdsAt w v l) :
 Calls Tryz.prog 8 #[v] w (SmallPost w l) := by
 have hmx : Tryz.prog.follows .mixedOrders = true := by kernel_rfl
 obtain ⟨av, cap, rfl, hlen, hok, hat⟩ := h
 obtain ⟨L, HL⟩ : ∃ L : Nat, Hid (l.length = L) := ⟨_, rfl⟩
 rw [HL.out]
 have hL : (L : Int) ≤ 9223372036854775807 := by rw [← HL.out]; omega
 have Hok := Lib.hid hok
 have Hat := Lib.hid hat
 clear hok hat hlen
 go_enter Tryz.func8, Tryz.ntmps8
 go_wp2
 go_loopw [3, 4] (fun t3 t4 wr => ∃ (k : Nat) (n : Int), t4 = .int .i64 k ∧ t3 = .int .i64 n ∧ k ≤ L ∧ k ≤ 81 ∧ Hid (∀ x ∈ l.take k, ¬ x.bad) ∧ Hid (Grows w wr)) (fun _ t4 _ => 81 - (intOf t4).toNat)
 case atStart => exact ⟨0, 0, rfl, rfl, by omega, by omega, (fun x hx => by simp at hx), Below.refl _ _⟩
 case round =>
  obtain ⟨k, n, rfl, rfl, hkL, hk81, Hg, HG⟩ := hrel
  by_cases hlt : (k : Int) < (L : Int)
  · by_cases h80 : (k : Int) ≤ 80
    · by_cases h4 : n ≤ 4000
      · have hkl : k < l.length := by rw [HL.out]; omega
        obtain ⟨x, Hx⟩ : ∃ x, Hid (l[k] = x) := ⟨l[k], show l[k] = l[k] from rfl⟩
        have Hxok : Hid (DdOk w x) := by rw [← Hx.out]; exact Hok.out _ (List.getElem_mem hkl)
        obtain ⟨g, o, rfl, hc⟩ : ∃ g o, av = some ⟨g, o, none⟩ ∧ ∀ j u, x.cs[j]? = some u → w.cell? ⟨g, o + k * 6 + j, none⟩ = some u := by
         rcases Hat.out with h0 | ⟨g, o, e, h1⟩
         · rw [h0] at hkl; simp at hkl
         · exact ⟨g, o, e, by rw [← Hx.out]; exact h1 k hkl⟩
        have hc0 : w.cell? ⟨g, o + k * 6, none⟩ = some (.int .i64 x.kind) := hc 0 _ rfl
        have d0 := Grows.cell' HG.out hc0
        clear hc0
        have d1 := Grows.cell' HG.out (hc 1 _ rfl)
        have d2 := Grows.cell' HG.out (hc 2 _ rfl)
        have d3 := Grows.cell' HG.out (hc 3 _ rfl)
        have d4 := Grows.cell' HG.out (hc 4 _ rfl)
        have d5 := Grows.cell' HG.out (hc 5 _ rfl)
        clear hc Hat Hok
        obtain ⟨ap, cp, ep⟩ := Hxok.out.p.slice
        obtain ⟨ak, ck, ek, _⟩ := Hxok.out.keep
        rw [ep] at d4
        rw [ek] at d5
        obtain ⟨la, Hla⟩ : ∃ y, Hid (x.a.length = y) := ⟨_, rfl⟩
        obtain ⟨lb, Hlb⟩ : ∃ y, Hid (x.b.length = y) := ⟨_, rfl⟩
        obtain ⟨lp, Hlp⟩ : ∃ y, Hid (x.p.length = y) := ⟨_, rfl⟩
        obtain ⟨lk, Hlk⟩ : ∃ y, Hid (x.keep.length = y) := ⟨_, rfl⟩
        obtain ⟨kd, Hkd⟩ : ∃ y, Hid (x.kind = y) := ⟨_, rfl⟩
        obtain ⟨xn, Hxn⟩ : ∃ y, Hid (x.n = y) := ⟨_, rfl⟩
        obtain ⟨sa, Hsa⟩ : ∃ y : ByteArray, Hid (⟨x.a.toArray⟩ = y) := ⟨_, rfl⟩
        obtain ⟨sb, Hsb⟩ : ∃ y : ByteArray, Hid (⟨x.b.toArray⟩ = y) := ⟨_, rfl⟩
        have za : sa.size = la := by rw [← Hsa.out, ← Hla.out]; rfl
        have zb : sb.size = lb := by rw [← Hsb.out, ← Hlb.out]; rfl
        unfold sv at d1 d2
        rw [Hsa.out] at d1
        rw [Hsb.out] at d2
        rw [Hkd.out] at d0
        rw [Hxn.out] at d3
        rw [Hlp.out] at d4
        rw [Hlk.out] at d5
        obtain ⟨s, w0⟩ : ∃ s, IntKind.i64.wrap ((la : Int) + (lb : Int)) = s := ⟨_, rfl⟩
        obtain ⟨n1, Hw1⟩ : ∃ s, Hid (IntKind.i64.wrap (n + (la : Int)) = s) := ⟨_, rfl⟩
        obtain ⟨n2, Hw2⟩ : ∃ s, Hid (IntKind.i64.wrap (n1 + (lb : Int)) = s) := ⟨_, rfl⟩
        obtain ⟨n3, Hw3⟩ : ∃ s, Hid (IntKind.i64.wrap (n2 + (lp : Int)) = s) := ⟨_, rfl⟩
        have hpd : x.bad ↔ (4000 < (lp : Int) ∨ 80 < (lk : Int) ∨ (kd = 3 ∧ 100 < xn ∧ xn ≤ 4096)) := by
         unfold Dd.bad; rw [← Hlp.out, ← Hlk.out, ← Hkd.out, ← Hxn.out]; omega
        have Hpd := Lib.hid hpd
        clear hpd ep ek
        go_wp2
        obtain ⟨cA, ha⟩ : ∃ y, decide (4000 < s) = y := ⟨_, rfl⟩
        obtain ⟨cB, hb1⟩ : ∃ y, decide (4000 < (lp : Int)) = y := ⟨_, rfl⟩
        obtain ⟨cC, hc1⟩ : ∃ y, decide (80 < (lk : Int)) = y := ⟨_, rfl⟩
        obtain ⟨cD, hd⟩ : ∃ y, (kd == 3) = y := ⟨_, rfl⟩
        obtain ⟨cE, he⟩ : ∃ y, decide (100 < xn) = y := ⟨_, rfl⟩
        obtain ⟨cF, hf1⟩ : ∃ y, decide (xn ≤ 4096) = y := ⟨_, rfl⟩
        have cX := fun X (hX : Grows _ X) => And.intro (Grows.cell' hX d0) (And.intro (Grows.cell' hX d1) (And.intro (Grows.cell' hX d2) (And.intro (Grows.cell' hX d3) (And.intro (Grows.cell' hX d4) (Grows.cell' hX d5)))))
        refine specs_region pre5 org5 ((true :: true :: true :: true :: true :: true :: true :: true :: true :: true :: true :: true :: true :: true :: true :: (!cA) :: (!cA) :: (!cA) :: (!cA) :: (!cA) :: (!cA) :: (!cA) :: true :: true :: (!(cA || cB)) :: (!(cA || cB)) :: (!(cA || cB)) :: (!(cA || cB)) :: (!(cA || cB)) :: (!(cA || cB)) :: (!(cA || cB)) :: true :: true :: (!(cA || cB || cC)) :: (!(cA || cB || cC)) :: (!(cA || cB || cC)) :: (!(cA || cB || cC)) :: (!(cA || cB || cC)) :: (!(cA || cB || cC)) :: (!(cA || cB || cC)) :: (!(cA || cB || cC) && cD) :: (!(cA || cB || cC) && cD) :: (!(cA || cB || cC) && cD) :: (!(cA || cB || cC) && cD) :: (!(cA || cB || cC) && cD) :: (!(cA || cB || cC) && cD) :: (!(cA || cB || cC)) :: (!(cA || cB || cC)) :: (!(cA || cB || cC) && cD && cE) :: (!(cA || cB || cC) && cD && cE) :: (!(cA || cB || cC) && cD && cE) :: (!(cA || cB || cC) && cD && cE) :: (!(cA || cB || cC) && cD && cE) :: (!(cA || cB || cC) && cD && cE) :: (!(cA || cB || cC)) :: true :: []).toArray)
         ((.val (?v0)) :: (.val (?v1)) :: (.val (?v2)) :: (.val (?v3)) :: (.val (?v4)) :: (.val (?v5)) :: (.val (?v6)) :: (.val (?v7)) :: (.val (?v8)) :: (.val (?v9)) :: (.val (?v10)) :: (.val (?v11)) :: (.val (?v12)) :: (.val (.bool (cA))) :: (.val (.bool (cA))) :: (.val (bif (!cA) then ?v15 else undef)) :: (.val (bif (!cA) then ?v16 else undef)) :: (.val (bif (!cA) then ?v17 else undef)) :: (.val (bif (!cA) then ?v18 else undef)) :: (.val (bif (!cA) then ?v19 else undef)) :: (.val (bif (!cA) then ?v20 else undef)) :: (.val (bif (!cA) then .bool (cB) else undef)) :: (.val (.bool (cA || cB))) :: (.val (.bool (cA || cB))) :: (.val (bif (!(cA || cB)) then ?v24 else undef)) :: (.val (bif (!(cA || cB)) then ?v25 else undef)) :: (.val (bif (!(cA || cB)) then ?v26 else undef)) :: (.val (bif (!(cA || cB)) then ?v27 else undef)) :: (.val (bif (!(cA || cB)) then ?v28 else undef)) :: (.val (bif (!(cA || cB)) then ?v29 else undef)) :: (.val (bif (!(cA || cB)) then .bool (cC) else undef)) :: (.val (.bool ((cA || cB || cC)))) :: (.val (.bool ((cA || cB || cC)))) :: (.val (bif (!(cA || cB || cC)) then ?v33 else undef)) :: (.val (bif (!(cA || cB || cC)) then ?v34 else undef)) :: (.val (bif (!(cA || cB || cC)) then ?v35 else undef)) :: (.val (bif (!(cA || cB || cC)) then ?v36 else undef)) :: (.val (bif (!(cA || cB || cC)) then ?v37 else undef)) :: (.val (bif (!(cA || cB || cC)) then .bool (cD) else undef)) :: (.val (bif (!(cA || cB || cC)) then .bool (cD) else undef)) :: (.val (bif (!(cA || cB || cC) && cD) then ?v40 else undef)) :: (.val (bif (!(cA || cB || cC) && cD) then ?v41 else undef)) :: (.val (bif (!(cA || cB || cC) && cD) then ?v42 else undef)) :: (.val (bif (!(cA || cB || cC) && cD) then ?v43 else undef)) :: (.val (bif (!(cA || cB || cC) && cD) then ?v44 else undef)) :: (.val (bif (!(cA || cB || cC) && cD) then .bool (cE) else undef)) :: (.val (bif (!(cA || cB || cC)) then .bool (cD && cE) else undef)) :: (.val (bif (!(cA || cB || cC)) then .bool (cD && cE) else undef)) :: (.val (bif (!(cA || cB || cC) && cD && cE) then ?v48 else undef)) :: (.val (bif (!(cA || cB || cC) && cD && cE) then ?v49 else undef)) :: (.val (bif (!(cA || cB || cC) && cD && cE) then ?v50 else undef)) :: (.val (bif (!(cA || cB || cC) && cD && cE) then ?v51 else undef)) :: (.val (bif (!(cA || cB || cC) && cD && cE) then ?v52 else undef)) :: (.val (bif (!(cA || cB || cC) && cD && cE) then .bool (cF) else undef)) :: (.val (bif (!(cA || cB || cC)) then .bool (cD && cE && cF) else undef)) :: (.val (.bool ((cA || cB || cC) || (cD && cE && cF)))) :: []).toArray
         hmx ?chk ?grd ?stp ?rst
        case chk => rfl
        case stp =>
         refine ⟨?_, ?_, ?_, ?_, ?_, ?_, ?_, ?_, ?_, ?_, ?_, ?_, ?_, ?_, ?_, ?_, ?_, ?_, ?_, ?_, ?_, ?_, ?_, ?_, ?_, ?_, ?_, ?_, ?_, ?_, ?_, ?_, ?_, ?_, ?_, ?_, ?_, ?_, ?_, ?_, ?_, ?_, ?_, ?_, ?_, ?_, ?_, ?_, ?_, ?_, ?_, ?_, ?_, ?_, ?_, ?_, trivial⟩
         · refine stepO 0 ?v0 rfl (fun _ _ => rfl) rfl (fun _ => rfl) (by decide) ?_; show (.slice (some ⟨g, o, none⟩) L cap : Value) = _; rfl
         · refine stepO 4 ?v1 rfl (fun _ _ => rfl) rfl (fun _ => rfl) (by decide) ?_; show (.int .i64 (k : Int) : Value) = _; rfl
         · refine stepR (o := ⟨_, .indexAddr 22 (.tmp 19) (.tmp 20), _, _, _, _⟩) (?v2) rfl rfl (fun _ => rfl) fun ρ X hc hf hgl hX hp ho => ?_; have k19 : ρ (.tmp 19) = ?v0 := hp 0 (by decide); have k20 : ρ (.tmp 20) = ?v1 := hp 1 (by decide); clear hp ho hX; go_simp; (all_goals try go_bits); (all_goals try simp only [IntWalk.iteOmega]); (all_goals try go_bits); (all_goals rfl)
         · refine stepR (o := ⟨_, .fieldAddr 39 (.tmp 21) 1, _, _, _, _⟩) (?v3) rfl rfl (fun _ => rfl) fun ρ X hc hf hgl hX hp ho => ?_; have k21 : ρ (.tmp 21) = ?v2 := hp 2 (by decide); clear hp ho hX; go_simp; (all_goals rfl)
         · refine stepR (o := ⟨_, .load 9 (.tmp 22), _, _, _, _⟩) (?v4) rfl rfl (fun _ => rfl) fun ρ X hc hf hgl hX hp ho => ?_; have k22 : ρ (.tmp 22) = ?v3 := hp 3 (by decide); have cX := cX X hX; clear hp ho hX; go_simp; (all_goals rfl)
         · refine stepR (o := ⟨_, .call { callee := .builtin .len, args := #[.tmp 23], argTypes := #[9] }, _, _, _, _⟩) (?v5) rfl rfl (fun _ => rfl) fun ρ X hc hf hgl hX hp ho => ?_; have k23 : ρ (.tmp 23) = ?v4 := hp 4 (by decide); clear hp ho hX; go_simp; (all_goals try go_bits); (all_goals try simp only [IntWalk.iteOmega]); (all_goals try go_bits); (all_goals rfl)
         · refine stepO 0 ?v6 rfl (fun _ _ => rfl) rfl (fun _ => rfl) (by decide) ?_; show (.slice (some ⟨g, o, none⟩) L cap : Value) = _; rfl
         · refine stepO 4 ?v7 rfl (fun _ _ => rfl) rfl (fun _ => rfl) (by decide) ?_; show (.int .i64 (k : Int) : Value) = _; rfl
         · refine stepR (o := ⟨_, .indexAddr 22 (.tmp 25) (.tmp 26), _, _, _, _⟩) (?v8) rfl rfl (fun _ => rfl) fun ρ X hc hf hgl hX hp ho => ?_; have k25 : ρ (.tmp 25) = ?v6 := hp 6 (by decide); have k26 : ρ (.tmp 26) = ?v7 := hp 7 (by decide); clear hp ho hX; go_simp; (all_goals try go_bits); (all_goals try simp only [IntWalk.iteOmega]); (all_goals try go_bits); (all_goals rfl)
         · refine stepR (o := ⟨_, .fieldAddr 39 (.tmp 27) 2, _, _, _, _⟩) (?v9) rfl rfl (fun _ => rfl) fun ρ X hc hf hgl hX hp ho => ?_; have k27 : ρ (.tmp 27) = ?v8 := hp 8 (by decide); clear hp ho hX; go_simp; (all_goals rfl)
         · refine stepR (o := ⟨_, .load 9 (.tmp 28), _, _, _, _⟩) (?v10) rfl rfl (fun _ => rfl) fun ρ X hc hf hgl hX hp ho => ?_; have k28 : ρ (.tmp 28) = ?v9 := hp 9 (by decide); have cX := cX X hX; clear hp ho hX; go_simp; (all_goals rfl)
         · refine stepR (o := ⟨_, .call { callee := .builtin .len, args := #[.tmp 29], argTypes := #[9] }, _, _, _, _⟩) (?v11) rfl rfl (fun _ => rfl) fun ρ X hc hf hgl hX hp ho => ?_; have k29 : ρ (.tmp 29) = ?v10 := hp 10 (by decide); clear hp ho hX; go_simp; (all_goals try go_bits); (all_goals try simp only [IntWalk.iteOmega]); (all_goals try go_bits); (all_goals rfl)
         · refine stepR (o := ⟨_, .binOp .add 3 (.tmp 24) (.tmp 30) 3, _, _, _, _⟩) (?v12) rfl rfl (fun _ => rfl) fun ρ X hc hf hgl hX hp ho => ?_; have k24 : ρ (.tmp 24) = ?v5 := hp 5 (by decide); have k30 : ρ (.tmp 30) = ?v11 := hp 11 (by decide); clear hp ho hX; go_simp; (all_goals try go_bits); (all_goals try simp only [IntWalk.iteOmega]); (all_goals try go_bits); (all_goals rfl)
         · refine stepR (o := ⟨_, .binOp .gtr 3 (.tmp 31) (.const (.int .i64 4000)) 3, _, _, _, _⟩) (.bool (cA)) rfl rfl (fun _ => rfl) fun ρ X hc hf hgl hX hp ho => ?_; have k31 : ρ (.tmp 31) = ?v12 := hp 12 (by decide); clear hp ho hX; go_simp; (try simp only [ha]); (all_goals try go_bits); (all_goals try rfl)
         · refine stepP 32 13 (.bool (cA)) (.bool (cA)) rfl (fun _ _ => rfl) rfl (fun _ => rfl) (by decide) rfl (fun _ _ h => h) ?_; rfl
         · refine stepG (o := ⟨_, .move (.tmp 0), _, _, _, _⟩) (!cA) (?v15) rfl rfl rfl fun hr ρ X hc hf hgl hX hp ho => ?_; have k0 : ρ (.tmp 0) = .slice (some ⟨g, o, none⟩) L cap := ho 0 (by decide); clear hp ho hX; go_simp; (all_goals rfl)
         · refine stepG (o := ⟨_, .move (.tmp 4), _, _, _, _⟩) (!cA) (?v16) rfl rfl rfl fun hr ρ X hc hf hgl hX hp ho => ?_; have k4 : ρ (.tmp 4) = .int .i64 (k : Int) := ho 4 (by decide); clear hp ho hX; go_simp; (all_goals rfl)
         · refine stepG (o := ⟨_, .indexAddr 22 (.tmp 34) (.tmp 35), _, _, _, _⟩) (!cA) (?v17) rfl rfl rfl fun hr ρ X hc hf hgl hX hp ho => ?_; have k34 : ρ (.tmp 34) = ?v15 := hp 15 (by decide) |>.trans (by rw [hr]; rfl); have k35 : ρ (.tmp 35) = ?v16 := hp 16 (by decide) |>.trans (by rw [hr]; rfl); clear hp ho hX; go_simp; (all_goals try go_bits); (all_goals try simp only [IntWalk.iteOmega]); (all_goals try go_bits); (all_goals rfl)
         · refine stepG (o := ⟨_, .fieldAddr 39 (.tmp 36) 4, _, _, _, _⟩) (!cA) (?v18) rfl rfl rfl fun hr ρ X hc hf hgl hX hp ho => ?_; have k36 : ρ (.tmp 36) = ?v17 := hp 17 (by decide) |>.trans (by rw [hr]; rfl); clear hp ho hX; go_simp; (all_goals rfl)
         · refine stepG (o := ⟨_, .load 36 (.tmp 37), _, _, _, _⟩) (!cA) (?v19) rfl rfl rfl fun hr ρ X hc hf hgl hX hp ho => ?_; have k37 : ρ (.tmp 37) = ?v18 := hp 18 (by decide) |>.trans (by rw [hr]; rfl); have cX := cX X hX; clear hp ho hX; go_simp; (all_goals rfl)
         · refine stepG (o := ⟨_, .call { callee := .builtin .len, args := #[.tmp 38], argTypes := #[36] }, _, _, _, _⟩) (!cA) (?v20) rfl rfl rfl fun hr ρ X hc hf hgl hX hp ho => ?_; have k38 : ρ (.tmp 38) = ?v19 := hp 19 (by decide) |>.trans (by rw [hr]; rfl); clear hp ho hX; go_simp; (all_goals try go_bits); (all_goals try simp only [IntWalk.iteOmega]); (all_goals try go_bits); (all_goals rfl)
         · refine stepG (o := ⟨_, .binOp .gtr 3 (.tmp 39) (.const (.int .i64 4000)) 3, _, _, _, _⟩) (!cA) (.bool (cB)) rfl rfl rfl fun hr ρ X hc hf hgl hX hp ho => ?_; have k39 : ρ (.tmp 39) = ?v20 := hp 20 (by decide) |>.trans (by rw [hr]; rfl); clear hp ho hX; go_simp; (try simp only [hb1]); (all_goals try go_bits); (all_goals try rfl)
         · refine stepR (o := ⟨_, .pick (.tmp 33) (.const (.bool true)) (.tmp 40), _, _, _, _⟩) (.bool (cA || cB)) rfl rfl (fun _ => rfl) fun ρ X hc hf hgl hX hp ho => ?_; have k33 : ρ (.tmp 33) = .bool (cA) := hp 14 (by decide); have k40 : ρ (.tmp 40) = bif (!cA) then .bool (cB) else undef := hp 21 (by decide); clear hp ho hX; simp only [execOp, k33, k40, hc]; clear k33 k40; cases cA <;> rfl
         · refine stepP 41 22 (.bool (cA || cB)) (.bool (cA || cB)) rfl (fun _ _ => rfl) rfl (fun _ => rfl) (by decide) rfl (fun _ _ h => h) ?_; rfl
         · refine stepG (o := ⟨_, .move (.tmp 0), _, _, _, _⟩) (!(cA || cB)) (?v24) rfl rfl rfl fun hr ρ X hc hf hgl hX hp ho => ?_; have k0 : ρ (.tmp 0) = .slice (some ⟨g, o, none⟩) L cap := ho 0 (by decide); clear hp ho hX; go_simp; (all_goals rfl)
         · refine stepG (o := ⟨_, .move (.tmp 4), _, _, _, _⟩) (!(cA || cB)) (?v25) rfl rfl rfl fun hr ρ X hc hf hgl hX hp ho => ?_; have k4 : ρ (.tmp 4) = .int .i64 (k : Int) := ho 4 (by decide); clear hp ho hX; go_simp; (all_goals rfl)
         · refine stepG (o := ⟨_, .indexAddr 22 (.tmp 43) (.tmp 44), _, _, _, _⟩) (!(cA || cB)) (?v26) rfl rfl rfl fun hr ρ X hc hf hgl hX hp ho => ?_; have k43 : ρ (.tmp 43) = ?v24 := hp 24 (by decide) |>.trans (by rw [hr]; rfl); have k44 : ρ (.tmp 44) = ?v25 := hp 25 (by decide) |>.trans (by rw [hr]; rfl); clear hp ho hX; go_simp; (all_goals try go_bits); (all_goals try simp only [IntWalk.iteOmega]); (all_goals try go_bits); (all_goals rfl)
         · refine stepG (o := ⟨_, .fieldAddr 39 (.tmp 45) 5, _, _, _, _⟩) (!(cA || cB)) (?v27) rfl rfl rfl fun hr ρ X hc hf hgl hX hp ho => ?_; have k45 : ρ (.tmp 45) = ?v26 := hp 26 (by decide) |>.trans (by rw [hr]; rfl); clear hp ho hX; go_simp; (all_goals rfl)
         · refine stepG (o := ⟨_, .load 37 (.tmp 46), _, _, _, _⟩) (!(cA || cB)) (?v28) rfl rfl rfl fun hr ρ X hc hf hgl hX hp ho => ?_; have k46 : ρ (.tmp 46) = ?v27 := hp 27 (by decide) |>.trans (by rw [hr]; rfl); have cX := cX X hX; clear hp ho hX; go_simp; (all_goals rfl)
         · refine stepG (o := ⟨_, .call { callee := .builtin .len, args := #[.tmp 47], argTypes := #[37] }, _, _, _, _⟩) (!(cA || cB)) (?v29) rfl rfl rfl fun hr ρ X hc hf hgl hX hp ho => ?_; have k47 : ρ (.tmp 47) = ?v28 := hp 28 (by decide) |>.trans (by rw [hr]; rfl); clear hp ho hX; go_simp; (all_goals try go_bits); (all_goals try simp only [IntWalk.iteOmega]); (all_goals try go_bits); (all_goals rfl)
         · refine stepG (o := ⟨_, .binOp .gtr 3 (.tmp 48) (.const (.int .i64 80)) 3, _, _, _, _⟩) (!(cA || cB)) (.bool (cC)) rfl rfl rfl fun hr ρ X hc hf hgl hX hp ho => ?_; have k48 : ρ (.tmp 48) = ?v29 := hp 29 (by decide) |>.trans (by rw [hr]; rfl); clear hp ho hX; go_simp; (try simp only [hc1]); (all_goals try go_bits); (all_goals try rfl)
         · refine stepR (o := ⟨_, .pick (.tmp 42) (.const (.bool true)) (.tmp 49), _, _, _, _⟩) (.bool ((cA || cB || cC))) rfl rfl (fun _ => rfl) fun ρ X hc hf hgl hX hp ho => ?_; have k42 : ρ (.tmp 42) = .bool (cA || cB) := hp 23 (by decide); have k49 : ρ (.tmp 49) = bif (!(cA || cB)) then .bool (cC) else undef := hp 30 (by decide); clear hp ho hX; simp only [execOp, k42, k49, hc]; clear k42 k49; cases cA <;> cases cB <;> rfl
         · refine stepP 50 31 (.bool ((cA || cB || cC))) (.bool ((cA || cB || cC))) rfl (fun _ _ => rfl) rfl (fun _ => rfl) (by decide) rfl (fun _ _ h => h) ?_; rfl
         · refine stepG (o := ⟨_, .move (.tmp 0), _, _, _, _⟩) (!(cA || cB || cC)) (?v33) rfl rfl rfl fun hr ρ X hc hf hgl hX hp ho => ?_; have k0 : ρ (.tmp 0) = .slice (some ⟨g, o, none⟩) L cap := ho 0 (by decide); clear hp ho hX; go_simp; (all_goals rfl)
         · refine stepG (o := ⟨_, .move (.tmp 4), _, _, _, _⟩) (!(cA || cB || cC)) (?v34) rfl rfl rfl fun hr ρ X hc hf hgl hX hp ho => ?_; have k4 : ρ (.tmp 4) = .int .i64 (k : Int) := ho 4 (by decide); clear hp ho hX; go_simp; (all_goals rfl)
         · refine stepG (o := ⟨_, .indexAddr 22 (.tmp 52) (.tmp 53), _, _, _, _⟩) (!(cA || cB || cC)) (?v35) rfl rfl rfl fun hr ρ X hc hf hgl hX hp ho => ?_; have k52 : ρ (.tmp 52) = ?v33 := hp 33 (by decide) |>.trans (by rw [hr]; rfl); have k53 : ρ (.tmp 53) = ?v34 := hp 34 (by decide) |>.trans (by rw [hr]; rfl); clear hp ho hX; go_simp; (all_goals try go_bits); (all_goals try simp only [IntWalk.iteOmega]); (all_goals try go_bits); (all_goals rfl)
         · refine stepG (o := ⟨_, .fieldAddr 39 (.tmp 54) 0, _, _, _, _⟩) (!(cA || cB || cC)) (?v36) rfl rfl rfl fun hr ρ X hc hf hgl hX hp ho => ?_; have k54 : ρ (.tmp 54) = ?v35 := hp 35 (by decide) |>.trans (by rw [hr]; rfl); clear hp ho hX; go_simp; (all_goals rfl)
         · refine stepG (o := ⟨_, .load 3 (.tmp 55), _, _, _, _⟩) (!(cA || cB || cC)) (?v37) rfl rfl rfl fun hr ρ X hc hf hgl hX hp ho => ?_; have k55 : ρ (.tmp 55) = ?v36 := hp 36 (by decide) |>.trans (by rw [hr]; rfl); have cX := cX X hX; clear hp ho hX; go_simp; (all_goals rfl)
         · refine stepG (o := ⟨_, .binOp .eql 3 (.tmp 56) (.const (.int .i64 3)) 3, _, _, _, _⟩) (!(cA || cB || cC)) (.bool (cD)) rfl rfl rfl fun hr ρ X hc hf hgl hX hp ho => ?_; have k56 : ρ (.tmp 56) = ?v37 := hp 37 (by decide) |>.trans (by rw [hr]; rfl); clear hp ho hX; go_simp; (try simp only [hd]); (all_goals try go_bits); (all_goals try rfl)
         · refine stepG (o := ⟨_, .move (.tmp 57), _, _, _, _⟩) (!(cA || cB || cC)) (.bool (cD)) rfl rfl rfl fun hr ρ X hc hf hgl hX hp ho => ?_; have k57 : ρ (.tmp 57) = .bool (cD) := hp 38 (by decide) |>.trans (by rw [hr]; rfl); clear hp ho hX; go_simp; (all_goals rfl)
         · refine stepG (o := ⟨_, .move (.tmp 0), _, _, _, _⟩) (!(cA || cB || cC) && cD) (?v40) rfl rfl rfl fun hr ρ X hc hf hgl hX hp ho => ?_; have k0 : ρ (.tmp 0) = .slice (some ⟨g, o, none⟩) L cap := ho 0 (by decide); clear hp ho hX; go_simp; (all_goals rfl)
         · refine stepG (o := ⟨_, .move (.tmp 4), _, _, _, _⟩) (!(cA || cB || cC) && cD) (?v41) rfl rfl rfl fun hr ρ X hc hf hgl hX hp ho => ?_; have k4 : ρ (.tmp 4) = .int .i64 (k : Int) := ho 4 (by decide); clear hp ho hX; go_simp; (all_goals rfl)
         · refine stepG (o := ⟨_, .indexAddr 22 (.tmp 59) (.tmp 60), _, _, _, _⟩) (!(cA || cB || cC) && cD) (?v42) rfl rfl rfl fun hr ρ X hc hf hgl hX hp ho => ?_; have k59 : ρ (.tmp 59) = ?v40 := hp 40 (by decide) |>.trans (by rw [hr]; rfl); have k60 : ρ (.tmp 60) = ?v41 := hp 41 (by decide) |>.trans (by rw [hr]; rfl); clear hp ho hX; go_simp; (all_goals try go_bits); (all_goals try simp only [IntWalk.iteOmega]); (all_goals try go_bits); (all_goals rfl)
         · refine stepG (o := ⟨_, .fieldAddr 39 (.tmp 61) 3, _, _, _, _⟩) (!(cA || cB || cC) && cD) (?v43) rfl rfl rfl fun hr ρ X hc hf hgl hX hp ho => ?_; have k61 : ρ (.tmp 61) = ?v42 := hp 42 (by decide) |>.trans (by rw [hr]; rfl); clear hp ho hX; go_simp; (all_goals rfl)
         · refine stepG (o := ⟨_, .load 3 (.tmp 62), _, _, _, _⟩) (!(cA || cB || cC) && cD) (?v44) rfl rfl rfl fun hr ρ X hc hf hgl hX hp ho => ?_; have k62 : ρ (.tmp 62) = ?v43 := hp 43 (by decide) |>.trans (by rw [hr]; rfl); have cX := cX X hX; clear hp ho hX; go_simp; (all_goals rfl)
         · refine stepG (o := ⟨_, .binOp .gtr 3 (.tmp 63) (.const (.int .i64 100)) 3, _, _, _, _⟩) (!(cA || cB || cC) && cD) (.bool (cE)) rfl rfl rfl fun hr ρ X hc hf hgl hX hp ho => ?_; have k63 : ρ (.tmp 63) = ?v44 := hp 44 (by decide) |>.trans (by rw [hr]; rfl); clear hp ho hX; go_simp; (try simp only [he]); (all_goals try go_bits); (all_goals try rfl)
         · refine stepG (o := ⟨_, .pick (.tmp 58) (.tmp 64) (.const (.bool false)), _, _, _, _⟩) (!(cA || cB || cC)) (.bool (cD && cE)) rfl rfl rfl fun hr ρ X hc hf hgl hX hp ho => ?_; have k58 : ρ (.tmp 58) = .bool (cD) := hp 39 (by decide) |>.trans (by rw [hr]; rfl); have k64 : ρ (.tmp 64) = bif (!(cA || cB || cC) && cD) then .bool (cE) else undef := hp 45 (by decide); clear hp ho hX; rw [show (!(cA || cB || cC) && cD) = cD by rw [hr, Bool.true_and]] at k64; simp only [execOp, k58, k64, hc]; clear k64; clear k58; cases cD <;> rfl
         · refine stepG (o := ⟨_, .move (.tmp 65), _, _, _, _⟩) (!(cA || cB || cC)) (.bool (cD && cE)) rfl rfl rfl fun hr ρ X hc hf hgl hX hp ho => ?_; have k65 : ρ (.tmp 65) = .bool (cD && cE) := hp 46 (by decide) |>.trans (by rw [hr]; rfl); clear hp ho hX; go_simp; (all_goals rfl)
         · refine stepG (o := ⟨_, .move (.tmp 0), _, _, _, _⟩) (!(cA || cB || cC) && cD && cE) (?v48) rfl rfl rfl fun hr ρ X hc hf hgl hX hp ho => ?_; have k0 : ρ (.tmp 0) = .slice (some ⟨g, o, none⟩) L cap := ho 0 (by decide); clear hp ho hX; go_simp; (all_goals rfl)
         · refine stepG (o := ⟨_, .move (.tmp 4), _, _, _, _⟩) (!(cA || cB || cC) && cD && cE) (?v49) rfl rfl rfl fun hr ρ X hc hf hgl hX hp ho => ?_; have k4 : ρ (.tmp 4) = .int .i64 (k : Int) := ho 4 (by decide); clear hp ho hX; go_simp; (all_goals rfl)
         · refine stepG (o := ⟨_, .indexAddr 22 (.tmp 67) (.tmp 68), _, _, _, _⟩) (!(cA || cB || cC) && cD && cE) (?v50) rfl rfl rfl fun hr ρ X hc hf hgl hX hp ho => ?_; have k67 : ρ (.tmp 67) = ?v48 := hp 48 (by decide) |>.trans (by rw [hr]; rfl); have k68 : ρ (.tmp 68) = ?v49 := hp 49 (by decide) |>.trans (by rw [hr]; rfl); clear hp ho hX; go_simp; (all_goals try go_bits); (all_goals try simp only [IntWalk.iteOmega]); (all_goals try go_bits); (all_goals rfl)
         · refine stepG (o := ⟨_, .fieldAddr 39 (.tmp 69) 3, _, _, _, _⟩) (!(cA || cB || cC) && cD && cE) (?v51) rfl rfl rfl fun hr ρ X hc hf hgl hX hp ho => ?_; have k69 : ρ (.tmp 69) = ?v50 := hp 50 (by decide) |>.trans (by rw [hr]; rfl); clear hp ho hX; go_simp; (all_goals rfl)
         · refine stepG (o := ⟨_, .load 3 (.tmp 70), _, _, _, _⟩) (!(cA || cB || cC) && cD && cE) (?v52) rfl rfl rfl fun hr ρ X hc hf hgl hX hp ho => ?_; have k70 : ρ (.tmp 70) = ?v51 := hp 51 (by decide) |>.trans (by rw [hr]; rfl); have cX := cX X hX; clear hp ho hX; go_simp; (all_goals rfl)
         · refine stepG (o := ⟨_, .binOp .leq 3 (.tmp 71) (.const (.int .i64 4096)) 3, _, _, _, _⟩) (!(cA || cB || cC) && cD && cE) (.bool (cF)) rfl rfl rfl fun hr ρ X hc hf hgl hX hp ho => ?_; have k71 : ρ (.tmp 71) = ?v52 := hp 52 (by decide) |>.trans (by rw [hr]; rfl); clear hp ho hX; go_simp; (try simp only [hf1]); (all_goals try go_bits); (all_goals try rfl)
         · refine stepG (o := ⟨_, .pick (.tmp 66) (.tmp 72) (.const (.bool false)), _, _, _, _⟩) (!(cA || cB || cC)) (.bool (cD && cE && cF)) rfl rfl rfl fun hr ρ X hc hf hgl hX hp ho => ?_; have k66 : ρ (.tmp 66) = .bool (cD && cE) := hp 47 (by decide) |>.trans (by rw [hr]; rfl); have k72 : ρ (.tmp 72) = bif (!(cA || cB || cC) && cD && cE) then .bool (cF) else undef := hp 53 (by decide); clear hp ho hX; rw [show (!(cA || cB || cC) && cD && cE) = (cD && cE) by rw [hr, Bool.true_and]] at k72; simp only [execOp, k66, k72, hc]; clear k72; clear k66; cases cD <;> cases cE <;> rfl
         · refine stepR (o := ⟨_, .pick (.tmp 51) (.const (.bool true)) (.tmp 73), _, _, _, _⟩) (.bool ((cA || cB || cC) || (cD && cE && cF))) rfl rfl (fun _ => rfl) fun ρ X hc hf hgl hX hp ho => ?_; have k51 : ρ (.tmp 51) = .bool ((cA || cB || cC)) := hp 32 (by decide); have k73 : ρ (.tmp 73) = bif (!(cA || cB || cC)) then .bool (cD && cE && cF) else undef := hp 54 (by decide); clear hp ho hX; simp only [execOp, k51, k73, hc]; clear k51 k73; cases cA <;> cases cB <;> cases cC <;> rfl
        case grd => cases cA <;> cases cB <;> cases cC <;> cases cD <;> cases cE <;> rfl
        case rst =>
         intro a0 X hb
         obtain ⟨x34, hx34⟩ : ∃ x, a0.tmps.getD 34 undef = x := ⟨_, rfl⟩
         obtain ⟨x35, hx35⟩ : ∃ x, a0.tmps.getD 35 undef = x := ⟨_, rfl⟩
         obtain ⟨x36, hx36⟩ : ∃ x, a0.tmps.getD 36 undef = x := ⟨_, rfl⟩
         obtain ⟨x37, hx37⟩ : ∃ x, a0.tmps.getD 37 undef = x := ⟨_, rfl⟩
         obtain ⟨x38, hx38⟩ : ∃ x, a0.tmps.getD 38 undef = x := ⟨_, rfl⟩
         obtain ⟨x39, hx39⟩ : ∃ x, a0.tmps.getD 39 undef = x := ⟨_, rfl⟩
         obtain ⟨x40, hx40⟩ : ∃ x, a0.tmps.getD 40 undef = x := ⟨_, rfl⟩
         obtain ⟨x43, hx43⟩ : ∃ x, a0.tmps.getD 43 undef = x := ⟨_, rfl⟩
         obtain ⟨x44, hx44⟩ : ∃ x, a0.tmps.getD 44 undef = x := ⟨_, rfl⟩
         obtain ⟨x45, hx45⟩ : ∃ x, a0.tmps.getD 45 undef = x := ⟨_, rfl⟩
         obtain ⟨x46, hx46⟩ : ∃ x, a0.tmps.getD 46 undef = x := ⟨_, rfl⟩
         obtain ⟨x47, hx47⟩ : ∃ x, a0.tmps.getD 47 undef = x := ⟨_, rfl⟩
         obtain ⟨x48, hx48⟩ : ∃ x, a0.tmps.getD 48 undef = x := ⟨_, rfl⟩
         obtain ⟨x49, hx49⟩ : ∃ x, a0.tmps.getD 49 undef = x := ⟨_, rfl⟩
         obtain ⟨x52, hx52⟩ : ∃ x, a0.tmps.getD 52 undef = x := ⟨_, rfl⟩
         obtain ⟨x53, hx53⟩ : ∃ x, a0.tmps.getD 53 undef = x := ⟨_, rfl⟩
         obtain ⟨x54, hx54⟩ : ∃ x, a0.tmps.getD 54 undef = x := ⟨_, rfl⟩
         obtain ⟨x55, hx55⟩ : ∃ x, a0.tmps.getD 55 undef = x := ⟨_, rfl⟩
         obtain ⟨x56, hx56⟩ : ∃ x, a0.tmps.getD 56 undef = x := ⟨_, rfl⟩
         obtain ⟨x57, hx57⟩ : ∃ x, a0.tmps.getD 57 undef = x := ⟨_, rfl⟩
         obtain ⟨x58, hx58⟩ : ∃ x, a0.tmps.getD 58 undef = x := ⟨_, rfl⟩
         obtain ⟨x59, hx59⟩ : ∃ x, a0.tmps.getD 59 undef = x := ⟨_, rfl⟩
         obtain ⟨x60, hx60⟩ : ∃ x, a0.tmps.getD 60 undef = x := ⟨_, rfl⟩
         obtain ⟨x61, hx61⟩ : ∃ x, a0.tmps.getD 61 undef = x := ⟨_, rfl⟩
         obtain ⟨x62, hx62⟩ : ∃ x, a0.tmps.getD 62 undef = x := ⟨_, rfl⟩
         obtain ⟨x63, hx63⟩ : ∃ x, a0.tmps.getD 63 undef = x := ⟨_, rfl⟩
         obtain ⟨x64, hx64⟩ : ∃ x, a0.tmps.getD 64 undef = x := ⟨_, rfl⟩
         obtain ⟨x65, hx65⟩ : ∃ x, a0.tmps.getD 65 undef = x := ⟨_, rfl⟩
         obtain ⟨x66, hx66⟩ : ∃ x, a0.tmps.getD 66 undef = x := ⟨_, rfl⟩
         obtain ⟨x67, hx67⟩ : ∃ x, a0.tmps.getD 67 undef = x := ⟨_, rfl⟩
         obtain ⟨x68, hx68⟩ : ∃ x, a0.tmps.getD 68 undef = x := ⟨_, rfl⟩
         obtain ⟨x69, hx69⟩ : ∃ x, a0.tmps.getD 69 undef = x := ⟨_, rfl⟩
         obtain ⟨x70, hx70⟩ : ∃ x, a0.tmps.getD 70 undef = x := ⟨_, rfl⟩
         obtain ⟨x71, hx71⟩ : ∃ x, a0.tmps.getD 71 undef = x := ⟨_, rfl⟩
         obtain ⟨x72, hx72⟩ : ∃ x, a0.tmps.getD 72 undef = x := ⟨_, rfl⟩
         obtain ⟨x73, hx73⟩ : ∃ x, a0.tmps.getD 73 undef = x := ⟨_, rfl⟩
         have hfr := hb.frame ((19, ?v0) :: (20, ?v1) :: (21, ?v2) :: (22, ?v3) :: (23, ?v4) :: (24, ?v5) :: (25, ?v6) :: (26, ?v7) :: (27, ?v8) :: (28, ?v9) :: (29, ?v10) :: (30, ?v11) :: (31, ?v12) :: (32, .bool (cA)) :: (33, .bool (cA)) :: (34, x34) :: (35, x35) :: (36, x36) :: (37, x37) :: (38, x38) :: (39, x39) :: (40, x40) :: (41, .bool (cA || cB)) :: (42, .bool (cA || cB)) :: (43, x43) :: (44, x44) :: (45, x45) :: (46, x46) :: (47, x47) :: (48, x48) :: (49, x49) :: (50, .bool ((cA || cB || cC))) :: (51, .bool ((cA || cB || cC))) :: (52, x52) :: (53, x53) :: (54, x54) :: (55, x55) :: (56, x56) :: (57, x57) :: (58, x58) :: (59, x59) :: (60, x60) :: (61, x61) :: (62, x62) :: (63, x63) :: (64, x64) :: (65, x65) :: (66, x66) :: (67, x67) :: (68, x68) :: (69, x69) :: (70, x70) :: (71, x71) :: (72, x72) :: (73, x73) :: (74, .bool ((cA || cB || cC) || (cD && cE && cF))) :: []) rfl ⟨hb.done' 0 19 rfl rfl, hb.done' 1 20 rfl rfl, hb.done' 2 21 rfl rfl, hb.done' 3 22 rfl rfl, hb.done' 4 23 rfl rfl, hb.done' 5 24 rfl rfl, hb.done' 6 25 rfl rfl, hb.done' 7 26 rfl rfl, hb.done' 8 27 rfl rfl, hb.done' 9 28 rfl rfl, hb.done' 10 29 rfl rfl, hb.done' 11 30 rfl rfl, hb.done' 12 31 rfl rfl, hb.done' 13 32 rfl rfl, hb.done' 14 33 rfl rfl, hx34, hx35, hx36, hx37, hx38, hx39, hx40, hb.done' 22 41 rfl rfl, hb.done' 23 42 rfl rfl, hx43, hx44, hx45, hx46, hx47, hx48, hx49, hb.done' 31 50 rfl rfl, hb.done' 32 51 rfl rfl, hx52, hx53, hx54, hx55, hx56, hx57, hx58, hx59, hx60, hx61, hx62, hx63, hx64, hx65, hx66, hx67, hx68, hx69, hx70, hx71, hx72, hx73, hb.done' 55 74 rfl rfl, trivial⟩
         simp only [updL, ↓reduceIte, Nat.reduceEqDiff, Nat.reduceAdd, Nat.zero_add] at hfr
         have HX := Lib.hid hb.ext
         clear hb cX
         subst hfr
         have d1X := Grows.cell' HX.out d1
         have d2X := Grows.cell' HX.out d2
         have d4X := Grows.cell' HX.out d4
         have HGX := Lib.hid (Grows.trans' HG.out HX.out)
         clear d0 d1 d2 d3 d4 d5 HX
         obtain ⟨cc, hcc⟩ : ∃ y, ((cA || cB || cC) || (cD && cE && cF)) = y := ⟨_, rfl⟩
         rw [hcc]
         cases cc with
         | true =>
          clear hcc ha hb1 hc1 hd he hf1
          go_wp2
          go_ret
          exact SmallPost.no HGX.out
         | false =>
          have hnb : ¬ x.bad := fun h0 => by
           rcases Hpd.out.1 h0 with h | h | ⟨h1, h2, h3⟩
           · rw [← hb1, decide_eq_true h] at hcc; simp at hcc
           · rw [← hc1, decide_eq_true h] at hcc; simp at hcc
           · rw [← hd, ← he, ← hf1, decide_eq_true h2, decide_eq_true h3, h1] at hcc; simp at hcc
          have Hnb := Lib.hid hnb
          clear hnb hcc ha hb1 hc1 hd he hf1 w0
          go_wp2
          have w1 := Hw1.out
          have w2 := Hw2.out
          have w3 := Hw3.out
          have cXw := fun X (hX : Grows _ X) => And.intro (Grows.cell' hX d1X) (And.intro (Grows.cell' hX d2X) (Grows.cell' hX d4X))
          refine specs_region
           #[[], [], [], [1, 2], [1, 2, 3], [1, 2, 3, 4], [1, 2, 3, 4, 5], [0, 1, 2, 3, 4, 5, 6], [], [], [8, 9], [8, 9, 10], [8, 9, 10, 11], [8, 9, 10, 11, 12], [0, 1, 2, 3, 4, 5, 6, 7, 8, 9, 10, 11, 12, 13], [], [], [15, 16], [15, 16, 17], [15, 16, 17, 18], [15, 16, 17, 18, 19], [0, 1, 2, 3, 4, 5, 6, 7, 8, 9, 10, 11, 12, 13, 14, 15, 16, 17, 18, 19, 20], [0, 1, 2, 3, 4, 5, 6, 7, 8, 9, 10, 11, 12, 13, 14, 15, 16, 17, 18, 19, 20, 21]] #[[3], [0], [4], [], [], [], [], [], [0], [4], [], [], [], [], [], [0], [4], [], [], [], [], [], []] #[true, true, true, true, true, true, true, true, true, true, true, true, true, true, true, true, true, true, true, true, true, true, true]
           ((.val ?vw0) :: (.val ?vw1) :: (.val ?vw2) :: (.val ?vw3) :: (.val ?vw4) :: (.val ?vw5) :: (.val ?vw6) :: (.val ?vw7) :: (.val ?vw8) :: (.val ?vw9) :: (.val ?vw10) :: (.val ?vw11) :: (.val ?vw12) :: (.val ?vw13) :: (.val ?vw14) :: (.val ?vw15) :: (.val ?vw16) :: (.val ?vw17) :: (.val ?vw18) :: (.val ?vw19) :: (.val ?vw20) :: (.val ?vw21) :: (.val ?vw22) :: []).toArray
           hmx ?chkw ?grdw ?stpw ?rstw
          case chkw => rfl
          case stpw =>
           refine ⟨?_, ?_, ?_, ?_, ?_, ?_, ?_, ?_, ?_, ?_, ?_, ?_, ?_, ?_, ?_, ?_, ?_, ?_, ?_, ?_, ?_, ?_, ?_, trivial⟩
           · refine stepO 3 ?vw0 rfl (fun _ _ => rfl) rfl (fun _ => rfl) (by decide) ?_; show (.int .i64 n : Value) = _; rfl
           · refine stepO 0 ?vw1 rfl (fun _ _ => rfl) rfl (fun _ => rfl) (by decide) ?_; show (.slice (some ⟨g, o, none⟩) L cap : Value) = _; rfl
           · refine stepO 4 ?vw2 rfl (fun _ _ => rfl) rfl (fun _ => rfl) (by decide) ?_; show (.int .i64 (k : Int) : Value) = _; rfl
           · refine stepR (o := ⟨_, .indexAddr 22 (.tmp 76) (.tmp 77), _, _, _, _⟩) ?vw3 rfl rfl (fun _ => rfl) fun ρ X hc hf hgl hX hp ho => ?_; have k76 : ρ (.tmp 76) = ?vw1 := hp 1 (by decide); have k77 : ρ (.tmp 77) = ?vw2 := hp 2 (by decide); clear hp ho hX; go_simp; (all_goals try go_bits); (all_goals try simp only [IntWalk.iteOmega]); (all_goals try go_bits); (all_goals rfl)
           · refine stepR (o := ⟨_, .fieldAddr 39 (.tmp 78) 1, _, _, _, _⟩) ?vw4 rfl rfl (fun _ => rfl) fun ρ X hc hf hgl hX hp ho => ?_; have k78 : ρ (.tmp 78) = ?vw3 := hp 3 (by decide); clear hp ho hX; go_simp; (all_goals rfl)
           · refine stepR (o := ⟨_, .load 9 (.tmp 79), _, _, _, _⟩) ?vw5 rfl rfl (fun _ => rfl) fun ρ X hc hf hgl hX hp ho => ?_; have k79 : ρ (.tmp 79) = ?vw4 := hp 4 (by decide); have cX := cXw X hX; clear hp ho hX; go_simp; (all_goals rfl)
           · refine stepR (o := ⟨_, .call { callee := .builtin .len, args := #[.tmp 80], argTypes := #[9] }, _, _, _, _⟩) ?vw6 rfl rfl (fun _ => rfl) fun ρ X hc hf hgl hX hp ho => ?_; have k80 : ρ (.tmp 80) = ?vw5 := hp 5 (by decide); clear hp ho hX; go_simp; (all_goals try go_bits); (all_goals try simp only [IntWalk.iteOmega]); (all_goals try go_bits); (all_goals rfl)
           · refine stepR (o := ⟨_, .binOp .add 3 (.tmp 75) (.tmp 81) 3, _, _, _, _⟩) ?vw7 rfl rfl (fun _ => rfl) fun ρ X hc hf hgl hX hp ho => ?_; have k75 : ρ (.tmp 75) = ?vw0 := hp 0 (by decide); have k81 : ρ (.tmp 81) = ?vw6 := hp 6 (by decide); clear hp ho hX; go_simp; (all_goals try go_bits); (all_goals try simp only [IntWalk.iteOmega]); (all_goals try go_bits); (all_goals rfl)
           · refine stepO 0 ?vw8 rfl (fun _ _ => rfl) rfl (fun _ => rfl) (by decide) ?_; show (.slice (some ⟨g, o, none⟩) L cap : Value) = _; rfl
           · refine stepO 4 ?vw9 rfl (fun _ _ => rfl) rfl (fun _ => rfl) (by decide) ?_; show (.int .i64 (k : Int) : Value) = _; rfl
           · refine stepR (o := ⟨_, .indexAddr 22 (.tmp 83) (.tmp 84), _, _, _, _⟩) ?vw10 rfl rfl (fun _ => rfl) fun ρ X hc hf hgl hX hp ho => ?_; have k83 : ρ (.tmp 83) = ?vw8 := hp 8 (by decide); have k84 : ρ (.tmp 84) = ?vw9 := hp 9 (by decide); clear hp ho hX; go_simp; (all_goals try go_bits); (all_goals try simp only [IntWalk.iteOmega]); (all_goals try go_bits); (all_goals rfl)
           · refine stepR (o := ⟨_, .fieldAddr 39 (.tmp 85) 2, _, _, _, _⟩) ?vw11 rfl rfl (fun _ => rfl) fun ρ X hc hf hgl hX hp ho => ?_; have k85 : ρ (.tmp 85) = ?vw10 := hp 10 (by decide); clear hp ho hX; go_simp; (all_goals rfl)
           · refine stepR (o := ⟨_, .load 9 (.tmp 86), _, _, _, _⟩) ?vw12 rfl rfl (fun _ => rfl) fun ρ X hc hf hgl hX hp ho => ?_; have k86 : ρ (.tmp 86) = ?vw11 := hp 11 (by decide); have cX := cXw X hX; clear hp ho hX; go_simp; (all_goals rfl)
           · refine stepR (o := ⟨_, .call { callee := .builtin .len, args := #[.tmp 87], argTypes := #[9] }, _, _, _, _⟩) ?vw13 rfl rfl (fun _ => rfl) fun ρ X hc hf hgl hX hp ho => ?_; have k87 : ρ (.tmp 87) = ?vw12 := hp 12 (by decide); clear hp ho hX; go_simp; (all_goals try go_bits); (all_goals try simp only [IntWalk.iteOmega]); (all_goals try go_bits); (all_goals rfl)
           · refine stepR (o := ⟨_, .binOp .add 3 (.tmp 82) (.tmp 88) 3, _, _, _, _⟩) ?vw14 rfl rfl (fun _ => rfl) fun ρ X hc hf hgl hX hp ho => ?_; have k82 : ρ (.tmp 82) = ?vw7 := hp 7 (by decide); have k88 : ρ (.tmp 88) = ?vw13 := hp 13 (by decide); clear hp ho hX; go_simp; (all_goals try go_bits); (all_goals try simp only [IntWalk.iteOmega]); (all_goals try go_bits); (all_goals rfl)
           · refine stepO 0 ?vw15 rfl (fun _ _ => rfl) rfl (fun _ => rfl) (by decide) ?_; show (.slice (some ⟨g, o, none⟩) L cap : Value) = _; rfl
           · refine stepO 4 ?vw16 rfl (fun _ _ => rfl) rfl (fun _ => rfl) (by decide) ?_; show (.int .i64 (k : Int) : Value) = _; rfl
           · refine stepR (o := ⟨_, .indexAddr 22 (.tmp 90) (.tmp 91), _, _, _, _⟩) ?vw17 rfl rfl (fun _ => rfl) fun ρ X hc hf hgl hX hp ho => ?_; have k90 : ρ (.tmp 90) = ?vw15 := hp 15 (by decide); have k91 : ρ (.tmp 91) = ?vw16 := hp 16 (by decide); clear hp ho hX; go_simp; (all_goals try go_bits); (all_goals try simp only [IntWalk.iteOmega]); (all_goals try go_bits); (all_goals rfl)
           · refine stepR (o := ⟨_, .fieldAddr 39 (.tmp 92) 4, _, _, _, _⟩) ?vw18 rfl rfl (fun _ => rfl) fun ρ X hc hf hgl hX hp ho => ?_; have k92 : ρ (.tmp 92) = ?vw17 := hp 17 (by decide); clear hp ho hX; go_simp; (all_goals rfl)
           · refine stepR (o := ⟨_, .load 36 (.tmp 93), _, _, _, _⟩) ?vw19 rfl rfl (fun _ => rfl) fun ρ X hc hf hgl hX hp ho => ?_; have k93 : ρ (.tmp 93) = ?vw18 := hp 18 (by decide); have cX := cXw X hX; clear hp ho hX; go_simp; (all_goals rfl)
           · refine stepR (o := ⟨_, .call { callee := .builtin .len, args := #[.tmp 94], argTypes := #[36] }, _, _, _, _⟩) ?vw20 rfl rfl (fun _ => rfl) fun ρ X hc hf hgl hX hp ho => ?_; have k94 : ρ (.tmp 94) = ?vw19 := hp 19 (by decide); clear hp ho hX; go_simp; (all_goals try go_bits); (all_goals try simp only [IntWalk.iteOmega]); (all_goals try go_bits); (all_goals rfl)
           · refine stepR (o := ⟨_, .binOp .add 3 (.tmp 89) (.tmp 95) 3, _, _, _, _⟩) ?vw21 rfl rfl (fun _ => rfl) fun ρ X hc hf hgl hX hp ho => ?_; have k89 : ρ (.tmp 89) = ?vw14 := hp 14 (by decide); have k95 : ρ (.tmp 95) = ?vw20 := hp 20 (by decide); clear hp ho hX; go_simp; (all_goals try go_bits); (all_goals try simp only [IntWalk.iteOmega]); (all_goals try go_bits); (all_goals rfl)
           · refine stepP 96 21 (?vw21) ?vw22 rfl (fun _ _ => rfl) rfl (fun _ => rfl) (by decide) rfl (fun _ _ h => h) ?_; rfl
          case grdw => rfl
          case rstw =>
           intro a0 X hb
           have hfr := hb.frame ((3, ?vw22) :: (75, ?vw0) :: (76, ?vw1) :: (77, ?vw2) :: (78, ?vw3) :: (79, ?vw4) :: (80, ?vw5) :: (81, ?vw6) :: (82, ?vw7) :: (83, ?vw8) :: (84, ?vw9) :: (85, ?vw10) :: (86, ?vw11) :: (87, ?vw12) :: (88, ?vw13) :: (89, ?vw14) :: (90, ?vw15) :: (91, ?vw16) :: (92, ?vw17) :: (93, ?vw18) :: (94, ?vw19) :: (95, ?vw20) :: (96, ?vw21) :: []) rfl ⟨hb.done' 22 3 rfl rfl, hb.done' 0 75 rfl rfl, hb.done' 1 76 rfl rfl, hb.done' 2 77 rfl rfl, hb.done' 3 78 rfl rfl, hb.done' 4 79 rfl rfl, hb.done' 5 80 rfl rfl, hb.done' 6 81 rfl rfl, hb.done' 7 82 rfl rfl, hb.done' 8 83 rfl rfl, hb.done' 9 84 rfl rfl, hb.done' 10 85 rfl rfl, hb.done' 11 86 rfl rfl, hb.done' 12 87 rfl rfl, hb.done' 13 88 rfl rfl, hb.done' 14 89 rfl rfl, hb.done' 15 90 rfl rfl, hb.done' 16 91 rfl rfl, hb.done' 17 92 rfl rfl, hb.done' 18 93 rfl rfl, hb.done' 19 94 rfl rfl, hb.done' 20 95 rfl rfl, hb.done' 21 96 rfl rfl, trivial⟩
           simp only [updL, ↓reduceIte, Nat.reduceEqDiff, Nat.reduceAdd, Nat.zero_add] at hfr
           have HX := Lib.hid hb.ext
           clear hb cXw
           subst hfr
           have HGY := Lib.hid (Grows.trans' HGX.out HX.out)
           clear d1X d2X d4X HX w1 w2 w3
           go_wp2
           go_roundw
           case rel => exact ⟨k + 1, n3, by go_num, rfl, by omega, by omega, fun y hy => by
            rw [List.take_add_one, List.getElem?_eq_getElem (by rw [HL.out]; omega), Hx.out] at hy
            rcases List.mem_append.1 hy with h1 | h1
            · exact Hg.out y h1
            · simp at h1
              rw [h1]; exact Hnb.out, HGY.out⟩
           case measure => simp [intOf]; omega
      · go_wp2
        all_goals (go_ret; exact ⟨_, rfl, HG.out, fun h => by first | (simp at h; done) | (simp at h; omega) | omega⟩)
    · go_wp2
      all_goals (go_ret; exact ⟨_, rfl, HG.out, fun h => by first | (simp at h; done) | (simp at h; omega) | omega⟩)
  · have hk : k = L := by omega
    have Hfin : Hid (L ≤ 80 → SmallL l) := by
     intro h
     have hf : l.take k = l := List.take_of_length_le (by rw [HL.out, hk]; exact Nat.le_refl _)
     exact ⟨by rw [HL.out]; exact h, fun x hx => Hg.out x (by rw [hf]; exact hx)⟩
    clear hk
    go_wp2
    all_goals (go_ret; exact ⟨_, rfl, HG.out, fun h => by first | (simp at h; done) | exact Hfin.out (by omega)⟩)
end Go.Proofs.YtoppcpiheaedlaaGreatDoor
end
section
/-
  An append onto an empty literal: what came in, copied.
-/
namespace Go.Proofs.YtoppcpiheaedlaaGreatDoor
open Go.RowKit Go.Maps
set_option linter.unusedVariables false
set_option linter.unusedSimpArgs false
theorem run_app_lit {P : Program} (B : Nat) (w : World) (t ty e : TypeId) (i : TypeInfo) (z : Value) (ht : P.underlying t = some (.slice e)) (hi : P.info? e = some i) (hz : i.zero = some z)
 (hs : i.size = 1) (hzs : z.cells.size = 1) (hb : i.bytes ≤ 8) (hB : B ≤ w.heap.size) (g : Nat) (hown : w.ownsRow B e 1 (.slice (some ⟨g, 0, none⟩) 0 0) 0 [])
 (a : Option Addr) (c : Nat) (news : List Value) (hn : ∀ x, a = some x → ∀ j u, news[j]? = some u → w.cell? (x.add j) = some u) (h0 : a = none → news = []) (hm : news.length ≤ 1000000) :
 ∃ v' w', (Builtin.append_ #[t, t] ty #[.slice (some ⟨g, 0, none⟩) 0 0, .slice a news.length c]).run P w = .ok v' w' ∧ w'.ownsRow B e 1 v' news.length news ∧ Grows w w' := by
 by_cases hm0 : news = []
 · subst hm0
   refine ⟨.slice (some ⟨g, 0, none⟩) 0 0, w, ?_, hown, Below.refl _ _⟩
   have hf : ∀ w : World, (Builtin.firstCells i.size 0 (Value.slice a 0 c)).run P w = .ok #[] w := fun w => by
    cases a with
    | none => exact run_firstCells_none w i.size 0 0 c
    | some x => exact run_firstCells_some w i.size 0 x 0 c [] (by simp) (by simp)
   simp [Builtin.append_, run_underlying ht, sizeOf, typeInfo, hi, Builtin.lenOf, hf, storeCells]
 · cases a with
   | none => exact absurd (h0 rfl) hm0
   | some x =>
    have hpos : 0 < news.length := List.length_pos_iff.2 hm0
    have hr := run_append_grow (P := P) w t ty e i z ht hi hz ⟨g, 0, none⟩ 0 0 [] (by simp) (by simp) x news.length c news (by rw [hs, Nat.mul_one]) (hn x rfl) (by omega) (by omega)
     (growslice_fits (by omega) (by have : (0 + news.length) * i.bytes ≤ 1000000 * 8 := Nat.mul_le_mul (by omega) hb; omega))
    simp only [Nat.zero_add] at hr
    have hge := grownCap_ge w news.length 0 e
    have hle := grownCap_le_maxLen w news.length 0 e (by unfold maxLen; omega)
    refine ⟨_, _, hr, ⟨by simp, .inr ⟨w.heap.size, _, _, rfl, hB, heap_alloc_new w.drew _, hge, hle, ?_, ?_⟩⟩, (Below.refl _ _).drew.alloc (Nat.le_refl _) _⟩
    · simp only [Array.size_append, List.size_toArray, size_zeroCells, hzs, List.length_nil, Nat.zero_add]
      omega
    · simp only [Array.toList_append, List.nil_append]
      rw [Nat.mul_one]
      exact List.take_left
theorem infoU8 : (Tryz.prog.info? 5).map (fun i => (i.zero, i.size, i.bytes)) = some (some (.int .u8 0), 1, 1) := by kernel_rfl
theorem infoInt : (Tryz.prog.info? 3).map (fun i => (i.zero, i.size, i.bytes)) = some (some (.int .i64 0), 1, 8) := by kernel_rfl
theorem run_copyB (B : Nat) (w : World) (hB : B ≤ w.heap.size) (g : Nat) (hown : w.ownsRow B 5 1 (.slice (some ⟨g, 0, none⟩) 0 0) 0 []) (v : Value) (l : List UInt8) (h : Byt w v l) (hl : l.length ≤ 1000000) :
 ∃ v' w', (Builtin.append_ #[36, 36] 36 #[.slice (some ⟨g, 0, none⟩) 0 0, v]).run Tryz.prog w = .ok v' w' ∧ Own 5 B w' v' l ∧ Grows w w' := by
 obtain ⟨i, h1, h2⟩ := Option.map_eq_some_iff.1 infoU8
 simp only [Prod.mk.injEq] at h2
 obtain ⟨a, cap, rfl, h3, h4, h5, h6⟩ := h
 obtain ⟨v', w', hr, ho, hg⟩ := run_app_lit (P := Tryz.prog) B w 36 36 5 i (.int .u8 0) Tryz.underlying36 h1 h2.1 h2.2.1 rfl (by omega) hB g hown a cap (l.map bv)
  (fun x hx j u hj => by
   rcases h6 with h6 | ⟨b, off, e, hc⟩
   · rw [h6] at hj; simp at hj
   · rw [e] at hx
     obtain rfl := Option.some.inj hx
     have hjl : j < l.length := by have := (List.getElem?_eq_some_iff.1 hj).1; simpa using this
     rw [Addr.add_lit, hc j hjl, ← hj, List.getElem?_map, List.getD, List.getElem?_eq_getElem hjl]
     rfl)
  (fun hn => by
   rcases h6 with h6 | ⟨b, off, e, hc⟩
   · rw [h6]; rfl
   · rw [hn] at e; cases e) (by simpa using hl)
 rw [List.length_map] at hr ho
 exact ⟨v', w', hr, ho, hg⟩
theorem run_copyI (B : Nat) (w : World) (hB : B ≤ w.heap.size) (g : Nat) (hown : w.ownsRow B 3 1 (.slice (some ⟨g, 0, none⟩) 0 0) 0 []) (v : Value) (l : List Int) (h : IntS w v l) (hl : l.length ≤ 1000000) :
 ∃ v' w', (Builtin.append_ #[37, 37] 37 #[.slice (some ⟨g, 0, none⟩) 0 0, v]).run Tryz.prog w = .ok v' w' ∧ w'.ownsRow B 3 1 v' l.length (l.map fun z => .int .i64 z) ∧ Grows w w' := by
 obtain ⟨i, h1, h2⟩ := Option.map_eq_some_iff.1 infoInt
 simp only [Prod.mk.injEq] at h2
 obtain ⟨a, cap, rfl, h6⟩ := h
 obtain ⟨v', w', hr, ho, hg⟩ := run_app_lit (P := Tryz.prog) B w 37 37 3 i (.int .i64 0) Tryz.underlying37 h1 h2.1 h2.2.1 rfl (by omega) hB g hown a cap (l.map fun z => .int .i64 z)
  (fun x hx j u hj => by
   rcases h6 with h6 | ⟨b, off, e, hc⟩
   · rw [h6] at hj; simp at hj
   · rw [e] at hx
     obtain rfl := Option.some.inj hx
     have hjl : j < l.length := by have := (List.getElem?_eq_some_iff.1 hj).1; simpa using this
     rw [Addr.add_lit, hc j hjl, ← hj, List.getElem?_map, List.getD, List.getElem?_eq_getElem hjl]
     rfl)
  (fun hn => by
   rcases h6 with h6 | ⟨b, off, e, hc⟩
   · rw [h6]; rfl
   · rw [hn] at e; cases e) (by simpa using hl)
 rw [List.length_map] at hr ho
 exact ⟨v', w', hr, ho, hg⟩
theorem ints_of_own {B : Nat} {w : World} {v : Value} {l : List Int} (h : w.ownsRow B 3 1 v l.length (l.map fun z => .int .i64 z)) : IntS w v l := by
 rcases h.2 with ⟨rfl, h0⟩ | ⟨g, cap, cur, rfl, hb, hg, hnc, hcm, hcs, htake⟩
 · exact ⟨none, 0, by rw [h0], .inl (List.eq_nil_of_length_eq_zero h0)⟩
 · refine ⟨_, cap, rfl, .inr ⟨g, 0, rfl, fun i hi => ?_⟩⟩
   rw [Nat.zero_add]
   refine own_cell h i _ ?_
   rw [List.getElem?_map, List.getD, List.getElem?_eq_getElem hi]
   rfl
end Go.Proofs.YtoppcpiheaedlaaGreatDoor
end
section
/-
  The program's disk: another name for a file.
-/
namespace Go.Proofs.YtoppcpiheaedlaaGreatDoor
open Go.RowKit Go.Maps Go.MapKept
set_option linter.unusedVariables false
set_option linter.unusedSimpArgs false
attribute [local go_sem] sv nv mv pv
theorem delA_lt {α β : Type} [DecidableEq α] {l : List (α × β)} {a : α} {b : β} (h : findA l a = some b) : (delA l a).length < l.length := by
 unfold delA
 rcases Nat.lt_or_ge (l.filter fun p => decide (p.1 ≠ a)).length l.length with h1 | h1
 · exact h1
 · exfalso
   have h2 : (l.filter fun p => decide (p.1 ≠ a)).length = l.length := Nat.le_antisymm (List.length_filter_le _ _) h1
   have h3 := List.length_filter_eq_length_iff.1 h2 (a, b) (findA_mem h)
   simp at h3
set_option maxRecDepth 100000 in
theorem pRename {w : World} {q : Nat} {x : Px} (h : PD w q x) (nm to : Nm) (hn : okS nm) (hto : okS to) (hnl : True) (hsm : x.dirs.length < 1000000) :
 Calls Tryz.prog 85 #[.pointer (some ⟨q, 0, none⟩), sv nm, sv to] w fun e w' => e = .returned (.int .i64 (renameP x.s nm to).1) ∧ ∃ x', PD w' q x' ∧ x'.s = (renameP x.s nm to).2 ∧ TurnP q x x' w w' := by
 have HB := Lib.hid (pBeginWith h nm hn)
 have HN := Lib.hid (pIsName to hnl)
 have Hn := Lib.hid hn
 have Hto := Lib.hid hto
 have Hsm := Lib.hid hsm
 unfold sv at HB HN ⊢
 by_cases hf : (beginP x.s).1 = 0
 · have Hs : Hid (renameP x.s nm to = match findA (nowX x).2 nm with
    | none => (7, (beginP x.s).2)
    | some n => if nameOK to = false then (2, (beginP x.s).2) else (0, { (beginP x.s).2 with dirs := (beginP x.s).2.dirs ++ [putA (delA (nowX x).2 nm) to n] })) := by
    show _ = _
    unfold renameP
    rw [guardP_yes hf, ← beginX_s, nowX_s]
    rfl
   have hr : bwR x nm = findR (nowX x).2 nm := by unfold bwR; rw [if_pos hf]
   rw [hr] at HB
   cases hd : findA (nowX x).2 nm with
   | none =>
    have hr' : findR (nowX x).2 nm = .tuple #[.int .i64 0, .int .i64 7] := by unfold findR; rw [hd]
    have Hr : Hid (renameP x.s nm to = (7, (beginP x.s).2)) := by show _ = _; rw [Hs.out, hd]
    rw [hr'] at HB
    clear h hn hsm hf hr hd hr' hto hnl
    go_enter Tryz.func85, Tryz.ntmps85
    go_wp2_with fail
    refine HB.out.mono ?_
    rintro e w1 ⟨rfl, hP, hT⟩
    have HP := Lib.hid hP
    have HT := Lib.hid hT
    clear hP hT
    go_wp2
    go_ret
    exact ⟨by rw [Hr.out]; rfl, beginX x, HP.out, by rw [Hr.out, beginX_s], HT.out⟩
   | some n =>
    have hr' : findR (nowX x).2 nm = .tuple #[nv n, .int .i64 0] := by unfold findR; rw [hd]
    have Hd := Lib.hid hd
    rw [hr'] at HB
    by_cases hok : nameOK to = false
    · have Hr : Hid (renameP x.s nm to = (2, (beginP x.s).2)) := by show _ = _; rw [Hs.out, hd]; exact if_pos hok
      rw [hok] at HN
      clear h hn hsm hf hr hd hr' hto hnl hok
      go_enter Tryz.func85, Tryz.ntmps85
      go_wp2_with fail
      refine HB.out.mono ?_
      rintro e w1 ⟨rfl, hP, hT⟩
      have HP := Lib.hid hP
      have HT := Lib.hid hT
      clear hP hT
      go_wp2_with fail
      refine (HN.out _).mono ?_
      rintro e w2 ⟨rfl, e3⟩
      have e4 := e3.symm
      subst e4
      go_wp2
      go_ret
      exact ⟨by rw [Hr.out]; rfl, beginX x, HP.out, by rw [Hr.out, beginX_s], HT.out⟩
    · have hok' : nameOK to = true := by simpa using hok
      have Hok := Lib.hid hok'
      have Hr : Hid (renameP x.s nm to = (0, { (beginP x.s).2 with dirs := (beginP x.s).2.dirs ++ [putA (delA (nowX x).2 nm) to n] })) := by show _ = _; rw [Hs.out, hd]; exact if_neg hok
      rw [hok'] at HN
      clear h hn hsm hf hr hd hr' hto hnl hok hok'
      go_enter Tryz.func85, Tryz.ntmps85
      go_wp2_with fail
      refine HB.out.mono ?_
      rintro e w1 ⟨rfl, hP, hT⟩
      have HP := Lib.hid hP
      have HT := Lib.hid hT
      have HC := Lib.hid (pChange hP Hsm.out)
      clear hP hT
      go_wp2_with fail
      refine (HN.out _).mono ?_
      rintro e w2 ⟨rfl, e3⟩
      have e4 := e3.symm
      subst e4
      go_wp2_with fail
      refine HC.out.mono ?_
      rintro e w2 ⟨nb, v, rfl, hle, hP2, hT2, hM2⟩
      have HP2 := Lib.hid hP2
      have HT2 := Lib.hid hT2
      have HM2 := Lib.hid hM2
      have Hle := Lib.hid hle
      have Hok0 : Hid (∀ p ∈ (nowX (beginX x)).2, okS p.1) := HP.out.okD (nowX_mem _ HP.out.wf.ne)
      have Hok1 : Hid (∀ p ∈ delA (nowX (beginX x)).2 nm, okS p.1) := fun p hp => Hok0.out p (delA_mem hp)
      have Hnames : Hid ((nowX (beginX x)).2.length ≤ 8 ∧ ∀ e ∈ (nowX (beginX x)).2, nameOK e.1 = true ∧ ∃ f ∈ (beginX x).fs, f.num = e.2) := HP.out.wf.names _ (nowX_mem _ HP.out.wf.ne)
      have Hlen1 : Hid ((delA (nowX (beginX x)).2 nm).length < maxLen) := by show _ < _; have := delA_len (nowX (beginX x)).2 nm; have := Hnames.out.1; unfold maxLen; omega
      clear hle hP2 hT2 hM2
      go_wp2_with (first
       | (at_delete; refine wpList_dropA rfl _ _ 103 3 rfl HM2.out keyD Hok0.out Tryz.underlying103 nm Hn.out rfl rfl ?_; intro w3 hm3 hg3 hs3; have HM3 := Lib.hid hm3; have HG3 := Lib.hid hg3; have HA := Lib.hid (HP.out.turnPush Hle.out HP2.out HT2.out hg3 hm3 ⟨Nat.le_trans (delA_len _ _) Hnames.out.1, fun e he => Hnames.out.2 e (delA_mem he)⟩); clear hm3 hg3 hs3)
       | (at_mapUpdate; refine wpList_putA rfl _ _ _ 103 3 rfl HM3.out keyD Hok1.out Tryz.underlying103 Hlen1.out to Hto.out n rfl rfl rfl ?_; intro w7 hm7 hg7 hs7))
      have HF7 := Lib.hid (HP.out.turnPush Hle.out HA.out.1 HA.out.2 hg7 hm7 (by
       have hl := delA_lt (l := (nowX (beginX x)).2) (a := nm) (b := n) Hd.out
       have h8 := Hnames.out.1
       refine ⟨?_, ?_⟩
       · unfold putA
         rw [List.length_append]
         have := delA_len (delA (nowX (beginX x)).2 nm) to
         simp only [List.length_cons, List.length_nil]
         omega
       · intro e he
         rcases List.mem_append.1 he with he | he
         · exact Hnames.out.2 e (delA_mem (delA_mem he))
         · rw [List.mem_singleton.1 he]
           exact ⟨Hok.out, (Hnames.out.2 _ (findA_mem (l := (nowX (beginX x)).2) Hd.out)).2⟩))
      clear hm7 hg7 hs7
      go_wp2
      go_ret
      refine ⟨by rw [Hr.out]; rfl, _, HF7.out.1, ?_, HT.out.trans HF7.out.2⟩
      rw [Hr.out, ← beginX_s]
      unfold Px.push Px.s
      simp
      rfl
 · have Hr : Hid (renameP x.s nm to = beginP x.s) := guardP_no hf
   have hr : bwR x nm = .tuple #[.int .i64 0, .int .i64 (beginP x.s).1] := by unfold bwR; rw [if_neg hf]
   rw [hr] at HB
   obtain ⟨fc, Hfc⟩ : ∃ y, Hid ((beginP x.s).1 = y) := ⟨_, rfl⟩
   rw [Hfc.out] at HB hf
   have hne : (fc == 0) = false := by simpa using hf
   clear h hn hsm hf hr hto hnl
   go_enter Tryz.func85, Tryz.ntmps85
   go_wp2_with fail
   refine HB.out.mono ?_
   rintro e w1 ⟨rfl, hP, hT⟩
   have HP := Lib.hid hP
   have HT := Lib.hid hT
   clear hP hT
   go_wp2
   go_ret
   exact ⟨by rw [Hr.out, Hfc.out]; rfl, beginX x, HP.out, by rw [Hr.out, beginX_s], HT.out⟩
set_option maxRecDepth 100000 in
theorem PRename {w : World} {q : Nat} {x : Px} (h : PD w q x) (nm to : Nm) (hn : okS nm) (hto : okS to) (hnl : True) (hsm : x.dirs.length < 1000000) :
 Calls Tryz.prog 38 #[.pointer (some ⟨q, 0, none⟩), sv nm, sv to] w (Does q x w opRename nm (renameP x.s nm to)) := by
 have HI := Lib.hid (pRename h nm to hn hto hnl hsm)
 obtain ⟨r, Hr⟩ : ∃ r, Hid (renameP x.s nm to = r) := ⟨_, rfl⟩
 rw [Hr.out] at HI ⊢
 unfold sv at HI ⊢
 clear h
 go_enter Tryz.func38, Tryz.ntmps38
 go_wp2_with fail
 refine HI.out.mono ?_
 rintro e w1 ⟨rfl, x', hP, hs, hT⟩
 have HP := Lib.hid hP
 have HS := Lib.hid hs
 have HT := Lib.hid hT
 clear hP hs hT
 have HF := Lib.hid (pFault opRename nm r.1 w1)
 unfold sv at HF
 go_wp2_with fail
 refine HF.out.mono ?_
 rintro e w2 ⟨v, rfl, hF, hG⟩
 have HFa := Lib.hid hF
 have HG := Lib.hid hG
 clear hF hG HF HI
 go_wp2
 go_ret
 exact ⟨v, rfl, HFa.out, x', HP.out.grows HG.out, HS.out, HT.out.trans (TurnP.ofGrows HG.out)⟩
end Go.Proofs.YtoppcpiheaedlaaGreatDoor
end
