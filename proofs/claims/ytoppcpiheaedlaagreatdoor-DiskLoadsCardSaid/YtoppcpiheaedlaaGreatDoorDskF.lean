/-
  A disk of files as a pure state, and what each call does to it.
-/
import Derived.Test.YtoppcpiheaedlaaGreatDoorVintF
namespace Go.Proofs.YtoppcpiheaedlaaGreatDoor

abbrev Nm := List UInt8
structure Chg where
  kind : Nat
  a : Nm
  b : Nm
  id : Nat
structure Wr where
  id : Nat
  n : Nat
  p : List UInt8
structure Ds where
  room : Nat
  dir : List (Nm × Nat)
  chs : List Chg
  fls : List (List (List UInt8))
  wrs : List Wr
  armed : Bool
  after : Int
  code : Int

def nmByte (c : UInt8) : Bool := (decide (97 ≤ c.toNat) && decide (c.toNat ≤ 122)) || (decide (48 ≤ c.toNat) && decide (c.toNat ≤ 57)) || c == 46
def nameOK (s : Nm) : Bool := decide (1 ≤ s.length) && decide (s.length ≤ 16) && s.all nmByte
/-- One entry, behind a change that takes away or renames. -/
def chgE (c : Chg) (e : Nm × Nat) : List (Nm × Nat) :=
  if e.1 = c.a ∧ c.kind = 2 then [(c.b, e.2)] else if e.1 = c.a ∨ (c.kind = 2 ∧ e.1 = c.b) then [] else [e]
def chgF (d : List (Nm × Nat)) (c : Chg) : List (Nm × Nat) :=
  if c.kind = 0 then d ++ [(c.a, c.id)] else if c.kind = 2 ∧ c.a = c.b then d else d.flatMap (chgE c)
def nowF (s : Ds) : List (Nm × Nat) := s.chs.foldl chgF s.dir
def findF : List (Nm × Nat) → Nm → Option Nat
  | [], _ => none
  | e :: r, nm => if e.1 = nm then some e.2 else findF r nm
def idF (s : Ds) (nm : Nm) : Option Nat := findF (nowF s) nm
def secs (s : Ds) (id : Nat) : List (List UInt8) := s.fls.getD id []
def zero64 : List UInt8 := List.replicate 64 0

def newF (room : Nat) : Ds := ⟨room, [], [], [], [], false, 0, 0⟩
/-- An armed call. -/
def failsF (s : Ds) : Int × Ds :=
  if s.armed = false then (0, s) else if 0 < s.after then (0, { s with after := s.after - 1 }) else (s.code, { s with armed := false })
/-- A call that an arming may refuse. -/
def guardF (s : Ds) (k : Ds → Int × Ds) : Int × Ds := if (failsF s).1 ≠ 0 then failsF s else k (failsF s).2

def createF (s : Ds) (nm : Nm) : Int × Ds := guardF s fun s =>
  if nameOK nm = false then (2, s) else if (idF s nm).isSome then (40, s) else if 8 ≤ (nowF s).length then (6, s)
  else (0, { s with fls := s.fls ++ [[]], chs := s.chs ++ [⟨0, nm, [], s.fls.length⟩] })
def removeF (s : Ds) (nm : Nm) : Int × Ds := guardF s fun s =>
  if (idF s nm).isNone then (7, s) else (0, { s with chs := s.chs ++ [⟨1, nm, [], 0⟩] })
def renameF (s : Ds) (a b : Nm) : Int × Ds := guardF s fun s =>
  if (idF s a).isNone then (7, s) else if nameOK b = false then (2, s) else (0, { s with chs := s.chs ++ [⟨2, a, b, 0⟩] })
def usedF (s : Ds) : Nat := ((nowF s).map fun e => (secs s e.2).length).sum
def growF (s : Ds) (nm : Nm) (n : Int) : Int × Ds := guardF s fun s =>
  match idF s nm with
  | none => (7, s)
  | some id =>
    if n < (secs s id).length ∨ 4096 < n then (2, s)
    else if (s.room : Int) < (usedF s : Int) + n - (secs s id).length then (42, s)
    else (0, { s with fls := s.fls.set id (secs s id ++ List.replicate (n.toNat - (secs s id).length) zero64) })
def writeF (s : Ds) (nm : Nm) (n : Int) (p : List UInt8) : Int × Ds := guardF s fun s =>
  match idF s nm with
  | none => (7, s)
  | some id =>
    if n < 0 ∨ ((secs s id).length : Int) ≤ n then (43, s)
    else if p.length ≠ 64 then (2, s)
    else (0, { s with wrs := s.wrs ++ [⟨id, n.toNat, p⟩] })
/-- A sector as it was written last. -/
def lastF (ws : List Wr) (id n : Nat) (p : List UInt8) : List UInt8 :=
  ws.foldl (fun p w => if w.id = id ∧ w.n = n then w.p else p) p
def lookF (s : Ds) (nm : Nm) (n : Int) : List UInt8 × Int :=
  match idF s nm with
  | none => ([], 7)
  | some id => if n < 0 ∨ ((secs s id).length : Int) ≤ n then ([], 43) else (lastF s.wrs id n.toNat ((secs s id).getD n.toNat []), 0)
def readF (s : Ds) (nm : Nm) (n : Int) : (List UInt8 × Int) × Ds :=
  if (failsF s).1 ≠ 0 then (([], (failsF s).1), (failsF s).2) else (lookF (failsF s).2 nm n, (failsF s).2)
def keepF (f : List (List (List UInt8))) (w : Wr) : List (List (List UInt8)) := f.set w.id ((f.getD w.id []).set w.n w.p)
def syncF (s : Ds) (nm : Nm) : Int × Ds := guardF s fun s =>
  match idF s nm with
  | none => (7, s)
  | some id => (0, { s with fls := (s.wrs.filter fun w => w.id == id).foldl keepF s.fls, wrs := s.wrs.filter fun w => !(w.id == id) })
def syncDirF (s : Ds) : Int × Ds := guardF s fun s => (0, { s with dir := nowF s, chs := [] })
def armF (s : Ds) (after code : Int) : Ds := { s with armed := decide (0 ≤ after) && (code == 41 || code == 42), after := after, code := code }
/-- The writes whose places stand in the list. -/
def keptF (keep : List Int) : List Wr → Nat → List Wr
  | [], _ => []
  | w :: r, i => if (i : Int) ∈ keep then w :: keptF keep r (i + 1) else keptF keep r (i + 1)
def crashF (s : Ds) (n : Int) (keep : List Int) : Ds :=
  { s with dir := (s.chs.take n.toNat).foldl chgF s.dir, chs := [], fls := (keptF keep s.wrs 0).foldl keepF s.fls, wrs := [], armed := false }
def lenF (s : Ds) (nm : Nm) : Nat × Int := match idF s nm with | none => (0, 7) | some id => ((secs s id).length, 0)

/-! Names, rising. -/
def ltF : Nm → Nm → Bool
  | [], [] => false
  | [], _ :: _ => true
  | _ :: _, [] => false
  | a :: l, b :: m => if a.toNat < b.toNat then true else if a = b then ltF l m else false
def insF (x : Nm) : List Nm → List Nm
  | [] => [x]
  | y :: r => if ltF x y then x :: y :: r else y :: insF x r
def sortF (l : List Nm) : List Nm := l.foldr insF []
def namesF (s : Ds) : List Nm := sortF ((nowF s).map (·.1))

/-- What holds of a disk, whatever was done. -/
structure Wf (s : Ds) : Prop where
  dir : ∀ e ∈ s.dir, e.2 < s.fls.length
  chs : ∀ c ∈ s.chs, c.kind = 0 → c.id < s.fls.length
  wrs : ∀ w ∈ s.wrs, w.id < s.fls.length ∧ w.n < (secs s w.id).length ∧ w.p.length = 64
  sec : ∀ f ∈ s.fls, f.length ≤ 4096 ∧ ∀ p ∈ f, p.length = 64
  room : s.room ≤ 4096

theorem chgE_ids (c : Chg) (e x : Nm × Nat) (h : x ∈ chgE c e) : x.2 = e.2 := by
  unfold chgE at h
  split at h
  · simp at h; rw [h]
  · split at h
    · simp at h
    · simp at h; rw [h]
theorem chgF_ids (d : List (Nm × Nat)) (c : Chg) (n : Nat) (hd : ∀ e ∈ d, e.2 < n) (hc : c.kind = 0 → c.id < n) : ∀ e ∈ chgF d c, e.2 < n := by
  intro e he
  unfold chgF at he
  split at he
  · rename_i h0
    rcases List.mem_append.1 he with h | h
    · exact hd e h
    · simp at h; rw [h]; exact hc h0
  · split at he
    · exact hd e he
    · obtain ⟨x, hx, hy⟩ := List.mem_flatMap.1 he
      rw [chgE_ids c x e hy]
      exact hd x hx
theorem foldl_ids (n : Nat) : ∀ (cs : List Chg) (d : List (Nm × Nat)), (∀ e ∈ d, e.2 < n) → (∀ c ∈ cs, c.kind = 0 → c.id < n) → ∀ e ∈ cs.foldl chgF d, e.2 < n
  | [], d, hd, _ => hd
  | c :: r, d, hd, hc => foldl_ids n r (chgF d c) (chgF_ids d c n hd (hc c (by simp))) (fun x hx => hc x (by simp [hx]))
theorem Wf.now {s : Ds} (h : Wf s) : ∀ e ∈ nowF s, e.2 < s.fls.length := foldl_ids _ s.chs s.dir h.dir h.chs
theorem findF_mem : ∀ (l : List (Nm × Nat)) (nm : Nm) (i : Nat), findF l nm = some i → ∃ e ∈ l, e.1 = nm ∧ e.2 = i
  | [], _, _, h => by simp [findF] at h
  | e :: r, nm, i, h => by
    unfold findF at h
    split at h
    · rename_i h1
      exact ⟨e, by simp, h1, by simpa using h⟩
    · obtain ⟨x, hx, h2⟩ := findF_mem r nm i h
      exact ⟨x, by simp [hx], h2⟩
theorem Wf.id {s : Ds} (h : Wf s) {nm : Nm} {i : Nat} (hi : idF s nm = some i) : i < s.fls.length := by
  obtain ⟨e, he, _, h2⟩ := findF_mem _ _ _ hi
  rw [← h2]
  exact h.now e he
end Go.Proofs.YtoppcpiheaedlaaGreatDoor
