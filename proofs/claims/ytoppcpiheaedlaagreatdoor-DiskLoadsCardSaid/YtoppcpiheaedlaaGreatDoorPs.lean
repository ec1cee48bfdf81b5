/-
  The program's disk as a pure state, and what each call makes of it.
-/
import Derived.Test.YtoppcpiheaedlaaGreatDoorMap
import Derived.Test.YtoppcpiheaedlaaGreatDoorDskF
namespace Go.Proofs.YtoppcpiheaedlaaGreatDoor

abbrev Dir := List (Nm × Nat)
abbrev Sec := List UInt8
structure Ps where
  room : Nat
  dirs : List Dir
  files : List (Nat × (List Sec × List Sec))
  made : Nat
  pend : List Wr
  first : Int
  code : Int

def nowP (s : Ps) : Dir := s.dirs.getLastD []
def newP (room : Nat) : Ps := ⟨room, [[]], [], 0, [], 0, 0⟩
def fileP (s : Ps) (n : Nat) : List Sec × List Sec := (findA s.files n).getD ([], [])
/-- What each call asks first. -/
def beginP (s : Ps) : Int × Ps :=
  if s.code = 0 then (0, s) else if 0 < s.first then (0, { s with first := s.first - 1 }) else (s.code, { s with first := 0, code := 0 })
def guardP (s : Ps) (k : Ps → Int × Ps) : Int × Ps := if (beginP s).1 ≠ 0 then beginP s else k (beginP s).2
def createP (s : Ps) (nm : Nm) : Int × Ps := guardP s fun s =>
  if nameOK nm = false then (2, s) else if (findA (nowP s) nm).isSome then (40, s) else if 8 ≤ (nowP s).length then (6, s)
  else (0, { s with dirs := s.dirs ++ [putA (nowP s) nm (s.made + 1)], files := s.files ++ [(s.made + 1, ([], []))], made := s.made + 1 })
def removeP (s : Ps) (nm : Nm) : Int × Ps := guardP s fun s =>
  if (findA (nowP s) nm).isNone then (7, s) else (0, { s with dirs := s.dirs ++ [delA (nowP s) nm] })
def renameP (s : Ps) (a b : Nm) : Int × Ps := guardP s fun s =>
  match findA (nowP s) a with
  | none => (7, s)
  | some n => if nameOK b = false then (2, s) else (0, { s with dirs := s.dirs ++ [putA (delA (nowP s) a) b n] })
def takenP (s : Ps) : Nat := ((nowP s).map fun e => (fileP s e.2).1.length).sum
def setFile (l : List (Nat × (List Sec × List Sec))) (n : Nat) (f : List Sec × List Sec) : List (Nat × (List Sec × List Sec)) := l.map fun e => if e.1 = n then (n, f) else e
def growP (s : Ps) (nm : Nm) (n : Int) : Int × Ps := guardP s fun s =>
  match findA (nowP s) nm with
  | none => (7, s)
  | some k =>
    if n < (fileP s k).1.length ∨ 4096 < n then (2, s)
    else if (s.room : Int) < (takenP s : Int) + (n - (fileP s k).1.length) then (42, s)
    else (0, { s with files := setFile s.files k ((fileP s k).1 ++ List.replicate (n.toNat - (fileP s k).1.length) zero64, (fileP s k).2 ++ List.replicate (n.toNat - (fileP s k).1.length) zero64) })
def writeP (s : Ps) (nm : Nm) (n : Int) (p : Sec) : Int × Ps := guardP s fun s =>
  match findA (nowP s) nm with
  | none => (7, s)
  | some k =>
    if n < 0 ∨ ((fileP s k).1.length : Int) ≤ n then (43, s)
    else if p.length ≠ 64 then (2, s)
    else (0, { s with files := setFile s.files k ((fileP s k).1.set n.toNat p, (fileP s k).2), pend := s.pend ++ [⟨k, n.toNat, p⟩] })
def readP (s : Ps) (nm : Nm) (n : Int) : (Sec × Int) × Ps :=
  if (beginP s).1 ≠ 0 then (([], (beginP s).1), (beginP s).2) else
  match findA (nowP (beginP s).2) nm with
  | none => (([], 7), (beginP s).2)
  | some k => if n < 0 ∨ ((fileP (beginP s).2 k).1.length : Int) ≤ n then (([], 43), (beginP s).2) else (((fileP (beginP s).2 k).1.getD n.toNat [], 0), (beginP s).2)
def syncP (s : Ps) (nm : Nm) : Int × Ps := guardP s fun s =>
  match findA (nowP s) nm with
  | none => (7, s)
  | some k => (0, { s with files := setFile s.files k ((fileP s k).1, (fileP s k).1), pend := s.pend.filter fun w => !(w.id == k) })
def settleP (s : Ps) (d : Dir) : Ps := { s with dirs := [d], files := s.files.filter fun f => d.any fun e => e.2 == f.1 }
def syncDirP (s : Ps) : Int × Ps := guardP s fun s => (0, settleP s (nowP s))
def armP (s : Ps) (after code : Int) : Ps := if 0 ≤ after ∧ (code = 41 ∨ code = 42) then { s with first := after, code := code } else { s with first := 0, code := 0 }
/-- A write that is kept, among files. -/
def keepP (l : List (Nat × (List Sec × List Sec))) (w : Wr) : List (Nat × (List Sec × List Sec)) := l.map fun e => if e.1 = w.id then (e.1, (e.2.1, e.2.2.set w.n w.p)) else e
def whichP (s : Ps) (n : Int) : Nat := min n.toNat (s.dirs.length - 1)
def crashP (s : Ps) (n : Int) (keep : List Int) : Ps :=
  { settleP s (s.dirs.getD (whichP s n) []) with
    files := ((keptF keep s.pend 0).foldl keepP (settleP s (s.dirs.getD (whichP s n) [])).files).map fun e => (e.1, (e.2.2, e.2.2)), pend := [], first := 0, code := 0 }
def lenP (s : Ps) (nm : Nm) : Nat × Int := match findA (nowP s) nm with | none => (0, 7) | some k => ((fileP s k).1.length, 0)
end Go.Proofs.YtoppcpiheaedlaaGreatDoor
