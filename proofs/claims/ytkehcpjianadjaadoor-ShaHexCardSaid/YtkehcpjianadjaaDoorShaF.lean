/-
  SHA-256 as a pure function.
-/
import Derived.Test.YtkehcpjianadjaaDoorSw
namespace Go.Proofs.YtkehcpjianadjaaDoor

def word4 (a b c d : UInt8) : UInt32 := a.toUInt32 <<< 24 ||| b.toUInt32 <<< 16 ||| c.toUInt32 <<< 8 ||| d.toUInt32
def wordAt (l : List UInt8) (k : Nat) : UInt32 := word4 (l.getD (4 * k) 0) (l.getD (4 * k + 1) 0) (l.getD (4 * k + 2) 0) (l.getD (4 * k + 3) 0)
def w16 (l : List UInt8) : List UInt32 := (List.range 16).map (wordAt l)
def nextW (ws : List UInt32) (n : Nat) : UInt32 :=
  (rotr (ws.getD (n - 2) 0) 17 ^^^ rotr (ws.getD (n - 2) 0) 19 ^^^ ws.getD (n - 2) 0 >>> 10) + ws.getD (n - 7) 0 +
  (rotr (ws.getD (n - 15) 0) 7 ^^^ rotr (ws.getD (n - 15) 0) 18 ^^^ ws.getD (n - 15) 0 >>> 3) + ws.getD (n - 16) 0
/-- The first 16 + k words. -/
def sched (l : List UInt8) : Nat → List UInt32
  | 0 => w16 l
  | k + 1 => sched l k ++ [nextW (sched l k) (16 + k)]
theorem w16_length (l : List UInt8) : (w16 l).length = 16 := by simp [w16]
theorem sched_length (l : List UInt8) : ∀ k, (sched l k).length = 16 + k
  | 0 => w16_length l
  | k + 1 => by rw [sched, List.length_append, sched_length l k]; simp [Nat.add_assoc]

structure R8 where
  (a b c d e f g h : UInt32)
def R8.list (s : R8) : List UInt32 := [s.a, s.b, s.c, s.d, s.e, s.f, s.g, s.h]
def rndX (s : R8) (k w : UInt32) : UInt32 := s.h + (rotr s.e 6 ^^^ rotr s.e 11 ^^^ rotr s.e 25) + (s.e &&& s.f ^^^ ~~~s.e &&& s.g) + k + w
def rndY (s : R8) : UInt32 := (rotr s.a 2 ^^^ rotr s.a 13 ^^^ rotr s.a 22) + (s.a &&& s.b ^^^ s.a &&& s.c ^^^ s.b &&& s.c)
def rnd (s : R8) (k w : UInt32) : R8 := ⟨rndX s k w + rndY s, s.a, s.b, s.c, s.d + rndX s k w, s.e, s.f, s.g⟩
def kK : List UInt32 := [
  0x428a2f98, 0x71374491, 0xb5c0fbcf, 0xe9b5dba5, 0x3956c25b, 0x59f111f1, 0x923f82a4, 0xab1c5ed5,
  0xd807aa98, 0x12835b01, 0x243185be, 0x550c7dc3, 0x72be5d74, 0x80deb1fe, 0x9bdc06a7, 0xc19bf174,
  0xe49b69c1, 0xefbe4786, 0x0fc19dc6, 0x240ca1cc, 0x2de92c6f, 0x4a7484aa, 0x5cb0a9dc, 0x76f988da,
  0x983e5152, 0xa831c66d, 0xb00327c8, 0xbf597fc7, 0xc6e00bf3, 0xd5a79147, 0x06ca6351, 0x14292967,
  0x27b70a85, 0x2e1b2138, 0x4d2c6dfc, 0x53380d13, 0x650a7354, 0x766a0abb, 0x81c2c92e, 0x92722c85,
  0xa2bfe8a1, 0xa81a664b, 0xc24b8b70, 0xc76c51a3, 0xd192e819, 0xd6990624, 0xf40e3585, 0x106aa070,
  0x19a4c116, 0x1e376c08, 0x2748774c, 0x34b0bcb5, 0x391c0cb3, 0x4ed8aa4a, 0x5b9cca4f, 0x682e6ff3,
  0x748f82ee, 0x78a5636f, 0x84c87814, 0x8cc70208, 0x90befffa, 0xa4506ceb, 0xbef9a3f7, 0xc67178f2]
def rounds (h : R8) (ws : List UInt32) : Nat → R8
  | 0 => h
  | t + 1 => rnd (rounds h ws t) (kK.getD t 0) (ws.getD t 0)
def addR (s t : R8) : R8 := ⟨s.a + t.a, s.b + t.b, s.c + t.c, s.d + t.d, s.e + t.e, s.f + t.f, s.g + t.g, s.h + t.h⟩
def blockF (h : R8) (l : List UInt8) : R8 := addR h (rounds h (sched l 48) 64)
def r8i : R8 := ⟨0x6a09e667, 0xbb67ae85, 0x3c6ef372, 0xa54ff53a, 0x510e527f, 0x9b05688c, 0x1f83d9ab, 0x5be0cd19⟩
/-- Block by block. -/
def blocks (h : R8) (l : List UInt8) : Nat → R8
  | 0 => h
  | k + 1 => blockF (blocks h l k) ((l.drop (64 * k)).take 64)
/-- What stands behind n bytes: 128, zeros, the number of bits. -/
def zerosF (n : Nat) : Nat := (55 + 64 - n % 64) % 64
def eightF (n : Nat) : List UInt8 := (List.range 8).map fun i => UInt8.ofNat (n / 2 ^ (56 - 8 * i))
def padF (l : List UInt8) : List UInt8 := l ++ 128 :: (List.replicate (zerosF l.length) 0 ++ eightF (8 * l.length))
def bytesF (s : R8) : List UInt8 := (List.range 32).map fun i => (s.list.getD (i / 4) 0 >>> UInt32.ofNat (24 - 8 * (i % 4))).toUInt8
def shaF (l : List UInt8) : List UInt8 := bytesF (blocks r8i (padF l) ((padF l).length / 64))

def abcD : List UInt8 := [0xba, 0x78, 0x16, 0xbf, 0x8f, 0x01, 0xcf, 0xea, 0x41, 0x41, 0x40, 0xde, 0x5d, 0xae, 0x22, 0x23, 0xb0, 0x03, 0x61, 0xa3, 0x96, 0x17, 0x7a, 0x9c, 0xb4, 0x10, 0xff, 0x61, 0xf2, 0x00, 0x15, 0xad]
set_option maxRecDepth 1000000 in
theorem shaF_abc : shaF [97, 98, 99] = abcD := by decide +kernel
theorem shaF_length (l : List UInt8) : (shaF l).length = 32 := by simp [shaF, bytesF]
end Go.Proofs.YtkehcpjianadjaaDoor
