/- SHA-256 as mathematics, over natural numbers. -/
import Derived.Test.YtnhlhoijajhcjaaDoorBase
set_option linter.unusedVariables false
set_option linter.unusedSimpArgs false
set_option linter.unnecessarySimpa false
namespace Go.Proofs.YtnhlhoijajhcjaaDoor
open Go.RowKit

namespace Sha
def K : List Nat := [
  0x428a2f98, 0x71374491, 0xb5c0fbcf, 0xe9b5dba5, 0x3956c25b, 0x59f111f1, 0x923f82a4, 0xab1c5ed5,
  0xd807aa98, 0x12835b01, 0x243185be, 0x550c7dc3, 0x72be5d74, 0x80deb1fe, 0x9bdc06a7, 0xc19bf174,
  0xe49b69c1, 0xefbe4786, 0x0fc19dc6, 0x240ca1cc, 0x2de92c6f, 0x4a7484aa, 0x5cb0a9dc, 0x76f988da,
  0x983e5152, 0xa831c66d, 0xb00327c8, 0xbf597fc7, 0xc6e00bf3, 0xd5a79147, 0x06ca6351, 0x14292967,
  0x27b70a85, 0x2e1b2138, 0x4d2c6dfc, 0x53380d13, 0x650a7354, 0x766a0abb, 0x81c2c92e, 0x92722c85,
  0xa2bfe8a1, 0xa81a664b, 0xc24b8b70, 0xc76c51a3, 0xd192e819, 0xd6990624, 0xf40e3585, 0x106aa070,
  0x19a4c116, 0x1e376c08, 0x2748774c, 0x34b0bcb5, 0x391c0cb3, 0x4ed8aa4a, 0x5b9cca4f, 0x682e6ff3,
  0x748f82ee, 0x78a5636f, 0x84c87814, 0x8cc70208, 0x90befffa, 0xa4506ceb, 0xbef9a3f7, 0xc67178f2]

/-- x rotated right by n -/
def rot (x n : Nat) : Nat := (x <<< (32 - n)) % 4294967296 ||| x >>> n
/-- the words of the rounds, one behind the other: from those that are there -/
def sig0 (x : Nat) : Nat := rot x 7 ^^^ rot x 18 ^^^ x >>> 3
def sig1 (x : Nat) : Nat := rot x 17 ^^^ rot x 19 ^^^ x >>> 10
def word4 (a b c d : Nat) : Nat := a <<< 24 ||| b <<< 16 ||| c <<< 8 ||| d
def word (b : List Nat) (i : Nat) : Nat := word4 (b.getD (4 * i) 0) (b.getD (4 * i + 1) 0) (b.getD (4 * i + 2) 0) (b.getD (4 * i + 3) 0)
def next (w : List Nat) : Nat :=
  let n := w.length
  (w.getD (n - 16) 0 + sig0 (w.getD (n - 15) 0) + w.getD (n - 7) 0 + sig1 (w.getD (n - 2) 0)) % 4294967296
def spread (w : List Nat) : Nat → List Nat
  | 0 => w
  | k + 1 => spread (w ++ [next w]) k
def schedule (b : List Nat) : List Nat := spread ((List.range 16).map (word b)) 48

structure St where
  (a b c d e f g h : Nat)
def St.list (s : St) : List Nat := [s.a, s.b, s.c, s.d, s.e, s.f, s.g, s.h]
def big1 (e : Nat) : Nat := rot e 6 ^^^ rot e 11 ^^^ rot e 25
def big0 (a : Nat) : Nat := rot a 2 ^^^ rot a 13 ^^^ rot a 22
def ch (e f g : Nat) : Nat := (e &&& f) ^^^ ((4294967295 - e) &&& g)
def maj (a b c : Nat) : Nat := (a &&& b) ^^^ (a &&& c) ^^^ (b &&& c)
def t1 (s : St) (k w : Nat) : Nat := (s.h + big1 s.e + ch s.e s.f s.g + k + w) % 4294967296
def t2 (s : St) : Nat := (big0 s.a + maj s.a s.b s.c) % 4294967296
def round (s : St) (k w : Nat) : St :=
  ⟨(t1 s k w + t2 s) % 4294967296, s.a, s.b, s.c, (s.d + t1 s k w) % 4294967296, s.e, s.f, s.g⟩
def rounds (s : St) : List (Nat × Nat) → St
  | [] => s
  | (k, w) :: r => rounds (round s k w) r
def plus (s t : St) : St := ⟨(s.a + t.a) % 4294967296, (s.b + t.b) % 4294967296, (s.c + t.c) % 4294967296, (s.d + t.d) % 4294967296, (s.e + t.e) % 4294967296, (s.f + t.f) % 4294967296, (s.g + t.g) % 4294967296, (s.h + t.h) % 4294967296⟩
def mix (s : St) (w : List Nat) : St := plus s (rounds s (K.zip w))
def start : St := ⟨0x6a09e667, 0xbb67ae85, 0x3c6ef372, 0xa54ff53a, 0x510e527f, 0x9b05688c, 0x1f83d9ab, 0x5be0cd19⟩
def octet (w : Nat) : List Nat := [w / 16777216 % 256, w / 65536 % 256, w / 256 % 256, w % 256]
def octets (ws : List Nat) : List Nat := (ws.map octet).flatten

/-- the blocks of a string, from what is left of it; 'total' bytes in all -/
def last (rest : List Nat) (total : Nat) : List (List Nat) :=
  let len := octets [total * 8 / 4294967296 % 4294967296, total * 8 % 4294967296]
  if rest.length < 56 then [rest ++ 128 :: List.replicate (55 - rest.length) 0 ++ len]
  else [rest ++ 128 :: List.replicate (63 - rest.length) 0, List.replicate 56 0 ++ len]
def blocksFrom (fuel : Nat) (rest : List Nat) (total : Nat) : List (List Nat) :=
  match fuel with
  | 0 => last rest total
  | f + 1 => if rest.length < 64 then last rest total else rest.take 64 :: blocksFrom f (rest.drop 64) total
def blocks (l : List Nat) : List (List Nat) := blocksFrom (l.length / 64) l l.length
def over (s : St) (bs : List (List Nat)) : St := bs.foldl (fun s b => mix s (schedule b)) s
def sum (l : List Nat) : List Nat := octets (over start (blocks l)).list
end Sha

def natBytes (s : ByteArray) : List Nat := s.data.toList.map (·.toNat)
/-- SHA-256 -/
def sumS (s : ByteArray) : ByteArray := ⟨((Sha.sum (natBytes s)).map UInt8.ofNat).toArray⟩

theorem sumS_size (s : ByteArray) : (sumS s).size = 32 := by
  show (((Sha.sum (natBytes s)).map UInt8.ofNat).toArray).size = 32
  simp [Sha.sum, Sha.octets, Sha.octet, Sha.St.list]
end Go.Proofs.YtnhlhoijajhcjaaDoor
