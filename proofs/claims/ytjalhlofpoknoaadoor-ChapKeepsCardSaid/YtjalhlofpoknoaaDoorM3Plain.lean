/- MD5, by plain functions on numbers and bytes; what it gives of nothing and of abc. No program stands in it. -/
import Derived.Laws.FloatArith
import Derived.KernelRfl
import Derived.Laws.Bits64
import Derived.Laws.BitsAllLaws
import Derived.Laws.BitsLemmas
namespace Go.Proofs.YtjalhlofpoknoaaDoor.S3
namespace Md

/-- Not, of 32 bits. -/
def nt (x : Nat) : Nat := 4294967295 - x
def ad (x y : Nat) : Nat := (x + y) % 4294967296
theorem ad_lt (x y : Nat) : ad x y < 4294967296 := Nat.mod_lt _ (by omega)

def F (i b c d : Nat) : Nat :=
  if i < 16 then (b &&& c) ||| (nt b &&& d)
  else if i < 32 then (d &&& b) ||| (nt d &&& c)
  else if i < 48 then (b ^^^ c) ^^^ d
  else c ^^^ (b ||| nt d)
def K (i : Nat) : Nat :=
  if i < 16 then i else if i < 32 then (5 * i + 1) % 16 else if i < 48 then (3 * i + 5) % 16 else 7 * i % 16
theorem K_lt (i : Nat) (_h : i < 64) : K i < 16 := by
  unfold K
  repeat (first | omega | split)

def S : List Nat := [3614090360, 3905402710, 606105819, 3250441966, 4118548399, 1200080426, 2821735955, 4249261313,
  1770035416, 2336552879, 4294925233, 2304563134, 1804603682, 4254626195, 2792965006, 1236535329,
  4129170786, 3225465664, 643717713, 3921069994, 3593408605, 38016083, 3634488961, 3889429448,
  568446438, 3275163606, 4107603335, 1163531501, 2850285829, 4243563512, 1735328473, 2368359562,
  4294588738, 2272392833, 1839030562, 4259657740, 2763975236, 1272893353, 4139469664, 3200236656,
  681279174, 3936430074, 3572445317, 76029189, 3654602809, 3873151461, 530742520, 3299628645,
  4096336452, 1126891415, 2878612391, 4237533241, 1700485571, 2399980690, 4293915773, 2240044497,
  1873313359, 4264355552, 2734768916, 1309151649, 4149444226, 3174756917, 718787259, 3951481745]
def T : List Nat := [7, 12, 17, 22, 5, 9, 14, 20, 4, 11, 16, 23, 6, 10, 15, 21]
def sn (i : Nat) : Nat := S.getD i 0
def tn (i : Nat) : Nat := T.getD (4 * (i / 16) + i % 4) 0

/-- A word, turned. -/
def rot (x n : Nat) : Nat := x * 2 ^ n % 4294967296 + x / 2 ^ (32 - n)

structure St where
  a : Nat
  b : Nat
  c : Nat
  d : Nat
def St.fine (s : St) : Prop := s.a < 4294967296 ∧ s.b < 4294967296 ∧ s.c < 4294967296 ∧ s.d < 4294967296
def St.get (s : St) (i : Nat) : Nat := if i = 0 then s.a else if i = 1 then s.b else if i = 2 then s.c else s.d
def step (x : List Nat) (i : Nat) (s : St) : St :=
  ⟨s.d, ad s.b (rot (ad (ad (ad s.a (F i s.b s.c s.d)) (x.getD (K i) 0)) (sn i)) (tn i)), s.b, s.c⟩
def steps (x : List Nat) : Nat → St → St
  | 0, s => s
  | n + 1, s => step x n (steps x n s)
def pass (s : St) (x : List Nat) : St :=
  let t := steps x 64 s
  ⟨ad s.a t.a, ad s.b t.b, ad s.c t.c, ad s.d t.d⟩

/-- The number of bytes, the lowest first. -/
def val : List UInt8 → Nat
  | [] => 0
  | x :: l => x.toNat + 256 * val l
def words (b : List UInt8) : List Nat := (List.range 16).map fun k => val ((b.drop (4 * k)).take 4)
def runs (t : List UInt8) : Nat → St → St
  | 0, s => s
  | k + 1, s => pass (runs t k s) (words ((t.drop (64 * k)).take 64))
def dg (n i : Nat) : UInt8 := (n / 256 ^ i).toUInt8
def le8 (n : Nat) : List UInt8 := (List.range 8).map (dg n)
def pad (n : Nat) : Nat := (119 - n % 64) % 64
def ending (n : Nat) : List UInt8 := [128] ++ List.replicate (pad n) 0 ++ le8 (n * 8)
def text (b : List UInt8) : List UInt8 := b ++ ending b.length
def init : St := ⟨1732584193, 4023233417, 2562383102, 271733878⟩
def digest (s : St) : List UInt8 := (List.range 16).map fun i => dg (s.get (i / 4)) (i % 4)
def sum (b : List UInt8) : List UInt8 := digest (runs (text b) ((text b).length / 64) init)

set_option maxRecDepth 100000 in
theorem sum_nil : sum [] = [0xd4, 0x1d, 0x8c, 0xd9, 0x8f, 0x00, 0xb2, 0x04, 0xe9, 0x80, 0x09, 0x98, 0xec, 0xf8, 0x42, 0x7e] := by kernel_rfl
set_option maxRecDepth 100000 in
theorem sum_abc : sum [97, 98, 99] = [0x90, 0x01, 0x50, 0x98, 0x3c, 0xd2, 0x4f, 0xb0, 0xd6, 0x96, 0x3f, 0x7d, 0x28, 0xe1, 0x7f, 0x72] := by kernel_rfl
end Md
end Go.Proofs.YtjalhlofpoknoaaDoor.S3
