package md5

import (
	"bytes"
	std "crypto/md5"
	"encoding/binary"
	"encoding/hex"
	"math"
	"math/big"
	"slices"
	"strings"
	"testing"
)

// edges are the chapter's lengths: those at which the text's ending needs a block more, and those of whole blocks.
var edges = []int{55, 56, 57, 63, 64, 65, 119, 120, 128}

// someBytes are unlike in each block, so that blocks that change places, or are taken twice, are seen.
func someBytes(n int) []byte {
	b := make([]byte, n)
	for i := range b {
		b[i] = byte(i*7 + i/256)
	}
	return b
}

func told(d [16]byte) string { return hex.EncodeToString(d[:]) }

func TestExamples(t *testing.T) { // P3.1
	for _, x := range []struct{ text, want string }{
		{"", "d41d8cd98f00b204e9800998ecf8427e"},
		{"abc", "900150983cd24fb0d6963f7d28e17f72"},
		{"a", "0cc175b9c0f1b6a831c399e269772661"},
		{"message digest", "f96b697d7cb7938d525a2f31aaf161d0"},
		{"abcdefghijklmnopqrstuvwxyz", "c3fcd3d76192e4007dfb496cca67e13b"},
		{"ABCDEFGHIJKLMNOPQRSTUVWXYZabcdefghijklmnopqrstuvwxyz0123456789", "d174ab98d277d9f5a5611c2c9f419d9f"},
		{strings.Repeat("1234567890", 8), "57edf4a22be3c955ac49da2e2107b67a"},
		{strings.Repeat("a", 1_000_000), "7707d6ae4e027c70eea2a935c2296f21"},
	} {
		if got := told(Sum([]byte(x.text))); got != x.want {
			t.Errorf("of %d bytes: %s", len(x.text), got)
		}
	}
}

func TestEdges(t *testing.T) { // P3.1
	for _, x := range []struct {
		n    int
		want string
	}{
		{1, "93b885adfe0da089cdf634904fd59f71"},
		{55, "8d24280288a696559fd8d5aa1b6d8c6e"},
		{56, "ef2c72b7254c92459e498eddd4ace573"},
		{57, "5e319059f1ba9373988437b589fb9f21"},
		{63, "c4c8c6d513f4e1604eb18508a1769364"},
		{64, "a2fcb39a253b9b785b1f97518fa37683"},
		{65, "e49fe82d0bb12967a196c85de313e446"},
		{119, "1640deea49ebb258ec6ede18d4b2d2d7"},
		{120, "05f879f7b542a7ebf0605adff67d4423"},
		{128, "fe942895e9aae953f3e246e5fd00739d"},
		{200, "d96c89b9da43f6903ceaa14a7166a22e"},
		{1000, "bd8c10439abeb42fb5c19745991e360e"},
	} {
		if got := told(Sum(someBytes(x.n))); got != x.want {
			t.Errorf("of %d bytes: %s", x.n, got)
		}
	}
}

func TestEveryLength(t *testing.T) { // P3.1
	fills := []func(n int) []byte{
		someBytes,
		func(n int) []byte { return make([]byte, n) },
		func(n int) []byte { return bytes.Repeat([]byte{0xff}, n) },
		func(n int) []byte { return bytes.Repeat([]byte{0x80}, n) },
	}
	for i, fill := range fills {
		for n := range 600 {
			if b := fill(n); Sum(b) != std.Sum(b) {
				t.Errorf("of %d bytes, filled by way %d: %s", n, i, told(Sum(b)))
			}
		}
	}
}

func TestNoBytes(t *testing.T) { // P3.1: nil and empty are one, and so are none, one and many of them
	want := std.Sum(nil)
	for _, parts := range [][][]byte{nil, {}, {nil}, {{}}, {nil, nil}, {{}, nil, {}}, make([][]byte, 1000)} {
		if got := Sum(parts...); got != want {
			t.Errorf("of %d empty parts: %s", len(parts), told(got))
		}
	}
	if got := Sum(); got != want {
		t.Errorf("of no parts: %s", told(got))
	}
}

func TestTwoAndThreeParts(t *testing.T) { // P3.1: cut within a block, at its end, and at both ends of the whole
	for _, n := range append([]int{1, 2, 3, 192, 200}, edges...) {
		b := someBytes(n)
		want := std.Sum(b)
		for i := range n + 1 {
			if got := Sum(b[:i], b[i:]); got != want {
				t.Errorf("%d bytes, cut at %d: %s", n, i, told(got))
			}
			if got := Sum(nil, b[:i], []byte{}, b[i:], nil); got != want {
				t.Errorf("%d bytes, cut at %d, with empty parts: %s", n, i, told(got))
			}
			for j := i; j <= n; j++ {
				if got := Sum(b[:i], b[i:j], b[j:]); got != want {
					t.Errorf("%d bytes, cut at %d and %d: %s", n, i, j, told(got))
				}
			}
		}
	}
}

func TestManyParts(t *testing.T) { // P3.1
	for _, n := range append([]int{0, 1, 500, 1000}, edges...) {
		b := someBytes(n)
		want := std.Sum(b)
		for size := 1; size <= 130; size++ {
			if got := Sum(slices.Collect(slices.Chunk(b, size))...); got != want {
				t.Errorf("%d bytes, in parts of %d: %s", n, size, told(got))
			}
		}
	}
}

func TestPartsInTheirOrder(t *testing.T) { // P3.1
	b, c := []byte("name"), []byte("secret")
	if got, want := Sum(b, c), std.Sum([]byte("namesecret")); got != want {
		t.Errorf("name, secret: %s", told(got))
	}
	if got, want := Sum(c, b), std.Sum([]byte("secretname")); got != want {
		t.Errorf("secret, name: %s", told(got))
	}
}

func TestPartsThatShare(t *testing.T) { // P3.1: parts may be one list, or lie one upon the other
	b := someBytes(100)
	if got, want := Sum(b, b, b), std.Sum(bytes.Repeat(b, 3)); got != want {
		t.Errorf("three times the same: %s", told(got))
	}
	if got, want := Sum(b[:60], b[40:]), std.Sum(slices.Concat(b[:60], b[40:])); got != want {
		t.Errorf("one upon the other: %s", told(got))
	}
}

func TestEachBitCounts(t *testing.T) { // P3.1
	b := someBytes(130)
	whole := Sum(b)
	for i := range b {
		for bit := range 8 {
			c := bytes.Clone(b)
			c[i] ^= 1 << bit
			if got := Sum(c); got == whole || got != std.Sum(c) {
				t.Errorf("bit %d of byte %d: %s", bit, i, told(got))
			}
		}
	}
}

// sineOf sums the series x - x^3/3! + x^5/5! - .. of x, far enough for 64, without rounding.
func sineOf(x int64) *big.Rat {
	sum, term := new(big.Rat), big.NewRat(x, 1)
	for n := int64(1); n < 320; n += 2 {
		sum.Add(sum, term)
		term.Mul(term, big.NewRat(-x*x, (n+1)*(n+2)))
	}
	return sum
}

func TestSines(t *testing.T) { // P3.1: the chapter's own rule, once by floats and once by fractions
	for i, got := range sines {
		if want := uint32(math.Floor(math.Abs(math.Sin(float64(i+1))) * (1 << 32))); got != want {
			t.Errorf("step %d: %08x, and by floats %08x", i, got, want)
		}
		s := sineOf(int64(i + 1))
		s.Mul(s.Abs(s), big.NewRat(1<<32, 1))
		if want := new(big.Int).Div(s.Num(), s.Denom()); want.Cmp(big.NewInt(int64(got))) != 0 {
			t.Errorf("step %d: %08x, and by fractions %08x", i, got, want)
		}
	}
}

func TestEnding(t *testing.T) { // P3.1: of lengths too that no list in a test has
	for _, n := range []uint64{0, 1, 54, 55, 56, 57, 63, 64, 65, 119, 120, 128, 1<<29 - 1, 1 << 29, 1<<29 + 56, 1<<31 - 1, 1 << 32, 1<<61 - 1, 1 << 61, 1<<61 + 57, math.MaxUint64} {
		e := ending(n)
		zeros := len(e) - 9
		if zeros < 0 || zeros > 63 || (n+1+uint64(zeros))%64 != 56 {
			t.Errorf("%d: an ending of %d bytes", n, len(e))
			continue
		}
		if e[0] != 0x80 || !bytes.Equal(e[1:1+zeros], make([]byte, zeros)) {
			t.Errorf("%d: %x", n, e)
		}
		if bits := binary.LittleEndian.Uint64(e[1+zeros:]); bits != n*8 {
			t.Errorf("%d: %d bits", n, bits)
		}
	}
}

// withRoom lays a part into a list that goes on behind it, and answers both.
func withRoom(part []byte) (whole, piece []byte) {
	whole = slices.Concat([]byte{1, 2, 3}, part, bytes.Repeat([]byte{0xa5}, 200))
	return whole, whole[3 : 3+len(part)]
}

func TestHandedInStays(t *testing.T) { // P3.2
	for _, n := range append([]int{0, 1, 10, 200}, edges...) {
		first, a := withRoom(someBytes(n))
		second, b := withRoom(someBytes(n + 1))
		wasFirst, wasSecond := bytes.Clone(first), bytes.Clone(second)
		Sum(a)
		Sum(a, b)
		Sum(b, nil, a)
		if !bytes.Equal(first, wasFirst) || !bytes.Equal(second, wasSecond) {
			t.Errorf("%d bytes: what was handed in has changed", n)
		}
	}
}

func TestListOfPartsStays(t *testing.T) { // P3.2: the list of parts has room behind its length too
	all := [][]byte{[]byte("a"), nil, []byte("bc"), []byte("behind"), []byte("far behind")}
	was := slices.Clone(all)
	for n := range len(all) + 1 {
		if got, want := Sum(all[:n]...), std.Sum(bytes.Join(was[:n], nil)); got != want {
			t.Errorf("%d parts: %s", n, told(got))
		}
		for i := range all {
			if (all[i] == nil) != (was[i] == nil) || len(all[i]) != len(was[i]) || len(all[i]) > 0 && &all[i][0] != &was[i][0] {
				t.Errorf("%d parts: part %d is another now", n, i)
			}
		}
	}
}

func TestNothingIsKept(t *testing.T) { // P3.2, and rule 8: calls between, and bytes that change behind a call, don't matter
	b := []byte("abc")
	first := Sum(b)
	copy(b, "xyz")
	if told(first) != "900150983cd24fb0d6963f7d28e17f72" {
		t.Errorf("the answer has changed: %s", told(first))
	}
	other := Sum(b)
	if other != std.Sum([]byte("xyz")) {
		t.Errorf("of the list's new bytes: %s", told(other))
	}
	for range 3 {
		if Sum([]byte("abc")) != first || Sum(b) != other {
			t.Error("another answer the next time")
		}
	}
}

func FuzzSum(f *testing.F) { // P1, P3.1, P3.2
	f.Add([]byte{}, 0, 0)
	f.Add([]byte("abc"), 1, 2)
	for _, n := range edges {
		f.Add(someBytes(n), n/2, 64)
	}
	f.Fuzz(func(t *testing.T, b []byte, i, j int) {
		whole, piece := withRoom(b)
		was := bytes.Clone(whole)
		i = min(max(i, 0), len(piece))
		j = min(max(j, i), len(piece))
		want := std.Sum(b)
		if got := Sum(piece); got != want {
			t.Errorf("%x: %s", b, told(got))
		}
		if got := Sum(piece[:i], piece[i:j], nil, piece[j:]); got != want {
			t.Errorf("%x, cut at %d and %d: %s", b, i, j, told(got))
		}
		if !bytes.Equal(whole, was) {
			t.Errorf("%x has changed", b)
		}
	})
}
