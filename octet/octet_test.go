package octet

import (
	"bytes"
	"encoding/binary"
	"math"
	"math/big"
	"slices"
	"testing"
)

var bothOrders = []bool{true, false}

// wrongSizes are of no number: those just beyond both ends, and those at which a shift or a product would wrap round.
var wrongSizes = []int{0, -1, -2, -7, -8, -9, -64, math.MinInt, math.MinInt + 1, 9, 10, 16, 64, 255, 256, 257, 1 << 32, 1<<61 + 1, 1 << 62, math.MaxInt - 1, math.MaxInt}

// someNumbers holds the edges: each power of two, with its neighbours, and numbers whose bytes are all unlike.
func someNumbers() []uint64 {
	l := []uint64{0, 258, 0x0100, 0x0001_0000_0001, 0x1234, 0xdeadbeef, 0x0102030405060708, 0x8070605040302010, 0xff00ff00ff00ff00, math.MaxUint64}
	for i := range 64 {
		p := uint64(1) << i
		l = append(l, p-1, p, p+1)
	}
	slices.Sort(l)
	return slices.Compact(l)
}

// fitsByPowers is what the chapter's words say, worked out with numbers that have no end.
func fitsByPowers(n uint64, size int) bool {
	if size < 1 || size > 8 {
		return false
	}
	power := new(big.Int).Exp(big.NewInt(256), big.NewInt(int64(size)), nil)
	return new(big.Int).SetUint64(n).Cmp(power) < 0
}

// bytesOf is the last size bytes of eight, turned if they are to be little.
func bytesOf(n uint64, size int, big bool) []byte {
	b := binary.BigEndian.AppendUint64(nil, n)[8-size:]
	if !big {
		slices.Reverse(b)
	}
	return b
}

func TestFits(t *testing.T) { // P2.1
	for _, x := range []struct {
		n    uint64
		size int
		want bool
	}{
		{0, 1, true}, {255, 1, true}, {256, 1, false}, {math.MaxUint64, 1, false},
		{0, 2, true}, {256, 2, true}, {65535, 2, true}, {65536, 2, false},
		{1<<24 - 1, 3, true}, {1 << 24, 3, false},
		{1<<32 - 1, 4, true}, {1 << 32, 4, false},
		{1<<40 - 1, 5, true}, {1 << 40, 5, false},
		{1<<48 - 1, 6, true}, {1 << 48, 6, false},
		{1<<56 - 1, 7, true}, {1 << 56, 7, false}, {math.MaxUint64, 7, false},
		{0, 8, true}, {1 << 56, 8, true}, {1 << 63, 8, true}, {math.MaxUint64, 8, true},
	} {
		if Fits(x.n, x.size) != x.want {
			t.Errorf("Fits(%d, %d): %v", x.n, x.size, !x.want)
		}
	}
	for _, n := range someNumbers() {
		for size := -20; size <= 20; size++ {
			if want := fitsByPowers(n, size); Fits(n, size) != want {
				t.Errorf("Fits(%d, %d): %v", n, size, !want)
			}
		}
	}
}

func TestWrongSizes(t *testing.T) { // P2.1
	for _, size := range wrongSizes {
		for _, n := range []uint64{0, 1, 255, 256, math.MaxUint64} {
			if Fits(n, size) {
				t.Errorf("%d fits into %d bytes", n, size)
			}
			for _, big := range bothOrders {
				if b, ok := Put(n, size, big); len(b) != 0 || ok {
					t.Errorf("Put(%d, %d, %v): %v, %v", n, size, big, b, ok)
				}
			}
		}
	}
}

func TestPut(t *testing.T) { // P2.1
	for _, x := range []struct {
		n    uint64
		size int
		big  bool
		want []byte
	}{
		{258, 2, true, []byte{1, 2}},
		{258, 2, false, []byte{2, 1}},
		{0, 1, true, []byte{0}},
		{0, 1, false, []byte{0}},
		{255, 1, true, []byte{255}},
		{255, 1, false, []byte{255}},
		{5, 4, true, []byte{0, 0, 0, 5}},
		{5, 4, false, []byte{5, 0, 0, 0}},
		{0x010203, 3, true, []byte{1, 2, 3}},
		{0x010203, 3, false, []byte{3, 2, 1}},
		{0, 8, true, make([]byte, 8)},
		{0x0102030405060708, 8, true, []byte{1, 2, 3, 4, 5, 6, 7, 8}},
		{0x0102030405060708, 8, false, []byte{8, 7, 6, 5, 4, 3, 2, 1}},
		{math.MaxUint64, 8, true, bytes.Repeat([]byte{255}, 8)},
		{math.MaxUint64, 8, false, bytes.Repeat([]byte{255}, 8)},
	} {
		if b, ok := Put(x.n, x.size, x.big); !bytes.Equal(b, x.want) || !ok {
			t.Errorf("Put(%d, %d, %v): %v, %v", x.n, x.size, x.big, b, ok)
		}
	}
	for _, n := range someNumbers() {
		for size := 1; size <= 8; size++ {
			for _, big := range bothOrders {
				b, ok := Put(n, size, big)
				if !fitsByPowers(n, size) {
					if len(b) != 0 || ok {
						t.Errorf("Put(%d, %d, %v): %v, %v", n, size, big, b, ok)
					}
				} else if !bytes.Equal(b, bytesOf(n, size, big)) || !ok {
					t.Errorf("Put(%d, %d, %v): %v, %v", n, size, big, b, ok)
				}
			}
		}
	}
}

func TestGet(t *testing.T) { // P2.1
	for _, x := range []struct {
		b   []byte
		big bool
		n   uint64
	}{
		{[]byte{0}, true, 0},
		{[]byte{255}, true, 255},
		{[]byte{255}, false, 255},
		{[]byte{1, 2}, true, 258},
		{[]byte{1, 2}, false, 513},
		{[]byte{0, 0, 7}, true, 7},
		{[]byte{0, 0, 7}, false, 7 << 16},
		{[]byte{128, 0, 0, 0}, true, 1 << 31},
		{[]byte{0, 0, 0, 128}, false, 1 << 31},
		{[]byte{1, 2, 3, 4, 5, 6, 7, 8}, true, 0x0102030405060708},
		{[]byte{1, 2, 3, 4, 5, 6, 7, 8}, false, 0x0807060504030201},
		{make([]byte, 8), true, 0},
		{bytes.Repeat([]byte{255}, 8), true, math.MaxUint64},
		{bytes.Repeat([]byte{255}, 8), false, math.MaxUint64},
	} {
		if n, ok := Get(x.b, x.big); n != x.n || !ok {
			t.Errorf("Get(%v, %v): %d, %v", x.b, x.big, n, ok)
		}
	}
	for size := 1; size <= 8; size++ {
		b := make([]byte, size)
		for i := range b {
			b[i] = byte(200 - 17*i)
		}
		if n, ok := Get(b, true); n != new(big.Int).SetBytes(b).Uint64() || !ok {
			t.Errorf("Get(%v, true): %d, %v", b, n, ok)
		}
	}
}

func TestGetOfWrongBytes(t *testing.T) { // P2.1
	for _, b := range [][]byte{nil, {}, make([]byte, 0, 8), make([]byte, 9), {1, 2, 3, 4, 5, 6, 7, 8, 9}, {0, 0, 0, 0, 0, 0, 0, 0, 1}, {1, 0, 0, 0, 0, 0, 0, 0, 0}, bytes.Repeat([]byte{255}, 10), make([]byte, 257), bytes.Repeat([]byte{7}, 70000)} {
		for _, big := range bothOrders {
			if n, ok := Get(b, big); n != 0 || ok {
				t.Errorf("Get of %d bytes: %d, %v", len(b), n, ok)
			}
		}
	}
}

func TestCut(t *testing.T) { // P2.2
	for _, x := range []struct {
		s     string
		at, n int
		want  string
		ok    bool
	}{
		{"abc", 1, 2, "bc", true}, {"abc", 0, 3, "abc", true}, {"abc", 0, 1, "a", true}, {"abc", 1, 1, "b", true}, {"abc", 2, 1, "c", true},
		{"abc", 0, 0, "", true}, {"abc", 2, 0, "", true}, {"abc", 3, 0, "", true}, {"", 0, 0, "", true},
		{"abc", 4, 0, "", false}, {"abc", 5, 0, "", false}, {"", 1, 0, "", false}, {"abc", math.MaxInt, 0, "", false},
		{"abc", 0, 4, "", false}, {"abc", 2, 2, "", false}, {"abc", 3, 1, "", false}, {"abc", 4, 1, "", false}, {"", 0, 1, "", false},
		{"abc", -1, 0, "", false}, {"abc", -1, 1, "", false}, {"abc", -1, 2, "", false}, {"abc", -3, 3, "", false}, {"", -1, 0, "", false}, {"", -1, 1, "", false},
		{"abc", 0, -1, "", false}, {"abc", 1, -1, "", false}, {"abc", 3, -1, "", false}, {"abc", 4, -1, "", false}, {"", 0, -1, "", false},
		{"abc", -1, -1, "", false}, {"abc", math.MinInt, math.MinInt, "", false}, {"abc", math.MinInt, math.MaxInt, "", false}, {"abc", math.MinInt, 0, "", false}, {"abc", 1, math.MinInt, "", false},
		{"abc", 0, math.MaxInt, "", false}, {"abc", 1, math.MaxInt, "", false}, {"abc", 3, math.MaxInt, "", false}, {"abc", math.MaxInt, 1, "", false}, {"abc", math.MaxInt, math.MaxInt, "", false}, {"abc", math.MaxInt, math.MinInt, "", false},
	} {
		if b, ok := Cut([]byte(x.s), x.at, x.n); string(b) != x.want || ok != x.ok {
			t.Errorf("Cut(%q, %d, %d): %q, %v", x.s, x.at, x.n, b, ok)
		}
	}
	if b, ok := Cut(nil, 0, 0); len(b) != 0 || !ok {
		t.Error("Cut of no list", b, ok)
	}
}

func TestCutStaysWithinLength(t *testing.T) { // P2.2
	room := []byte("abcdef")
	for _, x := range [][2]int{{0, 4}, {2, 2}, {3, 1}, {4, 0}, {4, 2}} {
		if b, ok := Cut(room[:3], x[0], x[1]); len(b) != 0 || ok {
			t.Errorf("Cut(%q, %d, %d): %q, %v", room[:3], x[0], x[1], b, ok)
		}
	}
	if b := Behind(room[:3], 1); string(b) != "bc" {
		t.Errorf("Behind: %q", b)
	}
	if b := Behind(room[:3], 4); len(b) != 0 {
		t.Errorf("Behind: %q", b)
	}
	if b := Join(room[:2], room[1:3]); string(b) != "abbc" {
		t.Errorf("Join: %q", b)
	}
}

func TestBehind(t *testing.T) { // P2.2
	for _, x := range []struct {
		s    string
		at   int
		want string
	}{
		{"abc", 0, "abc"}, {"abc", 1, "bc"}, {"abc", 2, "c"}, {"abc", 3, ""}, {"abc", 4, ""}, {"abc", 9, ""}, {"abc", math.MaxInt, ""},
		{"abc", -1, "abc"}, {"abc", -2, "abc"}, {"abc", -3, "abc"}, {"abc", -4, "abc"}, {"abc", math.MinInt, "abc"},
		{"", 0, ""}, {"", 1, ""}, {"", -1, ""}, {"", math.MaxInt, ""}, {"", math.MinInt, ""},
	} {
		if b := Behind([]byte(x.s), x.at); string(b) != x.want {
			t.Errorf("Behind(%q, %d): %q", x.s, x.at, b)
		}
	}
	if b := Behind(nil, 0); len(b) != 0 {
		t.Error("Behind of no list", b)
	}
}

func TestJoin(t *testing.T) { // P2.2
	for _, x := range []struct {
		parts [][]byte
		want  string
	}{
		{nil, ""},
		{[][]byte{}, ""},
		{[][]byte{nil}, ""},
		{[][]byte{{}}, ""},
		{[][]byte{nil, {}, nil}, ""},
		{[][]byte{[]byte("a")}, "a"},
		{[][]byte{[]byte("ab"), []byte("c")}, "abc"},
		{[][]byte{[]byte("c"), []byte("ab")}, "cab"},
		{[][]byte{nil, []byte("ab"), {}, []byte("c"), nil}, "abc"},
		{[][]byte{[]byte("a"), []byte("a"), []byte("a")}, "aaa"},
		{[][]byte{{0}, {0, 0}, {255}}, "\x00\x00\x00\xff"},
	} {
		if b := Join(x.parts...); string(b) != x.want {
			t.Errorf("Join(%q): %q", x.parts, b)
		}
	}
	var parts [][]byte
	var want []byte
	for i := range 300 {
		parts = append(parts, bytes.Repeat([]byte{byte(i)}, i))
		want = append(want, parts[i]...)
	}
	if !bytes.Equal(Join(parts...), want) {
		t.Error("many parts are not joined as they stand")
	}
}

func TestPiecesMakeTheWhole(t *testing.T) { // P2.2
	whole := []byte("abcdefgh")
	for at := range len(whole) + 1 {
		ahead, ok := Cut(whole, 0, at)
		if !ok || !bytes.Equal(Join(ahead, Behind(whole, at)), whole) {
			t.Errorf("cut at %d: %q, %v", at, ahead, ok)
		}
		for n := range len(whole) + 2 {
			b, ok := Cut(whole, at, n)
			if want := at+n <= len(whole); ok != want {
				t.Errorf("Cut(%q, %d, %d): %v", whole, at, n, ok)
			} else if ok && !bytes.Equal(b, whole[at:at+n]) {
				t.Errorf("Cut(%q, %d, %d): %q", whole, at, n, b)
			}
		}
	}
}

func TestPutIsGot(t *testing.T) { // P2.3
	for _, n := range someNumbers() {
		for size := 1; size <= 8; size++ {
			for _, big := range bothOrders {
				b, ok := Put(n, size, big)
				if !ok {
					continue
				}
				if m, is := Get(b, big); m != n || !is {
					t.Errorf("%d is put as %v and got as %d, %v", n, b, m, is)
				}
				turned, _ := Put(n, size, !big)
				slices.Reverse(turned)
				if !bytes.Equal(b, turned) {
					t.Errorf("%d: the other order is %v, turned", n, turned)
				}
				if m, is := Get(turned, big); m != n || !is {
					t.Errorf("%d is got as %d, %v from its other bytes, turned", n, m, is)
				}
			}
		}
	}
}

func TestGotIsPut(t *testing.T) { // P2.3
	for a := range 256 {
		for c := range 256 {
			b := []byte{byte(a), byte(c)}
			for _, big := range bothOrders {
				n, ok := Get(b, big)
				back, is := Put(n, 2, big)
				if !ok || !is || !bytes.Equal(back, b) {
					t.Errorf("%v is got as %d and put as %v", b, n, back)
				}
			}
		}
	}
}

func TestHandedInStays(t *testing.T) { // P2.4
	room := []byte{1, 2, 3, 4, 5, 6, 7, 8, 9, 10, 11, 12}
	part := room[2:6]
	other := room[4:8]
	parts := [][]byte{part, nil, other, part}
	Get(part, true)
	Get(part, false)
	Cut(part, 1, 2)
	Cut(part, 0, 4)
	Cut(part, 4, 0)
	Cut(part, 3, 9)
	Behind(part, 1)
	Behind(part, -1)
	Behind(part, 4)
	Join(part)
	Join(part, other)
	Join(part[:0], other)
	Join(parts...)
	if !bytes.Equal(room, []byte{1, 2, 3, 4, 5, 6, 7, 8, 9, 10, 11, 12}) {
		t.Error("written into what was handed in:", room)
	}
	if len(parts) != 4 || &parts[0][0] != &part[0] || parts[1] != nil || &parts[2][0] != &other[0] || &parts[3][0] != &part[0] {
		t.Error("the parts' list was changed:", parts)
	}
	for _, p := range parts {
		if len(p) != 4 && p != nil {
			t.Error("a part's length was changed:", p)
		}
	}
}

// overwrite fills a list and the room behind its length.
func overwrite(b []byte) {
	b = b[:cap(b)]
	for i := range b {
		b[i] = 99
	}
}

func TestAnswersAreNew(t *testing.T) { // P2.4
	fresh := func() []byte { return append(make([]byte, 0, 64), "abcdef"...) }
	for name, call := range map[string]func(b []byte) []byte{
		"Cut of the middle": func(b []byte) []byte { c, _ := Cut(b, 1, 3); return c },
		"Cut of all":        func(b []byte) []byte { c, _ := Cut(b, 0, 6); return c },
		"Cut of nothing":    func(b []byte) []byte { c, _ := Cut(b, 2, 0); return c },
		"Cut at the end":    func(b []byte) []byte { c, _ := Cut(b, 6, 0); return c },
		"Cut beyond":        func(b []byte) []byte { c, _ := Cut(b, 6, 1); return c },
		"Behind a place":    func(b []byte) []byte { return Behind(b, 2) },
		"Behind 0":          func(b []byte) []byte { return Behind(b, 0) },
		"Behind below 0":    func(b []byte) []byte { return Behind(b, -1) },
		"Behind the end":    func(b []byte) []byte { return Behind(b, 6) },
		"Join of one":       func(b []byte) []byte { return Join(b) },
		"Join of two":       func(b []byte) []byte { return Join(b, []byte("x")) },
		"Join with nothing": func(b []byte) []byte { return Join(nil, b, nil) },
		"Join of none":      func(b []byte) []byte { return Join(b[:0], b[6:]) },
		"Put":               func([]byte) []byte { c, _ := Put(258, 4, true); return c },
		"Put of one byte":   func([]byte) []byte { c, _ := Put(7, 1, false); return c },
	} {
		b := fresh()
		first, second := call(b), call(b)
		kept := bytes.Clone(first)
		overwrite(second)
		if !bytes.Equal(first, kept) {
			t.Error(name, "shares memory with another answer")
		}
		if !bytes.Equal(b, fresh()) || !bytes.Equal(b[:64], fresh()[:64]) {
			t.Error(name, "shares memory with what was handed in")
		}
		overwrite(b)
		if !bytes.Equal(first, kept) {
			t.Error(name, "hangs on what was handed in")
		}
	}
}

func TestSameAnswerTwice(t *testing.T) { // rule 8
	for _, room := range []int{0, 1, 50} {
		b := append(make([]byte, 0, 5+room), 1, 2, 3, 4, 5)
		n, nOk := Get(b, true)
		c, cOk := Cut(b, 1, 3)
		if n != 0x0102030405 || !nOk || !bytes.Equal(c, []byte{2, 3, 4}) || !cOk || !bytes.Equal(Behind(b, 3), []byte{4, 5}) || !bytes.Equal(Join(b, b[:1]), []byte{1, 2, 3, 4, 5, 1}) {
			t.Errorf("with %d bytes of room: %d, %v, %v, %v", room, n, nOk, c, cOk)
		}
	}
}

// FuzzOctets holds P1 and what the calls promise against whatever list, place and count.
func FuzzOctets(f *testing.F) {
	f.Add([]byte("abc"), 1, 2, true)
	f.Add([]byte{}, 0, 0, false)
	f.Add([]byte{1, 2, 3, 4, 5, 6, 7, 8}, -1, math.MaxInt, true)
	f.Add(make([]byte, 9), 9, math.MinInt, false)
	f.Fuzz(func(t *testing.T, b []byte, at, n int, big bool) {
		kept := bytes.Clone(b)
		number, ok := Get(b, big)
		if ok != (len(b) >= 1 && len(b) <= 8) || !ok && number != 0 {
			t.Errorf("Get(%v, %v): %d, %v", b, big, number, ok)
		}
		if back, is := Put(number, len(b), big); is != ok || !bytes.Equal(back, kept) && ok {
			t.Errorf("Put(%d, %d, %v): %v, %v", number, len(b), big, back, is)
		}
		if c, is := Put(number, n, big); is != Fits(number, n) || is && len(c) != n || !is && len(c) != 0 {
			t.Errorf("Put(%d, %d, %v): %v, %v", number, n, big, c, is)
		}
		there := at >= 0 && at <= len(b) && n >= 0 && n <= len(b)-at
		c, is := Cut(b, at, n)
		if is != there || is && !bytes.Equal(c, kept[at:at+n]) || !is && len(c) != 0 {
			t.Errorf("Cut(%v, %d, %d): %v, %v", b, at, n, c, is)
		}
		rest := Behind(b, at)
		if !bytes.HasSuffix(kept, rest) || len(rest) != len(b)-min(max(at, 0), len(b)) {
			t.Errorf("Behind(%v, %d): %v", b, at, rest)
		}
		if all := Join(b, nil, rest); !bytes.HasPrefix(all, kept) || !bytes.HasSuffix(all, rest) || len(all) != len(b)+len(rest) {
			t.Errorf("Join(%v, nil, %v): %v", b, rest, all)
		}
		if !bytes.Equal(b, kept) {
			t.Errorf("%v became %v", kept, b)
		}
	})
}
