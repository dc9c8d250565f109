package accm

import (
	"bytes"
	"encoding/binary"
	"math/rand"
	"slices"
	"testing"
)

const all = uint32(0xffffffff)

// someMaps holds the edges: no character, each alone, each missing, all of them, and maps by chance.
func someMaps() []uint32 {
	l := []uint32{0, all, 0xa0000, 0x80000001, 0x7ffffffe, 0x80000021, 0x01020304, 0x55555555, 0xaaaaaaaa, 0xff, 0xff00, 0xff0000, 0xff000000}
	for c := range 32 {
		l = append(l, 1<<c, all^1<<c, 1<<c-1)
	}
	r := rand.New(rand.NewSource(5))
	for range 200 {
		l = append(l, r.Uint32())
	}
	return l
}

// charactersByWords goes through a map's digits in base 2, the lowest first.
func charactersByWords(m uint32) []byte {
	var l []byte
	for c := byte(0); m > 0; c++ {
		if m%2 == 1 {
			l = append(l, c)
		}
		m /= 2
	}
	return l
}

func TestExamples(t *testing.T) { // P5.1
	if l := List(0xa0000); !bytes.Equal(l, []byte{17, 19}) {
		t.Errorf("List(a0000): %v", l)
	}
	if !Apart(0, 0x7d) {
		t.Error("Apart(0, 7d): false")
	}
}

func TestHas(t *testing.T) { // P5.1
	for _, x := range []struct {
		m    uint32
		c    byte
		want bool
	}{
		{1, 0, true}, {1, 1, false}, {1, 31, false}, {1, 32, false}, {1, 64, false}, {1, 128, false},
		{1 << 31, 31, true}, {1 << 31, 0, false}, {1 << 31, 30, false}, {1 << 31, 63, false}, {1 << 31, 255, false},
		{0xa0000, 16, false}, {0xa0000, 17, true}, {0xa0000, 18, false}, {0xa0000, 19, true}, {0xa0000, 20, false}, {0xa0000, 17 + 32, false},
		{0, 0, false}, {0, 31, false}, {all, 0, true}, {all, 31, true}, {all, 32, false}, {all, 0x7d, false}, {all, 0x7e, false}, {all, 255, false},
	} {
		if Has(x.m, x.c) != x.want {
			t.Errorf("Has(%x, %d): %v", x.m, x.c, !x.want)
		}
	}
	for _, m := range someMaps() {
		in := charactersByWords(m)
		for c := range 256 {
			if want := bytes.IndexByte(in, byte(c)) >= 0; Has(m, byte(c)) != want {
				t.Errorf("Has(%x, %d): %v", m, c, !want)
			}
		}
	}
}

func TestApart(t *testing.T) { // P5.1
	for _, x := range []struct {
		m    uint32
		c    byte
		want bool
	}{
		{0, 0, false}, {0, 31, false}, {0, 0x7c, false}, {0, 0x7d, true}, {0, 0x7e, true}, {0, 0x7f, false},
		{all, 0, true}, {all, 31, true}, {all, 32, false}, {all, 0x5d, false}, {all, 0x5e, false}, {all, 0x7c, false}, {all, 0x7d, true}, {all, 0x7e, true}, {all, 0x7f, false}, {all, 0xfd, false}, {all, 0xfe, false}, {all, 255, false},
		{1, 0, true}, {1, 1, false}, {1, 32, false}, {1 << 31, 31, true}, {1 << 31, 0, false}, {1 << 31, 63, false},
		{0xa0000, 17, true}, {0xa0000, 18, false}, {0xa0000, 19, true}, {0xa0000, 0x7d, true}, {0xa0000, 0x91, false},
	} {
		if Apart(x.m, x.c) != x.want {
			t.Errorf("Apart(%x, %x): %v", x.m, x.c, !x.want)
		}
	}
	for _, m := range someMaps() {
		apart := append(charactersByWords(m), 0x7d, 0x7e)
		for c := range 256 {
			if want := bytes.IndexByte(apart, byte(c)) >= 0; Apart(m, byte(c)) != want {
				t.Errorf("Apart(%x, %x): %v", m, c, !want)
			}
		}
	}
}

func TestWith(t *testing.T) { // P5.1
	for _, x := range []struct {
		m    uint32
		l    []byte
		want uint32
	}{
		{0, []byte{0}, 1}, {0, []byte{31}, 1 << 31}, {0, []byte{0, 31}, 0x80000001}, {0, []byte{31, 0}, 0x80000001},
		{0, []byte{17, 19}, 0xa0000}, {0xa0000, []byte{17, 19}, 0xa0000}, {0xa0000, []byte{18}, 0xe0000},
		{0, []byte{5, 5}, 1 << 5}, {1 << 5, []byte{5}, 1 << 5}, {1, []byte{31, 5, 5, 0, 77}, 0x80000021},
		{0, []byte{32}, 0}, {0, []byte{33, 63, 64, 0x7d, 0x7e, 128, 255}, 0}, {0xa0000, []byte{32, 63, 255}, 0xa0000}, {0, []byte{32, 3, 255}, 8},
		{all, []byte{0, 31, 32, 255}, all},
	} {
		if got := With(x.m, x.l...); got != x.want {
			t.Errorf("With(%x, %v): %x", x.m, x.l, got)
		}
	}
	for _, m := range someMaps() {
		for c := range 256 {
			got := With(m, byte(c))
			for d := range 256 {
				if want := Has(m, byte(d)) || d == c && c < 32; Has(got, byte(d)) != want {
					t.Errorf("With(%x, %d) is %x", m, c, got)
				}
			}
		}
	}
}

func TestWithNothing(t *testing.T) { // P5.1
	for _, m := range someMaps() {
		if With(m) != m || With(m, nil...) != m || With(m, []byte{}...) != m {
			t.Errorf("With(%x) and no bytes: %x", m, With(m))
		}
	}
}

func TestWithOfManyBytes(t *testing.T) { // P5.1
	var l []byte
	for c := range 256 {
		l = append(l, byte(c), byte(255-c))
	}
	l = bytes.Repeat(l, 100)
	if m := With(0, l...); m != all {
		t.Errorf("With all bytes: %x", m)
	}
	high := slices.DeleteFunc(l, func(c byte) bool { return c < 32 })
	for _, m := range someMaps() {
		if got := With(m, high...); got != m {
			t.Errorf("bytes of 32 and above make %x of %x", got, m)
		}
	}
}

func TestList(t *testing.T) { // P5.1
	for _, x := range []struct {
		m    uint32
		want []byte
	}{
		{0, nil}, {1, []byte{0}}, {1 << 31, []byte{31}}, {0x80000001, []byte{0, 31}}, {0x80000021, []byte{0, 5, 31}}, {0xa0000, []byte{17, 19}},
		{all, []byte{0, 1, 2, 3, 4, 5, 6, 7, 8, 9, 10, 11, 12, 13, 14, 15, 16, 17, 18, 19, 20, 21, 22, 23, 24, 25, 26, 27, 28, 29, 30, 31}},
	} {
		if l := List(x.m); !bytes.Equal(l, x.want) {
			t.Errorf("List(%x): %v", x.m, l)
		}
	}
	for _, m := range someMaps() {
		if l := List(m); !bytes.Equal(l, charactersByWords(m)) {
			t.Errorf("List(%x): %v", m, l)
		}
	}
}

func TestPut(t *testing.T) { // P5.2
	for _, x := range []struct {
		m    uint32
		want []byte
	}{
		{0, []byte{0, 0, 0, 0}}, {all, []byte{255, 255, 255, 255}}, {1, []byte{0, 0, 0, 1}}, {1 << 31, []byte{128, 0, 0, 0}},
		{0xa0000, []byte{0, 10, 0, 0}}, {0x01020304, []byte{1, 2, 3, 4}}, {0xfffefdfc, []byte{255, 254, 253, 252}},
	} {
		if b := Put(x.m); !bytes.Equal(b, x.want) {
			t.Errorf("Put(%x): %v", x.m, b)
		}
	}
	for _, m := range someMaps() {
		if b := Put(m); !bytes.Equal(b, binary.BigEndian.AppendUint32(nil, m)) {
			t.Errorf("Put(%x): %v", m, b)
		}
	}
}

func TestGet(t *testing.T) { // P5.2
	for _, x := range []struct {
		b    []byte
		want uint32
	}{
		{[]byte{0, 0, 0, 0}, 0}, {[]byte{255, 255, 255, 255}, all}, {[]byte{0, 0, 0, 1}, 1}, {[]byte{128, 0, 0, 0}, 1 << 31},
		{[]byte{0, 10, 0, 0}, 0xa0000}, {[]byte{1, 2, 3, 4}, 0x01020304}, {[]byte{4, 3, 2, 1}, 0x04030201},
	} {
		if m, ok := Get(x.b); m != x.want || !ok {
			t.Errorf("Get(%v): %x, %v", x.b, m, ok)
		}
	}
}

func TestGetOfWrongBytes(t *testing.T) { // P5.2
	lists := [][]byte{nil, {}, make([]byte, 0, 4), []byte{1, 2, 3, 4}[:3], {0, 0, 0, 0, 1}, {1, 2, 3, 4, 0}}
	for n := range 300 {
		if n != 4 {
			lists = append(lists, make([]byte, n), bytes.Repeat([]byte{255}, n))
		}
	}
	for _, b := range append(lists, make([]byte, 1<<16+4)) {
		if m, ok := Get(b); m != 0 || ok {
			t.Errorf("Get of %d bytes: %x, %v", len(b), m, ok)
		}
	}
}

func TestPutIsGot(t *testing.T) { // P5.2
	for _, m := range someMaps() {
		if got, ok := Get(Put(m)); got != m || !ok {
			t.Errorf("%x is put as %v and got as %x, %v", m, Put(m), got, ok)
		}
	}
}

func TestToldByItsCharacters(t *testing.T) { // P5.3
	known := map[string]uint32{}
	for _, m := range someMaps() {
		l := List(m)
		if got := With(0, l...); got != m {
			t.Errorf("With(0, %v): %x and not %x", l, got, m)
		}
		slices.Reverse(l)
		if got := With(0, append(l, l...)...); got != m {
			t.Errorf("turned, and twice, the characters of %x make %x", m, got)
		}
		told := string(List(m))
		if other, ok := known[told]; ok && other != m {
			t.Errorf("%x and %x have the same characters", m, other)
		}
		known[told] = m
	}
}

func TestEverySmallMapIsToldByItsCharacters(t *testing.T) { // P5.3
	for low := range uint32(1 << 16) {
		for _, m := range []uint32{low, low << 16} {
			if l := List(m); With(0, l...) != m || !slices.IsSorted(l) {
				t.Errorf("List(%x): %v", m, l)
			}
		}
	}
}

// fresh is a list with room behind its length, filled, so that a write there is seen.
func fresh(b []byte) []byte {
	room := bytes.Repeat([]byte{0x15}, len(b)+16)
	copy(room, b)
	return room[:len(b)]
}

func TestHandedInStays(t *testing.T) { // rule 6
	for _, b := range [][]byte{{}, {3}, {1, 2, 3}, {1, 2, 3, 4}, {0, 0, 0, 0}, {31, 7, 7, 0x7d, 255, 0}} {
		given, want := fresh(b), fresh(b)
		With(0, given...)
		With(all, given...)
		Get(given)
		if !bytes.Equal(given[:cap(given)], want[:len(b)+16]) {
			t.Errorf("%v has become %v", want, given[:cap(given)])
		}
	}
}

func TestRoomIsNotHandedIn(t *testing.T) { // rule 6, rule 8
	room := []byte{1, 2, 3, 4, 5, 6}
	if m := With(0, room[:2]...); m != 6 {
		t.Errorf("With(0, 1, 2): %x", m)
	}
	if m := With(0, room[:0]...); m != 0 {
		t.Errorf("With(0): %x", m)
	}
	if m, ok := Get(room[:4]); m != 0x01020304 || !ok {
		t.Errorf("Get(1 2 3 4): %x, %v", m, ok)
	}
	if m, ok := Get(room[:3]); m != 0 || ok {
		t.Errorf("Get(1 2 3): %x, %v", m, ok)
	}
}

// overwrite fills a list and the room behind its length.
func overwrite(b []byte) {
	b = b[:cap(b)]
	for i := range b {
		b[i] = 99
	}
}

func TestAnswersAreNew(t *testing.T) { // P5.4
	for name, call := range map[string]func(uint32) []byte{"List": List, "Put": Put} {
		for _, m := range someMaps() {
			first, second := call(m), call(m)
			want := bytes.Clone(first)
			overwrite(second)
			if !bytes.Equal(first, want) {
				t.Errorf("%s(%x) shares memory with another answer", name, m)
			}
			overwrite(first)
			if got := call(m); !bytes.Equal(got, want) {
				t.Errorf("%s(%x) answers %v behind a write into its answer", name, m, got)
			}
		}
	}
}

func TestNothingIsKept(t *testing.T) { // rule 8
	b := []byte{0, 10, 0, 0}
	for range 3 {
		With(0, 1, 2, 3)
		m, ok := Get(b)
		if m != 0xa0000 || !ok || With(0) != 0 || Has(0, 1) || !bytes.Equal(List(m), []byte{17, 19}) {
			t.Error("a call answers unlike the one ahead")
		}
	}
	m, _ := Get(b)
	b[1] = 99
	if m != 0xa0000 {
		t.Errorf("the map hangs on what was handed in: %x", m)
	}
}

func FuzzMaps(f *testing.F) { // P1, P5.1 to P5.4
	f.Add(uint32(0xa0000), byte(0x7d), []byte{17, 19})
	f.Add(uint32(0), byte(0), []byte{})
	f.Add(all, byte(31), []byte{1, 2, 3, 4})
	f.Add(uint32(1), byte(32), []byte{0, 31, 32, 255, 7})
	f.Fuzz(func(t *testing.T, m uint32, c byte, b []byte) {
		kept := bytes.Clone(b)
		in := bytes.IndexByte(charactersByWords(m), c) >= 0
		if Has(m, c) != in || Apart(m, c) != (in || c == 0x7d || c == 0x7e) {
			t.Errorf("Has(%x, %x): %v, Apart: %v", m, c, Has(m, c), Apart(m, c))
		}
		with := With(m, b...)
		if want := bytes.IndexByte(b, c) >= 0 && c < 32; Has(with, c) != (in || want) {
			t.Errorf("With(%x, %v): %x", m, b, with)
		}
		for d := range byte(32) {
			if Has(with, d) != (Has(m, d) || bytes.IndexByte(b, d) >= 0) {
				t.Errorf("With(%x, %v): %x", m, b, with)
			}
		}
		if l := List(m); !bytes.Equal(l, charactersByWords(m)) || With(0, l...) != m {
			t.Errorf("List(%x): %v", m, l)
		}
		if got, ok := Get(Put(m)); got != m || !ok {
			t.Errorf("Put(%x): %v", m, Put(m))
		}
		got, ok := Get(b)
		if ok != (len(b) == 4) || ok && got != binary.BigEndian.Uint32(b) || !ok && got != 0 {
			t.Errorf("Get(%v): %x, %v", b, got, ok)
		}
		if !bytes.Equal(b, kept) {
			t.Error("what was handed in has changed")
		}
	})
}
