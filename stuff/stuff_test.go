package stuff

import (
	"bytes"
	"math/rand"
	"slices"
	"testing"
)

const all = uint32(0xffffffff)

// someMaps holds the edges: no character, each alone, each missing, all of them, and maps by chance.
func someMaps() []uint32 {
	l := []uint32{0, all, 0xa0000, 0x20000, 0x80000001, 0x7ffffffe, 0x55555555, 0xaaaaaaaa}
	for c := range 32 {
		l = append(l, 1<<c, all^1<<c)
	}
	r := rand.New(rand.NewSource(6))
	for range 40 {
		l = append(l, r.Uint32())
	}
	return l
}

// someLists holds the edges, every byte alone and all in a row, and lists by chance, of which many bytes are told apart.
func someLists() [][]byte {
	l := [][]byte{nil, {}, {0x7e, 0x11, 0x41}, {0x7d, 0x7d, 0x7e, 0x7e}, {0x7d, 0x5d, 0x7e, 0x5e}, {0x20, 0x3f, 0x5d, 0x5e}, {17, 17, 19, 19}}
	var row []byte
	for c := range 256 {
		l = append(l, []byte{byte(c)})
		row = append(row, byte(c))
	}
	l = append(l, row, bytes.Repeat([]byte{0x7e}, 1000), bytes.Repeat([]byte{0x41}, 1000))
	r := rand.New(rand.NewSource(66))
	for range 40 {
		l = append(l, listByChance(r))
	}
	return l
}

func listByChance(r *rand.Rand) []byte {
	b := make([]byte, r.Intn(40))
	for i := range b {
		switch r.Intn(4) {
		case 0:
			b[i] = byte(r.Intn(32))
		case 1:
			b[i] = byte(0x7c + r.Intn(4))
		default:
			b[i] = byte(r.Intn(256))
		}
	}
	return b
}

// charactersByWords goes through a map's digits in base 2, the lowest first.
func charactersByWords(m uint32) []byte {
	var l []byte
	for c := byte(0); m > 0; c++ {
		if m%2 == 1 {
			l = append(l, c)
		}
		m /= 2
	}
	return l
}

// stuffByWords replaces told-apart bytes one kind after the other, 7d first, so that no 7d put in is stuffed again.
func stuffByWords(b []byte, m uint32) []byte {
	for _, c := range append([]byte{0x7d, 0x7e}, charactersByWords(m)...) {
		b = bytes.ReplaceAll(b, []byte{c}, []byte{0x7d, c ^ 0x20})
	}
	return b
}

// unstuffByWords takes the map's characters away first, then goes from 7d to 7d.
func unstuffByWords(b []byte, m uint32) ([]byte, bool) {
	in := charactersByWords(m)
	b = slices.DeleteFunc(bytes.Clone(b), func(c byte) bool { return bytes.IndexByte(in, c) >= 0 })
	if bytes.IndexByte(b, 0x7e) >= 0 {
		return nil, false
	}
	var out []byte
	for {
		i := bytes.IndexByte(b, 0x7d)
		if i < 0 {
			return append(out, b...), true
		}
		if i == len(b)-1 {
			return nil, false
		}
		out = append(append(out, b[:i]...), b[i+1]^0x20)
		b = b[i+2:]
	}
}

func TestExamples(t *testing.T) { // P6.1, P6.2
	if b := Stuff([]byte{0x7e, 0x11, 0x41}, 0x20000); !bytes.Equal(b, []byte{0x7d, 0x5e, 0x7d, 0x31, 0x41}) {
		t.Errorf("Stuff(7e 11 41, 20000): %x", b)
	}
	if b, ok := Unstuff([]byte{0x7d, 0x11, 0x5e}, 0x20000); !bytes.Equal(b, []byte{0x7e}) || !ok {
		t.Errorf("Unstuff(7d 11 5e, 20000): %x, %v", b, ok)
	}
}

func TestStuff(t *testing.T) { // P6.1
	for _, x := range []struct {
		b    []byte
		m    uint32
		want []byte
	}{
		{nil, 0, nil}, {nil, all, nil}, {[]byte{}, all, nil},
		{[]byte{0x7d}, 0, []byte{0x7d, 0x5d}}, {[]byte{0x7e}, 0, []byte{0x7d, 0x5e}}, {[]byte{0x7d}, all, []byte{0x7d, 0x5d}}, {[]byte{0x7e}, all, []byte{0x7d, 0x5e}},
		{[]byte{0x7d, 0x7e, 0x7d}, 0, []byte{0x7d, 0x5d, 0x7d, 0x5e, 0x7d, 0x5d}},
		{[]byte{0, 17, 31}, 0, []byte{0, 17, 31}}, {[]byte{0, 17, 31}, all, []byte{0x7d, 0x20, 0x7d, 0x31, 0x7d, 0x3f}},
		{[]byte{0, 1, 31}, 1, []byte{0x7d, 0x20, 1, 31}}, {[]byte{0, 30, 31}, 1 << 31, []byte{0, 30, 0x7d, 0x3f}},
		{[]byte{0x20, 0x31, 0x3f, 0x5d, 0x5e, 0x7c, 0x7f, 0x80, 0x91, 0xfd, 0xfe, 0xff}, all, []byte{0x20, 0x31, 0x3f, 0x5d, 0x5e, 0x7c, 0x7f, 0x80, 0x91, 0xfd, 0xfe, 0xff}},
	} {
		if b := Stuff(x.b, x.m); !bytes.Equal(b, x.want) {
			t.Errorf("Stuff(%x, %x): %x", x.b, x.m, b)
		}
		if n := Size(x.b, x.m); n != len(x.want) {
			t.Errorf("Size(%x, %x): %d", x.b, x.m, n)
		}
	}
}

func TestStuffAndSizeByWords(t *testing.T) { // P6.1
	for _, m := range someMaps() {
		for _, b := range someLists() {
			want := stuffByWords(b, m)
			if got := Stuff(b, m); !bytes.Equal(got, want) {
				t.Errorf("Stuff(%x, %x): %x", b, m, got)
			}
			if n := Size(b, m); n != len(want) {
				t.Errorf("Size(%x, %x): %d and not %d", b, m, n, len(want))
			}
		}
	}
}

func TestUnstuff(t *testing.T) { // P6.2
	for _, x := range []struct {
		b    []byte
		m    uint32
		want []byte
	}{
		{nil, 0, nil}, {nil, all, nil}, {[]byte{}, 0, nil},
		{[]byte{0, 31, 32, 0x41, 0x7c, 0x7f, 255}, 0, []byte{0, 31, 32, 0x41, 0x7c, 0x7f, 255}},
		// Characters of the map are left out wherever they stand; bytes of 20 and above are in no map.
		{[]byte{0, 31, 32, 0x41, 0x7c, 0x7f, 255}, all, []byte{32, 0x41, 0x7c, 0x7f, 255}},
		{[]byte{5, 5}, 1 << 5, nil}, {[]byte{5, 0x41, 5, 5, 6, 5}, 1 << 5, []byte{0x41, 6}}, {[]byte{0x25, 0x45, 0x85}, 1 << 5, []byte{0x25, 0x45, 0x85}},
		{[]byte{0x7d, 5, 0x41}, 1 << 5, []byte{0x61}}, {[]byte{0x7d, 5, 5, 5, 0x25}, 1 << 5, []byte{5}}, {[]byte{0x7d, 5, 0x7d}, 1 << 5, []byte{0x5d}}, {[]byte{0x7d, 0x7d, 5, 5}, 1 << 5, []byte{0x5d}},
		// A byte behind a 7d is turned, whatever it is.
		{[]byte{0x7d, 0x7d}, 0, []byte{0x5d}}, {[]byte{0x7d, 0x7d, 0x7d, 0x7d}, 0, []byte{0x5d, 0x5d}}, {[]byte{0x7d, 0x7d, 0x7d, 0x5e}, 0, []byte{0x5d, 0x7e}}, {[]byte{0x7d, 0x7d, 0x5e}, 0, []byte{0x5d, 0x5e}},
		{[]byte{0x7d, 0x5d}, 0, []byte{0x7d}}, {[]byte{0x7d, 0x5d, 0x5e}, 0, []byte{0x7d, 0x5e}}, {[]byte{0x7d, 0x5e}, 0, []byte{0x7e}},
		{[]byte{0x7d, 5}, 0, []byte{0x25}}, {[]byte{0x7d, 5}, all ^ 1<<5, []byte{0x25}}, {[]byte{0x7d, 0}, 0, []byte{0x20}}, {[]byte{0x7d, 0x20}, all, []byte{0}}, {[]byte{0x7d, 0x3f}, all, []byte{31}}, {[]byte{0x7d, 0xff}, 0, []byte{0xdf}}, {[]byte{0x7d, 0xdf}, 0, []byte{0xff}},
	} {
		if b, ok := Unstuff(x.b, x.m); !bytes.Equal(b, x.want) || !ok {
			t.Errorf("Unstuff(%x, %x): %x, %v", x.b, x.m, b, ok)
		}
	}
}

func TestUnstuffOfWrongBytes(t *testing.T) { // P6.2, rule 3
	for _, x := range []struct {
		b []byte
		m uint32
	}{
		{[]byte{0x7e}, 0}, {[]byte{0x7e}, all}, {[]byte{0x7e, 0x41}, 0}, {[]byte{0x41, 0x7e}, 0}, {[]byte{0x41, 0x7e, 0x42}, all},
		{[]byte{0x7d, 0x7e}, 0}, {[]byte{0x7d, 0x7e}, all}, {[]byte{0x7d, 0x7e, 0x41}, 0}, {[]byte{0x7d, 5, 0x7e, 0x41}, 1 << 5}, {[]byte{0x7d, 0x5e, 0x7e}, 0}, {[]byte{0x7d, 0x7d, 0x7e}, 0},
		{[]byte{0x7d}, 0}, {[]byte{0x7d}, all}, {[]byte{0x41, 0x7d}, 0}, {[]byte{0x7d, 0x7d, 0x7d}, 0}, {[]byte{0x7d, 0x5d, 0x7d}, 0},
		{[]byte{0x7d, 5}, 1 << 5}, {[]byte{0x41, 0x7d, 5, 5}, 1 << 5}, {[]byte{0x7d, 0, 31}, all}, {[]byte{0x7d, 5, 6}, 3 << 5}, {[]byte{0x7d, 0x7d, 5, 0x7d, 5}, 1 << 5},
	} {
		if b, ok := Unstuff(x.b, x.m); len(b) != 0 || ok {
			t.Errorf("Unstuff(%x, %x): %x, %v", x.b, x.m, b, ok)
		}
	}
}

func checkUnstuff(t *testing.T, b []byte, m uint32) {
	t.Helper()
	want, wantOk := unstuffByWords(b, m)
	if got, ok := Unstuff(b, m); !bytes.Equal(got, want) || ok != wantOk {
		t.Errorf("Unstuff(%x, %x): %x, %v and not %x, %v", b, m, got, ok, want, wantOk)
	}
}

func TestUnstuffByWords(t *testing.T) { // P6.2
	for _, m := range someMaps() {
		for _, b := range someLists() {
			checkUnstuff(t, b, m)
		}
	}
}

func TestEveryByteUnstuffed(t *testing.T) { // P6.2
	for _, m := range someMaps() {
		for c := range 256 {
			checkUnstuff(t, []byte{0x7d, byte(c)}, m)
			checkUnstuff(t, []byte{0x41, byte(c), 0x42}, m)
			checkUnstuff(t, []byte{0x7d, byte(c), 0x42}, m)
		}
	}
}

// shortLists goes through every list of at most n bytes of those.
func shortLists(n int, of []byte, visit func(b []byte)) {
	var grow func(b []byte)
	grow = func(b []byte) {
		visit(b)
		if len(b) == n {
			return
		}
		for _, c := range of {
			grow(append(slices.Clip(b), c))
		}
	}
	grow(nil)
}

func TestEveryShortList(t *testing.T) { // P6.1, P6.2
	for _, m := range []uint32{0, 1 << 5, 1 << 6, 3 << 5, all} {
		shortLists(5, []byte{5, 6, 0x25, 0x41, 0x5e, 0x7d, 0x7e}, func(b []byte) {
			checkUnstuff(t, b, m)
			want := stuffByWords(b, m)
			if got := Stuff(b, m); !bytes.Equal(got, want) || Size(b, m) != len(want) {
				t.Errorf("Stuff(%x, %x): %x, of the size %d", b, m, got, Size(b, m))
			}
		})
	}
}

// smallerMaps holds maps all of whose characters are in m.
func smallerMaps(m uint32) []uint32 {
	return []uint32{m, 0, m & 0x55555555, m & 0xffff, m &^ 0xffff, m & (m - 1), m & -m}
}

// sprinkle puts characters of the map in, anywhere: ahead of each byte, and behind the last one.
func sprinkle(b []byte, m uint32, r *rand.Rand) []byte {
	in := charactersByWords(m)
	var out []byte
	for i := 0; i <= len(b); i++ {
		for len(in) > 0 && r.Intn(2) == 0 {
			out = append(out, in[r.Intn(len(in))])
		}
		if i < len(b) {
			out = append(out, b[i])
		}
	}
	return out
}

func TestComesBack(t *testing.T) { // P6.3
	r := rand.New(rand.NewSource(63))
	for _, m := range someMaps() {
		for _, b := range someLists() {
			stuffed := Stuff(b, m)
			for _, less := range smallerMaps(m) {
				for _, line := range [][]byte{stuffed, sprinkle(stuffed, less, r)} {
					if got, ok := Unstuff(line, less); !bytes.Equal(got, b) || !ok {
						t.Errorf("%x, stuffed by %x, comes back by %x from %x as %x, %v", b, m, less, line, got, ok)
					}
				}
			}
		}
	}
}

func TestCharactersBetweenAllBytes(t *testing.T) { // P6.3
	for _, x := range []struct {
		m, less uint32
		line    []byte
	}{
		{0x20000, 0x20000, []byte{17, 0x7d, 17, 17, 0x5e, 17, 0x7d, 17, 0x31, 17, 0x41, 17}},
		{0xa0000, 0x20000, []byte{17, 0x7d, 17, 17, 0x5e, 17, 0x7d, 17, 0x31, 17, 0x41, 17}},
		{all, 0xa0000, []byte{19, 0x7d, 17, 19, 0x5e, 19, 0x7d, 17, 0x31, 19, 0x41, 17}},
	} {
		b := []byte{0x7e, 0x11, 0x41}
		if got, ok := Unstuff(x.line, x.less); !bytes.Equal(got, b) || !ok {
			t.Errorf("Unstuff(%x, %x): %x, %v", x.line, x.less, got, ok)
		}
		bare := slices.DeleteFunc(x.line, func(c byte) bool { return c == 17 || c == 19 })
		if !bytes.Equal(bare, Stuff(b, x.m)) {
			t.Errorf("Stuff(%x, %x): %x", b, x.m, Stuff(b, x.m))
		}
	}
}

func TestNoFlag(t *testing.T) { // P6.3
	for _, m := range someMaps() {
		for _, b := range someLists() {
			stuffed := Stuff(b, m)
			if bytes.IndexByte(stuffed, 0x7e) >= 0 {
				t.Errorf("Stuff(%x, %x) has a flag: %x", b, m, stuffed)
			}
			if bytes.ContainsAny(stuffed, string(charactersByWords(m))) {
				t.Errorf("Stuff(%x, %x) has a character of the map: %x", b, m, stuffed)
			}
		}
	}
}

func TestManyBytes(t *testing.T) { // P1, P6.1 to P6.3
	b := bytes.Repeat([]byte{0x7e, 0x11, 0x41, 0x7d}, 1<<18)
	stuffed := Stuff(b, all)
	if len(stuffed) != 7<<18 || Size(b, all) != 7<<18 {
		t.Errorf("%d bytes are stuffed into %d, of the size %d", len(b), len(stuffed), Size(b, all))
	}
	if got, ok := Unstuff(stuffed, all); !bytes.Equal(got, b) || !ok {
		t.Errorf("many bytes don't come back: %d, %v", len(got), ok)
	}
	if got, ok := Unstuff(append(stuffed, 0x7d), all); len(got) != 0 || ok {
		t.Errorf("many bytes and a 7d: %d, %v", len(got), ok)
	}
}

// fresh is a list with room behind its length, filled, so that a write there is seen.
func fresh(b []byte) []byte {
	room := bytes.Repeat([]byte{0x15}, len(b)+16)
	copy(room, b)
	return room[:len(b)]
}

func TestHandedInStays(t *testing.T) { // P6.4
	for _, m := range []uint32{0, all, 0xa0000} {
		for _, b := range append(someLists(), []byte{0x7d}, []byte{0x41, 0x7d, 17, 0x5e, 17}, []byte{0x7d, 0x5e, 0x7e}) {
			given, want := fresh(b), fresh(b)
			Stuff(given, m)
			Size(given, m)
			Unstuff(given, m)
			if !bytes.Equal(given[:cap(given)], want[:cap(want)]) {
				t.Errorf("%x has become %x", want[:cap(want)], given[:cap(given)])
			}
		}
	}
}

func TestRoomIsNotHandedIn(t *testing.T) { // P6.4, rule 8
	room := []byte{0x41, 0x7d, 0x5e, 0x7e}
	if b := Stuff(room[:1], 0); !bytes.Equal(b, []byte{0x41}) || Size(room[:1], 0) != 1 {
		t.Errorf("Stuff(41): %x", b)
	}
	if b := Stuff(room[:0], 0); len(b) != 0 || Size(room[:0], 0) != 0 {
		t.Errorf("Stuff of nothing: %x", b)
	}
	if b, ok := Unstuff(room[:3], 0); !bytes.Equal(b, []byte{0x41, 0x7e}) || !ok {
		t.Errorf("Unstuff(41 7d 5e): %x, %v", b, ok)
	}
	if b, ok := Unstuff(room[:2], 0); len(b) != 0 || ok {
		t.Errorf("Unstuff(41 7d): %x, %v", b, ok)
	}
}

// overwrite fills a list and the room behind its length.
func overwrite(b []byte) {
	b = b[:cap(b)]
	for i := range b {
		b[i] = 99
	}
}

func TestAnswersAreNew(t *testing.T) { // P6.4
	unstuff := func(b []byte, m uint32) []byte {
		out, _ := Unstuff(b, m)
		return out
	}
	for name, call := range map[string]func([]byte, uint32) []byte{"Stuff": Stuff, "Unstuff": unstuff} {
		for _, m := range []uint32{0, all, 0xa0000} {
			for _, b := range append(someLists(), []byte{0x41, 0x7d, 17, 0x5e, 17}) {
				given, handed := fresh(b), fresh(b)
				first, second := call(given, m), call(given, m)
				want := bytes.Clone(first)
				overwrite(second)
				if !bytes.Equal(first, want) {
					t.Errorf("%s(%x, %x) shares memory with another answer", name, b, m)
				}
				overwrite(first)
				if !bytes.Equal(given[:cap(given)], handed[:cap(handed)]) {
					t.Errorf("%s(%x, %x) shares memory with what was handed in", name, b, m)
				}
				if got := call(given, m); !bytes.Equal(got, want) {
					t.Errorf("%s(%x, %x) answers %x behind a write into its answer", name, b, m, got)
				}
			}
		}
	}
}

func TestNothingIsKept(t *testing.T) { // P6.4, rule 8
	for range 3 {
		Unstuff([]byte{0x7d}, 0)
		Unstuff([]byte{0x41, 0x7d, 0x7e}, all)
		Stuff([]byte{0x7e, 0x7d}, all)
		if b, ok := Unstuff([]byte{0x41}, 0); !bytes.Equal(b, []byte{0x41}) || !ok {
			t.Errorf("Unstuff(41, 0): %x, %v", b, ok)
		}
		if b := Stuff([]byte{0x41}, 0); !bytes.Equal(b, []byte{0x41}) || Size([]byte{0x41}, 0) != 1 {
			t.Errorf("Stuff(41, 0): %x", b)
		}
	}
	b := []byte{0x41, 0x7d, 0x5e}
	got, _ := Unstuff(b, 0)
	stuffed := Stuff(b, 0)
	overwrite(b)
	if !bytes.Equal(got, []byte{0x41, 0x7e}) || !bytes.Equal(stuffed, []byte{0x41, 0x7d, 0x5d, 0x5e}) {
		t.Errorf("an answer hangs on what was handed in: %x, %x", got, stuffed)
	}
}

func FuzzStuff(f *testing.F) { // P1, P6.1 to P6.4
	f.Add([]byte{0x7e, 0x11, 0x41}, uint32(0x20000), all, int64(0))
	f.Add([]byte{0x7d, 0x11, 0x5e}, uint32(0x20000), uint32(0), int64(1))
	f.Add([]byte{0x7d, 0x7d}, uint32(0), all, int64(2))
	f.Add([]byte{}, all, all, int64(3))
	f.Fuzz(func(t *testing.T, b []byte, m, mask uint32, seed int64) {
		kept := bytes.Clone(b)
		stuffed := Stuff(b, m)
		if !bytes.Equal(stuffed, stuffByWords(b, m)) || Size(b, m) != len(stuffed) {
			t.Errorf("Stuff(%x, %x): %x, of the size %d", b, m, stuffed, Size(b, m))
		}
		checkUnstuff(t, b, m)
		line := sprinkle(stuffed, m&mask, rand.New(rand.NewSource(seed)))
		if got, ok := Unstuff(line, m&mask); !bytes.Equal(got, b) || !ok || bytes.IndexByte(line, 0x7e) >= 0 {
			t.Errorf("%x, stuffed by %x, comes back by %x from %x as %x, %v", b, m, m&mask, line, got, ok)
		}
		if !bytes.Equal(b, kept) {
			t.Error("what was handed in has changed")
		}
	})
}
