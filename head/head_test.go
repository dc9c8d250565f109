package head

import (
	"bytes"
	"math"
	"math/rand"
	"slices"
	"testing"

	"umpire/api"
)

// way is how a frame begins: with address and control or without, with a protocol's one byte or with two.
type way struct{ full, short bool }

var ways = []way{{false, false}, {false, true}, {true, false}, {true, true}}

// farNumbers are no protocols: those of which another size of number keeps bits that would do, and the ends.
var farNumbers = []int{-1, -2, -0x21, -0xff, -0x100, -0x1ff, -0x3fdf, -0xffdf, -0x10000, -0xffff + 0x20, 0x10000, 0x10001, 0x10021, 0x1c021, 0x20021, 0x1000021, 1<<31 - 1, 1<<31 + 0x21, 1<<32 + 0x21, 1<<32 + 0xc021, 1<<62 + 0x21, math.MinInt, math.MinInt + 1, math.MinInt + 0x21, math.MinInt + 0xc021, math.MaxInt, math.MaxInt - 0x100, math.MaxInt - 0xffff + 0x21}

// mayByWords holds the two bytes of a number against the chapter's words.
func mayByWords(proto int) bool {
	if proto < 1 || proto > 65535 {
		return false
	}
	higher, lower := proto/256, proto%256
	return lower%2 == 1 && higher%2 == 0 && proto != 255
}

// protosByWords are all protocols that may be, rising.
func protosByWords() []int {
	var l []int
	for proto := range 65536 {
		if mayByWords(proto) {
			l = append(l, proto)
		}
	}
	return l
}

// someProtos are those at the ends, each known one, and some by chance.
func someProtos() []int {
	l := []int{1, 3, 0x21, 0x57, 0x7d, 0x7f, 0x81, 0xfb, 0xfd, 0x201, 0x203, 0x2ff, 0x4ff, 0x8021, 0x8057, 0x80ff, 0xc021, 0xc023, 0xc223, 0xfe01, 0xfe03, 0xfeff}
	every := protosByWords()
	r := rand.New(rand.NewSource(8))
	for range 60 {
		l = append(l, every[r.Intn(len(every))])
	}
	return l
}

// putByWords writes a beginning down, byte by byte.
func putByWords(proto int, w way) []byte {
	var b []byte
	if w.full {
		b = append(b, 0xff, 0x03)
	}
	if !w.short || proto >= 256 {
		b = append(b, byte(proto/256))
	}
	return append(b, byte(proto%256))
}

// beginnings are all ways in which a frame may begin, with the protocol of each, and all of their pieces that end early.
type beginnings struct {
	protos map[string]int
	early  map[string]bool
}

func allBeginnings() beginnings {
	all := beginnings{map[string]int{}, map[string]bool{}}
	for _, proto := range protosByWords() {
		for _, w := range ways {
			b := string(putByWords(proto, w))
			all.protos[b] = proto
			for n := range len(b) {
				all.early[b[:n]] = true
			}
		}
	}
	return all
}

// read looks b's pieces up: it reads nothing bit by bit, as Read does.
func (all beginnings) read(b []byte) (api.Head, api.Errno) {
	for n := range min(len(b), 4) + 1 {
		if proto, ok := all.protos[string(b[:n])]; ok {
			return api.Head{Proto: proto, At: n}, api.OK
		}
	}
	if all.early[string(b)] {
		return api.Head{}, api.ErrEnd
	}
	return api.Head{}, api.ErrForm
}

// check holds Read and Body of b against what is looked up.
func (all beginnings) check(t *testing.T, b []byte) {
	t.Helper()
	want, wantErr := all.read(b)
	if h, e := Read(b); h != want || e != wantErr {
		t.Errorf("Read(%x): %x, %d and not %x, %d", b, h, e, want, wantErr)
	}
	var rest []byte
	if wantErr == api.OK {
		rest = b[want.At:]
	}
	if proto, body, e := Body(b); proto != want.Proto || !bytes.Equal(body, rest) || e != wantErr {
		t.Errorf("Body(%x): %x, %x, %d and not %x, %x, %d", b, proto, body, e, want.Proto, rest, wantErr)
	}
}

func TestExamples(t *testing.T) { // P8.2
	for _, x := range []struct {
		b    []byte
		want api.Head
		err  api.Errno
	}{
		{[]byte{0xff, 0x03, 0xc0, 0x21, 1}, api.Head{Proto: 0xc021, At: 4}, api.OK},
		{[]byte{0x21}, api.Head{Proto: 0x21, At: 1}, api.OK},
		{[]byte{0xff}, api.Head{}, api.ErrEnd},
		{[]byte{0xc0, 0x20}, api.Head{}, api.ErrForm},
	} {
		if h, e := Read(x.b); h != x.want || e != x.err {
			t.Errorf("Read(%x): %x, %d", x.b, h, e)
		}
	}
}

func TestMay(t *testing.T) { // P8.1
	for _, x := range []struct {
		proto int
		want  bool
	}{
		{0, false}, {1, true}, {2, false}, {3, true}, {0x20, false}, {0x21, true}, {0x57, true}, {0xc1, true},
		{0xfc, false}, {0xfd, true}, {0xfe, false}, {0xff, false}, {0x100, false}, {0x101, false}, {0x121, false}, {0x1ff, false}, {0x200, false}, {0x201, true}, {0x2ff, true}, {0x300, false}, {0x301, false},
		{0x8021, true}, {0x8057, true}, {0xc020, false}, {0xc021, true}, {0xc023, true}, {0xc121, false}, {0xc223, true},
		{0xfefe, false}, {0xfeff, true}, {0xff00, false}, {0xff01, false}, {0xff03, false}, {0xfffd, false}, {0xfffe, false}, {0xffff, false},
	} {
		if May(x.proto) != x.want {
			t.Errorf("May(%x): %v", x.proto, !x.want)
		}
	}
	for _, proto := range farNumbers {
		if May(proto) {
			t.Errorf("May(%x): true", proto)
		}
	}
}

func TestMayOfEveryNumber(t *testing.T) { // P8.1
	for proto := -140000; proto <= 400000; proto++ {
		if want := mayByWords(proto); May(proto) != want {
			t.Errorf("May(%x): %v", proto, !want)
		}
	}
}

func TestKnownProtocolsMayBe(t *testing.T) { // P8.1
	for _, proto := range []int{api.Ip, api.Ip6, api.Ipcp, api.Ip6c, api.Lcp, api.Pap, api.Chap} {
		if !May(proto) {
			t.Errorf("May(%x): false", proto)
		}
	}
}

func TestPut(t *testing.T) { // P8.1
	for _, x := range []struct {
		proto       int
		full, short bool
		want        []byte
	}{
		{0xc021, false, false, []byte{0xc0, 0x21}}, {0xc021, false, true, []byte{0xc0, 0x21}}, {0xc021, true, false, []byte{0xff, 0x03, 0xc0, 0x21}}, {0xc021, true, true, []byte{0xff, 0x03, 0xc0, 0x21}},
		{0x21, false, false, []byte{0, 0x21}}, {0x21, false, true, []byte{0x21}}, {0x21, true, false, []byte{0xff, 0x03, 0, 0x21}}, {0x21, true, true, []byte{0xff, 0x03, 0x21}},
		{1, false, false, []byte{0, 1}}, {1, false, true, []byte{1}}, {1, true, true, []byte{0xff, 0x03, 1}},
		// The last one below 100, and the first one above it.
		{0xfd, false, false, []byte{0, 0xfd}}, {0xfd, false, true, []byte{0xfd}}, {0xfd, true, true, []byte{0xff, 0x03, 0xfd}},
		{0x201, false, false, []byte{2, 1}}, {0x201, false, true, []byte{2, 1}}, {0x201, true, true, []byte{0xff, 0x03, 2, 1}},
		{0xfeff, false, true, []byte{0xfe, 0xff}}, {0xfeff, true, false, []byte{0xff, 0x03, 0xfe, 0xff}},
	} {
		if b, e := Put(x.proto, x.full, x.short); !bytes.Equal(b, x.want) || e != api.OK {
			t.Errorf("Put(%x, %v, %v): %x, %d", x.proto, x.full, x.short, b, e)
		}
	}
}

func TestPutOfEveryNumber(t *testing.T) { // P8.1
	for proto := -1000; proto <= 140000; proto++ {
		for _, w := range ways {
			want, wantErr := []byte(nil), api.ErrArg
			if mayByWords(proto) {
				want, wantErr = putByWords(proto, w), api.OK
			}
			if b, e := Put(proto, w.full, w.short); !bytes.Equal(b, want) || e != wantErr {
				t.Errorf("Put(%x, %v, %v): %x, %d", proto, w.full, w.short, b, e)
			}
		}
	}
}

func TestPutOfWrongProtocols(t *testing.T) { // P8.1
	for _, proto := range append(farNumbers, 0, 2, 0x20, 0xfe, 0xff, 0x100, 0x101, 0x121, 0xc020, 0xc121, 0xff03, 0xff21, 0xffff) {
		for _, w := range ways {
			if b, e := Put(proto, w.full, w.short); len(b) != 0 || e != api.ErrArg {
				t.Errorf("Put(%x, %v, %v): %x, %d", proto, w.full, w.short, b, e)
			}
		}
	}
}

func TestRead(t *testing.T) { // P8.2
	for _, x := range []struct {
		b    []byte
		want api.Head
	}{
		{[]byte{1}, api.Head{Proto: 1, At: 1}}, {[]byte{0xc1}, api.Head{Proto: 0xc1, At: 1}}, {[]byte{0xfd}, api.Head{Proto: 0xfd, At: 1}}, {[]byte{3}, api.Head{Proto: 3, At: 1}},
		{[]byte{0, 1}, api.Head{Proto: 1, At: 2}}, {[]byte{0, 0x21}, api.Head{Proto: 0x21, At: 2}}, {[]byte{0, 0xfd}, api.Head{Proto: 0xfd, At: 2}},
		{[]byte{2, 0xff}, api.Head{Proto: 0x2ff, At: 2}}, {[]byte{0xfe, 0xff}, api.Head{Proto: 0xfeff, At: 2}}, {[]byte{0xc0, 0x21}, api.Head{Proto: 0xc021, At: 2}},
		{[]byte{0xff, 0x03, 0x21}, api.Head{Proto: 0x21, At: 3}}, {[]byte{0xff, 0x03, 3}, api.Head{Proto: 3, At: 3}}, {[]byte{0xff, 0x03, 0, 0x21}, api.Head{Proto: 0x21, At: 4}}, {[]byte{0xff, 0x03, 0xfe, 0xff}, api.Head{Proto: 0xfeff, At: 4}},
		// What stands behind isn't read, whatever it is.
		{[]byte{0x21, 0xff}, api.Head{Proto: 0x21, At: 1}}, {[]byte{0x21, 0xff, 0x03, 0xc0, 0x21}, api.Head{Proto: 0x21, At: 1}}, {[]byte{0xc0, 0x21, 0xff, 0x04}, api.Head{Proto: 0xc021, At: 2}}, {[]byte{3, 0xff}, api.Head{Proto: 3, At: 1}},
		{[]byte{0xff, 0x03, 0x21, 0}, api.Head{Proto: 0x21, At: 3}}, {[]byte{0xff, 0x03, 0, 0x21, 0xff, 0x03}, api.Head{Proto: 0x21, At: 4}},
	} {
		if h, e := Read(x.b); h != x.want || e != api.OK {
			t.Errorf("Read(%x): %x, %d", x.b, h, e)
		}
	}
}

// wrongFrames are those that end early, and those whose beginning is none.
var wrongFrames = []struct {
	b    []byte
	want api.Errno
}{
	{nil, api.ErrEnd}, {[]byte{}, api.ErrEnd},
	{[]byte{0xff}, api.ErrEnd}, {[]byte{0xff, 0x03}, api.ErrEnd},
	{[]byte{0}, api.ErrEnd}, {[]byte{2}, api.ErrEnd}, {[]byte{0xc0}, api.ErrEnd}, {[]byte{0xfe}, api.ErrEnd},
	{[]byte{0xff, 0x03, 0}, api.ErrEnd}, {[]byte{0xff, 0x03, 0xc0}, api.ErrEnd}, {[]byte{0xff, 0x03, 0xfe}, api.ErrEnd},
	// Behind the address stands another byte than the control.
	{[]byte{0xff, 0}, api.ErrForm}, {[]byte{0xff, 0x02}, api.ErrForm}, {[]byte{0xff, 0x04}, api.ErrForm}, {[]byte{0xff, 0x13}, api.ErrForm}, {[]byte{0xff, 0x21}, api.ErrForm}, {[]byte{0xff, 0xff}, api.ErrForm}, {[]byte{0xff, 0xff, 0x03, 0x21}, api.ErrForm}, {[]byte{0xff, 0, 0x21}, api.ErrForm}, {[]byte{0xff, 0xc0, 0x21}, api.ErrForm},
	// The protocol's byte is ff.
	{[]byte{0xff, 0x03, 0xff}, api.ErrForm}, {[]byte{0xff, 0x03, 0xff, 0x03}, api.ErrForm}, {[]byte{0xff, 0x03, 0xff, 0x03, 0x21}, api.ErrForm},
	// The lower byte's lowest bit is 0.
	{[]byte{0, 0}, api.ErrForm}, {[]byte{0, 0x20}, api.ErrForm}, {[]byte{0xc0, 0x20}, api.ErrForm}, {[]byte{0xc0, 0, 0x21}, api.ErrForm}, {[]byte{0xfe, 0xfe}, api.ErrForm}, {[]byte{0xff, 0x03, 0xc0, 0x20}, api.ErrForm}, {[]byte{0xff, 0x03, 0, 0}, api.ErrForm}, {[]byte{0xff, 0x03, 0, 0, 0x21}, api.ErrForm},
	// The protocol ff, in two bytes.
	{[]byte{0, 0xff}, api.ErrForm}, {[]byte{0, 0xff, 0x03, 0x21}, api.ErrForm}, {[]byte{0xff, 0x03, 0, 0xff}, api.ErrForm}, {[]byte{0xff, 0x03, 0, 0xff, 0x21}, api.ErrForm},
}

func TestReadOfWrongFrames(t *testing.T) { // P8.2
	for _, x := range wrongFrames {
		if h, e := Read(x.b); h != (api.Head{}) || e != x.want {
			t.Errorf("Read(%x): %x, %d", x.b, h, e)
		}
	}
}

func TestBodyOfWrongFrames(t *testing.T) { // P8.2
	for _, x := range wrongFrames {
		if proto, body, e := Body(x.b); proto != 0 || len(body) != 0 || e != x.want {
			t.Errorf("Body(%x): %x, %x, %d", x.b, proto, body, e)
		}
	}
}

func TestBody(t *testing.T) { // P8.2
	for _, x := range []struct {
		b    []byte
		want int
		body []byte
	}{
		{[]byte{0x21, 7, 8, 9}, 0x21, []byte{7, 8, 9}}, {[]byte{0, 0x21, 7, 8, 9}, 0x21, []byte{7, 8, 9}}, {[]byte{0xff, 0x03, 0x21, 7, 8, 9}, 0x21, []byte{7, 8, 9}}, {[]byte{0xff, 0x03, 0, 0x21, 7, 8, 9}, 0x21, []byte{7, 8, 9}},
		{[]byte{0xff, 0x03, 0xc0, 0x21, 1}, 0xc021, []byte{1}}, {[]byte{0xc0, 0x21, 0xff, 0x03}, 0xc021, []byte{0xff, 0x03}}, {[]byte{0x21, 0}, 0x21, []byte{0}}, {[]byte{0x21, 0x21}, 0x21, []byte{0x21}},
		// The frame ends with its beginning.
		{[]byte{0x21}, 0x21, nil}, {[]byte{0, 0x21}, 0x21, nil}, {[]byte{0xc0, 0x21}, 0xc021, nil}, {[]byte{0xff, 0x03, 0x21}, 0x21, nil}, {[]byte{0xff, 0x03, 0xc0, 0x21}, 0xc021, nil},
	} {
		if proto, body, e := Body(x.b); proto != x.want || !bytes.Equal(body, x.body) || e != api.OK {
			t.Errorf("Body(%x): %x, %x, %d", x.b, proto, body, e)
		}
	}
}

func TestBodyOfLongFrames(t *testing.T) { // P8.2
	for _, n := range []int{65531, 65535, 65536, 1 << 20} {
		want := bytes.Repeat([]byte{0xff, 0x03, 0, 0x21, 0x20}, n)[:n]
		for _, w := range ways {
			b := append(putByWords(0x57, w), want...)
			if proto, body, e := Body(b); proto != 0x57 || !bytes.Equal(body, want) || e != api.OK {
				t.Errorf("Body of %d bytes behind %x: %x, %d bytes, %d", n, putByWords(0x57, w), proto, len(body), e)
			}
		}
	}
}

// TestEveryBeginning goes through all lists of up to two bytes, and through those behind address and control, with some
// bytes behind each.
func TestEveryBeginning(t *testing.T) { // P8.2
	all := allBeginnings()
	for _, ahead := range [][]byte{nil, {0xff, 0x03}} {
		all.check(t, ahead)
		for first := range 256 {
			all.check(t, append(bytes.Clone(ahead), byte(first)))
			for second := range 256 {
				b := append(bytes.Clone(ahead), byte(first), byte(second))
				all.check(t, b)
				all.check(t, append(b, 0x21))
			}
		}
	}
}

func TestEveryByteBehindAnother(t *testing.T) { // P8.2
	all := allBeginnings()
	edges := []byte{0, 1, 2, 3, 4, 0x20, 0x21, 0x7e, 0xc0, 0xc1, 0xfc, 0xfd, 0xfe, 0xff}
	for _, a := range edges {
		for _, b := range edges {
			for _, c := range edges {
				for _, d := range edges {
					all.check(t, []byte{a, b, c, d, 0xff})
				}
				all.check(t, []byte{a, b, c})
			}
		}
	}
}

// TestReadMayBe holds that no protocol is read that may not be, nor one in other bytes than it would be put in.
func TestReadMayBe(t *testing.T) { // P8.1, P8.2
	r := rand.New(rand.NewSource(82))
	for range 20000 {
		b := frameByChance(r)
		h, e := Read(b)
		if e != api.OK {
			continue
		}
		puts := false
		for _, w := range ways {
			put, _ := Put(h.Proto, w.full, w.short)
			puts = puts || bytes.Equal(put, b[:h.At])
		}
		if !May(h.Proto) || !puts {
			t.Errorf("Read(%x): %x", b, h)
		}
	}
}

// frameByChance has many of the bytes at which something is told.
func frameByChance(r *rand.Rand) []byte {
	b := make([]byte, r.Intn(8))
	edges := []byte{0, 1, 3, 0x20, 0x21, 0xc0, 0xfe, 0xff}
	for i := range b {
		b[i] = byte(r.Intn(256))
		if r.Intn(2) == 0 {
			b[i] = edges[r.Intn(len(edges))]
		}
	}
	if r.Intn(3) == 0 {
		return append([]byte{0xff, 0x03}, b...)
	}
	return b
}

func TestEveryProtocolComesBack(t *testing.T) { // P8.3
	for _, proto := range protosByWords() {
		for _, w := range ways {
			b, _ := Put(proto, w.full, w.short)
			want := api.Head{Proto: proto, At: len(b)}
			for _, behind := range [][]byte{nil, {0xff, 0x03}, {0}} {
				if h, e := Read(slices.Concat(b, behind)); h != want || e != api.OK {
					t.Errorf("%x is put as %x and read as %x, %d, with %x behind", proto, b, h, e, behind)
				}
			}
		}
	}
}

func TestWhateverStandsBehind(t *testing.T) { // P8.3
	behind := [][]byte{nil, {0xff}, {0xff, 0x03}, {0xff, 0x03, 0xc0, 0x21}, {0, 0xff}, {0, 0}, bytes.Repeat([]byte{0xff}, 100), make([]byte, 70000)}
	for c := range 256 {
		behind = append(behind, []byte{byte(c)})
	}
	for _, proto := range someProtos() {
		for _, w := range ways {
			b, _ := Put(proto, w.full, w.short)
			for _, rest := range behind {
				frame := slices.Concat(b, rest)
				if h, e := Read(frame); h != (api.Head{Proto: proto, At: len(b)}) || e != api.OK {
					t.Errorf("%x is put as %x and read as %x, %d", proto, b, h, e)
				}
				if got, body, e := Body(frame); got != proto || !bytes.Equal(body, rest) || e != api.OK {
					t.Errorf("%x is put as %x; its body is of %x and of %d bytes, %d", proto, b, got, len(body), e)
				}
			}
		}
	}
}

// TestPiecesEndEarly holds that of what is put each shorter piece ends ahead of its end, and is no other beginning.
func TestPiecesEndEarly(t *testing.T) { // P8.2, P8.3
	for _, proto := range someProtos() {
		for _, w := range ways {
			b, _ := Put(proto, w.full, w.short)
			for n := range len(b) {
				if h, e := Read(b[:n]); h != (api.Head{}) || e != api.ErrEnd {
					t.Errorf("Read(%x), of %x: %x, %d", b[:n], b, h, e)
				}
			}
		}
	}
}

// fresh is a list with room behind its length, filled, so that a write there is seen.
func fresh(b []byte) []byte {
	room := bytes.Repeat([]byte{0x15}, len(b)+16)
	copy(room, b)
	return room[:len(b)]
}

// overwrite fills a list and the room behind its length.
func overwrite(b []byte) {
	b = b[:cap(b)]
	for i := range b {
		b[i] = 99
	}
}

// someFrames holds right and wrong ones, with bytes behind them and without.
func someFrames() [][]byte {
	var l [][]byte
	for _, x := range wrongFrames {
		l = append(l, x.b)
	}
	for _, proto := range []int{1, 0x21, 0xfd, 0x201, 0xc021, 0xfeff} {
		for _, w := range ways {
			b := putByWords(proto, w)
			l = append(l, b, append(bytes.Clone(b), 7), append(bytes.Clone(b), 7, 8, 9, 0xff))
		}
	}
	return l
}

func TestHandedInStays(t *testing.T) { // P8.4
	for _, b := range someFrames() {
		given, want := fresh(b), fresh(b)
		Read(given)
		_, body, _ := Body(given)
		overwrite(body)
		if !bytes.Equal(given[:cap(given)], want[:cap(want)]) {
			t.Errorf("%x has become %x", want, given[:cap(given)])
		}
	}
}

func TestRoomIsNotHandedIn(t *testing.T) { // P8.4, rule 8
	room := []byte{0xff, 0x03, 0xc0, 0x21, 7, 8}
	for n := range 4 {
		if h, e := Read(room[:n]); h != (api.Head{}) || e != api.ErrEnd {
			t.Errorf("Read of %d bytes goes by the room behind: %x, %d", n, h, e)
		}
		if proto, body, e := Body(room[:n]); proto != 0 || len(body) != 0 || e != api.ErrEnd {
			t.Errorf("Body of %d bytes goes by the room behind: %x, %x, %d", n, proto, body, e)
		}
	}
	for n := 4; n <= len(room); n++ {
		if proto, body, e := Body(room[:n]); proto != 0xc021 || !bytes.Equal(body, room[4:n]) || e != api.OK {
			t.Errorf("Body of %d bytes goes by the room behind: %x, %x, %d", n, proto, body, e)
		}
	}
}

func TestBodiesAreNew(t *testing.T) { // P8.4
	for _, b := range someFrames() {
		given := fresh(b)
		_, first, _ := Body(given)
		_, second, _ := Body(given)
		want := bytes.Clone(first)
		overwrite(second)
		if !bytes.Equal(first, want) {
			t.Errorf("Body(%x) shares memory with another answer", b)
		}
		overwrite(given)
		if !bytes.Equal(first, want) {
			t.Errorf("Body(%x) shares memory with what was handed in", b)
		}
	}
}

func TestBeginningsAreNew(t *testing.T) { // P8.4
	for _, proto := range someProtos() {
		for _, w := range ways {
			want := putByWords(proto, w)
			first, _ := Put(proto, w.full, w.short)
			second, _ := Put(proto, w.full, w.short)
			overwrite(second)
			if !bytes.Equal(first, want) {
				t.Errorf("Put(%x, %v, %v) shares memory with another answer", proto, w.full, w.short)
			}
			overwrite(first)
			if third, _ := Put(proto, w.full, w.short); !bytes.Equal(third, want) {
				t.Errorf("Put(%x, %v, %v) answers %x behind a write into its answer", proto, w.full, w.short, third)
			}
		}
	}
}

func TestNothingIsKept(t *testing.T) { // rule 8
	b := []byte{0xff, 0x03, 0xc0, 0x21, 1}
	for range 3 {
		Read([]byte{0xff})
		Body([]byte{0xc0})
		Put(0xff, true, true)
		h, e := Read(b)
		if h != (api.Head{Proto: 0xc021, At: 4}) || e != api.OK {
			t.Errorf("Read answers unlike the one ahead: %x, %d", h, e)
		}
		if short, e := Put(0x21, false, true); !bytes.Equal(short, []byte{0x21}) || e != api.OK {
			t.Errorf("Put answers unlike the one ahead: %x, %d", short, e)
		}
	}
}

func FuzzHeads(f *testing.F) { // P1, P8.1 to P8.4
	f.Add([]byte{0xff, 0x03, 0xc0, 0x21, 1}, 0xc021, true, false)
	f.Add([]byte{0x21}, 0x21, false, true)
	f.Add([]byte{}, 0xff, true, true)
	f.Add([]byte{0xc0, 0x20}, -1, false, false)
	all := allBeginnings()
	f.Fuzz(func(t *testing.T, b []byte, proto int, full, short bool) {
		kept := bytes.Clone(b)
		all.check(t, b)
		may := mayByWords(proto)
		put, e := Put(proto, full, short)
		switch {
		case May(proto) != may:
			t.Errorf("May(%x): %v", proto, !may)
		case !may && (len(put) != 0 || e != api.ErrArg):
			t.Errorf("Put(%x, %v, %v): %x, %d", proto, full, short, put, e)
		case may && (!bytes.Equal(put, putByWords(proto, way{full, short})) || e != api.OK):
			t.Errorf("Put(%x, %v, %v): %x, %d", proto, full, short, put, e)
		}
		if got, body, e := Body(slices.Concat(put, b)); may && (got != proto || !bytes.Equal(body, b) || e != api.OK) {
			t.Errorf("%x, put as %x, with %x behind, is read as %x, %x, %d", proto, put, b, got, body, e)
		}
		if !bytes.Equal(b, kept) {
			t.Error("what was handed in has changed")
		}
	})
}
