package frame

import (
	"bytes"
	"encoding/binary"
	"hash/crc32"
	"math/rand"
	"slices"
	"testing"

	"umpire/api"
)

const (
	all     = uint32(0xffffffff)
	longest = 65535
)

var bothWidths = []bool{false, true}

// sumSize is how many bytes a check sequence has.
func sumSize(wide bool) int {
	if wide {
		return 4
	}
	return 2
}

// sealByWords puts the check sequence behind b, that of 16 bits worked out bit by bit.
func sealByWords(b []byte, wide bool) []byte {
	s := bytes.Clone(b)
	if wide {
		return binary.LittleEndian.AppendUint32(s, crc32.ChecksumIEEE(b))
	}
	reg := uint16(0xffff)
	for _, c := range b {
		reg ^= uint16(c)
		for range 8 {
			reg = reg>>1 ^ reg&1*0x8408
		}
	}
	return binary.LittleEndian.AppendUint16(s, ^reg)
}

// isIn asks whether a byte is a character of the map.
func isIn(m uint32, c byte) bool {
	return c < 0x20 && m/(1<<c)%2 == 1
}

// stuffByWords replaces what the map tells apart, byte by byte.
func stuffByWords(b []byte, m uint32) []byte {
	var out []byte
	for _, c := range b {
		if c == 0x7d || c == 0x7e || isIn(m, c) {
			out = append(out, 0x7d, c^0x20)
		} else {
			out = append(out, c)
		}
	}
	return out
}

// unstuffByWords takes the map's characters away first, then goes from 7d to 7d. There is no flag within a frame.
func unstuffByWords(b []byte, m uint32) ([]byte, bool) {
	b = slices.DeleteFunc(bytes.Clone(b), func(c byte) bool { return isIn(m, c) })
	var out []byte
	for {
		i := bytes.IndexByte(b, 0x7d)
		if i < 0 {
			return append(out, b...), true
		}
		if i == len(b)-1 {
			return nil, false
		}
		out = append(append(out, b[:i]...), b[i+1]^0x20)
		b = b[i+2:]
	}
}

// judgeByWords tells of a frame as it stands what kind it is of, and its body.
func judgeByWords(frame []byte, m uint32, wide bool, tally *api.Tally) []byte {
	if !slices.ContainsFunc(frame, func(c byte) bool { return !isIn(m, c) }) {
		return nil
	}
	b, ok := unstuffByWords(frame, m)
	at := len(b) - sumSize(wide)
	switch {
	case !ok:
		tally.Aborted++
	case at < 2:
		tally.Short++
	case at > longest:
		tally.Long++
	case !bytes.Equal(b, sealByWords(b[:at], wide)):
		tally.Wrong++
	default:
		tally.Good++
		return b[:at]
	}
	return nil
}

// allByWords cuts the whole stream at its flags; the first and the last piece are no frames.
func allByWords(stream []byte, m uint32, wide bool) ([][]byte, api.Tally) {
	var l [][]byte
	var tally api.Tally
	pieces := bytes.Split(stream, []byte{0x7e})
	for i, piece := range pieces {
		if i == 0 || i == len(pieces)-1 || len(piece) == 0 {
			continue
		}
		if body := judgeByWords(piece, m, wide, &tally); body != nil {
			l = append(l, body)
		}
	}
	return l, tally
}

func sameBodies(a, b [][]byte) bool {
	return slices.EqualFunc(a, b, bytes.Equal)
}

// inner is what a body's frame has between its flags.
func inner(body []byte, m uint32, wide bool) []byte {
	return stuffByWords(sealByWords(body, wide), m)
}

// flagged puts flags between the frames, one ahead and one behind.
func flagged(frames ...[]byte) []byte {
	b := []byte{0x7e}
	for _, f := range frames {
		b = append(append(b, f...), 0x7e)
	}
	return b
}

func checkAll(t *testing.T, stream []byte, m uint32, wide bool) {
	t.Helper()
	want, wantTally := allByWords(stream, m, wide)
	if got, tally := All(stream, m, wide); !sameBodies(got, want) || tally != wantTally {
		t.Errorf("All(%x, %x, %v): %x, %v and not %x, %v", brief(stream), m, wide, brief(bytes.Join(got, nil)), tally, brief(bytes.Join(want, nil)), wantTally)
	}
}

// brief keeps a failing test's words short.
func brief(b []byte) []byte {
	return b[:min(len(b), 40)]
}

func TestExample(t *testing.T) { // P7.1
	for _, wide := range bothWidths {
		stream := slices.Concat([]byte{0x7e}, inner([]byte{0xc0, 0x21}, 0, wide), []byte{0x7e, 0x7e})
		l, tally := All(stream, 0, wide)
		if !sameBodies(l, [][]byte{{0xc0, 0x21}}) || tally != (api.Tally{Good: 1}) {
			t.Errorf("wide %v: %x, %v", wide, l, tally)
		}
	}
}

func TestWhatIsNoFrame(t *testing.T) { // P7.1
	hi := inner([]byte("hi"), 0, false)
	for _, x := range []struct {
		stream []byte
		m      uint32
		want   int
	}{
		{nil, 0, 0}, {[]byte{}, all, 0},
		{[]byte{0x7e}, 0, 0}, {[]byte{0x7e, 0x7e}, 0, 0}, {bytes.Repeat([]byte{0x7e}, 9), 0, 0},
		// Without a flag, and with but one, nothing stands between two of them.
		{[]byte{1, 2, 3, 0x7d}, 0, 0}, {hi, 0, 0}, {append([]byte{0x7e}, hi...), 0, 0}, {append(bytes.Clone(hi), 0x7e), 0, 0}, {slices.Concat(hi, []byte{0x7e}, hi), 0, 0}, {[]byte{0x41, 0x7d, 0x7e, 0x7d}, 0, 0},
		// Ahead of the first flag and behind the last one stands no frame, whatever it is.
		{slices.Concat(hi, flagged(hi), hi), 0, 1}, {slices.Concat([]byte{0x7d}, flagged(hi), []byte{0x7d}), 0, 1}, {slices.Concat([]byte{9, 9}, flagged(hi), []byte{9}), 0, 1},
		{slices.Concat([]byte{0x7e, 0x7e, 0x7e}, hi, []byte{0x7e, 0x7e}, hi, []byte{0x7e, 0x7e, 0x7e}), 0, 2},
		// Characters of the map alone.
		{flagged([]byte{5}), 1 << 5, 0}, {flagged([]byte{5, 5, 5}, []byte{5}), 1 << 5, 0}, {flagged([]byte{0, 31, 17, 1}), all, 0}, {flagged(bytes.Repeat([]byte{17}, 300000)), 0x20000, 0},
		{flagged([]byte{5}, hi, []byte{5, 5}, hi), 1 << 5, 2},
	} {
		if l, tally := All(x.stream, x.m, false); len(l) != x.want || tally != (api.Tally{Good: x.want}) {
			t.Errorf("All(%x, %x): %x, %v", brief(x.stream), x.m, l, tally)
		}
	}
}

func TestKinds(t *testing.T) { // P7.1
	good, aborted, short, wrong := api.Tally{Good: 1}, api.Tally{Aborted: 1}, api.Tally{Short: 1}, api.Tally{Wrong: 1}
	for _, x := range []struct {
		frame []byte
		m     uint32
		wide  bool
		want  api.Tally
	}{
		// A byte below 20 that isn't in the map is one of a frame; so is one of 20 and above, by every map.
		{[]byte{5}, 0, false, short}, {[]byte{5}, all ^ 1<<5, false, short}, {[]byte{5, 6}, 1 << 5, false, short}, {[]byte{6, 5}, 1 << 5, false, short}, {[]byte{0x20}, all, false, short}, {[]byte{0x25}, all, true, short}, {[]byte{5, 0xff, 5}, all, false, short},
		{[]byte{0x41, 0x42, 0x43}, 0, false, short}, {[]byte{0x41, 0x42, 0x43, 0x44}, 0, false, wrong},
		{[]byte{0x41, 0x42, 0x43, 0x44, 0x45}, 0, true, short}, {[]byte{0x41, 0x42, 0x43, 0x44, 0x45, 0x46}, 0, true, wrong},
		// Bytes are counted unstuffed.
		{[]byte{0x7d, 0x5e, 0x7d, 0x5e, 0x7d, 0x5e}, 0, false, short}, {[]byte{0x7d, 0x5e, 0x7d, 0x5e, 0x7d, 0x5e, 0x7d, 0x5e}, 0, false, wrong},
		{[]byte{5, 0x41, 5, 0x42, 5, 0x43, 5}, 1 << 5, false, short}, {[]byte{5, 0x41, 5, 0x42, 5, 0x43, 5}, 0, false, wrong},
		// A check sequence of no bytes, and of one.
		{inner(nil, 0, false), 0, false, short}, {inner(nil, 0, true), 0, true, short}, {inner([]byte("A"), 0, false), 0, false, short}, {inner([]byte("A"), 0, true), 0, true, short},
		{inner([]byte("AB"), 0, false), 0, false, good}, {inner([]byte("AB"), 0, true), 0, true, good},
		{inner([]byte{0x7e, 0x7d}, all, false), all, false, good}, {inner([]byte{5, 6}, 0, false), 0, false, good}, {inner([]byte{5, 6}, all, true), 0, true, good},
		// Another map leaves other bytes out.
		{inner([]byte("A\x05BCD"), 0, false), 1 << 5, false, wrong}, {inner([]byte("A\x05"), 0, false), 1 << 5, false, short},
		// Another width.
		{inner([]byte("AB"), 0, false), 0, true, short}, {inner([]byte("ABCDEF"), 0, false), 0, true, wrong}, {inner([]byte("AB"), 0, true), 0, false, wrong},
		// Aborted, whatever else it is.
		{[]byte{0x7d}, 0, false, aborted}, {[]byte{0x7d}, all, true, aborted}, {[]byte{0x7d, 5}, 1 << 5, false, aborted}, {[]byte{5, 0x7d, 5, 5}, 1 << 5, false, aborted}, {[]byte{0x41, 0x7d}, 0, false, aborted}, {[]byte{0x7d, 0x7d, 0x7d}, 0, false, aborted},
		{append(inner([]byte("hi"), 0, false), 0x7d), 0, false, aborted}, {append(inner([]byte("hi"), 0, false), 0x7d, 5, 5), 1 << 5, false, aborted}, {[]byte("wrong bytes\x7d"), 0, false, aborted},
		{[]byte{0x7d, 0x7d}, 0, false, short}, {[]byte{0x7d, 5}, 0, false, short}, {[]byte{0x7d, 5, 0x5e}, 1 << 5, false, short},
	} {
		l, tally := All(flagged(x.frame), x.m, x.wide)
		if tally != x.want || len(l) != x.want.Good {
			t.Errorf("%x, by %x, wide %v: %v, %x", x.frame, x.m, x.wide, tally, l)
		}
		checkAll(t, flagged(x.frame), x.m, x.wide)
	}
}

func TestWrongCheckSequences(t *testing.T) { // P7.1
	for _, wide := range bothWidths {
		sealed := sealByWords([]byte("\xff\x03\xc0\x21\x01\x01\x00\x04"), wide)
		for at := range 8 * len(sealed) {
			turned := bytes.Clone(sealed)
			turned[at/8] ^= 1 << (at % 8)
			if l, tally := All(flagged(stuffByWords(turned, all)), all, wide); len(l) != 0 || tally != (api.Tally{Wrong: 1}) {
				t.Errorf("wide %v, bit %d: %x, %v", wide, at, l, tally)
			}
		}
	}
}

// manyBytes are n of them, each kind among them, flags and escapes too.
func manyBytes(n int) []byte {
	b := make([]byte, n)
	for i := range b {
		b[i] = byte(i ^ i>>8)
	}
	return b
}

func TestLongest(t *testing.T) { // P7.1
	for _, wide := range bothWidths {
		for _, m := range []uint32{0, 0xa0000, all} {
			for n, want := range map[int]api.Tally{longest - 1: {Good: 1}, longest: {Good: 1}, longest + 1: {Long: 1}, longest + 2: {Long: 1}} {
				for _, body := range [][]byte{manyBytes(n), bytes.Repeat([]byte{0x7e}, n), bytes.Repeat([]byte{0x41}, n), bytes.Repeat([]byte{17}, n)} {
					l, tally := All(flagged(inner(body, m, wide)), m, wide)
					if tally != want || len(l) != want.Good || want.Good == 1 && !bytes.Equal(l[0], body) {
						t.Errorf("%d bytes, by %x, wide %v: %v", n, m, wide, tally)
					}
				}
			}
		}
	}
}

// escaped puts a 7d ahead of every byte: a sender may stuff more than the map asks for.
func escaped(b []byte) []byte {
	var line []byte
	for _, c := range b {
		line = append(line, 0x7d, c^0x20)
	}
	return line
}

func TestEveryByteEscaped(t *testing.T) { // P7.1
	for _, wide := range bothWidths {
		for n, want := range map[int]api.Tally{2: {Good: 1}, longest - 1: {Good: 1}, longest: {Good: 1}, longest + 1: {Long: 1}} {
			for _, x := range []byte("ABCD") {
				body := bytes.Repeat([]byte{x}, n)
				line := escaped(sealByWords(body, wide))
				if bytes.IndexByte(line, 0x7e) >= 0 {
					continue
				}
				l, tally := All(flagged(line), 0, wide)
				if tally != want || len(l) != want.Good || want.Good == 1 && !bytes.Equal(l[0], body) {
					t.Errorf("%d bytes %x, wide %v: %v", n, x, wide, tally)
				}
			}
		}
	}
}

func TestLongIsToldAheadOfWrong(t *testing.T) { // P7.1
	for _, wide := range bothWidths {
		most := longest + sumSize(wide)
		for n, want := range map[int]api.Tally{most: {Wrong: 1}, most + 1: {Long: 1}, 2 * most: {Long: 1}} {
			for _, piece := range [][]byte{{0x41}, {0x7d, 0x5e}, {0x7d, 17, 17, 0x5e, 17}} {
				if l, tally := All(flagged(bytes.Repeat(piece, n)), 0x20000, wide); tally != want || len(l) != 0 {
					t.Errorf("%d times %x, wide %v: %v", n, piece, wide, tally)
				}
			}
		}
	}
}

func TestCharactersDoNotMakeLong(t *testing.T) { // P7.1
	for _, wide := range bothWidths {
		var line []byte
		for _, c := range inner(manyBytes(longest), 0x20000, wide) {
			line = append(line, 17, c, 17, 17)
		}
		if l, tally := All(flagged(line), 0x20000, wide); tally != (api.Tally{Good: 1}) || !sameBodies(l, [][]byte{manyBytes(longest)}) {
			t.Errorf("wide %v: %v", wide, tally)
		}
	}
}

// TestBeyondLong goes through lengths near each at which bytes are let go, with escapes at every turn.
func TestBeyondLong(t *testing.T) { // P7.1, P7.3
	hi := inner([]byte("hi"), 0, false)
	for _, wide := range bothWidths {
		room := 2*(longest+sumSize(wide)) + 1
		for _, whole := range []int{1, 2} {
			for near := -3; near <= 4; near++ {
				body := bytes.Repeat([]byte{0x41}, whole*room+near)
				for _, end := range [][]byte{nil, {0x7d}, {0x7d, 17}, {0x7d, 0x5e}, {0x7d, 17, 0x5e}, {0x7d, 0x7d}, {0x7d, 0x7d, 0x7d}, {0x7d, 0x7d, 17, 0x7d, 17}} {
					want := api.Tally{Long: 1}
					if _, ok := unstuffByWords(end, 0x20000); !ok {
						want = api.Tally{Aborted: 1}
					}
					l, tally := All(flagged(slices.Concat(body, end)), 0x20000, wide)
					if tally != want || len(l) != 0 {
						t.Errorf("%d bytes and %x, wide %v: %v", len(body), end, wide, tally)
					}
				}
			}
		}
		// What stands behind a long frame is a frame of its own.
		for _, n := range []int{room - 1, room, room + 1, 2 * room} {
			for _, x := range []byte{0x41, 0x7d} {
				checkAll(t, flagged(bytes.Repeat([]byte{x}, n), hi, []byte{0x41}, []byte{17}, hi, []byte{0x7d}), 0x20000, wide)
			}
		}
	}
}

// tokens are pieces of streams of which some row makes each kind of frame.
func tokens(m uint32, wide bool) [][]byte {
	sealed := inner([]byte{5, 0x41}, m, wide)
	return [][]byte{{0x7e}, {0x7d}, {5}, {6}, {0x41, 0x42, 0x43}, sealed, sealed[:2], sealed[2:], inner([]byte("hi"), m, !wide)}
}

// rows goes through every row of at most n tokens.
func rows(n int, of [][]byte, visit func(b []byte)) {
	var grow func(b []byte, n int)
	grow = func(b []byte, n int) {
		visit(b)
		if n == 0 {
			return
		}
		for _, x := range of {
			grow(append(slices.Clip(b), x...), n-1)
		}
	}
	grow(nil, n)
}

func TestEveryShortRow(t *testing.T) { // P7.1
	var sum api.Tally
	for _, wide := range bothWidths {
		for _, m := range []uint32{0, 1 << 5} {
			rows(4, tokens(m, wide), func(b []byte) {
				checkAll(t, b, m, wide)
				checkAll(t, flagged(b), m, wide)
				_, tally := All(flagged(b), m, wide)
				sum = api.Tally{Good: sum.Good + tally.Good, Aborted: sum.Aborted + tally.Aborted, Short: sum.Short + tally.Short, Wrong: sum.Wrong + tally.Wrong}
			})
		}
	}
	if sum.Good == 0 || sum.Aborted == 0 || sum.Short == 0 || sum.Wrong == 0 {
		t.Errorf("not each kind is there: %v", sum)
	}
}

func TestPut(t *testing.T) { // P7.2
	lcp := "\xff\x03\xc0\x21\x01\x01\x00\x04"
	for _, x := range []struct {
		body string
		m    uint32
		wide bool
		want string
	}{
		{lcp, 0, false, "\x7e\xff\x03\xc0\x21\x01\x01\x00\x04\xd1\xb5\x7e"},
		{lcp, 0, true, "\x7e\xff\x03\xc0\x21\x01\x01\x00\x04\x59\x12\xdb\x21\x7e"},
		{lcp, all, false, "\x7e\xff\x7d\x23\xc0\x21\x7d\x21\x7d\x21\x7d\x20\x7d\x24\xd1\xb5\x7e"},
		// The check sequence is stuffed, too, and is of the body as it was.
		{lcp, all, true, "\x7e\xff\x7d\x23\xc0\x21\x7d\x21\x7d\x21\x7d\x20\x7d\x24\x59\x7d\x32\xdb\x21\x7e"},
		{"123456789", 0, false, "\x7e123456789\x6e\x90\x7e"}, {"123456789", all, true, "\x7e123456789\x26\x39\xf4\xcb\x7e"},
	} {
		if got, e := Put([]byte(x.body), x.m, x.wide); string(got) != x.want || e != api.OK {
			t.Errorf("Put(%x, %x, %v): %x, %v", x.body, x.m, x.wide, got, e)
		}
	}
}

// someMaps holds the edges: no character, each alone, all of them, and some by chance.
func someMaps() []uint32 {
	l := []uint32{0, all, 0xa0000, 0x55555555}
	for c := range 32 {
		l = append(l, 1<<c)
	}
	r := rand.New(rand.NewSource(7))
	for range 10 {
		l = append(l, r.Uint32())
	}
	return l
}

// someBodies holds the edges and bodies by chance, of which many bytes are told apart.
func someBodies() [][]byte {
	l := [][]byte{{0, 0}, {0x7e, 0x7e}, {0x7d, 0x7d}, {0x7d, 0x5e}, {0xff, 0xff}, {17, 19}, []byte("hi"), []byte("yo!"), []byte("123456789"), manyBytes(256), manyBytes(1500)}
	r := rand.New(rand.NewSource(77))
	for range 30 {
		l = append(l, bodyByChance(r))
	}
	return l
}

func bodyByChance(r *rand.Rand) []byte {
	b := make([]byte, 2+r.Intn(20))
	for i := range b {
		switch r.Intn(3) {
		case 0:
			b[i] = byte(r.Intn(32))
		case 1:
			b[i] = byte(0x7c + r.Intn(4))
		default:
			b[i] = byte(r.Intn(256))
		}
	}
	return b
}

func TestPutByWords(t *testing.T) { // P7.2
	for _, wide := range bothWidths {
		for _, m := range someMaps() {
			for _, body := range someBodies() {
				if got, e := Put(body, m, wide); !bytes.Equal(got, flagged(inner(body, m, wide))) || e != api.OK {
					t.Errorf("Put(%x, %x, %v): %x, %v", body, m, wide, got, e)
				}
			}
		}
	}
}

func TestPutEdges(t *testing.T) { // P7.2, rule 3
	for _, wide := range bothWidths {
		for _, m := range []uint32{0, all} {
			for _, x := range []struct {
				body []byte
				want api.Errno
			}{
				{nil, api.ErrArg}, {[]byte{}, api.ErrArg}, {[]byte{0x41}, api.ErrArg}, {[]byte{0x7e}, api.ErrArg},
				{[]byte{0x41, 0x42}, api.OK}, {[]byte{0x41, 0x42, 0x43}, api.OK},
				{manyBytes(longest - 1), api.OK}, {manyBytes(longest), api.OK}, {manyBytes(longest + 1), api.ErrLong}, {manyBytes(3 * longest), api.ErrLong},
			} {
				var want []byte
				if x.want == api.OK {
					want = flagged(inner(x.body, m, wide))
				}
				if got, e := Put(x.body, m, wide); e != x.want || !bytes.Equal(got, want) {
					t.Errorf("Put of %d bytes, by %x, wide %v: %d bytes, %v", len(x.body), m, wide, len(got), e)
				}
			}
		}
	}
}

func TestRow(t *testing.T) { // P7.2
	for _, wide := range bothWidths {
		for _, m := range []uint32{0, 0xa0000, all} {
			want, bodies := []byte{0x7e}, [][]byte{}
			for _, body := range append(someBodies(), manyBytes(longest)) {
				if got, e := Row(bodies, m, wide); !bytes.Equal(got, want) || e != api.OK {
					t.Errorf("Row of %d, by %x, wide %v: %x, %v", len(bodies), m, wide, brief(got), e)
				}
				bodies = append(bodies, body)
				want = append(append(want, inner(body, m, wide)...), 0x7e)
			}
			if got, e := Row(bodies, m, wide); !bytes.Equal(got, want) || e != api.OK {
				t.Errorf("Row of all, by %x, wide %v: %x, %v", m, wide, brief(got), e)
			}
			if got, e := Row(nil, m, wide); !bytes.Equal(got, []byte{0x7e}) || e != api.OK {
				t.Errorf("Row of none, by %x, wide %v: %x, %v", m, wide, got, e)
			}
		}
	}
}

func TestRowOfOneIsPut(t *testing.T) { // P7.2
	for _, n := range []int{0, 1, 2, 3, 100, longest, longest + 1} {
		row, e := Row([][]byte{manyBytes(n)}, 0xa0000, false)
		if b, f := Put(manyBytes(n), 0xa0000, false); !bytes.Equal(row, b) || e != f {
			t.Errorf("of %d bytes: %v and %v", n, e, f)
		}
	}
}

func TestRowOfWrongBodies(t *testing.T) { // P7.2, rule 3
	fine, one, long := []byte("hi"), []byte("A"), manyBytes(longest+1)
	for _, x := range []struct {
		l    [][]byte
		want api.Errno
	}{
		{[][]byte{one}, api.ErrArg}, {[][]byte{nil}, api.ErrArg}, {[][]byte{{}}, api.ErrArg}, {[][]byte{long}, api.ErrLong},
		{[][]byte{fine, one}, api.ErrArg}, {[][]byte{one, fine}, api.ErrArg}, {[][]byte{fine, nil, fine}, api.ErrArg},
		{[][]byte{fine, long}, api.ErrLong}, {[][]byte{long, fine}, api.ErrLong}, {[][]byte{fine, fine, long, fine}, api.ErrLong},
		{[][]byte{one, long}, api.ErrArg}, {[][]byte{long, one}, api.ErrLong}, {[][]byte{fine, nil, long}, api.ErrArg}, {[][]byte{fine, long, nil, fine}, api.ErrLong},
	} {
		for _, wide := range bothWidths {
			if b, e := Row(x.l, 0, wide); e != x.want || len(b) != 0 {
				t.Errorf("%d bodies, the first of %d bytes: %d bytes, %v", len(x.l), len(x.l[0]), len(b), e)
			}
		}
	}
}

// checkChunks feeds a stream in chunks. Behind each, the bodies and the tally are those of the stream so far.
func checkChunks(t *testing.T, chunks [][]byte, m uint32, wide bool) {
	t.Helper()
	d := New(m, wide)
	if tally := d.Tally(); tally != (api.Tally{}) {
		t.Errorf("a new deframer has the tally %v", tally)
	}
	var stream []byte
	var got [][]byte
	for i, chunk := range chunks {
		stream = append(stream, chunk...)
		got = append(got, d.Feed(chunk)...)
		want, wantTally := allByWords(stream, m, wide)
		if !sameBodies(got, want) || d.Tally() != wantTally || d.Tally() != wantTally {
			t.Errorf("by %x, wide %v, behind chunk %d of %x: %x, %v and not %x, %v", m, wide, i, chunks, got, d.Tally(), want, wantTally)
			return
		}
	}
}

// someStreams holds frames of each kind, put behind one another in several ways.
func someStreams(m uint32, wide bool) [][]byte {
	hi, yo := inner([]byte("hi"), m, wide), inner([]byte("yo!\x7e\x05\x7d"), m, wide)
	bad := append(bytes.Clone(hi), 0x41)
	return [][]byte{
		nil, {0x7e}, {0x41, 0x41}, hi, flagged(hi), flagged(nil, hi, nil, nil),
		slices.Concat(yo, flagged(hi, yo, []byte{5}, bad), hi),
		slices.Concat([]byte{0x7d}, flagged([]byte{0x7d}, hi, []byte{0x7d, 5}, []byte{0x41}, yo, []byte{5, 5}, hi), []byte{0x7d}),
		slices.Concat(flagged(hi, bad), flagged(yo, []byte{1, 2}), hi, flagged(yo)),
	}
}

func TestByteByByte(t *testing.T) { // P7.1, P7.3
	for _, wide := range bothWidths {
		for _, m := range []uint32{0, 1 << 5, all} {
			for _, stream := range someStreams(m, wide) {
				bare, mixed := [][]byte{}, [][]byte{nil, {}}
				for _, c := range stream {
					bare = append(bare, []byte{c})
					mixed = append(mixed, []byte{c}, nil, []byte{})
				}
				checkChunks(t, bare, m, wide)
				checkChunks(t, mixed, m, wide)
			}
		}
	}
}

func TestEveryTwoCuts(t *testing.T) { // P7.1, P7.3
	for _, wide := range bothWidths {
		for _, m := range []uint32{0, 1 << 5} {
			for _, stream := range someStreams(m, wide) {
				for i := range len(stream) + 1 {
					for j := i; j <= len(stream); j++ {
						checkChunks(t, [][]byte{stream[:i], stream[i:j], stream[j:]}, m, wide)
					}
				}
			}
		}
	}
}

func TestChunksByChance(t *testing.T) { // P7.1, P7.3
	r := rand.New(rand.NewSource(73))
	for range 3000 {
		m, wide := r.Uint32(), r.Intn(2) == 0
		var stream []byte
		for range r.Intn(12) {
			of := tokens(m, wide)
			stream = append(stream, of[r.Intn(len(of))]...)
			if r.Intn(2) == 0 {
				stream = append(stream, 0x7e)
			}
		}
		checkChunks(t, cutByChance(stream, r), m, wide)
	}
}

func cutByChance(stream []byte, r *rand.Rand) [][]byte {
	var chunks [][]byte
	for len(stream) > 0 {
		n := r.Intn(min(len(stream), 6) + 1)
		chunks = append(chunks, stream[:n])
		stream = stream[n:]
	}
	return chunks
}

func TestGreatChunks(t *testing.T) { // P7.1, P7.3
	for _, wide := range bothWidths {
		stream := flagged(inner(manyBytes(longest), 0, wide), inner(manyBytes(longest+1), 0, wide), bytes.Repeat([]byte{0x7d}, 5*longest), inner([]byte("hi"), 0, wide), bytes.Repeat([]byte{0x41}, 5*longest))
		want, wantTally := allByWords(stream, 0, wide)
		if wantTally != (api.Tally{Good: 2, Long: 2, Aborted: 1}) {
			t.Errorf("not each kind is there: %v", wantTally)
		}
		for _, n := range []int{1, 7, 1000, 65536, len(stream)} {
			d := New(0, wide)
			var got [][]byte
			for chunk := range slices.Chunk(stream, n) {
				got = append(got, d.Feed(chunk)...)
			}
			if !sameBodies(got, want) || d.Tally() != wantTally {
				t.Errorf("wide %v, in chunks of %d: %d bodies, %v", wide, n, len(got), d.Tally())
			}
		}
	}
}

func TestFeedAnswersOnce(t *testing.T) { // P7.1
	hi := flagged(inner([]byte("hi"), 0, false))
	d := New(0, false)
	if l := d.Feed(hi[:len(hi)-1]); len(l) != 0 {
		t.Errorf("ahead of the second flag: %x", l)
	}
	if l := d.Feed(hi[len(hi)-1:]); !sameBodies(l, [][]byte{[]byte("hi")}) {
		t.Errorf("with the second flag: %x", l)
	}
	for range 3 {
		if l := d.Feed(nil); len(l) != 0 || d.Tally() != (api.Tally{Good: 1}) {
			t.Errorf("behind it: %x, %v", l, d.Tally())
		}
	}
	// The flag that ended the frame begins the next one.
	if l := d.Feed(hi[1:]); !sameBodies(l, [][]byte{[]byte("hi")}) || d.Tally() != (api.Tally{Good: 2}) {
		t.Errorf("one flag between two: %x, %v", l, d.Tally())
	}
}

func TestComesBack(t *testing.T) { // P7.3
	for _, wide := range bothWidths {
		for _, m := range someMaps() {
			bodies := someBodies()
			row, e := Row(bodies, m, wide)
			if e != api.OK {
				t.Fatal(e)
			}
			for _, ahead := range [][]byte{nil, {0}, {0x41, 0x42}, {0x7d}, {17, 0x7d, 17}, {0x5e}, row[1:4], manyBytes(100), bytes.Repeat([]byte{0x41}, 200000)} {
				ahead = bytes.ReplaceAll(ahead, []byte{0x7e}, nil)
				if got, tally := All(slices.Concat(ahead, row), m, wide); !sameBodies(got, bodies) || tally != (api.Tally{Good: len(bodies)}) {
					t.Errorf("by %x, wide %v, behind %x: %d bodies, %v", m, wide, brief(ahead), len(got), tally)
				}
			}
		}
	}
}

func TestPutComesBack(t *testing.T) { // P7.3
	for _, wide := range bothWidths {
		for _, m := range []uint32{0, 0xa0000, all} {
			var stream []byte
			bodies := append(someBodies(), manyBytes(2), manyBytes(longest))
			for _, body := range bodies {
				b, e := Put(body, m, wide)
				if l, tally := All(b, m, wide); e != api.OK || !sameBodies(l, [][]byte{body}) || tally != (api.Tally{Good: 1}) {
					t.Errorf("%x, by %x, wide %v, comes back as %x, %v", brief(body), m, wide, l, tally)
				}
				stream = append(stream, b...)
			}
			if l, tally := All(stream, m, wide); !sameBodies(l, bodies) || tally != (api.Tally{Good: len(bodies)}) {
				t.Errorf("by %x, wide %v: %d bodies, %v", m, wide, len(l), tally)
			}
		}
	}
}

// TestNeighboursStay holds that what isn't good is told by the tally alone: good ones beside it come as ever.
func TestNeighboursStay(t *testing.T) { // P7.3
	for _, wide := range bothWidths {
		hi, yo := inner([]byte("hi"), 0, wide), inner([]byte("yo!"), 0, wide)
		for _, x := range []struct {
			frame []byte
			want  api.Tally
		}{
			{nil, api.Tally{Good: 2}}, {[]byte{5, 5}, api.Tally{Good: 2}},
			{[]byte{0x41}, api.Tally{Good: 2, Short: 1}}, {[]byte{0x41, 0x7d, 5}, api.Tally{Good: 2, Aborted: 1}}, {[]byte("ABCDEFGH"), api.Tally{Good: 2, Wrong: 1}},
			{bytes.Repeat([]byte{0x41}, longest+5), api.Tally{Good: 2, Long: 1}}, {bytes.Repeat([]byte{0x41}, 4*longest), api.Tally{Good: 2, Long: 1}}, {append(bytes.Repeat([]byte{0x41}, 4*longest), 0x7d), api.Tally{Good: 2, Aborted: 1}},
		} {
			if l, tally := All(flagged(hi, x.frame, yo), 1<<5, wide); !sameBodies(l, [][]byte{[]byte("hi"), []byte("yo!")}) || tally != x.want {
				t.Errorf("wide %v, beside %x: %x, %v", wide, brief(x.frame), l, tally)
			}
		}
	}
}

// TestRoomIsBounded holds that no more is kept than a good frame may need, however long a stream goes on.
func TestRoomIsBounded(t *testing.T) { // LANGUAGE.md's rule on what is kept
	most := 2*(longest+4) + 2
	for name, piece := range map[string][]byte{"ahead of flags": manyBytes(0x7d), "bytes": {0x41}, "escapes": {0x7d}, "escaped bytes": {0x7d, 0x5e}, "characters": {17}, "characters and escapes": {17, 0x7d, 17}} {
		d := New(0x20000, true)
		if name != "ahead of flags" {
			d.Feed([]byte{0x7e, 0x7d})
		}
		for range 200 {
			d.Feed(bytes.Repeat(piece, 4000/len(piece)))
			if len(d.held) > most {
				t.Errorf("%s: %d bytes are held", name, len(d.held))
				break
			}
		}
		if name == "ahead of flags" && len(d.held) > 0 || name == "characters" && len(d.held) > 1 {
			t.Errorf("%s: %d bytes are held", name, len(d.held))
		}
	}
}

// fresh is a list with room behind its length, filled, so that a write there is seen.
func fresh(b []byte) []byte {
	room := bytes.Repeat([]byte{0x15}, len(b)+16)
	copy(room, b)
	return room[:len(b)]
}

// same asks whether two lists are alike, the room behind their lengths included.
func same(a, b []byte) bool {
	return bytes.Equal(a[:cap(a)], b[:cap(b)]) && len(a) == len(b)
}

// overwrite fills a list and the room behind its length.
func overwrite(b []byte) {
	b = b[:cap(b)]
	for i := range b {
		b[i] = 99
	}
}

func TestStreamsStay(t *testing.T) { // P7.4
	for _, wide := range bothWidths {
		for _, m := range []uint32{0, 1 << 5, all} {
			for _, stream := range someStreams(m, wide) {
				given, want := fresh(stream), fresh(stream)
				l, _ := All(given, m, wide)
				for _, body := range append(l, New(m, wide).Feed(given)...) {
					overwrite(body)
				}
				if !same(given, want) {
					t.Errorf("%x has become %x", want, given)
				}
			}
		}
	}
}

func TestBodiesStay(t *testing.T) { // P7.4
	for _, wide := range bothWidths {
		for _, m := range []uint32{0, all} {
			for _, body := range append(someBodies(), nil, []byte{1}, manyBytes(longest+1)) {
				given, want, other := fresh(body), fresh(body), fresh([]byte("hi"))
				list := append(make([][]byte, 0, 3), other, given, other)[:2]
				b, _ := Put(given, m, wide)
				row, _ := Row(list, m, wide)
				overwrite(b)
				overwrite(row)
				if !same(given, want) || !same(other, fresh([]byte("hi"))) {
					t.Errorf("%x has become %x", brief(want), brief(given))
				}
				if list = list[:3]; !same(list[0], other) || !same(list[1], given) || !same(list[2], other) {
					t.Errorf("the list of %x and others has become %x", brief(want), list)
				}
			}
		}
	}
}

func TestRoomIsNotHandedIn(t *testing.T) { // P7.4, rule 8
	stream := flagged(inner([]byte("hi"), 0, false))
	if l, tally := All(stream[:len(stream)-1], 0, false); len(l) != 0 || tally != (api.Tally{}) {
		t.Errorf("All goes by the room behind: %x, %v", l, tally)
	}
	if b, e := Put([]byte("hi")[:1], 0, false); len(b) != 0 || e != api.ErrArg {
		t.Errorf("Put goes by the room behind: %x, %v", b, e)
	}
	if b, e := Row([][]byte{[]byte("hi"), {1}}[:1], 0, false); !bytes.Equal(b, stream) || e != api.OK {
		t.Errorf("Row goes by the room behind: %x, %v", b, e)
	}
}

func TestChunksAreNotKept(t *testing.T) { // P7.4
	for _, wide := range bothWidths {
		for _, stream := range someStreams(1<<5, wide) {
			want, wantTally := allByWords(stream, 1<<5, wide)
			for n := 1; n <= 12; n++ {
				d := New(1<<5, wide)
				var got [][]byte
				buffer := fresh(make([]byte, n))
				for chunk := range slices.Chunk(stream, n) {
					copy(buffer, chunk)
					got = append(got, d.Feed(buffer[:len(chunk)])...)
					overwrite(buffer)
				}
				if !sameBodies(got, want) || d.Tally() != wantTally {
					t.Errorf("wide %v, chunks of %d: %x, %v and not %x, %v", wide, n, got, d.Tally(), want, wantTally)
				}
			}
		}
	}
}

func TestBodiesAreNew(t *testing.T) { // P7.4
	for _, wide := range bothWidths {
		bodies := someBodies()
		row, _ := Row(bodies, 0, wide)
		d := New(0, wide)
		// A frame is begun, so that the deframer holds some of it while answers are written over.
		l := d.Feed(append(bytes.Clone(row), row[1:3]...))
		for i := range l {
			if !bytes.Equal(l[i], bodies[i]) {
				t.Errorf("wide %v: body %d shares memory with one ahead", wide, i)
			}
			overwrite(l[i])
		}
		clear(l[:cap(l)])
		if again := d.Feed(row[3:]); !sameBodies(again, bodies) || d.Tally() != (api.Tally{Good: 2 * len(bodies)}) {
			t.Errorf("wide %v: a deframer shares memory with its answer: %v", wide, d.Tally())
		}
	}
}

func TestRowsAreNew(t *testing.T) { // P7.4
	for _, l := range [][][]byte{nil, {[]byte("hi")}, someBodies()} {
		first, _ := Row(l, 0, false)
		second, _ := Row(l, 0, false)
		want := bytes.Clone(first)
		overwrite(second)
		if third, _ := Row(l, 0, false); !bytes.Equal(first, want) || !bytes.Equal(third, want) {
			t.Errorf("a row of %d shares memory with another", len(l))
		}
		for i := range l {
			overwrite(l[i])
		}
		if !bytes.Equal(first, want) {
			t.Errorf("a row of %d hangs on what was handed in", len(l))
		}
	}
}

func TestTallyIsNew(t *testing.T) { // P7.4
	d := New(0, false)
	d.Feed(flagged(inner([]byte("hi"), 0, false), []byte{1}))
	tally := d.Tally()
	tally.Good, tally.Short = 9, 9
	if d.Tally() != (api.Tally{Good: 1, Short: 1}) {
		t.Error(d.Tally())
	}
	d.Feed(flagged(inner([]byte("hi"), 0, false)))
	if tally.Good != 9 || d.Tally() != (api.Tally{Good: 2, Short: 1}) {
		t.Error(tally, d.Tally())
	}
}

func TestDeframersAreApart(t *testing.T) { // rule 8
	narrow, wide, other := New(0, false), New(1<<5, true), New(0, false)
	a, b := flagged([]byte{5}, inner([]byte("ab"), 0, false)), flagged([]byte{5}, inner([]byte("cdef"), 0, true))
	var fromNarrow, fromWide [][]byte
	for i := range max(len(a), len(b)) {
		fromNarrow = append(fromNarrow, narrow.Feed(a[min(i, len(a)):min(i+1, len(a))])...)
		fromWide = append(fromWide, wide.Feed(b[min(i, len(b)):min(i+1, len(b))])...)
	}
	if !sameBodies(fromNarrow, [][]byte{[]byte("ab")}) || !sameBodies(fromWide, [][]byte{[]byte("cdef")}) {
		t.Errorf("%q, %q", fromNarrow, fromWide)
	}
	if narrow.Tally() != (api.Tally{Good: 1, Short: 1}) || wide.Tally() != (api.Tally{Good: 1}) || other.Tally() != (api.Tally{}) {
		t.Error(narrow.Tally(), wide.Tally(), other.Tally())
	}
}

func FuzzFrames(f *testing.F) { // P1, P7.1 to P7.4
	f.Add([]byte{9, 0x7e, 0x41, 0x7d, 0x7e}, []byte("hi"), uint32(0), false, int64(0))
	f.Add(flagged(inner([]byte("hi"), all, true), []byte{5}, []byte{0x7d, 5}), []byte{0x7e, 5}, all, true, int64(1))
	f.Add([]byte{}, []byte{1}, uint32(1<<5), true, int64(2))
	f.Fuzz(func(t *testing.T, stream, body []byte, m uint32, wide bool, seed int64) {
		kept, keptBody := bytes.Clone(stream), bytes.Clone(body)
		checkAll(t, stream, m, wide)
		r := rand.New(rand.NewSource(seed))
		checkChunks(t, cutByChance(stream[:min(len(stream), 300)], r), m, wide)
		b, e := Put(body, m, wide)
		if len(body) < 2 && e != api.ErrArg || len(body) > longest && e != api.ErrLong || e != api.OK && len(b) > 0 {
			t.Errorf("Put of %d bytes: %x, %v", len(body), brief(b), e)
		}
		if e == api.OK {
			ahead := bytes.ReplaceAll(stream, []byte{0x7e}, nil)
			if l, tally := All(slices.Concat(ahead, b), m, wide); !sameBodies(l, [][]byte{body}) || tally != (api.Tally{Good: 1}) {
				t.Errorf("%x, by %x, wide %v, comes back as %x, %v", body, m, wide, l, tally)
			}
			checkAll(t, slices.Concat(stream, b, stream), m, wide)
		}
		if !bytes.Equal(stream, kept) || !bytes.Equal(body, keptBody) {
			t.Error("what was handed in has changed")
		}
	})
}
