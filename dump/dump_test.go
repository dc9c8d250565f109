package dump

import (
	"bytes"
	"encoding/binary"
	"math"
	"math/rand"
	"slices"
	"testing"

	"umpire/api"
)

const (
	longest = 65535
	tooMany = longest + 1
)

// errByWords tells what is wrong with a note, as the chapter says it.
func errByWords(n api.Note) api.Errno {
	isMay := false
	switch n.Kind {
	case 1, 2:
		isMay = n.N == 0
	case 3, 4:
		isMay = n.N == 0 && len(n.Data) == 0
	case 5, 7:
		isMay = len(n.Data) == 0
	case 6:
		isMay = len(n.Data) == 0 && n.N < 256
	}
	switch {
	case !isMay:
		return api.ErrArg
	case len(n.Data) > 65535:
		return api.ErrLong
	}
	return api.OK
}

// noteByWords writes a right note down, by the library's order of bytes and not by octet.
func noteByWords(n api.Note) []byte {
	b := []byte{byte(n.Kind)}
	switch n.Kind {
	case 1, 2:
		return append(binary.BigEndian.AppendUint16(b, uint16(len(n.Data))), n.Data...)
	case 5, 7:
		return binary.BigEndian.AppendUint32(b, n.N)
	case 6:
		return append(b, byte(n.N))
	}
	return b
}

// dumpByWords writes notes down, or tells the first one's error.
func dumpByWords(l []api.Note) ([]byte, api.Errno) {
	var b []byte
	for _, n := range l {
		if e := errByWords(n); e != api.OK {
			return nil, e
		}
		b = append(b, noteByWords(n)...)
	}
	return b, api.OK
}

// nextByWords reads a note, as the chapter says it.
func nextByWords(b []byte) (api.Note, int, api.Errno) {
	if len(b) == 0 {
		return api.Note{}, 0, api.ErrEnd
	}
	n := api.Note{Kind: int(b[0])}
	size := 1
	switch {
	case b[0] == 0 || b[0] > 7:
		return api.Note{}, 0, api.ErrKind
	case b[0] <= 2:
		size = 3
		if len(b) >= 3 {
			size += int(binary.BigEndian.Uint16(b[1:]))
		}
	case b[0] == 6:
		size = 2
	case b[0] >= 5:
		size = 5
	}
	if len(b) < size {
		return api.Note{}, 0, api.ErrEnd
	}
	switch b[0] {
	case 1, 2:
		n.Data = b[3:size]
	case 5, 7:
		n.N = binary.BigEndian.Uint32(b[1:])
	case 6:
		n.N = uint32(b[1])
	}
	return n, size, api.OK
}

// readByWords reads a dump, as the chapter says it.
func readByWords(b []byte) ([]api.Note, api.Spot) {
	var l []api.Note
	rest := b
	for len(rest) > 0 {
		n, size, e := nextByWords(rest)
		if e != api.OK {
			return l, api.Spot{At: len(b) - len(rest), Err: e}
		}
		l = append(l, n)
		rest = rest[size:]
	}
	return l, api.Spot{}
}

func sameNote(a, b api.Note) bool {
	return a.Kind == b.Kind && a.N == b.N && bytes.Equal(a.Data, b.Data)
}

func sameNotes(a, b []api.Note) bool {
	return slices.EqualFunc(a, b, sameNote)
}

// isZero asks whether a note is Note{}.
func isZero(n api.Note) bool {
	return sameNote(n, api.Note{})
}

// checkBytes holds all that is read of b against the chapter's words, and what is read without a fault, put again,
// against b.
func checkBytes(t *testing.T, b []byte) {
	t.Helper()
	want, size, wantErr := nextByWords(b)
	if n, got, e := Next(b); !sameNote(n, want) || got != size || e != wantErr {
		t.Errorf("Next(%x): %v, %d, %d and not %v, %d, %d", b, n, got, e, want, size, wantErr)
	}
	wantNotes, wantSpot := readByWords(b)
	l, s := Read(b)
	if !sameNotes(l, wantNotes) || s != wantSpot {
		t.Errorf("Read(%x): %v, %v and not %v, %v", b, l, s, wantNotes, wantSpot)
	}
	// Ahead of the first fault, too, each note is told by just its bytes.
	right := b
	if s != (api.Spot{}) {
		right = b[:s.At]
	}
	if again, e := Put(l); !bytes.Equal(again, right) || e != api.OK {
		t.Errorf("%x, read and put again: %x, %d", right, again, e)
	}
}

// checkPut holds what is put against the chapter's words, and what is read of it against what was put.
func checkPut(t *testing.T, l []api.Note) {
	t.Helper()
	want, wantErr := dumpByWords(l)
	b, e := Put(l)
	if !bytes.Equal(b, want) || e != wantErr {
		t.Errorf("Put(%.200v): %.200x, %d and not %.200x, %d", l, b, e, want, wantErr)
	}
	if e != api.OK {
		return
	}
	if k, s := Read(b); !sameNotes(k, l) || s != (api.Spot{}) {
		t.Errorf("%.200v, put, is read as %.200v, %v", l, k, s)
	}
}

// someNotes are right ones of each Kind, with numbers whose bytes differ, and the edges of each.
func someNotes() []api.Note {
	return []api.Note{
		{Kind: api.DmTime, N: 0x01020304},
		{Kind: api.DmOut, Data: []byte{9, 8}},
		{Kind: api.DmShort, N: 9},
		{Kind: api.DmIn},
		{Kind: api.DmLong, N: 0xa0b0c0d0},
		{Kind: api.DmEnd},
		{Kind: api.DmEndIn},
		{Kind: api.DmOut},
		{Kind: api.DmIn, Data: bytes.Repeat([]byte{1, 2, 3}, 100)},
		{Kind: api.DmShort, N: 255},
		{Kind: api.DmShort},
		{Kind: api.DmLong},
		{Kind: api.DmTime},
		{Kind: api.DmLong, N: math.MaxUint32},
		{Kind: api.DmTime, N: math.MaxUint32},
		{Kind: api.DmIn, Data: []byte{0}},
	}
}

// notesThatMayNotBe has each way in which a note may not be.
func notesThatMayNotBe() []api.Note {
	l := []api.Note{
		{Kind: api.DmShort, N: 256}, {Kind: api.DmShort, N: 257}, {Kind: api.DmShort, N: 65536}, {Kind: api.DmShort, N: math.MaxUint32},
	}
	for _, kind := range []int{0, 8, 9, 255, 256, 257, 1<<32 + 1, -1, -2, -7, -255, math.MaxInt, math.MinInt, math.MinInt + 1} {
		l = append(l, api.Note{Kind: kind}, api.Note{Kind: kind, N: 1}, api.Note{Kind: kind, Data: []byte{1}})
	}
	for _, kind := range []int{api.DmOut, api.DmIn, api.DmEnd, api.DmEndIn} {
		for _, n := range []uint32{1, 2, 255, 256, 1 << 31, math.MaxUint32} {
			l = append(l, api.Note{Kind: kind, N: n}, api.Note{Kind: kind, N: n, Data: []byte{1, 2}})
		}
	}
	for _, kind := range []int{api.DmEnd, api.DmEndIn, api.DmLong, api.DmShort, api.DmTime} {
		l = append(l, api.Note{Kind: kind, Data: []byte{0}}, api.Note{Kind: kind, Data: []byte{1, 2}}, api.Note{Kind: kind, N: 3, Data: []byte{4}})
	}
	return l
}

func TestExample(t *testing.T) { // P10.1, P10.2
	b := []byte{1, 0, 2, 'a', 'b', 6, 9}
	l := []api.Note{{Kind: api.DmOut, Data: []byte("ab")}, {Kind: api.DmShort, N: 9}}
	if got, e := Put(l); !bytes.Equal(got, b) || e != api.OK {
		t.Errorf("Put: %v, %d", got, e)
	}
	if got, s := Read(b); !sameNotes(got, l) || s != (api.Spot{}) {
		t.Errorf("Read: %v, %v", got, s)
	}
	if n, size, e := Next(b); !sameNote(n, l[0]) || size != 5 || e != api.OK {
		t.Errorf("Next: %v, %d, %d", n, size, e)
	}
	if n, size, e := Next(b[5:]); !sameNote(n, l[1]) || size != 2 || e != api.OK {
		t.Errorf("Next: %v, %d, %d", n, size, e)
	}
}

// eachKind is a note of each Kind, and its bytes, written out.
var eachKind = []struct {
	note api.Note
	want []byte
}{
	{api.Note{Kind: 1, Data: []byte{0xd1, 0xd2, 0xd3}}, []byte{1, 0, 3, 0xd1, 0xd2, 0xd3}},
	{api.Note{Kind: 2, Data: []byte{0xd4}}, []byte{2, 0, 1, 0xd4}},
	{api.Note{Kind: 1}, []byte{1, 0, 0}},
	{api.Note{Kind: 2}, []byte{2, 0, 0}},
	{api.Note{Kind: 3}, []byte{3}},
	{api.Note{Kind: 4}, []byte{4}},
	{api.Note{Kind: 5, N: 0x01020304}, []byte{5, 1, 2, 3, 4}},
	{api.Note{Kind: 5, N: math.MaxUint32}, []byte{5, 255, 255, 255, 255}},
	{api.Note{Kind: 5, N: 256}, []byte{5, 0, 0, 1, 0}},
	{api.Note{Kind: 5}, []byte{5, 0, 0, 0, 0}},
	{api.Note{Kind: 6, N: 7}, []byte{6, 7}},
	{api.Note{Kind: 6, N: 255}, []byte{6, 255}},
	{api.Note{Kind: 6}, []byte{6, 0}},
	{api.Note{Kind: 7, N: 0x05060708}, []byte{7, 5, 6, 7, 8}},
	{api.Note{Kind: 7, N: math.MaxUint32}, []byte{7, 255, 255, 255, 255}},
	{api.Note{Kind: 7}, []byte{7, 0, 0, 0, 0}},
}

func TestEachKind(t *testing.T) { // P10.1, P10.2, P10.3
	var every []api.Note
	var bytesOfAll []byte
	for _, x := range eachKind {
		if b, e := Put([]api.Note{x.note}); !bytes.Equal(b, x.want) || e != api.OK {
			t.Errorf("Put(%v): %v, %d", x.note, b, e)
		}
		if n, size, e := Next(x.want); !sameNote(n, x.note) || size != len(x.want) || e != api.OK {
			t.Errorf("Next(%v): %v, %d, %d", x.want, n, size, e)
		}
		if l, s := Read(x.want); !sameNotes(l, []api.Note{x.note}) || s != (api.Spot{}) {
			t.Errorf("Read(%v): %v, %v", x.want, l, s)
		}
		every = append(every, x.note)
		bytesOfAll = append(bytesOfAll, x.want...)
	}
	if b, e := Put(every); !bytes.Equal(b, bytesOfAll) || e != api.OK {
		t.Errorf("Put of all: %v, %d", b, e)
	}
	if l, s := Read(bytesOfAll); !sameNotes(l, every) || s != (api.Spot{}) {
		t.Errorf("Read of all: %v, %v", l, s)
	}
}

func TestPutOfNoNotes(t *testing.T) { // P10.1
	for _, none := range [][]api.Note{nil, {}} {
		if b, e := Put(none); len(b) != 0 || e != api.OK {
			t.Errorf("Put of no notes: %v, %d", b, e)
		}
	}
}

func TestPut(t *testing.T) { // P10.1, P10.3
	every := someNotes()
	for n := range len(every) + 1 {
		checkPut(t, every[:n])
		checkPut(t, every[n:])
	}
	for _, a := range every {
		for _, b := range every {
			checkPut(t, []api.Note{a, b})
		}
	}
}

// TestEmptyDataIsNone holds that an empty list of Data is as none, for Kinds with Data and without.
func TestEmptyDataIsNone(t *testing.T) { // P10.1, rule 5
	for kind := api.DmOut; kind <= api.DmTime; kind++ {
		want, _ := dumpByWords([]api.Note{{Kind: kind}})
		for _, none := range [][]byte{nil, {}, make([]byte, 0, 9)} {
			if b, e := Put([]api.Note{{Kind: kind, Data: none}}); !bytes.Equal(b, want) || e != api.OK {
				t.Errorf("Put of the Kind %d with empty Data: %v, %d", kind, b, e)
			}
		}
	}
}

func TestEveryShortNumber(t *testing.T) { // P10.1, P10.2, P10.3
	for n := range uint32(256) {
		checkPut(t, []api.Note{{Kind: api.DmShort, N: n}})
	}
	for n := uint32(256); n < 70000; n++ {
		if b, e := Put([]api.Note{{Kind: api.DmShort, N: n}}); len(b) != 0 || e != api.ErrArg {
			t.Fatalf("Put of DmShort with %d: %v, %d", n, b, e)
		}
	}
}

func TestLongNumbers(t *testing.T) { // P10.1, P10.2, P10.3
	for _, kind := range []int{api.DmLong, api.DmTime} {
		for bit := range 32 {
			for _, n := range []uint32{1 << bit, 1<<bit - 1, 1<<bit + 1, ^uint32(1 << bit)} {
				checkPut(t, []api.Note{{Kind: kind, N: n}})
			}
		}
	}
}

func TestLengthsOfData(t *testing.T) { // P10.1, P10.2, P10.3
	for _, kind := range []int{api.DmOut, api.DmIn} {
		for _, size := range []int{0, 1, 2, 254, 255, 256, 257, 511, 512, 32767, 32768, 65280, longest - 1, longest} {
			n := api.Note{Kind: kind, Data: bytes.Repeat([]byte{0xe7}, size)}
			checkPut(t, []api.Note{n})
			checkPut(t, []api.Note{n, {Kind: api.DmShort, N: 4}, n})
			head := []byte{byte(kind), byte(size >> 8), byte(size)}
			if b, e := Put([]api.Note{n}); !bytes.Equal(b, append(head, n.Data...)) || e != api.OK {
				t.Errorf("Put of %d bytes: %d bytes, %d", size, len(b), e)
			}
		}
	}
}

// TestTooLong puts a note that is too long at each place among right ones.
func TestTooLong(t *testing.T) { // P10.1
	every := someNotes()
	for _, kind := range []int{api.DmOut, api.DmIn} {
		for _, size := range []int{tooMany, tooMany + 1, 2 * tooMany, 1 << 20, 1 << 24} {
			long := api.Note{Kind: kind, Data: make([]byte, size)}
			for at := range len(every) + 1 {
				if b, e := Put(slices.Insert(slices.Clone(every), at, long)); len(b) != 0 || e != api.ErrLong {
					t.Errorf("Put with %d bytes at %d: %d bytes, %d", size, at, len(b), e)
				}
			}
		}
	}
}

// TestNotesThatMayNotBe puts each of them alone and at each place among right ones.
func TestNotesThatMayNotBe(t *testing.T) { // P10.1
	every := someNotes()
	for _, n := range notesThatMayNotBe() {
		for at := range len(every) + 1 {
			if b, e := Put(slices.Insert(slices.Clone(every), at, n)); len(b) != 0 || e != api.ErrArg {
				t.Errorf("Put with %v at %d: %v, %d", n, at, b, e)
			}
		}
		if b, e := Put([]api.Note{n}); len(b) != 0 || e != api.ErrArg {
			t.Errorf("Put of %v: %v, %d", n, b, e)
		}
	}
}

// TestMayNotBeAndTooLong holds that of both it is ErrArg that is told.
func TestMayNotBeAndTooLong(t *testing.T) { // P10.1
	for _, n := range notesThatMayNotBe() {
		n.Data = make([]byte, tooMany)
		if b, e := Put([]api.Note{{Kind: api.DmEnd}, n}); len(b) != 0 || e != api.ErrArg {
			t.Errorf("Put of the Kind %d with %d and too many bytes: %d bytes, %d", n.Kind, n.N, len(b), e)
		}
	}
	for _, kind := range []int{api.DmEnd, api.DmEndIn, api.DmLong, api.DmShort, api.DmTime} {
		for _, size := range []int{longest, tooMany} {
			if b, e := Put([]api.Note{{Kind: kind, Data: make([]byte, size)}}); len(b) != 0 || e != api.ErrArg {
				t.Errorf("Put of the Kind %d with %d bytes: %d bytes, %d", kind, size, len(b), e)
			}
		}
	}
}

func TestTheFirstNotesError(t *testing.T) { // P10.1
	long := api.Note{Kind: api.DmOut, Data: make([]byte, tooMany)}
	right := api.Note{Kind: api.DmEnd}
	for _, wrong := range notesThatMayNotBe() {
		for _, x := range []struct {
			l    []api.Note
			want api.Errno
		}{
			{[]api.Note{wrong, long}, api.ErrArg}, {[]api.Note{long, wrong}, api.ErrLong},
			{[]api.Note{right, wrong, right, long}, api.ErrArg}, {[]api.Note{right, long, right, wrong}, api.ErrLong},
		} {
			if b, e := Put(x.l); len(b) != 0 || e != x.want {
				t.Errorf("Put with %v: %d bytes, %d and not %d", wrong, len(b), e, x.want)
			}
		}
	}
}

func TestOfNoBytes(t *testing.T) { // P10.2
	for _, none := range [][]byte{nil, {}} {
		if n, size, e := Next(none); !isZero(n) || size != 0 || e != api.ErrEnd {
			t.Errorf("Next of no bytes: %v, %d, %d", n, size, e)
		}
		if l, s := Read(none); len(l) != 0 || s != (api.Spot{}) {
			t.Errorf("Read of no bytes: %v, %v", l, s)
		}
	}
}

func TestNoKind(t *testing.T) { // P10.2
	for c := range 256 {
		if 1 <= c && c <= 7 {
			continue
		}
		for _, behind := range [][]byte{nil, {0}, {3}, {0, 0, 0, 0}, {1, 0, 0}, make([]byte, 300), bytes.Repeat([]byte{255}, 70000)} {
			b := append([]byte{byte(c)}, behind...)
			if n, size, e := Next(b); !isZero(n) || size != 0 || e != api.ErrKind {
				t.Errorf("Next of %d with %d bytes behind: %v, %d, %d", c, len(behind), n, size, e)
			}
			if l, s := Read(b); len(l) != 0 || s != (api.Spot{Err: api.ErrKind}) {
				t.Errorf("Read of %d with %d bytes behind: %v, %v", c, len(behind), l, s)
			}
		}
	}
}

// TestEarlyEnd cuts each note off at each place.
func TestEarlyEnd(t *testing.T) { // P10.2
	for _, want := range someNotes() {
		b := noteByWords(want)
		for n := range b {
			if got, size, e := Next(b[:n]); !isZero(got) || size != 0 || e != api.ErrEnd {
				t.Errorf("Next of %d bytes of %v: %v, %d, %d", n, want, got, size, e)
			}
		}
		if got, size, e := Next(b); !sameNote(got, want) || size != len(b) || e != api.OK {
			t.Errorf("Next of %v: %v, %d, %d", want, got, size, e)
		}
	}
}

// TestCounts holds counts of Data against how many bytes are there.
func TestCounts(t *testing.T) { // P10.2
	for _, kind := range []byte{api.DmOut, api.DmIn} {
		for _, count := range []int{1, 2, 255, 256, 257, 32768, longest - 1, longest} {
			head := []byte{kind, byte(count >> 8), byte(count)}
			for _, there := range []int{0, count / 2, count - 1} {
				if n, size, e := Next(append(head, make([]byte, there)...)); !isZero(n) || size != 0 || e != api.ErrEnd {
					t.Errorf("Next of a count of %d, with %d bytes: %d bytes, %d, %d", count, there, len(n.Data), size, e)
				}
			}
			data := bytes.Repeat([]byte{6}, count)
			want := api.Note{Kind: int(kind), Data: data}
			for _, behind := range []int{0, 1, 1000} {
				if n, size, e := Next(slices.Concat(head, data, make([]byte, behind))); !sameNote(n, want) || size != 3+count || e != api.OK {
					t.Errorf("Next of a count of %d, with %d bytes behind: %d bytes, %d, %d", count, behind, len(n.Data), size, e)
				}
			}
		}
	}
}

func TestBytesBehind(t *testing.T) { // P10.2
	for _, want := range someNotes() {
		b := noteByWords(want)
		for _, behind := range [][]byte{{0}, {1}, {3}, {8}, {255}, make([]byte, 16), bytes.Repeat([]byte{7}, 400)} {
			if n, size, e := Next(slices.Concat(b, behind)); !sameNote(n, want) || size != len(b) || e != api.OK {
				t.Errorf("Next(%x) with %x behind: %v, %d, %d", b, behind, n, size, e)
			}
		}
	}
}

// TestReadOfEachPiece cuts a dump off at each of its bytes: what is ahead of the note that is cut is read.
func TestReadOfEachPiece(t *testing.T) { // P10.2
	every := someNotes()
	b, _ := dumpByWords(every)
	starts := []int{0}
	for _, n := range every {
		starts = append(starts, starts[len(starts)-1]+len(noteByWords(n)))
	}
	for n := range len(b) + 1 {
		whole := 0
		for whole < len(every) && starts[whole+1] <= n {
			whole++
		}
		want := api.Spot{At: starts[whole], Err: api.ErrEnd}
		if starts[whole] == n {
			want = api.Spot{}
		}
		if l, s := Read(b[:n]); !sameNotes(l, every[:whole]) || s != want {
			t.Fatalf("Read of %d bytes: %d notes, %v", n, len(l), s)
		}
	}
}

func TestReadUpToTheFirstFault(t *testing.T) { // P10.2
	every := someNotes()
	for n := range len(every) + 1 {
		ahead, _ := dumpByWords(every[:n])
		for _, x := range []struct {
			behind []byte
			want   api.Errno
		}{
			{[]byte{0}, api.ErrKind}, {[]byte{8}, api.ErrKind}, {[]byte{255, 3, 4}, api.ErrKind}, {[]byte{0, 1, 0, 0}, api.ErrKind},
			{[]byte{1}, api.ErrEnd}, {[]byte{2, 0}, api.ErrEnd}, {[]byte{1, 0, 1}, api.ErrEnd}, {[]byte{2, 1, 0, 3, 4}, api.ErrEnd},
			{[]byte{5}, api.ErrEnd}, {[]byte{5, 1, 2, 3}, api.ErrEnd}, {[]byte{6}, api.ErrEnd}, {[]byte{7, 0, 0, 0}, api.ErrEnd},
			// Of two faults the first one is told.
			{[]byte{0, 1}, api.ErrKind}, {[]byte{1, 0, 9, 0, 8}, api.ErrEnd},
		} {
			l, s := Read(slices.Concat(ahead, x.behind))
			if !sameNotes(l, every[:n]) || s != (api.Spot{At: len(ahead), Err: x.want}) {
				t.Errorf("Read of %d notes with %v behind: %d notes, %v", n, x.behind, len(l), s)
			}
		}
	}
}

// TestEveryShortList goes through all lists of up to six bytes that are of a few kinds.
func TestEveryShortList(t *testing.T) { // P1, P10.2, P10.3
	var grow func(b []byte)
	grow = func(b []byte) {
		checkBytes(t, b)
		if len(b) == 6 || t.Failed() {
			return
		}
		for _, c := range []byte{0, 1, 2, 3, 4, 5, 6, 7, 8} {
			grow(append(slices.Clip(b), c))
		}
	}
	grow(nil)
}

func TestEveryPairOfBytes(t *testing.T) { // P1, P10.2, P10.3
	for a := range 256 {
		checkBytes(t, []byte{byte(a)})
		for b := range 256 {
			checkBytes(t, []byte{byte(a), byte(b)})
			checkBytes(t, []byte{byte(a), byte(b), 0})
		}
	}
}

func bytesByChance(r *rand.Rand, n int) []byte {
	b := make([]byte, n)
	r.Read(b)
	return b
}

// noteByChance is mostly a right one.
func noteByChance(r *rand.Rand) api.Note {
	n := api.Note{Kind: 1 + r.Intn(7)}
	switch n.Kind {
	case 1, 2:
		n.Data = bytesByChance(r, r.Intn(300))
	case 5, 7:
		n.N = r.Uint32() >> r.Intn(32)
	case 6:
		n.N = r.Uint32() % 256
	}
	if r.Intn(40) != 0 {
		return n
	}
	switch r.Intn(3) {
	case 0:
		n.Kind = r.Intn(20) - 5
	case 1:
		n.N = r.Uint32() >> r.Intn(32)
	case 2:
		n.Data = bytesByChance(r, tooMany-2+r.Intn(4))
	}
	return n
}

func TestNotesByChance(t *testing.T) { // P10.1, P10.3
	r := rand.New(rand.NewSource(101))
	for range 5000 {
		var l []api.Note
		for range r.Intn(8) {
			l = append(l, noteByChance(r))
		}
		checkPut(t, l)
	}
}

func TestBytesByChance(t *testing.T) { // P10.2, P10.3
	r := rand.New(rand.NewSource(10))
	for range 20000 {
		var b []byte
		for range r.Intn(8) {
			n := noteByChance(r)
			n.Data = n.Data[:min(len(n.Data), 300)]
			b = append(b, noteByWords(n)...)
		}
		if len(b) > 0 && r.Intn(4) == 0 {
			b[r.Intn(len(b))] ^= 1 << r.Intn(8)
		}
		if r.Intn(4) == 0 {
			b = b[:r.Intn(len(b)+1)]
		}
		checkBytes(t, b)
	}
}

// TestManyNotes holds that the time goes up with the number of notes, not with its square.
func TestManyNotes(t *testing.T) { // P1, P10.1, P10.2, P10.3
	l := make([]api.Note, 300000)
	for i := range l {
		l[i] = api.Note{Kind: api.DmLong, N: uint32(i)}
	}
	checkPut(t, l)
}

// fresh is a list with room behind its length, filled, so that a write there is seen.
func fresh(b []byte) []byte {
	room := bytes.Repeat([]byte{0x15}, len(b)+16)
	copy(room, b)
	return room[:len(b)]
}

// freshNotes is a list of notes, and of their Data, with room behind the length of each.
func freshNotes(l []api.Note) []api.Note {
	room := make([]api.Note, len(l)+3)
	for i := range room {
		room[i] = api.Note{Kind: 15, N: 15, Data: fresh([]byte{15})}
		if i < len(l) {
			room[i] = l[i]
			room[i].Data = fresh(l[i].Data)
		}
	}
	return room[:len(l)]
}

// sameRoom compares two lists, and the room behind the length of each, and of each note's Data.
func sameRoom(a, b []api.Note) bool {
	return slices.EqualFunc(a[:cap(a)], b[:cap(b)], func(x, y api.Note) bool {
		return sameNote(x, y) && bytes.Equal(x.Data[:cap(x.Data)], y.Data[:cap(y.Data)])
	})
}

// overwrite fills a list and the room behind its length.
func overwrite(b []byte) {
	b = b[:cap(b)]
	for i := range b {
		b[i] = 99
	}
}

// overwriteNotes fills all notes' Data and the notes, and the room behind their length.
func overwriteNotes(l []api.Note) {
	l = l[:cap(l)]
	for i := range l {
		overwrite(l[i].Data)
		l[i] = api.Note{Kind: 99, N: 99, Data: []byte{99}}
	}
}

func cloneNotes(l []api.Note) []api.Note {
	out := slices.Clone(l)
	for i := range out {
		out[i].Data = bytes.Clone(out[i].Data)
	}
	return out
}

// someDumps are right ones, and wrong ones, among them some with notes ahead of the fault.
func someDumps() [][]byte {
	b, _ := dumpByWords(someNotes())
	l := [][]byte{b, b[:len(b)-1], b[:7], b[:9], b[:3], append(bytes.Clone(b), 0), append(bytes.Clone(b), 1, 2, 3), append([]byte{8}, b...), nil, {}}
	for _, n := range someNotes() {
		l = append(l, noteByWords(n))
	}
	return l
}

func TestHandedInStays(t *testing.T) { // P10.4
	for _, b := range someDumps() {
		given, want := fresh(b), fresh(b)
		l, _ := Read(given)
		overwriteNotes(l)
		for at := range given {
			n, _, _ := Next(given[at:])
			overwrite(n.Data)
		}
		if !bytes.Equal(given[:cap(given)], want[:cap(want)]) {
			t.Errorf("%x has become %x", want, given[:cap(given)])
		}
	}
}

func TestNotesHandedInStay(t *testing.T) { // P10.4
	long := api.Note{Kind: api.DmOut, Data: make([]byte, tooMany)}
	lists := [][]api.Note{nil, someNotes(), someNotes()[:2], {{Kind: 3}, long}, {long}, append(someNotes(), api.Note{})}
	for _, n := range someNotes() {
		lists = append(lists, []api.Note{n})
	}
	for i, l := range lists {
		given, want := freshNotes(l), freshNotes(l)
		b, _ := Put(given)
		overwrite(b)
		if !sameRoom(given, want) {
			t.Errorf("Put of list %d has changed its notes", i)
		}
	}
}

func TestRoomIsNotHandedIn(t *testing.T) { // P10.4, rule 8
	b, _ := dumpByWords(someNotes())
	for n := range b {
		tight := slices.Clip(bytes.Clone(b[:n]))
		want, wantSpot := Read(tight)
		if l, s := Read(b[:n]); !sameNotes(l, want) || s != wantSpot {
			t.Fatalf("Read of %d bytes goes by the room behind: %v", n, s)
		}
	}
	every := someNotes()
	for n := range every {
		want, _ := dumpByWords(slices.Clip(every[:n]))
		if b, _ := Put(every[:n]); !bytes.Equal(b, want) {
			t.Errorf("Put of %d notes goes by the room behind", n)
		}
	}
	// Data with room behind its length is as long as its length.
	if b, e := Put([]api.Note{{Kind: api.DmIn, Data: make([]byte, longest, 2*tooMany)}}); len(b) != 3+longest || e != api.OK {
		t.Errorf("Put goes by the room behind Data: %d bytes, %d", len(b), e)
	}
	if b, e := Put([]api.Note{{Kind: api.DmEnd, Data: make([]byte, 0, 5)}}); len(b) != 1 || e != api.OK {
		t.Errorf("Put goes by the room behind no Data: %v, %d", b, e)
	}
}

func TestNotesReadAreNew(t *testing.T) { // P10.4
	for _, b := range someDumps() {
		given := fresh(b)
		first, _ := Read(given)
		want := cloneNotes(first)
		second, _ := Read(given)
		overwriteNotes(second)
		if !sameNotes(first, want) {
			t.Errorf("Read(%x) shares memory with another answer", b)
		}
		overwrite(given)
		if !sameNotes(first, want) {
			t.Errorf("Read(%x) shares memory with what was handed in", b)
		}
	}
}

// TestDataOfOneAnswerIsApart writes into each note's Data, and into the room behind it, and looks at all others.
func TestDataOfOneAnswerIsApart(t *testing.T) { // P10.4
	b, _ := dumpByWords(someNotes())
	for i := range someNotes() {
		l, _ := Read(b)
		overwrite(l[i].Data)
		for j, want := range someNotes() {
			if j != i && !sameNote(l[j], want) {
				t.Errorf("note %d shares memory with note %d", j, i)
			}
		}
	}
}

func TestNextIsNew(t *testing.T) { // P10.4
	for _, kind := range []int{api.DmOut, api.DmIn} {
		want := api.Note{Kind: kind, Data: []byte("abc")}
		given := fresh(append(noteByWords(want), 7, 8))
		first, _, _ := Next(given)
		second, _, _ := Next(given)
		overwrite(second.Data)
		if !sameNote(first, want) {
			t.Error("Next shares memory with another answer")
		}
		overwrite(given)
		if !sameNote(first, want) {
			t.Error("Next shares memory with what was handed in")
		}
	}
}

func TestBytesPutAreNew(t *testing.T) { // P10.4
	lists := [][]api.Note{nil, someNotes()}
	for _, n := range someNotes() {
		lists = append(lists, []api.Note{n})
	}
	for i, l := range lists {
		want, _ := dumpByWords(l)
		given := freshNotes(l)
		first, _ := Put(given)
		second, _ := Put(given)
		overwrite(second)
		if !bytes.Equal(first, want) {
			t.Errorf("Put of list %d shares memory with another answer", i)
		}
		overwriteNotes(given)
		if !bytes.Equal(first, want) {
			t.Errorf("Put of list %d shares memory with what was handed in", i)
		}
		overwrite(first)
		if third, _ := Put(l); !bytes.Equal(third, want) {
			t.Errorf("Put of list %d answers %x behind a write into its answer", i, third)
		}
	}
}

func TestNothingIsKept(t *testing.T) { // rule 8
	b, _ := dumpByWords(someNotes())
	other, _ := dumpByWords(someNotes()[3:])
	for range 3 {
		Read(other[1:])
		Next(other)
		Next([]byte{0})
		Put([]api.Note{{Kind: api.DmOut, Data: make([]byte, tooMany)}})
		if l, s := Read(b); !sameNotes(l, someNotes()) || s != (api.Spot{}) {
			t.Errorf("Read answers unlike the one ahead: %v, %v", l, s)
		}
		if again, e := Put(someNotes()); !bytes.Equal(again, b) || e != api.OK {
			t.Errorf("Put answers unlike the one ahead: %x, %d", again, e)
		}
	}
}

func FuzzDumps(f *testing.F) { // P1, P10.1 to P10.4
	for _, b := range someDumps() {
		f.Add(b, 1, uint32(0))
	}
	f.Add([]byte{}, api.DmShort, uint32(256))
	f.Add([]byte{1, 255, 255, 0}, math.MinInt, uint32(math.MaxUint32))
	f.Fuzz(func(t *testing.T, b []byte, kind int, n uint32) {
		kept := bytes.Clone(b)
		checkBytes(t, b)
		checkPut(t, []api.Note{{Kind: kind, N: n, Data: b}, {Kind: kind, N: n}})
		checkPut(t, []api.Note{{Kind: api.DmIn, Data: b}, {Kind: api.DmTime, N: n}, {Kind: kind}, {Kind: api.DmShort, N: n}})
		if !bytes.Equal(b, kept) {
			t.Error("what was handed in has changed")
		}
	})
}
