package pcap

import (
	"bytes"
	"encoding/binary"
	"math/rand"
	"slices"
	"testing"

	"umpire/api"
)

const tooMany = api.MaxRecord + 1

// forms are the four ways in which a capture tells its order of bytes and what times are of, with the marks as the
// chapter spells them.
var forms = []struct {
	big, nano bool
	mark      []byte
	version   []byte
}{
	{true, false, []byte{0xa1, 0xb2, 0xc3, 0xd4}, []byte{0, 2, 0, 4}},
	{true, true, []byte{0xa1, 0xb2, 0x3c, 0x4d}, []byte{0, 2, 0, 4}},
	{false, false, []byte{0xd4, 0xc3, 0xb2, 0xa1}, []byte{2, 0, 4, 0}},
	{false, true, []byte{0x4d, 0x3c, 0xb2, 0xa1}, []byte{2, 0, 4, 0}},
}

// order is the library's order of bytes: the tests read and write by it, not by octet.
func order(big bool) interface {
	binary.ByteOrder
	binary.AppendByteOrder
} {
	if big {
		return binary.BigEndian
	}
	return binary.LittleEndian
}

// headByWords writes a header down.
func headByWords(m api.Meta) []byte {
	for _, x := range forms {
		if x.big == m.Big && x.nano == m.Nano {
			b := slices.Concat(x.mark, x.version, make([]byte, 8))
			return order(m.Big).AppendUint32(order(m.Big).AppendUint32(b, m.Snap), m.Link)
		}
	}
	return nil
}

// recordByWords writes a record down, of a count that may be another one than the number of its bytes.
func recordByWords(r api.Record, big bool, count int) []byte {
	var b []byte
	for _, n := range []uint32{r.Sec, r.Frac, uint32(count), r.Len} {
		b = order(big).AppendUint32(b, n)
	}
	return append(b, r.Data...)
}

// captureByWords writes a capture down.
func captureByWords(m api.Meta, l []api.Record) []byte {
	b := headByWords(m)
	for _, r := range l {
		b = append(b, recordByWords(r, m.Big, len(r.Data))...)
	}
	return b
}

// metaByWords reads a header, as the chapter says it.
func metaByWords(b []byte) (api.Meta, api.Errno) {
	if len(b) < 4 {
		return api.Meta{}, api.ErrEnd
	}
	for _, x := range forms {
		if !bytes.Equal(b[:4], x.mark) {
			continue
		}
		if len(b) < 24 {
			return api.Meta{}, api.ErrEnd
		}
		if !bytes.Equal(b[4:6], x.version[:2]) {
			return api.Meta{}, api.ErrForm
		}
		o := order(x.big)
		return api.Meta{Big: x.big, Nano: x.nano, Snap: o.Uint32(b[16:]), Link: o.Uint32(b[20:])}, api.OK
	}
	return api.Meta{}, api.ErrForm
}

// nextByWords reads a record, as the chapter says it.
func nextByWords(b []byte, big bool) (api.Record, int, api.Errno) {
	if len(b) < 16 {
		return api.Record{}, 0, api.ErrEnd
	}
	o := order(big)
	count := int64(o.Uint32(b[8:]))
	if count > 131072 {
		return api.Record{}, 0, api.ErrLong
	}
	if int64(len(b)) < 16+count {
		return api.Record{}, 0, api.ErrEnd
	}
	return api.Record{Sec: o.Uint32(b), Frac: o.Uint32(b[4:]), Len: o.Uint32(b[12:]), Data: b[16 : 16+count]}, int(16 + count), api.OK
}

// readByWords reads a capture, as the chapter says it.
func readByWords(b []byte) (api.Meta, []api.Record, api.Spot) {
	m, e := metaByWords(b)
	if e != api.OK {
		return api.Meta{}, nil, api.Spot{At: 0, Err: e}
	}
	var l []api.Record
	rest := b[24:]
	for len(rest) > 0 {
		r, n, e := nextByWords(rest, m.Big)
		if e != api.OK {
			return m, l, api.Spot{At: len(b) - len(rest), Err: e}
		}
		l = append(l, r)
		rest = rest[n:]
	}
	return m, l, api.Spot{}
}

func sameRecord(a, b api.Record) bool {
	return a.Sec == b.Sec && a.Frac == b.Frac && a.Len == b.Len && bytes.Equal(a.Data, b.Data)
}

func sameRecords(a, b []api.Record) bool {
	return slices.EqualFunc(a, b, sameRecord)
}

// isZero asks whether a record is Record{}.
func isZero(r api.Record) bool {
	return sameRecord(r, api.Record{})
}

// checkBytes holds all that is read of b against the chapter's words.
func checkBytes(t *testing.T, b []byte) {
	t.Helper()
	wantMeta, wantErr := metaByWords(b)
	if m, e := Head(b); m != wantMeta || e != wantErr {
		t.Errorf("Head(%x): %v, %d and not %v, %d", b, m, e, wantMeta, wantErr)
	}
	for _, big := range []bool{false, true} {
		want, size, wantErr := nextByWords(b, big)
		if r, n, e := Next(b, big); !sameRecord(r, want) || n != size || e != wantErr {
			t.Errorf("Next(%x, %v): %v, %d, %d and not %v, %d, %d", b, big, r, n, e, want, size, wantErr)
		}
	}
	wantMeta, wantRecords, wantSpot := readByWords(b)
	if m, l, s := Read(b); m != wantMeta || !sameRecords(l, wantRecords) || s != wantSpot {
		t.Errorf("Read(%x): %v, %v, %v and not %v, %v, %v", b, m, l, s, wantMeta, wantRecords, wantSpot)
	}
}

// checkPut holds what is put against the chapter's words, and what is read of it against what was put.
func checkPut(t *testing.T, m api.Meta, l []api.Record) {
	t.Helper()
	want := captureByWords(m, l)
	b, e := Put(m, l)
	if !bytes.Equal(b, want) || e != api.OK {
		t.Errorf("Put(%v, %v): %x, %d and not %x", m, l, b, e, want)
	}
	if n, k, s := Read(b); n != m || !sameRecords(k, l) || s != (api.Spot{}) {
		t.Errorf("%v, %v, put, is read as %v, %v, %v", m, l, n, k, s)
	}
}

// someRecords are ordinary ones, some without Data, and some whose Len isn't the number of their bytes.
func someRecords() []api.Record {
	return []api.Record{
		{Sec: 0x01020304, Frac: 0x05060708, Len: 0x090a0b0c, Data: []byte{0xd1, 0xd2, 0xd3}},
		{},
		{Sec: 1, Frac: 2, Len: 3, Data: []byte("abc")},
		{Sec: 0xffffffff, Frac: 0xffffffff, Len: 0xffffffff, Data: []byte{0xff}},
		{Len: 7},
		{Sec: 1 << 31, Data: bytes.Repeat([]byte{0xa1, 0xb2}, 200)},
	}
}

// someMetas are those of each form, with numbers whose four bytes differ.
func someMetas() []api.Meta {
	var l []api.Meta
	for _, x := range forms {
		l = append(l, api.Meta{Big: x.big, Nano: x.nano}, api.Meta{Big: x.big, Nano: x.nano, Snap: 0x11223344, Link: 0x55667788}, api.Meta{Big: x.big, Nano: x.nano, Snap: 0xffffffff, Link: api.LinkDir})
	}
	return l
}

func TestExample(t *testing.T) { // P9.1
	b, e := Put(api.Meta{Big: true, Link: api.LinkPpp}, nil)
	want := []byte{0xa1, 0xb2, 0xc3, 0xd4, 0, 2, 0, 4, 0, 0, 0, 0, 0, 0, 0, 0, 0, 0, 0, 0, 0, 0, 0, 9}
	if !bytes.Equal(b, want) || e != api.OK {
		t.Errorf("a header alone: %x, %d", b, e)
	}
	if m, e := Head(want); m != (api.Meta{Big: true, Link: 9}) || e != api.OK {
		t.Errorf("Head: %v, %d", m, e)
	}
}

func TestPutOfEachForm(t *testing.T) { // P9.1
	l := []api.Record{{Sec: 0x01020304, Frac: 0x05060708, Len: 0x090a0b0c, Data: []byte{0xd1, 0xd2, 0xd3}}, {Sec: 1}}
	rising := []byte{
		0, 2, 0, 4, 0, 0, 0, 0, 0, 0, 0, 0, 0x11, 0x22, 0x33, 0x44, 0x55, 0x66, 0x77, 0x88,
		1, 2, 3, 4, 5, 6, 7, 8, 0, 0, 0, 3, 9, 10, 11, 12, 0xd1, 0xd2, 0xd3,
		0, 0, 0, 1, 0, 0, 0, 0, 0, 0, 0, 0, 0, 0, 0, 0,
	}
	falling := []byte{
		2, 0, 4, 0, 0, 0, 0, 0, 0, 0, 0, 0, 0x44, 0x33, 0x22, 0x11, 0x88, 0x77, 0x66, 0x55,
		4, 3, 2, 1, 8, 7, 6, 5, 3, 0, 0, 0, 12, 11, 10, 9, 0xd1, 0xd2, 0xd3,
		1, 0, 0, 0, 0, 0, 0, 0, 0, 0, 0, 0, 0, 0, 0, 0,
	}
	for _, x := range forms {
		want := slices.Concat(x.mark, falling)
		if x.big {
			want = slices.Concat(x.mark, rising)
		}
		m := api.Meta{Big: x.big, Nano: x.nano, Snap: 0x11223344, Link: 0x55667788}
		if b, e := Put(m, l); !bytes.Equal(b, want) || e != api.OK {
			t.Errorf("Put(%v): %x, %d", m, b, e)
		}
	}
}

func TestPut(t *testing.T) { // P9.1, P9.4
	every := someRecords()
	for _, m := range someMetas() {
		for n := range len(every) + 1 {
			checkPut(t, m, every[:n])
			checkPut(t, m, every[n:])
		}
		checkPut(t, m, []api.Record{})
		checkPut(t, m, make([]api.Record, 1000))
	}
}

func TestPutOfNoRecords(t *testing.T) { // P9.1
	for _, m := range someMetas() {
		for _, none := range [][]api.Record{nil, {}} {
			if b, e := Put(m, none); !bytes.Equal(b, headByWords(m)) || len(b) != 24 || e != api.OK {
				t.Errorf("Put(%v) of no records: %x, %d", m, b, e)
			}
		}
	}
}

func TestPutWithoutData(t *testing.T) { // P9.1
	for _, m := range someMetas() {
		for _, none := range [][]byte{nil, {}} {
			r := api.Record{Sec: 1, Frac: 2, Len: 3, Data: none}
			b, e := Put(m, []api.Record{r})
			if !bytes.Equal(b[24:], recordByWords(r, m.Big, 0)) || len(b) != 40 || e != api.OK {
				t.Errorf("Put(%v) of a record without Data: %x, %d", m, b, e)
			}
		}
	}
}

func TestLongestRecord(t *testing.T) { // P9.1, P9.2, P9.4
	data := bytes.Repeat([]byte{1, 2, 3, 4, 5, 6, 7, 8}, api.MaxRecord/8)
	for _, x := range forms {
		checkPut(t, api.Meta{Big: x.big, Nano: x.nano}, []api.Record{{Data: []byte{1}}, {Sec: 5, Data: data}, {Len: 3}, {Data: data[1:]}, {Data: data}})
	}
}

// TestPutOfTooLong holds that one record too long is a fault wherever it stands, and that its Len has no part in it.
func TestPutOfTooLong(t *testing.T) { // P9.1
	right := someRecords()
	for _, size := range []int{tooMany, tooMany + 1, 2 * api.MaxRecord, 1 << 20} {
		long := api.Record{Len: 1, Data: make([]byte, size)}
		for _, x := range forms {
			m := api.Meta{Big: x.big, Nano: x.nano}
			for at := range len(right) + 1 {
				l := slices.Insert(slices.Clone(right), at, long)
				if b, e := Put(m, l); len(b) != 0 || e != api.ErrLong {
					t.Errorf("Put(%v), Data of %d bytes at %d: %d bytes, %d", m, size, at, len(b), e)
				}
			}
		}
	}
	if b, e := Put(api.Meta{}, []api.Record{{Len: 0xffffffff}}); len(b) != 40 || e != api.OK {
		t.Errorf("Put goes by Len: %x, %d", b, e)
	}
}

func TestHead(t *testing.T) { // P9.2
	for _, m := range someMetas() {
		b := headByWords(m)
		for _, behind := range [][]byte{nil, {0}, {0xa1, 0xb2, 0xc3, 0xd4}, make([]byte, 50)} {
			if got, e := Head(slices.Concat(b, behind)); got != m || e != api.OK {
				t.Errorf("Head(%x): %v, %d", b, got, e)
			}
		}
	}
}

// TestShortHeads holds that fewer than four bytes end early, whatever they are, and so do fewer than 24 behind a mark.
func TestShortHeads(t *testing.T) { // P9.2, P9.3
	short := [][]byte{nil, {}, {0}, {0xa1}, {0xd4, 0xc3}, {0, 0, 0}, {0xff, 0xff, 0xff}, {0xa1, 0xb2, 0xc3}, {0xa1, 0xb2, 0x3c}, {0x4d, 0x3c, 0xb2}}
	for _, x := range forms {
		b := slices.Concat(x.mark, x.version, bytes.Repeat([]byte{7}, 16))
		wrong := slices.Concat(x.mark, bytes.Repeat([]byte{7}, 20))
		for n := range 24 {
			short = append(short, b[:n], wrong[:n])
		}
	}
	for _, b := range short {
		if m, e := Head(b); m != (api.Meta{}) || e != api.ErrEnd {
			t.Errorf("Head(%x): %v, %d", b, m, e)
		}
		if m, l, s := Read(b); m != (api.Meta{}) || len(l) != 0 || s != (api.Spot{Err: api.ErrEnd}) {
			t.Errorf("Read(%x): %v, %v, %v", b, m, l, s)
		}
	}
}

// wrongMarks tell no order: one bit of a right one is another, or its bytes stand in another order.
func wrongMarks() [][]byte {
	l := [][]byte{{0, 0, 0, 0}, {0xff, 0xff, 0xff, 0xff}, {0xb2, 0xa1, 0xd4, 0xc3}, {0xc3, 0xd4, 0xa1, 0xb2}, {0xa1, 0xb2, 0xc3, 0x4d}, {0xa1, 0xb2, 0x3c, 0xd4}, {0x4d, 0xc3, 0xb2, 0xa1}, {0xd4, 0x3c, 0xb2, 0xa1}, {0xa1, 0xb2, 0x4d, 0x3c}, {0x0a, 0x0d, 0x0d, 0x0a}, {0xa1, 0xb2, 0xcd, 0x34}}
	for _, x := range forms {
		for bit := range 32 {
			mark := bytes.Clone(x.mark)
			mark[bit/8] ^= 1 << (bit % 8)
			l = append(l, mark)
		}
	}
	return l
}

func TestWrongMarks(t *testing.T) { // P9.2, P9.3
	for _, mark := range wrongMarks() {
		for _, version := range [][]byte{{0, 2, 0, 4}, {2, 0, 4, 0}} {
			whole := slices.Concat(mark, version, make([]byte, 40))
			for _, n := range []int{4, 5, 6, 8, 23, 24, 25, 40, 48} {
				if m, e := Head(whole[:n]); m != (api.Meta{}) || e != api.ErrForm {
					t.Errorf("Head(%x): %v, %d", whole[:n], m, e)
				}
				if m, l, s := Read(whole[:n]); m != (api.Meta{}) || len(l) != 0 || s != (api.Spot{Err: api.ErrForm}) {
					t.Errorf("Read(%x): %v, %v, %v", whole[:n], m, l, s)
				}
			}
		}
	}
}

func TestEveryVersion(t *testing.T) { // P9.2, P9.3
	for _, x := range forms {
		for n := range 1 << 16 {
			b := slices.Concat(order(x.big).AppendUint16(bytes.Clone(x.mark), uint16(n)), x.version[2:], make([]byte, 15), []byte{1})
			want, wantErr := api.Meta{}, api.ErrForm
			if n == 2 {
				want, wantErr = api.Meta{Big: x.big, Nano: x.nano, Link: order(x.big).Uint32(b[20:])}, api.OK
			}
			if m, e := Head(b); m != want || e != wantErr {
				t.Errorf("Head(%x): %v, %d", b, m, e)
			}
			if m, l, s := Read(b); m != want || len(l) != 0 || s != (api.Spot{Err: wantErr}) {
				t.Errorf("Read(%x): %v, %v, %v", b, m, l, s)
			}
		}
	}
}

// anyBytes are the places of a header that may hold whatever.
var anyBytes = []int{6, 7, 8, 9, 10, 11, 12, 13, 14, 15}

func TestBytesThatMayBeAny(t *testing.T) { // P9.2, P9.4
	for _, m := range someMetas() {
		want := captureByWords(m, someRecords())
		for _, at := range anyBytes {
			for c := range 256 {
				b := bytes.Clone(want)
				b[at] = byte(c)
				got, l, s := Read(b)
				if got != m || !sameRecords(l, someRecords()) || s != (api.Spot{}) {
					t.Fatalf("%d at %d: %v, %v", c, at, got, s)
				}
				if again, e := Put(got, l); !bytes.Equal(again, want) || e != api.OK {
					t.Fatalf("%d at %d, put again: %x, %d", c, at, again, e)
				}
			}
		}
	}
}

func TestNext(t *testing.T) { // P9.2
	for _, big := range []bool{false, true} {
		for _, r := range someRecords() {
			b := recordByWords(r, big, len(r.Data))
			for _, behind := range [][]byte{nil, {0}, {0xff}, make([]byte, 16), bytes.Repeat([]byte{7}, 400)} {
				got, n, e := Next(slices.Concat(b, behind), big)
				if !sameRecord(got, r) || n != len(b) || e != api.OK {
					t.Errorf("Next(%x, %v): %v, %d, %d", b, big, got, n, e)
				}
			}
		}
	}
}

func TestNextByEachOrder(t *testing.T) { // P9.2
	b := []byte{1, 2, 3, 4, 5, 6, 7, 8, 0, 0, 0, 0, 9, 10, 11, 12}
	rising := api.Record{Sec: 0x01020304, Frac: 0x05060708, Len: 0x090a0b0c}
	falling := api.Record{Sec: 0x04030201, Frac: 0x08070605, Len: 0x0c0b0a09}
	if r, n, e := Next(b, true); !sameRecord(r, rising) || n != 16 || e != api.OK {
		t.Errorf("big: %v, %d, %d", r, n, e)
	}
	if r, n, e := Next(b, false); !sameRecord(r, falling) || n != 16 || e != api.OK {
		t.Errorf("not big: %v, %d, %d", r, n, e)
	}
	one := append(bytes.Clone(b), 0x77)
	one[8] = 1 // 1 in the one order, 2^24 in the other
	if r, n, e := Next(one, false); !bytes.Equal(r.Data, []byte{0x77}) || n != 17 || e != api.OK {
		t.Errorf("not big: %v, %d, %d", r, n, e)
	}
	if r, n, e := Next(one, true); !isZero(r) || n != 0 || e != api.ErrLong {
		t.Errorf("big: %v, %d, %d", r, n, e)
	}
}

func TestNextOfFewBytes(t *testing.T) { // P9.2
	for _, big := range []bool{false, true} {
		for _, c := range []byte{0, 1, 0xff} {
			for n := range 16 {
				if r, size, e := Next(bytes.Repeat([]byte{c}, n), big); !isZero(r) || size != 0 || e != api.ErrEnd {
					t.Errorf("Next of %d bytes of %d: %v, %d, %d", n, c, r, size, e)
				}
			}
		}
		if r, size, e := Next(nil, big); !isZero(r) || size != 0 || e != api.ErrEnd {
			t.Errorf("Next of nothing: %v, %d, %d", r, size, e)
		}
	}
}

// TestNextOfTooMany holds that a count above MaxRecord is too long, be the bytes there or not.
func TestNextOfTooMany(t *testing.T) { // P9.2
	for _, big := range []bool{false, true} {
		for _, count := range []int{tooMany, tooMany + 1, 1 << 18, 1 << 24, 1<<31 - 1, 1 << 31, 1<<32 - 16, 1<<32 - 1} {
			b := recordByWords(api.Record{Sec: 1, Frac: 2, Len: 3}, big, count)
			for _, behind := range []int{0, 1, 20, api.MaxRecord, tooMany, 1 << 18} {
				if r, n, e := Next(append(b, make([]byte, behind)...), big); !isZero(r) || n != 0 || e != api.ErrLong {
					t.Errorf("Next of a count of %d, with %d bytes: %d bytes, %d, %d", count, behind, len(r.Data), n, e)
				}
			}
		}
	}
}

func TestNextOfTooFew(t *testing.T) { // P9.2
	for _, big := range []bool{false, true} {
		for _, count := range []int{1, 2, 16, 255, 256, 65535, 65536, api.MaxRecord - 1, api.MaxRecord} {
			b := recordByWords(api.Record{Sec: 1, Frac: 2, Len: 3}, big, count)
			for _, there := range []int{0, 1, count / 2, count - 1} {
				if there >= count {
					continue
				}
				if r, n, e := Next(append(b, make([]byte, there)...), big); !isZero(r) || n != 0 || e != api.ErrEnd {
					t.Errorf("Next of a count of %d, with %d bytes: %v, %d, %d", count, there, r, n, e)
				}
			}
			data := bytes.Repeat([]byte{6}, count)
			if r, n, e := Next(append(b, data...), big); !bytes.Equal(r.Data, data) || r.Len != 3 || n != 16+count || e != api.OK {
				t.Errorf("Next of a count of %d, with all bytes: %d bytes, %d, %d", count, len(r.Data), n, e)
			}
		}
	}
}

func TestReadOfAHeaderAlone(t *testing.T) { // P9.3
	for _, m := range someMetas() {
		if got, l, s := Read(headByWords(m)); got != m || len(l) != 0 || s != (api.Spot{}) {
			t.Errorf("Read of the header of %v: %v, %v, %v", m, got, l, s)
		}
	}
}

// TestReadOfEachPiece cuts a capture off at each of its bytes: what is ahead of the record that is cut is read.
func TestReadOfEachPiece(t *testing.T) { // P9.3
	every := someRecords()
	for _, m := range someMetas() {
		b := captureByWords(m, every)
		starts := []int{24}
		for _, r := range every {
			starts = append(starts, starts[len(starts)-1]+16+len(r.Data))
		}
		for n := 24; n <= len(b); n++ {
			whole := 0
			for whole < len(every) && starts[whole+1] <= n {
				whole++
			}
			want := api.Spot{At: starts[whole], Err: api.ErrEnd}
			if starts[whole] == n {
				want = api.Spot{}
			}
			if got, l, s := Read(b[:n]); got != m || !sameRecords(l, every[:whole]) || s != want {
				t.Fatalf("Read of %d bytes of %v: %v, %d records, %v", n, m, got, len(l), s)
			}
		}
	}
}

func TestReadUpToTheFirstFault(t *testing.T) { // P9.3
	every := someRecords()
	for _, m := range someMetas() {
		for n := range len(every) + 1 {
			ahead := captureByWords(m, every[:n])
			right := recordByWords(every[0], m.Big, len(every[0].Data))
			long := recordByWords(api.Record{}, m.Big, tooMany)
			early := recordByWords(api.Record{}, m.Big, api.MaxRecord)
			for _, x := range []struct {
				behind []byte
				want   api.Errno
			}{
				{[]byte{0}, api.ErrEnd}, {make([]byte, 15), api.ErrEnd}, {right[:15], api.ErrEnd}, {right[:18], api.ErrEnd},
				{long, api.ErrLong}, {slices.Concat(long, right, right), api.ErrLong}, {early, api.ErrEnd}, {slices.Concat(early, right, right), api.ErrEnd},
				// Of two faults the first one is told.
				{slices.Concat(long, early), api.ErrLong}, {slices.Concat(early, long), api.ErrEnd},
			} {
				got, l, s := Read(slices.Concat(ahead, x.behind))
				if got != m || !sameRecords(l, every[:n]) || s != (api.Spot{At: len(ahead), Err: x.want}) {
					t.Errorf("Read of %d records with %x behind: %v, %d records, %v", n, x.behind, got, len(l), s)
				}
			}
		}
	}
}

// captureByChance has many right headers and counts, so that its records are reached.
func captureByChance(r *rand.Rand) []byte {
	x := forms[r.Intn(len(forms))]
	b := slices.Concat(x.mark, x.version, bytesByChance(r, 16))
	for range r.Intn(6) {
		record := bytesByChance(r, 16)
		count := r.Intn(20)
		if r.Intn(20) == 0 {
			count = api.MaxRecord - 1 + r.Intn(4)
		}
		if r.Intn(20) != 0 {
			order(x.big).PutUint32(record[8:], uint32(count))
		}
		b = slices.Concat(b, record, bytesByChance(r, count%100))
	}
	if r.Intn(4) == 0 {
		b[r.Intn(8)] ^= 1 << r.Intn(8)
	}
	if r.Intn(4) == 0 {
		b = b[:r.Intn(len(b)+1)]
	}
	return b
}

func bytesByChance(r *rand.Rand, n int) []byte {
	b := make([]byte, n)
	r.Read(b)
	return b
}

func TestBytesByChance(t *testing.T) { // P9.2, P9.3, P9.4
	r := rand.New(rand.NewSource(9))
	for range 20000 {
		b := captureByChance(r)
		checkBytes(t, b)
		m, l, s := Read(b)
		if s != (api.Spot{}) {
			continue
		}
		again, e := Put(m, l)
		want := bytes.Clone(b)
		copy(want[6:16], again[6:16])
		if !bytes.Equal(again, want) || e != api.OK {
			t.Errorf("%x, read and put again: %x, %d", b, again, e)
		}
	}
}

func TestCapturesByChance(t *testing.T) { // P9.1, P9.4
	r := rand.New(rand.NewSource(91))
	for range 5000 {
		m := api.Meta{Big: r.Intn(2) == 0, Nano: r.Intn(2) == 0, Snap: r.Uint32(), Link: r.Uint32()}
		var l []api.Record
		for range r.Intn(5) {
			l = append(l, api.Record{Sec: r.Uint32(), Frac: r.Uint32(), Len: r.Uint32(), Data: bytesByChance(r, r.Intn(40))})
		}
		checkPut(t, m, l)
	}
}

// TestManyRecords holds that the time goes up with the number of records, not with its square.
func TestManyRecords(t *testing.T) { // P1, P9.3, P9.4
	l := make([]api.Record, 300000)
	for i := range l {
		l[i].Sec = uint32(i)
	}
	checkPut(t, api.Meta{Link: 9}, l)
}

// fresh is a list with room behind its length, filled, so that a write there is seen.
func fresh(b []byte) []byte {
	room := bytes.Repeat([]byte{0x15}, len(b)+16)
	copy(room, b)
	return room[:len(b)]
}

// freshRecords is a list of records, and of their Data, with room behind the length of each.
func freshRecords(l []api.Record) []api.Record {
	room := make([]api.Record, len(l)+3)
	for i := range room {
		room[i] = api.Record{Sec: 15, Frac: 15, Len: 15, Data: fresh([]byte{15})}
		if i < len(l) {
			room[i] = l[i]
			room[i].Data = fresh(l[i].Data)
		}
	}
	return room[:len(l)]
}

// sameRoom compares two lists, and the room behind the length of each, and of each record's Data.
func sameRoom(a, b []api.Record) bool {
	return slices.EqualFunc(a[:cap(a)], b[:cap(b)], func(x, y api.Record) bool {
		return sameRecord(x, y) && bytes.Equal(x.Data[:cap(x.Data)], y.Data[:cap(y.Data)])
	})
}

// overwrite fills a list and the room behind its length.
func overwrite(b []byte) {
	b = b[:cap(b)]
	for i := range b {
		b[i] = 99
	}
}

// overwriteRecords fills all records' Data and the records, and the room behind their length.
func overwriteRecords(l []api.Record) {
	l = l[:cap(l)]
	for i := range l {
		overwrite(l[i].Data)
		l[i] = api.Record{Sec: 99, Frac: 99, Len: 99, Data: []byte{99}}
	}
}

func cloneRecords(l []api.Record) []api.Record {
	out := slices.Clone(l)
	for i := range out {
		out[i].Data = bytes.Clone(out[i].Data)
	}
	return out
}

// someCaptures are right ones, and wrong ones, among them some with records ahead of the fault.
func someCaptures() [][]byte {
	var l [][]byte
	for _, m := range someMetas() {
		b := captureByWords(m, someRecords())
		l = append(l, b, b[:24], b[:len(b)-1], b[:45], b[:20], b[:3], append(bytes.Clone(b), 1, 2, 3), append([]byte{1}, b...))
	}
	return append(l, nil, []byte{})
}

func TestHandedInStays(t *testing.T) { // P9.5
	for _, b := range someCaptures() {
		given, want := fresh(b), fresh(b)
		Head(given)
		_, l, _ := Read(given)
		overwriteRecords(l)
		for _, big := range []bool{false, true} {
			for _, at := range []int{0, 24, 43} {
				r, _, _ := Next(given[min(at, len(given)):], big)
				overwrite(r.Data)
			}
		}
		if !bytes.Equal(given[:cap(given)], want[:cap(want)]) {
			t.Errorf("%x has become %x", want, given[:cap(given)])
		}
	}
}

func TestRecordsHandedInStay(t *testing.T) { // P9.5
	for _, m := range someMetas() {
		for _, l := range [][]api.Record{nil, someRecords(), someRecords()[:1], {{}, {Data: make([]byte, tooMany)}}} {
			given, want := freshRecords(l), freshRecords(l)
			b, _ := Put(m, given)
			overwrite(b)
			if !sameRoom(given, want) {
				t.Errorf("Put(%v) has changed its records", m)
			}
		}
	}
}

func TestRoomIsNotHandedIn(t *testing.T) { // P9.5, rule 8
	for _, m := range someMetas() {
		b := captureByWords(m, someRecords())
		for n := range len(b) {
			tight := slices.Clip(bytes.Clone(b[:n]))
			wantMeta, want, wantSpot := Read(tight)
			if got, l, s := Read(b[:n]); got != wantMeta || !sameRecords(l, want) || s != wantSpot {
				t.Fatalf("Read of %d bytes goes by the room behind: %v, %v", n, got, s)
			}
		}
		for n := range 19 {
			if r, size, e := Next(b[24:24+n], m.Big); !isZero(r) || size != 0 || e != api.ErrEnd {
				t.Errorf("Next of %d bytes goes by the room behind: %v, %d, %d", n, r, size, e)
			}
		}
	}
	every := someRecords()
	for n := range every {
		if b, _ := Put(api.Meta{}, every[:n]); !bytes.Equal(b, captureByWords(api.Meta{}, slices.Clip(every[:n]))) {
			t.Errorf("Put of %d records goes by the room behind", n)
		}
	}
}

func TestRecordsReadAreNew(t *testing.T) { // P9.5
	for _, b := range someCaptures() {
		given := fresh(b)
		_, first, _ := Read(given)
		want := cloneRecords(first)
		_, second, _ := Read(given)
		overwriteRecords(second)
		overwrite(given)
		if !sameRecords(first, want) {
			t.Errorf("Read(%x) shares memory with what was handed in, or with another answer", b)
		}
	}
}

// TestDataOfOneAnswerIsApart writes into each record's Data, and into the room behind it, and looks at all others.
func TestDataOfOneAnswerIsApart(t *testing.T) { // P9.5
	b := captureByWords(api.Meta{}, someRecords())
	for i := range someRecords() {
		_, l, _ := Read(b)
		overwrite(l[i].Data)
		for j, want := range someRecords() {
			if j != i && !sameRecord(l[j], want) {
				t.Errorf("record %d shares memory with record %d", j, i)
			}
		}
	}
}

func TestNextIsNew(t *testing.T) { // P9.5
	want := api.Record{Sec: 1, Len: 3, Data: []byte("abc")}
	for _, big := range []bool{false, true} {
		given := fresh(append(recordByWords(want, big, 3), 7, 8))
		first, _, _ := Next(given, big)
		second, _, _ := Next(given, big)
		overwrite(second.Data)
		if !sameRecord(first, want) {
			t.Error("Next shares memory with another answer")
		}
		overwrite(given)
		if !sameRecord(first, want) {
			t.Error("Next shares memory with what was handed in")
		}
	}
}

func TestBytesPutAreNew(t *testing.T) { // P9.5
	for _, m := range someMetas() {
		for _, l := range [][]api.Record{nil, someRecords()} {
			want := captureByWords(m, l)
			given := freshRecords(l)
			first, _ := Put(m, given)
			second, _ := Put(m, given)
			overwrite(second)
			if !bytes.Equal(first, want) {
				t.Errorf("Put(%v) shares memory with another answer", m)
			}
			overwriteRecords(given)
			if !bytes.Equal(first, want) {
				t.Errorf("Put(%v) shares memory with what was handed in", m)
			}
			overwrite(first)
			if third, _ := Put(m, l); !bytes.Equal(third, want) {
				t.Errorf("Put(%v) answers %x behind a write into its answer", m, third)
			}
		}
	}
}

func TestNothingIsKept(t *testing.T) { // rule 8
	b := captureByWords(api.Meta{Big: true}, someRecords())
	other := captureByWords(api.Meta{Nano: true}, someRecords()[:2])
	for range 3 {
		Read(other)
		Next(other[24:], false)
		Put(api.Meta{Snap: 5}, []api.Record{{Data: make([]byte, tooMany)}})
		if m, l, s := Read(b); m != (api.Meta{Big: true}) || !sameRecords(l, someRecords()) || s != (api.Spot{}) {
			t.Errorf("Read answers unlike the one ahead: %v, %v", m, s)
		}
		if again, e := Put(api.Meta{Big: true}, someRecords()); !bytes.Equal(again, b) || e != api.OK {
			t.Errorf("Put answers unlike the one ahead: %x, %d", again, e)
		}
	}
}

func FuzzCaptures(f *testing.F) { // P1, P9.1 to P9.5
	for _, b := range someCaptures() {
		f.Add(b, uint32(1), true)
	}
	f.Add(recordByWords(api.Record{}, true, tooMany), uint32(0), false)
	f.Fuzz(func(t *testing.T, b []byte, n uint32, is bool) {
		kept := bytes.Clone(b)
		checkBytes(t, b)
		for _, x := range forms {
			checkBytes(t, slices.Concat(x.mark, x.version, b))
		}
		if len(b) <= api.MaxRecord {
			m := api.Meta{Big: is, Nano: n%2 == 0, Snap: n, Link: ^n}
			checkPut(t, m, []api.Record{{Sec: n, Frac: n + 1, Len: n + 2, Data: b}, {Len: n}, {Data: b[:len(b)/2]}})
		}
		if !bytes.Equal(b, kept) {
			t.Error("what was handed in has changed")
		}
	})
}
