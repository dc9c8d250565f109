package packet

import (
	"bytes"
	"math"
	"math/rand"
	"slices"
	"strconv"
	"strings"
	"testing"

	"umpire/api"
)

const (
	longest = 65531
	tooLong = longest + 1
)

// farNumbers may be no Code and no Id: those just beyond both ends, and those of which a smaller size of number keeps bits that would do.
var farNumbers = []int{-1, -2, -128, -247, -248, -255, -256, -257, 256, 257, 258, 260, 264, 265, 267, 511, 512, 65535, 65536, 65537, 1 << 31, 1<<31 + 1, 1 << 32, 1<<32 + 1, 1<<32 + 8, 1<<32 + 9, 1 << 62, math.MinInt, math.MinInt + 1, math.MinInt + 8, math.MinInt + 9, math.MaxInt, math.MaxInt - 246}

// putByWords writes a packet down byte by byte, or tells its error.
func putByWords(p api.Packet) ([]byte, api.Errno) {
	switch {
	case p.Code != int(uint8(p.Code)):
		return nil, api.ErrArg
	case p.Id != int(uint8(p.Id)):
		return nil, api.ErrArg
	case len(p.Data) > 65531:
		return nil, api.ErrLong
	}
	n := len(p.Data) + 4
	b := []byte{byte(p.Code), byte(p.Id), byte(n / 256), byte(n % 256)}
	for _, c := range p.Data {
		b = append(b, c)
	}
	return b, api.OK
}

// getByWords takes Code, Id and the count away, and then as many bytes as are left of the count.
func getByWords(b []byte) (api.Packet, api.Errno) {
	if len(b) == 0 || len(b) == 1 || len(b) == 2 || len(b) == 3 {
		return api.Packet{}, api.ErrEnd
	}
	if b[2] == 0 && (b[3] == 0 || b[3] == 1 || b[3] == 2 || b[3] == 3) {
		return api.Packet{}, api.ErrForm
	}
	p := api.Packet{Code: int(b[0]), Id: int(b[1])}
	left := 256*int(b[2]) + int(b[3]) - 4
	for _, c := range b[4:] {
		if left > 0 {
			p.Data = append(p.Data, c)
			left--
		}
	}
	if left > 0 {
		return api.Packet{}, api.ErrEnd
	}
	return p, api.OK
}

// optionsByWords takes one option after the other away from what Configure packets carry.
func optionsByWords(p api.Packet) ([]api.Option, bool) {
	if !slices.Contains([]int{1, 2, 3, 4}, p.Code) {
		return nil, false
	}
	var l []api.Option
	for rest := p.Data; len(rest) > 0; rest = rest[rest[1]:] {
		if len(rest) == 1 || rest[1] < 2 || int(rest[1]) > len(rest) {
			return nil, false
		}
		l = append(l, api.Option{Type: int(rest[0]), Data: rest[2:rest[1]]})
	}
	return l, true
}

// splitByWords goes through the first bytes of what packets of some Codes carry, a digit of base 256 each.
func splitByWords(p api.Packet, codes []int, size int) (int, []byte, bool) {
	if !slices.Contains(codes, p.Code) || len(p.Data) < size {
		return 0, nil, false
	}
	n := 0
	for _, c := range p.Data[:size] {
		n = 256*n + int(c)
	}
	return n, p.Data[size:], true
}

// textOf tells a packet by a text that no unlike packet has.
func textOf(p api.Packet) string {
	return strconv.Itoa(p.Code) + "," + strconv.Itoa(p.Id) + ":" + strconv.Quote(string(p.Data))
}

// textOfOptions tells options by a text that no unlike ones have.
func textOfOptions(l []api.Option) string {
	var b strings.Builder
	for _, o := range l {
		b.WriteString(strconv.Itoa(o.Type) + ":" + strconv.Quote(string(o.Data)) + ";")
	}
	return b.String()
}

// checkPut holds what is put against the chapter's words, and what is read of it, with padding too, against what was put.
func checkPut(t *testing.T, p api.Packet) {
	t.Helper()
	want, wantErr := putByWords(p)
	b, e := Put(p)
	if !bytes.Equal(b, want) || e != wantErr {
		t.Errorf("Put(%.100s): %.100x, %d and not %.100x, %d", textOf(p), b, e, want, wantErr)
	}
	if e != api.OK {
		return
	}
	for _, padding := range [][]byte{nil, {0}, {255, 255}, {1, 7, 0, 4}, b, make([]byte, 300)} {
		if q, e := Get(slices.Concat(b, padding)); textOf(q) != textOf(p) || e != api.OK {
			t.Errorf("%.100s, put, is read with %d bytes of padding as %.100s, %d", textOf(p), len(padding), textOf(q), e)
		}
	}
}

// checkGet holds what is read of b against the chapter's words, and what is read without an error, put again, against b.
func checkGet(t *testing.T, b []byte) {
	t.Helper()
	want, wantErr := getByWords(b)
	p, e := Get(b)
	if textOf(p) != textOf(want) || e != wantErr {
		t.Errorf("Get(%.100x): %.100s, %d and not %.100s, %d", b, textOf(p), e, textOf(want), wantErr)
	}
	if e != api.OK {
		return
	}
	if again, e := Put(p); len(again) != 4+len(p.Data) || !bytes.HasPrefix(b, again) || e != api.OK {
		t.Errorf("%.100x, read and put again: %.100x, %d", b, again, e)
	}
}

// checkCarried holds what Options, Magic and Rejected tell against the chapter's words.
func checkCarried(t *testing.T, p api.Packet) {
	t.Helper()
	wantOptions, wantOk := optionsByWords(p)
	if l, ok := Options(p); textOfOptions(l) != textOfOptions(wantOptions) || ok != wantOk {
		t.Errorf("Options(%.100s): %.100s, %v and not %.100s, %v", textOf(p), textOfOptions(l), ok, textOfOptions(wantOptions), wantOk)
	}
	want, wantRest, wantOk := splitByWords(p, []int{9, 10, 11}, 4)
	if n, rest, ok := Magic(p); int(n) != want || !bytes.Equal(rest, wantRest) || ok != wantOk {
		t.Errorf("Magic(%.100s): %x, %.100x, %v and not %x, %.100x, %v", textOf(p), n, rest, ok, want, wantRest, wantOk)
	}
	want, wantRest, wantOk = splitByWords(p, []int{8}, 2)
	if n, rest, ok := Rejected(p); n != want || !bytes.Equal(rest, wantRest) || ok != wantOk {
		t.Errorf("Rejected(%.100s): %x, %.100x, %v and not %x, %.100x, %v", textOf(p), n, rest, ok, want, wantRest, wantOk)
	}
}

// somePackets may be: the edges of Code, Id and Data, Data that chapter 12 reads, and Data that looks like packets.
func somePackets() []api.Packet {
	return []api.Packet{
		{},
		{Code: 1, Id: 7},
		{Code: 255, Id: 255, Data: []byte{255}},
		{Code: 1, Id: 1, Data: []byte{1, 4, 5, 220, 7, 2, 5, 6, 1, 2, 3, 4}},
		{Code: 2, Data: []byte{7, 2}},
		{Code: 3, Id: 200, Data: []byte{3, 5, 0xc2, 0x23, 5}},
		{Code: 4, Id: 3, Data: []byte{0, 3, 9, 255, 2, 0, 2}},
		{Code: 5, Id: 4, Data: []byte("bye")},
		{Code: 7, Id: 5, Data: []byte{99, 1, 0, 4}},
		{Code: 8, Id: 6, Data: []byte{0x80, 0x21, 1, 7, 0, 4}},
		{Code: 9, Id: 8, Data: []byte{1, 2, 3, 4}},
		{Code: 10, Id: 9, Data: []byte{255, 255, 255, 255, 0}},
		{Code: 11, Id: 10, Data: []byte{0, 0, 0, 0, 1, 4, 5, 220}},
		{Code: 0, Id: 0, Data: make([]byte, 252)},
		{Code: 1, Id: 0, Data: bytes.Repeat([]byte{8, 3, 0}, 500)},
	}
}

func TestExamples(t *testing.T) { // P13.1
	p := api.Packet{Code: api.CfReq, Id: 7}
	if got, e := Get([]byte{1, 7, 0, 4}); textOf(got) != textOf(p) || e != api.OK {
		t.Errorf("Get(1 7 0 4): %v, %d", got, e)
	}
	if b, e := Put(p); !bytes.Equal(b, []byte{1, 7, 0, 4}) || e != api.OK {
		t.Errorf("Put(%v): %v, %d", p, b, e)
	}
	if got, e := Get([]byte{1, 7, 0, 3}); textOf(got) != textOf(api.Packet{}) || e != api.ErrForm {
		t.Errorf("Get(1 7 0 3): %v, %d", got, e)
	}
}

func TestPut(t *testing.T) { // P13.1
	for _, x := range []struct {
		p    api.Packet
		want []byte
	}{
		{api.Packet{}, []byte{0, 0, 0, 4}},
		{api.Packet{Code: 5, Id: 9, Data: []byte{}}, []byte{5, 9, 0, 4}},
		{api.Packet{Code: 255, Id: 255}, []byte{255, 255, 0, 4}},
		{api.Packet{Code: 255, Id: 0, Data: []byte{0}}, []byte{255, 0, 0, 5, 0}},
		{api.Packet{Code: 9, Id: 255, Data: []byte{1, 2, 3, 4, 5}}, []byte{9, 255, 0, 9, 1, 2, 3, 4, 5}},
		{api.Packet{Code: 1, Id: 2, Data: make([]byte, 251)}, append([]byte{1, 2, 0, 255}, make([]byte, 251)...)},
		{api.Packet{Code: 1, Id: 2, Data: make([]byte, 252)}, append([]byte{1, 2, 1, 0}, make([]byte, 252)...)},
		{api.Packet{Code: 1, Id: 2, Data: make([]byte, 256)}, append([]byte{1, 2, 1, 4}, make([]byte, 256)...)},
		{api.Packet{Code: 1, Id: 2, Data: make([]byte, longest)}, append([]byte{1, 2, 255, 255}, make([]byte, longest)...)},
	} {
		if b, e := Put(x.p); !bytes.Equal(b, x.want) || e != api.OK {
			t.Errorf("Put(%.100s): %.100x, %d", textOf(x.p), b, e)
		}
	}
	for _, p := range somePackets() {
		checkPut(t, p)
	}
}

func TestEachCodeAndId(t *testing.T) { // P13.1, P13.3
	for n := -600; n <= 600; n++ {
		for _, other := range []int{-1, 0, 1, 255, 256} {
			checkPut(t, api.Packet{Code: n, Id: other})
			checkPut(t, api.Packet{Code: other, Id: n, Data: []byte{9}})
		}
	}
	for _, n := range farNumbers {
		for _, size := range []int{0, 1, longest} {
			data := make([]byte, size)
			for _, p := range []api.Packet{{Code: n, Data: data}, {Id: n, Data: data}, {Code: n, Id: 255, Data: data}, {Code: 255, Id: n, Data: data}, {Code: n, Id: n, Data: data}} {
				if b, e := Put(p); len(b) != 0 || e != api.ErrArg {
					t.Errorf("Put of the Code %d and the Id %d: %d bytes, %d", p.Code, p.Id, len(b), e)
				}
			}
		}
	}
}

func TestLengthsOfData(t *testing.T) { // P13.1, P13.3
	if api.MaxData != longest {
		t.Fatal("MaxData is", api.MaxData)
	}
	sizes := []int{longest - 256, longest - 2, longest - 1, longest, tooLong, tooLong + 1, tooLong + 4, tooLong + 256, 2 * tooLong, 1 << 20}
	for n := range 1200 {
		sizes = append(sizes, n)
	}
	for n := 1200; n < tooLong; n += 4999 {
		sizes = append(sizes, n)
	}
	for _, n := range sizes {
		checkPut(t, api.Packet{Code: 9, Id: 1, Data: bytes.Repeat([]byte{0xe7}, n)})
	}
	for _, n := range []int{tooLong, tooLong + 1, tooLong + 4, tooLong + 255, 131067, 1 << 20} {
		if b, e := Put(api.Packet{Code: 255, Data: make([]byte, n)}); len(b) != 0 || e != api.ErrLong {
			t.Errorf("Put of %d bytes of Data: %d bytes, %d", n, len(b), e)
		}
	}
}

func TestPutOfBothFaults(t *testing.T) { // P13.1
	for _, size := range []int{tooLong, tooLong + 4, 1 << 17} {
		data := make([]byte, size)
		for _, n := range farNumbers {
			for _, p := range []api.Packet{{Code: n, Data: data}, {Id: n, Data: data}, {Code: n, Id: n, Data: data}} {
				if b, e := Put(p); len(b) != 0 || e != api.ErrArg {
					t.Errorf("Put of the Code %d and the Id %d with %d bytes: %d bytes, %d", p.Code, p.Id, size, len(b), e)
				}
			}
		}
	}
}

func TestGetOfFewBytes(t *testing.T) { // P13.1
	for _, b := range [][]byte{nil, {}, make([]byte, 0, 9), {1}, {0}, {1, 7}, {0, 0}, {1, 7, 0}, {0, 0, 0}, {1, 7, 255}, {255, 255, 255}} {
		if p, e := Get(b); textOf(p) != textOf(api.Packet{}) || e != api.ErrEnd {
			t.Errorf("Get(%v): %v, %d", b, p, e)
		}
	}
}

func TestGet(t *testing.T) { // P13.1
	for _, x := range []struct {
		b    []byte
		want api.Packet
		err  api.Errno
	}{
		{[]byte{1, 7, 0, 0}, api.Packet{}, api.ErrForm},
		{[]byte{1, 7, 0, 1}, api.Packet{}, api.ErrForm},
		{[]byte{1, 7, 0, 2}, api.Packet{}, api.ErrForm},
		{[]byte{1, 7, 0, 3}, api.Packet{}, api.ErrForm},
		{[]byte{1, 7, 0, 0, 9, 9, 9}, api.Packet{}, api.ErrForm},
		{[]byte{1, 7, 0, 3, 9, 9, 9}, api.Packet{}, api.ErrForm},
		{[]byte{1, 7, 0, 4}, api.Packet{Code: 1, Id: 7}, api.OK},
		{[]byte{0, 0, 0, 4}, api.Packet{}, api.OK},
		{[]byte{255, 255, 0, 4}, api.Packet{Code: 255, Id: 255}, api.OK},
		{[]byte{1, 7, 0, 4, 9}, api.Packet{Code: 1, Id: 7}, api.OK},
		{[]byte{1, 7, 0, 5}, api.Packet{}, api.ErrEnd},
		{[]byte{1, 7, 0, 5, 9}, api.Packet{Code: 1, Id: 7, Data: []byte{9}}, api.OK},
		{[]byte{1, 7, 0, 5, 9, 8}, api.Packet{Code: 1, Id: 7, Data: []byte{9}}, api.OK},
		{[]byte{1, 7, 0, 7, 9, 8}, api.Packet{}, api.ErrEnd},
		{[]byte{1, 7, 0, 7, 9, 8, 6}, api.Packet{Code: 1, Id: 7, Data: []byte{9, 8, 6}}, api.OK},
		{[]byte{1, 7, 0, 7, 9, 8, 6, 5, 4}, api.Packet{Code: 1, Id: 7, Data: []byte{9, 8, 6}}, api.OK},
		{[]byte{1, 7, 1, 0}, api.Packet{}, api.ErrEnd},
		{[]byte{1, 7, 1, 4, 1, 1, 1, 1, 1}, api.Packet{}, api.ErrEnd},
		{[]byte{1, 7, 4, 0, 9}, api.Packet{}, api.ErrEnd},
		{[]byte{1, 7, 255, 255}, api.Packet{}, api.ErrEnd},
		{[]byte{1, 7, 128, 4, 9}, api.Packet{}, api.ErrEnd},
	} {
		if p, e := Get(x.b); textOf(p) != textOf(x.want) || e != x.err {
			t.Errorf("Get(%v): %v, %d", x.b, p, e)
		}
	}
}

// TestCountHasTwoBytes reads counts that need their higher byte, of just as many bytes as there are, of one more, and of fewer.
func TestCountHasTwoBytes(t *testing.T) { // P13.1
	for _, n := range []int{255, 256, 257, 258, 259, 260, 511, 512, 515, 516, 1024, 32767, 32768, 32772, 65280, 65534, 65535} {
		b := bytes.Repeat([]byte{0xe7}, n)
		copy(b, []byte{9, 3, byte(n >> 8), byte(n)})
		want := api.Packet{Code: 9, Id: 3, Data: bytes.Repeat([]byte{0xe7}, n-4)}
		if p, e := Get(b); textOf(p) != textOf(want) || e != api.OK {
			t.Errorf("Get of %d bytes: %d of Data, %d", n, len(p.Data), e)
		}
		if p, e := Get(append(bytes.Clone(b), 0xe7, 0xe7)); textOf(p) != textOf(want) || e != api.OK {
			t.Errorf("Get of %d bytes and two of padding: %d of Data, %d", n, len(p.Data), e)
		}
		if p, e := Get(b[:n-1]); textOf(p) != textOf(api.Packet{}) || e != api.ErrEnd {
			t.Errorf("Get of one byte fewer than %d: %d of Data, %d", n, len(p.Data), e)
		}
	}
}

func TestAllCounts(t *testing.T) { // P13.1
	b := append([]byte{2, 9, 0, 0}, bytes.Repeat([]byte{5, 6, 7, 8}, 90)...)
	for n := range 65536 {
		b[2], b[3] = byte(n>>8), byte(n)
		for _, size := range []int{4, 5, 6, 8, 259, 260, 261, 364} {
			want, wantErr := getByWords(b[:size])
			if p, e := Get(b[:size]); e != wantErr || p.Code != want.Code || p.Id != want.Id || !bytes.Equal(p.Data, want.Data) {
				t.Fatalf("Get of %d bytes, with the count %d: %.100s, %d", size, n, textOf(p), e)
			}
		}
	}
}

// TestAllShortBytes reads all lists of at most seven bytes of four values, which are counts, and bytes of them, too.
func TestAllShortBytes(t *testing.T) { // P13.1
	last := [][]byte{nil}
	for range 8 {
		var longer [][]byte
		for _, b := range last {
			checkGet(t, b)
			for _, c := range []byte{0, 3, 4, 6} {
				longer = append(longer, append(slices.Clip(b), c))
			}
		}
		last = longer
	}
}

func TestSame(t *testing.T) { // P13.1
	p := api.Packet{Code: 1, Id: 7, Data: []byte{5, 220}}
	for _, x := range []struct {
		a, b api.Packet
		want bool
	}{
		{api.Packet{}, api.Packet{}, true}, {p, p, true}, {p, api.Packet{Code: 1, Id: 7, Data: []byte{5, 220}}, true},
		{api.Packet{Code: 1, Id: 7}, api.Packet{Code: 1, Id: 7, Data: []byte{}}, true}, {api.Packet{Data: make([]byte, 0, 5)}, api.Packet{}, true},
		// Unlike in one field alone.
		{p, api.Packet{Code: 2, Id: 7, Data: p.Data}, false}, {p, api.Packet{Code: 1, Id: 8, Data: p.Data}, false},
		{p, api.Packet{Code: 1, Id: 7, Data: []byte{5, 221}}, false}, {p, api.Packet{Code: 1, Id: 7, Data: []byte{6, 220}}, false}, {p, api.Packet{Code: 1, Id: 7, Data: []byte{220, 5}}, false},
		{api.Packet{Code: 1}, api.Packet{}, false}, {api.Packet{Id: 1}, api.Packet{}, false}, {api.Packet{Data: []byte{0}}, api.Packet{}, false},
		// Unlike in how many Data they have.
		{p, api.Packet{Code: 1, Id: 7, Data: []byte{5}}, false}, {p, api.Packet{Code: 1, Id: 7, Data: []byte{5, 220, 0}}, false}, {p, api.Packet{Code: 1, Id: 7}, false}, {p, api.Packet{Code: 1, Id: 7, Data: []byte{5, 220, 5, 220}}, false},
		{p, api.Packet{Code: 7, Id: 1, Data: p.Data}, false}, {p, api.Packet{}, false},
		// Packets that may not be.
		{api.Packet{Code: 1}, api.Packet{Code: 257}, false}, {api.Packet{Code: -1}, api.Packet{Code: 255}, false}, {api.Packet{Id: 1}, api.Packet{Id: 1<<32 + 1}, false}, {api.Packet{Id: -1}, api.Packet{Id: 255}, false},
		{api.Packet{Code: -1, Id: 999}, api.Packet{Code: -1, Id: 999}, true}, {api.Packet{Code: math.MinInt}, api.Packet{Code: math.MaxInt}, false},
		{api.Packet{Data: make([]byte, tooLong)}, api.Packet{Data: make([]byte, tooLong)}, true}, {api.Packet{Data: make([]byte, longest)}, api.Packet{Data: make([]byte, tooLong)}, false}, {api.Packet{Data: make([]byte, 65536)}, api.Packet{}, false},
	} {
		if Same(x.a, x.b) != x.want || Same(x.b, x.a) != x.want {
			t.Errorf("Same(%.100s, %.100s): %v", textOf(x.a), textOf(x.b), !x.want)
		}
	}
	for i, a := range somePackets() {
		for j, b := range somePackets() {
			if Same(a, b) != (i == j) {
				t.Errorf("Same(%.100s, %.100s): %v", textOf(a), textOf(b), i != j)
			}
		}
	}
}

// TestUnlikeInOneByte turns each bit of Data, one by one.
func TestUnlikeInOneByte(t *testing.T) { // P13.1
	a := api.Packet{Code: 9, Id: 9, Data: bytes.Repeat([]byte{1, 2, 3}, 100)}
	b := api.Packet{Code: 9, Id: 9, Data: bytes.Clone(a.Data)}
	for i := range b.Data {
		for bit := range 8 {
			b.Data[i] ^= 1 << bit
			if Same(a, b) || Same(b, a) {
				t.Errorf("Same, with the bit %d of the byte %d turned: true", bit, i)
			}
			b.Data[i] ^= 1 << bit
		}
	}
}

// someData are carried by packets of each Code: what chapter 12 reads and what it doesn't, and the edges of Magic and Rejected.
func someData() [][]byte {
	return [][]byte{
		nil, {}, {1}, {0}, {7, 2}, {0, 2}, {255, 255}, {7, 1}, {7, 0}, {7, 3}, {7, 2, 8}, {7, 3, 8}, {0xc0, 0x21, 9}, {1, 2, 3}, {255, 255, 255},
		{1, 4, 5, 220}, {1, 2, 3, 4}, {1, 2, 3, 2}, {255, 255, 255, 255}, {0, 0, 0, 0}, {128, 0, 0, 0}, {0, 0, 0, 1}, {7, 2, 8, 2},
		{1, 2, 3, 4, 5}, {7, 2, 8, 3, 9}, {255, 255, 255, 255, 0}, {7, 4, 0, 0, 8, 2}, {7, 4, 0, 0, 8, 1}, {7, 4, 0, 0, 8, 3},
		append([]byte{9, 255}, make([]byte, 253)...), make([]byte, 300), bytes.Repeat([]byte{8, 2}, tooLong), bytes.Repeat([]byte{8, 2}, 5000), append(bytes.Repeat([]byte{8, 2}, 5000), 8),
	}
}

func TestEachCodeAndData(t *testing.T) { // P13.2
	codes := slices.Clone(farNumbers)
	for n := -20; n <= 300; n++ {
		codes = append(codes, n)
	}
	for _, code := range codes {
		for _, id := range []int{0, 8, 255, -1, 256} {
			for _, data := range someData()[:29] {
				checkCarried(t, api.Packet{Code: code, Id: id, Data: data})
			}
		}
	}
	for code := range 13 {
		for _, data := range someData()[29:] {
			checkCarried(t, api.Packet{Code: code, Id: 1, Data: data})
		}
	}
}

func TestOptions(t *testing.T) { // P13.2
	for code := range 13 {
		for _, x := range []struct {
			data []byte
			want []api.Option
			ok   bool
		}{
			{nil, nil, true}, {[]byte{}, nil, true},
			{[]byte{1, 4, 5, 220}, []api.Option{{Type: 1, Data: []byte{5, 220}}}, true},
			{[]byte{7, 2, 1, 4, 5, 220, 7, 2}, []api.Option{{Type: 7}, {Type: 1, Data: []byte{5, 220}}, {Type: 7}}, true},
			{[]byte{1}, nil, false}, {[]byte{1, 1}, nil, false}, {[]byte{1, 3}, nil, false},
			{[]byte{7, 2, 1}, nil, false}, {[]byte{7, 2, 1, 0}, nil, false}, {[]byte{7, 2, 1, 4, 5}, nil, false},
		} {
			wantOk := x.ok && (code == 1 || code == 2 || code == 3 || code == 4)
			want := ""
			if wantOk {
				want = textOfOptions(x.want)
			}
			if l, ok := Options(api.Packet{Code: code, Id: 5, Data: x.data}); textOfOptions(l) != want || ok != wantOk {
				t.Errorf("Options of the Code %d, of %v: %v, %v", code, x.data, l, ok)
			}
		}
	}
}

func TestMagic(t *testing.T) { // P13.2
	for code := range 13 {
		for _, x := range []struct {
			data []byte
			want uint32
			rest []byte
			ok   bool
		}{
			{nil, 0, nil, false}, {[]byte{1}, 0, nil, false}, {[]byte{1, 2}, 0, nil, false}, {[]byte{1, 2, 3}, 0, nil, false},
			{[]byte{1, 2, 3, 4}, 0x01020304, nil, true}, {[]byte{0, 0, 0, 0}, 0, nil, true}, {[]byte{255, 255, 255, 255}, math.MaxUint32, nil, true}, {[]byte{128, 0, 0, 0}, 1 << 31, nil, true},
			{[]byte{1, 2, 3, 4, 5}, 0x01020304, []byte{5}, true}, {[]byte{255, 255, 255, 255, 0, 1}, math.MaxUint32, []byte{0, 1}, true}, {[]byte{0, 0, 0, 1, 0, 0, 0, 2}, 1, []byte{0, 0, 0, 2}, true},
		} {
			wantOk := x.ok && (code == 9 || code == 10 || code == 11)
			if !wantOk {
				x.want, x.rest = 0, nil
			}
			if n, rest, ok := Magic(api.Packet{Code: code, Id: 5, Data: x.data}); n != x.want || !bytes.Equal(rest, x.rest) || ok != wantOk {
				t.Errorf("Magic of the Code %d, of %v: %x, %v, %v", code, x.data, n, rest, ok)
			}
		}
	}
}

func TestRejected(t *testing.T) { // P13.2
	for code := range 13 {
		for _, x := range []struct {
			data []byte
			want int
			rest []byte
			ok   bool
		}{
			{nil, 0, nil, false}, {[]byte{0x80}, 0, nil, false},
			{[]byte{0x80, 0x21}, 0x8021, nil, true}, {[]byte{0, 0}, 0, nil, true}, {[]byte{255, 255}, 0xffff, nil, true}, {[]byte{0, 0x21}, api.Ip, nil, true},
			{[]byte{0x80, 0x21, 1}, 0x8021, []byte{1}, true}, {[]byte{0x80, 0x57, 1, 7, 0, 4}, 0x8057, []byte{1, 7, 0, 4}, true}, {[]byte{1, 2, 3, 4}, 0x0102, []byte{3, 4}, true},
		} {
			wantOk := x.ok && code == 8
			if !wantOk {
				x.want, x.rest = 0, nil
			}
			if n, rest, ok := Rejected(api.Packet{Code: code, Id: 5, Data: x.data}); n != x.want || !bytes.Equal(rest, x.rest) || ok != wantOk {
				t.Errorf("Rejected of the Code %d, of %v: %x, %v, %v", code, x.data, n, rest, ok)
			}
		}
	}
}

// TestUnlikePacketsHaveUnlikeBytes also lays all packets one behind the other, and takes them away one by one.
func TestUnlikePacketsHaveUnlikeBytes(t *testing.T) { // P13.3
	seen := map[string]string{}
	var row []byte
	for _, p := range somePackets() {
		b, e := Put(p)
		if e != api.OK {
			t.Fatalf("Put(%.100s): %d", textOf(p), e)
		}
		if other, ok := seen[string(b)]; ok {
			t.Errorf("%.100s and %.100s have the same bytes", other, textOf(p))
		}
		seen[string(b)] = textOf(p)
		row = append(row, b...)
	}
	for _, p := range somePackets() {
		q, e := Get(row)
		if textOf(q) != textOf(p) || e != api.OK {
			t.Fatalf("%.100s, put ahead of others, is read as %.100s, %d", textOf(p), textOf(q), e)
		}
		row = row[4+len(p.Data):]
	}
}

func bytesByChance(r *rand.Rand, n int) []byte {
	b := make([]byte, n)
	for i := range b {
		b[i] = byte(r.Intn(256))
	}
	return b
}

// packetByChance may be, but for one of some twenty.
func packetByChance(r *rand.Rand) api.Packet {
	p := api.Packet{Code: r.Intn(256), Id: r.Intn(256), Data: bytesByChance(r, r.Intn(2000)>>r.Intn(10))}
	switch r.Intn(60) {
	case 0:
		p.Code = r.Intn(1000) - 300
	case 1:
		p.Id = r.Intn(1000) - 300
	case 2:
		p.Data = make([]byte, tooLong-2+r.Intn(4))
	}
	return p
}

func TestPacketsByChance(t *testing.T) { // P13.1, P13.3
	r := rand.New(rand.NewSource(13))
	for range 2000 {
		p := packetByChance(r)
		checkPut(t, p)
		other := packetByChance(r)
		switch r.Intn(4) {
		case 0:
			other = p
		case 1:
			other = api.Packet{Code: p.Code, Id: p.Id, Data: p.Data[:len(p.Data)/2]}
		}
		if Same(p, other) != (textOf(p) == textOf(other)) {
			t.Errorf("Same(%.100s, %.100s): %v", textOf(p), textOf(other), Same(p, other))
		}
	}
}

func TestBytesByChance(t *testing.T) { // P13.1, P13.2
	r := rand.New(rand.NewSource(31))
	for range 20000 {
		b := bytesByChance(r, r.Intn(600)>>r.Intn(8))
		if len(b) > 4 && r.Intn(4) != 0 {
			n := len(b) + r.Intn(8) - 4
			b[2], b[3] = byte(n>>8), byte(n)
		}
		checkGet(t, b)
	}
	for range 20000 {
		var data []byte
		for range r.Intn(6) {
			size := r.Intn(9)
			data = append(data, byte(r.Intn(256)), byte(2+size))
			data = append(data, bytesByChance(r, size)...)
		}
		if r.Intn(3) == 0 {
			data = data[:r.Intn(len(data)+1)]
		}
		checkCarried(t, api.Packet{Code: r.Intn(13), Id: r.Intn(256), Data: data})
	}
}

// TestLongData holds that Data of any length is gone through, and that the time goes up with it, not with its square.
func TestLongData(t *testing.T) { // P1
	data := bytes.Repeat([]byte{7, 2}, 1<<20)
	if l, ok := Options(api.Packet{Code: 4, Data: data}); len(l) != 1<<20 || !ok {
		t.Errorf("Options of %d bytes: %d, %v", len(data), len(l), ok)
	}
	if l, ok := Options(api.Packet{Code: 4, Data: data[:len(data)-1]}); len(l) != 0 || ok {
		t.Errorf("Options of %d bytes: %d, %v", len(data)-1, len(l), ok)
	}
	if n, rest, ok := Magic(api.Packet{Code: 9, Data: data}); n != 0x07020702 || !bytes.Equal(rest, data[4:]) || !ok {
		t.Errorf("Magic of %d bytes: %x, %d bytes, %v", len(data), n, len(rest), ok)
	}
	if n, rest, ok := Rejected(api.Packet{Code: 8, Data: data}); n != 0x0702 || !bytes.Equal(rest, data[2:]) || !ok {
		t.Errorf("Rejected of %d bytes: %x, %d bytes, %v", len(data), n, len(rest), ok)
	}
	b := append([]byte{9, 1, 255, 255}, data...)
	if p, e := Get(b); !Same(p, api.Packet{Code: 9, Id: 1, Data: data[:longest]}) || e != api.OK {
		t.Errorf("Get of %d bytes: %d bytes, %d", len(b), len(p.Data), e)
	}
}
