package option

import (
	"bytes"
	"math"
	"math/rand"
	"slices"
	"strconv"
	"strings"
	"testing"

	"umpire/api"
)

const (
	longest = 253
	tooLong = longest + 1
)

// farTypes may not be: those just beyond both ends, and those of which a smaller size of number keeps bits that would do.
var farTypes = []int{-1, -2, -128, -255, -256, -257, 256, 257, 258, 511, 512, 65535, 65536, 65537, 1 << 31, 1<<31 + 1, 1 << 32, 1<<32 + 1, 1 << 62, math.MinInt, math.MinInt + 1, math.MinInt + 255, math.MaxInt, math.MaxInt - 255}

// errByWords tells what is wrong with an option, as the chapter says it.
func errByWords(o api.Option) api.Errno {
	switch {
	case o.Type != int(uint8(o.Type)):
		return api.ErrArg
	case len(o.Data) > 253:
		return api.ErrLong
	}
	return api.OK
}

// putByWords writes a list down, option by option, or tells the first one's error.
func putByWords(l []api.Option) ([]byte, api.Errno) {
	var parts [][]byte
	for _, o := range l {
		if e := errByWords(o); e != api.OK {
			return nil, e
		}
		parts = append(parts, []byte{byte(o.Type)}, []byte{byte(len(o.Data) + 2)}, o.Data)
	}
	return bytes.Join(parts, nil), api.OK
}

// readByWords takes the first option away, and goes on with the rest.
func readByWords(b []byte) ([]api.Option, api.Spot) {
	var l []api.Option
	rest := b
	for len(rest) > 0 {
		at := len(b) - len(rest)
		switch {
		case len(rest) == 1:
			return nil, api.Spot{At: at, Err: api.ErrEnd}
		case rest[1] == 0 || rest[1] == 1:
			return nil, api.Spot{At: at, Err: api.ErrForm}
		case len(rest) < int(rest[1]):
			return nil, api.Spot{At: at, Err: api.ErrEnd}
		}
		l = append(l, api.Option{Type: int(rest[0]), Data: rest[2:rest[1]]})
		rest = rest[rest[1]:]
	}
	return l, api.Spot{}
}

// textOf tells an option by a text that no unlike option has.
func textOf(o api.Option) string {
	return strconv.Itoa(o.Type) + ":" + strconv.Quote(string(o.Data)) + ";"
}

// textOfAll tells a list by a text that no unlike list has.
func textOfAll(l []api.Option) string {
	var b strings.Builder
	for _, o := range l {
		b.WriteString(textOf(o))
	}
	return b.String()
}

// sameByWords holds two lists against each other by their texts.
func sameByWords(a, b []api.Option) bool {
	return textOfAll(a) == textOfAll(b)
}

// picks answers each list that is left when some options are taken out, or none.
func picks(l []api.Option) [][]api.Option {
	var out [][]api.Option
	for mask := range 1 << len(l) {
		var left []api.Option
		for i, o := range l {
			if mask>>i&1 == 1 {
				left = append(left, o)
			}
		}
		out = append(out, left)
	}
	return out
}

// twiceByWords holds each option against each one behind it.
func twiceByWords(l []api.Option) bool {
	for i, a := range l {
		for _, b := range l[i+1:] {
			if a.Type == b.Type {
				return true
			}
		}
	}
	return false
}

// checkPut holds what is put against the chapter's words, and what is read of it against what was put.
func checkPut(t *testing.T, l []api.Option) {
	t.Helper()
	want, wantErr := putByWords(l)
	b, e := Put(l)
	if !bytes.Equal(b, want) || e != wantErr {
		t.Errorf("Put(%.200v): %.200x, %d and not %.200x, %d", l, b, e, want, wantErr)
	}
	if e != api.OK {
		return
	}
	if k, s := Read(b); !sameByWords(k, l) || s != (api.Spot{}) {
		t.Errorf("%.200v, put, is read as %.200v, %v", l, k, s)
	}
}

// checkRead holds what is read of b against the chapter's words, and what is read without a fault, put again, against b.
func checkRead(t *testing.T, b []byte) {
	t.Helper()
	want, wantSpot := readByWords(b)
	l, s := Read(b)
	if !sameByWords(l, want) || s != wantSpot {
		t.Errorf("Read(%x): %v, %v and not %v, %v", b, l, s, want, wantSpot)
	}
	if s != (api.Spot{}) {
		return
	}
	if again, e := Put(l); !bytes.Equal(again, b) || e != api.OK {
		t.Errorf("%x, read and put again: %x, %d", b, again, e)
	}
}

// someOptions may be: the edges of Type and of Data, Types that stand more than once, and Data that looks like options.
func someOptions() []api.Option {
	return []api.Option{
		{Type: 1, Data: []byte{5, 220}},
		{Type: 255},
		{Type: 0, Data: bytes.Repeat([]byte{1, 2, 3}, 84)},
		{Type: 3, Data: []byte{0xc2, 0x23, 5}},
		{Type: 1, Data: []byte{5, 221}},
		{Type: 2, Data: []byte{1, 4, 5, 220}},
		{Type: 254, Data: bytes.Repeat([]byte{0xe7}, longest)},
		{Type: 0},
		{Type: 3},
		{Type: 255, Data: []byte{0}},
	}
}

// fewOptions are unlike in a Type alone, in Data alone, or in how long Data is.
func fewOptions() []api.Option {
	return []api.Option{{Type: 1}, {Type: 2}, {Type: 1, Data: []byte{1}}, {Type: 1, Data: []byte{2}}, {Type: 1, Data: []byte{1, 2}}}
}

// listsOf answers all lists of at most n options out of l.
func listsOf(l []api.Option, n int) [][]api.Option {
	out := [][]api.Option{nil}
	last := out
	for range n {
		var longer [][]api.Option
		for _, a := range last {
			for _, o := range l {
				longer = append(longer, append(slices.Clip(a), o))
			}
		}
		out = append(out, longer...)
		last = longer
	}
	return out
}

func TestExamples(t *testing.T) { // P12.1, P12.2
	l := []api.Option{{Type: 1, Data: []byte{5, 220}}}
	if got, s := Read([]byte{1, 4, 5, 220}); !sameByWords(got, l) || s != (api.Spot{}) {
		t.Errorf("Read(1 4 5 220): %v, %v", got, s)
	}
	if b, e := Put(l); !bytes.Equal(b, []byte{1, 4, 5, 220}) || e != api.OK {
		t.Errorf("Put(%v): %v, %d", l, b, e)
	}
	if got, s := Read([]byte{1, 1}); len(got) != 0 || s != (api.Spot{At: 0, Err: api.ErrForm}) {
		t.Errorf("Read(1 1): %v, %v", got, s)
	}
	if got, s := Read([]byte{1, 3}); len(got) != 0 || s != (api.Spot{At: 0, Err: api.ErrEnd}) {
		t.Errorf("Read(1 3): %v, %v", got, s)
	}
}

func TestPutOfNoOptions(t *testing.T) { // P12.1
	for _, none := range [][]api.Option{nil, {}, make([]api.Option, 0, 3)} {
		if b, e := Put(none); len(b) != 0 || e != api.OK {
			t.Errorf("Put of no options: %v, %d", b, e)
		}
	}
}

func TestPut(t *testing.T) { // P12.1
	for _, x := range []struct {
		l    []api.Option
		want []byte
	}{
		{[]api.Option{{}}, []byte{0, 2}},
		{[]api.Option{{Type: 255}}, []byte{255, 2}},
		{[]api.Option{{Type: 7, Data: []byte{}}}, []byte{7, 2}},
		{[]api.Option{{Type: 8, Data: []byte{0}}}, []byte{8, 3, 0}},
		{[]api.Option{{Type: 5, Data: []byte{1, 2, 3, 4}}, {Type: 7}, {Type: 8}}, []byte{5, 6, 1, 2, 3, 4, 7, 2, 8, 2}},
		{[]api.Option{{Type: 8}, {Type: 7}, {Type: 8}}, []byte{8, 2, 7, 2, 8, 2}},
		{[]api.Option{{Type: 2, Data: make([]byte, longest)}}, append([]byte{2, 255}, make([]byte, longest)...)},
	} {
		if b, e := Put(x.l); !bytes.Equal(b, x.want) || e != api.OK {
			t.Errorf("Put(%v): %v, %d", x.l, b, e)
		}
	}
	every := someOptions()
	for n := range len(every) + 1 {
		checkPut(t, every[:n])
		checkPut(t, every[n:])
	}
}

func TestEachType(t *testing.T) { // P12.1, P12.2
	for n := -600; n <= 600; n++ {
		checkPut(t, []api.Option{{Type: n}})
		checkPut(t, []api.Option{{Type: 1}, {Type: n, Data: []byte{9}}, {Type: 2}})
	}
	for _, n := range farTypes {
		for _, size := range []int{0, 1, longest} {
			if b, e := Put([]api.Option{{Type: n, Data: make([]byte, size)}}); len(b) != 0 || e != api.ErrArg {
				t.Errorf("Put of the Type %d: %v, %d", n, b, e)
			}
		}
	}
}

func TestLengthsOfData(t *testing.T) { // P12.1, P12.2
	if api.MaxOption != longest {
		t.Fatal("MaxOption is", api.MaxOption)
	}
	for size := range 600 {
		for _, kind := range []int{0, 1, 255} {
			o := api.Option{Type: kind, Data: bytes.Repeat([]byte{0xe7}, size)}
			checkPut(t, []api.Option{o})
			checkPut(t, []api.Option{o, o})
			checkPut(t, []api.Option{{Type: 4}, o, {Type: 5}})
		}
	}
	for _, size := range []int{tooLong, tooLong + 1, 256, 509, 510, 65535, 65536, 65790, 1 << 20} {
		if b, e := Put([]api.Option{{Type: 1, Data: make([]byte, size)}}); len(b) != 0 || e != api.ErrLong {
			t.Errorf("Put of %d bytes of Data: %d bytes, %d", size, len(b), e)
		}
	}
}

func TestPutOfBothFaults(t *testing.T) { // P12.1
	for _, n := range farTypes {
		for _, size := range []int{tooLong, 256, 65536} {
			if b, e := Put([]api.Option{{Type: n, Data: make([]byte, size)}}); len(b) != 0 || e != api.ErrArg {
				t.Errorf("Put of the Type %d with %d bytes: %v, %d", n, size, b, e)
			}
		}
	}
}

// TestFirstFaultTells lays two options that may not be at each two places of a list of good ones.
func TestFirstFaultTells(t *testing.T) { // P12.1
	arg := api.Option{Type: 256}
	long := api.Option{Type: 1, Data: make([]byte, tooLong)}
	both := api.Option{Type: -1, Data: make([]byte, tooLong)}
	good := []api.Option{{Type: 1, Data: []byte{5, 220}}, {Type: 7}, {Type: 8}, {Type: 3, Data: []byte{1}}}
	for _, x := range []struct {
		first, second api.Option
		want          api.Errno
	}{
		{arg, long, api.ErrArg}, {long, arg, api.ErrLong}, {both, long, api.ErrArg}, {long, both, api.ErrLong}, {arg, arg, api.ErrArg}, {long, long, api.ErrLong},
	} {
		for i := range len(good) + 1 {
			for j := i; j <= len(good); j++ {
				l := slices.Concat(good[:i], []api.Option{x.first}, good[i:j], []api.Option{x.second}, good[j:])
				if b, e := Put(l); len(b) != 0 || e != x.want {
					t.Errorf("faults at %d and %d: %d bytes, %d and not %d", i, j+1, len(b), e, x.want)
				}
			}
			alone := slices.Insert(slices.Clone(good), i, x.first)
			if b, e := Put(alone); len(b) != 0 || e != x.want {
				t.Errorf("a fault at %d: %d bytes, %d and not %d", i, len(b), e, x.want)
			}
		}
	}
}

func TestReadOfNoBytes(t *testing.T) { // P12.2
	for _, none := range [][]byte{nil, {}, make([]byte, 0, 4)} {
		if l, s := Read(none); len(l) != 0 || s != (api.Spot{}) {
			t.Errorf("Read of no bytes: %v, %v", l, s)
		}
	}
}

func TestRead(t *testing.T) { // P12.2
	for _, x := range []struct {
		b    []byte
		want []api.Option
	}{
		{[]byte{0, 2}, []api.Option{{}}},
		{[]byte{7, 2, 8, 2}, []api.Option{{Type: 7}, {Type: 8}}},
		{[]byte{255, 3, 9}, []api.Option{{Type: 255, Data: []byte{9}}}},
		{[]byte{2, 6, 1, 4, 5, 220}, []api.Option{{Type: 2, Data: []byte{1, 4, 5, 220}}}},
		{[]byte{2, 2, 1, 4, 5, 220}, []api.Option{{Type: 2}, {Type: 1, Data: []byte{5, 220}}}},
		{[]byte{1, 3, 5, 1, 3, 5}, []api.Option{{Type: 1, Data: []byte{5}}, {Type: 1, Data: []byte{5}}}},
		{append([]byte{4, 255}, make([]byte, 253)...), []api.Option{{Type: 4, Data: make([]byte, longest)}}},
	} {
		if l, s := Read(x.b); !sameByWords(l, x.want) || s != (api.Spot{}) {
			t.Errorf("Read(%v): %v, %v", x.b, l, s)
		}
	}
}

// TestFaults lays the wrong bytes at the beginning, and behind good options.
func TestFaults(t *testing.T) { // P12.2
	for _, ahead := range [][]byte{nil, {7, 2}, {1, 4, 5, 220}, {7, 2, 8, 2, 3, 5, 0xc2, 0x23, 5}, append([]byte{9, 255}, make([]byte, 253)...)} {
		for _, x := range []struct {
			b    []byte
			want api.Errno
		}{
			{[]byte{0}, api.ErrEnd}, {[]byte{1}, api.ErrEnd}, {[]byte{2}, api.ErrEnd}, {[]byte{255}, api.ErrEnd},
			{[]byte{1, 0}, api.ErrForm}, {[]byte{1, 1}, api.ErrForm}, {[]byte{0, 0}, api.ErrForm}, {[]byte{255, 1}, api.ErrForm},
			{[]byte{1, 0, 9, 9}, api.ErrForm}, {[]byte{1, 1, 9, 9}, api.ErrForm},
			{[]byte{1, 3}, api.ErrEnd}, {[]byte{1, 4, 5}, api.ErrEnd}, {[]byte{1, 255}, api.ErrEnd}, {[]byte{1, 128, 3}, api.ErrEnd},
			{append([]byte{1, 255}, make([]byte, 252)...), api.ErrEnd},
		} {
			b := slices.Concat(ahead, x.b)
			if l, s := Read(b); len(l) != 0 || s != (api.Spot{At: len(ahead), Err: x.want}) {
				t.Errorf("Read(%x): %v, %v and not none, %d at %d", b, l, s, x.want, len(ahead))
			}
		}
	}
}

// TestHowManyItHas holds each count against each number of bytes that are there.
func TestHowManyItHas(t *testing.T) { // P12.2
	for count := range 256 {
		for there := 2; there <= 258; there++ {
			b := make([]byte, there)
			b[0], b[1] = 6, byte(count)
			for i := 2; i < there; i++ {
				b[i] = 2
			}
			checkRead(t, b)
			l, s := Read(b)
			switch {
			case count < 2:
				if len(l) != 0 || s != (api.Spot{Err: api.ErrForm}) {
					t.Errorf("count %d, %d bytes: %v, %v", count, there, l, s)
				}
			case count > there:
				if len(l) != 0 || s != (api.Spot{Err: api.ErrEnd}) {
					t.Errorf("count %d, %d bytes: %v, %v", count, there, l, s)
				}
			case count == there:
				if len(l) != 1 || l[0].Type != 6 || len(l[0].Data) != count-2 || s != (api.Spot{}) {
					t.Errorf("count %d, %d bytes: %v, %v", count, there, l, s)
				}
			}
		}
	}
}

func TestFirstFaultIsRead(t *testing.T) { // P12.2
	for _, x := range []struct {
		b    []byte
		want api.Spot
	}{
		{[]byte{1, 0, 1, 1, 9}, api.Spot{At: 0, Err: api.ErrForm}},
		{[]byte{7, 2, 1, 1, 1, 9}, api.Spot{At: 2, Err: api.ErrForm}},
		{[]byte{7, 2, 8, 9, 1, 0}, api.Spot{At: 2, Err: api.ErrEnd}},
		{[]byte{7, 3, 0, 8, 0, 8, 9}, api.Spot{At: 3, Err: api.ErrForm}},
		{[]byte{1, 4, 1, 1, 1, 1, 4}, api.Spot{At: 4, Err: api.ErrForm}},
		{[]byte{1, 200, 1, 0, 1, 1}, api.Spot{At: 0, Err: api.ErrEnd}},
	} {
		if l, s := Read(x.b); len(l) != 0 || s != x.want {
			t.Errorf("Read(%v): %v, %v and not none, %v", x.b, l, s, x.want)
		}
	}
}

func TestEachPieceOfAList(t *testing.T) { // P12.2
	b, _ := putByWords(someOptions())
	for from := range b {
		for to := from; to <= len(b); to += 1 + (to-from)/9 {
			checkRead(t, b[from:to])
		}
	}
}

// TestAllShortBytes reads all lists of up to six bytes of six values.
func TestAllShortBytes(t *testing.T) { // P12.2
	var b [6]byte
	var fill func(n, size int)
	fill = func(n, size int) {
		if n == size {
			checkRead(t, b[:size])
			return
		}
		for _, c := range []byte{0, 1, 2, 3, 4, 255} {
			b[n] = c
			fill(n+1, size)
		}
	}
	for size := range len(b) + 1 {
		fill(0, size)
	}
}

func TestFind(t *testing.T) { // P12.3
	l := []api.Option{{Type: 7}, {Type: 1, Data: []byte{5, 220}}, {Type: 0, Data: []byte{1}}, {Type: 1, Data: []byte{9}}, {Type: 255, Data: []byte{2}}, {Type: 7, Data: []byte{3}}, {Type: -4, Data: []byte{4}}, {Type: 300, Data: make([]byte, 300)}, {Type: 1, Data: nil}}
	for _, x := range []struct {
		t    int
		want []byte
		ok   bool
	}{
		{1, []byte{5, 220}, true}, {7, nil, true}, {0, []byte{1}, true}, {255, []byte{2}, true}, {-4, []byte{4}, true}, {300, make([]byte, 300), true},
		{2, nil, false}, {8, nil, false}, {254, nil, false}, {-1, nil, false}, {256, nil, false}, {257, nil, false}, {44, nil, false}, {252, nil, false}, {-255, nil, false}, {1<<32 + 1, nil, false}, {math.MinInt, nil, false}, {math.MaxInt, nil, false},
	} {
		if b, ok := Find(l, x.t); !bytes.Equal(b, x.want) || ok != x.ok {
			t.Errorf("Find of the Type %d: %v, %v", x.t, b, ok)
		}
	}
	for _, none := range [][]api.Option{nil, {}} {
		for _, n := range []int{0, 1, -1} {
			if b, ok := Find(none, n); len(b) != 0 || ok {
				t.Errorf("Find of the Type %d in no options: %v, %v", n, b, ok)
			}
		}
	}
}

func TestFindTellsTheFirst(t *testing.T) { // P12.3
	for _, l := range listsOf(fewOptions(), 4) {
		for _, n := range []int{0, 1, 2} {
			at := slices.IndexFunc(l, func(o api.Option) bool { return o.Type == n })
			b, ok := Find(l, n)
			if ok != (at >= 0) || !ok && len(b) != 0 || ok && !bytes.Equal(b, l[at].Data) {
				t.Errorf("Find(%v, %d): %v, %v", l, n, b, ok)
			}
		}
	}
}

func TestSame(t *testing.T) { // P12.3
	a := api.Option{Type: 1, Data: []byte{5, 220}}
	b := api.Option{Type: 2, Data: []byte{5, 220}}
	c := api.Option{Type: 1, Data: []byte{5, 221}}
	shorter := api.Option{Type: 1, Data: []byte{5}}
	without := api.Option{Type: 1}
	for _, x := range []struct {
		a, b []api.Option
		want bool
	}{
		{nil, nil, true}, {nil, []api.Option{}, true}, {nil, []api.Option{a}, false},
		{[]api.Option{a}, []api.Option{a}, true}, {[]api.Option{a, b, c}, []api.Option{a, b, c}, true},
		{[]api.Option{a}, []api.Option{b}, false}, {[]api.Option{a}, []api.Option{c}, false}, {[]api.Option{a}, []api.Option{shorter}, false}, {[]api.Option{a}, []api.Option{without}, false},
		{[]api.Option{a, b}, []api.Option{b, a}, false}, {[]api.Option{a, c}, []api.Option{c, a}, false}, {[]api.Option{b, a, c}, []api.Option{b, c, a}, false},
		{[]api.Option{a}, []api.Option{a, a}, false}, {[]api.Option{a, b}, []api.Option{a}, false}, {[]api.Option{a, b}, []api.Option{b}, false}, {[]api.Option{without}, []api.Option{without, without}, false},
		{[]api.Option{without}, []api.Option{{Type: 1, Data: []byte{}}}, true}, {[]api.Option{without}, []api.Option{{Type: 1, Data: []byte{0}}}, false},
		{[]api.Option{{Type: 1}}, []api.Option{{Type: 257}}, false}, {[]api.Option{{Type: -1}}, []api.Option{{Type: 255}}, false}, {[]api.Option{{Type: -1}}, []api.Option{{Type: -1}}, true},
		{[]api.Option{{Type: 1, Data: make([]byte, 300)}}, []api.Option{{Type: 1, Data: make([]byte, 300)}}, true}, {[]api.Option{{Type: 1, Data: make([]byte, 300)}}, []api.Option{{Type: 1, Data: make([]byte, 44)}}, false},
	} {
		if Same(x.a, x.b) != x.want || Same(x.b, x.a) != x.want {
			t.Errorf("Same(%v, %v): %v", x.a, x.b, !x.want)
		}
	}
}

func TestWithin(t *testing.T) { // P12.3
	a := api.Option{Type: 1, Data: []byte{5, 220}}
	b := api.Option{Type: 2, Data: []byte{5, 220}}
	c := api.Option{Type: 1, Data: []byte{5, 221}}
	d := api.Option{Type: 7}
	for _, x := range []struct {
		a, b []api.Option
		want bool
	}{
		{nil, nil, true}, {nil, []api.Option{}, true}, {nil, []api.Option{a}, true}, {[]api.Option{a}, nil, false},
		{[]api.Option{a, b, c, d}, []api.Option{a, b, c, d}, true},
		// Gaps at the beginning, in the middle, at the end, and in more places than one.
		{[]api.Option{c, d}, []api.Option{a, b, c, d}, true}, {[]api.Option{a, d}, []api.Option{a, b, c, d}, true}, {[]api.Option{a, b}, []api.Option{a, b, c, d}, true},
		{[]api.Option{b}, []api.Option{a, b, c}, true}, {[]api.Option{a, c}, []api.Option{d, a, b, c, d}, true},
		// Another order.
		{[]api.Option{b, a}, []api.Option{a, b}, false}, {[]api.Option{a, c, b}, []api.Option{a, b, c, d}, false}, {[]api.Option{c, a}, []api.Option{a, c}, false},
		// Once more than the other has it.
		{[]api.Option{a, a}, []api.Option{a}, false}, {[]api.Option{a, a}, []api.Option{a, b, c}, false}, {[]api.Option{a, a, a}, []api.Option{a, b, a}, false}, {[]api.Option{a, a}, []api.Option{a, b, a}, true}, {[]api.Option{d, d}, []api.Option{d}, false},
		// Unlike in the Type alone, and in Data alone.
		{[]api.Option{a}, []api.Option{b}, false}, {[]api.Option{a}, []api.Option{c}, false}, {[]api.Option{d}, []api.Option{{Type: 7, Data: []byte{0}}}, false}, {[]api.Option{d}, []api.Option{{Type: 7, Data: []byte{}}}, true},
		// One that stands twice may be found the second time.
		{[]api.Option{b, a}, []api.Option{a, b, a}, true}, {[]api.Option{a, b}, []api.Option{a, a, b}, true}, {[]api.Option{a, b, a}, []api.Option{a, b}, false},
		{[]api.Option{a, b, c, d}, []api.Option{a, b, c}, false}, {[]api.Option{{Type: 1}}, []api.Option{{Type: 257}}, false}, {[]api.Option{{Type: -9}}, []api.Option{a, {Type: -9}}, true},
	} {
		if Within(x.a, x.b) != x.want {
			t.Errorf("Within(%v, %v): %v", x.a, x.b, !x.want)
		}
	}
}

// TestAllShortLists holds Same, Within and Twice of all short lists against the chapter's words: a list is within
// another just if it is left when some of the other's options are taken out.
func TestAllShortLists(t *testing.T) { // P12.3, P12.4
	lists := listsOf(fewOptions()[:4], 4)
	for _, b := range lists {
		left := map[string]bool{}
		for _, p := range picks(b) {
			left[textOfAll(p)] = true
		}
		if Twice(b) != twiceByWords(b) {
			t.Errorf("Twice(%v): %v", b, Twice(b))
		}
		for _, a := range lists {
			text := textOfAll(a)
			if Within(a, b) != left[text] {
				t.Errorf("Within(%v, %v): %v", a, b, Within(a, b))
			}
			if Same(a, b) != (text == textOfAll(b)) {
				t.Errorf("Same(%v, %v): %v", a, b, Same(a, b))
			}
		}
	}
}

func TestTwice(t *testing.T) { // P12.3
	var every []api.Option
	for n := range 256 {
		every = append(every, api.Option{Type: n})
	}
	for _, x := range []struct {
		l    []api.Option
		want bool
	}{
		{nil, false}, {[]api.Option{}, false}, {[]api.Option{{}}, false}, {[]api.Option{{Type: 1, Data: []byte{1}}}, false},
		{[]api.Option{{Type: 1}, {Type: 1}}, true}, {[]api.Option{{Type: 1, Data: []byte{1}}, {Type: 1, Data: []byte{2}}}, true}, {[]api.Option{{}, {Data: []byte{2}}}, true},
		{[]api.Option{{Type: 1, Data: []byte{1}}, {Type: 2, Data: []byte{1}}}, false}, {[]api.Option{{}, {Type: 1}}, false},
		{[]api.Option{{Type: 1}, {Type: 2}, {Type: 1}}, true}, {[]api.Option{{Type: 2}, {Type: 1}, {Type: 1}}, true}, {[]api.Option{{Type: 3}, {Type: 1}, {Type: 2}}, false},
		{[]api.Option{{Type: -1}, {Type: 255}, {Type: 511}}, false}, {[]api.Option{{Type: 1}, {Type: 257}, {Type: 1<<32 + 1}}, false}, {[]api.Option{{Type: -1}, {Type: 1}, {Type: -1}}, true}, {[]api.Option{{Type: math.MinInt}, {Type: math.MaxInt}, {Type: math.MinInt}}, true},
		{every, false},
	} {
		if Twice(x.l) != x.want {
			t.Errorf("Twice(%v): %v", x.l, !x.want)
		}
	}
	for i := range every {
		for _, at := range []int{0, 1, 128, 255, 256} {
			if l := slices.Insert(slices.Clone(every), at, api.Option{Type: i, Data: []byte{1}}); !Twice(l) {
				t.Errorf("Twice of all Types, with %d at %d once more: false", i, at)
			}
		}
	}
}

func TestUnlikeListsHaveUnlikeBytes(t *testing.T) { // P12.4
	l := append(fewOptions(), api.Option{Type: 2, Data: []byte{1, 2}}, api.Option{Type: 2, Data: []byte{1, 3, 1}}, api.Option{Type: 1, Data: []byte{1, 3, 1, 2, 2}}, api.Option{Type: 0, Data: []byte{0, 2}}, api.Option{}, api.Option{Data: []byte{0}})
	seen := map[string]string{}
	for _, a := range listsOf(l, 4) {
		b, e := Put(a)
		if e != api.OK {
			t.Fatalf("Put(%v): %d", a, e)
		}
		text := textOfAll(a)
		if other, ok := seen[string(b)]; ok && other != text {
			t.Errorf("%s and %s have the same bytes: %v", other, text, b)
		}
		seen[string(b)] = text
		if k, s := Read(b); !sameByWords(k, a) || s != (api.Spot{}) {
			t.Errorf("%v, put, is read as %v, %v", a, k, s)
		}
	}
}

func TestWhatIsLeftIsWithin(t *testing.T) { // P12.4
	every := someOptions()
	for _, left := range picks(every) {
		if !Within(left, every) {
			t.Errorf("what is left of a list, %.200v, isn't within it", left)
		}
		if Within(every, left) != (len(left) == len(every)) || Same(every, left) != (len(left) == len(every)) {
			t.Errorf("a list is within less than it is: %.200v", left)
		}
	}
}

func bytesByChance(r *rand.Rand, n int) []byte {
	b := make([]byte, n)
	for i := range b {
		b[i] = byte(r.Intn(256))
	}
	return b
}

// optionByChance may be, but for one of some forty.
func optionByChance(r *rand.Rand) api.Option {
	o := api.Option{Type: r.Intn(256), Data: bytesByChance(r, r.Intn(longest+1)>>r.Intn(8))}
	if r.Intn(40) == 0 {
		o.Type = r.Intn(1000) - 300
	}
	if r.Intn(40) == 0 {
		o.Data = bytesByChance(r, tooLong-2+r.Intn(4))
	}
	return o
}

func TestListsByChance(t *testing.T) { // P12.1, P12.3, P12.4
	r := rand.New(rand.NewSource(12))
	for range 5000 {
		var l, left []api.Option
		for range r.Intn(12) {
			l = append(l, optionByChance(r))
		}
		checkPut(t, l)
		for _, o := range l {
			if r.Intn(3) != 0 {
				left = append(left, o)
			}
		}
		if !Within(left, l) || Same(left, l) != (len(left) == len(l)) || Twice(l) != twiceByWords(l) {
			t.Errorf("%v, %v: %v, %v, %v", left, l, Within(left, l), Same(left, l), Twice(l))
		}
	}
}

func TestBytesByChance(t *testing.T) { // P12.2
	r := rand.New(rand.NewSource(21))
	for range 20000 {
		var l []api.Option
		for range r.Intn(8) {
			l = append(l, api.Option{Type: r.Intn(256), Data: bytesByChance(r, r.Intn(longest+1)>>r.Intn(8))})
		}
		b, _ := putByWords(l)
		if len(b) > 0 && r.Intn(4) == 0 {
			b[r.Intn(len(b))] ^= 1 << r.Intn(8)
		}
		if r.Intn(4) == 0 {
			b = b[:r.Intn(len(b)+1)]
		}
		checkRead(t, b)
	}
}

// TestManyOptions holds that the time goes up with the number of options, not with its square.
func TestManyOptions(t *testing.T) { // P1
	l := make([]api.Option, 300000)
	other := make([]api.Option, len(l))
	for i := range l {
		l[i] = api.Option{Type: i % 256, Data: []byte{byte(i), byte(i >> 8), byte(i >> 16)}}
		other[i] = api.Option{Type: i}
	}
	checkPut(t, l)
	if !Same(l, slices.Clone(l)) || !Within(l, l) || !Within(l[1:], l) || Within(l, l[1:]) || !Twice(l) || Twice(other) {
		t.Error("many options are held together wrongly")
	}
	if _, ok := Find(other, len(l)-1); !ok {
		t.Error("the last one of many isn't found")
	}
}
