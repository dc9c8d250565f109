package terms

import (
	"bytes"
	"math"
	"math/rand"
	"slices"
	"testing"

	"umpire/api"
)

// farTypes aren't known: those just beyond both ends, and those of which a smaller size of number keeps bits that would do.
var farTypes = []int{0, 6, 9, 10, 11, 12, 13, 15, 17, 23, 35, 127, 128, 255, 256, 257, 258, 259, 260, 261, 263, 264, 65537, 1<<32 + 1, 1<<32 + 7, 1 << 62, -1, -2, -3, -4, -5, -7, -8, -128, -255, -249, -248, math.MinInt, math.MinInt + 1, math.MinInt + 8, math.MaxInt, math.MaxInt - 254}

var knownTypes = []int{1, 2, 3, 4, 5, 7, 8}

// rightOnes is a right list of all Types, rising.
func rightOnes() []api.Option {
	return []api.Option{op(1, 5, 220), op(2, 0, 10, 0, 0), op(3, 0xc2, 0x23, 5), op(4, 0xc0, 0x25), op(5, 0xde, 0xad, 0xbe, 0xef), op(7), op(8)}
}

func termsOfRightOnes() api.Terms {
	return api.Terms{HasMru: true, Mru: 1500, HasAccm: true, Accm: 0xa0000, Login: api.Chap, Quality: true, HasMagic: true, Magic: 0xdeadbeef, Pfc: true, Acfc: true}
}

// wrongOnes are of known Types, and not right.
func wrongOnes() []api.Option {
	return []api.Option{op(1, 5), op(2, 0, 10, 0), op(3, 0xc2, 0x23), op(4, 0xc0), op(5, 0, 0, 0, 0), op(7, 0), op(8, 1, 2)}
}

// mixedOnes are right, wrong, and unknown ones, some alike but in Data.
func mixedOnes() []api.Option {
	l := append(rightOnes(), wrongOnes()...)
	return append(l, op(1, 0, 0), op(3, 0xc0, 0x23), op(3, 0xc0, 0x27, 1), op(3, 0xc0, 0x23, 0), op(5, 0, 0, 0, 9), op(0), op(6), op(9, 1), op(255, 5, 220), op(257, 5, 220), op(-1))
}

// checkOption holds what is told of one option against the chapter's words.
func checkOption(t *testing.T, o api.Option) {
	t.Helper()
	want := rightByWords(o)
	if Right(o) != want {
		t.Errorf("Right(%v): %v", o, !want)
	}
	checkList(t, []api.Option{o})
}

// checkList holds what is told of a list against the chapter's words, and what follows of it.
func checkList(t *testing.T, l []api.Option) {
	t.Helper()
	want, wantOk := readByWords(l)
	x, ok := Read(l)
	if x != want || ok != wantOk {
		t.Errorf("Read(%.200v): %v, %v and not %v, %v", l, x, ok, want, wantOk)
	}
	if login := Login(l); login != loginByWords(l) || ok && login != x.Login {
		t.Errorf("Login(%.200v): %x and not %x", l, login, loginByWords(l))
	}
	wantRejected, wantChanged := badByWords(l)
	rejected, changed := Bad(l)
	if !same(rejected, wantRejected) || !same(changed, wantChanged) {
		t.Errorf("Bad(%.200v): %.200v, %.200v and not %.200v, %.200v", l, rejected, changed, wantRejected, wantChanged)
	}
	if ok != (len(rejected) == 0 && len(changed) == 0) {
		t.Errorf("%.200v is right: %v, and rejected is %.200v, changed %.200v", l, ok, rejected, changed)
	}
	for _, o := range changed {
		if !Right(o) {
			t.Errorf("%.200v: changed to %v, which isn't right", l, o)
		}
	}
	if again, ok := Read(changed); !ok {
		t.Errorf("%.200v: what is to be changed isn't right as it is told: %v, %v", l, changed, again)
	}
}

// checkPut holds what is put against the chapter's words, and what is read of it against what was put.
func checkPut(t *testing.T, x api.Terms) {
	t.Helper()
	want, wantOk := putByWords(x)
	l, ok := Put(x)
	if !same(l, want) || ok != wantOk {
		t.Errorf("Put(%v): %v, %v and not %v, %v", x, l, ok, want, wantOk)
	}
	if !ok {
		return
	}
	if back, is := Read(l); back != x || !is {
		t.Errorf("%v, put, is read as %v, %v", x, back, is)
	}
	if !slices.IsSortedFunc(l, func(a, b api.Option) int { return a.Type - b.Type }) {
		t.Errorf("Put(%v): the Types don't rise: %v", x, l)
	}
}

func TestExamples(t *testing.T) { // P14.1, P14.3
	x, ok := Read([]api.Option{op(1, 5, 220), op(3, 0xc2, 0x23, 5)})
	if x != (api.Terms{HasMru: true, Mru: 1500, Login: api.Chap}) || !ok {
		t.Error(x, ok)
	}
	rejected, changed := Bad([]api.Option{op(9), op(1, 7)})
	if !same(rejected, []api.Option{op(9)}) || !same(changed, []api.Option{op(1, 5, 220)}) {
		t.Error(rejected, changed)
	}
}

func TestKnown(t *testing.T) { // P14.1
	for n, want := range []bool{false, true, true, true, true, true, false, true, true, false} {
		if Known(n) != want {
			t.Errorf("Known(%d): %v", n, !want)
		}
	}
	for _, n := range farTypes {
		if Known(n) {
			t.Errorf("Known(%d): true", n)
		}
	}
	for n := -70000; n <= 70000; n++ {
		if Known(n) != knownByWords(n) {
			t.Errorf("Known(%d): %v", n, Known(n))
		}
	}
}

// dataOf answers all lists of bytes of a length, of these values.
func dataOf(values []byte, size int) [][]byte {
	out := [][]byte{nil}
	for range size {
		var longer [][]byte
		for _, b := range out {
			for _, c := range values {
				longer = append(longer, append(slices.Clip(b), c))
			}
		}
		out = longer
	}
	return out
}

func TestRightOfEachSize(t *testing.T) { // P14.1
	types := slices.Clone(farTypes)
	for n := range 12 {
		types = append(types, n)
	}
	for size := range 7 {
		for _, data := range dataOf([]byte{0, 1, 255}, size) {
			for _, n := range types {
				if o := op(n, data...); Right(o) != rightByWords(o) {
					t.Errorf("Right(%v): %v", o, Right(o))
				}
			}
		}
	}
	for size := range 6 {
		for _, data := range dataOf([]byte{0, 5, 0x23, 0x25, 0xc0, 0xc2}, size) {
			for _, n := range knownTypes {
				checkOption(t, op(n, data...))
			}
		}
	}
}

func TestRight(t *testing.T) { // P14.1
	for _, x := range []struct {
		o    api.Option
		want bool
	}{
		{op(0), false}, {op(6), false}, {op(9), false}, {op(-1), false}, {op(255), false}, {op(256), false}, {op(257, 5, 220), false}, {op(-249), false},
		{op(1), false}, {op(1, 5), false}, {op(1, 0, 0), true}, {op(1, 5, 220), true}, {op(1, 255, 255), true}, {op(1, 0, 5, 220), false}, {op(1, 0, 0, 5, 220), false},
		{op(2), false}, {op(2, 1, 2, 3), false}, {op(2, 0, 0, 0, 0), true}, {op(2, 255, 255, 255, 255), true}, {op(2, 1, 2, 3, 4, 5), false}, {op(2, 1, 2), false},
		{op(3), false}, {op(3, 0xc0), false}, {op(3, 0xc2), false}, {op(3, 0), false},
		{op(3, 0xc0, 0x23), true}, {op(3, 0xc0, 0x23, 0), false}, {op(3, 0xc0, 0x23, 5), false}, {op(3, 0xc0, 0x23, 0xc0, 0x23), false},
		{op(3, 0xc2, 0x23), false}, {op(3, 0xc2, 0x23, 5), true}, {op(3, 0xc2, 0x23, 4), false}, {op(3, 0xc2, 0x23, 0), false}, {op(3, 0xc2, 0x23, 0x80), false}, {op(3, 0xc2, 0x23, 5, 0), false}, {op(3, 0xc2, 0x23, 5, 5), false}, {op(3, 0xc2, 0x23, 0, 5), false},
		{op(3, 0xc2, 0x27), true}, {op(3, 0xc2, 0x27, 1, 2), true}, {op(3, 0, 0), true}, {op(3, 0, 1), true}, {op(3, 0x23, 0xc0), true}, {op(3, 0x23, 0xc2, 5), true}, {op(3, 0xc0, 0x25), true}, {op(3, 0xff, 0xff, 0, 0, 0, 0), true},
		{op(4), false}, {op(4, 0xc0), false}, {op(4, 0xc0, 0x25), true}, {op(4, 0, 0), true}, {op(4, 0xc0, 0x25, 0, 0, 0, 9), true}, {op(4, 1, 2, 3), true},
		{op(5), false}, {op(5, 1), false}, {op(5, 1, 2, 3), false}, {op(5, 0, 0, 0, 0), false}, {op(5, 1, 2, 3, 4), true}, {op(5, 0, 0, 0, 0, 1), false}, {op(5, 1, 0, 0, 0, 0), false}, {op(5, 255, 255, 255, 255), true},
		{op(7), true}, {op(7, 0), false}, {op(7, 0, 0), false}, {op(8), true}, {op(8, 0), false}, {op(8, 0, 0, 0, 0), false},
	} {
		if Right(x.o) != x.want {
			t.Errorf("Right(%v): %v", x.o, !x.want)
		}
	}
	for c := range 256 {
		if Right(op(7, byte(c))) || Right(op(8, byte(c))) || Right(op(1, byte(c))) || Right(op(3, byte(c))) || Right(op(4, byte(c))) {
			t.Errorf("an option whose Data is the byte %d alone is right", c)
		}
		if want := c == 5; Right(op(3, 0xc2, 0x23, byte(c))) != want || Right(op(3, 0xc0, 0x23, byte(c))) {
			t.Errorf("the byte %d behind Chap: %v; behind Pap: %v", c, !want, Right(op(3, 0xc0, 0x23, byte(c))))
		}
	}
	for i := range 4 {
		for bit := range 8 {
			data := make([]byte, 4)
			data[i] = 1 << bit
			if !Right(op(5, data...)) {
				t.Errorf("Right of the magic number of %v: false", data)
			}
		}
	}
}

// TestEachProtocol goes through all of them, with what may stand behind Pap and Chap, and what mayn't.
func TestEachProtocol(t *testing.T) { // P14.1
	for n := range 65536 {
		for _, behind := range [][]byte{nil, {5}, {0}, {4}, {5, 0}, {0xc0, 0x23}} {
			o := op(3, append([]byte{byte(n >> 8), byte(n)}, behind...)...)
			want := 1
			switch {
			case n == 0xc023 && len(behind) == 0:
				want = api.Pap
			case n == 0xc223 && bytes.Equal(behind, []byte{5}):
				want = api.Chap
			case n == 0xc023, n == 0xc223:
				want = 0
			}
			x, ok := Read([]api.Option{o})
			if x != (api.Terms{Login: want}) || ok != (want != 0) || Login([]api.Option{o}) != want || Right(o) != ok {
				t.Errorf("%v asks for %x, %v, %x", o, x.Login, ok, Login([]api.Option{o}))
			}
		}
	}
}

// TestLongData holds Data that are longer than an option may have against the chapter's words as well.
func TestLongData(t *testing.T) { // P14.1
	for _, size := range []int{100, api.MaxOption, api.MaxOption + 1, 258, 260, 65538, 1 << 20} {
		data := bytes.Repeat([]byte{0xe7}, size)
		for _, n := range knownTypes {
			checkOption(t, op(n, data...))
		}
		copy(data, []byte{0xc0, 0x23})
		checkOption(t, op(3, data...))
		copy(data, []byte{0xc2, 0x23, 5})
		checkOption(t, op(3, data...))
	}
}

func TestReadOfNoOptions(t *testing.T) { // P14.1
	for _, l := range [][]api.Option{nil, {}, make([]api.Option, 0, 3)} {
		if x, ok := Read(l); x != (api.Terms{}) || !ok {
			t.Errorf("Read of no options: %v, %v", x, ok)
		}
		checkList(t, l)
	}
}

func TestReadOfEach(t *testing.T) { // P14.1
	for _, x := range []struct {
		o    api.Option
		want api.Terms
	}{
		{op(1, 5, 220), api.Terms{HasMru: true, Mru: 1500}}, {op(1, 0, 0), api.Terms{HasMru: true}}, {op(1, 0, 7), api.Terms{HasMru: true, Mru: 7}}, {op(1, 1, 0), api.Terms{HasMru: true, Mru: 256}}, {op(1, 255, 255), api.Terms{HasMru: true, Mru: 65535}},
		{op(2, 0, 10, 0, 0), api.Terms{HasAccm: true, Accm: 0xa0000}}, {op(2, 0, 0, 0, 0), api.Terms{HasAccm: true}}, {op(2, 1, 2, 3, 4), api.Terms{HasAccm: true, Accm: 0x01020304}}, {op(2, 255, 255, 255, 255), api.Terms{HasAccm: true, Accm: math.MaxUint32}},
		{op(3, 0xc0, 0x23), api.Terms{Login: api.Pap}}, {op(3, 0xc2, 0x23, 5), api.Terms{Login: api.Chap}}, {op(3, 0xc2, 0x27), api.Terms{Login: 1}}, {op(3, 0, 0, 9), api.Terms{Login: 1}},
		{op(4, 0xc0, 0x25), api.Terms{Quality: true}}, {op(4, 0, 0), api.Terms{Quality: true}}, {op(4, 0xc0, 0x25, 0, 0, 0, 9), api.Terms{Quality: true}},
		{op(5, 0, 0, 0, 7), api.Terms{HasMagic: true, Magic: 7}}, {op(5, 128, 0, 0, 0), api.Terms{HasMagic: true, Magic: 1 << 31}}, {op(5, 1, 2, 3, 4), api.Terms{HasMagic: true, Magic: 0x01020304}},
		{op(7), api.Terms{Pfc: true}}, {op(8), api.Terms{Acfc: true}},
	} {
		if got, ok := Read([]api.Option{x.o}); got != x.want || !ok {
			t.Errorf("Read of %v: %v, %v", x.o, got, ok)
		}
	}
	for n := range 65536 {
		x, ok := Read([]api.Option{op(1, byte(n>>8), byte(n))})
		if x != (api.Terms{HasMru: true, Mru: n}) || !ok {
			t.Errorf("Read of the Mru %d: %v, %v", n, x, ok)
		}
	}
}

// ordersOf answers a list in each of its orders.
func ordersOf(l []api.Option) [][]api.Option {
	if len(l) == 0 {
		return [][]api.Option{nil}
	}
	var out [][]api.Option
	for i := range l {
		for _, rest := range ordersOf(slices.Delete(slices.Clone(l), i, i+1)) {
			out = append(out, append([]api.Option{l[i]}, rest...))
		}
	}
	return out
}

func TestReadInAnyOrder(t *testing.T) { // P14.1
	orders := ordersOf(rightOnes())
	if len(orders) != 5040 {
		t.Fatal(len(orders), "orders")
	}
	for _, l := range orders {
		if x, ok := Read(l); x != termsOfRightOnes() || !ok {
			t.Errorf("Read(%v): %v, %v", l, x, ok)
		}
	}
}

// TestReadOfWrongLists puts one option too many into a right list, at each place.
func TestReadOfWrongLists(t *testing.T) { // P14.1
	for _, o := range mixedOnes() {
		for at := range len(rightOnes()) + 1 {
			l := slices.Insert(rightOnes(), at, o)
			if x, ok := Read(l); x != (api.Terms{}) || ok {
				t.Errorf("Read(%v): %v, %v", l, x, ok)
			}
			checkList(t, l)
		}
	}
	for i, o := range wrongOnes() {
		l := rightOnes()
		l[i] = o
		if x, ok := Read(l); x != (api.Terms{}) || ok {
			t.Errorf("Read(%v): %v, %v", l, x, ok)
		}
		checkList(t, l)
	}
}

func TestLogin(t *testing.T) { // P14.1
	pap, chap, other := op(3, 0xc0, 0x23), op(3, 0xc2, 0x23, 5), op(3, 0xc0, 0x27)
	wrong := []api.Option{op(3), op(3, 0xc0), op(3, 0xc0, 0x23, 0), op(3, 0xc2, 0x23), op(3, 0xc2, 0x23, 4), op(3, 0xc2, 0x23, 5, 5)}
	for _, x := range []struct {
		l    []api.Option
		want int
	}{
		{nil, 0}, {[]api.Option{pap}, api.Pap}, {[]api.Option{chap}, api.Chap}, {[]api.Option{other}, 1},
		{[]api.Option{pap, chap}, api.Pap}, {[]api.Option{chap, pap}, api.Chap}, {[]api.Option{other, pap, chap}, 1}, {[]api.Option{chap, other}, api.Chap}, {[]api.Option{pap, pap}, api.Pap},
		{wrong, 0}, {append(slices.Clip(wrong), chap, pap), api.Chap}, {append([]api.Option{pap}, wrong...), api.Pap}, {slices.Insert(slices.Clone(wrong), 3, other), 1},
		{append(mixedOnes()[10:13], wrongOnes()...), 0}, {append(wrongOnes(), pap), api.Pap}, {rightOnes(), api.Chap}, {append([]api.Option{pap}, mixedOnes()...), api.Pap},
		// Data of a login, as those of other Types.
		{[]api.Option{op(0, 0xc0, 0x23), op(1, 0xc0, 0x23), op(4, 0xc2, 0x23, 5), op(2, 0xc0, 0x23), op(259, 0xc0, 0x23), op(-253, 0xc0, 0x23)}, 0},
		{[]api.Option{op(4, 0xc0, 0x23), op(1, 0xc0, 0x23), chap}, api.Chap},
	} {
		if Login(x.l) != x.want {
			t.Errorf("Login(%v): %x and not %x", x.l, Login(x.l), x.want)
		}
	}
	for _, a := range mixedOnes() {
		for _, b := range mixedOnes() {
			for _, asking := range []api.Option{pap, chap, other} {
				l := []api.Option{a, asking, b}
				if Login(l) != loginByWords(l) {
					t.Errorf("Login(%v): %x", l, Login(l))
				}
			}
		}
	}
}

func TestPut(t *testing.T) { // P14.2
	if l, ok := Put(api.Terms{}); len(l) != 0 || !ok {
		t.Errorf("Put of terms of nothing: %v, %v", l, ok)
	}
	if l, ok := Put(termsOfRightOnes()); !same(l, rightOnes()) || !ok {
		t.Errorf("Put of all: %v, %v", l, ok)
	}
	for _, x := range []struct {
		t    api.Terms
		want api.Option
	}{
		{api.Terms{HasMru: true}, op(1, 0, 0)}, {api.Terms{HasMru: true, Mru: 258}, op(1, 1, 2)}, {api.Terms{HasMru: true, Mru: 65535}, op(1, 255, 255)},
		{api.Terms{HasAccm: true}, op(2, 0, 0, 0, 0)}, {api.Terms{HasAccm: true, Accm: 0x01020304}, op(2, 1, 2, 3, 4)}, {api.Terms{HasAccm: true, Accm: math.MaxUint32}, op(2, 255, 255, 255, 255)},
		{api.Terms{Login: api.Pap}, op(3, 0xc0, 0x23)}, {api.Terms{Login: api.Chap}, op(3, 0xc2, 0x23, 5)},
		{api.Terms{Quality: true}, op(4, 0xc0, 0x25)},
		{api.Terms{HasMagic: true, Magic: 1}, op(5, 0, 0, 0, 1)}, {api.Terms{HasMagic: true, Magic: 0x01020304}, op(5, 1, 2, 3, 4)}, {api.Terms{HasMagic: true, Magic: math.MaxUint32}, op(5, 255, 255, 255, 255)},
		{api.Terms{Pfc: true}, op(7)}, {api.Terms{Acfc: true}, op(8)},
	} {
		if l, ok := Put(x.t); !same(l, []api.Option{x.want}) || !ok {
			t.Errorf("Put(%v): %v, %v", x.t, l, ok)
		}
	}
}

func TestPutOfWrongTerms(t *testing.T) { // P14.2
	for _, x := range []api.Terms{
		{Mru: 1}, {Mru: 1500}, {Mru: 65535}, {Mru: 65536}, {Mru: -1}, {Mru: math.MinInt}, {Mru: math.MaxInt},
		{HasMru: true, Mru: 65536}, {HasMru: true, Mru: -1}, {HasMru: true, Mru: 65536 + 1500}, {HasMru: true, Mru: 1500 - 65536}, {HasMru: true, Mru: 1 << 32}, {HasMru: true, Mru: math.MinInt}, {HasMru: true, Mru: math.MaxInt},
		{Accm: 1}, {Accm: math.MaxUint32}, {Accm: 1 << 31},
		{Login: 1}, {Login: 2}, {Login: -1}, {Login: api.Lcp}, {Login: 0xc025}, {Login: 0xc027}, {Login: 0x23c0}, {Login: 0xc0}, {Login: 0x23}, {Login: api.Pap + 65536}, {Login: api.Chap - 65536}, {Login: api.Chap + 1<<32}, {Login: 65535}, {Login: 65536}, {Login: math.MinInt}, {Login: math.MaxInt},
		{HasMagic: true}, {Magic: 1}, {Magic: math.MaxUint32}, {Magic: 1 << 31},
	} {
		all := termsOfRightOnes()
		all.Mru, all.Accm, all.Login, all.Magic = x.Mru, x.Accm, x.Login, x.Magic
		all.HasMru, all.HasAccm, all.HasMagic = x.HasMru, x.HasAccm, x.HasMagic
		for _, y := range []api.Terms{x, all} {
			if l, ok := Put(y); len(l) != 0 || ok {
				t.Errorf("Put(%v): %v, %v", y, l, ok)
			}
		}
	}
	for n := -70; n < 70000; n++ {
		checkPut(t, api.Terms{Login: n})
	}
}

func TestPutOfEachMru(t *testing.T) { // P14.2, P14.4
	for n := -700; n < 70000; n++ {
		checkPut(t, api.Terms{HasMru: true, Mru: n})
	}
	for n := -700; n < 70000; n++ {
		if l, ok := Put(api.Terms{Mru: n}); len(l) != 0 || ok != (n == 0) {
			t.Errorf("Put of the Mru %d that isn't there: %v, %v", n, l, ok)
		}
	}
}

// TestPutOfAllEdges puts what there is and what there isn't of each, with each.
func TestPutOfAllEdges(t *testing.T) { // P14.2, P14.4
	for mask := range 64 {
		bit := func(i int) bool { return mask>>i&1 == 1 }
		x := api.Terms{HasMru: bit(0), HasAccm: bit(1), HasMagic: bit(2), Quality: bit(3), Pfc: bit(4), Acfc: bit(5)}
		for _, x.Mru = range []int{0, 1, 1500, 65535, 65536, -1} {
			for _, x.Accm = range []uint32{0, 1, 0xa0000, math.MaxUint32} {
				for _, x.Magic = range []uint32{0, 1, 0xdeadbeef} {
					for _, x.Login = range []int{0, 1, api.Pap, api.Chap, 2} {
						checkPut(t, x)
					}
				}
			}
		}
	}
}

func TestBadOfNothing(t *testing.T) { // P14.3
	for _, l := range [][]api.Option{nil, {}, rightOnes()} {
		if rejected, changed := Bad(l); len(rejected) != 0 || len(changed) != 0 {
			t.Errorf("Bad(%v): %v, %v", l, rejected, changed)
		}
	}
}

// TestBadOfEach has each wrong option of Data of up to six bytes by itself.
func TestBadOfEach(t *testing.T) { // P14.3
	for _, n := range knownTypes {
		for size := range 7 {
			for _, c := range []byte{0, 1, 5, 0xc0} {
				o := op(n, bytes.Repeat([]byte{c}, size)...)
				rejected, changed := Bad([]api.Option{o})
				if len(rejected) != 0 || (len(changed) == 0) != rightByWords(o) || len(changed) == 1 && !same(changed, []api.Option{changedByWords[n]}) {
					t.Errorf("Bad of %v: %v, %v", o, rejected, changed)
				}
			}
		}
	}
	for _, n := range farTypes {
		for _, data := range [][]byte{nil, {1}, {5, 220}, {0, 0, 0, 1}, make([]byte, 300)} {
			rejected, changed := Bad([]api.Option{op(n, data...)})
			if !same(rejected, []api.Option{op(n, data...)}) || len(changed) != 0 {
				t.Errorf("Bad of the Type %d, of %d bytes: %v, %v", n, len(data), rejected, changed)
			}
		}
	}
}

// TestBadOfTwo has one of a known Type ahead, and one behind, each right and wrong.
func TestBadOfTwo(t *testing.T) { // P14.3
	for i, right := range rightOnes() {
		wrong, other := wrongOnes()[i], op(right.Type, 9, 9, 9, 9, 9)
		for _, between := range [][]api.Option{nil, {op(99, 1)}, {op(0)}} {
			for _, ahead := range []api.Option{right, wrong} {
				for _, behind := range []api.Option{right, wrong, other} {
					l := append(append([]api.Option{ahead}, between...), behind, behind)
					wantRejected := append(slices.Clone(between), behind, behind)
					var wantChanged []api.Option
					if !rightByWords(ahead) {
						wantChanged = []api.Option{changedByWords[right.Type]}
					}
					if rejected, changed := Bad(l); !same(rejected, wantRejected) || !same(changed, wantChanged) {
						t.Errorf("Bad(%v): %v, %v", l, rejected, changed)
					}
				}
			}
		}
	}
}

func TestBadInOrder(t *testing.T) { // P14.3
	l := []api.Option{op(8, 1), op(99, 1), op(5), op(1, 5, 221), op(3, 0xc2, 0x23), op(8), op(0, 7), op(1, 5), op(99, 1), op(2, 1), op(4), op(7, 0), op(3, 0xc0, 0x23), op(6), op(1, 5, 221)}
	wantRejected := []api.Option{op(99, 1), op(8), op(0, 7), op(1, 5), op(99, 1), op(3, 0xc0, 0x23), op(6), op(1, 5, 221)}
	wantChanged := []api.Option{op(8), op(5, 0, 0, 0, 1), op(3, 0xc0, 0x23), op(2, 0, 0, 0, 0), op(4, 0xc0, 0x25), op(7)}
	if rejected, changed := Bad(l); !same(rejected, wantRejected) || !same(changed, wantChanged) {
		t.Errorf("Bad(%v): %v, %v", l, rejected, changed)
	}
	for _, order := range ordersOf(wrongOnes()) {
		var want []api.Option
		for _, o := range order {
			want = append(want, changedByWords[o.Type])
		}
		if rejected, changed := Bad(order); len(rejected) != 0 || !same(changed, want) {
			t.Errorf("Bad(%v): %v, %v", order, rejected, changed)
		}
	}
}

// TestAllShortLists holds all lists of up to three options, right, wrong and unknown ones, against the chapter's words.
func TestAllShortLists(t *testing.T) { // P14.1, P14.3, P14.4
	all := mixedOnes()
	checkList(t, all)
	for _, a := range all {
		checkList(t, []api.Option{a})
		for _, b := range all {
			checkList(t, []api.Option{a, b})
			for _, c := range all {
				checkList(t, []api.Option{a, b, c})
			}
		}
	}
}

// optionByChance is right, more often than not.
func optionByChance(r *rand.Rand) api.Option {
	all := rightOnes()
	o := all[r.Intn(len(all))]
	switch r.Intn(12) {
	case 0:
		o.Type = r.Intn(12) - 1
	case 1:
		o.Data = make([]byte, r.Intn(7))
		for i := range o.Data {
			o.Data[i] = byte(r.Intn(256) * r.Intn(2))
		}
	case 2:
		o = mixedOnes()[r.Intn(len(mixedOnes()))]
	}
	if len(o.Data) > 1 && r.Intn(4) == 0 {
		o.Data[r.Intn(len(o.Data))] ^= 1 << r.Intn(8)
	}
	return o
}

func TestListsByChance(t *testing.T) { // P14.1, P14.3, P14.4
	r := rand.New(rand.NewSource(14))
	right := 0
	for range 100000 {
		var l []api.Option
		for range r.Intn(8) {
			l = append(l, optionByChance(r))
		}
		checkList(t, l)
		if x, ok := Read(l); ok {
			right++
			checkPut(t, x)
		}
	}
	if right < 1000 {
		t.Error("too few right lists:", right)
	}
}

func TestTermsByChance(t *testing.T) { // P14.2, P14.4
	r := rand.New(rand.NewSource(41))
	put := 0
	for range 100000 {
		x := api.Terms{Login: []int{0, api.Pap, api.Chap}[r.Intn(3)], Quality: r.Intn(2) == 0, Pfc: r.Intn(2) == 0, Acfc: r.Intn(2) == 0}
		if x.HasMru = r.Intn(2) == 0; x.HasMru || r.Intn(20) == 0 {
			x.Mru = r.Intn(65600) - 20
		}
		if x.HasAccm = r.Intn(2) == 0; x.HasAccm || r.Intn(20) == 0 {
			x.Accm = r.Uint32()
		}
		if x.HasMagic = r.Intn(2) == 0; x.HasMagic || r.Intn(20) == 0 {
			x.Magic = r.Uint32() >> r.Intn(34)
		}
		if r.Intn(20) == 0 {
			x.Login = r.Intn(70000) - 100
		}
		checkPut(t, x)
		if _, ok := Put(x); ok {
			put++
		}
	}
	if put < 1000 {
		t.Error("too few terms of right lists:", put)
	}
}

// TestManyOptions holds that the time goes up with the number of options, not with its square.
func TestManyOptions(t *testing.T) { // P1
	l := make([]api.Option, 300000)
	for i := range l {
		l[i] = api.Option{Type: i, Data: []byte{byte(i)}}
	}
	for _, o := range append(wrongOnes(), rightOnes()...) {
		l = append(l, o, o)
	}
	rejected, changed := Bad(l)
	if len(rejected) != 300000+28-7 || !same(changed, []api.Option{changedByWords[1], changedByWords[2], changedByWords[3], changedByWords[4], changedByWords[5], changedByWords[7], changedByWords[8]}) {
		t.Errorf("Bad of many options: %d, %v", len(rejected), changed)
	}
	if x, ok := Read(l[1:]); x != (api.Terms{}) || ok {
		t.Errorf("Read of many options: %v, %v", x, ok)
	}
	if Login(l) != api.Chap {
		t.Errorf("Login of many options: %x", Login(l))
	}
}
