package addrs

import (
	"bytes"
	"math"
	"math/rand"
	"slices"
	"testing"

	"umpire/api"
)

// otherProtos are neither Ipcp nor Ip6c: 0, ones below it, ones of other layers, and ones of which a smaller size of number keeps bits that would do.
var otherProtos = []int{0, 1, 2, -1, api.Ip, api.Ip6, api.Lcp, api.Pap, api.Chap, 0x21, 0x57, 0x2180, 0x5780, 0x8020, 0x8022, 0x8056, 0x8058, api.Ipcp + 65536, api.Ip6c + 65536, api.Ipcp - 65536, api.Ip6c - 65536, -api.Ipcp, -api.Ip6c, api.Ipcp + 1<<32, api.Ip6c + 1<<32, math.MinInt, math.MaxInt}

// allProtos are these, with the two that there are.
func allProtos() []int {
	return append([]int{api.Ipcp, api.Ip6c}, otherProtos...)
}

// someTypes are known by one of the protocols, stand beside those that are, or keep their bits in a smaller size of number.
func someTypes() []int {
	types := []int{133, 134, 254, 255, 256, 257, 258, 259, 128 + 256, 129 + 256, 132 + 256, 65537, 65538, 65539, 1<<32 + 1, 1<<32 + 3, 1<<32 + 129, -1, -2, -3, -124, -125, -126, -127, -128, -129, -132, -253, -254, -255, -256, math.MinInt, math.MinInt + 1, math.MinInt + 2, math.MinInt + 3, math.MinInt + 129, math.MaxInt}
	for t := range 133 {
		types = append(types, t)
	}
	return types
}

// rightOnes is a right list of all Types of Ipcp, rising.
func rightOnes() []api.Option {
	return []api.Option{op(2, 0, 0x2d, 15, 1), op(3, 10, 0, 0, 9), op(129, 1, 2, 3, 4), op(130, 5, 6, 7, 8), op(131, 9, 10, 11, 12), op(132, 13, 14, 15, 16)}
}

func addrsOfRightOnes() api.Addrs {
	return api.Addrs{HasVj: true, Slots: 15, VjId: true, HasIp: true, Ip: [4]byte{10, 0, 0, 9}, HasDns: [4]bool{true, true, true, true}, Dns: [4][4]byte{{1, 2, 3, 4}, {5, 6, 7, 8}, {9, 10, 11, 12}, {13, 14, 15, 16}}}
}

// wrongOnes are of known Types of Ipcp, and not right.
func wrongOnes() []api.Option {
	return []api.Option{op(2, 0, 0x2d, 15, 2), op(3, 10, 0, 0), op(129), op(130, 5, 6, 7, 8, 9), op(131, 9), op(132, 13, 14, 15, 16, 0, 0, 0, 0)}
}

// sixOnes are right by Ip6c, and ones of its Type that aren't.
func sixOnes() []api.Option {
	return []api.Option{op(1, 1, 2, 3, 4, 5, 6, 7, 8), op(1, 0, 0, 0, 0, 0, 0, 0, 1), op(1, 128, 0, 0, 0, 0, 0, 0, 0), op(1, 0, 0, 0, 0, 0, 0, 0, 0), op(1), op(1, 1, 2, 3, 4, 5, 6, 7), op(1, 1, 2, 3, 4, 5, 6, 7, 8, 9)}
}

// mixedOnes are right, wrong, and unknown ones, some alike but in Data, of both protocols.
func mixedOnes() []api.Option {
	l := slices.Concat(rightOnes(), wrongOnes(), sixOnes())
	return append(l, op(2, 0, 0x2d, 0, 0), op(2, 0, 0x2e, 15, 0), op(3, 0, 0, 0, 0), op(0), op(4, 1, 2, 3, 4), op(128, 1, 2, 3, 4), op(133, 1, 2, 3, 4), op(255), op(257, 1, 2, 3, 4, 5, 6, 7, 8), op(259, 1, 2, 3, 4), op(-1), op(-127, 1, 2, 3, 4))
}

// checkOption holds what is told of one option against the chapter's words.
func checkOption(t *testing.T, proto int, o api.Option) {
	t.Helper()
	if want := rightByWords(proto, o); Right(proto, o) != want {
		t.Errorf("Right(%x, %v): %v", proto, o, !want)
	}
	checkList(t, proto, []api.Option{o})
}

// checkList holds what is told of a list against the chapter's words, and what follows of it.
func checkList(t *testing.T, proto int, l []api.Option) {
	t.Helper()
	want, wantOk := readByWords(proto, l)
	a, ok := Read(proto, l)
	if a != want || ok != wantOk {
		t.Errorf("Read(%x, %v): %v, %v and not %v, %v", proto, l, a, ok, want, wantOk)
	}
	wantRejected, wantChanged := badByWords(proto, l)
	rejected, changed := Bad(proto, l)
	if !same(rejected, wantRejected) || !same(changed, wantChanged) {
		t.Errorf("Bad(%x, %v): %v, %v and not %v, %v", proto, l, rejected, changed, wantRejected, wantChanged)
	}
	if ok != (len(rejected) == 0 && len(changed) == 0) {
		t.Errorf("%v is right: %v, and rejected is %v, changed %v", l, ok, rejected, changed)
	}
	for _, o := range changed {
		if !Right(proto, o) {
			t.Errorf("%v: changed to %v, which isn't right", l, o)
		}
	}
	done := doneByWords(proto, l, changed)
	if _, ok := Read(proto, done); !ok {
		t.Errorf("%v: when that was done it is %v, which isn't right", l, done)
	}
	if rejected, changed := Bad(proto, done); len(rejected) != 0 || len(changed) != 0 {
		t.Errorf("%v: when that was done, %v are to be rejected, and %v to be changed", l, rejected, changed)
	}
}

// checkPut holds what is put against the chapter's words, and what is read of it against what was put.
func checkPut(t *testing.T, proto int, a api.Addrs) {
	t.Helper()
	want, wantOk := putByWords(proto, a)
	l, ok := Put(proto, a)
	if !same(l, want) || ok != wantOk {
		t.Errorf("Put(%x, %v): %v, %v and not %v, %v", proto, a, l, ok, want, wantOk)
	}
	if !ok {
		return
	}
	if back, is := Read(proto, l); back != a || !is {
		t.Errorf("%v, put by %x, is read as %v, %v", a, proto, back, is)
	}
	if !slices.IsSortedFunc(l, func(a, b api.Option) int { return a.Type - b.Type }) {
		t.Errorf("Put(%x, %v): the Types don't rise: %v", proto, a, l)
	}
}

func TestExamples(t *testing.T) { // P15.1, P15.3
	a, ok := Read(api.Ipcp, []api.Option{op(3, 10, 0, 0, 9)})
	if a != (api.Addrs{HasIp: true, Ip: [4]byte{10, 0, 0, 9}}) || !ok {
		t.Error(a, ok)
	}
	rejected, changed := Bad(api.Ipcp, []api.Option{op(1)})
	if !same(rejected, []api.Option{op(1)}) || len(changed) != 0 {
		t.Error(rejected, changed)
	}
}

func TestKnown(t *testing.T) { // P15.1
	for n := range 10 {
		if Known(api.Ipcp, n) != (n == 2 || n == 3) || Known(api.Ip6c, n) != (n == 1) {
			t.Errorf("Known of %d: %v by Ipcp, %v by Ip6c", n, Known(api.Ipcp, n), Known(api.Ip6c, n))
		}
	}
	for n, want := range map[int]bool{128: false, 129: true, 130: true, 131: true, 132: true, 133: false} {
		if Known(api.Ipcp, n) != want || Known(api.Ip6c, n) {
			t.Errorf("Known of %d: %v by Ipcp, %v by Ip6c", n, Known(api.Ipcp, n), Known(api.Ip6c, n))
		}
	}
	for _, proto := range allProtos() {
		for _, n := range someTypes() {
			if Known(proto, n) != knownByWords(proto, n) {
				t.Errorf("Known(%x, %d): %v", proto, n, Known(proto, n))
			}
		}
	}
	for _, proto := range []int{api.Ipcp, api.Ip6c, api.Lcp} {
		for n := -70000; n <= 70000; n++ {
			if Known(proto, n) != knownByWords(proto, n) {
				t.Errorf("Known(%x, %d): %v", proto, n, Known(proto, n))
			}
		}
	}
}

// TestKnownByEachProtocol goes through all numbers that a protocol's two bytes tell.
func TestKnownByEachProtocol(t *testing.T) { // P15.1
	for proto := -3; proto < 65540; proto++ {
		for _, n := range []int{0, 1, 2, 3, 4, 128, 129, 132, 133} {
			if Known(proto, n) != knownByWords(proto, n) {
				t.Errorf("Known(%x, %d): %v", proto, n, Known(proto, n))
			}
		}
	}
}

func TestRightOfEachSize(t *testing.T) { // P15.1
	for _, proto := range allProtos() {
		for _, n := range someTypes() {
			for size := range 11 {
				for _, c := range []byte{0, 1, 255} {
					checkOption(t, proto, op(n, bytes.Repeat([]byte{c}, size)...))
				}
				// As Data of Type 2 begin, and as they end.
				data := append([]byte{0, 0x2d}, make([]byte, 9)...)
				checkOption(t, proto, op(n, data[:size]...))
			}
		}
	}
}

func TestRight(t *testing.T) { // P15.1
	for _, x := range []struct {
		o           api.Option
		ipcp, ipv6c bool
	}{
		{op(0), false, false}, {op(0, 1, 2, 3, 4), false, false}, {op(4, 1, 2, 3, 4), false, false}, {op(128, 1, 2, 3, 4), false, false}, {op(133, 1, 2, 3, 4), false, false}, {op(-1), false, false}, {op(-127, 1, 2, 3, 4), false, false}, {op(255, 1, 2, 3, 4), false, false}, {op(256), false, false}, {op(257, 1, 2, 3, 4, 5, 6, 7, 8), false, false}, {op(259, 1, 2, 3, 4), false, false},
		{op(1), false, false}, {op(1, 1), false, false}, {op(1, 1, 2, 3, 4), false, false}, {op(1, 1, 2, 3, 4, 5, 6, 7), false, false}, {op(1, 1, 2, 3, 4, 5, 6, 7, 8), false, true}, {op(1, 0, 0, 0, 0, 0, 0, 0, 0), false, false}, {op(1, 0, 0, 0, 0, 0, 0, 0, 1), false, true}, {op(1, 1, 0, 0, 0, 0, 0, 0, 0), false, true}, {op(1, 1, 2, 3, 4, 5, 6, 7, 8, 9), false, false}, {op(1, 0, 0, 0, 0, 0, 0, 0, 0, 1), false, false},
		{op(2), false, false}, {op(2, 0), false, false}, {op(2, 0, 0x2d), false, false}, {op(2, 0, 0x2d, 15), false, false}, {op(2, 0, 0x2d, 15, 0), true, false}, {op(2, 0, 0x2d, 15, 1), true, false}, {op(2, 0, 0x2d, 15, 2), false, false}, {op(2, 0, 0x2d, 15, 255), false, false}, {op(2, 0, 0x2d, 15, 0, 0), false, false}, {op(2, 0x2d, 0, 15, 0), false, false}, {op(2, 0, 0x2f, 15, 0), false, false}, {op(2, 1, 0x2d, 15, 0), false, false}, {op(2, 0, 0, 0, 0), false, false}, {op(2, 1, 2, 3, 4), false, false},
		{op(3), false, false}, {op(3, 1, 2, 3), false, false}, {op(3, 1, 2, 3, 4), true, false}, {op(3, 0, 0, 0, 0), true, false}, {op(3, 255, 255, 255, 255), true, false}, {op(3, 1, 2, 3, 4, 5), false, false}, {op(3, 1, 2, 3, 4, 5, 6, 7, 8), false, false},
		{op(129), false, false}, {op(129, 1, 2, 3), false, false}, {op(129, 1, 2, 3, 4), true, false}, {op(130, 0, 0, 0, 0), true, false}, {op(131, 255, 255, 255, 255), true, false}, {op(132, 1, 2, 3, 4), true, false}, {op(132, 1, 2, 3, 4, 5), false, false},
	} {
		if Right(api.Ipcp, x.o) != x.ipcp || Right(api.Ip6c, x.o) != x.ipv6c {
			t.Errorf("Right of %v: %v by Ipcp, %v by Ip6c", x.o, !x.ipcp, !x.ipv6c)
		}
		for _, proto := range otherProtos {
			if Right(proto, x.o) {
				t.Errorf("Right(%x, %v): true", proto, x.o)
			}
		}
	}
}

// TestEachSlots goes through all slots with all last bytes, and through all first bytes with all second ones.
func TestEachSlots(t *testing.T) { // P15.1
	for x := range 256 {
		for y := range 256 {
			l := []api.Option{op(2, 0, 0x2d, byte(x), byte(y))}
			want := api.Addrs{}
			if y < 2 {
				want = api.Addrs{HasVj: true, Slots: x, VjId: y == 1}
			}
			if a, ok := Read(api.Ipcp, l); a != want || ok != (y < 2) || Right(api.Ipcp, l[0]) != ok {
				t.Errorf("Read of %v: %v, %v", l, a, ok)
			}
			for _, last := range []byte{0, 1, 2, 255} {
				checkOption(t, api.Ipcp, op(2, byte(x), byte(y), 15, last))
				if Right(api.Ipcp, op(2, byte(x), byte(y), 15, last)) != (x == 0 && y == 0x2d && last < 2) {
					t.Errorf("Right of slots by the protocol %x %x, and %d behind", x, y, last)
				}
			}
		}
	}
}

// TestEachBitOfId has Id of which one byte alone isn't 0.
func TestEachBitOfId(t *testing.T) { // P15.1
	for i := range 8 {
		for c := 1; c < 256; c++ {
			want := api.Addrs{HasId: true}
			want.Id[i] = byte(c)
			l := []api.Option{op(1, want.Id[:]...)}
			if a, ok := Read(api.Ip6c, l); a != want || !ok || !Right(api.Ip6c, l[0]) {
				t.Errorf("Read of %v: %v, %v", l, a, ok)
			}
			checkPut(t, api.Ip6c, want)
		}
	}
	if Right(api.Ip6c, op(1, make([]byte, 8)...)) {
		t.Error("an Id that is all 0 is right")
	}
}

// dataOf answers all lists of bytes of a length, of these values.
func dataOf(values []byte, size int) [][]byte {
	out := [][]byte{nil}
	for range size {
		var longer [][]byte
		for _, b := range out {
			for _, c := range values {
				longer = append(longer, append(slices.Clip(b), c))
			}
		}
		out = longer
	}
	return out
}

func TestAllShortData(t *testing.T) { // P15.1, P15.3, P15.4
	for size := range 6 {
		for _, data := range dataOf([]byte{0, 1, 2, 0x2d, 255}, size) {
			for _, n := range []int{1, 2, 3, 129, 132} {
				checkOption(t, api.Ipcp, op(n, data...))
				checkOption(t, api.Ip6c, op(n, data...))
			}
		}
	}
	for size := 6; size < 10; size++ {
		for _, data := range dataOf([]byte{0, 3}, size) {
			checkOption(t, api.Ip6c, op(1, data...))
			checkOption(t, api.Ipcp, op(3, data...))
		}
	}
}

// TestLongData holds Data that are longer than an option may have against the chapter's words as well.
func TestLongData(t *testing.T) { // P15.1
	for _, size := range []int{100, api.MaxOption, api.MaxOption + 1, 256 + 4, 256 + 8, 65536 + 4, 65536 + 8, 1 << 20} {
		data := bytes.Repeat([]byte{0, 0x2d, 1, 1}, size/4+1)[:size]
		for _, n := range []int{1, 2, 3, 129, 132, 133} {
			checkOption(t, api.Ipcp, op(n, data...))
			checkOption(t, api.Ip6c, op(n, data...))
		}
	}
}

func TestReadOfNoOptions(t *testing.T) { // P15.1
	for _, proto := range allProtos() {
		for _, l := range [][]api.Option{nil, {}, make([]api.Option, 0, 3)} {
			if a, ok := Read(proto, l); a != (api.Addrs{}) || !ok {
				t.Errorf("Read of no options by %x: %v, %v", proto, a, ok)
			}
			checkList(t, proto, l)
		}
	}
}

func TestReadOfEach(t *testing.T) { // P15.1
	for _, x := range []struct {
		proto int
		o     api.Option
		want  api.Addrs
	}{
		{api.Ipcp, op(2, 0, 0x2d, 0, 0), api.Addrs{HasVj: true}}, {api.Ipcp, op(2, 0, 0x2d, 15, 0), api.Addrs{HasVj: true, Slots: 15}}, {api.Ipcp, op(2, 0, 0x2d, 255, 1), api.Addrs{HasVj: true, Slots: 255, VjId: true}}, {api.Ipcp, op(2, 0, 0x2d, 0, 1), api.Addrs{HasVj: true, VjId: true}},
		{api.Ipcp, op(3, 1, 2, 3, 4), api.Addrs{HasIp: true, Ip: [4]byte{1, 2, 3, 4}}}, {api.Ipcp, op(3, 0, 0, 0, 0), api.Addrs{HasIp: true}},
		{api.Ipcp, op(129, 1, 2, 3, 4), api.Addrs{HasDns: [4]bool{0: true}, Dns: [4][4]byte{0: {1, 2, 3, 4}}}},
		{api.Ipcp, op(130, 1, 2, 3, 4), api.Addrs{HasDns: [4]bool{1: true}, Dns: [4][4]byte{1: {1, 2, 3, 4}}}},
		{api.Ipcp, op(131, 1, 2, 3, 4), api.Addrs{HasDns: [4]bool{2: true}, Dns: [4][4]byte{2: {1, 2, 3, 4}}}},
		{api.Ipcp, op(132, 1, 2, 3, 4), api.Addrs{HasDns: [4]bool{3: true}, Dns: [4][4]byte{3: {1, 2, 3, 4}}}},
		{api.Ipcp, op(131, 0, 0, 0, 0), api.Addrs{HasDns: [4]bool{2: true}}},
		{api.Ip6c, op(1, 1, 2, 3, 4, 5, 6, 7, 8), api.Addrs{HasId: true, Id: [8]byte{1, 2, 3, 4, 5, 6, 7, 8}}},
	} {
		l := []api.Option{x.o}
		if a, ok := Read(x.proto, l); a != x.want || !ok {
			t.Errorf("Read of %v: %v, %v", x.o, a, ok)
		}
		for _, other := range allProtos() {
			if a, ok := Read(other, l); other != x.proto && (a != api.Addrs{} || ok) {
				t.Errorf("Read of %v by %x: %v, %v", x.o, other, a, ok)
			}
		}
		twice := []api.Option{x.o, x.o}
		if a, ok := Read(x.proto, twice); a != (api.Addrs{}) || ok {
			t.Errorf("Read of %v: %v, %v", twice, a, ok)
		}
		unlike := []api.Option{x.o, op(x.o.Type, slices.Concat(x.o.Data[:2], []byte{200}, x.o.Data[3:])...)}
		if a, ok := Read(x.proto, unlike); a != (api.Addrs{}) || ok || !Right(x.proto, unlike[1]) {
			t.Errorf("Read of %v: %v, %v", unlike, a, ok)
		}
	}
}

// ordersOf answers a list in each of its orders.
func ordersOf(l []api.Option) [][]api.Option {
	if len(l) == 0 {
		return [][]api.Option{nil}
	}
	var out [][]api.Option
	for i := range l {
		for _, rest := range ordersOf(slices.Delete(slices.Clone(l), i, i+1)) {
			out = append(out, append([]api.Option{l[i]}, rest...))
		}
	}
	return out
}

func TestReadInAnyOrder(t *testing.T) { // P15.1
	orders := ordersOf(rightOnes())
	if len(orders) != 720 {
		t.Fatal(len(orders), "orders")
	}
	for _, l := range orders {
		if a, ok := Read(api.Ipcp, l); a != addrsOfRightOnes() || !ok {
			t.Errorf("Read(%v): %v, %v", l, a, ok)
		}
		for n := range l {
			checkList(t, api.Ipcp, l[:n])
			checkList(t, api.Ip6c, l[:n])
		}
	}
}

// TestReadOfWrongLists puts one option too many into a right list, at each place.
func TestReadOfWrongLists(t *testing.T) { // P15.1
	for _, o := range mixedOnes() {
		for at := range len(rightOnes()) + 1 {
			l := slices.Insert(rightOnes(), at, o)
			if a, ok := Read(api.Ipcp, l); a != (api.Addrs{}) || ok {
				t.Errorf("Read(%v): %v, %v", l, a, ok)
			}
			checkList(t, api.Ipcp, l)
			checkList(t, api.Ip6c, l)
		}
		for at := range 2 {
			l := slices.Insert(sixOnes()[:1], at, o)
			if a, ok := Read(api.Ip6c, l); a != (api.Addrs{}) || ok {
				t.Errorf("Read(%v): %v, %v", l, a, ok)
			}
			checkList(t, api.Ip6c, l)
		}
	}
	for i, o := range wrongOnes() {
		l := rightOnes()
		l[i] = o
		if a, ok := Read(api.Ipcp, l); a != (api.Addrs{}) || ok {
			t.Errorf("Read(%v): %v, %v", l, a, ok)
		}
		checkList(t, api.Ipcp, l)
	}
}

func TestPut(t *testing.T) { // P15.2
	for _, proto := range []int{api.Ipcp, api.Ip6c} {
		if l, ok := Put(proto, api.Addrs{}); len(l) != 0 || !ok {
			t.Errorf("Put(%x) of addresses of nothing: %v, %v", proto, l, ok)
		}
	}
	if l, ok := Put(api.Ipcp, addrsOfRightOnes()); !same(l, rightOnes()) || !ok {
		t.Errorf("Put of all: %v, %v", l, ok)
	}
	for _, x := range []struct {
		proto int
		a     api.Addrs
		want  api.Option
	}{
		{api.Ipcp, api.Addrs{HasVj: true}, op(2, 0, 0x2d, 0, 0)}, {api.Ipcp, api.Addrs{HasVj: true, VjId: true}, op(2, 0, 0x2d, 0, 1)}, {api.Ipcp, api.Addrs{HasVj: true, Slots: 7}, op(2, 0, 0x2d, 7, 0)}, {api.Ipcp, api.Addrs{HasVj: true, Slots: 255}, op(2, 0, 0x2d, 255, 0)}, {api.Ipcp, api.Addrs{HasVj: true, Slots: 255, VjId: true}, op(2, 0, 0x2d, 255, 1)},
		{api.Ipcp, api.Addrs{HasIp: true}, op(3, 0, 0, 0, 0)}, {api.Ipcp, api.Addrs{HasIp: true, Ip: [4]byte{1, 2, 3, 4}}, op(3, 1, 2, 3, 4)},
		{api.Ipcp, api.Addrs{HasDns: [4]bool{0: true}}, op(129, 0, 0, 0, 0)}, {api.Ipcp, api.Addrs{HasDns: [4]bool{3: true}}, op(132, 0, 0, 0, 0)},
		{api.Ipcp, api.Addrs{HasDns: [4]bool{0: true}, Dns: [4][4]byte{0: {1, 2, 3, 4}}}, op(129, 1, 2, 3, 4)},
		{api.Ipcp, api.Addrs{HasDns: [4]bool{1: true}, Dns: [4][4]byte{1: {1, 2, 3, 4}}}, op(130, 1, 2, 3, 4)},
		{api.Ipcp, api.Addrs{HasDns: [4]bool{2: true}, Dns: [4][4]byte{2: {1, 2, 3, 4}}}, op(131, 1, 2, 3, 4)},
		{api.Ipcp, api.Addrs{HasDns: [4]bool{3: true}, Dns: [4][4]byte{3: {1, 2, 3, 4}}}, op(132, 1, 2, 3, 4)},
		{api.Ip6c, api.Addrs{HasId: true, Id: [8]byte{1, 2, 3, 4, 5, 6, 7, 8}}, op(1, 1, 2, 3, 4, 5, 6, 7, 8)}, {api.Ip6c, api.Addrs{HasId: true, Id: [8]byte{7: 1}}, op(1, 0, 0, 0, 0, 0, 0, 0, 1)},
	} {
		if l, ok := Put(x.proto, x.a); !same(l, []api.Option{x.want}) || !ok {
			t.Errorf("Put(%x, %v): %v, %v", x.proto, x.a, l, ok)
		}
		for _, other := range allProtos() {
			if l, ok := Put(other, x.a); other != x.proto && (len(l) != 0 || ok) {
				t.Errorf("Put(%x, %v): %v, %v", other, x.a, l, ok)
			}
		}
	}
}

func TestPutByOthers(t *testing.T) { // P15.2
	for _, proto := range otherProtos {
		for _, a := range []api.Addrs{{}, addrsOfRightOnes(), {HasId: true, Id: [8]byte{1}}, {Slots: 1}} {
			if l, ok := Put(proto, a); len(l) != 0 || ok {
				t.Errorf("Put(%x, %v): %v, %v", proto, a, l, ok)
			}
		}
	}
	for proto := -3; proto < 65540; proto++ {
		l, ok := Put(proto, api.Addrs{})
		if len(l) != 0 || ok != (proto == api.Ipcp || proto == api.Ip6c) {
			t.Errorf("Put(%x) of addresses of nothing: %v, %v", proto, l, ok)
		}
	}
}

// wrongAddrs have no list by Ipcp.
func wrongAddrs() []api.Addrs {
	wrong := []api.Addrs{{VjId: true}, {Slots: 1}, {Slots: 255}, {Slots: -1}, {Slots: 256}, {Slots: 3, VjId: true}, {HasId: true}, {HasId: true, Id: [8]byte{1}}, {Id: [8]byte{7: 1}}, {Id: [8]byte{1}}}
	for _, slots := range []int{-1, 256, -256, 256 + 15, 15 - 256, 65536, 1 << 32, 1<<32 + 15, math.MinInt, math.MaxInt} {
		wrong = append(wrong, api.Addrs{HasVj: true, Slots: slots}, api.Addrs{HasVj: true, Slots: slots, VjId: true}, api.Addrs{Slots: slots})
	}
	for i := range 4 {
		var ip [4]byte
		ip[i] = 1
		wrong = append(wrong, api.Addrs{Ip: ip})
		for place := range 4 {
			a, b := addrsOfRightOnes(), api.Addrs{}
			a.HasDns[place], a.Dns[place] = false, ip
			b.Dns[place] = ip
			wrong = append(wrong, a, b)
		}
	}
	return wrong
}

func TestPutOfWrongAddrs(t *testing.T) { // P15.2
	for _, a := range wrongAddrs() {
		for _, proto := range []int{api.Ipcp, api.Lcp, 0, -1} {
			if l, ok := Put(proto, a); len(l) != 0 || ok {
				t.Errorf("Put(%x, %v): %v, %v", proto, a, l, ok)
			}
		}
		checkPut(t, api.Ip6c, a)
	}
	for i := range 8 {
		var id [8]byte
		id[i] = 1
		if l, ok := Put(api.Ip6c, api.Addrs{Id: id}); len(l) != 0 || ok {
			t.Errorf("Put of the Id %v that isn't there: %v, %v", id, l, ok)
		}
	}
	if l, ok := Put(api.Ip6c, api.Addrs{HasId: true}); len(l) != 0 || ok {
		t.Errorf("Put of an Id that is all 0: %v, %v", l, ok)
	}
}

// TestPutOfTheOthersFields has, beside a list's own, each field that the other protocol alone has an option for.
func TestPutOfTheOthersFields(t *testing.T) { // P15.2
	for _, x := range []api.Addrs{{HasIp: true}, {HasIp: true, Ip: [4]byte{1}}, {Ip: [4]byte{3: 1}}, {HasVj: true}, {Slots: 1}, {Slots: -1}, {VjId: true}, {HasDns: [4]bool{true}}, {HasDns: [4]bool{3: true}}, {Dns: [4][4]byte{3: {3: 1}}}} {
		six := x
		six.HasId, six.Id = true, [8]byte{7: 1}
		for _, a := range []api.Addrs{x, six} {
			if l, ok := Put(api.Ip6c, a); len(l) != 0 || ok {
				t.Errorf("Put(Ip6c, %v): %v, %v", a, l, ok)
			}
		}
	}
	for _, x := range []api.Addrs{{HasId: true}, {HasId: true, Id: [8]byte{1}}, {Id: [8]byte{7: 1}}} {
		all := addrsOfRightOnes()
		all.HasId, all.Id = x.HasId, x.Id
		for _, a := range []api.Addrs{x, all} {
			if l, ok := Put(api.Ipcp, a); len(l) != 0 || ok {
				t.Errorf("Put(Ipcp, %v): %v, %v", a, l, ok)
			}
		}
	}
}

func TestPutOfEachSlots(t *testing.T) { // P15.2, P15.4
	for n := -70000; n < 70000; n++ {
		_, ok := Put(api.Ipcp, api.Addrs{HasVj: true, Slots: n})
		if ok != (n >= 0 && n <= 255) {
			t.Errorf("Put of %d slots: %v", n, ok)
		}
		if n > -300 && n < 600 {
			checkPut(t, api.Ipcp, api.Addrs{HasVj: true, Slots: n})
			checkPut(t, api.Ipcp, api.Addrs{HasVj: true, Slots: n, VjId: true})
			checkPut(t, api.Ipcp, api.Addrs{Slots: n})
			checkPut(t, api.Ip6c, api.Addrs{Slots: n})
		}
	}
}

// TestPutOfAllEdges puts what there is and what there isn't of each, with each.
func TestPutOfAllEdges(t *testing.T) { // P15.2, P15.4
	for mask := range 1 << 14 {
		bit := func(i int) bool { return mask>>i&1 == 1 }
		a := api.Addrs{HasVj: bit(0), VjId: bit(1), HasIp: bit(2), HasId: bit(3), HasDns: [4]bool{bit(4), bit(5), bit(6), bit(7)}}
		for place := range 4 {
			if bit(8 + place) {
				a.Dns[place][place] = 7
			}
		}
		if bit(12) {
			a.Ip[3] = 1
		}
		if bit(13) {
			a.Id[0] = 1
		}
		for _, a.Slots = range []int{0, 1, 255, 256, -1} {
			checkPut(t, api.Ipcp, a)
			checkPut(t, api.Ip6c, a)
			checkPut(t, api.Lcp, a)
		}
	}
}

func TestBadOfNothing(t *testing.T) { // P15.3
	for _, proto := range allProtos() {
		if rejected, changed := Bad(proto, nil); len(rejected) != 0 || len(changed) != 0 {
			t.Errorf("Bad(%x, nil): %v, %v", proto, rejected, changed)
		}
	}
	for _, x := range []struct {
		proto int
		l     []api.Option
	}{{api.Ipcp, rightOnes()}, {api.Ip6c, sixOnes()[:1]}} {
		if rejected, changed := Bad(x.proto, x.l); len(rejected) != 0 || len(changed) != 0 {
			t.Errorf("Bad of %v: %v, %v", x.l, rejected, changed)
		}
	}
}

// TestBadByOthers holds that all is to be rejected by a protocol that knows nothing.
func TestBadByOthers(t *testing.T) { // P15.3
	for _, proto := range otherProtos {
		if rejected, changed := Bad(proto, mixedOnes()); !same(rejected, mixedOnes()) || len(changed) != 0 {
			t.Errorf("Bad by %x: %v, %v", proto, rejected, changed)
		}
	}
	if rejected, changed := Bad(api.Ip6c, rightOnes()); !same(rejected, rightOnes()) || len(changed) != 0 {
		t.Errorf("Bad by Ip6c of what Ipcp knows: %v, %v", rejected, changed)
	}
	if rejected, changed := Bad(api.Ipcp, sixOnes()); !same(rejected, sixOnes()) || len(changed) != 0 {
		t.Errorf("Bad by Ipcp of what Ip6c knows: %v, %v", rejected, changed)
	}
}

func TestBadOfEach(t *testing.T) { // P15.3
	for _, x := range []struct {
		proto int
		o     api.Option
		want  api.Option
	}{
		{api.Ipcp, op(2), op(2, 0, 0x2d, 15, 0)}, {api.Ipcp, op(2, 0, 0x2d, 15, 2), op(2, 0, 0x2d, 15, 0)}, {api.Ipcp, op(2, 0, 0x2d, 99, 1, 0), op(2, 0, 0x2d, 15, 0)}, {api.Ipcp, op(2, 0, 0x37, 9, 1), op(2, 0, 0x2d, 15, 0)},
		{api.Ipcp, op(3), op(3, 10, 0, 0, 1)}, {api.Ipcp, op(3, 1, 2, 3), op(3, 10, 0, 0, 1)}, {api.Ipcp, op(3, 1, 2, 3, 4, 5), op(3, 10, 0, 0, 1)},
		{api.Ipcp, op(129), op(129, 10, 0, 0, 1)}, {api.Ipcp, op(130, 1), op(130, 10, 0, 0, 1)}, {api.Ipcp, op(131, 1, 2, 3, 4, 5), op(131, 10, 0, 0, 1)}, {api.Ipcp, op(132, 1, 2, 3), op(132, 10, 0, 0, 1)},
		{api.Ip6c, op(1), op(1, 0, 0, 0, 0, 0, 0, 0, 1)}, {api.Ip6c, op(1, 0, 0, 0, 0, 0, 0, 0, 0), op(1, 0, 0, 0, 0, 0, 0, 0, 1)}, {api.Ip6c, op(1, 1, 2, 3, 4, 5, 6, 7), op(1, 0, 0, 0, 0, 0, 0, 0, 1)}, {api.Ip6c, op(1, 1, 2, 3, 4, 5, 6, 7, 8, 9), op(1, 0, 0, 0, 0, 0, 0, 0, 1)},
	} {
		if rejected, changed := Bad(x.proto, []api.Option{x.o}); len(rejected) != 0 || !same(changed, []api.Option{x.want}) {
			t.Errorf("Bad of %v: %v, %v", x.o, rejected, changed)
		}
	}
	for _, proto := range allProtos() {
		for _, n := range someTypes() {
			for _, data := range [][]byte{nil, {1}, {1, 2, 3, 4}, {0, 0x2d, 1, 1}, {0, 0, 0, 0, 0, 0, 0, 1}, make([]byte, 300)} {
				rejected, changed := Bad(proto, []api.Option{op(n, data...)})
				if known := knownByWords(proto, n); len(rejected) == 1 == known || len(rejected) == 1 && !same(rejected, []api.Option{op(n, data...)}) || len(changed) > 0 && !known {
					t.Errorf("Bad by %x of the Type %d, of %d bytes: %v, %v", proto, n, len(data), rejected, changed)
				}
			}
		}
	}
}

// TestBadOfTwo has one of a known Type ahead, and one behind, each right and wrong.
func TestBadOfTwo(t *testing.T) { // P15.3
	rights, wrongs := append(rightOnes(), sixOnes()[0]), append(wrongOnes(), sixOnes()[3])
	for i, right := range rights {
		proto := api.Ipcp
		if right.Type == 1 {
			proto = api.Ip6c
		}
		wrong, other := wrongs[i], op(right.Type, 9, 9, 9)
		for _, between := range [][]api.Option{nil, {op(99, 1)}, {op(0), op(128, 1, 2, 3, 4)}} {
			for _, ahead := range []api.Option{right, wrong} {
				for _, behind := range []api.Option{right, wrong, other} {
					l := append(append([]api.Option{ahead}, between...), behind, behind)
					wantRejected := append(slices.Clone(between), behind, behind)
					var wantChanged []api.Option
					if !rightByWords(proto, ahead) {
						wantChanged = []api.Option{changedByWords(right.Type)}
					}
					if rejected, changed := Bad(proto, l); !same(rejected, wantRejected) || !same(changed, wantChanged) {
						t.Errorf("Bad(%x, %v): %v, %v", proto, l, rejected, changed)
					}
				}
			}
		}
	}
}

func TestBadInOrder(t *testing.T) { // P15.3
	l := []api.Option{op(132, 1), op(99, 1), op(130), op(1, 5, 221), op(3, 1, 2, 3, 4), op(132, 1, 2, 3, 4), op(0, 7), op(3, 1), op(99, 1), op(2, 1), op(131, 4, 3, 2, 1), op(129, 0), op(2, 0, 0x2d, 1, 1), op(1, 1, 2, 3, 4, 5, 6, 7, 8), op(130)}
	wantRejected := []api.Option{op(99, 1), op(1, 5, 221), op(132, 1, 2, 3, 4), op(0, 7), op(3, 1), op(99, 1), op(2, 0, 0x2d, 1, 1), op(1, 1, 2, 3, 4, 5, 6, 7, 8), op(130)}
	wantChanged := []api.Option{op(132, 10, 0, 0, 1), op(130, 10, 0, 0, 1), op(2, 0, 0x2d, 15, 0), op(129, 10, 0, 0, 1)}
	if rejected, changed := Bad(api.Ipcp, l); !same(rejected, wantRejected) || !same(changed, wantChanged) {
		t.Errorf("Bad(%v): %v, %v", l, rejected, changed)
	}
	six := []api.Option{op(3, 1, 2, 3, 4), op(1, 1), op(2), op(1, 1, 2, 3, 4, 5, 6, 7, 8), op(3, 1, 2, 3, 4)}
	if rejected, changed := Bad(api.Ip6c, six); !same(rejected, []api.Option{six[0], six[2], six[3], six[4]}) || !same(changed, []api.Option{op(1, 0, 0, 0, 0, 0, 0, 0, 1)}) {
		t.Errorf("Bad(%v): %v, %v", six, rejected, changed)
	}
	for _, order := range ordersOf(wrongOnes()) {
		var want []api.Option
		for _, o := range order {
			want = append(want, changedByWords(o.Type))
		}
		if rejected, changed := Bad(api.Ipcp, order); len(rejected) != 0 || !same(changed, want) {
			t.Errorf("Bad(%v): %v, %v", order, rejected, changed)
		}
	}
}

// TestAllShortLists holds all lists of up to three options, right, wrong and unknown ones, against the chapter's words.
func TestAllShortLists(t *testing.T) { // P15.1, P15.3, P15.4
	all := mixedOnes()
	for _, proto := range []int{api.Ipcp, api.Ip6c, api.Lcp} {
		checkList(t, proto, all)
		for _, a := range all {
			checkList(t, proto, []api.Option{a})
			for _, b := range all {
				checkList(t, proto, []api.Option{a, b})
				for _, c := range all {
					checkList(t, proto, []api.Option{a, b, c})
				}
			}
		}
	}
}

// optionByChance is right by the protocol, more often than not.
func optionByChance(r *rand.Rand, proto int) api.Option {
	all := rightOnes()
	if proto == api.Ip6c {
		all = sixOnes()[:3]
	}
	o := all[r.Intn(len(all))]
	switch r.Intn(12) {
	case 0:
		o.Type = r.Intn(140) - 1
	case 1:
		o.Data = make([]byte, r.Intn(10))
		for i := range o.Data {
			o.Data[i] = byte(r.Intn(256) * r.Intn(2))
		}
	case 2:
		o = mixedOnes()[r.Intn(len(mixedOnes()))]
	}
	if len(o.Data) > 1 && r.Intn(4) == 0 {
		o.Data[r.Intn(len(o.Data))] ^= 1 << r.Intn(8)
	}
	return o
}

func TestListsByChance(t *testing.T) { // P15.1, P15.3, P15.4
	r := rand.New(rand.NewSource(15))
	right := map[int]int{}
	for range 100000 {
		proto := []int{api.Ipcp, api.Ipcp, api.Ip6c, r.Intn(65536)}[r.Intn(4)]
		var l []api.Option
		for range r.Intn(7) {
			l = append(l, optionByChance(r, proto))
		}
		checkList(t, proto, l)
		if a, ok := Read(proto, l); ok && len(l) > 0 {
			right[proto]++
			checkPut(t, proto, a)
		}
	}
	if right[api.Ipcp] < 1000 || right[api.Ip6c] < 1000 {
		t.Error("too few right lists:", right)
	}
}

// addrsByChance has a field without its Has now and then.
func addrsByChance(r *rand.Rand, proto int) api.Addrs {
	var a api.Addrs
	rare := func() bool { return r.Intn(60) == 0 }
	four := func() [4]byte {
		return [4]byte{byte(r.Intn(256)), byte(r.Intn(2)), byte(r.Intn(256)), byte(r.Intn(256))}
	}
	if a.HasId = proto == api.Ip6c && r.Intn(2) == 0 || rare(); a.HasId || rare() {
		a.Id[r.Intn(8)] = byte(r.Intn(256))
	}
	if proto == api.Ip6c && !rare() {
		return a
	}
	if a.HasIp = r.Intn(2) == 0; a.HasIp || rare() {
		a.Ip = four()
	}
	if a.HasVj = r.Intn(2) == 0; a.HasVj || rare() {
		a.Slots, a.VjId = r.Intn(264)-4, r.Intn(2) == 0
	}
	for i := range a.Dns {
		if a.HasDns[i] = r.Intn(2) == 0; a.HasDns[i] || rare() {
			a.Dns[i] = four()
		}
	}
	return a
}

func TestAddrsByChance(t *testing.T) { // P15.2, P15.4
	r := rand.New(rand.NewSource(51))
	put := map[int]int{}
	for range 100000 {
		proto := []int{api.Ipcp, api.Ip6c}[r.Intn(2)]
		a := addrsByChance(r, proto)
		checkPut(t, proto, a)
		checkPut(t, r.Intn(65536), a)
		if _, ok := Put(proto, a); ok {
			put[proto]++
		}
	}
	if put[api.Ipcp] < 1000 || put[api.Ip6c] < 1000 {
		t.Error("too few addresses of right lists:", put)
	}
}

// TestManyOptions holds that the time goes up with the number of options, not with its square.
func TestManyOptions(t *testing.T) { // P1
	l := make([]api.Option, 300000)
	for i := range l {
		l[i] = api.Option{Type: i + 133, Data: []byte{byte(i)}}
	}
	for _, o := range append(wrongOnes(), rightOnes()...) {
		l = append(l, o, o)
	}
	var want []api.Option
	for _, o := range wrongOnes() {
		want = append(want, changedByWords(o.Type))
	}
	rejected, changed := Bad(api.Ipcp, l)
	if len(rejected) != 300000+24-6 || !same(changed, want) {
		t.Errorf("Bad of many options: %d, %v", len(rejected), changed)
	}
	if a, ok := Read(api.Ipcp, l); a != (api.Addrs{}) || ok {
		t.Errorf("Read of many options: %v, %v", a, ok)
	}
	alike := slices.Repeat([]api.Option{op(3, 1, 2, 3)}, 300000)
	rejected, changed = Bad(api.Ipcp, alike)
	if len(rejected) != 299999 || !same(changed, []api.Option{op(3, 10, 0, 0, 1)}) {
		t.Errorf("Bad of many options of one Type: %d, %v", len(rejected), changed)
	}
}
