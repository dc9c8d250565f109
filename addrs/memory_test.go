package addrs

import (
	"bytes"
	"math"
	"slices"
	"testing"

	"umpire/api"
)

// fresh is a list with room behind its length, filled, so that a write there is seen.
func fresh(b []byte) []byte {
	room := bytes.Repeat([]byte{0x15}, len(b)+16)
	copy(room, b)
	return room[:len(b)]
}

// freshOptions is a list of options, and of their Data, with room behind the length of each.
func freshOptions(l []api.Option) []api.Option {
	room := make([]api.Option, len(l)+3)
	for i := range room {
		room[i] = api.Option{Type: 15, Data: fresh([]byte{15})}
		if i < len(l) {
			room[i] = api.Option{Type: l[i].Type, Data: fresh(l[i].Data)}
		}
	}
	return room[:len(l)]
}

// sameRoom compares two lists, and the room behind the length of each, and of each option's Data.
func sameRoom(a, b []api.Option) bool {
	return slices.EqualFunc(a[:cap(a)], b[:cap(b)], func(x, y api.Option) bool {
		return x.Type == y.Type && len(x.Data) == len(y.Data) && bytes.Equal(x.Data[:cap(x.Data)], y.Data[:cap(y.Data)])
	})
}

// overwrite fills a list and the room behind its length.
func overwrite(b []byte) {
	b = b[:cap(b)]
	for i := range b {
		b[i] = 99
	}
}

// overwriteOptions fills all options' Data and the options, and the room behind their length.
func overwriteOptions(l []api.Option) {
	l = l[:cap(l)]
	for i := range l {
		overwrite(l[i].Data)
		l[i] = api.Option{Type: 99, Data: []byte{99}}
	}
}

var bothProtos = []int{api.Ipcp, api.Ip6c}

// someLists are right ones, wrong ones, and ones of which some options are to be rejected.
func someLists() [][]api.Option {
	lists := [][]api.Option{nil, rightOnes(), wrongOnes(), mixedOnes(), sixOnes(), sixOnes()[:1], sixOnes()[3:], append(rightOnes(), rightOnes()...), append(wrongOnes(), rightOnes()...), append(rightOnes(), wrongOnes()...)}
	for _, o := range mixedOnes() {
		lists = append(lists, []api.Option{o}, []api.Option{o, o}, []api.Option{op(99, 1, 2, 3), o, op(-9, 4)})
	}
	return lists
}

func someAddrs() []api.Addrs {
	return append(wrongAddrs(), api.Addrs{}, addrsOfRightOnes(), api.Addrs{HasIp: true}, api.Addrs{HasVj: true, Slots: 9}, api.Addrs{HasDns: [4]bool{1: true}}, api.Addrs{HasId: true, Id: [8]byte{7: 1}})
}

func TestHandedInStays(t *testing.T) { // P15.5
	for _, proto := range append(bothProtos, api.Lcp) {
		for _, l := range someLists() {
			given, want := freshOptions(l), freshOptions(l)
			for _, o := range given {
				Right(proto, o)
			}
			Read(proto, given)
			rejected, changed := Bad(proto, given)
			overwriteOptions(rejected)
			overwriteOptions(changed)
			if !sameRoom(given, want) {
				t.Errorf("%v has become %v", l, given)
			}
		}
	}
}

// TestRoomIsNotHandedIn hands in the first options of longer lists, and Data that would be right with what stands behind.
func TestRoomIsNotHandedIn(t *testing.T) { // P15.5, rule 8
	for _, proto := range bothProtos {
		for _, l := range someLists() {
			for n := range l {
				checkList(t, proto, l[:n])
			}
			checkList(t, proto, freshOptions(l))
		}
		for _, o := range append(rightOnes(), sixOnes()...) {
			for n := range len(o.Data) + 1 {
				checkOption(t, proto, api.Option{Type: o.Type, Data: o.Data[:n]})
				checkOption(t, proto, api.Option{Type: o.Type, Data: append(slices.Clone(o.Data), 0)[:n]})
			}
		}
	}
}

func TestOptionsPutAreNew(t *testing.T) { // P15.5
	for _, proto := range bothProtos {
		for _, a := range someAddrs() {
			want, _ := putByWords(proto, a)
			first, _ := Put(proto, a)
			second, _ := Put(proto, a)
			overwriteOptions(second)
			if !same(first, want) {
				t.Errorf("Put(%x, %v) shares memory with another answer", proto, a)
			}
			overwriteOptions(first)
			if third, _ := Put(proto, a); !same(third, want) {
				t.Errorf("Put(%x, %v) goes by what was written into an answer: %v", proto, a, third)
			}
			for i := range want {
				l, _ := Put(proto, a)
				overwrite(l[i].Data)
				if !same(slices.Delete(l, i, i+1), slices.Delete(slices.Clone(want), i, i+1)) {
					t.Errorf("Put(%x, %v): the Data of %d share memory with others'", proto, a, i)
				}
			}
		}
	}
}

func TestWhatIsBadIsNew(t *testing.T) { // P15.5
	for _, proto := range append(bothProtos, api.Lcp) {
		for _, l := range someLists() {
			wantRejected, wantChanged := badByWords(proto, l)
			given := freshOptions(l)
			rejected, changed := Bad(proto, given)
			overRejected, overChanged := Bad(proto, given)
			overwriteOptions(overRejected)
			overwriteOptions(overChanged)
			if !same(rejected, wantRejected) || !same(changed, wantChanged) {
				t.Errorf("Bad(%x, %v) shares memory with another answer", proto, l)
			}
			overwriteOptions(given)
			if !same(rejected, wantRejected) || !same(changed, wantChanged) {
				t.Errorf("Bad(%x, %v) shares memory with what was handed in", proto, l)
			}
			overwriteOptions(rejected)
			if !same(changed, wantChanged) {
				t.Errorf("Bad(%x, %v): what is to be changed shares memory with what is to be rejected", proto, l)
			}
			overwriteOptions(changed)
			if rejected, changed := Bad(proto, l); !same(rejected, wantRejected) || !same(changed, wantChanged) {
				t.Errorf("Bad(%x, %v) goes by what was written into an answer: %v, %v", proto, l, rejected, changed)
			}
		}
	}
}

// TestDataOfOneAnswerAreApart writes into each option's Data, and into the room behind them, and looks at all others.
func TestDataOfOneAnswerAreApart(t *testing.T) { // P15.5
	for _, proto := range bothProtos {
		for _, l := range someLists() {
			wantRejected, wantChanged := badByWords(proto, l)
			for i := range len(wantRejected) + len(wantChanged) {
				rejected, changed := Bad(proto, l)
				all := append(slices.Clone(rejected), changed...)
				want := slices.Concat(wantRejected, wantChanged)
				overwrite(all[i].Data)
				if !same(slices.Delete(all, i, i+1), slices.Delete(want, i, i+1)) {
					t.Errorf("Bad(%x, %v): the Data of %d share memory with others'", proto, l, i)
				}
			}
		}
	}
}

// TestSharedDataAreToldApart hands in options of which all have the same Data, in the same memory.
func TestSharedDataAreToldApart(t *testing.T) { // P15.5
	data := []byte{1, 2, 3}
	l := []api.Option{{Type: 99, Data: data}, {Type: 99, Data: data}, {Type: 3, Data: data}, {Type: 3, Data: data}}
	rejected, _ := Bad(api.Ipcp, l)
	overwrite(rejected[0].Data)
	if !same(rejected[1:], []api.Option{op(99, 1, 2, 3), op(3, 1, 2, 3)}) || !bytes.Equal(data, []byte{1, 2, 3}) {
		t.Errorf("what is to be rejected shares memory: %v", rejected)
	}
}

func TestNothingIsKept(t *testing.T) { // rule 8
	for range 3 {
		for _, proto := range append(bothProtos, api.Lcp, 0) {
			for _, l := range someLists() {
				checkList(t, proto, l)
			}
			for _, a := range someAddrs() {
				checkPut(t, proto, a)
			}
			for n := range 140 {
				if Known(proto, n) != knownByWords(proto, n) {
					t.Errorf("Known(%x, %d): %v", proto, n, Known(proto, n))
				}
			}
		}
	}
}

func FuzzAddrs(f *testing.F) { // P1, P15.1 to P15.5
	for _, o := range mixedOnes() {
		f.Add(api.Ipcp, o.Type, o.Data, 3, []byte{10, 0, 0, 9})
		f.Add(api.Ip6c, 1, []byte{1, 2, 3, 4, 5, 6, 7, 8}, o.Type, o.Data)
	}
	f.Add(0, math.MinInt, make([]byte, 300), math.MaxInt, []byte{})
	f.Fuzz(func(t *testing.T, proto, kind int, data []byte, other int, more []byte) {
		kept, keptMore := bytes.Clone(data), bytes.Clone(more)
		a, b := api.Option{Type: kind, Data: data}, api.Option{Type: other, Data: more}
		for _, proto := range append(bothProtos, proto) {
			checkOption(t, proto, a)
			checkOption(t, proto, b)
			if Known(proto, kind) != knownByWords(proto, kind) {
				t.Errorf("Known(%x, %d): %v", proto, kind, Known(proto, kind))
			}
			for _, l := range [][]api.Option{{a, b}, {b, a}, {a, b, a}, append(rightOnes(), a, b), append([]api.Option{a, b}, rightOnes()...)} {
				checkList(t, proto, l)
				if x, ok := Read(proto, l); ok {
					checkPut(t, proto, x)
				}
			}
			x := api.Addrs{HasIp: kind&1 == 1, HasVj: kind&2 == 2, Slots: other, VjId: kind&4 == 4, HasId: kind&8 == 8}
			copy(x.Ip[:], data)
			copy(x.Id[:], more)
			checkPut(t, proto, x)
		}
		if !bytes.Equal(data, kept) || !bytes.Equal(more, keptMore) {
			t.Error("what was handed in has changed")
		}
	})
}
