package terms

import (
	"bytes"
	"math"
	"slices"
	"testing"

	"umpire/api"
)

// fresh is a list with room behind its length, filled, so that a write there is seen.
func fresh(b []byte) []byte {
	room := bytes.Repeat([]byte{0x15}, len(b)+16)
	copy(room, b)
	return room[:len(b)]
}

// freshOptions is a list of options, and of their Data, with room behind the length of each.
func freshOptions(l []api.Option) []api.Option {
	room := make([]api.Option, len(l)+3)
	for i := range room {
		room[i] = api.Option{Type: 15, Data: fresh([]byte{15})}
		if i < len(l) {
			room[i] = api.Option{Type: l[i].Type, Data: fresh(l[i].Data)}
		}
	}
	return room[:len(l)]
}

// sameRoom compares two lists, and the room behind the length of each, and of each option's Data.
func sameRoom(a, b []api.Option) bool {
	return slices.EqualFunc(a[:cap(a)], b[:cap(b)], func(x, y api.Option) bool {
		return x.Type == y.Type && len(x.Data) == len(y.Data) && bytes.Equal(x.Data[:cap(x.Data)], y.Data[:cap(y.Data)])
	})
}

// overwrite fills a list and the room behind its length.
func overwrite(b []byte) {
	b = b[:cap(b)]
	for i := range b {
		b[i] = 99
	}
}

// overwriteOptions fills all options' Data and the options, and the room behind their length.
func overwriteOptions(l []api.Option) {
	l = l[:cap(l)]
	for i := range l {
		overwrite(l[i].Data)
		l[i] = api.Option{Type: 99, Data: []byte{99}}
	}
}

// someLists are right ones, wrong ones, and ones of which some options are to be rejected.
func someLists() [][]api.Option {
	lists := [][]api.Option{nil, rightOnes(), wrongOnes(), mixedOnes(), append(rightOnes(), rightOnes()...), append(wrongOnes(), rightOnes()...), append(rightOnes(), wrongOnes()...)}
	for _, o := range mixedOnes() {
		lists = append(lists, []api.Option{o}, []api.Option{o, o}, []api.Option{op(99, 1, 2, 3), o, op(-9, 4)})
	}
	return lists
}

func someTerms() []api.Terms {
	return []api.Terms{{}, termsOfRightOnes(), {HasMru: true}, {HasAccm: true}, {Login: api.Pap}, {Login: api.Chap}, {Quality: true}, {HasMagic: true, Magic: 1}, {Pfc: true}, {Acfc: true}, {Mru: 1}, {HasMagic: true}, {Login: 1}, {HasMru: true, Mru: 65536, Quality: true}}
}

func TestHandedInStays(t *testing.T) { // P14.5
	for _, l := range someLists() {
		given, want := freshOptions(l), freshOptions(l)
		for _, o := range given {
			Right(o)
		}
		Read(given)
		Login(given)
		rejected, changed := Bad(given)
		overwriteOptions(rejected)
		overwriteOptions(changed)
		if !sameRoom(given, want) {
			t.Errorf("%v has become %v", l, given)
		}
	}
}

// TestRoomIsNotHandedIn hands in the first options of longer lists, and Data that would be right with what stands behind.
func TestRoomIsNotHandedIn(t *testing.T) { // P14.5, rule 8
	for _, l := range someLists() {
		for n := range l {
			checkList(t, l[:n])
		}
		checkList(t, freshOptions(l))
	}
	for _, o := range rightOnes() {
		for n := range len(o.Data) + 1 {
			checkOption(t, api.Option{Type: o.Type, Data: o.Data[:n]})
			checkOption(t, api.Option{Type: o.Type, Data: append(slices.Clone(o.Data), 0)[:n]})
		}
	}
}

func TestOptionsPutAreNew(t *testing.T) { // P14.5
	for _, x := range someTerms() {
		want, _ := putByWords(x)
		first, _ := Put(x)
		second, _ := Put(x)
		overwriteOptions(second)
		if !same(first, want) {
			t.Errorf("Put(%v) shares memory with another answer", x)
		}
		overwriteOptions(first)
		if third, _ := Put(x); !same(third, want) {
			t.Errorf("Put(%v) goes by what was written into an answer: %v", x, third)
		}
		for i := range want {
			l, _ := Put(x)
			overwrite(l[i].Data)
			if !same(slices.Delete(l, i, i+1), slices.Delete(slices.Clone(want), i, i+1)) {
				t.Errorf("Put(%v): the Data of %d share memory with others'", x, i)
			}
		}
	}
}

func TestWhatIsBadIsNew(t *testing.T) { // P14.5
	for _, l := range someLists() {
		wantRejected, wantChanged := badByWords(l)
		given := freshOptions(l)
		rejected, changed := Bad(given)
		overRejected, overChanged := Bad(given)
		overwriteOptions(overRejected)
		overwriteOptions(overChanged)
		if !same(rejected, wantRejected) || !same(changed, wantChanged) {
			t.Errorf("Bad(%v) shares memory with another answer", l)
		}
		overwriteOptions(given)
		if !same(rejected, wantRejected) || !same(changed, wantChanged) {
			t.Errorf("Bad(%v) shares memory with what was handed in", l)
		}
		overwriteOptions(rejected)
		if !same(changed, wantChanged) {
			t.Errorf("Bad(%v): what is to be changed shares memory with what is to be rejected", l)
		}
		overwriteOptions(changed)
		if rejected, changed := Bad(l); !same(rejected, wantRejected) || !same(changed, wantChanged) {
			t.Errorf("Bad(%v) goes by what was written into an answer: %v, %v", l, rejected, changed)
		}
	}
}

// TestDataOfOneAnswerAreApart writes into each option's Data, and into the room behind them, and looks at all others.
func TestDataOfOneAnswerAreApart(t *testing.T) { // P14.5
	for _, l := range someLists() {
		wantRejected, wantChanged := badByWords(l)
		for i := range len(wantRejected) + len(wantChanged) {
			rejected, changed := Bad(l)
			all := append(slices.Clone(rejected), changed...)
			want := slices.Concat(wantRejected, wantChanged)
			overwrite(all[i].Data)
			if !same(slices.Delete(all, i, i+1), slices.Delete(want, i, i+1)) {
				t.Errorf("Bad(%v): the Data of %d share memory with others'", l, i)
			}
		}
	}
}

// TestSharedDataAreToldApart hands in options of which all have the same Data, in the same memory.
func TestSharedDataAreToldApart(t *testing.T) { // P14.5
	data := []byte{1, 2, 3}
	l := []api.Option{{Type: 99, Data: data}, {Type: 99, Data: data}, {Type: 1, Data: data}, {Type: 1, Data: data}}
	rejected, _ := Bad(l)
	overwrite(rejected[0].Data)
	if !same(rejected[1:], []api.Option{op(99, 1, 2, 3), op(1, 1, 2, 3)}) || !bytes.Equal(data, []byte{1, 2, 3}) {
		t.Errorf("what is to be rejected shares memory: %v", rejected)
	}
}

func TestNothingIsKept(t *testing.T) { // rule 8
	for range 3 {
		for _, l := range someLists() {
			checkList(t, l)
		}
		for _, x := range someTerms() {
			checkPut(t, x)
		}
		for _, n := range knownTypes {
			if !Known(n) {
				t.Errorf("Known(%d): false", n)
			}
		}
	}
}

func FuzzTerms(f *testing.F) { // P1, P14.1 to P14.5
	for _, o := range mixedOnes() {
		f.Add(o.Type, o.Data, 3, []byte{0xc0, 0x23})
		f.Add(1, []byte{5, 220}, o.Type, o.Data)
	}
	f.Add(math.MinInt, make([]byte, 300), math.MaxInt, []byte{})
	f.Fuzz(func(t *testing.T, kind int, data []byte, other int, more []byte) {
		kept, keptMore := bytes.Clone(data), bytes.Clone(more)
		a, b := api.Option{Type: kind, Data: data}, api.Option{Type: other, Data: more}
		checkOption(t, a)
		checkOption(t, b)
		if Known(kind) != knownByWords(kind) {
			t.Errorf("Known(%d): %v", kind, Known(kind))
		}
		for _, l := range [][]api.Option{{a, b}, {b, a}, {a, b, a}, append(rightOnes(), a, b), append([]api.Option{a, b}, rightOnes()...)} {
			checkList(t, l)
			if x, ok := Read(l); ok {
				checkPut(t, x)
			}
		}
		checkPut(t, api.Terms{HasMru: len(data) > 1, Mru: kind, Login: other, HasMagic: len(data) > 3, Magic: uint32(kind)})
		if !bytes.Equal(data, kept) || !bytes.Equal(more, keptMore) {
			t.Error("what was handed in has changed")
		}
	})
}
