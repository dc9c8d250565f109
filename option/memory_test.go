package option

import (
	"bytes"
	"math"
	"slices"
	"testing"

	"umpire/api"
)

// fresh is a list with room behind its length, filled, so that a write there is seen.
func fresh(b []byte) []byte {
	room := bytes.Repeat([]byte{0x15}, len(b)+16)
	copy(room, b)
	return room[:len(b)]
}

// freshOptions is a list of options, and of their Data, with room behind the length of each.
func freshOptions(l []api.Option) []api.Option {
	room := make([]api.Option, len(l)+3)
	for i := range room {
		room[i] = api.Option{Type: 15, Data: fresh([]byte{15})}
		if i < len(l) {
			room[i] = api.Option{Type: l[i].Type, Data: fresh(l[i].Data)}
		}
	}
	return room[:len(l)]
}

// sameRoom compares two lists, and the room behind the length of each, and of each option's Data.
func sameRoom(a, b []api.Option) bool {
	return slices.EqualFunc(a[:cap(a)], b[:cap(b)], func(x, y api.Option) bool {
		return x.Type == y.Type && len(x.Data) == len(y.Data) && bytes.Equal(x.Data[:cap(x.Data)], y.Data[:cap(y.Data)])
	})
}

// overwrite fills a list and the room behind its length.
func overwrite(b []byte) {
	b = b[:cap(b)]
	for i := range b {
		b[i] = 99
	}
}

// overwriteOptions fills all options' Data and the options, and the room behind their length.
func overwriteOptions(l []api.Option) {
	l = l[:cap(l)]
	for i := range l {
		overwrite(l[i].Data)
		l[i] = api.Option{Type: 99, Data: []byte{99}}
	}
}

// someLists are right ones, and ones of which an option may not be, at the beginning and behind others.
func someLists() [][]api.Option {
	long := api.Option{Type: 1, Data: make([]byte, tooLong)}
	lists := [][]api.Option{nil, someOptions(), someOptions()[:2], {{Type: 256}}, {long}, append(someOptions(), long), append(someOptions(), api.Option{Type: -1})}
	for _, o := range someOptions() {
		lists = append(lists, []api.Option{o})
	}
	return lists
}

// someBytes are those of right lists, and wrong ones, among them some with options ahead of the fault.
func someBytes() [][]byte {
	b, _ := putByWords(someOptions())
	out := [][]byte{b, b[:len(b)-1], b[:1], b[:4], b[:5], b[:7], append(bytes.Clone(b), 1), append(bytes.Clone(b), 1, 1), append([]byte{1, 0}, b...), nil, {}}
	for _, o := range someOptions() {
		one, _ := putByWords([]api.Option{o})
		out = append(out, one)
	}
	return out
}

func TestBytesHandedInStay(t *testing.T) { // P12.5
	for _, b := range someBytes() {
		given, want := fresh(b), fresh(b)
		l, _ := Read(given)
		overwriteOptions(l)
		if !bytes.Equal(given[:cap(given)], want[:cap(want)]) {
			t.Errorf("%x has become %x", want, given[:cap(given)])
		}
	}
}

func TestOptionsHandedInStay(t *testing.T) { // P12.5
	for i, l := range someLists() {
		for j, other := range someLists() {
			given, want := freshOptions(l), freshOptions(l)
			second, wantSecond := freshOptions(other), freshOptions(other)
			b, _ := Put(given)
			overwrite(b)
			for _, n := range []int{0, 1, 3, 255, 15, -1, 256} {
				data, _ := Find(given, n)
				overwrite(data)
			}
			Same(given, second)
			Within(given, second)
			Within(second, given)
			Twice(given)
			if !sameRoom(given, want) || !sameRoom(second, wantSecond) {
				t.Errorf("the lists %d and %d have changed", i, j)
			}
		}
	}
}

func TestRoomIsNotHandedIn(t *testing.T) { // P12.5, rule 8
	b, _ := putByWords(someOptions())
	for n := range b {
		want, wantSpot := Read(slices.Clip(bytes.Clone(b[:n])))
		if l, s := Read(b[:n]); !sameByWords(l, want) || s != wantSpot {
			t.Fatalf("Read of %d bytes goes by the room behind: %v", n, s)
		}
	}
	every := someOptions()
	for n := range every {
		want, _ := putByWords(slices.Clone(every[:n]))
		if got, _ := Put(every[:n]); !bytes.Equal(got, want) {
			t.Errorf("Put of %d options goes by the room behind", n)
		}
		if _, ok := Find(every[:n], every[n].Type); ok != slices.ContainsFunc(every[:n], func(o api.Option) bool { return o.Type == every[n].Type }) {
			t.Errorf("Find in %d options goes by the room behind", n)
		}
		if Same(every[:n], every) || Within(every, every[:n]) || Twice(every[:n]) != twiceByWords(slices.Clone(every[:n])) {
			t.Errorf("%d options are held together by the room behind", n)
		}
	}
	if got, e := Put([]api.Option{{Type: 1, Data: make([]byte, longest, 2*tooLong)}}); len(got) != 2+longest || e != api.OK {
		t.Errorf("Put goes by the room behind Data: %d bytes, %d", len(got), e)
	}
	if got, e := Put([]api.Option{{Type: 1, Data: make([]byte, 0, 5)}}); !bytes.Equal(got, []byte{1, 2}) || e != api.OK {
		t.Errorf("Put goes by the room behind no Data: %v, %d", got, e)
	}
	if !Same(freshOptions(every), every) || !Within(freshOptions(every), every) || !Within(every, freshOptions(every)) {
		t.Error("the room behind makes lists unlike")
	}
}

func TestOptionsReadAreNew(t *testing.T) { // P12.5
	for _, b := range someBytes() {
		given := fresh(b)
		first, _ := Read(given)
		want := textOfAll(first)
		second, _ := Read(given)
		overwriteOptions(second)
		if textOfAll(first) != want {
			t.Errorf("Read(%x) shares memory with another answer", b)
		}
		overwrite(given)
		if textOfAll(first) != want {
			t.Errorf("Read(%x) shares memory with what was handed in", b)
		}
	}
}

// TestDataOfOneAnswerIsApart writes into each option's Data, and into the room behind it, and looks at all others.
func TestDataOfOneAnswerIsApart(t *testing.T) { // P12.5
	b, _ := putByWords(someOptions())
	for i := range someOptions() {
		l, _ := Read(b)
		overwrite(l[i].Data)
		for j, want := range someOptions() {
			if j != i && textOf(l[j]) != textOf(want) {
				t.Errorf("option %d shares memory with option %d", j, i)
			}
		}
	}
}

func TestBytesPutAreNew(t *testing.T) { // P12.5
	for i, l := range someLists() {
		want, _ := putByWords(l)
		given := freshOptions(l)
		first, _ := Put(given)
		second, _ := Put(given)
		overwrite(second)
		if !bytes.Equal(first, want) {
			t.Errorf("Put of list %d shares memory with another answer", i)
		}
		overwriteOptions(given)
		if !bytes.Equal(first, want) {
			t.Errorf("Put of list %d shares memory with what was handed in", i)
		}
		overwrite(first)
		if third, _ := Put(l); !bytes.Equal(third, want) {
			t.Errorf("Put of list %d answers %x behind a write into its answer", i, third)
		}
	}
}

func TestDataFoundIsNew(t *testing.T) { // P12.5
	for _, want := range someOptions() {
		given := freshOptions([]api.Option{{Type: 99, Data: []byte{1}}, want, {Type: want.Type, Data: []byte{2}}})
		first, _ := Find(given, want.Type)
		second, _ := Find(given, want.Type)
		overwrite(second)
		if !bytes.Equal(first, want.Data) {
			t.Errorf("Find of the Type %d shares memory with another answer", want.Type)
		}
		overwriteOptions(given)
		if !bytes.Equal(first, want.Data) {
			t.Errorf("Find of the Type %d shares memory with what was handed in", want.Type)
		}
	}
}

func TestNothingIsKept(t *testing.T) { // rule 8
	b, _ := putByWords(someOptions())
	for range 3 {
		Read(b[1:])
		Read([]byte{1})
		Put([]api.Option{{Type: 256}})
		Twice(someOptions())
		Find(someOptions(), 255)
		if l, s := Read(b); !sameByWords(l, someOptions()) || s != (api.Spot{}) {
			t.Errorf("Read answers unlike the one ahead: %v, %v", l, s)
		}
		if again, e := Put(someOptions()); !bytes.Equal(again, b) || e != api.OK {
			t.Errorf("Put answers unlike the one ahead: %x, %d", again, e)
		}
		if Twice([]api.Option{{Type: 255}, {Type: 1}}) {
			t.Error("Twice goes by Types of a list ahead")
		}
	}
}

func FuzzOptions(f *testing.F) { // P1, P12.1 to P12.5
	for _, b := range someBytes() {
		f.Add(b, 1)
	}
	f.Add([]byte{1, 3}, 256)
	f.Add([]byte{1, 255, 0}, math.MinInt)
	f.Add(make([]byte, tooLong), math.MaxInt)
	f.Fuzz(func(t *testing.T, b []byte, kind int) {
		kept := bytes.Clone(b)
		checkRead(t, b)
		l := []api.Option{{Type: 3, Data: []byte{1}}, {Type: kind, Data: b}, {Type: 7}}
		checkPut(t, l)
		if k, s := Read(b); s == (api.Spot{}) {
			checkPut(t, k)
			l = append(l, k...)
			if !Within(k, l) {
				t.Errorf("%v isn't within %v", k, l)
			}
		}
		if !Same(l, l) || !Within(l, l) || Within(l, l[1:]) || Same(l[1:], l) || Twice(l) != twiceByWords(l) {
			t.Errorf("%v: %v, %v, %v", l, Same(l, l), Within(l, l), Twice(l))
		}
		data, ok := Find(l[1:], kind)
		if !ok || !bytes.Equal(data, b) {
			t.Errorf("Find of the Type %d: %v, %v", kind, data, ok)
		}
		if !bytes.Equal(b, kept) {
			t.Error("what was handed in has changed")
		}
	})
}
