package packet

import (
	"bytes"
	"math"
	"slices"
	"testing"

	"umpire/api"
)

// fresh is a list with room behind its length, filled, so that a write there is seen.
func fresh(b []byte) []byte {
	room := bytes.Repeat([]byte{0x15}, len(b)+16)
	copy(room, b)
	return room[:len(b)]
}

// freshPacket is a packet with room behind the length of its Data.
func freshPacket(p api.Packet) api.Packet {
	return api.Packet{Code: p.Code, Id: p.Id, Data: fresh(p.Data)}
}

// sameRoom compares two lists, and the room behind the length of each.
func sameRoom(a, b []byte) bool {
	return len(a) == len(b) && bytes.Equal(a[:cap(a)], b[:cap(b)])
}

// overwrite fills a list and the room behind its length.
func overwrite(b []byte) {
	b = b[:cap(b)]
	for i := range b {
		b[i] = 99
	}
}

// overwriteOptions fills all options' Data and the options, and the room behind their length.
func overwriteOptions(l []api.Option) {
	l = l[:cap(l)]
	for i := range l {
		overwrite(l[i].Data)
		l[i] = api.Option{Type: 99, Data: []byte{99}}
	}
}

// manyPackets are some that may be, each Code of the chapter with Data of all kinds, and some that may not be.
func manyPackets() []api.Packet {
	l := somePackets()
	for code := range 13 {
		for _, data := range someData()[:29] {
			l = append(l, api.Packet{Code: code, Id: 3, Data: data})
		}
	}
	return append(l, api.Packet{Code: 256, Data: []byte{1}}, api.Packet{Id: -1, Data: []byte{1}}, api.Packet{Code: 9, Data: make([]byte, tooLong)}, api.Packet{Code: 257, Data: make([]byte, tooLong)})
}

// someBytes are those of right packets, with padding and without, and wrong ones.
func someBytes() [][]byte {
	out := [][]byte{nil, {}, {1}, {1, 7}, {1, 7, 0}, {1, 7, 0, 3}, {1, 7, 0, 3, 1, 2}, {1, 7, 0, 5}, {1, 7, 255, 255, 1, 2}}
	for _, p := range somePackets() {
		b, _ := putByWords(p)
		out = append(out, b, b[:len(b)-1], append(bytes.Clone(b), 1), append(bytes.Clone(b), b...))
	}
	return out
}

func TestBytesHandedInStay(t *testing.T) { // P13.4
	for _, b := range someBytes() {
		given := fresh(b)
		p, _ := Get(given)
		overwrite(p.Data)
		if !sameRoom(given, fresh(b)) {
			t.Errorf("%.100x has become %.100x", b, given[:cap(given)])
		}
	}
}

func TestPacketsHandedInStay(t *testing.T) { // P13.4
	for _, p := range manyPackets() {
		given := freshPacket(p)
		b, _ := Put(given)
		overwrite(b)
		l, _ := Options(given)
		overwriteOptions(l)
		_, rest, _ := Magic(given)
		overwrite(rest)
		_, rest, _ = Rejected(given)
		overwrite(rest)
		Same(given, given)
		for _, q := range somePackets() {
			other := freshPacket(q)
			Same(given, other)
			Same(other, given)
			if !sameRoom(other.Data, fresh(q.Data)) {
				t.Errorf("%.100s has become %.100s", textOf(q), textOf(other))
			}
		}
		if given.Code != p.Code || given.Id != p.Id || !sameRoom(given.Data, fresh(p.Data)) {
			t.Errorf("%.100s has become %.100s", textOf(p), textOf(given))
		}
	}
}

// TestRoomIsNotHandedIn hands in the first bytes of longer lists, which would make other packets.
func TestRoomIsNotHandedIn(t *testing.T) { // P13.4, rule 8
	whole, _ := putByWords(api.Packet{Code: 1, Id: 7, Data: []byte{1, 4, 5, 220, 7, 2}})
	for n := range whole {
		want, wantErr := getByWords(bytes.Clone(whole[:n]))
		if p, e := Get(whole[:n]); textOf(p) != textOf(want) || e != wantErr {
			t.Errorf("Get of %d bytes goes by the room behind: %v, %d", n, p, e)
		}
	}
	for code := range 13 {
		for n := range whole {
			checkCarried(t, api.Packet{Code: code, Id: 1, Data: whole[4:][:min(n, 6)]})
			checkPut(t, api.Packet{Code: code, Id: 1, Data: whole[:n]})
			a, b := api.Packet{Code: code, Data: whole[:n]}, api.Packet{Code: code, Data: whole}
			if Same(a, b) || !Same(a, freshPacket(a)) {
				t.Errorf("Same of %d bytes goes by the room behind", n)
			}
		}
	}
	if b, e := Put(api.Packet{Code: 1, Data: make([]byte, longest, 2*tooLong)}); len(b) != 65535 || e != api.OK {
		t.Errorf("Put goes by the room behind Data: %d bytes, %d", len(b), e)
	}
	if b, e := Put(api.Packet{Code: 1, Data: make([]byte, 0, 5)}); !bytes.Equal(b, []byte{1, 0, 0, 4}) || e != api.OK {
		t.Errorf("Put goes by the room behind no Data: %v, %d", b, e)
	}
}

func TestPacketsReadAreNew(t *testing.T) { // P13.4
	for _, b := range someBytes() {
		given := fresh(b)
		first, _ := Get(given)
		want := textOf(first)
		second, _ := Get(given)
		overwrite(second.Data)
		if textOf(first) != want {
			t.Errorf("Get(%.100x) shares memory with another answer", b)
		}
		overwrite(given)
		if textOf(first) != want {
			t.Errorf("Get(%.100x) shares memory with what was handed in", b)
		}
	}
}

func TestBytesPutAreNew(t *testing.T) { // P13.4
	for _, p := range manyPackets() {
		want, _ := putByWords(p)
		given := freshPacket(p)
		first, _ := Put(given)
		second, _ := Put(given)
		overwrite(second)
		if !bytes.Equal(first, want) {
			t.Errorf("Put(%.100s) shares memory with another answer", textOf(p))
		}
		overwrite(given.Data)
		if !bytes.Equal(first, want) {
			t.Errorf("Put(%.100s) shares memory with what was handed in", textOf(p))
		}
		overwrite(first)
		if third, _ := Put(p); !bytes.Equal(third, want) {
			t.Errorf("Put(%.100s) goes by what was written into an answer", textOf(p))
		}
	}
}

func TestOptionsAreNew(t *testing.T) { // P13.4
	for _, p := range manyPackets() {
		given := freshPacket(p)
		first, _ := Options(given)
		want := textOfOptions(first)
		second, _ := Options(given)
		overwriteOptions(second)
		if textOfOptions(first) != want {
			t.Errorf("Options(%.100s) shares memory with another answer", textOf(p))
		}
		overwrite(given.Data)
		if textOfOptions(first) != want {
			t.Errorf("Options(%.100s) shares memory with what was handed in", textOf(p))
		}
		for i := range first {
			third, _ := Options(p)
			whole := slices.Clone(third)
			overwrite(third[i].Data)
			third[i] = api.Option{}
			whole, other := slices.Delete(whole, i, i+1), slices.Delete(slices.Clone(first), i, i+1)
			if textOfOptions(whole) != textOfOptions(other) {
				t.Errorf("Options(%.100s): the Data of %d share memory with others'", textOf(p), i)
			}
		}
	}
}

func TestRestsAreNew(t *testing.T) { // P13.4
	rests := map[string]func(api.Packet) []byte{
		"Magic":    func(p api.Packet) []byte { _, rest, _ := Magic(p); return rest },
		"Rejected": func(p api.Packet) []byte { _, rest, _ := Rejected(p); return rest },
	}
	for name, rest := range rests {
		for _, p := range manyPackets() {
			given := freshPacket(p)
			first := rest(given)
			want := bytes.Clone(first)
			overwrite(rest(given))
			if !bytes.Equal(first, want) {
				t.Errorf("%s(%.100s) shares memory with another answer", name, textOf(p))
			}
			overwrite(given.Data)
			if !bytes.Equal(first, want) {
				t.Errorf("%s(%.100s) shares memory with what was handed in", name, textOf(p))
			}
		}
	}
}

func TestNothingIsKept(t *testing.T) { // rule 8
	for range 3 {
		for _, p := range manyPackets() {
			checkPut(t, p)
			checkCarried(t, p)
		}
		for _, b := range someBytes() {
			checkGet(t, b)
		}
	}
}

func FuzzPackets(f *testing.F) { // P1, P13.1 to P13.4
	for _, b := range someBytes() {
		f.Add(b, 1, 7)
	}
	for code := range 13 {
		for _, data := range someData()[:29] {
			f.Add(data, code, 255)
		}
	}
	f.Add([]byte{1, 3}, 256, -1)
	f.Add([]byte{1, 255, 0}, math.MinInt, math.MaxInt)
	f.Add(make([]byte, tooLong), 9, 0)
	f.Fuzz(func(t *testing.T, b []byte, code, id int) {
		kept := bytes.Clone(b)
		p := api.Packet{Code: code, Id: id, Data: b}
		checkPut(t, p)
		checkCarried(t, p)
		checkGet(t, b)
		q, _ := Get(b)
		checkCarried(t, q)
		if Same(p, q) != (textOf(p) == textOf(q)) || !Same(p, freshPacket(p)) || Same(p, api.Packet{Code: code, Id: id ^ 1, Data: b}) {
			t.Errorf("Same(%.100s, %.100s): %v", textOf(p), textOf(q), Same(p, q))
		}
		if !bytes.Equal(b, kept) {
			t.Error("what was handed in has changed")
		}
	})
}
