package reply

import (
	"bytes"
	"math"
	"slices"
	"testing"
	"unsafe"

	"umpire/api"
)

// fresh is a list with room behind its length, filled with options, so that a write there is seen, and a reading beyond.
func fresh(b []byte) []byte {
	room := bytes.Repeat([]byte{9, 2}, len(b)/2+50)
	copy(room, b)
	return room[:len(b)]
}

// freshText is a text in the memory of such a list.
func freshText(b []byte) (string, []byte) {
	room := fresh(b)
	return unsafe.String(unsafe.SliceData(room), len(room)), room
}

// overwrite fills a list and the room behind its length.
func overwrite(b []byte) {
	b = b[:cap(b)]
	for i := range b {
		b[i] = 99
	}
}

// whole are a list's bytes, and those behind its length.
func whole(b []byte) []byte {
	return bytes.Clone(b[:cap(b)])
}

// someLists are options that ask, ones that answer in each way, and some that can't be read.
func someLists() [][]byte {
	lists := [][]byte{nil, {}, counted(700)}
	for _, l := range [][]api.Option{{size}, {other}, {other, other}, {size, other}, {other, size}, {size, login, magic, other}, {login, other}, {op(1, 2, 0)}, {op(1, 2, 0), op(9, 1)}, {op(9, 1), op(1, 2, 0)}, {op(7), op(8)}, {op(7), op(7)}, {op(1), op(7)}} {
		lists = append(lists, bytesOf(l...))
	}
	return append(lists, unreadable...)
}

func TestPacketsHandedInStay(t *testing.T) { // P18.4
	for _, asked := range someLists() {
		for _, said := range someLists() {
			for code := range 6 {
				q := api.Packet{Code: api.CfReq, Id: 7, Data: fresh(asked)}
				p := api.Packet{Code: code, Id: 7, Data: fresh(said)}
				text, behind := freshText(asked)
				wasAsked, wasSaid := whole(q.Data), whole(p.Data)
				Acks(q, p)
				Rejects(q, p)
				Naks(q, p)
				Event(api.Link{Sent: true, Id: 7, Opts: text}, p)
				if !bytes.Equal(q.Data[:cap(q.Data)], wasAsked) || !bytes.Equal(p.Data[:cap(p.Data)], wasSaid) || !bytes.Equal(behind[:cap(behind)], wasAsked) {
					t.Errorf("%v, %v have become %v, %v, %v", asked, said, q.Data, p.Data, behind)
				}
			}
		}
	}
}

// TestRoomIsNotHandedIn has options behind the length of both, with which the answers would be others.
func TestRoomIsNotHandedIn(t *testing.T) { // P18.4, rule 8
	for _, asked := range someLists() {
		for _, said := range someLists() {
			checkAnswers(t, fresh(asked), fresh(said))
		}
	}
	longer := bytesOf(other, other, size, other)
	for i := range len(longer) + 1 {
		for j := range len(longer) + 1 {
			checkAnswers(t, longer[:i], longer[:j])
			checkAnswers(t, longer[:i], longer[j:])
		}
	}
}

// TestOneMemory hands in a request and an answer of one memory.
func TestOneMemory(t *testing.T) { // P18.4
	for _, b := range someLists() {
		given := fresh(b)
		was := bytes.Clone(given[:cap(given)])
		checkAnswers(t, given, given)
		for n := range min(len(given), 30) {
			checkAnswers(t, given, given[n:])
			checkAnswers(t, given[n:], given)
			checkAnswers(t, given[:n], given[n:])
		}
		if !bytes.Equal(given[:cap(given)], was) {
			t.Errorf("%v has become %v", b, given)
		}
	}
}

// cuts are mrus that take nothing of some bytes, some of them, all but one, and all.
func cuts(n int) []int {
	return []int{math.MinInt, -1, 0, 4, 5, 6, 7, 8, n + 3, n + 4, n + 5, n + 6, n + 7, 65535, math.MaxInt}
}

func someBytes() [][]byte {
	return [][]byte{nil, {}, {1}, {1, 7, 0, 4}, counted(5), counted(300), counted(65525), counted(65527), counted(65600)}
}

func TestBytesHandedInStay(t *testing.T) { // P18.4
	for _, b := range someBytes() {
		for _, mru := range cuts(len(b)) {
			given := fresh(b)
			was := whole(given)
			code, proto := CodeReject(given, mru), ProtoReject(0xc021, given, mru)
			overwrite(code)
			overwrite(proto)
			if !bytes.Equal(given[:cap(given)], was) {
				t.Errorf("%d bytes, cut by %d, have changed", len(b), mru)
			}
			checkCopies(t, 0x8021, given, mru)
		}
	}
}

// TestCopiesAreNew writes over what was handed in, and over each of several answers, with all bytes in them and with none.
func TestCopiesAreNew(t *testing.T) { // P18.4
	for _, b := range someBytes() {
		for _, mru := range cuts(len(b)) {
			wantCode, wantProto := codeRejectByWords(b, mru), protoRejectByWords(0xc021, b, mru)
			given := fresh(b)
			code, otherCode := CodeReject(given, mru), CodeReject(given, mru)
			proto, otherProto := ProtoReject(0xc021, given, mru), ProtoReject(0xc021, given, mru)
			same := func() bool { return bytes.Equal(code, wantCode) && bytes.Equal(proto, wantProto) }
			overwrite(otherCode)
			overwrite(otherProto)
			if !same() {
				t.Errorf("of %d bytes, by %d: they share memory with other answers", len(b), mru)
			}
			overwrite(given)
			if !same() {
				t.Errorf("of %d bytes, by %d: they share memory with what was handed in", len(b), mru)
			}
			overwrite(code)
			if !bytes.Equal(proto, wantProto) {
				t.Errorf("of %d bytes, by %d: one shares memory with the other", len(b), mru)
			}
			overwrite(proto)
			checkCopies(t, 0xc021, b, mru)
		}
	}
}

// TestCopiesOfCopies sends back what was sent back.
func TestCopiesOfCopies(t *testing.T) { // P18.2, P18.4
	b := counted(20)
	first := ProtoReject(0x8021, b, 1500)
	second := CodeReject(first, 1500)
	third := ProtoReject(0xc021, second, 1500)
	overwrite(first)
	overwrite(second)
	if !bytes.Equal(third, slices.Concat([]byte{0xc0, 0x21, 0x80, 0x21}, b)) {
		t.Errorf("%v", third)
	}
}

func TestNothingIsKept(t *testing.T) { // rule 8
	lists := someLists()
	for range 3 {
		for i, asked := range lists {
			for j := range 4 {
				checkAnswers(t, asked, lists[(i*5+j)%len(lists)])
			}
			for _, mru := range cuts(len(asked)) {
				checkCopies(t, 0x21, asked, mru)
			}
		}
	}
}

func FuzzReply(f *testing.F) { // P1, P18.1 to P18.4
	lists := someLists()
	for i, asked := range lists {
		f.Add(asked, lists[(i+3)%len(lists)], i*5, i%5+1, 7)
		f.Add(asked, asked, i-5, 5-i%5, i)
	}
	f.Add(counted(9), counted(9), math.MinInt, 2, 255)
	f.Add(counted(9), counted(9), math.MaxInt, -1, -1)
	f.Fuzz(func(t *testing.T, asked, said []byte, mru, code, id int) {
		keptAsked, keptSaid := bytes.Clone(asked), bytes.Clone(said)
		checkAnswers(t, asked, said)
		checkAnswers(t, said, asked)
		q := api.Packet{Code: code, Id: id, Data: asked}
		checkAnswer(t, q, api.Packet{Code: api.CfRej, Id: 7, Data: said})
		for _, way := range []int{api.CfAck, api.CfNak, api.CfRej} {
			checkAnswer(t, q, api.Packet{Code: way, Id: id, Data: said})
		}
		checkCopies(t, mru&0xffff, asked, mru)
		checkCopies(t, id&0xffff, said, len(said)+code)
		if !bytes.Equal(asked, keptAsked) || !bytes.Equal(said, keptSaid) {
			t.Error("what was handed in has changed")
		}
	})
}
