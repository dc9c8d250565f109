package reply

import (
	"bytes"
	"math"
	"math/rand"
	"slices"
	"testing"

	"umpire/api"
)

func op(kind int, data ...byte) api.Option {
	return api.Option{Type: kind, Data: data}
}

// bytesOf are the options' bytes.
func bytesOf(l ...api.Option) []byte {
	var b []byte
	for _, o := range l {
		b = append(b, byte(o.Type), byte(2+len(o.Data)))
		b = append(b, o.Data...)
	}
	return b
}

// request is a Configure-Request of the Id 7.
func request(l ...api.Option) api.Packet {
	return api.Packet{Code: api.CfReq, Id: 7, Data: bytesOf(l...)}
}

// answerTo is of that Code, and of the same Id.
func answerTo(code int, l ...api.Option) api.Packet {
	return api.Packet{Code: code, Id: 7, Data: bytesOf(l...)}
}

// counted are so many bytes, no two beside each other alike.
func counted(n int) []byte {
	b := make([]byte, n)
	for i := range b {
		b[i] = byte(i*7 + i>>8 + 1)
	}
	return b
}

// checkAnswer holds what an answer does to a request, and to who has sent it, against the chapter's words.
func checkAnswer(t *testing.T, q, p api.Packet) {
	t.Helper()
	acks, rejects, naks := Acks(q, p), Rejects(q, p), Naks(q, p)
	if want := acksByWords(q, p); acks != want {
		t.Fatalf("Acks(%v, %v): %v", q, p, acks)
	}
	if want := rejectsByWords(q, p); rejects != want {
		t.Fatalf("Rejects(%v, %v): %v", q, p, rejects)
	}
	if want := naksByWords(q, p); naks != want {
		t.Fatalf("Naks(%v, %v): %v", q, p, naks)
	}
	if acks && rejects || acks && naks || rejects && naks {
		t.Fatalf("to %v %v does more than one of the three: %v, %v, %v", q, p, acks, rejects, naks)
	}
	l := api.Link{Sent: true, Id: q.Id, Opts: string(q.Data)}
	checkEvent(t, l, p)
	if e := Event(l, p); (acks && e != api.EvAck) || ((rejects || naks) && e != api.EvNak) {
		t.Fatalf("%v answers %v, and does %d", p, q, e)
	}
	l.Sent = false
	checkEvent(t, l, p)
}

// checkAnswers asks of an answer of each Code.
func checkAnswers(t *testing.T, asked, said []byte) {
	t.Helper()
	q := api.Packet{Code: api.CfReq, Id: 7, Data: asked}
	for _, code := range []int{api.CfReq, api.CfAck, api.CfNak, api.CfRej, api.TmReq} {
		checkAnswer(t, q, api.Packet{Code: code, Id: 7, Data: said})
	}
}

func checkEvent(t *testing.T, l api.Link, p api.Packet) {
	t.Helper()
	if e, want := Event(l, p), eventByWords(l, p); e != want {
		t.Fatalf("Event(%v, %v): %d and not %d", l, p, e, want)
	}
}

// checkCopies holds what both rejects carry against the chapter's words.
func checkCopies(t *testing.T, proto int, b []byte, mru int) {
	t.Helper()
	if c, want := CodeReject(b, mru), codeRejectByWords(b, mru); !bytes.Equal(c, want) {
		t.Fatalf("CodeReject(%d bytes, %d): %d bytes and not %d", len(b), mru, len(c), len(want))
	}
	if c, want := ProtoReject(proto, b, mru), protoRejectByWords(proto, b, mru); !bytes.Equal(c, want) {
		t.Fatalf("ProtoReject(%x, %d bytes, %d): %d bytes and not %d", proto, len(b), mru, len(c), len(want))
	}
}

// wants asks what an answer does to a request: the three, and the event.
func wants(t *testing.T, q, p api.Packet, acks, rejects, naks bool, event int) {
	t.Helper()
	checkAnswer(t, q, p)
	if a, r, n := Acks(q, p), Rejects(q, p), Naks(q, p); a != acks || r != rejects || n != naks {
		t.Errorf("to %v %v acks, rejects, naks: %v, %v, %v", q, p, a, r, n)
	}
	if e := Event(api.Link{Sent: true, Id: q.Id, Opts: string(q.Data)}, p); e != event {
		t.Errorf("to %v %v does %d and not %d", q, p, e, event)
	}
}

func wantsAck(t *testing.T, q, p api.Packet) {
	t.Helper()
	wants(t, q, p, true, false, false, api.EvAck)
}

func wantsReject(t *testing.T, q, p api.Packet) {
	t.Helper()
	wants(t, q, p, false, true, false, api.EvNak)
}

func wantsNak(t *testing.T, q, p api.Packet) {
	t.Helper()
	wants(t, q, p, false, false, true, api.EvNak)
}

// wantsNothing is of what does none of the three, nor anything to who has sent the request.
func wantsNothing(t *testing.T, q, p api.Packet) {
	t.Helper()
	wants(t, q, p, false, false, false, 0)
}

// wantsEventAlone is of Naks that don't nak: what they say counts for who has sent the request.
func wantsEventAlone(t *testing.T, q, p api.Packet) {
	t.Helper()
	wants(t, q, p, false, false, false, api.EvNak)
}

func TestExamples(t *testing.T) { // P18.1
	q := api.Packet{Code: 1, Id: 7, Data: []byte{1, 4, 5, 220, 9, 2}}
	wantsReject(t, q, api.Packet{Code: 4, Id: 7, Data: []byte{9, 2}})
	wantsNak(t, q, api.Packet{Code: 3, Id: 7, Data: []byte{1, 4, 2, 0}})
}

var (
	size  = op(1, 5, 220)
	login = op(3, 0xc0, 0x23)
	magic = op(5, 0, 0, 0, 1)
	other = op(9)
)

// TestRequestsOfOtherCodes asks of what would answer, if it were a request that it answers.
func TestRequestsOfOtherCodes(t *testing.T) { // P18.1
	said := []api.Packet{answerTo(api.CfAck, size, other), answerTo(api.CfRej, other), answerTo(api.CfRej, size, other), answerTo(api.CfNak, op(1, 2, 0)), answerTo(api.CfNak, op(5))}
	for code := range 256 {
		q := request(size, other)
		q.Code = code
		for i, p := range said {
			is := code == api.CfReq
			if a, r, n := Acks(q, p), Rejects(q, p), Naks(q, p); a != (is && i == 0) || r != (is && (i == 1 || i == 2)) || n != (is && i > 2) {
				t.Errorf("to %v %v acks, rejects, naks: %v, %v, %v", q, p, a, r, n)
			}
			checkAnswer(t, q, p)
		}
	}
}

// TestAnswersOfEachCode answers with Data that ack, with ones that reject and with ones that nak.
func TestAnswersOfEachCode(t *testing.T) { // P18.1
	q := request(size, other)
	for code := range 256 {
		for _, l := range [][]api.Option{{size, other}, {other}, {op(1, 2, 0)}, nil} {
			p := answerTo(code, l...)
			checkAnswer(t, q, p)
			if code < api.CfAck || code > api.CfRej {
				wantsNothing(t, q, p)
			}
		}
	}
	wantsAck(t, q, answerTo(api.CfAck, size, other))
	wantsNothing(t, q, answerTo(api.CfAck, other))
	wantsNothing(t, q, answerTo(api.CfAck, op(1, 2, 0)))
	wantsReject(t, q, answerTo(api.CfRej, size, other))
	wantsReject(t, q, answerTo(api.CfRej, other))
	wantsNothing(t, q, answerTo(api.CfRej, op(1, 2, 0)))
	wantsEventAlone(t, q, answerTo(api.CfNak, size, other))
	wantsEventAlone(t, q, answerTo(api.CfNak, other))
	wantsNak(t, q, answerTo(api.CfNak, op(1, 2, 0)))
}

// TestIds has an answer of each Id to a request of each.
func TestIds(t *testing.T) { // P18.1
	said := []api.Packet{answerTo(api.CfAck, size, other), answerTo(api.CfRej, other), answerTo(api.CfNak, op(1, 2, 0))}
	for id := range 256 {
		q := request(size, other)
		q.Id = id
		for answered := range 256 {
			for i, p := range said {
				p.Id = answered
				is := id == answered
				event := []int{api.EvAck, api.EvNak, api.EvNak}[i]
				if a, r, n := Acks(q, p), Rejects(q, p), Naks(q, p); a != (is && i == 0) || r != (is && i == 1) || n != (is && i == 2) {
					t.Fatalf("of the Ids %d, %d: %v, %v, %v", id, answered, a, r, n)
				}
				l := api.Link{Sent: true, Id: id, Opts: string(q.Data)}
				if e := Event(l, p); is && e != event || !is && e != 0 {
					t.Fatalf("of the Ids %d, %d: %d", id, answered, e)
				}
			}
		}
	}
}

func TestAcks(t *testing.T) { // P18.1
	q := request(size, magic, other)
	wantsAck(t, q, answerTo(api.CfAck, size, magic, other))
	for i := range q.Data {
		p := answerTo(api.CfAck, size, magic, other)
		for bit := range 8 {
			p.Data = bytes.Clone(q.Data)
			p.Data[i] ^= 1 << bit
			wantsNothing(t, q, p)
		}
		p.Data = q.Data[:i]
		wantsNothing(t, q, p)
		p.Data = slices.Delete(bytes.Clone(q.Data), i, i+1)
		wantsNothing(t, q, p)
		p.Data = slices.Insert(bytes.Clone(q.Data), i, 0)
		wantsNothing(t, q, p)
	}
	wantsNothing(t, q, api.Packet{Code: api.CfAck, Id: 7, Data: append(bytes.Clone(q.Data), 0)})
	wantsNothing(t, q, api.Packet{Code: api.CfAck, Id: 7, Data: append(bytes.Clone(q.Data), 9, 2)})
	wantsNothing(t, q, answerTo(api.CfAck, magic, size, other))
	wantsNothing(t, q, answerTo(api.CfAck))
	wantsNothing(t, request(), answerTo(api.CfAck, size))
}

// TestAcksOfNoData takes no Data in each of their two forms.
func TestAcksOfNoData(t *testing.T) { // P18.1, rule 5
	for _, asked := range [][]byte{nil, {}} {
		for _, said := range [][]byte{nil, {}} {
			q := api.Packet{Code: api.CfReq, Id: 7, Data: asked}
			wantsAck(t, q, api.Packet{Code: api.CfAck, Id: 7, Data: said})
			wantsNothing(t, q, api.Packet{Code: api.CfNak, Id: 7, Data: said})
			wantsNothing(t, q, api.Packet{Code: api.CfRej, Id: 7, Data: said})
			wantsNothing(t, q, api.Packet{Code: api.CfRej, Id: 7, Data: []byte{9, 2}})
		}
	}
}

// unreadable are Data whose options can't be read.
var unreadable = [][]byte{{9}, {9, 0}, {9, 1}, {9, 3}, {9, 255, 1}, {9, 2, 1}, {1, 4, 5}, {9, 2, 1, 1, 1}, {0}, {0, 0, 0, 0}}

func TestAcksOfDataThatCantBeRead(t *testing.T) { // P18.1
	for _, b := range unreadable {
		q := api.Packet{Code: api.CfReq, Id: 7, Data: b}
		wantsAck(t, q, api.Packet{Code: api.CfAck, Id: 7, Data: bytes.Clone(b)})
		wantsNothing(t, q, api.Packet{Code: api.CfAck, Id: 7, Data: append(bytes.Clone(b), b...)})
	}
}

func TestRejectsOf(t *testing.T) { // P18.1
	q := request(size, login, magic, other)
	for _, l := range [][]api.Option{{size, login, magic, other}, {size}, {login}, {magic}, {other}, {size, login}, {size, other}, {login, magic}, {login, other}, {size, magic, other}, {login, magic, other}} {
		wantsReject(t, q, answerTo(api.CfRej, l...))
	}
	for _, l := range [][]api.Option{
		{login, size}, {other, size}, {other, magic, login, size}, {size, magic, login}, {size, login, other, magic}, {login, magic, other, size},
		{size, size}, {other, other}, {size, login, magic, other, other}, {size, size, login}, {login, login},
		{op(1, 5, 221)}, {op(1, 4, 220)}, {op(1, 5)}, {op(1)}, {op(1, 5, 220, 0)}, {op(9, 0)}, {op(8)}, {op(10)}, {op(0)}, {size, op(3, 0xc2, 0x23, 5)}, {size, op(3), magic}, {op(2), magic},
		nil,
	} {
		wantsNothing(t, q, answerTo(api.CfRej, l...))
	}
}

func TestRejectsOfOptionsAlike(t *testing.T) { // P18.1
	q := request(other, size, other)
	for _, l := range [][]api.Option{{other}, {other, other}, {other, size}, {size, other}, {other, size, other}, {size}} {
		wantsReject(t, q, answerTo(api.CfRej, l...))
	}
	for _, l := range [][]api.Option{{other, other, other}, {other, other, size}, {size, other, other}, {size, size}, {other, size, other, other}, {other, op(1), other}} {
		wantsNothing(t, q, answerTo(api.CfRej, l...))
	}
	// One Type twice, with unlike Data.
	q = request(op(1, 1), op(1, 2), op(1, 1))
	for _, l := range [][]api.Option{{op(1, 1)}, {op(1, 2)}, {op(1, 1), op(1, 2)}, {op(1, 2), op(1, 1)}, {op(1, 1), op(1, 1)}, {op(1, 1), op(1, 2), op(1, 1)}} {
		wantsReject(t, q, answerTo(api.CfRej, l...))
	}
	for _, l := range [][]api.Option{{op(1, 2), op(1, 2)}, {op(1, 2), op(1, 1), op(1, 1)}, {op(1)}, {op(1, 3)}, {op(1, 1), op(1, 1), op(1, 2)}} {
		wantsNothing(t, q, answerTo(api.CfRej, l...))
	}
}

// TestBytesThatAreNoOption has what stands in the request's bytes, though as no option.
func TestBytesThatAreNoOption(t *testing.T) { // P18.1
	q := request(op(5, 9, 2), op(1, 9), op(2, 2, 9, 2))
	wantsNothing(t, q, answerTo(api.CfRej, op(9)))
	wantsNothing(t, q, answerTo(api.CfRej, op(9, 2)))
	wantsReject(t, q, answerTo(api.CfRej, op(1, 9)))
	wantsNothing(t, request(op(4, 4)), answerTo(api.CfRej, op(4), op(4)))
}

// TestDataThatCantBeRead has them in the answer, in the request, and in both.
func TestDataThatCantBeRead(t *testing.T) { // P18.1
	for _, b := range unreadable {
		for _, code := range []int{api.CfNak, api.CfRej} {
			bad := api.Packet{Code: code, Id: 7, Data: b}
			for _, q := range []api.Packet{request(other, size), request(), {Code: api.CfReq, Id: 7, Data: b}, {Code: api.CfReq, Id: 7, Data: append([]byte{9, 2}, b...)}} {
				wantsNothing(t, q, bad)
				wantsNothing(t, q, api.Packet{Code: code, Id: 7, Data: append([]byte{9, 2}, b...)})
				wantsNothing(t, q, api.Packet{Code: code, Id: 7, Data: append([]byte{8, 3, 1}, b...)})
			}
		}
		q := api.Packet{Code: api.CfReq, Id: 7, Data: append([]byte{9, 2}, b...)}
		wantsNothing(t, q, answerTo(api.CfRej, other))
		wantsEventAlone(t, q, answerTo(api.CfNak, op(9, 1)))
		wantsEventAlone(t, q, answerTo(api.CfNak, op(77)))
	}
}

func TestNaks(t *testing.T) { // P18.1
	q := request(size, login, magic, other)
	for _, l := range [][]api.Option{
		{op(1, 2, 0)}, {op(1)}, {op(1, 5)}, {op(1, 5, 220, 0)}, {op(9, 0)}, {op(3, 0xc2, 0x23, 5)},
		{op(1, 2, 0), op(3)}, {op(1, 2, 0), op(5)}, {op(1), op(9, 1)}, {op(3), op(5), op(9, 9)}, {op(1), op(3), op(5), op(9, 0)},
		// Types that weren't asked for: alone, in any order, and behind.
		{op(7)}, {op(2, 1)}, {op(0)}, {op(255)}, {op(8), op(7)}, {op(7), op(8)}, {op(255), op(0), op(2)},
		{op(1), op(7)}, {op(9, 0), op(8), op(7)}, {op(9, 0), op(2)}, {op(1), op(3), op(5), op(9, 0), op(8), op(2)}, {op(3), op(0)},
	} {
		wantsNak(t, q, answerTo(api.CfNak, l...))
	}
	for _, l := range [][]api.Option{
		// Alike one of the request's.
		{size}, {login}, {other}, {op(1), login}, {size, op(3)}, {op(1), op(3), magic}, {size, op(7)}, {other, op(7)}, {size, login, magic, other},
		// Two of one Type, that was asked for, and that wasn't.
		{op(1), op(1)}, {op(1), op(1, 1)}, {op(9, 0), op(9, 1)}, {op(1), op(3), op(3, 1)}, {op(1), op(3), op(1)}, {op(7), op(7)}, {op(7), op(7, 1)}, {op(7), op(8), op(7)}, {op(1), op(7), op(7, 1)}, {op(1), op(7), op(8), op(7, 2)},
		// Types that weren't asked for, ahead of ones that were.
		{op(7), op(1)}, {op(7), op(9, 1)}, {op(1), op(7), op(3)}, {op(0), op(1), op(3)}, {op(1), op(3), op(5), op(7), op(9, 1)}, {op(7), op(8), op(1)}, {op(1), op(7), op(3), op(8)},
		// Types that were asked for, in another order.
		{op(3), op(1)}, {op(9, 1), op(1)}, {op(1), op(5), op(3)}, {op(9, 1), op(5), op(3), op(1)}, {op(3), op(5), op(1)}, {op(3), op(1), op(7)}, {op(9, 0), op(5), op(8)},
	} {
		wantsEventAlone(t, q, answerTo(api.CfNak, l...))
	}
	wantsNothing(t, q, answerTo(api.CfNak))
}

// TestNaksOfTypesTwice asks for one Type twice: its first option tells where it stands.
func TestNaksOfTypesTwice(t *testing.T) { // P18.1
	q := request(op(5, 1), op(2, 1), op(5, 2), op(1, 1), op(2, 2))
	for _, l := range [][]api.Option{{op(5)}, {op(5), op(2)}, {op(5), op(2), op(1)}, {op(5), op(1)}, {op(2), op(1)}, {op(2, 3), op(1), op(3)}, {op(5, 3), op(4)}} {
		wantsNak(t, q, answerTo(api.CfNak, l...))
	}
	for _, l := range [][]api.Option{{op(2), op(5)}, {op(1), op(5)}, {op(1), op(2)}, {op(2), op(5), op(1)}, {op(5), op(1), op(2)}, {op(5, 1)}, {op(5, 2)}, {op(2, 2)}, {op(2, 1), op(1)}, {op(2, 2), op(1)}, {op(5), op(2, 2)}, {op(5), op(5, 3)}, {op(5), op(2), op(5, 3)}, {op(3), op(5)}} {
		wantsEventAlone(t, q, answerTo(api.CfNak, l...))
	}
}

func TestNaksOfARequestWithoutOptions(t *testing.T) { // P18.1
	wantsNak(t, request(), answerTo(api.CfNak, op(1)))
	wantsNak(t, request(), answerTo(api.CfNak, op(5), op(1), op(3, 1)))
	wantsEventAlone(t, request(), answerTo(api.CfNak, op(5), op(5)))
	wantsNothing(t, request(), answerTo(api.CfNak))
}

// TestAllTypes naks each Type by another one, asked for and not.
func TestAllTypes(t *testing.T) { // P18.1
	for kind := range 256 {
		for said := range 256 {
			checkAnswer(t, request(op(kind, 1)), answerTo(api.CfNak, op(said, 1)))
			checkAnswer(t, request(op(kind, 1)), answerTo(api.CfRej, op(said, 1)))
			checkAnswer(t, request(op(kind, 1), op(said, 2)), answerTo(api.CfNak, op(said, 3), op(kind, 3)))
		}
	}
}

// TestOptionsOfAllLengths has Data that are alike but for their length, or their last byte.
func TestOptionsOfAllLengths(t *testing.T) { // P18.1
	for n := range api.MaxOption + 1 {
		o := api.Option{Type: 4, Data: counted(n)}
		q := request(size, o, other)
		wantsReject(t, q, answerTo(api.CfRej, o))
		wantsEventAlone(t, q, answerTo(api.CfNak, o))
		if n == 0 {
			continue
		}
		shorter := api.Option{Type: 4, Data: counted(n - 1)}
		wantsNothing(t, q, answerTo(api.CfRej, shorter))
		wantsNak(t, q, answerTo(api.CfNak, shorter))
		turned := api.Option{Type: 4, Data: counted(n)}
		turned.Data[n-1] ^= 128
		wantsNothing(t, q, answerTo(api.CfRej, turned))
		wantsNak(t, q, answerTo(api.CfNak, turned))
	}
}

func TestEventOfWhoHasSentNone(t *testing.T) { // P18.1
	for _, p := range []api.Packet{answerTo(api.CfAck, size), answerTo(api.CfAck), answerTo(api.CfNak, op(1)), answerTo(api.CfRej, size), answerTo(api.CfReq), answerTo(api.TmAck), {}, {Code: api.CfAck}, {Code: api.CfNak, Data: []byte{1, 2}}} {
		for _, l := range []api.Link{{}, {Id: 7}, {Id: 7, Opts: string(bytesOf(size))}, {Opts: string(bytesOf(size))}} {
			l.Answered = true
			l.Naks = 3
			l.Auto = api.Auto{State: api.Opened, Rest: 5}
			if e := Event(l, p); e != 0 {
				t.Errorf("Event(%v, %v): %d", l, p, e)
			}
		}
	}
}

// TestEventByTheRequestAlone turns all of a link's fields that don't tell the request.
func TestEventByTheRequestAlone(t *testing.T) { // P18.1, rule 8
	for _, p := range []api.Packet{answerTo(api.CfAck, size), answerTo(api.CfNak, op(1)), answerTo(api.CfNak, size), answerTo(api.CfRej, size), answerTo(api.CfRej, other), answerTo(api.TmAck, size)} {
		want := eventByWords(api.Link{Sent: true, Id: 7, Opts: string(bytesOf(size))}, p)
		for state := range 10 {
			for _, answered := range []bool{false, true} {
				l := api.Link{Auto: api.Auto{State: state, Rest: state}, Naks: state - 5, Sent: true, Answered: answered, Id: 7, Opts: string(bytesOf(size))}
				if e := Event(l, p); e != want {
					t.Errorf("Event(%v, %v): %d and not %d", l, p, e, want)
				}
			}
		}
	}
}

// TestEventOfEachId has a request of an Id, and an answer of that Id and of others.
func TestEventOfEachId(t *testing.T) { // P18.1
	for _, id := range []int{0, 1, 127, 128, 254, 255} {
		l := api.Link{Sent: true, Id: id, Opts: string(bytesOf(size, other))}
		for _, answered := range []int{0, 1, 127, 128, 254, 255} {
			for code := range 256 {
				for _, said := range [][]api.Option{{size, other}, {other}, {size}, {op(1, 1)}, {other, size}, nil} {
					p := answerTo(code, said...)
					p.Id = answered
					checkEvent(t, l, p)
					if id != answered && Event(l, p) != 0 {
						t.Errorf("Event(%v, %v): %d", l, p, Event(l, p))
					}
				}
			}
		}
	}
}

func TestEventOfOptsThatCantBeRead(t *testing.T) { // P18.1
	for _, b := range unreadable {
		l := api.Link{Sent: true, Id: 7, Opts: string(b)}
		for _, x := range []struct {
			p    api.Packet
			want int
		}{
			{api.Packet{Code: api.CfAck, Id: 7, Data: b}, api.EvAck},
			{api.Packet{Code: api.CfAck, Id: 7}, 0},
			{api.Packet{Code: api.CfAck, Id: 8, Data: b}, 0},
			{api.Packet{Code: api.CfNak, Id: 7, Data: b}, 0},
			{api.Packet{Code: api.CfRej, Id: 7, Data: b}, 0},
			{answerTo(api.CfNak, op(9)), api.EvNak},
			{answerTo(api.CfNak, op(9), op(9)), api.EvNak},
			{answerTo(api.CfNak), 0},
			{answerTo(api.CfRej, op(9)), 0},
			{answerTo(api.CfRej, op(1, 5, 220)), 0},
		} {
			if e := Event(l, x.p); e != x.want {
				t.Errorf("Event(%v, %v): %d and not %d", l, x.p, e, x.want)
			}
		}
	}
}

// listsOf calls back with each list of up to so many of some values.
func listsOf[T any](values []T, most int, call func([]T)) {
	var grow func(l []T)
	grow = func(l []T) {
		call(l)
		if len(l) >= most {
			return
		}
		for _, v := range values {
			grow(append(slices.Clone(l), v))
		}
	}
	grow(nil)
}

// TestAllShortLists has each list of few options as an answer to each.
func TestAllShortLists(t *testing.T) { // P18.1, P18.3
	for _, x := range []struct {
		options []api.Option
		most    int
	}{
		{[]api.Option{op(1), op(1, 0), op(2)}, 4},
		{[]api.Option{op(1), op(2), op(3), op(1, 1)}, 3},
		{[]api.Option{op(1), op(1, 1), op(2), op(2, 1), op(0)}, 3},
	} {
		var lists [][]byte
		listsOf(x.options, x.most, func(l []api.Option) { lists = append(lists, bytesOf(l...)) })
		for _, asked := range lists {
			q := api.Packet{Code: api.CfReq, Id: 7, Data: asked}
			for _, said := range lists {
				for _, code := range []int{api.CfAck, api.CfNak, api.CfRej} {
					checkAnswer(t, q, api.Packet{Code: code, Id: 7, Data: said})
				}
			}
		}
	}
}

// TestAllShortData has each list of few bytes as the Data of an answer to each, whether its options can be read or not.
func TestAllShortData(t *testing.T) { // P18.1, P18.3
	var lists [][]byte
	listsOf([]byte{1, 2, 3}, 5, func(b []byte) { lists = append(lists, b) })
	for _, asked := range lists {
		for _, said := range lists {
			checkAnswers(t, asked, said)
		}
	}
}

// picks are what is left of some options when some are taken out, in each way, and what is taken out.
func picks(l []api.Option) (left, taken [][]api.Option) {
	for n := range 1 << len(l) {
		var a, b []api.Option
		for i, o := range l {
			if n>>i&1 == 1 {
				a = append(a, o)
			} else {
				b = append(b, o)
			}
		}
		left, taken = append(left, a), append(taken, b)
	}
	return left, taken
}

// TestRejectsWithoutSome takes options out of what rejects: what is left rejects too, if it is some, and so does what is taken out.
func TestRejectsWithoutSome(t *testing.T) { // P18.3
	for _, l := range [][]api.Option{{other}, {size, other}, {size, login, magic, other}, {other, other, size, other}, {op(1, 1), op(1, 2), op(1, 1), op(2), op(1, 2)}} {
		q := request(append([]api.Option{op(77)}, append(l, op(78))...)...)
		left, taken := picks(l)
		for i := range left {
			for _, said := range [][]api.Option{left[i], taken[i]} {
				if p := answerTo(api.CfRej, said...); Rejects(q, p) != (len(said) > 0) {
					t.Errorf("to %v %v rejects: %v", q, p, Rejects(q, p))
				}
			}
		}
	}
}

// TestRequestsWithoutWhatWasRejected asks again without the options that were rejected: none of these rejects any more, and what is left is rejected, naked and acked as it stands.
func TestRequestsWithoutWhatWasRejected(t *testing.T) { // P18.3
	l := []api.Option{size, login, magic, other, op(2, 1)}
	q := request(l...)
	left, taken := picks(l)
	for i := range left {
		p := answerTo(api.CfRej, taken[i]...)
		if len(taken[i]) > 0 {
			wantsReject(t, q, p)
		}
		again := request(left[i]...)
		wantsNothing(t, again, p)
		wantsAck(t, again, answerTo(api.CfAck, left[i]...))
		if len(left[i]) > 0 {
			wantsReject(t, again, answerTo(api.CfRej, left[i]...))
			wantsReject(t, q, answerTo(api.CfRej, left[i]...))
		}
	}
}

// someMrus are those about each edge.
func someMrus(n int) []int {
	mrus := []int{math.MinInt, math.MinInt + 1, math.MinInt + 3, math.MinInt + 4, math.MinInt + 5, math.MinInt + 6, math.MinInt + 7, -1 << 32, -1 << 31, -65536, -7, -6, -5, -4, -3, -2, -1, 8, 9, 10, 1500, 65535, 65536, 65537, 1 << 20, 1 << 31, 1 << 32, math.MaxInt - 1, math.MaxInt}
	for i := range 16 {
		mrus = append(mrus, i, n+i-4, 65520+i, 65527+i)
	}
	return mrus
}

func TestCodeReject(t *testing.T) { // P18.2
	b := []byte{1, 2, 3, 4, 5}
	for _, x := range []struct{ mru, want int }{
		{math.MinInt, 0}, {math.MinInt + 3, 0}, {-5, 0}, {-1, 0}, {0, 0}, {1, 0}, {2, 0}, {3, 0}, {4, 0}, {5, 1}, {6, 2}, {7, 3}, {8, 4}, {9, 5}, {10, 5}, {1500, 5}, {65536, 5}, {math.MaxInt, 5},
	} {
		if c := CodeReject(b, x.mru); !bytes.Equal(c, b[:x.want]) {
			t.Errorf("CodeReject(%v, %d): %v", b, x.mru, c)
		}
	}
}

func TestProtoReject(t *testing.T) { // P18.2
	b := []byte{1, 2, 3, 4, 5}
	for _, x := range []struct{ mru, want int }{
		{math.MinInt, 0}, {math.MinInt + 5, 0}, {-5, 0}, {-1, 0}, {0, 0}, {1, 0}, {2, 0}, {3, 0}, {4, 0}, {5, 0}, {6, 0}, {7, 1}, {8, 2}, {9, 3}, {10, 4}, {11, 5}, {12, 5}, {1500, 5}, {65536, 5}, {math.MaxInt, 5},
	} {
		for proto, told := range map[int][]byte{0: {0, 0}, 1: {0, 1}, 0x21: {0, 0x21}, 255: {0, 255}, 256: {1, 0}, 257: {1, 1}, api.Ipcp: {0x80, 0x21}, api.Lcp: {0xc0, 0x21}, 0xff00: {255, 0}, 65535: {255, 255}} {
			if c := ProtoReject(proto, b, x.mru); !bytes.Equal(c, append(told, b[:x.want]...)) {
				t.Errorf("ProtoReject(%x, %v, %d): %v", proto, b, x.mru, c)
			}
		}
	}
}

func TestCopiesOfNoBytes(t *testing.T) { // P18.2, rule 5
	for _, b := range [][]byte{nil, {}} {
		for _, mru := range someMrus(0) {
			if c := CodeReject(b, mru); len(c) > 0 {
				t.Errorf("CodeReject of nothing, %d: %v", mru, c)
			}
			if c := ProtoReject(0xc021, b, mru); !bytes.Equal(c, []byte{0xc0, 0x21}) {
				t.Errorf("ProtoReject of nothing, %d: %v", mru, c)
			}
		}
	}
}

// TestLongCopies has more bytes than a reject may carry, however many the peer takes.
func TestLongCopies(t *testing.T) { // P18.2
	for _, n := range []int{65523, 65524, 65525, 65526, 65527, 65528, 65531, 65535, 65536, 100000} {
		b := counted(n)
		for _, mru := range []int{65533, 65535, 65536, 100000, 1 << 40, math.MaxInt} {
			if c := CodeReject(b, mru); !bytes.Equal(c, b[:min(n, 65527)]) {
				t.Errorf("CodeReject(%d bytes, %d): %d bytes", n, mru, len(c))
			}
			if c := ProtoReject(0x8021, b, mru); !bytes.Equal(c, append([]byte{0x80, 0x21}, b[:min(n, 65525)]...)) {
				t.Errorf("ProtoReject(%d bytes, %d): %d bytes", n, mru, len(c))
			}
		}
		for _, mru := range someMrus(n) {
			checkCopies(t, 0x8021, b, mru)
		}
	}
}

// TestEachCut cuts bytes at each place, and each packet's bytes in each way.
func TestEachCut(t *testing.T) { // P18.2
	for _, n := range []int{1, 2, 3, 4, 5, 6, 7, 20, 300} {
		b := counted(n)
		for mru := -10; mru < n+20; mru++ {
			checkCopies(t, 0xc021, b, mru)
			wantCode, wantProto := min(n, max(0, mru-4)), 2+min(n, max(0, mru-6))
			if c, p := CodeReject(b, mru), ProtoReject(0xc021, b, mru); len(c) != wantCode || len(p) != wantProto {
				t.Errorf("of %d bytes, by %d: %d, %d", n, mru, len(c), len(p))
			}
		}
		for _, mru := range someMrus(n) {
			checkCopies(t, 0x21, b, mru)
		}
	}
}

func TestAllProtocols(t *testing.T) { // P18.2
	for proto := range 65536 {
		if c := ProtoReject(proto, []byte{7, 8, 9}, 8); len(c) != 4 || int(c[0])<<8+int(c[1]) != proto || c[2] != 7 || c[3] != 8 {
			t.Fatalf("ProtoReject(%x): %v", proto, c)
		}
	}
}

// TestArgumentsThatMayNotBe asks for an end alone: nothing else is promised of them.
func TestArgumentsThatMayNotBe(t *testing.T) { // P1
	for _, proto := range []int{math.MinInt, -65536, -1, 65536, 1 << 32, math.MaxInt} {
		for _, mru := range someMrus(3) {
			ProtoReject(proto, []byte{1, 2, 3}, mru)
		}
	}
	for _, n := range []int{math.MinInt, -256, -1, 256, math.MaxInt} {
		for _, code := range []int{n, api.CfReq, api.CfAck, api.CfNak, api.CfRej} {
			checkAnswer(t, api.Packet{Code: api.CfReq, Id: n, Data: []byte{9, 2}}, api.Packet{Code: code, Id: n, Data: []byte{9, 2}})
			checkAnswer(t, api.Packet{Code: n, Id: n, Data: []byte{9, 2}}, api.Packet{Code: code, Id: n, Data: []byte{9, 3, 1}})
		}
	}
	long := api.Packet{Code: api.CfReq, Id: 7, Data: counted(70000)}
	for _, code := range []int{api.CfAck, api.CfNak, api.CfRej} {
		p := api.Packet{Code: code, Id: 7, Data: long.Data}
		Acks(long, p)
		Rejects(long, p)
		Naks(long, p)
		Event(api.Link{Sent: true, Id: 7, Opts: string(long.Data)}, p)
	}
}

// optionsByChance are of few Types and of few, short Data, so that many are alike.
func optionsByChance(r *rand.Rand, most int) []api.Option {
	var l []api.Option
	for range r.Intn(most + 1) {
		o := op(r.Intn(6))
		for range r.Intn(3) {
			o.Data = append(o.Data, byte(r.Intn(2)))
		}
		l = append(l, o)
	}
	return l
}

func TestAnswersByChance(t *testing.T) { // P18.1, P18.3
	r := rand.New(rand.NewSource(18))
	acked, rejected, naked := 0, 0, 0
	for range 20000 {
		asked := optionsByChance(r, 7)
		said := optionsByChance(r, 4)
		if r.Intn(3) == 0 {
			said = nil
			for _, o := range asked {
				if r.Intn(2) == 0 {
					said = append(said, o)
				}
			}
		}
		b := bytesOf(said...)
		if len(b) > 0 && r.Intn(8) == 0 {
			b[r.Intn(len(b))] ^= 1
		}
		q := request(asked...)
		checkAnswers(t, q.Data, b)
		checkAnswers(t, b, q.Data)
		rejects, naks := Rejects(q, api.Packet{Code: 4, Id: 7, Data: b}), Naks(q, api.Packet{Code: 3, Id: 7, Data: b})
		switch {
		case Acks(q, api.Packet{Code: 2, Id: 7, Data: b}):
			acked++
		case rejects:
			rejected++
		case naks:
			naked++
		}
	}
	if acked < 100 || rejected < 1000 || naked < 1000 {
		t.Errorf("too few answer: %d, %d, %d", acked, rejected, naked)
	}
}

func TestCopiesByChance(t *testing.T) { // P18.2
	r := rand.New(rand.NewSource(182))
	for range 20000 {
		b := counted(r.Intn(40))
		checkCopies(t, r.Intn(65536), b, r.Intn(60)-10)
		checkCopies(t, r.Intn(65536), b, r.Int()-r.Int())
	}
}

// TestManyOptions has as many as Data may have bytes for, of few Types and of all, alike and not.
func TestManyOptions(t *testing.T) { // P1
	var few, each, back []api.Option
	for i := range 32765 {
		few = append(few, op(1))
		each = append(each, op(i%256))
		back = append(back, op(255-i%256))
	}
	var fresh []api.Option
	for i := range 256 {
		fresh = append(fresh, op(i, 1))
	}
	last := append(slices.Clone(few[1:]), op(2))
	for _, asked := range [][]api.Option{few, each, back, last} {
		q := request(asked...)
		for _, said := range [][]api.Option{few, each, back, fresh, last, few[1:], each[1:], {op(2)}, fresh[1:]} {
			Acks(q, answerTo(api.CfAck, said...))
			Rejects(q, answerTo(api.CfRej, said...))
			Naks(q, answerTo(api.CfNak, said...))
		}
	}
	if !Rejects(request(each...), answerTo(api.CfRej, each[1:]...)) || Rejects(request(each...), answerTo(api.CfRej, back...)) || !Rejects(request(last...), answerTo(api.CfRej, op(2))) {
		t.Error("many aren't told as few are")
	}
	if !Naks(request(each...), answerTo(api.CfNak, fresh...)) || Naks(request(back...), answerTo(api.CfNak, fresh...)) || Naks(request(each...), answerTo(api.CfNak, each[:256]...)) {
		t.Error("many aren't told as few are")
	}
}
