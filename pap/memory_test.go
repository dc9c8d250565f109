package pap

import (
	"bytes"
	"strings"
	"testing"
	"unsafe"

	"umpire/api"
)

// fresh is a list with room behind its length, filled, so that a write there is seen.
func fresh(b []byte) []byte {
	room := bytes.Repeat([]byte{16}, len(b)+300)
	copy(room, b)
	return room[:len(b)]
}

// overwrite fills a list and the room behind its length.
func overwrite(b []byte) {
	b = b[:cap(b)]
	for i := range b {
		b[i] = 99
	}
}

// someData are a request's, an answer's, and ones that are read with each error.
func someData() [][]byte {
	data := [][]byte{nil, {0}, {0, 0}, {1}, {0, 1}, {1, 'a'}, {1, 'a', 2}, {1, 'a', 2, 'b'}, {1, 'a', 2, 'b', 'c'}, {1, 'a', 2, 'b', 'c', 0}, {255}, {0, 255}, {255, 255, 255}}
	for _, s := range shortOnes() {
		say, _ := putByWords([]string{s})
		ask, _ := putByWords([]string{s, "a" + s[:len(s)/2]})
		data = append(data, say, ask, ask[:len(ask)-1], append(bytes.Clone(ask), 7))
	}
	return data
}

// someLogins are of all pairs of some texts.
func someLogins() []api.Logins {
	var logins []api.Logins
	for _, s := range []string{"", "a", "bc", "\x00\xff", textOf(255), textOf(256)} {
		for _, u := range []string{"", "a", "secret", textOf(254), textOf(255), textOf(300)} {
			logins = append(logins, api.Logins{Name: s, Word: u})
		}
	}
	return logins
}

func TestHandedInStays(t *testing.T) { // P16.3
	for _, b := range someData() {
		given, want := fresh(b), fresh(b)
		ReadAsk(given)
		ReadSay(given)
		if !bytes.Equal(given[:cap(given)], want[:cap(want)]) {
			t.Errorf("%v has become %v", b, given)
		}
	}
}

func TestTextsHandedInStay(t *testing.T) { // P16.3
	for _, l := range someLogins() {
		name, word := fresh([]byte(l.Name)), fresh([]byte(l.Word))
		ofName, ofWord := bytes.Clone(name[:cap(name)]), bytes.Clone(word[:cap(word)])
		given := api.Logins{Name: unsafe.String(unsafe.SliceData(name), len(name)), Word: unsafe.String(unsafe.SliceData(word), len(word))}
		ask, _ := PutAsk(given)
		say, _ := PutSay(given.Name)
		overwrite(ask)
		overwrite(say)
		if !bytes.Equal(name[:cap(name)], ofName) || !bytes.Equal(word[:cap(word)], ofWord) {
			t.Errorf("%q has become %q, %q", l, name, word)
		}
	}
}

// TestRoomIsNotHandedIn hands in the first bytes of longer lists: what stands behind would make others of them.
func TestRoomIsNotHandedIn(t *testing.T) { // P16.3, rule 8
	for _, b := range someData() {
		checkData(t, fresh(b))
		for n := range b {
			checkData(t, b[:n])
		}
	}
}

func TestDataPutAreNew(t *testing.T) { // P16.3
	for _, l := range someLogins() {
		checkNew(t, func() []byte { b, _ := PutAsk(l); return b })
		checkNew(t, func() []byte { b, _ := PutSay(l.Name); return b })
		wantAsk, _ := putByWords([]string{l.Name, l.Word})
		wantSay, _ := putByWords([]string{l.Name})
		ask, _ := PutAsk(l)
		say, _ := PutSay(l.Name)
		overwrite(say)
		if !bytes.Equal(ask, wantAsk) {
			t.Errorf("PutAsk(%q) shares memory with PutSay's answer", l)
		}
		overwrite(ask)
		if say, _ = PutSay(l.Name); !bytes.Equal(say, wantSay) {
			t.Errorf("PutSay(%q) goes by what was written into an answer of PutAsk", l.Name)
		}
	}
}

// checkNew writes into answers of one call, and looks at others of it.
func checkNew(t *testing.T, call func() []byte) {
	t.Helper()
	want := bytes.Clone(call())
	first, second := call(), call()
	overwrite(second)
	if !bytes.Equal(first, want) {
		t.Errorf("%v shares memory with another answer", want)
	}
	overwrite(first)
	if third := call(); !bytes.Equal(third, want) {
		t.Errorf("%v has become %v, since it was written into an answer", want, third)
	}
}

func TestTextsReadStay(t *testing.T) { // P16.3
	for _, b := range someData() {
		given := fresh(b)
		l, _ := ReadAsk(given)
		s, _ := ReadSay(given)
		wantAsk, wantSay := api.Logins{Name: strings.Clone(l.Name), Word: strings.Clone(l.Word)}, strings.Clone(s)
		overwrite(given)
		if l != wantAsk || s != wantSay {
			t.Errorf("%v was read as %q, %q, which have become %q, %q", b, wantAsk, wantSay, l, s)
		}
	}
}

func TestNothingIsKept(t *testing.T) { // rule 8
	for range 3 {
		for _, b := range someData() {
			checkData(t, fresh(b))
		}
		for _, l := range someLogins() {
			checkAsk(t, l)
			checkSay(t, l.Word)
		}
	}
}

func FuzzPap(f *testing.F) { // P1, P16.1 to P16.3
	for _, b := range someData() {
		f.Add(b, "a", "bc")
	}
	f.Add([]byte{1}, textOf(255), textOf(256))
	f.Fuzz(func(t *testing.T, b []byte, name, word string) {
		kept := bytes.Clone(b)
		checkData(t, b)
		checkSay(t, string(b))
		checkAsk(t, api.Logins{Name: name, Word: word})
		if ask, e := PutAsk(api.Logins{Name: name, Word: word}); e == api.OK {
			checkData(t, append(ask, b...))
			checkData(t, ask[:len(ask)-1])
		}
		if !bytes.Equal(b, kept) {
			t.Error("what was handed in has changed")
		}
	})
}
