package chap

import (
	"bytes"
	"slices"
	"strings"
	"testing"
	"unsafe"

	"umpire/api"
)

// fresh is a list with room behind its length, filled, so that a write there is seen.
func fresh(b []byte) []byte {
	room := bytes.Repeat([]byte{17}, len(b)+300)
	copy(room, b)
	return room[:len(b)]
}

// freshText is a text in the memory of such a list.
func freshText(s string) (string, []byte) {
	b := fresh([]byte(s))
	return unsafe.String(unsafe.SliceData(b), len(b)), b
}

// overwrite fills a list and the room behind its length.
func overwrite(b []byte) {
	b = b[:cap(b)]
	for i := range b {
		b[i] = 99
	}
}

// whole are a list's bytes, and those behind its length.
func whole(b []byte) []byte {
	return bytes.Clone(b[:cap(b)])
}

// clone is of memory of its own.
func clone(c api.Chaps) api.Chaps {
	return api.Chaps{Value: bytes.Clone(c.Value), Name: strings.Clone(c.Name)}
}

// someData are right ones, ones cut short, and ones that are read with each error.
func someData() [][]byte {
	data := [][]byte{nil, {}, {0}, {0, 1}, {1}, {1, 0}, {1, 'a'}, {1, 'a', 'b'}, {2, 'a'}, {3, 1, 2, 3, 'a', 'b'}, {255}, {255, 255, 255}, append([]byte{0}, bytesOf(65530)...), append([]byte{1}, bytesOf(65528)...)}
	for _, c := range someChaps() {
		if b, e := putByWords(c); e == api.OK {
			data = append(data, b, b[:len(b)-1], append(bytes.Clone(b), 7))
		}
	}
	return data
}

// someChaps are right ones, and ones that may not be.
func someChaps() []api.Chaps {
	var all []api.Chaps
	for _, v := range [][]byte{nil, {0}, {1, 2, 3}, []byte("value"), bytesOf(255), bytesOf(256)} {
		for _, name := range []string{"", "a", "\x00\xff", "peer's name", textOf(300), textOf(65526), textOf(65527)} {
			all = append(all, api.Chaps{Value: v, Name: name})
		}
	}
	return all
}

var (
	someSecrets   = []string{"", "a", "secret", "\x00\xff", textOf(55), textOf(300)}
	someQuestions = [][]byte{nil, {0}, {1, 2, 3}, bytesOf(16), bytesOf(255), bytesOf(300)}
)

func TestDataHandedInStay(t *testing.T) { // P17.4
	for _, b := range someData() {
		given := fresh(b)
		was := whole(given)
		c, _ := Read(given)
		overwrite(c.Value)
		if !bytes.Equal(given[:cap(given)], was) {
			t.Errorf("%v has become %v", b, given)
		}
	}
}

func TestChapsHandedInStay(t *testing.T) { // P17.4
	for _, c := range someChaps() {
		value := fresh(c.Value)
		name, behind := freshText(c.Name)
		wasValue, wasName := whole(value), whole(behind)
		b, _ := Put(api.Chaps{Value: value, Name: name})
		overwrite(b)
		if !bytes.Equal(value[:cap(value)], wasValue) || !bytes.Equal(behind[:cap(behind)], wasName) {
			t.Errorf("%q has become %q, %q", c, value, behind)
		}
	}
}

func TestQuestionsHandedInStay(t *testing.T) { // P17.4
	for _, s := range someSecrets {
		for _, v := range someQuestions {
			secret, behind := freshText(s)
			value := fresh(v)
			d := Answer(5, s, v)
			answer := fresh(d[:])
			wasSecret, wasValue, wasAnswer := whole(behind), whole(value), whole(answer)
			if Answer(5, secret, value) != d || !Right(5, secret, value, answer) {
				t.Errorf("of %q, %v: what stands behind them is answered with them", s, v)
			}
			Right(5, secret, value, answer[:15])
			Right(5, secret, value, answer[:17])
			Right(5, secret, value, nil)
			if !bytes.Equal(behind[:cap(behind)], wasSecret) || !bytes.Equal(value[:cap(value)], wasValue) || !bytes.Equal(answer[:cap(answer)], wasAnswer) {
				t.Errorf("of %q, %v: they have become %q, %v, %v", s, v, secret, value, answer)
			}
		}
	}
}

// TestOneMemory hands in a value and an answer that lie in one memory, and over each other.
func TestOneMemory(t *testing.T) { // P17.4
	d := Answer(5, "secret", []byte("value"))
	both := append([]byte("value"), d[:]...)
	if !Right(5, "secret", both[:5], both[5:]) || string(both) != "value"+string(d[:]) {
		t.Error("an answer behind its value isn't right")
	}
	checkRight(t, 5, "secret", both[:5], both[:16])
	checkRight(t, 5, "secret", both[:16], both[:16])
	checkRight(t, 5, "secret", both, both[5:])
}

// TestRoomIsNotHandedIn hands in the first bytes of longer lists: what stands behind would make others of them.
func TestRoomIsNotHandedIn(t *testing.T) { // P17.4, rule 8
	for _, b := range someData() {
		checkData(t, fresh(b))
		for n := range min(len(b), 300) {
			checkData(t, b[:n])
		}
	}
	d := Answer(5, "secret", []byte("value"))
	room := append(bytes.Clone(d[:]), d[:]...)
	for n := range room {
		if Right(5, "secret", []byte("value"), room[:n]) != (n == 16) {
			t.Errorf("of %d bytes", n)
		}
	}
}

func TestDataPutAreNew(t *testing.T) { // P17.4
	for _, c := range someChaps() {
		want, _ := putByWords(c)
		given := api.Chaps{Value: fresh(c.Value), Name: c.Name}
		first, _ := Put(given)
		second, _ := Put(given)
		overwrite(second)
		if !bytes.Equal(first, want) {
			t.Errorf("Put(%q) shares memory with another answer", c)
		}
		overwrite(given.Value)
		if !bytes.Equal(first, want) {
			t.Errorf("Put(%q) shares memory with the Value", c)
		}
		overwrite(first)
		if third, _ := Put(c); !bytes.Equal(third, want) {
			t.Errorf("Put(%q) goes by what was written into an answer: %v", c, third)
		}
	}
}

func TestChapsReadStay(t *testing.T) { // P17.4
	for _, b := range someData() {
		want, _ := readByWords(b)
		given := fresh(b)
		first, _ := Read(given)
		second, _ := Read(given)
		overwrite(second.Value)
		if !same(first, want) || second.Name != want.Name {
			t.Errorf("Read(%v) shares memory with another answer, or with its Name", b)
		}
		overwrite(given)
		if !same(first, want) || second.Name != want.Name {
			t.Errorf("%v was read as %q, which has become %q, %q", b, want, first, second.Name)
		}
		overwrite(first.Value)
		if third, _ := Read(b); !same(third, want) {
			t.Errorf("Read(%v) goes by what was written into an answer: %q", b, third)
		}
	}
}

// TestValuePutAgain puts what was read of the data, and writes over one of them after the other.
func TestValuePutAgain(t *testing.T) { // P17.3, P17.4
	for _, c := range someChaps() {
		b, e := Put(c)
		if e != api.OK {
			continue
		}
		back, _ := Read(b)
		kept := clone(back)
		again, _ := Put(back)
		overwrite(b)
		if !same(back, kept) {
			t.Errorf("%q has become %q", kept, back)
		}
		overwrite(back.Value)
		if want, _ := putByWords(c); !bytes.Equal(again, want) {
			t.Errorf("%v has become %v", want, again)
		}
	}
}

func TestAnswersAreNew(t *testing.T) { // P17.4
	for _, s := range someSecrets {
		for _, v := range someQuestions {
			want := answerByWords(5, s, v)
			first, second := Answer(5, s, v), Answer(5, s, v)
			overwrite(second[:])
			if first != want {
				t.Errorf("Answer(5, %q, %v) has become %v", s, v, first)
			}
			value := fresh(v)
			third := Answer(5, s, value)
			overwrite(value)
			if third != want {
				t.Errorf("Answer(5, %q, %v) goes by what the value has become", s, v)
			}
		}
	}
}

func TestNothingIsKept(t *testing.T) { // rule 8
	for range 3 {
		for _, b := range someData() {
			checkData(t, fresh(b))
		}
		for _, c := range someChaps() {
			checkPut(t, c)
		}
		for i, s := range someSecrets {
			for _, v := range someQuestions {
				checkAnswer(t, i-3, s, slices.Clone(v))
			}
		}
	}
}

func FuzzChap(f *testing.F) { // P1, P17.1 to P17.4
	for i, b := range someData() {
		if len(b) < 1000 {
			f.Add(b, "a", i*100-500)
		}
	}
	f.Add([]byte{1, 2}, textOf(255), 256)
	f.Fuzz(func(t *testing.T, b []byte, text string, id int) {
		kept := bytes.Clone(b)
		checkData(t, b)
		checkPut(t, api.Chaps{Value: b, Name: text})
		checkPut(t, api.Chaps{Value: []byte{1}, Name: text})
		checkAnswer(t, id, text, b)
		checkRight(t, id, text, b, b)
		checkRight(t, id, text, []byte(text), b)
		if data, e := Put(api.Chaps{Value: b, Name: text}); e == api.OK {
			checkData(t, append(data, b...))
			checkData(t, data[:len(data)-1])
		}
		if !bytes.Equal(b, kept) {
			t.Error("what was handed in has changed")
		}
	})
}
