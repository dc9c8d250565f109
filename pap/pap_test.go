package pap

import (
	"bytes"
	"fmt"
	"math/rand"
	"slices"
	"strings"
	"testing"

	"umpire/api"
)

// textOf is a text of so many bytes, no two beside each other alike.
func textOf(n int) string {
	b := make([]byte, n)
	for i := range b {
		b[i] = byte(i*7 + n)
	}
	return string(b)
}

// someTexts are short ones and long ones, of bytes that are no rune's, and of ones that would be lengths.
func someTexts() []string {
	texts := []string{"", "a", "bc", "ann", "secret", "\x00", "\x00\x00", "\x01", "\x01a", "\x02", "\x7f", "\x80", "\xff", "\xff\xff\xff", "\xc3", "\xc3\xa9", "é€𝄞", "\xed\xa0\x80", "\xf4\x90\x80\x80", "\xef\xbf\xbd", "\r\n\t ", " a ", "\x03ann\x06secret"}
	for _, n := range []int{3, 127, 128, 129, 253, 254, 255, 256, 257, 258, 511, 512, 513, 768, 65535, 65536, 65537} {
		texts = append(texts, textOf(n), strings.Repeat("\x00", n), strings.Repeat("\xff", n))
	}
	// Of runes of several bytes each: 255 bytes, and more, though no more runes than that.
	return append(texts, strings.Repeat("€", 85), strings.Repeat("€", 86), strings.Repeat("é", 127), strings.Repeat("é", 128), strings.Repeat("é", 255))
}

// shortOnes are those of the texts that are short.
func shortOnes() []string {
	return slices.DeleteFunc(someTexts(), func(s string) bool { return len(s) > 255 })
}

// checkAsk holds what is put of a request against the chapter's words, and what is read of it against what was put.
func checkAsk(t *testing.T, l api.Logins) {
	t.Helper()
	want, wantErr := putByWords([]string{l.Name, l.Word})
	b, e := PutAsk(l)
	if !bytes.Equal(b, want) || e != wantErr {
		t.Fatalf("PutAsk(%q): %v, %d and not %v, %d", l, b, e, want, wantErr)
	}
	if e != api.OK {
		return
	}
	if back, e := ReadAsk(b); back != l || e != api.OK {
		t.Fatalf("%q is read as %q, %d", l, back, e)
	}
}

// checkSay does so of an answer.
func checkSay(t *testing.T, s string) {
	t.Helper()
	want, wantErr := putByWords([]string{s})
	b, e := PutSay(s)
	if !bytes.Equal(b, want) || e != wantErr {
		t.Fatalf("PutSay(%q): %v, %d and not %v, %d", s, b, e, want, wantErr)
	}
	if e != api.OK {
		return
	}
	if back, e := ReadSay(b); back != s || e != api.OK {
		t.Fatalf("%q is read as %q, %d", s, back, e)
	}
}

// checkData holds what is read of data against the chapter's words, and what is put of it against the data.
func checkData(t *testing.T, b []byte) {
	t.Helper()
	wantAsk, wantErr := readAskByWords(b)
	l, e := ReadAsk(b)
	if l != wantAsk || e != wantErr {
		t.Fatalf("ReadAsk(%v): %q, %d and not %q, %d", b, l, e, wantAsk, wantErr)
	}
	if again, _ := PutAsk(l); e == api.OK && !bytes.Equal(again, b) {
		t.Fatalf("%v is read as %q, which is put as %v", b, l, again)
	}
	wantSay, wantErr := readSayByWords(b)
	s, f := ReadSay(b)
	if s != wantSay || f != wantErr {
		t.Fatalf("ReadSay(%v): %q, %d and not %q, %d", b, s, f, wantSay, wantErr)
	}
	if again, _ := PutSay(s); f == api.OK && !bytes.Equal(again, b) {
		t.Fatalf("%v is read as %q, which is put as %v", b, s, again)
	}
	if e == api.OK && f != api.ErrForm || f == api.OK && e != api.ErrEnd {
		t.Fatalf("%v is read as a request with %d, and as an answer with %d", b, e, f)
	}
}

// wantsAsk tells what a request's data are to be read as.
func wantsAsk(t *testing.T, b string, want api.Logins, wantErr api.Errno) {
	t.Helper()
	if l, e := ReadAsk([]byte(b)); l != want || e != wantErr {
		t.Errorf("ReadAsk(%q): %q, %d and not %q, %d", b, l, e, want, wantErr)
	}
}

// wantsSay tells what an answer's data are to be read as.
func wantsSay(t *testing.T, b string, want string, wantErr api.Errno) {
	t.Helper()
	if s, e := ReadSay([]byte(b)); s != want || e != wantErr {
		t.Errorf("ReadSay(%q): %q, %d and not %q, %d", b, s, e, want, wantErr)
	}
}

func TestExamples(t *testing.T) { // P16.1
	l := api.Logins{Name: "a", Word: "bc"}
	wantsAsk(t, "\x01a\x02bc", l, api.OK)
	if b, e := PutAsk(l); string(b) != "\x01a\x02bc" || e != api.OK {
		t.Error(b, e)
	}
	wantsSay(t, "\x00", "", api.OK)
	if b, e := PutSay(""); string(b) != "\x00" || e != api.OK {
		t.Error(b, e)
	}
}

func TestPutAsk(t *testing.T) { // P16.1
	long := textOf(255)
	for _, x := range []struct {
		l    api.Logins
		want string
	}{
		{api.Logins{}, "\x00\x00"},
		{api.Logins{Name: "a"}, "\x01a\x00"},
		{api.Logins{Word: "b"}, "\x00\x01b"},
		{api.Logins{Name: "a", Word: "b"}, "\x01a\x01b"},
		{api.Logins{Name: "ann", Word: "secret"}, "\x03ann\x06secret"},
		{api.Logins{Name: long}, "\xff" + long + "\x00"},
		{api.Logins{Word: long}, "\x00\xff" + long},
		{api.Logins{Name: long, Word: long}, "\xff" + long + "\xff" + long},
		{api.Logins{Name: "\x00\x80\xff", Word: "\xc3"}, "\x03\x00\x80\xff\x01\xc3"},
		{api.Logins{Name: "é", Word: "€"}, "\x02\xc3\xa9\x03\xe2\x82\xac"},
	} {
		if b, e := PutAsk(x.l); string(b) != x.want || e != api.OK {
			t.Errorf("PutAsk(%q): %q, %d and not %q", x.l, b, e, x.want)
		}
	}
}

func TestPutSay(t *testing.T) { // P16.1
	long := textOf(255)
	for s, want := range map[string]string{
		"":             "\x00",
		"a":            "\x01a",
		"hello":        "\x05hello",
		"\x00":         "\x01\x00",
		"\x00\x80\xff": "\x03\x00\x80\xff",
		"\xc3":         "\x01\xc3",
		"€":            "\x03\xe2\x82\xac",
		long:           "\xff" + long,
	} {
		if b, e := PutSay(s); string(b) != want || e != api.OK {
			t.Errorf("PutSay(%q): %q, %d and not %q", s, b, e, want)
		}
	}
}

// TestBytesStand puts each byte by itself, and in the midst of others.
func TestBytesStand(t *testing.T) { // P16.1
	for c := range 256 {
		for _, s := range []string{string([]byte{byte(c)}), string([]byte{'a', byte(c), 'b'}), strings.Repeat(string([]byte{byte(c)}), 255)} {
			checkSay(t, s)
			checkAsk(t, api.Logins{Name: s})
			checkAsk(t, api.Logins{Word: s})
			checkAsk(t, api.Logins{Name: s, Word: s})
		}
	}
}

func TestTextsThatAreLong(t *testing.T) { // P16.1
	for _, n := range []int{256, 257, 300, 511, 512, 65535, 65536, 65536 + 3, 1 << 20, 1<<24 + 1} {
		s := textOf(n)
		for _, l := range []api.Logins{{Name: s}, {Word: s}, {Name: s, Word: s}, {Name: s, Word: "b"}, {Name: "a", Word: s}, {Name: textOf(255), Word: s}, {Name: s, Word: textOf(255)}} {
			if b, e := PutAsk(l); len(b) != 0 || e != api.ErrLong {
				t.Errorf("PutAsk of texts of %d and %d bytes: %d bytes, %d", len(l.Name), len(l.Word), len(b), e)
			}
		}
		if b, e := PutSay(s); len(b) != 0 || e != api.ErrLong {
			t.Errorf("PutSay of %d bytes: %d bytes, %d", n, len(b), e)
		}
	}
}

// TestAllLengths puts and reads texts of all lengths up to some beyond the longest, in both places.
func TestAllLengths(t *testing.T) { // P16.1, P16.2
	var texts []string
	for n := range 260 {
		texts = append(texts, textOf(n))
	}
	for _, s := range texts {
		checkSay(t, s)
		for _, u := range texts {
			checkAsk(t, api.Logins{Name: s, Word: u})
		}
	}
}

func TestSomeTexts(t *testing.T) { // P16.1, P16.2
	for _, s := range someTexts() {
		checkSay(t, s)
		for _, u := range someTexts() {
			checkAsk(t, api.Logins{Name: s, Word: u})
		}
	}
}

func TestReadAsk(t *testing.T) { // P16.1
	long := textOf(255)
	none := api.Logins{}
	for _, x := range []struct {
		b    string
		want api.Logins
		e    api.Errno
	}{
		{"", none, api.ErrEnd},
		{"\x00", none, api.ErrEnd}, // the first text alone
		{"\x01", none, api.ErrEnd},
		{"\x01a", none, api.ErrEnd},
		{"\x02ab", none, api.ErrEnd},
		{"\x03ab", none, api.ErrEnd}, // one byte ahead of its end
		{"\x03a", none, api.ErrEnd},
		{"\xff" + long, none, api.ErrEnd},
		{"\xff" + long[:254], none, api.ErrEnd},
		{"\xff\x00", none, api.ErrEnd},
		{"\xff", none, api.ErrEnd},
		{"\x00\x01", none, api.ErrEnd}, // the second text's length alone
		{"\x00\xff", none, api.ErrEnd},
		{"\x01a\x02b", none, api.ErrEnd},
		{"\x01a\xff" + long[:254], none, api.ErrEnd},
		{"\x00\x00", none, api.OK},
		{"\x01a\x00", api.Logins{Name: "a"}, api.OK},
		{"\x00\x01b", api.Logins{Word: "b"}, api.OK},
		{"\x01\x00\x01\xff", api.Logins{Name: "\x00", Word: "\xff"}, api.OK},
		{"\xff" + long + "\xff" + long, api.Logins{Name: long, Word: long}, api.OK},
		{"\x00\x00\x00", none, api.ErrForm}, // something behind
		{"\x00\x00\x00\x00", none, api.ErrForm},
		{"\x00\x00\xff", none, api.ErrForm},
		{"\x01a\x01bc", none, api.ErrForm},
		{"\x01a\x00b", none, api.ErrForm},
		{"\x00\x01bc", none, api.ErrForm},
		{"\x01a\x01b\x01c", none, api.ErrForm},
		{"\xff" + long + "\xff" + long + "\x00", none, api.ErrForm},
		{"\xff" + long + "\xff" + long + long, none, api.ErrForm},
	} {
		wantsAsk(t, x.b, x.want, x.e)
	}
	if l, e := ReadAsk(nil); l != none || e != api.ErrEnd {
		t.Errorf("ReadAsk of nil: %q, %d", l, e)
	}
}

func TestReadSay(t *testing.T) { // P16.1
	long := textOf(255)
	for _, x := range []struct {
		b, want string
		e       api.Errno
	}{
		{"", "", api.ErrEnd},
		{"\x01", "", api.ErrEnd},
		{"\x02a", "", api.ErrEnd},
		{"\x05hell", "", api.ErrEnd},
		{"\xff", "", api.ErrEnd},
		{"\xff" + long[:1], "", api.ErrEnd},
		{"\xff" + long[:254], "", api.ErrEnd},
		{"\x00", "", api.OK},
		{"\x01\x00", "\x00", api.OK},
		{"\x01\x80", "\x80", api.OK},
		{"\x05hello", "hello", api.OK},
		{"\xff" + long, long, api.OK},
		{"\x00\x00", "", api.ErrForm},
		{"\x00a", "", api.ErrForm},
		{"\x00\xff", "", api.ErrForm},
		{"\x01ab", "", api.ErrForm},
		{"\x05hello\x00", "", api.ErrForm},
		{"\x05hello!!!!", "", api.ErrForm},
		{"\xff" + long + "\x00", "", api.ErrForm},
		{"\xff" + long + long, "", api.ErrForm},
	} {
		wantsSay(t, x.b, x.want, x.e)
	}
	if s, e := ReadSay(nil); s != "" || e != api.ErrEnd {
		t.Errorf("ReadSay of nil: %q, %d", s, e)
	}
}

// TestCutsAndTails cuts data at each byte, and puts more behind them.
func TestCutsAndTails(t *testing.T) { // P16.1
	tails := []string{"\x00", "\x01", "\xff", "ab", "\x00\x00", "\x01a\x01b"}
	for _, s := range shortOnes() {
		say, _ := putByWords([]string{s})
		for n := range say {
			wantsSay(t, string(say[:n]), "", api.ErrEnd)
		}
		for _, tail := range tails {
			wantsSay(t, string(say)+tail, "", api.ErrForm)
		}
		for _, u := range []string{"", "b", "secret", textOf(128), textOf(255)} {
			ask, _ := putByWords([]string{s, u})
			for n := range ask {
				wantsAsk(t, string(ask[:n]), api.Logins{}, api.ErrEnd)
			}
			for _, tail := range tails {
				wantsAsk(t, string(ask)+tail, api.Logins{}, api.ErrForm)
			}
		}
	}
}

// TestReadAsTheOther reads a request as an answer, behind whose text the other one stands, and an answer as a request, that ends ahead of the other.
func TestReadAsTheOther(t *testing.T) { // P16.1
	for _, s := range shortOnes() {
		say, _ := PutSay(s)
		wantsAsk(t, string(say), api.Logins{}, api.ErrEnd)
		for _, u := range shortOnes() {
			ask, _ := PutAsk(api.Logins{Name: s, Word: u})
			wantsSay(t, string(ask), "", api.ErrForm)
		}
	}
}

// listsOf hands out all lists of up to so many of these bytes.
func listsOf(values []byte, most int, check func([]byte)) {
	var grow func(b []byte)
	grow = func(b []byte) {
		check(b)
		if len(b) == most {
			return
		}
		for _, c := range values {
			grow(append(b[:len(b):len(b)], c))
		}
	}
	grow(nil)
}

// TestJustThoseThatWerePut reads all lists of a few bytes, and finds just what was put in them.
func TestJustThoseThatWerePut(t *testing.T) { // P16.2
	values := []byte{0, 1, 2, 3, 'a', 255}
	const most = 6
	asks, says, count := map[string]api.Logins{}, map[string]string{}, 0
	listsOf(values, most-1, func(b []byte) {
		say, _ := PutSay(string(b))
		says[string(say)] = string(b)
		count++
	})
	if len(says) != count {
		t.Errorf("%d messages have %d data", count, len(says))
	}
	count = 0
	listsOf(values, most-2, func(b []byte) {
		for n := range len(b) + 1 {
			l := api.Logins{Name: string(b[:n]), Word: string(b[n:])}
			ask, _ := PutAsk(l)
			asks[string(ask)] = l
			count++
		}
	})
	if len(asks) != count {
		t.Errorf("%d requests have %d data", count, len(asks))
	}
	listsOf(values, most, func(b []byte) {
		checkData(t, b)
		want, put := asks[string(b)]
		if l, e := ReadAsk(b); l != want || (e == api.OK) != put {
			t.Fatalf("%v was put: %v; it is read as %q, %d", b, put, l, e)
		}
		message, put := says[string(b)]
		if s, e := ReadSay(b); s != message || (e == api.OK) != put {
			t.Fatalf("%v was put: %v; it is read as %q, %d", b, put, s, e)
		}
	})
}

// TestAllBytes reads all lists of up to two bytes, and of three with one of a few in their midst.
func TestAllBytes(t *testing.T) { // P16.1, P16.2
	var all []byte
	for c := range 256 {
		all = append(all, byte(c))
	}
	listsOf(all, 2, func(b []byte) {
		checkData(t, b)
		if len(b) == 2 {
			for _, c := range []byte{0, 1, 2, 255} {
				checkData(t, []byte{b[0], c, b[1]})
			}
		}
	})
}

// TestAllFirstBytes reads data of each length of a text, as long as it says, and some bytes shorter and longer.
func TestAllFirstBytes(t *testing.T) { // P16.1
	for size := range 256 {
		for _, count := range []int{0, 1, size - 1, size, size + 1, size + 2, 255, 256, 257, 600} {
			if count >= 0 {
				checkData(t, append([]byte{byte(size)}, textOf(count)...))
				checkData(t, append([]byte{0, byte(size)}, textOf(count)...))
				checkData(t, append([]byte{2, 'a', 'b', byte(size)}, textOf(count)...))
			}
		}
	}
}

// dataByChance mostly has lengths that hold.
func dataByChance(chance *rand.Rand) []byte {
	var b []byte
	for range chance.Intn(4) {
		size := chance.Intn(1 << chance.Intn(9))
		b = append(b, byte(size))
		for range size {
			b = append(b, byte(chance.Intn(256)))
		}
	}
	switch chance.Intn(4) {
	case 0:
		b = b[:chance.Intn(len(b)+1)]
	case 1:
		b = append(b, byte(chance.Intn(256)))
	case 2:
		if len(b) > 0 {
			b[chance.Intn(len(b))] += byte(chance.Intn(3))
		}
	}
	return b
}

func TestByChance(t *testing.T) { // P16.1, P16.2
	chance := rand.New(rand.NewSource(16))
	seen := map[string]int{}
	for range 30000 {
		b := dataByChance(chance)
		checkData(t, b)
		_, e := ReadAsk(b)
		_, f := ReadSay(b)
		seen[fmt.Sprint(e, f)]++
		name, word := textOf(chance.Intn(300)), textOf(chance.Intn(300))
		checkAsk(t, api.Logins{Name: name, Word: word})
		checkSay(t, name)
	}
	for _, errs := range []string{"0 3", "2 0", "2 2", "2 3", "3 3"} {
		if seen[errs] < 100 {
			t.Errorf("errors %s came up %d times", errs, seen[errs])
		}
	}
	if len(seen) != 5 {
		t.Errorf("errors that came up: %v", seen)
	}
}

// TestManyBytes reads and puts what is far longer than may be: it takes no longer for that.
func TestManyBytes(t *testing.T) { // P1
	many := make([]byte, 1<<24)
	long := string(many)
	for range 10000 {
		if l, e := ReadAsk(many); l != (api.Logins{}) || e != api.ErrForm {
			t.Fatal(l, e)
		}
		if s, e := ReadSay(many); s != "" || e != api.ErrForm {
			t.Fatal(s, e)
		}
		if b, e := PutAsk(api.Logins{Name: long, Word: long}); len(b) != 0 || e != api.ErrLong {
			t.Fatal(len(b), e)
		}
		if b, e := PutSay(long); len(b) != 0 || e != api.ErrLong {
			t.Fatal(len(b), e)
		}
	}
}
