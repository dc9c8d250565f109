package digits

import (
	"bytes"
	"math"
	"math/big"
	"slices"
	"strings"
	"testing"
	"unsafe"
)

// someNumbers holds the edges: each power of both bases, with its neighbours, and the ends of the range.
func someNumbers() []uint64 {
	l := []uint64{0, 1, 7, 9, 10, 11, 15, 16, 17, 255, 256, 258, 65535, 65536, math.MaxInt64, math.MaxInt64 + 1, math.MaxUint64 - 1, math.MaxUint64}
	for _, base := range []uint64{2, 10, 16} {
		for p := base; ; p *= base {
			l = append(l, p-1, p, p+1)
			if p > math.MaxUint64/base {
				break
			}
		}
	}
	slices.Sort(l)
	return slices.Compact(l)
}

// shortTexts calls f with every text of up to two bytes, those that are no runes among them.
func shortTexts(f func(s string)) {
	f("")
	for a := range 256 {
		f(string([]byte{byte(a)}))
		for b := range 256 {
			f(string([]byte{byte(a), byte(b)}))
		}
	}
}

func TestNumbersTold(t *testing.T) { // P1.1
	for _, x := range []struct {
		n        uint64
		dec, hex string
	}{
		{0, "0", "0"},
		{7, "7", "7"},
		{10, "10", "a"},
		{99, "99", "63"},
		{100, "100", "64"},
		{255, "255", "ff"},
		{3735928559, "3735928559", "deadbeef"},
		{0x123456789abcdef0, "1311768467463790320", "123456789abcdef0"},
		{math.MaxUint64, "18446744073709551615", "ffffffffffffffff"},
	} {
		if s := Dec(x.n); s != x.dec {
			t.Errorf("Dec(%d): %q", x.n, s)
		}
		if s := Hex(x.n); s != x.hex {
			t.Errorf("Hex(%d): %q", x.n, s)
		}
	}
	for _, n := range someNumbers() {
		whole := new(big.Int).SetUint64(n)
		if Dec(n) != whole.Text(10) || Hex(n) != whole.Text(16) {
			t.Errorf("%d: %q, %q", n, Dec(n), Hex(n))
		}
	}
}

func TestNumbersReadBack(t *testing.T) { // P1.1
	for _, n := range someNumbers() {
		if m, ok := ReadDec(Dec(n)); m != n || !ok {
			t.Errorf("ReadDec(%q): %d, %v", Dec(n), m, ok)
		}
		if m, ok := ReadHex(Hex(n)); m != n || !ok {
			t.Errorf("ReadHex(%q): %d, %v", Hex(n), m, ok)
		}
	}
}

// wrongForAll are digits of no number in either base.
var wrongForAll = []string{
	"", "00", "01", "007", "000000000000000000000", "0x1", "0b1", "0o7", "1_000",
	"-1", "-0", "+1", " 1", "1 ", "1 2", "\t1", "1\n", "1\x00", "\x001", "1.0", "1,0",
	"A", "F", "1F", "g", "1g", "/", ":", "`", "@", "G",
	"é", "1é", "\u0661", "\uff11", "1\u0661", "\U0001d7cf", "\ufffd", "\xff", "1\xff", "\xff1", "\xc3", "1\xe2\x82", "\xb1",
}

func TestWrongNumbers(t *testing.T) { // P1.1
	dec := append([]string{"a", "1a", "a1", "ff", "1e3",
		"18446744073709551616", "18446744073709551620", "18446744073709551625", "20000000000000000000", "99999999999999999999",
		"100000000000000000000", "184467440737095516150", "36893488147419103232", strings.Repeat("9", 1000), "1" + strings.Repeat("0", 1000),
	}, wrongForAll...)
	for _, s := range dec {
		if n, ok := ReadDec(s); n != 0 || ok {
			t.Errorf("ReadDec(%q): %d, %v", s, n, ok)
		}
	}
	hex := append([]string{"0a", "0f", "0ff", "fF", "Ff", "DEADBEEF",
		"10000000000000000", "1ffffffffffffffff", "fffffffffffffffff", "20000000000000001", strings.Repeat("f", 1000), "1" + strings.Repeat("0", 1000),
	}, wrongForAll...)
	for _, s := range hex {
		if n, ok := ReadHex(s); n != 0 || ok {
			t.Errorf("ReadHex(%q): %d, %v", s, n, ok)
		}
	}
}

func TestNumbersOfShortTexts(t *testing.T) { // P1.1
	decimal, sixteens := map[string]uint64{}, map[string]uint64{}
	for n := range uint64(256) {
		decimal[Dec(n)], sixteens[Hex(n)] = n, n
	}
	shortTexts(func(s string) {
		want, wantOk := decimal[s]
		if n, ok := ReadDec(s); n != want || ok != wantOk {
			t.Errorf("ReadDec(%q): %d, %v", s, n, ok)
		}
		want, wantOk = sixteens[s]
		if n, ok := ReadHex(s); n != want || ok != wantOk {
			t.Errorf("ReadHex(%q): %d, %v", s, n, ok)
		}
	})
}

func TestBytesTold(t *testing.T) { // P1.1
	for _, x := range []struct {
		b []byte
		s string
	}{
		{nil, ""},
		{[]byte{}, ""},
		{[]byte{0}, "00"},
		{[]byte{10, 255}, "0aff"},
		{[]byte{0, 0, 1}, "000001"},
		{[]byte{0x9c, 0xa0, 0x0f, 0xf0}, "9ca00ff0"},
	} {
		if s := Bytes(x.b); s != x.s {
			t.Errorf("Bytes(%v): %q", x.b, s)
		}
		if b, ok := ReadBytes(x.s); !ok || !bytes.Equal(b, x.b) {
			t.Errorf("ReadBytes(%q): %v, %v", x.s, b, ok)
		}
	}
	long := make([]byte, 70000)
	for i := range long {
		long[i] = byte(i * 31)
	}
	if s := Bytes(long); len(s) != 2*len(long) {
		t.Error("a long list", len(s))
	}
	if b, ok := ReadBytes(Bytes(long)); !ok || !bytes.Equal(b, long) {
		t.Error("a long list is not read back")
	}
}

func TestWrongBytes(t *testing.T) { // P1.1
	for _, s := range []string{
		"0", "f", "000", "0aff0", "0A", "A0", "FF", "0aFF", "0x", "0x00", "0g", "g0", "00g0", "/0", "0:", "`0", "@0",
		" 0", "0 ", "  ", "0a ff", " 0aff", "0aff ", "00\n0", "0\n", "-1", "+1", "\x000",
		"é", "0é", "00é", "é00", "0é0", "\u0661", "\u06610", "00\uff11", "\xff", "\xff\xff", "0\xff", "\xff0", "00\xc3", "0\xc3\xa90", "\x80\x80", "\ufffd0",
	} {
		if b, ok := ReadBytes(s); len(b) != 0 || ok {
			t.Errorf("ReadBytes(%q): %v, %v", s, b, ok)
		}
	}
}

func TestBytesOfShortTexts(t *testing.T) { // P1.1
	told := map[string][]byte{"": nil}
	for x := range 256 {
		told[Bytes([]byte{byte(x)})] = []byte{byte(x)}
	}
	shortTexts(func(s string) {
		want, wantOk := told[s]
		if b, ok := ReadBytes(s); !bytes.Equal(b, want) || ok != wantOk {
			t.Errorf("ReadBytes(%q): %v, %v", s, b, ok)
		}
	})
}

func TestWords(t *testing.T) { // P1.2
	for _, x := range []struct {
		s    string
		want []string
	}{
		{"", nil},
		{" ", nil},
		{"    ", nil},
		{"a", []string{"a"}},
		{" a  b", []string{"a", "b"}},
		{"a b", []string{"a", "b"}},
		{"a b ", []string{"a", "b"}},
		{"   one two   three    ", []string{"one", "two", "three"}},
		{"b a b", []string{"b", "a", "b"}},
		{"a\tb\nc\rd\ve\ff", []string{"a\tb\nc\rd\ve\ff"}},
		{"\n \t", []string{"\n", "\t"}},
		{"a\u00a0b\u2003c\u3000d\u0085e", []string{"a\u00a0b\u2003c\u3000d\u0085e"}},
		{"é \u20ac \U0001f600", []string{"é", "\u20ac", "\U0001f600"}},
		{"\xff \xc3 \xe2\x82 a\x80", []string{"\xff", "\xc3", "\xe2\x82", "a\x80"}},
		{"\x00 \x00", []string{"\x00", "\x00"}},
		{"\ufffd", []string{"\ufffd"}},
	} {
		if w := Words(x.s); !slices.Equal(w, x.want) {
			t.Errorf("Words(%q): %q", x.s, w)
		}
	}
}

func TestWordsOfShortTexts(t *testing.T) { // P1.2
	shortTexts(func(s string) {
		var want []string
		for _, w := range strings.Split(s, " ") {
			if w != "" {
				want = append(want, w)
			}
		}
		if w := Words(s); !slices.Equal(w, want) {
			t.Errorf("Words(%q): %q", s, w)
		}
	})
}

func TestPlain(t *testing.T) { // P1.2
	for _, s := range []string{"!", "~", "a", "!~", "0aff", "Some-Word.9"} {
		if !Plain(s) {
			t.Errorf("Plain(%q)", s)
		}
	}
	for _, s := range []string{"", " ", "a b", " a", "a ", "a\n", "\t", "\x00", "\x1f", "\x7f", "a\x7f", "\x80", "\xff", "a\xff", "é", "aé", "\u0661", "\ufffd"} {
		if Plain(s) {
			t.Errorf("Plain(%q)", s)
		}
	}
}

func TestPlainOfShortTexts(t *testing.T) { // P1.2
	shortTexts(func(s string) {
		want := s != ""
		for i := range len(s) {
			want = want && s[i] >= 33 && s[i] <= 126
		}
		if Plain(s) != want {
			t.Errorf("Plain(%q): %v", s, !want)
		}
	})
}

func TestUnlikeDigits(t *testing.T) { // P1.3
	numbers := someNumbers()
	for n := range uint64(5000) {
		numbers = append(numbers, n)
	}
	slices.Sort(numbers)
	numbers = slices.Compact(numbers)
	dec, hex := map[string]bool{}, map[string]bool{}
	for i, n := range numbers {
		if dec[Dec(n)] || hex[Hex(n)] {
			t.Errorf("%d has another number's digits", n)
		}
		dec[Dec(n)], hex[Hex(n)] = true, true
		if i == 0 {
			continue
		}
		less := numbers[i-1]
		if len(Dec(n)) < len(Dec(less)) || len(Hex(n)) < len(Hex(less)) {
			t.Errorf("%d has fewer digits than %d", n, less)
		}
	}
	told := map[string]bool{}
	shortTexts(func(s string) {
		if told[Bytes([]byte(s))] {
			t.Errorf("%q has other bytes' digits", s)
		}
		told[Bytes([]byte(s))] = true
	})
}

func TestHandedInStays(t *testing.T) { // P1.4
	room := []byte{1, 2, 3, 4, 5, 6}
	part := room[1:3]
	if s := Bytes(part); s != "0203" {
		t.Error(s)
	}
	if !bytes.Equal(room, []byte{1, 2, 3, 4, 5, 6}) {
		t.Error("Bytes wrote", room)
	}
}

func TestAnswersAreNew(t *testing.T) { // P1.4
	list := []byte{10, 11}
	text := Bytes(list)
	list[0] = 99
	if text != "0a0b" {
		t.Error("a text hangs on the bytes that were handed in:", text)
	}
	a, _ := ReadBytes("0aff")
	b, _ := ReadBytes("0aff")
	a[0] = 99
	a = append(a[:1], 98)
	if !bytes.Equal(b, []byte{10, 255}) {
		t.Error("two answers of ReadBytes share memory:", a, b)
	}
	v := Words("one two three")
	w := Words("one two three")
	v[0] = "other"
	v = append(v[:1], "other")
	if !slices.Equal(w, []string{"one", "two", "three"}) {
		t.Error("two answers of Words share memory:", v, w)
	}
}

func TestWordsHoldNoText(t *testing.T) { // P1.4
	for _, s := range []string{"word", " one two  three "} {
		from := uintptr(unsafe.Pointer(unsafe.StringData(s)))
		for _, w := range Words(s) {
			at := uintptr(unsafe.Pointer(unsafe.StringData(w)))
			if at >= from && at < from+uintptr(len(s)) {
				t.Errorf("the word %q is a piece of the text", w)
			}
		}
	}
}

func TestSameAnswerTwice(t *testing.T) { // rule 8
	for _, s := range []string{"", "0", "12", "0aff", "f", " a  b", "\xff", "007"} {
		n, nOk := ReadDec(s)
		m, mOk := ReadHex(s)
		b, bOk := ReadBytes(s)
		w, plain := Words(s), Plain(s)
		n2, nOk2 := ReadDec(s)
		m2, mOk2 := ReadHex(s)
		b2, bOk2 := ReadBytes(s)
		if n != n2 || nOk != nOk2 || m != m2 || mOk != mOk2 || bOk != bOk2 || !bytes.Equal(b, b2) || !slices.Equal(w, Words(s)) || plain != Plain(s) {
			t.Errorf("%q is answered in two ways", s)
		}
	}
}

// FuzzTexts holds P1 and what the readers promise against whatever text.
func FuzzTexts(f *testing.F) {
	for _, s := range []string{"", "0", "18446744073709551615", "ffffffffffffffff", "0aff", " a  b", "\xff\xfe", "é"} {
		f.Add(s)
	}
	f.Fuzz(func(t *testing.T, s string) {
		if n, ok := ReadDec(s); ok && Dec(n) != s || !ok && n != 0 {
			t.Errorf("ReadDec(%q): %d, %v", s, n, ok)
		}
		if n, ok := ReadHex(s); ok && Hex(n) != s || !ok && n != 0 {
			t.Errorf("ReadHex(%q): %d, %v", s, n, ok)
		}
		if b, ok := ReadBytes(s); ok && Bytes(b) != s || !ok && len(b) != 0 {
			t.Errorf("ReadBytes(%q): %v, %v", s, b, ok)
		}
		if b, ok := ReadBytes(Bytes([]byte(s))); !ok || string(b) != s {
			t.Errorf("%q is not read back: %v, %v", s, b, ok)
		}
		words := Words(s)
		if slices.Contains(words, "") || strings.Join(words, "") != strings.ReplaceAll(s, " ", "") {
			t.Errorf("Words(%q): %q", s, words)
		}
		if Plain(s) && !slices.Equal(words, []string{s}) {
			t.Errorf("%q is plain, and not one word", s)
		}
	})
}
