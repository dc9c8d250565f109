package chap

import (
	"bytes"
	"encoding/hex"
	"fmt"
	"math"
	"math/rand"
	"slices"
	"strings"
	"testing"

	"umpire/api"
)

// bytesOf are so many bytes, no two beside each other alike.
func bytesOf(n int) []byte {
	b := make([]byte, n)
	for i := range b {
		b[i] = byte(i*7 + n)
	}
	return b
}

func textOf(n int) string {
	return string(bytesOf(n))
}

func same(a, b api.Chaps) bool {
	return a.Name == b.Name && bytes.Equal(a.Value, b.Value)
}

// someValues are right ones, ones of no byte and ones that are long.
func someValues() [][]byte {
	values := [][]byte{nil, {}, {0}, {1}, {255}, {0, 0}, {1, 'a'}, {0x80, 0xff, 0}, []byte("value"), []byte("é€𝄞"), []byte("\xed\xa0\x80\xc3")}
	for _, n := range []int{2, 15, 16, 17, 127, 128, 129, 253, 254, 255, 256, 257, 511, 512, 513, 65535, 65536, 65537} {
		values = append(values, bytesOf(n), make([]byte, n), bytes.Repeat([]byte{255}, n))
	}
	return values
}

// someNames are short ones and long ones, of bytes that are no rune's, and of ones that would be data.
func someNames() []string {
	names := []string{"", "a", "bc", "ann", "\x00", "\x00\x00", "\x01", "\x01a", "\x7f", "\x80", "\xff", "\xff\xff\xff", "\xc3", "\xc3\xa9", "é€𝄞", "\xed\xa0\x80", "\xf4\x90\x80\x80", "\xef\xbf\xbd", "\r\n\t ", " a ", "\x03\x01\x02\x03ab"}
	for _, n := range []int{127, 128, 255, 256, 257, 65274, 65525, 65526, 65527, 65528, 65535, 65536, 65537, 131072} {
		names = append(names, textOf(n))
	}
	// Of runes of several bytes each: 65526 bytes, and more, though no more runes than that.
	return append(names, strings.Repeat("€", 21842), strings.Repeat("€", 21843), strings.Repeat("é", 32763), strings.Repeat("é", 32764), strings.Repeat("é", 65526))
}

// checkPut holds what is put against the chapter's words, and what is read of it against what was put.
func checkPut(t *testing.T, c api.Chaps) {
	t.Helper()
	want, wantErr := putByWords(c)
	b, e := Put(c)
	if !bytes.Equal(b, want) || e != wantErr {
		t.Fatalf("Put(%q): %v, %d and not %v, %d", c, b, e, want, wantErr)
	}
	if e != api.OK {
		return
	}
	if back, e := Read(b); !same(back, c) || e != api.OK {
		t.Fatalf("%q is read as %q, %d", c, back, e)
	}
}

// checkData holds what is read of data against the chapter's words, and what is put of it against the data.
func checkData(t *testing.T, b []byte) {
	t.Helper()
	want, wantErr := readByWords(b)
	c, e := Read(b)
	if !same(c, want) || e != wantErr {
		t.Fatalf("Read(%v): %q, %d and not %q, %d", b, c, e, want, wantErr)
	}
	if again, f := Put(c); e == api.OK && (!bytes.Equal(again, b) || f != api.OK) {
		t.Fatalf("%v is read as %q, which is put as %v, %d", b, c, again, f)
	}
}

// checkAnswer holds an answer against the chapter's words, and asks whether it is right, and whether others are.
func checkAnswer(t *testing.T, id int, secret string, value []byte) {
	t.Helper()
	want := answerByWords(id, secret, value)
	if d := Answer(id, secret, value); d != want {
		t.Fatalf("Answer(%d, %q, %v): %v and not %v", id, secret, value, d, want)
	}
	checkRight(t, id, secret, value, want[:])
	if !Right(id, secret, value, want[:]) {
		t.Fatalf("the answer to %d, %v by %q isn't right", id, value, secret)
	}
	for n := range want {
		checkRight(t, id, secret, value, want[:n])
	}
	checkRight(t, id, secret, value, append(want[:], 0))
	checkRight(t, id, secret, value, append([]byte{0}, want[:]...))
}

func checkRight(t *testing.T, id int, secret string, value, answer []byte) {
	t.Helper()
	if r, want := Right(id, secret, value, answer), rightByWords(id, secret, value, answer); r != want {
		t.Fatalf("Right(%d, %q, %v, %v): %v", id, secret, value, answer, r)
	}
}

func wantsRead(t *testing.T, b string, want api.Chaps, wantErr api.Errno) {
	t.Helper()
	if c, e := Read([]byte(b)); !same(c, want) || e != wantErr {
		t.Errorf("Read(%q): %q, %d and not %q, %d", b, c, e, want, wantErr)
	}
}

func TestExample(t *testing.T) { // P17.1
	c := api.Chaps{Value: []byte{1, 2, 3}, Name: "ab"}
	wantsRead(t, "\x03\x01\x02\x03ab", c, api.OK)
	if b, e := Put(c); string(b) != "\x03\x01\x02\x03ab" || e != api.OK {
		t.Error(b, e)
	}
}

func TestPut(t *testing.T) { // P17.1
	long, name := bytesOf(255), textOf(65526)
	for _, x := range []struct {
		c    api.Chaps
		want string
	}{
		{api.Chaps{Value: []byte{1}}, "\x01\x01"},
		{api.Chaps{Value: []byte{0}}, "\x01\x00"},
		{api.Chaps{Value: []byte{255}, Name: "a"}, "\x01\xffa"},
		{api.Chaps{Value: []byte{1, 2}, Name: "ann"}, "\x02\x01\x02ann"},
		{api.Chaps{Value: []byte{0, 0x80, 0xff}, Name: "\x00\x80\xff\xc3"}, "\x03\x00\x80\xff\x00\x80\xff\xc3"},
		{api.Chaps{Value: []byte("\xc3"), Name: "\xa9"}, "\x01\xc3\xa9"},
		{api.Chaps{Value: []byte{7}, Name: "é€"}, "\x01\x07\xc3\xa9\xe2\x82\xac"},
		{api.Chaps{Value: long}, "\xff" + string(long)},
		{api.Chaps{Value: long, Name: "n"}, "\xff" + string(long) + "n"},
		{api.Chaps{Value: []byte{9}, Name: name}, "\x01\x09" + name},
		{api.Chaps{Value: long, Name: name}, "\xff" + string(long) + name},
		{api.Chaps{Value: []byte{9}, Name: name[:65525]}, "\x01\x09" + name[:65525]},
	} {
		if b, e := Put(x.c); string(b) != x.want || e != api.OK {
			t.Errorf("Put(%q): %q, %d and not %q", x.c, b, e, x.want)
		}
	}
}

func TestValuesThatMayNotBe(t *testing.T) { // P17.1
	values := [][]byte{nil, {}}
	for _, n := range []int{256, 257, 258, 511, 512, 513, 65535, 65536, 65537, 1 << 20, 1<<24 + 1} {
		values = append(values, bytesOf(n))
	}
	for _, v := range values {
		// A Name that has too many is told behind the Value.
		for _, name := range []string{"", "a", textOf(65526), textOf(65527), textOf(1 << 17)} {
			if b, e := Put(api.Chaps{Value: v, Name: name}); len(b) != 0 || e != api.ErrArg {
				t.Errorf("Put of a Value of %d bytes, and a Name of %d: %d bytes, %d", len(v), len(name), len(b), e)
			}
		}
	}
}

func TestNamesThatAreLong(t *testing.T) { // P17.1
	for _, n := range []int{65527, 65528, 65535, 65536, 65537, 1 << 17, 1<<24 + 1} {
		name := textOf(n)
		for _, size := range []int{1, 2, 254, 255} {
			value := bytesOf(size)
			if b, e := Put(api.Chaps{Value: value, Name: name}); len(b) != 0 || e != api.ErrLong {
				t.Errorf("Put of a Value of %d bytes, and a Name of %d: %d bytes, %d", size, n, len(b), e)
			}
			data := slices.Concat([]byte{byte(size)}, value, []byte(name))
			if c, e := Read(data); !same(c, api.Chaps{}) || e != api.ErrLong {
				t.Errorf("Read of a Value of %d bytes, and a Name of %d: %d, %d bytes, %d", size, n, len(c.Value), len(c.Name), e)
			}
		}
	}
}

func TestRead(t *testing.T) { // P17.1
	long, name := bytesOf(255), textOf(65526)
	none := api.Chaps{}
	for _, x := range []struct {
		b    string
		want api.Chaps
		e    api.Errno
	}{
		{"", none, api.ErrEnd},
		{"\x00", none, api.ErrArg},
		{"\x00\x00", none, api.ErrArg},
		{"\x00\x01", none, api.ErrArg},
		{"\x00a", none, api.ErrArg},
		{"\x00" + name, none, api.ErrArg},
		{"\x00" + name + "ab", none, api.ErrArg},
		{"\x01", none, api.ErrEnd},
		{"\x02", none, api.ErrEnd},
		{"\xff", none, api.ErrEnd},
		{"\x02a", none, api.ErrEnd}, // one byte fewer than it tells
		{"\x03ab", none, api.ErrEnd},
		{"\xff" + string(long[:254]), none, api.ErrEnd},
		{"\xff\x01", none, api.ErrEnd}, // far fewer
		{"\x80abc", none, api.ErrEnd},
		{"\x01\x00", api.Chaps{Value: []byte{0}}, api.OK}, // just as many
		{"\x01\xff", api.Chaps{Value: []byte{255}}, api.OK},
		{"\x02ab", api.Chaps{Value: []byte("ab")}, api.OK},
		{"\xff" + string(long), api.Chaps{Value: long}, api.OK},
		{"\x01ab", api.Chaps{Value: []byte("a"), Name: "b"}, api.OK},
		{"\x01\x01\x01\x01", api.Chaps{Value: []byte{1}, Name: "\x01\x01"}, api.OK},
		{"\x02\x00\x80\x00\x80\xff", api.Chaps{Value: []byte{0, 0x80}, Name: "\x00\x80\xff"}, api.OK},
		{"\x01\xc3\xa9", api.Chaps{Value: []byte{0xc3}, Name: "\xa9"}, api.OK},
		{"\xff" + string(long) + "n", api.Chaps{Value: long, Name: "n"}, api.OK},
		{"\x01a" + name, api.Chaps{Value: []byte("a"), Name: name}, api.OK},
		{"\xff" + string(long) + name, api.Chaps{Value: long, Name: name}, api.OK},
		{"\x01a" + name + "b", none, api.ErrLong},
		{"\x02ab" + name, api.Chaps{Value: []byte("ab"), Name: name}, api.OK},
		{"\x02ab" + name + "c", none, api.ErrLong},
		{"\xff" + string(long) + name + "c", none, api.ErrLong},
	} {
		wantsRead(t, x.b, x.want, x.e)
	}
	if c, e := Read(nil); !same(c, none) || e != api.ErrEnd {
		t.Errorf("Read of nil: %q, %d", c, e)
	}
}

// TestBytesStand puts each byte by itself, and in the midst of others.
func TestBytesStand(t *testing.T) { // P17.1, P17.3
	for v := range 256 {
		for _, s := range []string{string([]byte{byte(v)}), string([]byte{'a', byte(v), 'b'}), strings.Repeat(string([]byte{byte(v)}), 255)} {
			checkPut(t, api.Chaps{Value: []byte(s)})
			checkPut(t, api.Chaps{Value: []byte(s), Name: s})
			checkPut(t, api.Chaps{Value: []byte{1}, Name: s})
		}
	}
}

// TestAllLengths puts and reads Values of all lengths up to some beyond the longest.
func TestAllLengths(t *testing.T) { // P17.1, P17.3
	for n := range 260 {
		for m := range 260 {
			checkPut(t, api.Chaps{Value: bytesOf(n), Name: textOf(m)})
		}
	}
}

func TestLongNames(t *testing.T) { // P17.1, P17.3
	for n := 65515; n <= 65540; n++ {
		for _, size := range []int{0, 1, 2, 3, 5, 9, 254, 255, 256} {
			checkPut(t, api.Chaps{Value: bytesOf(size), Name: textOf(n)})
			checkData(t, slices.Concat([]byte{byte(size)}, bytesOf(size), bytesOf(n)))
			checkData(t, slices.Concat([]byte{byte(size)}, bytesOf(n)))
		}
	}
}

func TestSomeChaps(t *testing.T) { // P17.1, P17.3
	for _, v := range someValues() {
		for _, name := range someNames() {
			checkPut(t, api.Chaps{Value: v, Name: name})
		}
	}
}

// TestAllFirstBytes reads data of each length of a Value, with as many bytes behind as it tells, and some fewer and more.
func TestAllFirstBytes(t *testing.T) { // P17.1
	for size := range 256 {
		for _, count := range []int{0, 1, size - 1, size, size + 1, size + 2, 255, 256, 257, 600} {
			if count >= 0 {
				checkData(t, append([]byte{byte(size)}, bytesOf(count)...))
			}
		}
	}
}

// TestCuts cuts data at each byte.
func TestCuts(t *testing.T) { // P17.1
	for _, size := range []int{1, 2, 3, 100, 255} {
		b, _ := putByWords(api.Chaps{Value: bytesOf(size), Name: "name"})
		for n := range b {
			want := api.Chaps{}
			e := api.ErrEnd
			if n > size {
				want, e = api.Chaps{Value: bytesOf(size), Name: "name"[:n-size-1]}, api.OK
			}
			wantsRead(t, string(b[:n]), want, e)
		}
	}
}

// listsOf calls back with each list of up to so many of some bytes.
func listsOf(values []byte, most int, call func([]byte)) {
	var grow func(b []byte)
	grow = func(b []byte) {
		call(b)
		if len(b) >= most {
			return
		}
		for _, v := range values {
			grow(append(slices.Clone(b), v))
		}
	}
	grow(nil)
}

// TestJustThosePutAreRead puts all that is short enough, and reads all data of as many bytes.
func TestJustThosePutAreRead(t *testing.T) { // P17.3
	values := []byte{0, 1, 2, 3, 4, 5, 255}
	const most = 6
	was := map[string]string{}
	listsOf(values, most, func(value []byte) {
		listsOf(values, most-1-len(value), func(name []byte) {
			b, e := Put(api.Chaps{Value: value, Name: string(name)})
			if e != api.OK || len(b) > most {
				return
			}
			told := fmt.Sprintf("%v %v", value, name)
			if other, ok := was[string(b)]; ok {
				t.Fatalf("%v and %v are both put as %v", told, other, b)
			}
			was[string(b)] = told
		})
	})
	read := 0
	listsOf(values, most, func(b []byte) {
		checkData(t, b)
		c, e := Read(b)
		told, ok := was[string(b)]
		if ok != (e == api.OK) {
			t.Fatalf("%v is read with %d, and was put: %v", b, e, ok)
		}
		if ok && told != fmt.Sprintf("%v %v", c.Value, []byte(c.Name)) {
			t.Fatalf("%v is read as %q, and was put of %v", b, c, told)
		}
		if ok {
			read++
		}
	})
	if read != len(was) || read == 0 {
		t.Errorf("%d lists were put, and %d are read", len(was), read)
	}
}

func TestAllShortLists(t *testing.T) { // P17.1, P17.3
	var all []byte
	for v := range 256 {
		all = append(all, byte(v))
	}
	listsOf(all, 2, func(b []byte) {
		checkData(t, b)
		checkData(t, append([]byte{1}, b...))
		checkData(t, append([]byte{2}, b...))
		checkData(t, append([]byte{3}, b...))
	})
}

// TestDigestsAsWritten holds answers against digests that another program told.
func TestDigestsAsWritten(t *testing.T) { // P17.2
	for _, x := range []struct {
		id     int
		secret string
		value  string
		want   string
	}{
		{'m', "essage ", "digest", "f96b697d7cb7938d525a2f31aaf161d0"}, // of RFC 1321's tests
		{'a', "", "", "0cc175b9c0f1b6a831c399e269772661"},
		{'a', "bc", "", "900150983cd24fb0d6963f7d28e17f72"},
		{'a', "", "bc", "900150983cd24fb0d6963f7d28e17f72"},
		{'a', "bcdefghijklmnopqrst", "uvwxyz", "c3fcd3d76192e4007dfb496cca67e13b"},
		{'1', "23456789012345678901234567890123456789", "01234567890123456789012345678901234567890", "57edf4a22be3c955ac49da2e2107b67a"},
	} {
		d := Answer(x.id, x.secret, []byte(x.value))
		if hex.EncodeToString(d[:]) != x.want {
			t.Errorf("Answer(%d, %q, %q): %x and not %s", x.id, x.secret, x.value, d, x.want)
		}
	}
}

var someIds = []int{0, 1, 2, 42, 127, 128, 254, 255, 256, 257, 298, 511, 512, 65535, 65536, 1 << 31, 1<<31 - 1, 1 << 32, 1<<40 + 7, math.MaxInt, -1, -2, -42, -128, -255, -256, -257, -511, -512, -65536, -1 << 31, -1<<31 - 1, math.MinInt}

func TestAnswer(t *testing.T) { // P17.2, P17.3
	for _, id := range someIds {
		for _, secret := range []string{"", "a", "secret", "\x00", "\x00\xff\x80\xc3", "é€", textOf(55), textOf(64), textOf(1000)} {
			for _, value := range [][]byte{nil, {}, {0}, {255}, {0x80, 0}, []byte("value"), bytesOf(16), bytesOf(64), bytesOf(255), bytesOf(256), bytesOf(1000)} {
				checkAnswer(t, id, secret, value)
			}
		}
	}
}

// TestIdsBeyond holds answers to Ids above 255, and below 0, against those of their lowest eight bits.
func TestIdsBeyond(t *testing.T) { // P17.2
	value := []byte("value")
	for low := range 256 {
		want := Answer(low, "secret", value)
		checkAnswer(t, low, "secret", value)
		for _, id := range []int{low + 256, low + 512, low + 65536, low + 1<<32, low + 1<<62, low - 256, low - 512, low - 65536, low - 1<<32, low - 1<<62} {
			if d := Answer(id, "secret", value); d != want || !Right(id, "secret", value, want[:]) {
				t.Errorf("Answer(%d): %v and not %v, that of %d", id, d, want, low)
			}
		}
	}
	for id, low := range map[int]int{-1: 255, -255: 1, -256: 0, 256: 0, 511: 255, math.MaxInt: 255, math.MinInt: 0} {
		if Answer(id, "", nil) != Answer(low, "", nil) {
			t.Errorf("the answer to %d isn't that to %d", id, low)
		}
	}
}

// TestEachIdHasAnother looks for two Ids of a byte that have one answer.
func TestEachIdHasAnother(t *testing.T) { // P17.2, P17.3
	seen := map[[16]byte]int{}
	for id := range 256 {
		d := Answer(id, "secret", []byte{1, 2, 3})
		if other, ok := seen[d]; ok {
			t.Errorf("%d and %d are answered alike", id, other)
		}
		seen[d] = id
	}
}

// TestCutAsunder cuts one text asunder at each byte: what stands ahead is the secret, and what stands behind the value.
func TestCutAsunder(t *testing.T) { // P17.2
	whole := textOf(130)
	want := Answer(9, whole, nil)
	for n := range len(whole) + 1 {
		value := []byte(whole[n:])
		if d := Answer(9, whole[:n], value); d != want || !Right(9, whole[:n], value, want[:]) {
			t.Errorf("cut at %d: %v and not %v", n, d, want)
		}
	}
	if d := Answer(9, "", []byte(whole)); d != want {
		t.Errorf("a value alone: %v and not %v", d, want)
	}
	// Turned round they aren't the same bytes.
	if Answer(9, "value", []byte("secret")) == Answer(9, "secret", []byte("value")) {
		t.Error("the value stands behind the secret")
	}
}

func TestAllLengthsOfSecretAndValue(t *testing.T) { // P17.2
	for n := range 130 {
		for m := range 130 {
			if d, want := Answer(n, textOf(n), bytesOf(m)), answerByWords(n, textOf(n), bytesOf(m)); d != want {
				t.Fatalf("of a secret of %d bytes, and a value of %d: %v and not %v", n, m, d, want)
			}
		}
	}
}

func TestRight(t *testing.T) { // P17.2, P17.3
	value := []byte("value")
	d := Answer(42, "secret", value)
	if !Right(42, "secret", value, d[:]) {
		t.Error("the answer isn't right")
	}
	zeros := make([]byte, 16)
	for _, answer := range [][]byte{nil, {}, {0}, d[:1], d[:15], d[1:], append(d[:], 0), append(d[:], d[15]), append(d[:], d[:]...), append([]byte{0}, d[:]...), append([]byte{d[0]}, d[:15]...), zeros, zeros[:15], value, []byte("secret"), []byte(hex.EncodeToString(d[:])), make([]byte, 1<<16), make([]byte, 256+16), append(d[:], make([]byte, 256)...)} {
		if Right(42, "secret", value, answer) {
			t.Errorf("%v is right, and not %v alone", answer, d)
		}
	}
	for _, x := range []struct {
		id     int
		secret string
		value  []byte
	}{{41, "secret", value}, {43, "secret", value}, {-42, "secret", value}, {42, "Secret", value}, {42, "secre", value}, {42, "secrets", value}, {42, "", value}, {42, "secret\x00", value}, {42, "secret", nil}, {42, "secret", value[:4]}, {42, "secret", []byte("values")}, {42, "secret", []byte("Value")}, {42, "secret", append([]byte{0}, value...)}, {0, "", nil}} {
		if Right(x.id, x.secret, x.value, d[:]) {
			t.Errorf("the answer to 42, %v by secret is right of %d, %v by %q", value, x.id, x.value, x.secret)
		}
	}
}

// TestTurnedBits turns each bit of the answer, by itself and with another.
func TestTurnedBits(t *testing.T) { // P17.2, P17.3
	for _, id := range []int{0, 42, 255, -1} {
		for _, secret := range []string{"", "secret"} {
			for _, value := range [][]byte{nil, {1, 2, 3}} {
				d := Answer(id, secret, value)
				for i := range 128 {
					turned := bytes.Clone(d[:])
					turned[i/8] ^= 1 << (i % 8)
					if Right(id, secret, value, turned) {
						t.Errorf("of %d, %q, %v: with bit %d turned it is right", id, secret, value, i)
					}
					for j := range i {
						turned[j/8] ^= 1 << (j % 8)
						if Right(id, secret, value, turned) {
							t.Errorf("of %d, %q, %v: with bits %d and %d turned it is right", id, secret, value, i, j)
						}
						turned[j/8] ^= 1 << (j % 8)
					}
					turned[i/8] ^= 1 << (i % 8)
					if !Right(id, secret, value, turned) {
						t.Errorf("of %d, %q, %v: with bit %d turned back it isn't right", id, secret, value, i)
					}
				}
			}
		}
	}
}

// TestEachByteOfTheAnswer puts every other byte in each place of the answer.
func TestEachByteOfTheAnswer(t *testing.T) { // P17.2, P17.3
	d := Answer(7, "secret", []byte{9})
	for i := range d {
		for v := range 256 {
			other := d
			other[i] = byte(v)
			if Right(7, "secret", []byte{9}, other[:]) != (other == d) {
				t.Errorf("with %d at %d", v, i)
			}
		}
	}
}

// dataByChance mostly has as many bytes as the Value is told to have.
func dataByChance(chance *rand.Rand) []byte {
	size := chance.Intn(1 << chance.Intn(9))
	count := size + chance.Intn(1<<chance.Intn(8))
	switch chance.Intn(8) {
	case 0:
		count = chance.Intn(size + 1)
	case 1:
		count = size
	case 2:
		count = size + 65520 + chance.Intn(15)
	}
	b := []byte{byte(size)}
	for range count {
		b = append(b, byte(chance.Intn(256)))
	}
	if chance.Intn(40) == 0 {
		return nil
	}
	return b
}

func TestByChance(t *testing.T) { // P17.1 to P17.3
	chance := rand.New(rand.NewSource(17))
	seen := map[api.Errno]int{}
	for range 5000 {
		b := dataByChance(chance)
		checkData(t, b)
		c, e := Read(b)
		seen[e]++
		checkPut(t, c)
		checkPut(t, api.Chaps{Value: bytesOf(chance.Intn(300)), Name: string(b)})
		secret := textOf(chance.Intn(1 << chance.Intn(8)))
		checkAnswer(t, chance.Int()-chance.Int(), secret, c.Value)
		checkRight(t, chance.Intn(256), secret, c.Value, b)
	}
	for _, e := range []api.Errno{api.OK, api.ErrArg, api.ErrEnd, api.ErrLong} {
		if seen[e] < 100 {
			t.Errorf("the error %d came up %d times", e, seen[e])
		}
	}
	if len(seen) != 4 {
		t.Errorf("errors that came up: %v", seen)
	}
}

// TestManyBytes reads and puts what is far longer than may be: it takes no longer for that.
func TestManyBytes(t *testing.T) { // P1
	many := bytes.Repeat([]byte{1}, 1<<24)
	long, none := string(many), make([]byte, 1<<24)
	for range 10000 {
		if c, e := Read(many); !same(c, api.Chaps{}) || e != api.ErrLong {
			t.Fatal(len(c.Value), e)
		}
		if c, e := Read(none); !same(c, api.Chaps{}) || e != api.ErrArg {
			t.Fatal(len(c.Value), e)
		}
		if b, e := Put(api.Chaps{Value: many, Name: long}); len(b) != 0 || e != api.ErrArg {
			t.Fatal(len(b), e)
		}
		if b, e := Put(api.Chaps{Value: many[:9], Name: long}); len(b) != 0 || e != api.ErrLong {
			t.Fatal(len(b), e)
		}
		if Right(1, "secret", []byte{1}, many) {
			t.Fatal("many bytes are right")
		}
	}
	if d, want := Answer(3, long, many), answerByWords(3, long, many); d != want {
		t.Error(d, want)
	}
}
