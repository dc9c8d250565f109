package fcs

import (
	"bytes"
	"encoding/binary"
	"hash/crc32"
	"math/rand"
	"slices"
	"testing"
)

var bothWidths = []bool{false, true}

// widthOf is how many bits a register has.
func widthOf(wide bool) int {
	if wide {
		return 32
	}
	return 16
}

// behind takes a register through the bytes by the chapter's words, bit by bit and with no table.
func behind(reg uint32, b []byte, wide bool) uint32 {
	turn := uint32(0x8408)
	if wide {
		turn = 0xedb88320
	} else {
		reg %= 1 << 16
	}
	for _, x := range b {
		reg ^= uint32(x)
		for range 8 {
			fell := reg % 2
			reg = reg/2 ^ fell*turn
		}
	}
	return reg
}

// sealedByWords is what the chapter calls sealed.
func sealedByWords(b []byte, wide bool) []byte {
	s := bytes.Clone(b)
	if wide {
		return binary.LittleEndian.AppendUint32(s, ^behind(0xffffffff, b, true))
	}
	return binary.LittleEndian.AppendUint16(s, ^uint16(behind(0xffff, b, false)))
}

// someLists holds no bytes, each byte alone, frames of LCP, and lists of many lengths.
func someLists() [][]byte {
	l := [][]byte{
		nil, {}, {0, 0}, {0, 0, 0, 0}, {0xff, 0xff}, {0xff, 0xff, 0xff, 0xff},
		[]byte("123456789"),
		[]byte("\xff\x03\xc0\x21\x01\x01\x00\x04"),
		[]byte("\xc0\x21\x01\x02\x00\x0a\x05\x06\x12\x34\x56\x78"),
		bytes.Repeat([]byte{0x7e}, 40), bytes.Repeat([]byte{0}, 40), bytes.Repeat([]byte{0xff}, 40),
	}
	for i := range 256 {
		l = append(l, []byte{byte(i)})
	}
	r := rand.New(rand.NewSource(4))
	for n := range 70 {
		l = append(l, randomBytes(r, n))
	}
	return append(l, randomBytes(r, 1500), randomBytes(r, 70000))
}

func randomBytes(r *rand.Rand, n int) []byte {
	b := make([]byte, n)
	r.Read(b)
	return b
}

func TestExamples(t *testing.T) { // P4.1
	for _, x := range []struct {
		text string
		wide bool
		want uint32
	}{
		{"123456789", false, 0x906e}, {"123456789", true, 0xcbf43926},
		{"", false, 0}, {"", true, 0},
		{"A", false, 0xa3f5}, {"A", true, 0xd3d99e8b},
		{"\x00", false, 0xf078}, {"\x00", true, 0xd202ef8d},
		{"\xff", false, 0xff00}, {"\xff", true, 0xff000000},
		{"abc", true, 0x352441c2},
		{"The quick brown fox jumps over the lazy dog", true, 0x414fa339},
	} {
		if got := Of([]byte(x.text), x.wide); got != x.want {
			t.Errorf("Of(%q, %v): %x", x.text, x.wide, got)
		}
	}
}

func TestSize(t *testing.T) { // P4.1
	if Size(false) != 2 || Size(true) != 4 {
		t.Error(Size(false), Size(true))
	}
}

func TestOf(t *testing.T) { // P4.1
	for _, b := range someLists() {
		if got, want := Of(b, false), behind(0xffff, b, false)^0xffff; got != want {
			t.Errorf("of %d bytes: %x and not %x", len(b), got, want)
		}
		if got, want := Of(b, true), crc32.ChecksumIEEE(b); got != want {
			t.Errorf("of %d bytes, wide: %x and not %x", len(b), got, want)
		}
	}
}

func TestMoreOfEachByte(t *testing.T) { // P4.1
	regs := []uint32{0, 1, 0x80, 0xff, 0x100, 0x8408, 0x8000, 0xf0b8, 0xffff, 0xedb88320, 0xdebb20e3, 0x80000000, 0x12345678, 0xfffffffe, 0xffffffff}
	for _, wide := range bothWidths {
		for _, reg := range regs {
			for i := range 256 {
				b := []byte{byte(i)}
				if got, want := More(reg, b, wide), behind(reg, b, wide); got != want {
					t.Errorf("More(%x, %v, %v): %x and not %x", reg, b, wide, got, want)
				}
			}
		}
	}
}

func TestMoreOfNoBytes(t *testing.T) { // P4.1
	for _, x := range []struct {
		reg          uint32
		narrow, wide uint32
	}{
		{0, 0, 0}, {1, 1, 1}, {0xffff, 0xffff, 0xffff}, {0x10000, 0, 0x10000}, {0x1ffff, 0xffff, 0x1ffff},
		{0xf0b8, 0xf0b8, 0xf0b8}, {0x12345678, 0x5678, 0x12345678}, {0xffff0000, 0, 0xffff0000}, {0xffffffff, 0xffff, 0xffffffff},
	} {
		for _, b := range [][]byte{nil, {}} {
			if n, w := More(x.reg, b, false), More(x.reg, b, true); n != x.narrow || w != x.wide {
				t.Errorf("More of %x and no bytes: %x, wide %x", x.reg, n, w)
			}
		}
	}
}

func TestLowest16BitsCount(t *testing.T) { // P4.1
	for _, above := range []uint32{0x10000, 0x20000, 0xff0000, 0x80000000, 0xffff0000} {
		for _, b := range someLists() {
			got := More(above|0x1d0f, b, false)
			if want := More(0x1d0f, b, false); got != want || got > 0xffff {
				t.Errorf("above %x, of %d bytes: %x and not %x", above, len(b), got, want)
			}
			if len(b) <= 16 && More(above|0x1d0f, b, true) == More(0x1d0f, b, true) {
				t.Errorf("wide, above %x, of %v: the highest bits don't count", above, b)
			}
		}
	}
}

func TestMoreByParts(t *testing.T) { // P4.1
	for _, b := range someLists() {
		if len(b) > 300 {
			continue
		}
		for _, wide := range bothWidths {
			whole := More(0xffffffff, b, wide)
			for at := range len(b) + 1 {
				if got := More(More(0xffffffff, b[:at], wide), b[at:], wide); got != whole {
					t.Errorf("cut at %d: %x and not %x", at, got, whole)
				}
			}
			if of := Of(b, wide); whole^of != More(0xffffffff, nil, wide) {
				t.Errorf("the check sequence of %v is %x, and the register %x", b, of, whole)
			}
		}
	}
}

func TestTable(t *testing.T) { // P4.1
	for _, wide := range bothWidths {
		for i, word := range table(wide) {
			if want := behind(uint32(i), []byte{0}, wide); word != want {
				t.Errorf("wide %v, word %d: %x and not %x", wide, i, word, want)
			}
		}
	}
	if words := table(true); words != [256]uint32(*crc32.IEEETable) {
		t.Error("the wide table isn't the known one")
	}
}

func TestSeal(t *testing.T) { // P4.2
	for _, x := range []struct {
		text         string
		narrow, wide string
	}{
		{"", "\x00\x00", "\x00\x00\x00\x00"},
		{"A", "A\xf5\xa3", "A\x8b\x9e\xd9\xd3"},
		{"123456789", "123456789\x6e\x90", "123456789\x26\x39\xf4\xcb"},
		{"\xff\x03\xc0\x21\x01\x01\x00\x04", "\xff\x03\xc0\x21\x01\x01\x00\x04\xd1\xb5", "\xff\x03\xc0\x21\x01\x01\x00\x04\x59\x12\xdb\x21"},
	} {
		if n, w := Seal([]byte(x.text), false), Seal([]byte(x.text), true); string(n) != x.narrow || string(w) != x.wide {
			t.Errorf("Seal(%q): %q, wide %q", x.text, n, w)
		}
	}
	for _, b := range someLists() {
		for _, wide := range bothWidths {
			if got := Seal(b, wide); !bytes.Equal(got, sealedByWords(b, wide)) || len(got) != len(b)+Size(wide) {
				t.Errorf("Seal of %d bytes, wide %v: %x", len(b), wide, got)
			}
		}
	}
}

func TestRegisterBehindGoodOnes(t *testing.T) { // P4.2
	for _, b := range someLists() {
		if reg := More(0xffff, Seal(b, false), false); reg != 0xf0b8 {
			t.Errorf("behind %d bytes, sealed: %x", len(b), reg)
		}
		if reg := More(0xffffffff, Seal(b, true), true); reg != 0xdebb20e3 {
			t.Errorf("behind %d bytes, sealed wide: %x", len(b), reg)
		}
	}
}

func TestGoodIsByTheRegister(t *testing.T) { // P4.2
	for i := range 1 << 16 {
		b := binary.LittleEndian.AppendUint16(nil, uint16(i))
		if got, want := Good(b, false), behind(0xffff, b, false) == 0xf0b8; got != want {
			t.Errorf("Good(%v, false): %v", b, got)
		}
		b = append([]byte("abc"), b...)
		if got, want := Good(b, false), behind(0xffff, b, false) == 0xf0b8; got != want {
			t.Errorf("Good(%v, false): %v", b, got)
		}
		b = append(Seal([]byte("ab"), true)[:4], b[3:]...)
		if got, want := Good(b, true), behind(0xffffffff, b, true) == 0xdebb20e3; got != want {
			t.Errorf("Good(%v, true): %v", b, got)
		}
	}
}

// wrong fails unless b is told as not good, with nothing opened.
func wrong(t *testing.T, b []byte, wide bool) {
	t.Helper()
	if Good(b, wide) {
		t.Errorf("Good(%v, %v)", b, wide)
	}
	if got, ok := Open(b, wide); len(got) != 0 || ok {
		t.Errorf("Open(%v, %v): %v, %v", b, wide, got, ok)
	}
}

func TestOpen(t *testing.T) { // P4.2, P4.3
	for _, b := range someLists() {
		for _, wide := range bothWidths {
			sealed := sealedByWords(b, wide)
			if !Good(sealed, wide) {
				t.Errorf("%d bytes, sealed, wide %v, aren't good", len(b), wide)
			}
			if got, ok := Open(sealed, wide); !bytes.Equal(got, b) || !ok {
				t.Errorf("of %d bytes, sealed, wide %v, are opened %d, %v", len(b), wide, len(got), ok)
			}
			twice := Seal(Seal(b, wide), wide)
			if got, ok := Open(twice, wide); !bytes.Equal(got, sealed) || !ok {
				t.Errorf("%d bytes, sealed twice, wide %v, aren't opened once", len(b), wide)
			}
		}
	}
}

func TestTooShort(t *testing.T) { // P4.2
	for _, wide := range bothWidths {
		wrong(t, nil, wide)
		wrong(t, []byte{}, wide)
		for i := range 256 {
			wrong(t, []byte{byte(i)}, wide)
		}
	}
	for i := range 1 << 16 {
		wrong(t, binary.LittleEndian.AppendUint16(nil, uint16(i)), true)
	}
	r := rand.New(rand.NewSource(5))
	for range 1000 {
		wrong(t, randomBytes(r, 3), true)
	}
	wrong(t, []byte{0, 0, 0}, true)
	// What is behind the length isn't handed in: with it these would be good.
	wrong(t, []byte{0, 0}[:1], false)
	wrong(t, []byte{0, 0, 0, 0}[:3], true)
	wrong(t, Seal([]byte("abc"), false)[:4], false)
	wrong(t, Seal([]byte("abc"), true)[:6], true)
}

func TestCheckSequenceAlone(t *testing.T) { // P4.2
	for _, wide := range bothWidths {
		b := make([]byte, Size(wide))
		if got, ok := Open(b, wide); len(got) != 0 || !ok || !Good(b, wide) {
			t.Errorf("nothing, sealed, wide %v: %v, %v", wide, got, ok)
		}
		for i := range b {
			for x := 1; x < 256; x++ {
				c := bytes.Clone(b)
				c[i] = byte(x)
				wrong(t, c, wide)
			}
		}
	}
}

func TestNotGood(t *testing.T) { // P4.2
	for _, text := range []string{"a", "123456789", "\xff\x03\xc0\x21\x01\x01\x00\x04"} {
		for _, wide := range bothWidths {
			sealed := Seal([]byte(text), wide)
			at := len(text)
			wrong(t, []byte(text), wide)
			wrong(t, sealed, !wide)
			wrong(t, sealed[1:], wide)
			wrong(t, sealed[:len(sealed)-1], wide)
			wrong(t, append(bytes.Clone(sealed), 0), wide)
			wrong(t, append([]byte{7}, sealed...), wide)
			swapped := bytes.Clone(sealed)
			slices.Reverse(swapped[at:])
			wrong(t, swapped, wide)
			bare := bytes.Clone(sealed)
			for i := at; i < len(bare); i++ {
				bare[i] = ^bare[i]
			}
			wrong(t, bare, wide)
		}
	}
}

// turned answers b with the bits turned that pattern has, its lowest at the place at.
func turned(b []byte, at int, pattern uint64) []byte {
	b = bytes.Clone(b)
	for i := range 64 {
		if pattern>>i&1 == 1 {
			b[(at+i)/8] ^= 1 << ((at + i) % 8)
		}
	}
	return b
}

// patternsWithin holds ways to turn some of n bits side by side, the lowest among them: one bit, two, all of a length, and some of each length by chance.
func patternsWithin(n int, r *rand.Rand) []uint64 {
	l := []uint64{1}
	for size := 2; size <= n; size++ {
		ends := uint64(1) | 1<<(size-1)
		l = append(l, ends, 1<<size-1)
		for range 12 {
			l = append(l, ends|r.Uint64()&(1<<size-1))
		}
	}
	return l
}

func TestTurnedBits(t *testing.T) { // P4.3
	r := rand.New(rand.NewSource(6))
	for _, text := range []string{"", "a", "123456789", "\xff\x03\xc0\x21\x01\x01\x00\x04", "\x00\x00\x00", "\xff\xff\xff"} {
		for _, wide := range bothWidths {
			sealed := Seal([]byte(text), wide)
			for at := range 8 * len(sealed) {
				for _, p := range patternsWithin(min(widthOf(wide), 8*len(sealed)-at), r) {
					wrong(t, turned(sealed, at, p), wide)
				}
			}
		}
	}
}

func TestEveryPatternOf16Bits(t *testing.T) { // P4.3
	sealed := Seal([]byte{0xc0, 0x21}, false)
	for _, at := range []int{5, 16} {
		for p := 1; p < 1<<16; p++ {
			wrong(t, turned(sealed, at, uint64(p)), false)
		}
	}
}

// fresh is a list with room behind its length, filled, so that a write there is seen.
func fresh(b []byte) []byte {
	room := bytes.Repeat([]byte{0x55}, len(b)+16)
	copy(room, b)
	return room[:len(b)]
}

func TestHandedInStays(t *testing.T) { // P4.4
	for _, wide := range bothWidths {
		for _, b := range [][]byte{{}, {1}, {0, 0}, []byte("123456789"), Seal([]byte("123456789"), wide), Seal(nil, wide)} {
			given := fresh(b)
			More(0xffff, given, wide)
			Of(given, wide)
			Seal(given, wide)
			Good(given, wide)
			Open(given, wide)
			if want := fresh(b); !bytes.Equal(given[:cap(given)], want[:len(want)+16]) {
				t.Errorf("wide %v: %v has become %v", wide, want, given[:cap(given)])
			}
		}
	}
}

// overwrite fills a list and the room behind its length.
func overwrite(b []byte) {
	b = b[:cap(b)]
	for i := range b {
		b[i] = 99
	}
}

func TestAnswersAreNew(t *testing.T) { // P4.4
	open := func(b []byte, wide bool) []byte { got, _ := Open(b, wide); return got }
	for _, wide := range bothWidths {
		for _, text := range []string{"", "a", "123456789"} {
			for i, call := range []func([]byte, bool) []byte{Seal, open} {
				b := fresh(Seal([]byte(text), wide))
				kept := bytes.Clone(b[:cap(b)])
				first, second := call(b, wide), call(b, wide)
				want := bytes.Clone(first)
				overwrite(second)
				if !bytes.Equal(first, want) {
					t.Errorf("call %d of %q shares memory with another answer", i, text)
				}
				if !bytes.Equal(b[:cap(b)], kept) {
					t.Errorf("call %d of %q shares memory with what was handed in", i, text)
				}
				overwrite(b)
				if !bytes.Equal(first, want) {
					t.Errorf("call %d of %q hangs on what was handed in", i, text)
				}
			}
		}
	}
}

func TestNothingIsKept(t *testing.T) { // DOC.md's rules
	b := []byte("123456789")
	for range 3 {
		for _, wide := range bothWidths {
			if Of(b, false) != 0x906e || Of(b, true) != 0xcbf43926 || !Good(Seal(b, wide), wide) || Good(b, wide) {
				t.Error("a call answers unlike the one ahead")
			}
		}
	}
}

func FuzzFcs(f *testing.F) { // P1, P4.1 to P4.4
	f.Add(uint32(0xffff), []byte("123456789"), false)
	f.Add(uint32(0xffffffff), []byte("123456789"), true)
	f.Add(uint32(0x1ffff), []byte{0, 0}, false)
	f.Add(uint32(0), []byte{0, 0, 0}, true)
	f.Fuzz(func(t *testing.T, reg uint32, b []byte, wide bool) {
		kept := bytes.Clone(b)
		if got := More(reg, b, wide); got != behind(reg, b, wide) {
			t.Errorf("More(%x, %v, %v): %x", reg, b, wide, got)
		}
		got, ok := Open(b, wide)
		at := len(b) - Size(wide)
		if want := at >= 0 && bytes.Equal(b, sealedByWords(b[:max(at, 0)], wide)); ok != want || Good(b, wide) != want {
			t.Errorf("Open(%v, %v): %v, %v", b, wide, got, ok)
		}
		if ok && !bytes.Equal(got, b[:at]) || !ok && len(got) != 0 {
			t.Errorf("Open(%v, %v): %v, %v", b, wide, got, ok)
		}
		sealed := Seal(b, wide)
		if got, ok := Open(sealed, wide); !bytes.Equal(got, b) || !ok || !bytes.Equal(sealed, sealedByWords(b, wide)) {
			t.Errorf("Seal(%v, %v): %v", b, wide, sealed)
		}
		wrong(t, turned(sealed, int(reg)%(8*len(sealed)-15), uint64(reg)%(1<<16-1)+1), wide)
		if !bytes.Equal(b, kept) {
			t.Error("what was handed in has changed")
		}
	})
}
