package terms

import (
	"bytes"
	"slices"
	"strconv"
	"strings"

	"umpire/api"
)

// This file tells the chapter a second time, by none of the layers below: what the tests hold the calls against.

// rightByWords goes by the Type, and by Data as a text.
func rightByWords(o api.Option) bool {
	data := string(o.Data)
	switch o.Type {
	case 1:
		return len(data) == 2
	case 2:
		return len(data) == 4
	case 3:
		switch {
		case strings.HasPrefix(data, "\xc0\x23"):
			return data == "\xc0\x23"
		case strings.HasPrefix(data, "\xc2\x23"):
			return data == "\xc2\x23\x05"
		}
		return len(data) > 1
	case 4:
		return len(data) > 1
	case 5:
		return len(data) == 4 && data != "\x00\x00\x00\x00"
	}
	return (o.Type == 7 || o.Type == 8) && data == ""
}

func knownByWords(t int) bool {
	return slices.Contains([]int{1, 2, 3, 4, 5, 7, 8}, t)
}

// askedByWords tells what a right option of Type 3 asks for.
func askedByWords(o api.Option) int {
	switch string(o.Data) {
	case "\xc0\x23":
		return 0xc023
	case "\xc2\x23\x05":
		return 0xc223
	}
	return 1
}

func loginByWords(l []api.Option) int {
	at := slices.IndexFunc(l, func(o api.Option) bool { return o.Type == 3 && rightByWords(o) })
	if at < 0 {
		return 0
	}
	return askedByWords(l[at])
}

// aheadByWords asks whether an option of the Type of the one at i stands ahead of it.
func aheadByWords(l []api.Option, i int) bool {
	return slices.ContainsFunc(l[:i], func(o api.Option) bool { return o.Type == l[i].Type })
}

func listRightByWords(l []api.Option) bool {
	for i, o := range l {
		if !rightByWords(o) || aheadByWords(l, i) {
			return false
		}
	}
	return true
}

// numberByWords goes by the digits of base 256.
func numberByWords(b []byte) int {
	n := 0
	for _, c := range b {
		n = 256*n + int(c)
	}
	return n
}

func readByWords(l []api.Option) (api.Terms, bool) {
	if !listRightByWords(l) {
		return api.Terms{}, false
	}
	var t api.Terms
	for _, o := range l {
		switch o.Type {
		case 1:
			t.HasMru = true
			t.Mru = numberByWords(o.Data)
		case 2:
			t.HasAccm = true
			t.Accm = uint32(numberByWords(o.Data))
		case 3:
			t.Login = askedByWords(o)
		case 4:
			t.Quality = true
		case 5:
			t.HasMagic = true
			t.Magic = uint32(numberByWords(o.Data))
		case 7:
			t.Pfc = true
		case 8:
			t.Acfc = true
		}
	}
	return t, true
}

// putByWords tells ahead which terms no right list has.
func putByWords(t api.Terms) ([]api.Option, bool) {
	switch {
	case t.Mru < 0, t.Mru > 65535:
		return nil, false
	case t.Login != 0 && t.Login != 0xc023 && t.Login != 0xc223:
		return nil, false
	case t.HasMagic && t.Magic == 0:
		return nil, false
	case !t.HasMru && t.Mru != 0, !t.HasAccm && t.Accm != 0, !t.HasMagic && t.Magic != 0:
		return nil, false
	}
	var l []api.Option
	if t.HasMru {
		l = append(l, op(1, byte(t.Mru/256), byte(t.Mru%256)))
	}
	if t.HasAccm {
		l = append(l, op(2, fourBytes(t.Accm)...))
	}
	if t.Login == 0xc023 {
		l = append(l, op(3, 0xc0, 0x23))
	}
	if t.Login == 0xc223 {
		l = append(l, op(3, 0xc2, 0x23, 5))
	}
	if t.Quality {
		l = append(l, op(4, 0xc0, 0x25))
	}
	if t.HasMagic {
		l = append(l, op(5, fourBytes(t.Magic)...))
	}
	if t.Pfc {
		l = append(l, op(7))
	}
	if t.Acfc {
		l = append(l, op(8))
	}
	return l, true
}

func fourBytes(n uint32) []byte {
	return []byte{byte(n / (1 << 24)), byte(n / (1 << 16)), byte(n / (1 << 8)), byte(n)}
}

// changedByWords has what each known Type's options are changed to.
var changedByWords = map[int]api.Option{
	1: op(1, 5, 220),
	2: op(2, 0, 0, 0, 0),
	3: op(3, 0xc0, 0x23),
	4: op(4, 0xc0, 0x25),
	5: op(5, 0, 0, 0, 1),
	7: op(7),
	8: op(8),
}

// badByWords tells what is to be rejected first, and goes through the others then.
func badByWords(l []api.Option) ([]api.Option, []api.Option) {
	var rejected, others, changed []api.Option
	for i, o := range l {
		if !knownByWords(o.Type) || aheadByWords(l, i) {
			rejected = append(rejected, o)
		} else {
			others = append(others, o)
		}
	}
	for _, o := range others {
		if !rightByWords(o) {
			changed = append(changed, changedByWords[o.Type])
		}
	}
	return rejected, changed
}

// op is the option of a Type, of these Data.
func op(t int, data ...byte) api.Option {
	return api.Option{Type: t, Data: data}
}

// textOf tells options by a text that no unlike ones have.
func textOf(l []api.Option) string {
	var b strings.Builder
	for _, o := range l {
		b.WriteString(strconv.Itoa(o.Type) + ":" + strconv.Quote(string(o.Data)) + ";")
	}
	return b.String()
}

// same compares options one by one.
func same(a, b []api.Option) bool {
	return slices.EqualFunc(a, b, func(x, y api.Option) bool { return x.Type == y.Type && bytes.Equal(x.Data, y.Data) })
}
