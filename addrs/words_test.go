package addrs

import (
	"bytes"
	"slices"
	"strings"

	"umpire/api"
)

// This file tells the chapter a second time, by none of the layers below: what the tests hold the calls against.

// typesByWords has each protocol's known Types.
var typesByWords = map[int][]int{
	0x8021: {2, 3, 129, 130, 131, 132},
	0x8057: {1},
}

func knownByWords(proto, t int) bool {
	return slices.Contains(typesByWords[proto], t)
}

// rightByWords goes by Data as a text.
func rightByWords(proto int, o api.Option) bool {
	if !knownByWords(proto, o.Type) {
		return false
	}
	data := string(o.Data)
	switch o.Type {
	case 1:
		return len(data) == 8 && strings.Trim(data, "\x00") != ""
	case 2:
		return len(data) == 4 && strings.HasPrefix(data, "\x00\x2d") && (data[3] == 0 || data[3] == 1)
	}
	return len(data) == 4
}

// aheadByWords asks whether an option of the Type of the one at i stands ahead of it.
func aheadByWords(l []api.Option, i int) bool {
	return slices.ContainsFunc(l[:i], func(o api.Option) bool { return o.Type == l[i].Type })
}

func listRightByWords(proto int, l []api.Option) bool {
	for i, o := range l {
		if !rightByWords(proto, o) || aheadByWords(l, i) {
			return false
		}
	}
	return true
}

// readByWords takes byte by byte.
func readByWords(proto int, l []api.Option) (api.Addrs, bool) {
	if !listRightByWords(proto, l) {
		return api.Addrs{}, false
	}
	var a api.Addrs
	for _, o := range l {
		for i, c := range o.Data {
			switch o.Type {
			case 1:
				a.HasId = true
				a.Id[i] = c
			case 3:
				a.HasIp = true
				a.Ip[i] = c
			case 129, 130, 131, 132:
				a.HasDns[o.Type-129] = true
				a.Dns[o.Type-129][i] = c
			}
		}
		if o.Type == 2 {
			a.HasVj = true
			a.Slots = int(o.Data[2])
			a.VjId = o.Data[3] != 0
		}
	}
	return a, true
}

// putByWords tells ahead which addresses no right list has.
func putByWords(proto int, a api.Addrs) ([]api.Option, bool) {
	six, other := a, a
	six.HasId, six.Id = false, [8]byte{}
	other.HasIp, other.Ip, other.HasVj, other.Slots, other.VjId, other.HasDns, other.Dns = false, [4]byte{}, false, 0, false, [4]bool{}, [4][4]byte{}
	switch {
	case proto == 0x8021 && six == a && !wrongOfIpcp(a):
		return ipcpByWords(a), true
	case proto == 0x8057 && other == a && a.HasId && a.Id != [8]byte{}:
		return []api.Option{op(1, a.Id[:]...)}, true
	case proto == 0x8057 && a == api.Addrs{}:
		return nil, true
	}
	return nil, false
}

// wrongOfIpcp asks for a field without its Has, and for slots that there can't be.
func wrongOfIpcp(a api.Addrs) bool {
	for i, has := range a.HasDns {
		if !has && a.Dns[i] != [4]byte{} {
			return true
		}
	}
	return !a.HasIp && a.Ip != [4]byte{} || !a.HasVj && (a.Slots != 0 || a.VjId) || a.Slots < 0 || a.Slots > 255
}

func ipcpByWords(a api.Addrs) []api.Option {
	var l []api.Option
	if a.HasVj && a.VjId {
		l = append(l, op(2, 0, 0x2d, byte(a.Slots), 1))
	}
	if a.HasVj && !a.VjId {
		l = append(l, op(2, 0, 0x2d, byte(a.Slots), 0))
	}
	if a.HasIp {
		l = append(l, op(3, a.Ip[0], a.Ip[1], a.Ip[2], a.Ip[3]))
	}
	for t := 129; t <= 132; t++ {
		if a.HasDns[t-129] {
			dns := a.Dns[t-129]
			l = append(l, op(t, dns[0], dns[1], dns[2], dns[3]))
		}
	}
	return l
}

// changedByWords is what a known Type's options are changed to.
func changedByWords(t int) api.Option {
	switch t {
	case 1:
		return op(1, 0, 0, 0, 0, 0, 0, 0, 1)
	case 2:
		return op(2, 0, 0x2d, 15, 0)
	}
	return op(t, 10, 0, 0, 1)
}

// badByWords tells what is to be rejected first, and goes through the others then.
func badByWords(proto int, l []api.Option) ([]api.Option, []api.Option) {
	var rejected, others, changed []api.Option
	for i, o := range l {
		if !knownByWords(proto, o.Type) || aheadByWords(l, i) {
			rejected = append(rejected, o)
		} else {
			others = append(others, o)
		}
	}
	for _, o := range others {
		if !rightByWords(proto, o) {
			changed = append(changed, changedByWords(o.Type))
		}
	}
	return rejected, changed
}

// doneByWords takes out of a list what is to be rejected, and changes what is to be changed, each at its place.
func doneByWords(proto int, l, changed []api.Option) []api.Option {
	var out []api.Option
	for i, o := range l {
		switch {
		case !knownByWords(proto, o.Type) || aheadByWords(l, i):
		case rightByWords(proto, o):
			out = append(out, o)
		default:
			if len(changed) == 0 {
				return []api.Option{op(-1)}
			}
			out = append(out, changed[0])
			changed = changed[1:]
		}
	}
	return append(out, changed...)
}

// op is the option of a Type, of these Data.
func op(t int, data ...byte) api.Option {
	return api.Option{Type: t, Data: data}
}

// same compares options one by one.
func same(a, b []api.Option) bool {
	return slices.EqualFunc(a, b, func(x, y api.Option) bool { return x.Type == y.Type && bytes.Equal(x.Data, y.Data) })
}
