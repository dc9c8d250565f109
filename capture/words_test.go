package capture

import (
	"bytes"
	"cmp"
	"encoding/binary"
	"hash/crc32"
	"slices"

	"umpire/api"
)

// This file tells the chapter a second time, by none of the layers below: what the tests hold Read and Write against.

const longest = 65535 // bytes of a body, and of a note

// mayProtoByWords goes by the chapter of how frames begin.
func mayProtoByWords(p int) bool {
	return p >= 1 && p <= 0xffff && p%2 == 1 && p/256%2 == 0 && p != 0xff
}

func mayByWords(x api.Item) bool {
	return (x.Dir == 1 || x.Dir == 2) && mayProtoByWords(x.Proto) && len(x.Data) < 65532
}

// itemByWords tells the item of a frame; false, if no protocol is told of it.
func itemByWords(dir int, b []byte) (api.Item, bool) {
	if len(b) > 0 && b[0] == 0xff {
		if len(b) < 2 || b[1] != 3 {
			return api.Item{}, false
		}
		b = b[2:]
	}
	for size := 1; size <= 2 && size <= len(b); size++ {
		proto := 0
		for _, c := range b[:size] {
			proto = proto*256 + int(c)
		}
		if mayProtoByWords(proto) {
			return api.Item{Dir: dir, Proto: proto, Data: b[size:]}, true
		}
		if proto%2 == 1 {
			break
		}
	}
	return api.Item{}, false
}

// frameOfByWords is an item's frame, with all that it may begin with.
func frameOfByWords(x api.Item) []byte {
	return append([]byte{0xff, 3, byte(x.Proto >> 8), byte(x.Proto)}, x.Data...)
}

// recordsByWords cuts a capture of pcap's format into its records' Data, and tells its link.
func recordsByWords(b []byte) (uint32, [][]byte, api.Spot) {
	var order binary.ByteOrder = binary.BigEndian
	switch {
	case len(b) < 4:
		return 0, nil, api.Spot{Err: api.ErrEnd}
	case bytes.HasPrefix(b, []byte{0xa1, 0xb2, 0xc3, 0xd4}), bytes.HasPrefix(b, []byte{0xa1, 0xb2, 0x3c, 0x4d}):
	case bytes.HasPrefix(b, []byte{0xd4, 0xc3, 0xb2, 0xa1}), bytes.HasPrefix(b, []byte{0x4d, 0x3c, 0xb2, 0xa1}):
		order = binary.LittleEndian
	default:
		return 0, nil, api.Spot{Err: api.ErrForm}
	}
	switch {
	case len(b) < 24:
		return 0, nil, api.Spot{Err: api.ErrEnd}
	case order.Uint16(b[4:]) != 2:
		return 0, nil, api.Spot{Err: api.ErrForm}
	}
	var l [][]byte
	for at := 24; at < len(b); {
		rest := b[at:]
		if len(rest) < 16 {
			return 0, nil, api.Spot{At: at, Err: api.ErrEnd}
		}
		size := int(order.Uint32(rest[8:]))
		switch {
		case size > 131072:
			return 0, nil, api.Spot{At: at, Err: api.ErrLong}
		case len(rest) < 16+size:
			return 0, nil, api.Spot{At: at, Err: api.ErrEnd}
		}
		l = append(l, rest[16:16+size])
		at += 16 + size
	}
	return order.Uint32(b[20:]), l, api.Spot{}
}

// readPcapByWords tells the items of a capture of pcap's format.
func readPcapByWords(b []byte, dir int) ([]api.Item, api.Spot) {
	link, records, s := recordsByWords(b)
	if s != (api.Spot{}) {
		return nil, s
	}
	if !slices.Contains([]uint32{9, 50, 204}, link) {
		return nil, api.Spot{At: 20, Err: api.ErrKind}
	}
	var l []api.Item
	for _, r := range records {
		of := dir
		if link == 204 {
			of = api.Out
			if len(r) > 0 {
				if r[0] == 0 {
					of = api.In
				}
				r = r[1:]
			}
		}
		if x, ok := itemByWords(of, r); ok {
			l = append(l, x)
		}
	}
	return l, api.Spot{}
}

// notesByWords cuts a dump into its notes.
func notesByWords(b []byte) ([]api.Note, api.Spot) {
	var l []api.Note
	for at := 0; at < len(b); {
		rest := b[at:]
		size := 0
		switch rest[0] {
		case 1, 2:
			size = 3
			if len(rest) >= 3 {
				size += int(binary.BigEndian.Uint16(rest[1:]))
			}
		case 3, 4:
			size = 1
		case 5, 7:
			size = 5
		case 6:
			size = 2
		default:
			return nil, api.Spot{At: at, Err: api.ErrKind}
		}
		if len(rest) < size {
			return nil, api.Spot{At: at, Err: api.ErrEnd}
		}
		n := api.Note{Kind: int(rest[0])}
		if n.Kind <= 2 {
			n.Data = rest[3:size]
		}
		l = append(l, n)
		at += size
	}
	return l, api.Spot{}
}

// sealByWords puts the check sequence behind b, that of 16 bits worked out bit by bit.
func sealByWords(b []byte, wide bool) []byte {
	s := bytes.Clone(b)
	if wide {
		return binary.LittleEndian.AppendUint32(s, crc32.ChecksumIEEE(b))
	}
	reg := uint16(0xffff)
	for _, c := range b {
		reg ^= uint16(c)
		for range 8 {
			reg = reg>>1 ^ reg&1*0x8408
		}
	}
	return binary.LittleEndian.AppendUint16(s, ^reg)
}

// isIn asks whether a byte is a character of the map.
func isIn(m uint32, c byte) bool {
	return c < 0x20 && m/(1<<c)%2 == 1
}

// stuffByWords replaces what the map tells apart, byte by byte.
func stuffByWords(b []byte, m uint32) []byte {
	var out []byte
	for _, c := range b {
		if c == 0x7d || c == 0x7e || isIn(m, c) {
			out = append(out, 0x7d, c^0x20)
		} else {
			out = append(out, c)
		}
	}
	return out
}

// putByWords is a body's frame, between two flags.
func putByWords(body []byte, m uint32, wide bool) []byte {
	return slices.Concat([]byte{0x7e}, stuffByWords(sealByWords(body, wide), m), []byte{0x7e})
}

// openByWords answers the body of a frame as it stands; false, if that isn't good.
func openByWords(b []byte, m uint32, wide bool) ([]byte, bool) {
	b = slices.DeleteFunc(bytes.Clone(b), func(c byte) bool { return isIn(m, c) })
	var out []byte
	for i := 0; i < len(b); i++ {
		c := b[i]
		if c == 0x7d {
			i++
			if i == len(b) {
				return nil, false
			}
			c = b[i] ^ 0x20
		}
		out = append(out, c)
	}
	at := len(out) - 2
	if wide {
		at -= 2
	}
	if at < 2 || at > longest {
		return nil, false
	}
	return out[:at], bytes.Equal(out, sealByWords(out[:at], wide))
}

// streamByWords is a direction's bytes up to an end, with the place of the note in which each one stands.
type streamByWords struct {
	bytes  []byte
	places []int
}

// streamsByWords gathers the streams of one direction.
func streamsByWords(notes []api.Note, kind, end int) []streamByWords {
	l := []streamByWords{{}}
	for i, n := range notes {
		last := &l[len(l)-1]
		switch n.Kind {
		case kind:
			for _, c := range n.Data {
				last.bytes = append(last.bytes, c)
				last.places = append(last.places, i)
			}
		case end:
			l = append(l, streamByWords{})
		}
	}
	return l
}

// placedItem is an item, and the place of the note in which its frame ends.
type placedItem struct {
	place int
	item  api.Item
}

// itemsOfStreamByWords goes from flag to flag of a stream that is there as a whole.
func itemsOfStreamByWords(s streamByWords, dir int, m uint32, wide bool) []placedItem {
	var l []placedItem
	ahead := bytes.IndexByte(s.bytes, 0x7e)
	for ahead >= 0 {
		size := bytes.IndexByte(s.bytes[ahead+1:], 0x7e)
		if size < 0 {
			break
		}
		next := ahead + 1 + size
		if body, ok := openByWords(s.bytes[ahead+1:next], m, wide); ok {
			if x, ok := itemByWords(dir, body); ok {
				l = append(l, placedItem{s.places[next], x})
			}
		}
		ahead = next
	}
	return l
}

// readDumpByWords tells the items of a dump: first those of each stream, then all by the notes in which they end.
func readDumpByWords(b []byte, c api.Conf) ([]api.Item, api.Spot) {
	notes, fault := notesByWords(b)
	if fault != (api.Spot{}) {
		return nil, fault
	}
	var placed []placedItem
	for _, s := range streamsByWords(notes, 1, 3) {
		placed = append(placed, itemsOfStreamByWords(s, api.Out, 0, c.Wide)...)
	}
	for _, s := range streamsByWords(notes, 2, 4) {
		placed = append(placed, itemsOfStreamByWords(s, api.In, c.Accm, c.Wide)...)
	}
	slices.SortStableFunc(placed, func(x, y placedItem) int { return cmp.Compare(x.place, y.place) })
	var l []api.Item
	for _, p := range placed {
		l = append(l, p.item)
	}
	return l, api.Spot{}
}

func readByWords(b []byte, format int, c api.Conf) ([]api.Item, api.Spot) {
	switch format {
	case 1:
		return readPcapByWords(b, c.Dir)
	case 2:
		return readDumpByWords(b, c)
	}
	return nil, api.Spot{Err: api.ErrKind}
}

// pcapByWords is a capture of pcap's format with records of that Data, in one order of bytes or the other.
func pcapByWords(order binary.AppendByteOrder, link uint32, records ...[]byte) []byte {
	b := order.AppendUint32(nil, 0xa1b2c3d4)
	b = order.AppendUint16(order.AppendUint16(b, 2), 4)
	for _, n := range []uint32{0, 0, 65535, link} {
		b = order.AppendUint32(b, n)
	}
	for i, r := range records {
		for _, n := range []uint32{uint32(i), 0, uint32(len(r)), uint32(len(r))} {
			b = order.AppendUint32(b, n)
		}
		b = append(b, r...)
	}
	return b
}

// noteByWords is a note of bytes that were sent, or that came.
func noteByWords(kind int, data []byte) []byte {
	return append([]byte{byte(kind), byte(len(data) >> 8), byte(len(data))}, data...)
}

// dumpByWords is a dump of items.
func dumpByWords(l []api.Item, c api.Conf) []byte {
	var b []byte
	for _, x := range l {
		kind, m := api.DmOut, uint32(0)
		if x.Dir == api.In {
			kind, m = api.DmIn, c.Accm
		}
		for piece := range slices.Chunk(putByWords(frameOfByWords(x), m, c.Wide), longest) {
			b = append(b, noteByWords(kind, piece)...)
		}
	}
	return b
}

func writeByWords(l []api.Item, format int, c api.Conf) ([]byte, api.Errno) {
	switch {
	case format != 1 && format != 2:
		return nil, api.ErrKind
	case slices.ContainsFunc(l, func(x api.Item) bool { return !mayByWords(x) }):
		return nil, api.ErrArg
	case format == 2:
		return dumpByWords(l, c), api.OK
	}
	var records [][]byte
	for _, x := range l {
		records = append(records, append([]byte{byte(x.Dir - 1)}, frameOfByWords(x)...))
	}
	return pcapByWords(binary.LittleEndian, 204, records...), api.OK
}
